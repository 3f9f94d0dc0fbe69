/- The walk of MergeMerges. -/
import Derived.Test.YtgdggeacjfhkkaaNa
import Derived.Test.YtgdggeacjfhkkaaNr
import Derived.Test.YtgdggeacjfhkkaaOp
namespace Go.Proofs.Ytgdggeacjfhkkaa
open Go.RowKit
open Sk (Ent)

set_option maxHeartbeats 8000000 in
set_option maxRecDepth 100000 in
theorem merges_walk (ao : Option Addr) (m c : Nat) (ls : List LV) (w : World) (hs : RSrc listKind w ao m c ls) (hyc : ∀ l ∈ ls, l.c ≤ maxLen) (hnear : NearL ls) :
    Calls Try.prog 3 #[.slice ao m c] w fun e w' => e = .returned (.bool true) ∧ Below w.heap.size w w' := by
  obtain ⟨j0, hj0, hy0, hy1, hy2⟩ := info_parts3 infoL
  have HS := keep hs
  have HLEN := keep hs.len
  have HYC := keep hyc
  have NE := keep hnear
  have AW := keep (awake_any w)
  clear hs hyc hnear
  go_enter Try.func3, Try.ntmps3
  go_wp2_with fail
  refine AW.out.mono ?_
  rintro e w1 ⟨rfl, hb1⟩
  have B1 := keep hb1
  have S1 := keep (HS.out.below listKind_ok hb1)
  clear hb1 AW
  go_wp2
  go_loopw [4, 5] (fun n i wr => ∃ k : Nat, k ≤ m ∧ i = .int .i64 (k : Int) ∧ n = .int .i64 (bulk ls k : Int) ∧ Hid (wr = w1 ∧ bulk ls k ≤ 801)) (fun _ i _ => m - (intOf i).toNat)
  case atStart => exact ⟨0, Nat.zero_le _, rfl, by simp [bulk], rfl, by simp [bulk]⟩
  case round =>
    obtain ⟨k, hk, rfl, rfl, hI⟩ := hrel
    obtain rfl := hI.out.1
    have hbk := hI.out.2
    have hk4 : k ≤ 801 := by have := hI.out.2; unfold bulk at this; omega
    have hk5 : (k : Int) ≤ 801 := by omega
    by_cases hkn : k < m
    · obtain ⟨b, off, rfl, _, _⟩ := S1.out.form listKind_ok (by omega)
      obtain ⟨y, hy⟩ : ∃ y, ls[k]? = some y := ⟨ls[k]'(by rw [HLEN.out]; exact hkn), List.getElem?_eq_getElem _⟩
      have p0 := list_cell S1.out hy
      have BN := keep (bulk_next hy)
      obtain ⟨yp, yc, yes⟩ := y
      simp only at p0 BN
      obtain ⟨Y, hY⟩ : ∃ Y, yes.length = Y := ⟨_, rfl⟩
      rw [hY] at p0 BN
      obtain ⟨Z, hZ⟩ : ∃ Z, bulk ls k = Z := ⟨_, rfl⟩
      rw [hZ] at BN hbk ⊢
      clear hy hY hZ
      have ll : (k : Int) < (m : Int) := by omega
      have l0 : (0 : Int) ≤ (k : Int) := by omega
      by_cases h1 : 400 < Y
      · have e1 : (400 : Int) < (Y : Int) := by omega
        go_wp2
        go_ret
        exact ⟨rfl, B1.out⟩
      · by_cases h2 : 400 < Z
        · have e1 : ¬ (400 : Int) < (Y : Int) := by omega
          have e2 : (400 : Int) < (Z : Int) := by omega
          go_wp2
          go_ret
          exact ⟨rfl, B1.out⟩
        · have e1 : ¬ (400 : Int) < (Y : Int) := by omega
          have e2 : ¬ (400 : Int) < (Z : Int) := by omega
          have e3 : (Y : Int) ≤ 400 := by omega
          have e4 : (Z : Int) ≤ 400 := by omega
          go_wp2
          go_roundw
          case rel => exact ⟨k + 1, by omega, by go_num, by rw [BN.out]; go_num, by first | exact ⟨rfl, by rw [BN.out]; omega⟩ | exact ⟨trivial, by rw [BN.out]; omega⟩⟩
          case measure => simp [intOf]; omega
    · obtain rfl : k = m := by omega
      have TT : Hid (total ls + k ≤ 801) := by
        have h1 := hbk
        unfold bulk at h1
        rw [List.take_of_length_le (by rw [HLEN.out]; exact Nat.le_refl _)] at h1
        exact h1
      have M1 := keep (merge_any ao k c ls wr S1.out (by have := TT.out; omega) HYC.out (by have := TT.out; unfold total at this; omega) NE.out)
      obtain ⟨BK, hBK⟩ : ∃ BK, bulk ls k = BK := ⟨_, rfl⟩
      rw [hBK]
      clear hBK hbk
      go_wp2_with fail
      refine M1.out.mono ?_
      rintro e w2 ⟨v2, ys, rfl, hE, hV, hl, hb⟩
      obtain ⟨ma, mc, rfl, hys, hmc⟩ := hE.src
      have E2 := keep hE
      have V2 := keep hV
      have B2 := keep (B1.out.trans (hb.mono B1.out.size))
      have Y2 := keep hys
      have MC := keep hmc
      have S2 := keep (S1.out.below listKind_ok hb)
      obtain ⟨M, hM⟩ : ∃ M, ys.length = M := ⟨_, rfl⟩
      have HM := keep hM
      rw [hM] at Y2 hl ⊢
      have hM4 : M ≤ 801 := by have := TT.out; omega
      have NY : Hid (NearE ys) := fun y hy => by
        have h1 : y.e ∈ ys.map (·.e) := List.mem_map.2 ⟨y, hy, rfl⟩
        have h2 := List.mem_of_find?_eq_some ((hV.mem y.e).1 h1)
        rw [lents_flat] at h2
        obtain ⟨x, hx, hxe⟩ := List.mem_map.1 h2
        obtain ⟨t, ht, hxt⟩ := List.mem_flatten.1 hx
        obtain ⟨l, hl', rfl⟩ := List.mem_map.1 ht
        rw [← hxe]
        exact NE.out l hl' x hxt
      clear hE hV hb hys hmc hM M1
      have R1 := keep (rmerge_any ao k c ls w2 S2.out (by have := TT.out; omega) (by have := TT.out; omega) NE.out)
      go_wp2_with fail
      refine R1.out.mono ?_
      rintro e w3 ⟨za, zm, zc, zs, rfl, hz, hzm, hb⟩
      have B3 := keep (B2.out.trans (hb.mono B2.out.size))
      have EQ : Hid (ys.map (·.e) = zs.map (·.e)) := V2.out.uniq hzm
      have ZL : zs.length = M := by
        have h1 := congrArg List.length EQ.out
        rw [List.length_map, List.length_map, HM.out] at h1
        exact h1.symm
      obtain rfl : M = zm := by rw [← ZL]; exact hz.len
      have SA := keep (same_yes ma M mc ys za zc zs w3 (by omega) (Y2.out.below entKind_ok hb) hz EQ.out)
      clear hz hzm hb R1
      go_wp2_with fail
      refine SA.out.mono ?_
      rintro e w4 ⟨rfl, hb⟩
      have B4 := keep (B3.out.trans (hb.mono B3.out.size))
      clear hb SA
      go_wp2
      go_ret
      exact ⟨rfl, B4.out⟩
end Go.Proofs.Ytgdggeacjfhkkaa
