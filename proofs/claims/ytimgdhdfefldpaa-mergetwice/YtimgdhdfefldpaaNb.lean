/- The walk of MergeTwice. -/
import Derived.Test.YtimgdhdfefldpaaNc
import Derived.Test.YtimgdhdfefldpaaOp
namespace Go.Proofs.Ytimgdhdfefldpaa
open Go.RowKit
open Sk (Ent)

set_option maxHeartbeats 8000000 in
set_option maxRecDepth 100000 in
theorem twice_walk (ao : Option Addr) (m c : Nat) (ls : List LV) (w : World) (hs : RSrc listKind w ao m c ls) (hyc : ∀ l ∈ ls, l.c ≤ maxLen) (hnear : NearL ls) :
    Calls Try.prog 8 #[.slice ao m c] w fun e w' => e = .returned (.bool true) ∧ Below w.heap.size w w' := by
  obtain ⟨j0, hj0, hy0, hy1, hy2⟩ := info_parts3 infoL
  have HS := keep hs
  have HLEN := keep hs.len
  have HYC := keep hyc
  have NE := keep hnear
  have AW := keep (awake_any w)
  clear hs hyc hnear
  go_enter Try.func8, Try.ntmps8
  go_wp2_with fail
  refine AW.out.mono ?_
  rintro e w1 ⟨rfl, hb1⟩
  have B1 := keep hb1
  have S1 := keep (HS.out.below listKind_ok hb1)
  clear hb1 AW
  go_wp2
  go_loopw [4, 5] (fun n i wr => ∃ k : Nat, k ≤ m ∧ i = .int .i64 (k : Int) ∧ n = .int .i64 (bulk ls k : Int) ∧ Hid (wr = w1 ∧ bulk ls k ≤ 401)) (fun _ i _ => m - (intOf i).toNat)
  case atStart => exact ⟨0, Nat.zero_le _, rfl, by simp [bulk], rfl, by simp [bulk]⟩
  case round =>
    obtain ⟨k, hk, rfl, rfl, hI⟩ := hrel
    obtain rfl := hI.out.1
    have hbk := hI.out.2
    have hk4 : k ≤ 401 := by have := hI.out.2; unfold bulk at this; omega
    have hk5 : (k : Int) ≤ 401 := by omega
    by_cases hkn : k < m
    · obtain ⟨b, off, rfl, _, _⟩ := S1.out.form listKind_ok (by omega)
      obtain ⟨y, hy⟩ : ∃ y, ls[k]? = some y := ⟨ls[k]'(by rw [HLEN.out]; exact hkn), List.getElem?_eq_getElem _⟩
      have p0 := list_cell S1.out hy
      have BN := keep (bulk_next hy)
      obtain ⟨yp, yc, yes⟩ := y
      simp only at p0 BN
      obtain ⟨Y, hY⟩ : ∃ Y, yes.length = Y := ⟨_, rfl⟩
      rw [hY] at p0 BN
      obtain ⟨Z, hZ⟩ : ∃ Z, bulk ls k = Z := ⟨_, rfl⟩
      rw [hZ] at BN hbk ⊢
      clear hy hY hZ
      have ll : (k : Int) < (m : Int) := by omega
      have l0 : (0 : Int) ≤ (k : Int) := by omega
      by_cases h1 : 200 < Y
      · have e1 : (200 : Int) < (Y : Int) := by omega
        go_wp2
        go_ret
        exact ⟨rfl, B1.out⟩
      · by_cases h2 : 200 < Z
        · have e1 : ¬ (200 : Int) < (Y : Int) := by omega
          have e2 : (200 : Int) < (Z : Int) := by omega
          go_wp2
          go_ret
          exact ⟨rfl, B1.out⟩
        · have e1 : ¬ (200 : Int) < (Y : Int) := by omega
          have e2 : ¬ (200 : Int) < (Z : Int) := by omega
          have e3 : (Y : Int) ≤ 200 := by omega
          have e4 : (Z : Int) ≤ 200 := by omega
          go_wp2
          go_roundw
          case rel => exact ⟨k + 1, by omega, by go_num, by rw [BN.out]; go_num, by first | exact ⟨rfl, by rw [BN.out]; omega⟩ | exact ⟨trivial, by rw [BN.out]; omega⟩⟩
          case measure => simp [intOf]; omega
    · obtain rfl : k = m := by omega
      have TT : Hid (total ls + k ≤ 401) := by
        have h1 := hbk
        unfold bulk at h1
        rw [List.take_of_length_le (by rw [HLEN.out]; exact Nat.le_refl _)] at h1
        exact h1
      have M1 := keep (merge_any ao k c ls wr S1.out (by have := TT.out; omega) HYC.out (by have := TT.out; unfold total at this; omega) NE.out)
      obtain ⟨BK, hBK⟩ : ∃ BK, bulk ls k = BK := ⟨_, rfl⟩
      rw [hBK]
      clear hBK hbk
      go_wp2_with fail
      refine M1.out.mono ?_
      rintro e w2 ⟨v2, ys, rfl, hE, hV, hl, hb⟩
      obtain ⟨ma, mc, rfl, hys, hmc⟩ := hE.src
      have E2 := keep hE
      have V2 := keep hV
      have B2 := keep (B1.out.trans (hb.mono B1.out.size))
      have Y2 := keep hys
      have MC := keep hmc
      have S2 := keep (S1.out.below listKind_ok hb)
      obtain ⟨M, hM⟩ : ∃ M, ys.length = M := ⟨_, rfl⟩
      have HM := keep hM
      rw [hM] at Y2 hl ⊢
      have hM4 : M ≤ 401 := by have := TT.out; omega
      have NY : Hid (NearE ys) := fun y hy => by
        have h1 : y.e ∈ ys.map (·.e) := List.mem_map.2 ⟨y, hy, rfl⟩
        have h2 := List.mem_of_find?_eq_some ((hV.mem y.e).1 h1)
        rw [lents_flat] at h2
        obtain ⟨x, hx, hxe⟩ := List.mem_map.1 h2
        obtain ⟨t, ht, hxt⟩ := List.mem_flatten.1 hx
        obtain ⟨l, hl', rfl⟩ := List.mem_map.1 ht
        rw [← hxe]
        exact NE.out l hl' x hxt
      clear hE hV hb hys hmc hM M1
      -- merged with itself
      obtain ⟨W3, hW3⟩ : ∃ W, w2.alloc (.cells #[.slice ma M mc, .slice ma M mc] 24) = W := ⟨_, rfl⟩
      have b3 : Hid (Below w2.heap.size w2 W3) := by rw [← hW3]; exact (Below.refl _ _).alloc (Nat.le_refl _) _
      have HL : Hid (listKind.held w2 ⟨ma, mc, ys⟩) := by show RSrc entKind w2 ma ys.length mc ys; rw [HM.out]; exact Y2.out
      have R3 : Hid (RSrc listKind W3 (some ⟨w2.heap.size, 0, none⟩) 2 2 [⟨ma, mc, ys⟩, ⟨ma, mc, ys⟩]) := by
        have := RSrc.builtL (w := w2) (ls := [⟨ma, mc, ys⟩, ⟨ma, mc, ys⟩]) (fun l hl => by simp only [List.mem_cons, List.not_mem_nil, or_false] at hl; rcases hl with rfl | rfl <;> exact HL.out)
        rw [rv_list] at this
        simp only [List.map_cons, List.map_nil, HM.out] at this
        rw [← hW3]
        exact this
      have A3 := keep (again_any (some ⟨w2.heap.size, 0, none⟩) 2 2 [⟨ma, mc, ys⟩, ⟨ma, mc, ys⟩] ys M W3 R3.out (by omega) (fun l hl => by simp only [List.mem_cons, List.not_mem_nil, or_false] at hl; rcases hl with rfl | rfl <;> exact MC.out) (by have := HM.out; simp only [List.map_cons, List.map_nil, List.flatten_cons, List.flatten_nil, List.length_append, List.length_nil]; omega) (fun l hl => by simp only [List.mem_cons, List.not_mem_nil, or_false] at hl; rcases hl with rfl | rfl <;> exact NY.out) V2.out.up HM.out (fun e => by simp only [lents, List.map_cons, List.map_nil, List.flatten_cons, List.flatten_nil, List.append_nil]; exact Mg.find_twice _ _))
      go_wp2_with fail
      refine A3.out.mono ?_
      rintro e w4 ⟨za, zc, zs, rfl, hz, hze, hb⟩
      have B4 := keep (b3.out.trans (hb.mono b3.out.size))
      have SA := keep (same_yes za M zc zs ma mc ys w4 (by omega) hz (Y2.out.below entKind_ok B4.out) hze)
      clear hz hze hb A3 hW3
      go_wp2_with fail
      refine SA.out.mono ?_
      rintro e w5 ⟨rfl, hb⟩
      have B5 := keep (B4.out.trans (hb.mono B4.out.size))
      clear hb SA
      -- with nothing
      obtain ⟨W6, hW6⟩ : ∃ W, w5.alloc (.cells #[.slice none 0 0, .slice ma M mc] 24) = W := ⟨_, rfl⟩
      have b6 : Hid (Below w5.heap.size w5 W6) := by rw [← hW6]; exact (Below.refl _ _).alloc (Nat.le_refl _) _
      have R6 : Hid (RSrc listKind W6 (some ⟨w5.heap.size, 0, none⟩) 2 2 [⟨none, 0, []⟩, ⟨ma, mc, ys⟩]) := by
        have := RSrc.builtL (w := w5) (ls := [⟨none, 0, []⟩, ⟨ma, mc, ys⟩]) (fun l hl => by simp only [List.mem_cons, List.not_mem_nil, or_false] at hl; rcases hl with rfl | rfl; exact RSrc.empty (fun _ => rfl); exact listKind_ok.below HL.out B5.out)
        rw [rv_list] at this
        simp only [List.map_cons, List.map_nil, HM.out, List.length_nil] at this
        rw [← hW6]
        exact this
      have A6 := keep (again_any (some ⟨w5.heap.size, 0, none⟩) 2 2 [⟨none, 0, []⟩, ⟨ma, mc, ys⟩] ys M W6 R6.out (by omega) (fun l hl => by simp only [List.mem_cons, List.not_mem_nil, or_false] at hl; rcases hl with rfl | rfl; exact Nat.zero_le _; exact MC.out) (by have := HM.out; simp only [List.map_cons, List.map_nil, List.flatten_cons, List.flatten_nil, List.length_append, List.length_nil]; omega) (fun l hl => by simp only [List.mem_cons, List.not_mem_nil, or_false] at hl; rcases hl with rfl | rfl; exact (fun y hy => by cases hy); exact NY.out) V2.out.up HM.out (fun e => by simp only [lents, List.map_cons, List.map_nil, List.flatten_cons, List.flatten_nil, List.append_nil, List.nil_append]))
      go_wp2_with fail
      refine A6.out.mono ?_
      rintro e w7 ⟨qa, qc, qs, rfl, hz, hze, hb⟩
      have B7 := keep (B5.out.trans ((b6.out.trans (hb.mono b6.out.size)).mono B5.out.size))
      have SA := keep (same_yes qa M qc qs ma mc ys w7 (by omega) hz (Y2.out.below entKind_ok B7.out) hze)
      clear hz hze hb A6 hW6
      go_wp2_with fail
      refine SA.out.mono ?_
      rintro e w8 ⟨rfl, hb⟩
      have B8 := keep (B7.out.trans (hb.mono B7.out.size))
      clear hb SA
      -- with all lists again
      obtain ⟨W9, hW9⟩ : ∃ W, w8.alloc (.cells #[.slice ma M mc] 24) = W := ⟨_, rfl⟩
      have b9 : Hid (Below w8.heap.size w8 W9) := by rw [← hW9]; exact (Below.refl _ _).alloc (Nat.le_refl _) _
      have B9 := keep (B8.out.trans (b9.out.mono B8.out.size))
      have O9 : Hid (W9.ownsRow w8.heap.size 24 1 (.slice (some ⟨w8.heap.size, 0, none⟩) 1 1) 1 (rv listKind [⟨ma, mc, ys⟩])) := by
        have := own_built (w := w8) (B := w8.heap.size) (xs := [.slice ma M mc]) (t := 24) (n := 1) (Nat.le_refl _) (by decide) rfl
        rw [← hW9, rv_list]
        simp only [List.map_cons, List.map_nil, HM.out]
        exact this
      have S9 := keep (S2.out.below listKind_ok B9.out)
      have km : k ≤ 401 := by have := TT.out; omega
      go_wp2_with (at_builtin; go_loud (refine wpList_append_rows_if rfl _ _ 22 24 rfl w8.heap.size j0 _ 1 24 Try.underlying22 hj0 hy0 hy1 hy2 rfl (by decide) (.slice (some ⟨w8.heap.size, 0, none⟩) 1 1) 1 (rv listKind [⟨ma, mc, ys⟩]) rfl O9.out ao k c (rv listKind ls) rfl S9.out.nil (by rw [rv_length listKind_ok, S9.out.len]; rfl) S9.out.cells (rv_one listKind_ok ls) (by unfold maxLen; omega) (by omega) b9.out.size ?_); intro v10 w10 ho10 hg10; have HO10 := keep ho10; have HG10 := keep hg10; clear ho10 hg10)
      have b10 : Hid (Below w8.heap.size w8 w10) := b9.out.grown HG10.out b9.out.size (fun j hj => (O9.out.lt j hj).1)
      have B10 := keep (B8.out.trans (b10.out.mono B8.out.size))
      rw [← rv_append] at HO10
      obtain ⟨ra, rc, rfl, hr, _⟩ := RSrc.own listKind_ok HO10.out (fun l hl => by
        rcases List.mem_append.1 hl with hl | hl
        · rw [List.mem_singleton.1 hl]; exact listKind_ok.below HL.out B10.out
        · exact listKind_ok.below (S2.out.held l hl) B10.out)
      have A10 := keep (again_any ra (1 + k) rc ([⟨ma, mc, ys⟩] ++ ls) ys M w10 hr (by omega) (fun l hl => by
        rcases List.mem_append.1 hl with hl | hl
        · rw [List.mem_singleton.1 hl]; exact MC.out
        · exact HYC.out l hl) (by have h1 := HM.out; have h2 := TT.out; unfold total at h2; rw [List.map_append, List.flatten_append, List.length_append]; simp only [List.map_cons, List.map_nil, List.flatten_cons, List.flatten_nil, List.length_append, List.length_nil]; omega) (fun l hl => by
        rcases List.mem_append.1 hl with hl | hl
        · rw [List.mem_singleton.1 hl]; exact NY.out
        · exact NE.out l hl) V2.out.up HM.out (fun e => by
        have h1 := V2.out.find e
        have e1 : (lents ([⟨ma, mc, ys⟩] ++ ls)).flatten = ys.map (·.e) ++ (lents ls).flatten := by simp [lents]
        rw [e1, List.find?_append, ← h1]
        cases (ys.map (·.e)).find? (Mg.alike e) <;> rfl))
      clear hr hW9
      go_wp2_with fail
      refine A10.out.mono ?_
      rintro e w11 ⟨ta, tc, ts, rfl, hz, hze, hb⟩
      have B11 := keep (B10.out.trans (hb.mono B10.out.size))
      have SA := keep (same_yes ta M tc ts ma mc ys w11 (by omega) hz (Y2.out.below entKind_ok B11.out) hze)
      clear hz hze hb A10
      go_wp2_with fail
      refine SA.out.mono ?_
      rintro e w12 ⟨rfl, hb⟩
      have B12 := keep (B11.out.trans (hb.mono B11.out.size))
      clear hb SA
      go_wp2
      go_ret
      exact ⟨rfl, B2.out.trans (B12.out.mono B2.out.size)⟩
end Go.Proofs.Ytimgdhdfefldpaa
