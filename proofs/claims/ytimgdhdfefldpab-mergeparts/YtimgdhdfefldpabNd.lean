/- The walk of MergeParts. -/
import Derived.Test.YtimgdhdfefldpabNc
import Derived.Test.YtimgdhdfefldpabNl
import Derived.Test.YtimgdhdfefldpabOp
namespace Go.Proofs.Ytimgdhdfefldpab.Mg
open Go.Proofs.Ytimgdhdfefldpab
open Go.Proofs.Ytimgdhdfefldpab.Sk (Ent Goes Up)
/-- Where no two are alike, the order says nothing. -/
theorem find_only {L : List Ent} {e x : Ent} (h : ∀ y ∈ L, alike e y = true → y = x) (hx : x ∈ L) (ha : alike e x = true) : L.find? (alike e) = some x := by
  cases hf : L.find? (alike e) with
  | none => exact absurd ha (by rw [List.find?_eq_none] at hf; exact hf x hx)
  | some y =>
    obtain ⟨h1, h2, _⟩ := find_alike hf
    rw [h y h2 h1]
theorem find_mem {L l : List Ent} (hl : Up l) (h : ∀ x, x ∈ L ↔ x ∈ l) (e : Ent) : L.find? (alike e) = l.find? (alike e) := by
  cases hf : l.find? (alike e) with
  | some x =>
    obtain ⟨h1, h2, _⟩ := find_alike hf
    refine find_only (fun y hy hay => ?_) ((h x).2 h2) h1
    have := up_find hl ((h y).1 hy) hay
    rw [hf] at this
    cases this
    rfl
  | none =>
    rw [List.find?_eq_none] at hf ⊢
    exact fun x hx => hf x ((h x).1 hx)
theorem split_flat (l : List Ent) (most : Int) : (split l most).flatten = l := by
  unfold split
  rw [packs_flat, List.flatten_nil, List.nil_append, parts_flat]
end Go.Proofs.Ytimgdhdfefldpab.Mg
namespace Go.Proofs.Ytimgdhdfefldpab
open Go.RowKit
open Sk (Ent)

/-- How far the pieces have been turned round. -/
structure BackI (w : World) (os : List LV) (k : Nat) (v : Value) (wr : World) : Prop where
  below : Below w.heap.size w wr
  row : wr.ownsRow w.heap.size 22 1 v (os.length - k) (rv listKind (os.drop k).reverse)
set_option maxHeartbeats 8000000 in
set_option maxRecDepth 100000 in
theorem parts_walk (ao : Option Addr) (n c : Nat) (es : List EV) (most : Int) (w : World) (hs : RSrc entKind w ao n c es) (hc : c ≤ maxLen) (hnear : NearE es) (hbig : n ≤ 140737488355328) :
    Calls Try.prog 3 #[.slice ao n c, .int .i64 most] w fun e w' => e = .returned (.bool true) ∧ Below w.heap.size w w' := by
  obtain ⟨j0, hj0, hy0, hy1, hy2⟩ := info_parts3 infoL
  have HS := keep hs
  have HLEN := keep hs.len
  have HC := keep hc
  have NE := keep hnear
  have AW := keep (awake_any w)
  clear hs hnear hc
  go_enter Try.func3, Try.ntmps3
  go_wp2_with fail
  refine AW.out.mono ?_
  rintro e w1 ⟨rfl, hb1⟩
  have B1 := keep hb1
  have S1 := keep (HS.out.below entKind_ok hb1)
  have OR := keep (ordered_any ao n c es w1 S1.out hbig NE.out)
  clear hb1 AW
  go_wp2_with fail
  refine OR.out.mono ?_
  rintro e w2 ⟨r, rfl, hr, hb2⟩
  have B2 := keep (B1.out.trans (hb2.mono B1.out.size))
  have S2 := keep (S1.out.below entKind_ok hb2)
  clear OR hb2
  cases r with
  | false =>
    go_wp2
    go_ret
    exact ⟨rfl, B2.out⟩
  | true =>
    have UP := keep (hr rfl).1
    clear hr
    by_cases hn : 200 < n
    · have e1 : (200 : Int) < (n : Int) := by omega
      go_wp2
      go_ret
      exact ⟨rfl, B2.out⟩
    · have e1 : ¬ (200 : Int) < (n : Int) := by omega
      have e2 : (n : Int) ≤ 200 := by omega
      have SP := keep (split_any ao n c es most w2 S2.out (by omega) HC.out NE.out)
      go_wp2_with fail
      refine SP.out.mono ?_
      rintro e w3 ⟨v3, os, rfl, ho, hh, hval, hol, hb⟩
      have B3 := keep (B2.out.trans (hb.mono B2.out.size))
      have S3 := keep (S2.out.below entKind_ok hb)
      have LH : Hid (∀ y ∈ os, listKind.held w3 y ∧ y.c ≤ maxLen) := fun y hy => by
        obtain ⟨a', c', e', h1, h2⟩ := (hh y hy).src
        cases e'
        exact ⟨h1, h2⟩
      obtain ⟨oa, oc, rfl, hos, _⟩ := RSrc.own listKind_ok ho (fun y hy => (LH.out y hy).1)
      have OS := keep hos
      have VAL := keep hval
      have FL : Hid ((lents os).flatten = es.map (·.e)) := by show _ = _; rw [hval, Mg.split_flat]
      have TOT : Hid ((os.map (·.es)).flatten.length = n) := by
        have h1 := congrArg List.length FL.out
        rw [lents_flat, List.length_map, List.length_map] at h1
        exact h1.trans HLEN.out
      have NO : Hid (∀ l ∈ os, ∀ y ∈ l.es, y.e.key.length ≤ 140737488355328 ∧ y.e.val.length ≤ 140737488355328) := fun l hl y hy => by
        have h1 : y.e ∈ (lents os).flatten := List.mem_flatten.2 ⟨l.es.map (·.e), List.mem_map.2 ⟨l, hl, rfl⟩, List.mem_map.2 ⟨y, hy, rfl⟩⟩
        rw [FL.out] at h1
        obtain ⟨x, hx, hxe⟩ := List.mem_map.1 h1
        rw [← hxe]
        exact NE.out x hx
      obtain ⟨K, hK⟩ : ∃ K, os.length = K := ⟨_, rfl⟩
      have HK := keep hK
      rw [hK] at OS hol ⊢
      clear ho hh hval hb hos hK SP
      have kk : (K : Int) ≤ 200 := by omega
      go_wp2
      go_loopw [7, 8] (fun v i wr => ∃ k : Nat, k ≤ K ∧ i = .int .i64 ((k : Int) - 1) ∧ Hid (BackI w3 os k v wr)) (fun _ i _ => (intOf i + 1).toNat)
      case atStart => exact ⟨K, Nat.le_refl _, rfl, Below.refl _ _, by
        rw [HK.out, Nat.sub_self, List.drop_of_length_le (by rw [HK.out]; exact Nat.le_refl _)]
        exact World.ownsRow_nil _ _ _ _⟩
      case round =>
        obtain ⟨k, hk, rfl, hI⟩ := hrel
        have HB := keep hI.out.below
        rcases Nat.eq_zero_or_pos k with h0 | h0
        · subst h0
          have b4 := keep (hI.out.below)
          have RW := hI.out.row
          rw [Nat.sub_zero, List.drop_zero, HK.out] at RW
          obtain ⟨ra, rc, e7, hrs, _⟩ := RSrc.own listKind_ok RW (fun y hy => listKind_ok.below (LH.out y (List.mem_reverse.1 hy)).1 b4.out)
          have RS := keep hrs
          rw [e7]
          have A1 := keep (again_any oa K oc os es n wr (OS.out.below listKind_ok b4.out) (by omega) (fun y hy => (LH.out y hy).2) (by rw [TOT.out]; omega) NO.out UP.out HLEN.out (fun e => by rw [FL.out]))
          clear RW e7 hrs
          go_wp2_with fail
          refine A1.out.mono ?_
          rintro e w5 ⟨za, zc, zs, rfl, hz, hze, hb⟩
          have B5 := keep (b4.out.trans (hb.mono b4.out.size))
          have SA := keep (same_yes za n zc zs ao c es w5 (by omega) hz (S3.out.below entKind_ok B5.out) hze)
          have R5 := keep (RS.out.below listKind_ok hb)
          clear hz hze hb A1
          go_wp2_with fail
          refine SA.out.mono ?_
          rintro e w6 ⟨rfl, hb⟩
          have B6 := keep (B5.out.trans (hb.mono B5.out.size))
          have A2 := keep (again_any ra K rc os.reverse es n w6 (R5.out.below listKind_ok hb) (by omega) (fun y hy => (LH.out y (List.mem_reverse.1 hy)).2) (by
            have h1 : (os.reverse.map (·.es)).flatten.length = (os.map (·.es)).flatten.length := by
              rw [List.map_reverse, List.length_flatten, List.length_flatten, List.map_reverse, List.sum_reverse]
            rw [h1, TOT.out]; omega) (fun l hl => NO.out l (List.mem_reverse.1 hl)) UP.out HLEN.out (fun e => by
            refine Mg.find_mem UP.out (fun x => ?_) e
            rw [← FL.out]
            simp only [lents, List.map_reverse, List.mem_flatten, List.mem_reverse]))
          clear hb SA
          go_wp2_with fail
          refine A2.out.mono ?_
          rintro e w7 ⟨qa, qc, qs, rfl, hz, hze, hb⟩
          have B7 := keep (B6.out.trans (hb.mono B6.out.size))
          have SB := keep (same_yes qa n qc qs ao c es w7 (by omega) hz (S3.out.below entKind_ok B7.out) hze)
          clear hz hze hb A2
          go_wp2_with fail
          refine SB.out.mono ?_
          rintro e w8 ⟨rfl, hb⟩
          have B8 := keep (B7.out.trans (hb.mono B7.out.size))
          clear hb SB
          go_wp2
          go_ret
          exact ⟨rfl, B3.out.trans (B8.out.mono B3.out.size)⟩
        · obtain ⟨j, rfl⟩ : ∃ j, k = j + 1 := ⟨k - 1, by omega⟩
          have ei : ((j + 1 : Nat) : Int) - 1 = (j : Int) := by omega
          rw [ei]
          clear ei
          obtain ⟨b, off, rfl, _, _⟩ := OS.out.form listKind_ok (by omega)
          obtain ⟨y, hy⟩ : ∃ y, os[j]? = some y := ⟨os[j]'(by rw [HK.out]; omega), List.getElem?_eq_getElem _⟩
          have p0 := list_cell (OS.out.below listKind_ok HB.out) hy
          have RV : Hid ((os.drop j).reverse = (os.drop (j + 1)).reverse ++ [y]) := by
            obtain ⟨h1, h2⟩ := List.getElem?_eq_some_iff.1 hy
            show _ = _
            rw [List.drop_eq_getElem_cons h1, h2, List.reverse_cons]
          obtain ⟨yp, yc, yes⟩ := y
          simp only at p0
          obtain ⟨Y, hY⟩ : ∃ Y, yes.length = Y := ⟨_, rfl⟩
          rw [hY] at p0
          have HY := keep hY
          have rc : Hid (∀ j' u, (listKind.vals ⟨yp, yc, yes⟩)[j']? = some u → (wr.alloc (.cells #[.slice yp Y yc] 22)).cell? ((⟨wr.heap.size, 0, none⟩ : Addr).add j') = some u) := by
            have := rec_cells (k := listKind) wr 22 ⟨yp, yc, yes⟩
            simp only [listKind, hY] at this ⊢
            exact this
          have O3 := keep (hI.out.row.alloc (.cells #[.slice yp Y yc] 22))
          have B4 := keep (HB.out.alloc HB.out.size (.cells #[.slice yp Y yc] 22))
          have g0 : (0 : Int) ≤ (j : Int) := by omega
          have g1 : (j : Int) < (K : Int) := by omega
          have hln : os.length - (j + 1) ≤ 1000000 := by have := HK.out; omega
          clear hy hY
          go_wp2_with (at_builtin; go_loud (refine wpList_append_rec listKind_ok rfl _ _ 25 22 rfl w3.heap.size j0 _ 24 Try.underlying25 hj0 hy0 hy1 hy2 rfl u7 (os.length - (j + 1)) ((os.drop (j + 1)).reverse) rfl O3.out _ 1 (⟨yp, yc, yes⟩ : LV) rfl rc.out (by unfold maxLen; omega) (by omega) B4.out.size ?_); intro v5 w5 ho5 hg5; have HO5 := keep ho5; have HG5 := keep hg5; clear ho5 hg5)
          have FI : Hid (BackI w3 os j v5 w5) := by
            refine ⟨B4.out.grown HG5.out B4.out.size (fun j hj => (O3.out.lt j hj).1), ?_⟩
            have h1 := HO5.out
            have h2 := HK.out
            rw [← RV.out, show os.length - (j + 1) + 1 = os.length - j by omega] at h1
            exact h1
          go_roundw
          case rel => exact ⟨j, by omega, by go_num, FI.out⟩
          case measure => first | (simp [intOf]; done) | (simp [intOf]; omega)
end Go.Proofs.Ytimgdhdfefldpab
