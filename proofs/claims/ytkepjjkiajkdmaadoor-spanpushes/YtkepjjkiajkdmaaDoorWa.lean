/- The walk of SpanPushes. -/
import Derived.Test.YtkepjjkiajkdmaaDoorVw
import Derived.Test.YtkepjjkiajkdmaaDoorVm
import Derived.Test.YtkepjjkiajkdmaaDoorUf
import Derived.Test.YtkepjjkiajkdmaaDoorJoinUe
namespace Go.Proofs.YtkepjjkiajkdmaaDoor
open Go.RowKit

theorem own_srcS {w : World} {B n : Nat} {v : Value} {es : List (List UInt8)} (h : w.ownsRow B 9 1 v n (rv strKind es)) : ∃ ao c, v = .slice ao n c ∧ RSrc strKind w ao n c es := by
  obtain ⟨ao, c, e, hr, _⟩ := RSrc.own strKind_ok h (fun _ _ => trivial)
  exact ⟨ao, c, e, hr⟩
set_option maxHeartbeats 4000000 in
set_option maxRecDepth 100000 in
theorem spanPushes_walk (n : Int) (pp : Option Addr) (pm pc : Nat) (ps : List (List UInt8)) (leaf : List UInt8) (w : World) (hL : Ld w) (hs : RSrc strKind w pp pm pc ps) (hm : pm ≤ 4611686018427387904) :
    Calls Tryd.prog 3 #[.agg #[.int .i64 n, .slice pp pm pc], .string ⟨leaf.toArray⟩] w fun e w' => e = .returned (.bool true) ∧ Below w.heap.size w w' := by
  have HLd := keep hL
  have HS := keep hs
  obtain ⟨W1, hW1⟩ : ∃ Wn, w.alloc (.cells #[.int .i64 n, .slice pp pm pc] 24) = Wn := ⟨_, rfl⟩
  have b1 : Hid (Below w.heap.size w W1) := by rw [← hW1]; exact (Below.refl _ _).alloc (Nat.le_refl _) _
  have G1 : Hid (W1.heap[w.heap.size]? = some (.cells #[.int .i64 n, .slice pp pm pc] 24)) := by rw [← hW1]; exact heap_alloc_new w _
  have AW := keep (awake16_any W1 (HLd.out.below b1.out))
  have PU : Hid (∀ w', Below w.heap.size w w' → Calls Tryd.prog 9 #[.agg #[.int .i64 n, .slice pp pm pc], .string ⟨leaf.toArray⟩] w' (SpA w' (pN n ps leaf) (pL n ps leaf) (pE n ps leaf))) := fun w' hb => push16_any n pp pm pc ps leaf w' (HLd.out.below hb) (HS.out.below strKind_ok hb) hm
  have RPU : Hid (∀ w', Below w.heap.size w w' → Calls Tryd.prog 11 #[.agg #[.int .i64 n, .slice pp pm pc], .string ⟨leaf.toArray⟩] w' (SpA w' (pN n ps leaf) (pL n ps leaf) (pE n ps leaf))) := fun w' hb => rpush16_any n pp pm pc ps leaf w' (HS.out.below strKind_ok hb) hm
  have RO : Hid (∀ w', Below w.heap.size w w' → Calls Tryd.prog 12 #[.agg #[.int .i64 n, .slice pp pm pc]] w' fun e w'' => e = .returned (.tuple #[.string ⟨(rtS n ps).toArray⟩, .int .i64 (ckN n ps)]) ∧ Below w'.heap.size w' w'') := fun w' hb => root16_any n pp pm pc ps w' (HLd.out.below hb) (HS.out.below strKind_ok hb) hm
  have RRO : Hid (∀ w', Below w.heap.size w w' → Calls Tryd.prog 13 #[.agg #[.int .i64 n, .slice pp pm pc]] w' fun e w'' => e = .returned (.tuple #[.string ⟨(rtS n ps).toArray⟩, .int .i64 (ckN n ps)]) ∧ Below w'.heap.size w' w'') := fun w' hb => rroot16_any n pp pm pc ps w' (HS.out.below strKind_ok hb) hm
  have CK0 : Hid (∀ w', Below w.heap.size w w' → Calls Tryd.prog 16 #[.agg #[.int .i64 n, .slice pp pm pc]] w' fun e w'' => e = .returned (.int .i64 (ckN n ps)) ∧ Below w'.heap.size w' w'') := fun w' hb => check16_any n pp pm pc ps w' (HS.out.below strKind_ok hb) hm
  have RCK0 : Hid (∀ w', Below w.heap.size w w' → Calls Tryd.prog 17 #[.agg #[.int .i64 n, .slice pp pm pc]] w' fun e w'' => e = .returned (.int .i64 (ckN n ps)) ∧ Below w'.heap.size w' w'') := fun w' hb => rcheck16_any n pp pm pc ps w' (HS.out.below strKind_ok hb) hm
  have PLL := keep (pL_len n ps leaf)
  obtain ⟨Z, hZ⟩ : ∃ Z, pN n ps leaf = Z := ⟨_, rfl⟩
  obtain ⟨P, hP⟩ : ∃ P, pL n ps leaf = P := ⟨_, rfl⟩
  obtain ⟨E, hE⟩ : ∃ E, pE n ps leaf = E := ⟨_, rfl⟩
  obtain ⟨R, hR⟩ : ∃ R, rtS n ps = R := ⟨_, rfl⟩
  obtain ⟨C, hC⟩ : ∃ C, ckN n ps = C := ⟨_, rfl⟩
  rw [hZ, hP, hE] at PU RPU
  rw [hP] at PLL
  rw [hR, hC] at RO RRO
  rw [hC] at CK0 RCK0
  clear hL hs hZ hP hE hR hC
  go_enter Tryd.func3, Tryd.ntmps3
  go_wp2_with fail
  refine AW.out.mono ?_
  rintro e w1 ⟨rfl, hb1⟩
  have B1 := keep (b1.out.trans (hb1.mono b1.out.size))
  have C1 := keep hb1
  have k0 : w1.cell? ⟨w.heap.size, 0, none⟩ = some (.int .i64 n) := below_cell hb1 (cell_of_row _ _ _ _ _ _ G1.out)
  have k1 : w1.cell? ⟨w.heap.size, 1, none⟩ = some (.slice pp pm pc) := below_cell hb1 (cell_of_row _ _ _ _ _ _ G1.out)
  clear hb1 AW hW1
  go_wp2_with fail
  refine (mine_any n pp pm pc w1).mono ?_
  rintro e w2 ⟨rfl, hb2⟩
  have b2 := keep hb2
  have B2 := keep (B1.out.trans (hb2.mono B1.out.size))
  clear hb2
  go_wp2_with fail
  refine (PU.out w2 B2.out).mono ?_
  rintro e w3 ⟨v3, rfl, ho3, hb3⟩
  obtain ⟨a3, c3, rfl, hr3⟩ := own_srcS ho3
  have R3 := keep hr3
  obtain ⟨L, hL⟩ : ∃ L, P.length = L := ⟨_, rfl⟩
  have HL := keep hL
  rw [hL] at R3 PLL ⊢
  have b3 := keep (b2.out.trans (hb3.mono b2.out.size))
  clear ho3 hr3 hb3 PU hL
  obtain ⟨W4, hW4⟩ : ∃ Wn, w3.alloc (.cells #[.int .i64 Z, .slice a3 L c3] 26) = Wn := ⟨_, rfl⟩
  have G4 : Hid (W4.heap[w3.heap.size]? = some (.cells #[.int .i64 Z, .slice a3 L c3] 26)) := by rw [← hW4]; exact heap_alloc_new w3 _
  have b34 : Hid (Below w3.heap.size w3 W4) := by rw [← hW4]; exact (Below.refl _ _).alloc (Nat.le_refl _) _
  have b4 := keep (b3.out.trans (b34.out.mono b3.out.size))
  have B4 := keep (B1.out.trans (b4.out.mono B1.out.size))
  have q0 := below_cell b4.out k0
  have q1 := below_cell b4.out k1
  clear k0 k1
  go_wp2_with fail
  refine (RPU.out W4 B4.out).mono ?_
  rintro e w5 ⟨v5, rfl, ho5, hb5⟩
  obtain ⟨a5, c5, rfl, hr5⟩ := own_srcS ho5
  have R5 := keep hr5
  rw [HL.out] at R5 ⊢
  have b45 := keep hb5
  clear ho5 hr5 hb5 RPU hW4
  obtain ⟨W6, hW6⟩ : ∃ Wn, w5.alloc (.cells #[.int .i64 Z, .slice a5 L c5] 24) = Wn := ⟨_, rfl⟩
  have G6 : Hid (W6.heap[w5.heap.size]? = some (.cells #[.int .i64 Z, .slice a5 L c5] 24)) := by rw [← hW6]; exact heap_alloc_new w5 _
  have b56 : Hid (Below w5.heap.size w5 W6) := by rw [← hW6]; exact (Below.refl _ _).alloc (Nat.le_refl _) _
  have b46 := keep (b45.out.trans (b56.out.mono b45.out.size))
  have B6 := keep (B4.out.trans (b46.out.mono B4.out.size))
  have j0 := below_cell b46.out q0
  have j1 := below_cell b46.out q1
  clear q0 q1
  go_wp2_with fail
  refine (mine_any n pp pm pc W6).mono ?_
  rintro e w7 ⟨rfl, hb7⟩
  have b67 := keep hb7
  have B7 := keep (B6.out.trans (hb7.mono B6.out.size))
  clear hb7 hW6
  go_wp2_with fail
  refine (RO.out w7 B7.out).mono ?_
  rintro e w8 ⟨rfl, hb8⟩
  have b68 := keep (b67.out.trans (hb8.mono b67.out.size))
  have B8 := keep (B6.out.trans (b68.out.mono B6.out.size))
  have i0 := below_cell b68.out j0
  have i1 := below_cell b68.out j1
  clear hb8 RO j0 j1
  go_wp2_with fail
  refine (RRO.out w8 B8.out).mono ?_
  rintro e w9 ⟨rfl, hb9⟩
  have b69 := keep (b68.out.trans (hb9.mono b68.out.size))
  have B9 := keep (B6.out.trans (b69.out.mono B6.out.size))
  have k10 := below_cell hb9 i0
  have k11 := below_cell hb9 i1
  have b49 := keep (b46.out.trans (b69.out.mono b46.out.size))
  have b39 := keep (b34.out.trans (b49.out.mono b34.out.size))
  have b59 := keep (b56.out.trans (b69.out.mono b56.out.size))
  have k30 : w9.cell? ⟨w3.heap.size, 0, none⟩ = some (.int .i64 Z) := below_cell b49.out (cell_of_row _ _ _ _ _ _ G4.out)
  have k31 : w9.cell? ⟨w3.heap.size, 1, none⟩ = some (.slice a3 L c3) := below_cell b49.out (cell_of_row _ _ _ _ _ _ G4.out)
  have k50 : w9.cell? ⟨w5.heap.size, 0, none⟩ = some (.int .i64 Z) := below_cell b69.out (cell_of_row _ _ _ _ _ _ G6.out)
  have k51 : w9.cell? ⟨w5.heap.size, 1, none⟩ = some (.slice a5 L c5) := below_cell b69.out (cell_of_row _ _ _ _ _ _ G6.out)
  clear hb9 RRO i0 i1
  have SM : Hid (∀ w', Below w9.heap.size w9 w' → Calls Tryd.prog 14 #[.agg #[.int .i64 Z, .slice a3 L c3], .agg #[.int .i64 Z, .slice a5 L c5]] w' fun e w'' => e = .returned (.bool true) ∧ Below w'.heap.size w' w'') := fun w' hb => rsame16_yes Z a3 L c3 P a5 c5 w' (R3.out.below strKind_ok (b39.out.trans (hb.mono b39.out.size))) (R5.out.below strKind_ok (b59.out.trans (hb.mono b59.out.size))) (by have := PLL.out; omega)
  have CK : Hid (∀ w', Below w9.heap.size w9 w' → _) := fun w' hb => CK0.out w' (B9.out.trans (hb.mono B9.out.size))
  have RCK : Hid (∀ w', Below w9.heap.size w9 w' → _) := fun w' hb => RCK0.out w' (B9.out.trans (hb.mono B9.out.size))
  clear CK0 RCK0
  go_wp2_with fail
  refine wp_region_held_drew (S := fun w' => Below w9.heap.size w9 w') (by kernel_rfl) ((Below.refl w9.heap.size w9).drew) (fun hZ => ?_)
  refine takeH (i := 0) 39 (v := .bool true) rfl rfl (by kernel_rfl) (by kernel_rfl) (by kernel_rfl) (fun _ _ _ h => h) (Or.inl ⟨by rfl, ?_⟩) (by assumption) ?_
  · intro w' hSw'
    go_simp
  simp only [Act.put, List.setIfInBounds_toArray, List.set_cons_zero, List.set_cons_succ]
  refine takeH (i := 1) 40 (v := .bool true) rfl rfl (by kernel_rfl) (by kernel_rfl) (by kernel_rfl) (fun _ _ _ h => h) (Or.inl ⟨by rfl, ?_⟩) (by assumption) ?_
  · intro w' hSw'
    go_simp
  simp only [Act.put, List.setIfInBounds_toArray, List.set_cons_zero, List.set_cons_succ]
  refine takeH (i := 2) 41 (v := .int .i64 E) rfl rfl (by kernel_rfl) (by kernel_rfl) (by kernel_rfl) (fun _ _ _ h => h) (Or.inl ⟨by rfl, ?_⟩) (by assumption) ?_
  · intro w' hSw'
    go_simp
  simp only [Act.put, List.setIfInBounds_toArray, List.set_cons_zero, List.set_cons_succ]
  refine takeH (i := 3) 42 (v := .int .i64 E) rfl rfl (by kernel_rfl) (by kernel_rfl) (by kernel_rfl) (fun _ _ _ h => h) (Or.inl ⟨by rfl, ?_⟩) (by assumption) ?_
  · intro w' hSw'
    go_simp
  simp only [Act.put, List.setIfInBounds_toArray, List.set_cons_zero, List.set_cons_succ]
  refine takeH (i := 4) 43 (v := .bool true) rfl rfl (by kernel_rfl) (by kernel_rfl) (by kernel_rfl) (fun _ _ _ h => h) (Or.inl ⟨by rfl, ?_⟩) (by assumption) ?_
  · intro w' hSw'
    go_simp
  simp only [Act.put, List.setIfInBounds_toArray, List.set_cons_zero, List.set_cons_succ]
  refine takeH (i := 5) 44 (v := .bool true) rfl rfl (by kernel_rfl) (by kernel_rfl) (by kernel_rfl) (fun _ _ _ h => h) (Or.inl ⟨by rfl, ?_⟩) (by assumption) ?_
  · intro w' hSw'
    go_simp
  simp only [Act.put, List.setIfInBounds_toArray, List.set_cons_zero, List.set_cons_succ]
  refine takeH (i := 6) 45 (v := .bool true) rfl rfl (by kernel_rfl) (by kernel_rfl) (by kernel_rfl) (fun _ _ _ h => h) (Or.inl ⟨by rfl, ?_⟩) (by assumption) ?_
  · intro w' hSw'
    go_simp
  simp only [Act.put, List.setIfInBounds_toArray, List.set_cons_zero, List.set_cons_succ]
  refine takeH (i := 7) 46 (v := .agg #[.int .i64 Z, .slice a3 L c3]) rfl rfl (by kernel_rfl) (by kernel_rfl) (by kernel_rfl) (fun _ _ _ h => h) (Or.inl ⟨by rfl, ?_⟩) (by assumption) ?_
  · intro w' hSw'
    have z0 := below_cell hSw' k30
    have z1 := below_cell hSw' k31
    go_simp
  simp only [Act.put, List.setIfInBounds_toArray, List.set_cons_zero, List.set_cons_succ]
  refine takeH (i := 9) 48 (v := .agg #[.int .i64 Z, .slice a5 L c5]) rfl rfl (by kernel_rfl) (by kernel_rfl) (by kernel_rfl) (fun _ _ _ h => h) (Or.inl ⟨by rfl, ?_⟩) (by assumption) ?_
  · intro w' hSw'
    have z0 := below_cell hSw' k50
    have z1 := below_cell hSw' k51
    go_simp
  simp only [Act.put, List.setIfInBounds_toArray, List.set_cons_zero, List.set_cons_succ]
  refine wpAnyH_ready (rs := [8]) (by kernel_rfl) (by simp) ?_
  refine AllReadyH.cons rfl (fun K hK => ?_) AllReadyH.nil
  go_simp
  refine (theirs_any Z a3 L c3 _).mono ?_
  rintro e wa ⟨rfl, hb⟩
  have bwa := keep ((Below.refl w9.heap.size w9).drew.trans (hb.mono (Below.refl w9.heap.size w9).drew.size))
  clear hb
  go_wp2_with fail
  refine hK.out _ _ (bwa.out) (fun hZ1 => ?_)
  clear hK K
  refine wpAnyH_ready (rs := [10]) (by kernel_rfl) (by simp) ?_
  refine AllReadyH.cons rfl (fun K hK => ?_) AllReadyH.nil
  go_simp
  refine (SM.out _ bwa.out).mono ?_
  rintro e wb ⟨rfl, hb⟩
  have bwb := keep (bwa.out.trans (hb.mono bwa.out.size))
  clear hb
  go_wp2_with fail
  refine hK.out _ _ (bwb.out) (fun hZ2 => ?_)
  clear hK K
  refine takeH (i := 11) 50 (v := .bool true) rfl rfl (by kernel_rfl) (by kernel_rfl) (by kernel_rfl) (fun _ _ _ h => h) (Or.inl ⟨by rfl, ?_⟩) (by assumption) ?_
  · intro w' hSw'
    go_simp
  simp only [Act.put, List.setIfInBounds_toArray, List.set_cons_zero, List.set_cons_succ]
  refine takeH (i := 12) 51 (v := .bool true) rfl rfl (by kernel_rfl) (by kernel_rfl) (by kernel_rfl) (fun _ _ _ h => h) (Or.inl ⟨by rfl, ?_⟩) (by assumption) ?_
  · intro w' hSw'
    go_simp
  simp only [Act.put, List.setIfInBounds_toArray, List.set_cons_zero, List.set_cons_succ]
  refine takeH (i := 13) 52 (v := .int .i64 C) rfl rfl (by kernel_rfl) (by kernel_rfl) (by kernel_rfl) (fun _ _ _ h => h) (Or.inl ⟨by rfl, ?_⟩) (by assumption) ?_
  · intro w' hSw'
    go_simp
  simp only [Act.put, List.setIfInBounds_toArray, List.set_cons_zero, List.set_cons_succ]
  refine takeH (i := 14) 53 (v := .int .i64 C) rfl rfl (by kernel_rfl) (by kernel_rfl) (by kernel_rfl) (fun _ _ _ h => h) (Or.inl ⟨by rfl, ?_⟩) (by assumption) ?_
  · intro w' hSw'
    go_simp
  simp only [Act.put, List.setIfInBounds_toArray, List.set_cons_zero, List.set_cons_succ]
  refine takeH (i := 15) 54 (v := .bool true) rfl rfl (by kernel_rfl) (by kernel_rfl) (by kernel_rfl) (fun _ _ _ h => h) (Or.inl ⟨by rfl, ?_⟩) (by assumption) ?_
  · intro w' hSw'
    go_simp
  simp only [Act.put, List.setIfInBounds_toArray, List.set_cons_zero, List.set_cons_succ]
  refine takeH (i := 16) 55 (v := .bool true) rfl rfl (by kernel_rfl) (by kernel_rfl) (by kernel_rfl) (fun _ _ _ h => h) (Or.inl ⟨by rfl, ?_⟩) (by assumption) ?_
  · intro w' hSw'
    go_simp
  simp only [Act.put, List.setIfInBounds_toArray, List.set_cons_zero, List.set_cons_succ]
  refine takeH (i := 17) 56 (v := .bool true) rfl rfl (by kernel_rfl) (by kernel_rfl) (by kernel_rfl) (fun _ _ _ h => h) (Or.inl ⟨by rfl, ?_⟩) (by assumption) ?_
  · intro w' hSw'
    go_simp
  simp only [Act.put, List.setIfInBounds_toArray, List.set_cons_zero, List.set_cons_succ]
  refine takeH (i := 18) 57 (v := .string ⟨R.toArray⟩) rfl rfl (by kernel_rfl) (by kernel_rfl) (by kernel_rfl) (fun _ _ _ h => h) (Or.inl ⟨by rfl, ?_⟩) (by assumption) ?_
  · intro w' hSw'
    go_simp
  simp only [Act.put, List.setIfInBounds_toArray, List.set_cons_zero, List.set_cons_succ]
  refine takeH (i := 19) 58 (v := .string ⟨R.toArray⟩) rfl rfl (by kernel_rfl) (by kernel_rfl) (by kernel_rfl) (fun _ _ _ h => h) (Or.inl ⟨by rfl, ?_⟩) (by assumption) ?_
  · intro w' hSw'
    go_simp
  simp only [Act.put, List.setIfInBounds_toArray, List.set_cons_zero, List.set_cons_succ]
  refine takeH (i := 20) 59 (v := .bool true) rfl rfl (by kernel_rfl) (by kernel_rfl) (by kernel_rfl) (fun _ _ _ h => h) (Or.inl ⟨by rfl, ?_⟩) (by assumption) ?_
  · intro w' hSw'
    go_simp
  simp only [Act.put, List.setIfInBounds_toArray, List.set_cons_zero, List.set_cons_succ]
  refine takeH (i := 21) 60 (v := .bool true) rfl rfl (by kernel_rfl) (by kernel_rfl) (by kernel_rfl) (fun _ _ _ h => h) (Or.inl ⟨by rfl, ?_⟩) (by assumption) ?_
  · intro w' hSw'
    go_simp
  simp only [Act.put, List.setIfInBounds_toArray, List.set_cons_zero, List.set_cons_succ]
  refine takeH (i := 0x16) 61 (v := .bool true) rfl rfl (by kernel_rfl) (by kernel_rfl) (by kernel_rfl) (fun _ _ _ h => h) (Or.inl ⟨by rfl, ?_⟩) (by assumption) ?_
  · intro w' hSw'
    go_simp
  simp only [Act.put, List.setIfInBounds_toArray, List.set_cons_zero, List.set_cons_succ]
  refine takeH (i := 23) 62 (v := .agg #[.int .i64 n, .slice pp pm pc]) rfl rfl (by kernel_rfl) (by kernel_rfl) (by kernel_rfl) (fun _ _ _ h => h) (Or.inl ⟨by rfl, ?_⟩) (by assumption) ?_
  · intro w' hSw'
    have z0 := below_cell hSw' k10
    have z1 := below_cell hSw' k11
    go_simp
  simp only [Act.put, List.setIfInBounds_toArray, List.set_cons_zero, List.set_cons_succ]
  refine takeH (i := 26) 65 (v := .agg #[.int .i64 n, .slice pp pm pc]) rfl rfl (by kernel_rfl) (by kernel_rfl) (by kernel_rfl) (fun _ _ _ h => h) (Or.inl ⟨by rfl, ?_⟩) (by assumption) ?_
  · intro w' hSw'
    have z0 := below_cell hSw' k10
    have z1 := below_cell hSw' k11
    go_simp
  simp only [Act.put, List.setIfInBounds_toArray, List.set_cons_zero, List.set_cons_succ]
  refine wpAnyH_ready (rs := [24]) (by kernel_rfl) (by simp) ?_
  refine AllReadyH.cons rfl (fun K hK => ?_) AllReadyH.nil
  go_simp
  refine (mine_any n pp pm pc _).mono ?_
  rintro e wc ⟨rfl, hb⟩
  have bwc := keep (bwb.out.trans (hb.mono bwb.out.size))
  clear hb
  go_wp2_with fail
  refine hK.out _ _ (bwc.out) (fun hZ3 => ?_)
  clear hK K
  refine wpAnyH_ready (rs := [25]) (by kernel_rfl) (by simp) ?_
  refine AllReadyH.cons rfl (fun K hK => ?_) AllReadyH.nil
  go_simp
  refine (CK.out _ bwc.out).mono ?_
  rintro e wd ⟨rfl, hb⟩
  have bwd := keep (bwc.out.trans (hb.mono bwc.out.size))
  clear hb
  go_wp2_with fail
  refine hK.out _ _ (bwd.out) (fun hZ4 => ?_)
  clear hK K
  refine wpAnyH_ready (rs := [27]) (by kernel_rfl) (by simp) ?_
  refine AllReadyH.cons rfl (fun K hK => ?_) AllReadyH.nil
  go_simp
  refine (RCK.out _ bwd.out).mono ?_
  rintro e we ⟨rfl, hb⟩
  have bwe := keep (bwd.out.trans (hb.mono bwd.out.size))
  clear hb
  go_wp2_with fail
  refine hK.out _ _ (bwe.out) (fun hZ5 => ?_)
  clear hK K
  refine takeH (i := 28) 67 (v := .bool true) rfl rfl (by kernel_rfl) (by kernel_rfl) (by kernel_rfl) (fun _ _ _ h => h) (Or.inl ⟨by rfl, ?_⟩) (by assumption) ?_
  · intro w' hSw'
    go_simp
  simp only [Act.put, List.setIfInBounds_toArray, List.set_cons_zero, List.set_cons_succ]
  refine takeH (i := 29) 68 (v := .bool true) rfl rfl (by kernel_rfl) (by kernel_rfl) (by kernel_rfl) (fun _ _ _ h => h) (Or.inl ⟨by rfl, ?_⟩) (by assumption) ?_
  · intro w' hSw'
    go_simp
  simp only [Act.put, List.setIfInBounds_toArray, List.set_cons_zero, List.set_cons_succ]
  refine takeH (i := 30) 4 (v := .bool true) rfl rfl (by kernel_rfl) (by kernel_rfl) (by kernel_rfl) (fun _ _ _ h => h) (Or.inl ⟨by rfl, ?_⟩) (by assumption) ?_
  · intro w' hSw'
    go_simp
  simp only [Act.put, List.setIfInBounds_toArray, List.set_cons_zero, List.set_cons_succ]
  refine wpAnyH_done (by kernel_rfl) ?_ _
  go_wp2
  go_ret
  exact ⟨rfl, B9.out.trans (bwe.out.mono B9.out.size)⟩
end Go.Proofs.YtkepjjkiajkdmaaDoor
