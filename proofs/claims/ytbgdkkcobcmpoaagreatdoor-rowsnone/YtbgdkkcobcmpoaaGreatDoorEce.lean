/- The walks of lsm's made, Pin, find, Get at an engine that has no table and nothing in its memory. -/
import Derived.Test.YtbgdkkcobcmpoaaGreatDoorEcd
namespace Go.Proofs.YtbgdkkcobcmpoaaGreatDoor
open Go.RowKit Go.Maps

theorem EngAt.e0 {w : World} {eb db pm tm sk : Nat} {seq : Int} (h : EngAt w eb db pm tm sk seq) : w.cell? ⟨eb, 0, none⟩ = some (.pointer (some ⟨db, 0, none⟩)) := cell_of_row _ _ _ _ _ _ h.box
theorem EngAt.e1 {w : World} {eb db pm tm sk : Nat} {seq : Int} (h : EngAt w eb db pm tm sk seq) : w.cell? ⟨eb, 1, none⟩ = some (.int .i64 seq) := cell_of_row _ _ _ _ _ _ h.box
theorem EngAt.e2 {w : World} {eb db pm tm sk : Nat} {seq : Int} (h : EngAt w eb db pm tm sk seq) : w.cell? ⟨eb, 2, none⟩ = some (.map (some pm)) := cell_of_row _ _ _ _ _ _ h.box
theorem EngAt.e9 {w : World} {eb db pm tm sk : Nat} {seq : Int} (h : EngAt w eb db pm tm sk seq) : w.cell? ⟨eb, 9, none⟩ = some (.pointer (some ⟨sk, 0, none⟩)) := cell_of_row _ _ _ _ _ _ h.box
theorem EngAt.v {w : World} {eb db pm tm sk : Nat} {seq : Int} (h : EngAt w eb db pm tm sk seq) : w.cell? ⟨eb, 3, none⟩ = some (.int .i64 0) ∧ w.cell? ⟨eb, 4, none⟩ = some (.int .i64 0) ∧ w.cell? ⟨eb, 5, none⟩ = some (.int .i64 0) ∧ w.cell? ⟨eb, 6, none⟩ = some (.int .i64 0) ∧ w.cell? ⟨eb, 7, none⟩ = some (.slice none 0 0) := ⟨cell_of_row _ _ _ _ _ _ h.box, cell_of_row _ _ _ _ _ _ h.box, cell_of_row _ _ _ _ _ _ h.box, cell_of_row _ _ _ _ _ _ h.box, cell_of_row _ _ _ _ _ _ h.box⟩
theorem skipZ {w : World} {sk : Nat} (h : w.heap[sk]? = some (.cells listZ 185 (0, 0))) : SMem w sk [] := by
  refine ⟨⟨fun j hj => ?_, fun i n hn => by simp at hn, fun n hn => by cases hn⟩, (fun n hn => by cases hn), trivial, (fun n hn => by cases hn)⟩
  rw [cell_of_row _ _ _ _ _ _ h]
  have : j = 0 ∨ j = 1 ∨ j = 2 ∨ j = 3 ∨ j = 4 ∨ j = 5 ∨ j = 6 ∨ j = 7 ∨ j = 8 ∨ j = 9 ∨ j = 10 ∨ j = 11 := by omega
  rcases this with rfl | rfl | rfl | rfl | rfl | rfl | rfl | rfl | rfl | rfl | rfl | rfl <;> rfl
theorem own_pins {w : World} {pm : Nat} (h : w.heap[pm]? = some (.map #[] 0)) : w.ownsMap (H := Unit) Tryz.prog 3 (plainElem Tryz.prog 3) pm 0 (.map []) :=
  ⟨#[], 0, h, ⟨by simp, MapKept.stamped_empty 0, by simp⟩, Nat.le_refl _, rfl⟩
theorem zeroInt (w : World) : (zeroValue 3).run Tryz.prog w = .ok (.int .i64 0) w := by kernel_rfl
theorem pins_look {w : World} {pm : Nat} (h : w.heap[pm]? = some (.map #[] 0)) (s : Int) (hs : (Lit.int .i64 s).wf = true) : (Instr.lookup 112 (.map (some pm)) (.int .i64 s) false).run Tryz.prog w = .ok (.int .i64 0) w := by
  obtain ⟨c, h1, h2, _⟩ := (own_pins h).lookup_int (int_keyed Tryz.underlying3) Tryz.underlying112 Tryz.underlying3 (zeroInt w) (keyOf_int_mk Tryz.underlying3 hs)
  rw [h1]
  have h3 : (DataW.lit (.int .i64 0) : DataW Unit) = .lit (.int .i64 c) := h2
  cases h3
  rfl
theorem pins_store {w : World} {pm : Nat} (h : w.heap[pm]? = some (.map #[] 0)) (s : Int) (hs : (Lit.int .i64 s).wf = true) : ∃ w', (Instr.mapUpdate 112 (.map (some pm)) (.int .i64 s) (.int .i64 1)).run Tryz.prog w = .ok () w' ∧ w.grownBy w' (some pm) := by
  obtain ⟨w', h1, _, h3⟩ := (own_pins h).update (int_keyed Tryz.underlying3) Tryz.underlying112 (by unfold maxLen; decide) (keyOf_int_mk Tryz.underlying3 hs) (val := .int .i64 1) (plainElem_int Tryz.underlying3 (by decide))
  exact ⟨w', h1, h3⟩
set_option maxHeartbeats 1000000 in
set_option maxRecDepth 100000 in
theorem emade (eb db pm tm sk : Nat) (seq : Int) (w : World) (h : EngAt w eb db pm tm sk seq) :
    Calls Tryz.prog 197 #[.pointer (some ⟨eb, 0, none⟩)] w fun e w' => e = .returned (.bool true) ∧ w' = w := by
  have e0 := h.e0
  clear h
  go_enter Tryz.func197, Tryz.ntmps197
  go_wp2
  go_ret
  exact ⟨rfl, rfl⟩
set_option maxHeartbeats 4000000 in
set_option maxRecDepth 100000 in
theorem pin_none (eb db pm tm sk : Nat) (seq : Int) (w : World) (h : EngAt w eb db pm tm sk seq) (hp : w.heap[pm]? = some (.map #[] 0)) (hs : (Lit.int .i64 seq).wf = true) :
    Calls Tryz.prog 121 #[.pointer (some ⟨eb, 0, none⟩)] w fun e w' => e = .returned (.tuple #[.int .i64 seq, .int .i64 0]) ∧ Kept (At pm) w w' := by
  have H := keep h
  have HP := keep hp
  have HS := keep hs
  have EM := keep (emade eb db pm tm sk seq)
  have PM : Hid (∀ w', Below w.heap.size w w' → w'.heap[pm]? = some (.map #[] 0)) := fun w' hb => (hb.block pm (Array.getElem?_eq_some_iff.1 hp).1).trans hp
  have LN : Hid (∀ w', Below w.heap.size w w' → ∀ ty, (Builtin.len_ #[112] ty #[.map (some pm)]).run Tryz.prog w' = .ok (.int .i64 0) w') := fun w' hb ty => (own_pins (PM.out w' hb)).len Tryz.underlying112 ty
  have HE : Hid (∀ w', Kept (At pm) w w' → EngAt w' eb db pm tm sk seq) := fun w' hk => h.same (hk.block eb h.lt.1 (fun e => by have e2 : eb = pm := e; have h1 := h.box; rw [e2, hp] at h1; cases h1)) (hk.block sk h.lt.2 (fun e => by have e2 : sk = pm := e; have h1 := h.list; rw [e2, hp] at h1; cases h1))
  clear h hp hs
  go_enter Tryz.func121, Tryz.ntmps121
  go_wp2_with fail
  refine wp_region_held_drew (S := fun w' => Below w.heap.size w w') (by kernel_rfl) ((Below.refl _ _).drew) (fun hHeld => ?_)
  refine takeH (i := 0) 4 (v := .pointer (some ⟨eb, 0, none⟩)) rfl rfl (by kernel_rfl) (by kernel_rfl) (by kernel_rfl) (fun _ _ _ h => h) (Or.inl ⟨by rfl, ?_⟩) (by assumption) ?_
  · intro w' hSw'
    go_simp
  simp only [Act.put, List.setIfInBounds_toArray, List.set_cons_zero, List.set_cons_succ]
  refine wpAnyH_ready (rs := [1]) (by kernel_rfl) (by simp) ?_
  refine AllReadyH.cons rfl (fun K hK => ?_) AllReadyH.nil
  go_simp
  refine (EM.out _ (H.out.below (by assumption))).mono ?_
  rintro e w3 ⟨rfl, rfl⟩
  go_wp2_with fail
  refine hK.out _ _ (by assumption) (fun hHeld1 => ?_)
  clear hK K
  refine takeH (i := 2) 6 (v := .bool false) rfl rfl (by kernel_rfl) (by kernel_rfl) (by kernel_rfl) (fun _ _ _ h => h) (Or.inl ⟨by rfl, ?_⟩) (by assumption) ?_
  · intro w' hSw'
    go_simp
  simp only [Act.put, List.setIfInBounds_toArray, List.set_cons_zero, List.set_cons_succ]
  refine takeH (i := 3) 7 (v := .bool false) rfl rfl (by kernel_rfl) (by kernel_rfl) (by kernel_rfl) (fun _ _ _ h => h) (Or.inl ⟨by rfl, ?_⟩) (by assumption) ?_
  · intro w' hSw'
    go_simp
  simp only [Act.put, List.setIfInBounds_toArray, List.set_cons_zero, List.set_cons_succ]
  refine takeH (i := 4) 8 (v := .pointer (some ⟨eb, 0, none⟩)) rfl rfl (by kernel_rfl) (by kernel_rfl) (by kernel_rfl) (fun _ _ _ h => h) (Or.inl ⟨by rfl, ?_⟩) (by assumption) ?_
  · intro w' hSw'
    go_simp
  simp only [Act.put, List.setIfInBounds_toArray, List.set_cons_zero, List.set_cons_succ]
  refine takeH (i := 5) 9 (v := .pointer (some ⟨eb, 0, none⟩)) rfl rfl (by kernel_rfl) (by kernel_rfl) (by kernel_rfl) (fun _ _ _ h => h) (Or.inl ⟨by rfl, ?_⟩) (by assumption) ?_
  · intro w' hSw'
    go_simp
  simp only [Act.put, List.setIfInBounds_toArray, List.set_cons_zero, List.set_cons_succ]
  refine takeH (i := 6) 10 (v := .pointer (some ⟨eb, 2, none⟩)) rfl rfl (by kernel_rfl) (by kernel_rfl) (by kernel_rfl) (fun _ _ _ h => h) (Or.inl ⟨by rfl, ?_⟩) (by assumption) ?_
  · intro w' hSw'
    go_simp
  simp only [Act.put, List.setIfInBounds_toArray, List.set_cons_zero, List.set_cons_succ]
  refine takeH (i := 7) 11 (v := .map (some pm)) rfl rfl (by kernel_rfl) (by kernel_rfl) (by kernel_rfl) (fun _ _ _ h => h) (Or.inl ⟨by rfl, ?_⟩) (by assumption) ?_
  · intro w' hSw'
    have EE := H.out.below hSw'
    have d0 := EE.e0
    have d1 := EE.e1
    have d2 := EE.e2
    go_simp
  simp only [Act.put, List.setIfInBounds_toArray, List.set_cons_zero, List.set_cons_succ]
  refine takeH (i := 8) 12 (v := .pointer (some ⟨eb, 0, none⟩)) rfl rfl (by kernel_rfl) (by kernel_rfl) (by kernel_rfl) (fun _ _ _ h => h) (Or.inl ⟨by rfl, ?_⟩) (by assumption) ?_
  · intro w' hSw'
    go_simp
  simp only [Act.put, List.setIfInBounds_toArray, List.set_cons_zero, List.set_cons_succ]
  refine takeH (i := 9) 13 (v := .pointer (some ⟨eb, 0, none⟩)) rfl rfl (by kernel_rfl) (by kernel_rfl) (by kernel_rfl) (fun _ _ _ h => h) (Or.inl ⟨by rfl, ?_⟩) (by assumption) ?_
  · intro w' hSw'
    go_simp
  simp only [Act.put, List.setIfInBounds_toArray, List.set_cons_zero, List.set_cons_succ]
  refine takeH (i := 10) 14 (v := .pointer (some ⟨eb, 1, none⟩)) rfl rfl (by kernel_rfl) (by kernel_rfl) (by kernel_rfl) (fun _ _ _ h => h) (Or.inl ⟨by rfl, ?_⟩) (by assumption) ?_
  · intro w' hSw'
    go_simp
  simp only [Act.put, List.setIfInBounds_toArray, List.set_cons_zero, List.set_cons_succ]
  refine takeH (i := 11) 15 (v := .int .i64 seq) rfl rfl (by kernel_rfl) (by kernel_rfl) (by kernel_rfl) (fun _ _ _ h => h) (Or.inl ⟨by rfl, ?_⟩) (by assumption) ?_
  · intro w' hSw'
    have EE := H.out.below hSw'
    have d0 := EE.e0
    have d1 := EE.e1
    have d2 := EE.e2
    go_simp
  simp only [Act.put, List.setIfInBounds_toArray, List.set_cons_zero, List.set_cons_succ]
  refine takeH (i := 12) 16 (v := .int .i64 0) rfl rfl (by kernel_rfl) (by kernel_rfl) (by kernel_rfl) (fun _ _ _ h => h) (Or.inl ⟨by rfl, ?_⟩) (by assumption) ?_
  · intro w' hSw'
    have EE := H.out.below hSw'
    have hl := pins_look (PM.out w' hSw') seq HS.out
    go_simp
  simp only [Act.put, List.setIfInBounds_toArray, List.set_cons_zero, List.set_cons_succ]
  refine takeH (i := 13) 17 (v := .bool true) rfl rfl (by kernel_rfl) (by kernel_rfl) (by kernel_rfl) (fun _ _ _ h => h) (Or.inl ⟨by rfl, ?_⟩) (by assumption) ?_
  · intro w' hSw'
    go_simp
  simp only [Act.put, List.setIfInBounds_toArray, List.set_cons_zero, List.set_cons_succ]
  refine takeH (i := 14) 18 (v := .bool true) rfl rfl (by kernel_rfl) (by kernel_rfl) (by kernel_rfl) (fun _ _ _ h => h) (Or.inl ⟨by rfl, ?_⟩) (by assumption) ?_
  · intro w' hSw'
    go_simp
  simp only [Act.put, List.setIfInBounds_toArray, List.set_cons_zero, List.set_cons_succ]
  refine takeH (i := 15) 19 (v := .pointer (some ⟨eb, 0, none⟩)) rfl rfl (by kernel_rfl) (by kernel_rfl) (by kernel_rfl) (fun _ _ _ h => h) (Or.inl ⟨by rfl, ?_⟩) (by assumption) ?_
  · intro w' hSw'
    go_simp
  simp only [Act.put, List.setIfInBounds_toArray, List.set_cons_zero, List.set_cons_succ]
  refine takeH (i := 16) 20 (v := .pointer (some ⟨eb, 0, none⟩)) rfl rfl (by kernel_rfl) (by kernel_rfl) (by kernel_rfl) (fun _ _ _ h => h) (Or.inl ⟨by rfl, ?_⟩) (by assumption) ?_
  · intro w' hSw'
    go_simp
  simp only [Act.put, List.setIfInBounds_toArray, List.set_cons_zero, List.set_cons_succ]
  refine takeH (i := 17) 21 (v := .pointer (some ⟨eb, 2, none⟩)) rfl rfl (by kernel_rfl) (by kernel_rfl) (by kernel_rfl) (fun _ _ _ h => h) (Or.inl ⟨by rfl, ?_⟩) (by assumption) ?_
  · intro w' hSw'
    go_simp
  simp only [Act.put, List.setIfInBounds_toArray, List.set_cons_zero, List.set_cons_succ]
  refine takeH (i := 18) 0x16 (v := .map (some pm)) rfl rfl (by kernel_rfl) (by kernel_rfl) (by kernel_rfl) (fun _ _ _ h => h) (Or.inl ⟨by rfl, ?_⟩) (by assumption) ?_
  · intro w' hSw'
    have EE := H.out.below hSw'
    have d0 := EE.e0
    have d1 := EE.e1
    have d2 := EE.e2
    go_simp
  simp only [Act.put, List.setIfInBounds_toArray, List.set_cons_zero, List.set_cons_succ]
  refine takeH (i := 19) 23 (v := .int .i64 0) rfl rfl (by kernel_rfl) (by kernel_rfl) (by kernel_rfl) (fun _ _ _ h => h) (Or.inl ⟨by rfl, ?_⟩) (by assumption) ?_
  · intro w' hSw'
    have ln := LN.out w' hSw'
    go_simp
  simp only [Act.put, List.setIfInBounds_toArray, List.set_cons_zero, List.set_cons_succ]
  refine takeH (i := 20) 24 (v := .bool false) rfl rfl (by kernel_rfl) (by kernel_rfl) (by kernel_rfl) (fun _ _ _ h => h) (Or.inl ⟨by rfl, ?_⟩) (by assumption) ?_
  · intro w' hSw'
    go_simp
  simp only [Act.put, List.setIfInBounds_toArray, List.set_cons_zero, List.set_cons_succ]
  refine takeH (i := 21) 25 (v := .bool false) rfl rfl (by kernel_rfl) (by kernel_rfl) (by kernel_rfl) (fun _ _ _ h => h) (Or.inl ⟨by rfl, ?_⟩) (by assumption) ?_
  · intro w' hSw'
    go_simp
  simp only [Act.put, List.setIfInBounds_toArray, List.set_cons_zero, List.set_cons_succ]
  refine takeH (i := 0x16) 26 (v := .bool false) rfl rfl (by kernel_rfl) (by kernel_rfl) (by kernel_rfl) (fun _ _ _ h => h) (Or.inl ⟨by rfl, ?_⟩) (by assumption) ?_
  · intro w' hSw'
    go_simp
  simp only [Act.put, List.setIfInBounds_toArray, List.set_cons_zero, List.set_cons_succ]
  refine wpAnyH_done (by kernel_rfl) ?_ _
  clear LN
  go_wp2_with fail
  refine wp_region_held_drew (S := fun w' => Kept (At pm) w w') (by kernel_rfl) (((Kept.refl _ _).drew).drew) (fun hH3_ => ?_)
  refine takeH (i := 0) 27 (v := .pointer (some ⟨eb, 0, none⟩)) rfl rfl (by kernel_rfl) (by kernel_rfl) (by kernel_rfl) (fun _ _ _ h => h) (Or.inl ⟨by rfl, ?_⟩) (by assumption) ?_
  · intro w' hSw'
    go_simp
  simp only [Act.put, List.setIfInBounds_toArray, List.set_cons_zero, List.set_cons_succ]
  refine takeH (i := 1) 28 (v := .pointer (some ⟨eb, 0, none⟩)) rfl rfl (by kernel_rfl) (by kernel_rfl) (by kernel_rfl) (fun _ _ _ h => h) (Or.inl ⟨by rfl, ?_⟩) (by assumption) ?_
  · intro w' hSw'
    go_simp
  simp only [Act.put, List.setIfInBounds_toArray, List.set_cons_zero, List.set_cons_succ]
  refine takeH (i := 2) 29 (v := .pointer (some ⟨eb, 2, none⟩)) rfl rfl (by kernel_rfl) (by kernel_rfl) (by kernel_rfl) (fun _ _ _ h => h) (Or.inl ⟨by rfl, ?_⟩) (by assumption) ?_
  · intro w' hSw'
    go_simp
  simp only [Act.put, List.setIfInBounds_toArray, List.set_cons_zero, List.set_cons_succ]
  refine takeH (i := 3) 30 (v := .map (some pm)) rfl rfl (by kernel_rfl) (by kernel_rfl) (by kernel_rfl) (fun _ _ _ h => h) (Or.inl ⟨by rfl, ?_⟩) (by assumption) ?_
  · intro w' hSw'
    have EE := HE.out w' hSw'
    have d0 := EE.e0
    have d1 := EE.e1
    have d2 := EE.e2
    go_simp
  simp only [Act.put, List.setIfInBounds_toArray, List.set_cons_zero, List.set_cons_succ]
  refine takeH (i := 4) 31 (v := .pointer (some ⟨eb, 0, none⟩)) rfl rfl (by kernel_rfl) (by kernel_rfl) (by kernel_rfl) (fun _ _ _ h => h) (Or.inl ⟨by rfl, ?_⟩) (by assumption) ?_
  · intro w' hSw'
    go_simp
  simp only [Act.put, List.setIfInBounds_toArray, List.set_cons_zero, List.set_cons_succ]
  refine takeH (i := 5) 32 (v := .pointer (some ⟨eb, 0, none⟩)) rfl rfl (by kernel_rfl) (by kernel_rfl) (by kernel_rfl) (fun _ _ _ h => h) (Or.inl ⟨by rfl, ?_⟩) (by assumption) ?_
  · intro w' hSw'
    go_simp
  simp only [Act.put, List.setIfInBounds_toArray, List.set_cons_zero, List.set_cons_succ]
  refine takeH (i := 6) 33 (v := .pointer (some ⟨eb, 1, none⟩)) rfl rfl (by kernel_rfl) (by kernel_rfl) (by kernel_rfl) (fun _ _ _ h => h) (Or.inl ⟨by rfl, ?_⟩) (by assumption) ?_
  · intro w' hSw'
    go_simp
  simp only [Act.put, List.setIfInBounds_toArray, List.set_cons_zero, List.set_cons_succ]
  refine takeH (i := 7) 34 (v := .int .i64 seq) rfl rfl (by kernel_rfl) (by kernel_rfl) (by kernel_rfl) (fun _ _ _ h => h) (Or.inl ⟨by rfl, ?_⟩) (by assumption) ?_
  · intro w' hSw'
    have EE := HE.out w' hSw'
    have d0 := EE.e0
    have d1 := EE.e1
    have d2 := EE.e2
    go_simp
  simp only [Act.put, List.setIfInBounds_toArray, List.set_cons_zero, List.set_cons_succ]
  refine wpAnyH_ready (rs := [8]) (by kernel_rfl) (by simp) ?_
  refine AllReadyH.cons rfl (fun K hK => ?_) AllReadyH.nil
  have hl := pins_look (w := w.drew.drew) HP.out seq HS.out
  go_simp
  refine hK.out _ _ (((Kept.refl _ _).drew).drew) (fun hH3_2 => ?_)
  clear hK K
  refine takeH (i := 9) 36 (v := .int .i64 1) rfl rfl (by kernel_rfl) (by kernel_rfl) (by kernel_rfl) (fun _ _ _ h => h) (Or.inl ⟨by rfl, ?_⟩) (by assumption) ?_
  · intro w' hSw'
    go_simp
    rfl
  simp only [Act.put, List.setIfInBounds_toArray, List.set_cons_zero, List.set_cons_succ]
  refine wpAnyH_ready (rs := [10]) (by kernel_rfl) (by simp) ?_
  refine AllReadyH.cons rfl (fun K hK => ?_) AllReadyH.nil
  obtain ⟨w5, hrun, hg⟩ := pins_store (w := w.drew.drew) HP.out seq HS.out
  have K5 : Hid (Kept (At pm) w w5) := (((Kept.refl _ _).drew).drew).grown hg (fun k e => by cases e; exact .inl rfl)
  have E5 := keep (HE.out _ K5.out)
  have z1 := E5.out.e1
  go_simp
  refine hK.out _ _ (K5.out) (fun hB2 => ?_)
  clear hK K hrun hg
  refine wpAnyH_done (by kernel_rfl) ?_ _
  go_wp2
  go_ret2
  exact ⟨rfl, K5.out⟩
set_option maxHeartbeats 1000000 in
set_option maxRecDepth 100000 in
theorem find_zero (kp : Option Addr) (kn kc : Nat) (w : World) :
    Calls Tryz.prog 280 #[verZ, .slice kp kn kc] w fun e w' => e = .returned (.slice none 0 0) ∧ Below w.heap.size w w' := by
  have b1 := keep ((Below.refl _ w).alloc (Nat.le_refl _) (.cells #[.int .i64 0, .int .i64 0, .int .i64 0, .int .i64 0, .slice none 0 0] 108))
  unfold verZ
  go_enter Tryz.func280, Tryz.ntmps280
  go_wp2_with fail
  refine wp_loop_rounds 1 ?_
  rw [rounds_succ]
  go_wp2
  go_ret
  exact ⟨rfl, b1.out⟩
set_option maxHeartbeats 4000000 in
set_option maxRecDepth 100000 in
theorem efind_none (eb db pm tm sk : Nat) (seq : Int) (kp : Option Addr) (kc : Nat) (key : List UInt8) (s : Int) (w : World) (h : EngAt w eb db pm tm sk seq) (hk : Src w kp key.length kc key) :
    Calls Tryz.prog 204 #[.pointer (some ⟨eb, 0, none⟩), .slice kp key.length kc, .int .i64 s] w fun e w' => e = .returned (.tuple #[.agg #[.slice none 0 0, .int .i64 0, .bool false, .slice none 0 0], .bool false]) ∧ Below w.heap.size w w' := by
  obtain ⟨W1, hW1⟩ : ∃ W1, w.alloc (.cells #[.slice none 0 0, .int .i64 0, .bool false, .slice none 0 0] 147) = W1 := ⟨_, rfl⟩
  have b1 : Hid (Below w.heap.size w W1) := by rw [← hW1]; exact (Below.refl _ _).alloc (Nat.le_refl _) _
  have g1 : Hid (W1.heap[w.heap.size]? = some (.cells #[.slice none 0 0, .int .i64 0, .bool false, .slice none 0 0] 147)) := by rw [← hW1]; exact heap_alloc_new w _
  have s1 : Hid (w.heap.size < W1.heap.size) := by rw [← hW1]; simp; trivial
  have H := keep h
  have E1 := keep (h.below b1.out)
  have e9 := E1.out.e9
  have GN := keep (get_none sk [] kp kc key s W1 (skipZ E1.out.list) (hk.below b1.out) rfl)
  have FZ := keep (find_zero kp key.length kc)
  unfold verZ at FZ
  clear h hk
  go_enter Tryz.func204, Tryz.ntmps204
  go_wp2_with fail
  refine GN.out.mono ?_
  rintro e w2 ⟨rfl, hb2⟩
  have B2 := keep (b1.out.trans (hb2.mono b1.out.size))
  have G2 := keep ((hb2.block _ s1.out).trans g1.out)
  have b3 := keep (B2.out.alloc B2.out.size (.cells #[.slice none 0 0, .int .i64 0, .bool false, .slice none 0 0] 147))
  have EE := keep (H.out.below b3.out)
  obtain ⟨v0, v1, v2, v3, v4⟩ := EE.out.v
  clear GN hb2 e9 hW1
  unfold ev evZ
  simp only
  go_wp2_with fail
  refine (FZ.out _).mono ?_
  rintro e w4 ⟨rfl, hb4⟩
  have B4 := keep (b3.out.trans (hb4.mono b3.out.size))
  have N3 := keep (heap_alloc_new w2 (.cells #[.slice none 0 0, .int .i64 0, .bool false, .slice none 0 0] 147))
  have G3 := keep ((Below.heap_alloc w2 (.cells #[.slice none 0 0, .int .i64 0, .bool false, .slice none 0 0] 147) w.heap.size (Array.getElem?_eq_some_iff.1 G2.out).1).trans G2.out)
  have N4 := keep ((hb4.block _ (Array.getElem?_eq_some_iff.1 N3.out).1).trans N3.out)
  have G4 := keep ((hb4.block _ (Array.getElem?_eq_some_iff.1 G3.out).1).trans G3.out)
  clear hb4 FZ v0 v1 v2 v3 v4 EE b3 N3 G3
  have y0 : w4.cell? ⟨w2.heap.size, 0, none⟩ = some (.slice none 0 0) := cell_of_row _ _ _ _ _ _ N4.out
  have y1 : w4.cell? ⟨w2.heap.size, 1, none⟩ = some (.int .i64 0) := cell_of_row _ _ _ _ _ _ N4.out
  have y2 : w4.cell? ⟨w2.heap.size, 2, none⟩ = some (.bool false) := cell_of_row _ _ _ _ _ _ N4.out
  have y3 : w4.cell? ⟨w2.heap.size, 3, none⟩ = some (.slice none 0 0) := cell_of_row _ _ _ _ _ _ N4.out
  have z0 : w4.cell? ⟨w.heap.size, 0, none⟩ = some (.slice none 0 0) := cell_of_row _ _ _ _ _ _ G4.out
  have z1 : w4.cell? ⟨w.heap.size, 1, none⟩ = some (.int .i64 0) := cell_of_row _ _ _ _ _ _ G4.out
  have z2 : w4.cell? ⟨w.heap.size, 2, none⟩ = some (.bool false) := cell_of_row _ _ _ _ _ _ G4.out
  have z3 : w4.cell? ⟨w.heap.size, 3, none⟩ = some (.slice none 0 0) := cell_of_row _ _ _ _ _ _ G4.out
  have f0 : w4.frozen? ⟨w.heap.size, 0, none⟩ = false := by simp [World.frozen?, G4.out]
  have f1 : w4.frozen? ⟨w.heap.size, 1, none⟩ = false := by simp [World.frozen?, G4.out]
  have f2 : w4.frozen? ⟨w.heap.size, 2, none⟩ = false := by simp [World.frozen?, G4.out]
  have f3 : w4.frozen? ⟨w.heap.size, 3, none⟩ = false := by simp [World.frozen?, G4.out]
  go_wp2_with fail
  refine wp_loop_rounds 1 ?_
  rw [rounds_succ]
  go_wp2
  refine ⟨rfl, .tuple #[.agg #[.slice none 0 0, .int .i64 0, .bool false, .slice none 0 0], .bool false], ?_, rfl, ?_⟩
  · have r0 : (w4.setCell ⟨w.heap.size, 0, none⟩ (.slice none 0 0)).cell? ⟨w.heap.size, 0, none⟩ = some (.slice none 0 0) := World.cell?_setCell_same' _ _ _ (by simp [go_sem, z0])
    have r1 : ((w4.setCell ⟨w.heap.size, 0, none⟩ (.slice none 0 0)).setCell ⟨w.heap.size, 1, none⟩ (.int .i64 0)).cell? ⟨w.heap.size, 1, none⟩ = some (.int .i64 0) := World.cell?_setCell_same' _ _ _ (by simp [go_sem, z1])
    have r2 : (((w4.setCell ⟨w.heap.size, 0, none⟩ (.slice none 0 0)).setCell ⟨w.heap.size, 1, none⟩ (.int .i64 0)).setCell ⟨w.heap.size, 2, none⟩ (.bool false)).cell? ⟨w.heap.size, 2, none⟩ = some (.bool false) := World.cell?_setCell_same' _ _ _ (by simp [go_sem, z2])
    have r3 : ((((w4.setCell ⟨w.heap.size, 0, none⟩ (.slice none 0 0)).setCell ⟨w.heap.size, 1, none⟩ (.int .i64 0)).setCell ⟨w.heap.size, 2, none⟩ (.bool false)).setCell ⟨w.heap.size, 3, none⟩ (.slice none 0 0)).cell? ⟨w.heap.size, 3, none⟩ = some (.slice none 0 0) := World.cell?_setCell_same' _ _ _ (by simp [go_sem, z3])
    simp [results, Tryz.f204, go_sem, loadCells, loadCellsFrom, r0, r1, r2, r3]
  · exact ((((B4.out.setCell (p := ⟨w.heap.size, 0, none⟩) (Nat.le_refl _) _).setCell (p := ⟨w.heap.size, 1, none⟩) (Nat.le_refl _) _).setCell (p := ⟨w.heap.size, 2, none⟩) (Nat.le_refl _) _).setCell (p := ⟨w.heap.size, 3, none⟩) (Nat.le_refl _) _)
set_option maxHeartbeats 2000000 in
set_option maxRecDepth 100000 in
theorem eget_none (eb db pm tm sk : Nat) (seq : Int) (kp : Option Addr) (kc : Nat) (key : List UInt8) (s : Int) (w : World) (h : EngAt w eb db pm tm sk seq) (hk : Src w kp key.length kc key) :
    Calls Tryz.prog 131 #[.pointer (some ⟨eb, 0, none⟩), .slice kp key.length kc, .int .i64 s] w fun e w' => e = .returned (.tuple #[.slice none 0 0, .int .i64 6]) ∧ Below w.heap.size w w' := by
  have H := keep h
  have FI := keep (efind_none eb db pm tm sk seq kp kc key s w h hk)
  clear h hk
  go_enter Tryz.func131, Tryz.ntmps131
  go_wp2_with fail
  refine (emade eb db pm tm sk seq w H.out).mono ?_
  rintro e w1 ⟨rfl, rfl⟩
  go_wp2_with fail
  refine FI.out.mono ?_
  rintro e w2 ⟨rfl, hb2⟩
  have B2 := keep hb2
  have B3 := keep (hb2.alloc hb2.size (.cells #[.slice none 0 0, .int .i64 0, .bool false, .slice none 0 0] 147))
  clear hb2 FI
  go_wp2
  go_ret2
  exact ⟨rfl, B3.out⟩
end Go.Proofs.YtbgdkkcobcmpoaaGreatDoor
