/- The walk of lsm's Open of a disk without files. -/
import Derived.Test.YtbgdkkcobcmpoaaGreatDoorJoinEcc
import Derived.Test.YtbgdkkcobcmpoaaGreatDoorJoinSo
import Derived.Test.YtbgdkkcobcmpoaaGreatDoorJoinHk
namespace Go.Proofs.YtbgdkkcobcmpoaaGreatDoor
open Go.RowKit
open Dk (File Disk)

set_option maxHeartbeats 1000000 in
set_option maxRecDepth 100000 in
theorem segs_none (S : Nat → Prop) (b : Nat) (d : Disk) (w : World) (h : Mem S w b d) (hd : d.files = []) :
    Calls Tryz.prog 36 #[.pointer (some ⟨b, 0, none⟩)] w fun e w' => e = .returned (.slice none 0 0) ∧ Below w.heap.size w w' := by
  obtain ⟨m, l, left, hM⟩ := h
  have NM := keep (names_mem S b m l left d w hM)
  rw [hd] at NM
  clear hM hd
  go_enter Tryz.func36, Tryz.ntmps36
  go_wp2_with fail
  refine NM.out.mono ?_
  rintro e w1 ⟨ao, c, rfl, _, _, hb1⟩
  have B1 := keep hb1
  clear hb1 NM
  go_wp2_with fail
  refine wp_loop_rounds 1 ?_
  rw [rounds_succ]
  go_wp2
  go_ret
  exact ⟨rfl, B1.out⟩
theorem skip_new (w : World) : Calls Tryz.prog 34 #[] w fun e w' => ∃ sk, e = .returned (.pointer (some ⟨sk, 0, none⟩)) ∧ w'.heap[sk]? = some (.cells listZ 185 (0, 0)) ∧ w.heap.size ≤ sk ∧ Below w.heap.size w w' := by
  refine (skip_raw w).mono ?_
  rintro e w' ⟨rfl, rfl⟩
  exact ⟨_, rfl, heap_alloc_new w _, Nat.le_refl _, (Below.refl _ _).alloc (Nat.le_refl _) _⟩
/-- An engine that has no table and nothing in its memory. -/
structure EngAt (w : World) (eb db pm tm sk : Nat) (seq : Int) : Prop where
  box : w.heap[eb]? = some (.cells #[.pointer (some ⟨db, 0, none⟩), .int .i64 seq, .map (some pm), .int .i64 0, .int .i64 0, .int .i64 0, .int .i64 0, .slice none 0 0, .map (some tm), .pointer (some ⟨sk, 0, none⟩), .int .i64 0] 118 (0, 0))
  list : w.heap[sk]? = some (.cells listZ 185 (0, 0))
  ne : eb ≠ sk
theorem EngAt.same {w w' : World} {eb db pm tm sk : Nat} {seq : Int} (h : EngAt w eb db pm tm sk seq) (h1 : w'.heap[eb]? = w.heap[eb]?) (h2 : w'.heap[sk]? = w.heap[sk]?) : EngAt w' eb db pm tm sk seq := ⟨h1.trans h.box, h2.trans h.list, h.ne⟩
theorem EngAt.lt {w : World} {eb db pm tm sk : Nat} {seq : Int} (h : EngAt w eb db pm tm sk seq) : eb < w.heap.size ∧ sk < w.heap.size := ⟨(Array.getElem?_eq_some_iff.1 h.box).1, (Array.getElem?_eq_some_iff.1 h.list).1⟩
theorem EngAt.below {w w' : World} {eb db pm tm sk : Nat} {seq : Int} (h : EngAt w eb db pm tm sk seq) (hb : Below w.heap.size w w') : EngAt w' eb db pm tm sk seq := h.same (hb.block _ h.lt.1) (hb.block _ h.lt.2)
set_option maxHeartbeats 8000000 in
set_option maxRecDepth 100000 in
theorem open_none (S : Nat → Prop) (b : Nat) (d : Disk) (w : World) (h : Mem S w b d) (hd : d.files = []) (ht : Tab w) (hw : 0 < w.heap.size) :
    Calls Tryz.prog 15 #[.pointer (some ⟨b, 0, none⟩)] w fun e w' => ∃ eb pm tm sk, e = .returned (.tuple #[.pointer (some ⟨eb, 0, none⟩), .int .i64 0]) ∧ EngAt w' eb b pm tm sk 0 ∧ w'.heap[pm]? = some (.map #[] 0) ∧ w.heap.size ≤ pm ∧ w.heap.size ≤ eb ∧ w.heap.size ≤ sk ∧ Below w.heap.size w w' := by
  have HM : Hid (∀ w', Below w.heap.size w w' → Mem S w' b d) := fun w' hb => h.below hb
  have HT : Hid (∀ w', Below w.heap.size w w' → Tab w') := fun w' hb => ht.below hb hw
  have HF := keep hd
  have CL := keep (cload_none S b d w h (by rw [hd]; rfl))
  unfold verZ at CL
  clear h hd ht
  go_enter Tryz.func15, Tryz.ntmps15
  go_wp2_with fail
  refine CL.out.mono ?_
  rintro e w1 ⟨rfl, hb1⟩
  have B1 := keep hb1
  clear hb1 CL
  go_wp2_with fail
  obtain ⟨W2, hW2⟩ : ∃ W2, w1.alloc (.cells #[.int .i64 0, .int .i64 0, .int .i64 0, .int .i64 0, .slice none 0 0] 108) = W2 := ⟨_, rfl⟩
  have B2 : Hid (Below w.heap.size w W2) := by rw [← hW2]; exact B1.out.alloc B1.out.size _
  have G2 : Hid (W2.heap[w1.heap.size]? = some (.cells #[.int .i64 0, .int .i64 0, .int .i64 0, .int .i64 0, .slice none 0 0] 108)) := by rw [← hW2]; exact heap_alloc_new w1 _
  have s2 : Hid (w1.heap.size < W2.heap.size) := by rw [← hW2]; simp; trivial
  have CC := keep (clean_none S b d W2 (HM.out _ B2.out) HF.out (HT.out _ B2.out) (Nat.lt_of_lt_of_le hw B2.out.size))
  have SG := keep (fun w' hb => segs_none S b d w' (HM.out w' hb) HF.out)
  unfold verZ at CC
  clear HM HT HF
  rw [hW2]
  refine CC.out.mono ?_
  rintro e w3 ⟨rfl, hb3⟩
  have B3 := keep (B2.out.trans (hb3.mono B2.out.size))
  have G3 := keep ((hb3.block _ s2.out).trans G2.out)
  have x0 : w3.cell? ⟨w1.heap.size, 0, none⟩ = some (.int .i64 0) := cell_of_row _ _ _ _ _ _ G3.out
  have x1 : w3.cell? ⟨w1.heap.size, 1, none⟩ = some (.int .i64 0) := cell_of_row _ _ _ _ _ _ G3.out
  have x2 : w3.cell? ⟨w1.heap.size, 2, none⟩ = some (.int .i64 0) := cell_of_row _ _ _ _ _ _ G3.out
  have x3 : w3.cell? ⟨w1.heap.size, 3, none⟩ = some (.int .i64 0) := cell_of_row _ _ _ _ _ _ G3.out
  have x4 : w3.cell? ⟨w1.heap.size, 4, none⟩ = some (.slice none 0 0) := cell_of_row _ _ _ _ _ _ G3.out
  clear hb3 CC hW2 G2 s2
  have hmm := @run_makeMap Tryz.prog
  go_wp2_with fail
  obtain ⟨w4, hw4⟩ : ∃ w4, (w3.alloc (.map #[] 0)).alloc (.cells #[.pointer (some ⟨b, 0, none⟩), .int .i64 0, .map (some w3.heap.size), .int .i64 0, .int .i64 0, .int .i64 0, .int .i64 0, .slice none 0 0, .map none, .pointer none, .int .i64 0] 118) = w4 := ⟨_, rfl⟩
  have B4 : Hid (Below w.heap.size w w4) := by rw [← hw4]; exact (B3.out.alloc B3.out.size _).alloc (by have := B3.out.size; simp; omega) _
  have b34 : Hid (Below w3.heap.size w3 w4) := by rw [← hw4]; exact ((Below.refl _ _).alloc (Nat.le_refl _) _).alloc (by simp) _
  have E4 : Hid (w4.heap[w3.heap.size + 1]? = some (.cells #[.pointer (some ⟨b, 0, none⟩), .int .i64 0, .map (some w3.heap.size), .int .i64 0, .int .i64 0, .int .i64 0, .int .i64 0, .slice none 0 0, .map none, .pointer none, .int .i64 0] 118 (0, 0))) := by
    have := heap_alloc_new (w3.alloc (.map #[] 0)) (.cells #[.pointer (some ⟨b, 0, none⟩), .int .i64 0, .map (some w3.heap.size), .int .i64 0, .int .i64 0, .int .i64 0, .int .i64 0, .slice none 0 0, .map none, .pointer none, .int .i64 0] 118)
    rw [hw4] at this
    show _ = _
    simpa using this
  have M4 : Hid (w4.heap[w3.heap.size]? = some (.map #[] 0)) := by
    rw [← hw4]
    exact (Below.heap_alloc _ _ _ (by simp)).trans (heap_alloc_new w3 _)
  have s4 : Hid (w4.heap.size = w3.heap.size + 2) := by rw [← hw4]; simp; trivial
  have G4 := keep ((b34.out.block _ (Array.getElem?_eq_some_iff.1 G3.out).1).trans G3.out)
  have l13 : Hid (w1.heap.size < w3.heap.size) := (Array.getElem?_eq_some_iff.1 G3.out).1
  have l3 : Hid (w.heap.size ≤ w3.heap.size) := B3.out.size
  rw [hw4]
  obtain ⟨pm, hpm⟩ : ∃ pm, w3.heap.size = pm := ⟨_, rfl⟩
  rw [hpm] at E4 M4 s4 l13 l3 ⊢
  obtain ⟨eb, heb⟩ : ∃ eb, pm + 1 = eb := ⟨_, rfl⟩
  rw [heb] at E4 ⊢
  have HEB := keep heb
  obtain ⟨vb, hvb⟩ : ∃ vb, w1.heap.size = vb := ⟨_, rfl⟩
  rw [hvb] at G4 l13 ⊢
  clear x0 x1 x2 x3 x4 hw4 hpm heb hvb G3 B3 b34
  have VC : Hid (∀ w', Kept (At eb) w4 w' → w'.cell? ⟨vb, 0, none⟩ = some (.int .i64 0) ∧ w'.cell? ⟨vb, 1, none⟩ = some (.int .i64 0) ∧ w'.cell? ⟨vb, 2, none⟩ = some (.int .i64 0) ∧ w'.cell? ⟨vb, 3, none⟩ = some (.int .i64 0) ∧ w'.cell? ⟨vb, 4, none⟩ = some (.slice none 0 0)) := by
    intro w' hk
    have hb : w'.heap[vb]? = _ := (hk.block vb (Array.getElem?_eq_some_iff.1 G4.out).1 (fun e => by have e2 : vb = eb := e; have := l13.out; have := HEB.out; omega)).trans G4.out
    exact ⟨cell_of_row _ _ _ _ _ _ hb, cell_of_row _ _ _ _ _ _ hb, cell_of_row _ _ _ _ _ _ hb, cell_of_row _ _ _ _ _ _ hb, cell_of_row _ _ _ _ _ _ hb⟩
  refine region_share (fun a a' w' => ∃ (tm sk : Nat), a' = sets a [(33, .pointer (some ⟨eb, 0, none⟩)), (34, .agg #[.int .i64 0, .int .i64 0, .int .i64 0, .int .i64 0, .slice none 0 0]), (37, .pointer (some ⟨vb, 2, none⟩)), (38, .int .i64 0), (40, .pointer (some ⟨eb, 0, none⟩)), (41, .pointer (some ⟨eb, 3, none⟩)), (35, .map (some tm)), (36, .pointer (some ⟨sk, 0, none⟩)), (39, .agg #[.int .i64 0, .int .i64 0, .int .i64 0, .int .i64 0, .slice none 0 0, .map (some tm), .pointer (some ⟨sk, 0, none⟩), .int .i64 0])] ∧ Hid (EngAt w' eb b pm tm sk 0 ∧ Kept (At eb) w4 w' ∧ pm + 2 ≤ sk)) ?_ ?_
  · refine wp_region_held_drew (S := fun w' => Kept (At eb) w4 w') (by kernel_rfl) ((Kept.refl _ _).drew) (fun hHeld => ?_)
    refine takeH (i := 0) 33 (v := .pointer (some ⟨eb, 0, none⟩)) rfl rfl (by kernel_rfl) (by kernel_rfl) (by kernel_rfl) (fun _ _ _ h => h) (Or.inl ⟨by rfl, ?_⟩) (by assumption) ?_
    · intro w' hSw'
      go_simp
    simp only [Act.put, List.setIfInBounds_toArray, List.set_cons_zero, List.set_cons_succ]
    refine takeH (i := 1) 34 (v := .agg #[.int .i64 0, .int .i64 0, .int .i64 0, .int .i64 0, .slice none 0 0]) rfl rfl (by kernel_rfl) (by kernel_rfl) (by kernel_rfl) (fun _ _ _ h => h) (Or.inl ⟨by rfl, ?_⟩) (by assumption) ?_
    · intro w' hSw'
      obtain ⟨d0, d1, d2, d3, d4⟩ := VC.out w' hSw'
      go_simp
    simp only [Act.put, List.setIfInBounds_toArray, List.set_cons_zero, List.set_cons_succ]
    refine takeH (i := 4) 37 (v := .pointer (some ⟨vb, 2, none⟩)) rfl rfl (by kernel_rfl) (by kernel_rfl) (by kernel_rfl) (fun _ _ _ h => h) (Or.inl ⟨by rfl, ?_⟩) (by assumption) ?_
    · intro w' hSw'
      go_simp
    simp only [Act.put, List.setIfInBounds_toArray, List.set_cons_zero, List.set_cons_succ]
    refine takeH (i := 5) 38 (v := .int .i64 0) rfl rfl (by kernel_rfl) (by kernel_rfl) (by kernel_rfl) (fun _ _ _ h => h) (Or.inl ⟨by rfl, ?_⟩) (by assumption) ?_
    · intro w' hSw'
      obtain ⟨d0, d1, d2, d3, d4⟩ := VC.out w' hSw'
      go_simp
    simp only [Act.put, List.setIfInBounds_toArray, List.set_cons_zero, List.set_cons_succ]
    refine wpAnyH_ready (rs := [2, 3]) (by kernel_rfl) (by simp) ?_
    refine AllReadyH.cons rfl (fun K hK => ?_) (AllReadyH.cons rfl (fun K hK => ?_) AllReadyH.nil)
    · go_simp
      have Ka : Hid (Kept (At eb) w4 (w4.drew.alloc (.map #[] 0))) := ((Kept.refl _ _).drew).alloc _
      refine hK.out _ _ (Ka.out) (fun hA1 => ?_)
      clear hK K
      refine wpAnyH_ready (rs := [3]) (by kernel_rfl) (by simp) ?_
      refine AllReadyH.cons rfl (fun K hK => ?_) AllReadyH.nil
      go_simp
      refine (skip_new _).mono ?_
      rintro e w5 ⟨sk, rfl, hl5, hs5, hb5⟩
      have K5 := keep (Ka.out.trans (Kept.of_below hb5))
      have L5 := keep hl5
      have LS5 : Hid (w4.heap.size ≤ sk) := Nat.le_trans (by simp) hs5
      have E5a := keep ((hb5.block eb (by have := s4.out; have := HEB.out; simp; omega)).trans (((Below.refl w4.heap.size w4).drew.alloc (Nat.le_refl _) (.map #[] 0)).block eb (by have := s4.out; have := HEB.out; omega) |>.trans E4.out))
      clear hl5 hs5 hb5
      go_wp2_with fail
      refine hK.out _ _ (K5.out) (fun hA2 => ?_)
      clear hK K
      refine takeH (i := 6) 39 (v := .agg #[.int .i64 0, .int .i64 0, .int .i64 0, .int .i64 0, .slice none 0 0, .map (some w4.heap.size), .pointer (some ⟨sk, 0, none⟩), .int .i64 0]) rfl rfl (by kernel_rfl) (by kernel_rfl) (by kernel_rfl) (fun _ _ _ h => h) (Or.inl ⟨by rfl, ?_⟩) (by assumption) ?_
      · intro w' hSw'
        go_simp
      simp only [Act.put, List.setIfInBounds_toArray, List.set_cons_zero, List.set_cons_succ]
      refine takeH (i := 7) 40 (v := .pointer (some ⟨eb, 0, none⟩)) rfl rfl (by kernel_rfl) (by kernel_rfl) (by kernel_rfl) (fun _ _ _ h => h) (Or.inl ⟨by rfl, ?_⟩) (by assumption) ?_
      · intro w' hSw'
        go_simp
      simp only [Act.put, List.setIfInBounds_toArray, List.set_cons_zero, List.set_cons_succ]
      refine takeH (i := 8) 41 (v := .pointer (some ⟨eb, 3, none⟩)) rfl rfl (by kernel_rfl) (by kernel_rfl) (by kernel_rfl) (fun _ _ _ h => h) (Or.inl ⟨by rfl, ?_⟩) (by assumption) ?_
      · intro w' hSw'
        go_simp
      simp only [Act.put, List.setIfInBounds_toArray, List.set_cons_zero, List.set_cons_succ]
      have E5 := keep E5a.out
      refine wpAnyH_ready (rs := [9]) (by kernel_rfl) (by simp) ?_
      refine AllReadyH.cons rfl (fun K hK => ?_) AllReadyH.nil
      have t0 : w5.cell? ⟨eb, 3, none⟩ = some (.int .i64 0) := cell_of_row _ _ _ _ _ _ E5.out
      have f0 : w5.frozen? ⟨eb, 3, none⟩ = false := by simp [World.frozen?, E5.out]
      have t1 : w5.cell? ⟨eb, 4, none⟩ = some (.int .i64 0) := cell_of_row _ _ _ _ _ _ E5.out
      have f1 : w5.frozen? ⟨eb, 4, none⟩ = false := by simp [World.frozen?, E5.out]
      have t2 : w5.cell? ⟨eb, 5, none⟩ = some (.int .i64 0) := cell_of_row _ _ _ _ _ _ E5.out
      have f2 : w5.frozen? ⟨eb, 5, none⟩ = false := by simp [World.frozen?, E5.out]
      have t3 : w5.cell? ⟨eb, 6, none⟩ = some (.int .i64 0) := cell_of_row _ _ _ _ _ _ E5.out
      have f3 : w5.frozen? ⟨eb, 6, none⟩ = false := by simp [World.frozen?, E5.out]
      have t4 : w5.cell? ⟨eb, 7, none⟩ = some (.slice none 0 0) := cell_of_row _ _ _ _ _ _ E5.out
      have f4 : w5.frozen? ⟨eb, 7, none⟩ = false := by simp [World.frozen?, E5.out]
      have t5 : w5.cell? ⟨eb, 8, none⟩ = some (.map none) := cell_of_row _ _ _ _ _ _ E5.out
      have f5 : w5.frozen? ⟨eb, 8, none⟩ = false := by simp [World.frozen?, E5.out]
      have t6 : w5.cell? ⟨eb, 9, none⟩ = some (.pointer none) := cell_of_row _ _ _ _ _ _ E5.out
      have f6 : w5.frozen? ⟨eb, 9, none⟩ = false := by simp [World.frozen?, E5.out]
      have t7 : w5.cell? ⟨eb, 10, none⟩ = some (.int .i64 0) := cell_of_row _ _ _ _ _ _ E5.out
      have f7 : w5.frozen? ⟨eb, 10, none⟩ = false := by simp [World.frozen?, E5.out]
      have K6 := keep ((((((((K5.out.at_set 3 (.int .i64 0)).at_set 4 (.int .i64 0)).at_set 5 (.int .i64 0)).at_set 6 (.int .i64 0)).at_set 7 (.slice none 0 0)).at_set 8 (.map (some w4.heap.size))).at_set 9 (.pointer (some ⟨sk, 0, none⟩))).at_set 10 (.int .i64 0))
      have E6 : Hid (((((((((w5.setCell ⟨eb, 3, none⟩ (.int .i64 0)).setCell ⟨eb, 4, none⟩ (.int .i64 0)).setCell ⟨eb, 5, none⟩ (.int .i64 0)).setCell ⟨eb, 6, none⟩ (.int .i64 0)).setCell ⟨eb, 7, none⟩ (.slice none 0 0)).setCell ⟨eb, 8, none⟩ (.map (some w4.heap.size))).setCell ⟨eb, 9, none⟩ (.pointer (some ⟨sk, 0, none⟩))).setCell ⟨eb, 10, none⟩ (.int .i64 0)).heap[eb]? = some (.cells #[.pointer (some ⟨b, 0, none⟩), .int .i64 0, .map (some pm), .int .i64 0, .int .i64 0, .int .i64 0, .int .i64 0, .slice none 0 0, .map (some w4.heap.size), .pointer (some ⟨sk, 0, none⟩), .int .i64 0] 118 (0, 0))) := by
        have h := (set_row (set_row (set_row (set_row (set_row (set_row (set_row (set_row E5.out 3 (.int .i64 0)) 4 (.int .i64 0)) 5 (.int .i64 0)) 6 (.int .i64 0)) 7 (.slice none 0 0)) 8 (.map (some w4.heap.size))) 9 (.pointer (some ⟨sk, 0, none⟩))) 10 (.int .i64 0))
        simp only [List.setIfInBounds_toArray, List.set_cons_zero, List.set_cons_succ] at h
        exact h
      have L6 : Hid (((((((((w5.setCell ⟨eb, 3, none⟩ (.int .i64 0)).setCell ⟨eb, 4, none⟩ (.int .i64 0)).setCell ⟨eb, 5, none⟩ (.int .i64 0)).setCell ⟨eb, 6, none⟩ (.int .i64 0)).setCell ⟨eb, 7, none⟩ (.slice none 0 0)).setCell ⟨eb, 8, none⟩ (.map (some w4.heap.size))).setCell ⟨eb, 9, none⟩ (.pointer (some ⟨sk, 0, none⟩))).setCell ⟨eb, 10, none⟩ (.int .i64 0)).heap[sk]? = some (.cells listZ 185 (0, 0))) := by
        have hne : ∀ (i : Nat) (W : World) (v : Value), (W.setCell ⟨eb, i, none⟩ v).heap[sk]? = W.heap[sk]? := fun i W v => Below.heap_setCell W ⟨eb, i, none⟩ v sk (by show sk ≠ eb; have := s4.out; have := HEB.out; have := LS5.out; omega)
        show _ = _
        rw [hne, hne, hne, hne, hne, hne, hne, hne]
        exact L5.out
      go_simp
      refine hK.out _ _ (K6.out) (fun hB2 => ?_)
      clear hK K t0 t1 t2 t3 t4 t5 t6 t7 f0 f1 f2 f3 f4 f5 f6 f7
      refine wpAnyH_done (by kernel_rfl) ?_ _
      exact ⟨w4.heap.size, sk, (by simp only [sets, Act.put, List.setIfInBounds_toArray, List.set_cons_zero, List.set_cons_succ]; all_goals rfl), ⟨⟨E6.out, L6.out, (by have := s4.out; have := HEB.out; have := LS5.out; omega)⟩, K6.out, (by have := s4.out; have := LS5.out; omega)⟩⟩
    · go_simp
      refine (skip_new _).mono ?_
      rintro e w5 ⟨sk, rfl, hl5, hs5, hb5⟩
      have Ka := keep (((Kept.refl (At eb) w4).drew).trans (Kept.of_below hb5))
      have La := keep hl5
      have LS5 : Hid (w4.heap.size ≤ sk) := hs5
      have Ea := keep ((hb5.block eb (by have := s4.out; have := HEB.out; show eb < w4.heap.size; omega)).trans E4.out)
      clear hl5 hs5 hb5
      go_wp2_with fail
      refine hK.out _ _ (Ka.out) (fun hA1 => ?_)
      clear hK K
      refine wpAnyH_ready (rs := [2]) (by kernel_rfl) (by simp) ?_
      refine AllReadyH.cons rfl (fun K hK => ?_) AllReadyH.nil
      go_simp
      have K5 := keep (Ka.out.alloc (.map #[] 0))
      have E5a := keep ((Below.heap_alloc w5 (.map #[] 0) eb (Array.getElem?_eq_some_iff.1 Ea.out).1).trans Ea.out)
      have L5 := keep ((Below.heap_alloc w5 (.map #[] 0) sk (Array.getElem?_eq_some_iff.1 La.out).1).trans La.out)
      refine hK.out _ _ (K5.out) (fun hA2 => ?_)
      clear hK K
      refine takeH (i := 6) 39 (v := .agg #[.int .i64 0, .int .i64 0, .int .i64 0, .int .i64 0, .slice none 0 0, .map (some w5.heap.size), .pointer (some ⟨sk, 0, none⟩), .int .i64 0]) rfl rfl (by kernel_rfl) (by kernel_rfl) (by kernel_rfl) (fun _ _ _ h => h) (Or.inl ⟨by rfl, ?_⟩) (by assumption) ?_
      · intro w' hSw'
        go_simp
      simp only [Act.put, List.setIfInBounds_toArray, List.set_cons_zero, List.set_cons_succ]
      refine takeH (i := 7) 40 (v := .pointer (some ⟨eb, 0, none⟩)) rfl rfl (by kernel_rfl) (by kernel_rfl) (by kernel_rfl) (fun _ _ _ h => h) (Or.inl ⟨by rfl, ?_⟩) (by assumption) ?_
      · intro w' hSw'
        go_simp
      simp only [Act.put, List.setIfInBounds_toArray, List.set_cons_zero, List.set_cons_succ]
      refine takeH (i := 8) 41 (v := .pointer (some ⟨eb, 3, none⟩)) rfl rfl (by kernel_rfl) (by kernel_rfl) (by kernel_rfl) (fun _ _ _ h => h) (Or.inl ⟨by rfl, ?_⟩) (by assumption) ?_
      · intro w' hSw'
        go_simp
      simp only [Act.put, List.setIfInBounds_toArray, List.set_cons_zero, List.set_cons_succ]
      have E5 := keep E5a.out
      refine wpAnyH_ready (rs := [9]) (by kernel_rfl) (by simp) ?_
      refine AllReadyH.cons rfl (fun K hK => ?_) AllReadyH.nil
      have t0 : (w5.alloc (.map #[] 0)).cell? ⟨eb, 3, none⟩ = some (.int .i64 0) := cell_of_row _ _ _ _ _ _ E5.out
      have f0 : (w5.alloc (.map #[] 0)).frozen? ⟨eb, 3, none⟩ = false := by simp [World.frozen?, E5.out]
      have t1 : (w5.alloc (.map #[] 0)).cell? ⟨eb, 4, none⟩ = some (.int .i64 0) := cell_of_row _ _ _ _ _ _ E5.out
      have f1 : (w5.alloc (.map #[] 0)).frozen? ⟨eb, 4, none⟩ = false := by simp [World.frozen?, E5.out]
      have t2 : (w5.alloc (.map #[] 0)).cell? ⟨eb, 5, none⟩ = some (.int .i64 0) := cell_of_row _ _ _ _ _ _ E5.out
      have f2 : (w5.alloc (.map #[] 0)).frozen? ⟨eb, 5, none⟩ = false := by simp [World.frozen?, E5.out]
      have t3 : (w5.alloc (.map #[] 0)).cell? ⟨eb, 6, none⟩ = some (.int .i64 0) := cell_of_row _ _ _ _ _ _ E5.out
      have f3 : (w5.alloc (.map #[] 0)).frozen? ⟨eb, 6, none⟩ = false := by simp [World.frozen?, E5.out]
      have t4 : (w5.alloc (.map #[] 0)).cell? ⟨eb, 7, none⟩ = some (.slice none 0 0) := cell_of_row _ _ _ _ _ _ E5.out
      have f4 : (w5.alloc (.map #[] 0)).frozen? ⟨eb, 7, none⟩ = false := by simp [World.frozen?, E5.out]
      have t5 : (w5.alloc (.map #[] 0)).cell? ⟨eb, 8, none⟩ = some (.map none) := cell_of_row _ _ _ _ _ _ E5.out
      have f5 : (w5.alloc (.map #[] 0)).frozen? ⟨eb, 8, none⟩ = false := by simp [World.frozen?, E5.out]
      have t6 : (w5.alloc (.map #[] 0)).cell? ⟨eb, 9, none⟩ = some (.pointer none) := cell_of_row _ _ _ _ _ _ E5.out
      have f6 : (w5.alloc (.map #[] 0)).frozen? ⟨eb, 9, none⟩ = false := by simp [World.frozen?, E5.out]
      have t7 : (w5.alloc (.map #[] 0)).cell? ⟨eb, 10, none⟩ = some (.int .i64 0) := cell_of_row _ _ _ _ _ _ E5.out
      have f7 : (w5.alloc (.map #[] 0)).frozen? ⟨eb, 10, none⟩ = false := by simp [World.frozen?, E5.out]
      have K6 := keep ((((((((K5.out.at_set 3 (.int .i64 0)).at_set 4 (.int .i64 0)).at_set 5 (.int .i64 0)).at_set 6 (.int .i64 0)).at_set 7 (.slice none 0 0)).at_set 8 (.map (some w5.heap.size))).at_set 9 (.pointer (some ⟨sk, 0, none⟩))).at_set 10 (.int .i64 0))
      have E6 : Hid ((((((((((w5.alloc (.map #[] 0)).setCell ⟨eb, 3, none⟩ (.int .i64 0)).setCell ⟨eb, 4, none⟩ (.int .i64 0)).setCell ⟨eb, 5, none⟩ (.int .i64 0)).setCell ⟨eb, 6, none⟩ (.int .i64 0)).setCell ⟨eb, 7, none⟩ (.slice none 0 0)).setCell ⟨eb, 8, none⟩ (.map (some w5.heap.size))).setCell ⟨eb, 9, none⟩ (.pointer (some ⟨sk, 0, none⟩))).setCell ⟨eb, 10, none⟩ (.int .i64 0)).heap[eb]? = some (.cells #[.pointer (some ⟨b, 0, none⟩), .int .i64 0, .map (some pm), .int .i64 0, .int .i64 0, .int .i64 0, .int .i64 0, .slice none 0 0, .map (some w5.heap.size), .pointer (some ⟨sk, 0, none⟩), .int .i64 0] 118 (0, 0))) := by
        have h := (set_row (set_row (set_row (set_row (set_row (set_row (set_row (set_row E5.out 3 (.int .i64 0)) 4 (.int .i64 0)) 5 (.int .i64 0)) 6 (.int .i64 0)) 7 (.slice none 0 0)) 8 (.map (some w5.heap.size))) 9 (.pointer (some ⟨sk, 0, none⟩))) 10 (.int .i64 0))
        simp only [List.setIfInBounds_toArray, List.set_cons_zero, List.set_cons_succ] at h
        exact h
      have L6 : Hid ((((((((((w5.alloc (.map #[] 0)).setCell ⟨eb, 3, none⟩ (.int .i64 0)).setCell ⟨eb, 4, none⟩ (.int .i64 0)).setCell ⟨eb, 5, none⟩ (.int .i64 0)).setCell ⟨eb, 6, none⟩ (.int .i64 0)).setCell ⟨eb, 7, none⟩ (.slice none 0 0)).setCell ⟨eb, 8, none⟩ (.map (some w5.heap.size))).setCell ⟨eb, 9, none⟩ (.pointer (some ⟨sk, 0, none⟩))).setCell ⟨eb, 10, none⟩ (.int .i64 0)).heap[sk]? = some (.cells listZ 185 (0, 0))) := by
        have hne : ∀ (i : Nat) (W : World) (v : Value), (W.setCell ⟨eb, i, none⟩ v).heap[sk]? = W.heap[sk]? := fun i W v => Below.heap_setCell W ⟨eb, i, none⟩ v sk (by show sk ≠ eb; have := s4.out; have := HEB.out; have := LS5.out; omega)
        show _ = _
        rw [hne, hne, hne, hne, hne, hne, hne, hne]
        exact L5.out
      go_simp
      refine hK.out _ _ (K6.out) (fun hB2 => ?_)
      clear hK K t0 t1 t2 t3 t4 t5 t6 t7 f0 f1 f2 f3 f4 f5 f6 f7
      refine wpAnyH_done (by kernel_rfl) ?_ _
      exact ⟨w5.heap.size, sk, (by simp only [sets, Act.put, List.setIfInBounds_toArray, List.set_cons_zero, List.set_cons_succ]; all_goals rfl), ⟨⟨E6.out, L6.out, (by have := s4.out; have := HEB.out; have := LS5.out; omega)⟩, K6.out, (by have := s4.out; have := LS5.out; omega)⟩⟩
  rintro a' w5 ⟨tm, sk, rfl, hR⟩
  have HR := keep hR
  clear hR
  simp only [sets, Act.put, List.setIfInBounds_toArray, List.set_cons_zero, List.set_cons_succ]
  have VB := keep (VC.out w5 HR.out.2.1)
  have v4 : w5.cell? ⟨vb, 4, none⟩ = some (.slice none 0 0) := VB.out.2.2.2.2
  have b5 : Hid (Below w.heap.size w w5) := B4.out.trans (HR.out.2.1.below B4.out.size (fun g hg => by have e : g = eb := hg; have := l3.out; have := HEB.out; omega))
  have SG5 := keep (SG.out w5 b5.out)
  have PM5 := keep ((HR.out.2.1.block pm (Array.getElem?_eq_some_iff.1 M4.out).1 (fun e => by have e2 : pm = eb := e; have := HEB.out; omega)).trans M4.out)
  have sk5 : Hid (w.heap.size ≤ sk) := by have h1 := HR.out.2.2; have h2 := l3.out; show _ ≤ _; omega
  clear SG B4 E4 M4 G4 VC VB
  go_wp2_with fail
  refine wp_loop_rounds 1 ?_
  rw [rounds_succ]
  go_wp2_with fail
  refine SG5.out.mono ?_
  rintro e w6 ⟨rfl, hb6⟩
  have B6 := keep hb6
  clear hb6 SG5 v4
  go_wp2_with fail
  refine wp_loop_rounds 1 ?_
  rw [rounds_succ]
  go_wp2
  go_ret2
  exact ⟨eb, pm, tm, sk, rfl, HR.out.1.below B6.out, (B6.out.block pm (Array.getElem?_eq_some_iff.1 PM5.out).1).trans PM5.out, l3.out, (by have := l3.out; have := HEB.out; omega), sk5.out, b5.out.trans (B6.out.mono b5.out.size)⟩
end Go.Proofs.YtbgdkkcobcmpoaaGreatDoor
