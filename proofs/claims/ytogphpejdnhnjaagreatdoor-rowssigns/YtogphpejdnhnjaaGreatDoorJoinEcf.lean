/- The walk of lsm's Open of a disk without files. -/
/- The walks of lsm's made, Pin, find, Get at an engine that has no table and nothing in its memory. -/
/- The walks of txn's Begin, ready, Get over an engine that has nothing. -/
import Derived.Test.YtogphpejdnhnjaaGreatDoorJoinEcc
import Derived.Test.YtogphpejdnhnjaaGreatDoorJoinSo
import Derived.Test.YtogphpejdnhnjaaGreatDoorJoinHk
import Derived.Test.YtogphpejdnhnjaaGreatDoorCl
namespace Go.Proofs.YtogphpejdnhnjaaGreatDoor
open Go.RowKit
open Dk (File Disk)

set_option maxHeartbeats 1000000 in
set_option maxRecDepth 100000 in
theorem segs_none (S : Nat → Prop) (b : Nat) (d : Disk) (w : World) (h : Mem S w b d) (hd : d.files = []) :
    Calls Tryz.prog 36 #[.pointer (some ⟨b, 0, none⟩)] w fun e w' => e = .returned (.slice none 0 0) ∧ Below w.heap.size w w' := by
  obtain ⟨m, l, left, hM⟩ := h
  have NM := keep (names_mem S b m l left d w hM)
  rw [hd] at NM
  clear hM hd
  go_enter Tryz.func36, Tryz.ntmps36
  go_wp2_with fail
  refine NM.out.mono ?_
  rintro e w1 ⟨ao, c, rfl, _, _, hb1⟩
  have B1 := keep hb1
  clear hb1 NM
  go_wp2_with fail
  refine wp_loop_rounds 1 ?_
  rw [rounds_succ]
  go_wp2
  go_ret
  exact ⟨rfl, B1.out⟩
theorem skip_new (w : World) : Calls Tryz.prog 34 #[] w fun e w' => ∃ sk, e = .returned (.pointer (some ⟨sk, 0, none⟩)) ∧ w'.heap[sk]? = some (.cells listZ 173 (0, 0)) ∧ w.heap.size ≤ sk ∧ Below w.heap.size w w' := by
  refine (skip_raw w).mono ?_
  rintro e w' ⟨rfl, rfl⟩
  exact ⟨_, rfl, heap_alloc_new w _, Nat.le_refl _, (Below.refl _ _).alloc (Nat.le_refl _) _⟩
/-- An engine that has no table and nothing in its memory. -/
structure EngAt (w : World) (eb db pm tm sk : Nat) (seq : Int) : Prop where
  box : w.heap[eb]? = some (.cells #[.pointer (some ⟨db, 0, none⟩), .int .i64 seq, .map (some pm), .int .i64 0, .int .i64 0, .int .i64 0, .int .i64 0, .slice none 0 0, .map (some tm), .pointer (some ⟨sk, 0, none⟩), .int .i64 0] 103 (0, 0))
  list : w.heap[sk]? = some (.cells listZ 173 (0, 0))
  ne : eb ≠ sk
theorem EngAt.same {w w' : World} {eb db pm tm sk : Nat} {seq : Int} (h : EngAt w eb db pm tm sk seq) (h1 : w'.heap[eb]? = w.heap[eb]?) (h2 : w'.heap[sk]? = w.heap[sk]?) : EngAt w' eb db pm tm sk seq := ⟨h1.trans h.box, h2.trans h.list, h.ne⟩
theorem EngAt.lt {w : World} {eb db pm tm sk : Nat} {seq : Int} (h : EngAt w eb db pm tm sk seq) : eb < w.heap.size ∧ sk < w.heap.size := ⟨(Array.getElem?_eq_some_iff.1 h.box).1, (Array.getElem?_eq_some_iff.1 h.list).1⟩
theorem EngAt.below {w w' : World} {eb db pm tm sk : Nat} {seq : Int} (h : EngAt w eb db pm tm sk seq) (hb : Below w.heap.size w w') : EngAt w' eb db pm tm sk seq := h.same (hb.block _ h.lt.1) (hb.block _ h.lt.2)
set_option maxHeartbeats 8000000 in
set_option maxRecDepth 100000 in
theorem open_none (S : Nat → Prop) (b : Nat) (d : Disk) (w : World) (h : Mem S w b d) (hd : d.files = []) (ht : Tab w) (hw : 0 < w.heap.size) :
    Calls Tryz.prog 16 #[.pointer (some ⟨b, 0, none⟩)] w fun e w' => ∃ eb pm tm sk, e = .returned (.tuple #[.pointer (some ⟨eb, 0, none⟩), .int .i64 0]) ∧ EngAt w' eb b pm tm sk 0 ∧ w'.heap[pm]? = some (.map #[] 0) ∧ w.heap.size ≤ pm ∧ w.heap.size ≤ eb ∧ w.heap.size ≤ sk ∧ Below w.heap.size w w' := by
  have HM : Hid (∀ w', Below w.heap.size w w' → Mem S w' b d) := fun w' hb => h.below hb
  have HT : Hid (∀ w', Below w.heap.size w w' → Tab w') := fun w' hb => ht.below hb hw
  have HF := keep hd
  have CL := keep (cload_none S b d w h (by rw [hd]; rfl))
  unfold verZ at CL
  clear h hd ht
  go_enter Tryz.func16, Tryz.ntmps16
  go_wp2_with fail
  refine CL.out.mono ?_
  rintro e w1 ⟨rfl, hb1⟩
  have B1 := keep hb1
  clear hb1 CL
  go_wp2_with fail
  obtain ⟨W2, hW2⟩ : ∃ W2, w1.alloc (.cells #[.int .i64 0, .int .i64 0, .int .i64 0, .int .i64 0, .slice none 0 0] 93) = W2 := ⟨_, rfl⟩
  have B2 : Hid (Below w.heap.size w W2) := by rw [← hW2]; exact B1.out.alloc B1.out.size _
  have G2 : Hid (W2.heap[w1.heap.size]? = some (.cells #[.int .i64 0, .int .i64 0, .int .i64 0, .int .i64 0, .slice none 0 0] 93)) := by rw [← hW2]; exact heap_alloc_new w1 _
  have s2 : Hid (w1.heap.size < W2.heap.size) := by rw [← hW2]; simp; trivial
  have CC := keep (clean_none S b d W2 (HM.out _ B2.out) HF.out (HT.out _ B2.out) (Nat.lt_of_lt_of_le hw B2.out.size))
  have SG := keep (fun w' hb => segs_none S b d w' (HM.out w' hb) HF.out)
  unfold verZ at CC
  clear HM HT HF
  rw [hW2]
  refine CC.out.mono ?_
  rintro e w3 ⟨rfl, hb3⟩
  have B3 := keep (B2.out.trans (hb3.mono B2.out.size))
  have G3 := keep ((hb3.block _ s2.out).trans G2.out)
  have x0 : w3.cell? ⟨w1.heap.size, 0, none⟩ = some (.int .i64 0) := cell_of_row _ _ _ _ _ _ G3.out
  have x1 : w3.cell? ⟨w1.heap.size, 1, none⟩ = some (.int .i64 0) := cell_of_row _ _ _ _ _ _ G3.out
  have x2 : w3.cell? ⟨w1.heap.size, 2, none⟩ = some (.int .i64 0) := cell_of_row _ _ _ _ _ _ G3.out
  have x3 : w3.cell? ⟨w1.heap.size, 3, none⟩ = some (.int .i64 0) := cell_of_row _ _ _ _ _ _ G3.out
  have x4 : w3.cell? ⟨w1.heap.size, 4, none⟩ = some (.slice none 0 0) := cell_of_row _ _ _ _ _ _ G3.out
  clear hb3 CC hW2 G2 s2
  have hmm := @run_makeMap Tryz.prog
  go_wp2_with fail
  obtain ⟨w4, hw4⟩ : ∃ w4, (w3.alloc (.map #[] 0)).alloc (.cells #[.pointer (some ⟨b, 0, none⟩), .int .i64 0, .map (some w3.heap.size), .int .i64 0, .int .i64 0, .int .i64 0, .int .i64 0, .slice none 0 0, .map none, .pointer none, .int .i64 0] 103) = w4 := ⟨_, rfl⟩
  have B4 : Hid (Below w.heap.size w w4) := by rw [← hw4]; exact (B3.out.alloc B3.out.size _).alloc (by have := B3.out.size; simp; omega) _
  have b34 : Hid (Below w3.heap.size w3 w4) := by rw [← hw4]; exact ((Below.refl _ _).alloc (Nat.le_refl _) _).alloc (by simp) _
  have E4 : Hid (w4.heap[w3.heap.size + 1]? = some (.cells #[.pointer (some ⟨b, 0, none⟩), .int .i64 0, .map (some w3.heap.size), .int .i64 0, .int .i64 0, .int .i64 0, .int .i64 0, .slice none 0 0, .map none, .pointer none, .int .i64 0] 103 (0, 0))) := by
    have := heap_alloc_new (w3.alloc (.map #[] 0)) (.cells #[.pointer (some ⟨b, 0, none⟩), .int .i64 0, .map (some w3.heap.size), .int .i64 0, .int .i64 0, .int .i64 0, .int .i64 0, .slice none 0 0, .map none, .pointer none, .int .i64 0] 103)
    rw [hw4] at this
    show _ = _
    simpa using this
  have M4 : Hid (w4.heap[w3.heap.size]? = some (.map #[] 0)) := by
    rw [← hw4]
    exact (Below.heap_alloc _ _ _ (by simp)).trans (heap_alloc_new w3 _)
  have s4 : Hid (w4.heap.size = w3.heap.size + 2) := by rw [← hw4]; simp; trivial
  have G4 := keep ((b34.out.block _ (Array.getElem?_eq_some_iff.1 G3.out).1).trans G3.out)
  have l13 : Hid (w1.heap.size < w3.heap.size) := (Array.getElem?_eq_some_iff.1 G3.out).1
  have l3 : Hid (w.heap.size ≤ w3.heap.size) := B3.out.size
  rw [hw4]
  obtain ⟨pm, hpm⟩ : ∃ pm, w3.heap.size = pm := ⟨_, rfl⟩
  rw [hpm] at E4 M4 s4 l13 l3 ⊢
  obtain ⟨eb, heb⟩ : ∃ eb, pm + 1 = eb := ⟨_, rfl⟩
  rw [heb] at E4 ⊢
  have HEB := keep heb
  obtain ⟨vb, hvb⟩ : ∃ vb, w1.heap.size = vb := ⟨_, rfl⟩
  rw [hvb] at G4 l13 ⊢
  clear x0 x1 x2 x3 x4 hw4 hpm heb hvb G3 B3 b34
  have VC : Hid (∀ w', Kept (At eb) w4 w' → w'.cell? ⟨vb, 0, none⟩ = some (.int .i64 0) ∧ w'.cell? ⟨vb, 1, none⟩ = some (.int .i64 0) ∧ w'.cell? ⟨vb, 2, none⟩ = some (.int .i64 0) ∧ w'.cell? ⟨vb, 3, none⟩ = some (.int .i64 0) ∧ w'.cell? ⟨vb, 4, none⟩ = some (.slice none 0 0)) := by
    intro w' hk
    have hb : w'.heap[vb]? = _ := (hk.block vb (Array.getElem?_eq_some_iff.1 G4.out).1 (fun e => by have e2 : vb = eb := e; have := l13.out; have := HEB.out; omega)).trans G4.out
    exact ⟨cell_of_row _ _ _ _ _ _ hb, cell_of_row _ _ _ _ _ _ hb, cell_of_row _ _ _ _ _ _ hb, cell_of_row _ _ _ _ _ _ hb, cell_of_row _ _ _ _ _ _ hb⟩
  refine region_share (fun a a' w' => ∃ (tm sk : Nat), a' = sets a [(33, .pointer (some ⟨eb, 0, none⟩)), (34, .agg #[.int .i64 0, .int .i64 0, .int .i64 0, .int .i64 0, .slice none 0 0]), (37, .pointer (some ⟨vb, 2, none⟩)), (38, .int .i64 0), (40, .pointer (some ⟨eb, 0, none⟩)), (41, .pointer (some ⟨eb, 3, none⟩)), (35, .map (some tm)), (36, .pointer (some ⟨sk, 0, none⟩)), (39, .agg #[.int .i64 0, .int .i64 0, .int .i64 0, .int .i64 0, .slice none 0 0, .map (some tm), .pointer (some ⟨sk, 0, none⟩), .int .i64 0])] ∧ Hid (EngAt w' eb b pm tm sk 0 ∧ Kept (At eb) w4 w' ∧ pm + 2 ≤ sk)) ?_ ?_
  · refine wp_region_held_drew (S := fun w' => Kept (At eb) w4 w') (by kernel_rfl) ((Kept.refl _ _).drew) (fun hHeld => ?_)
    refine takeH (i := 0) 33 (v := .pointer (some ⟨eb, 0, none⟩)) rfl rfl (by kernel_rfl) (by kernel_rfl) (by kernel_rfl) (fun _ _ _ h => h) (Or.inl ⟨by rfl, ?_⟩) (by assumption) ?_
    · intro w' hSw'
      go_simp
    simp only [Act.put, List.setIfInBounds_toArray, List.set_cons_zero, List.set_cons_succ]
    refine takeH (i := 1) 34 (v := .agg #[.int .i64 0, .int .i64 0, .int .i64 0, .int .i64 0, .slice none 0 0]) rfl rfl (by kernel_rfl) (by kernel_rfl) (by kernel_rfl) (fun _ _ _ h => h) (Or.inl ⟨by rfl, ?_⟩) (by assumption) ?_
    · intro w' hSw'
      obtain ⟨d0, d1, d2, d3, d4⟩ := VC.out w' hSw'
      go_simp
    simp only [Act.put, List.setIfInBounds_toArray, List.set_cons_zero, List.set_cons_succ]
    refine takeH (i := 4) 37 (v := .pointer (some ⟨vb, 2, none⟩)) rfl rfl (by kernel_rfl) (by kernel_rfl) (by kernel_rfl) (fun _ _ _ h => h) (Or.inl ⟨by rfl, ?_⟩) (by assumption) ?_
    · intro w' hSw'
      go_simp
    simp only [Act.put, List.setIfInBounds_toArray, List.set_cons_zero, List.set_cons_succ]
    refine takeH (i := 5) 38 (v := .int .i64 0) rfl rfl (by kernel_rfl) (by kernel_rfl) (by kernel_rfl) (fun _ _ _ h => h) (Or.inl ⟨by rfl, ?_⟩) (by assumption) ?_
    · intro w' hSw'
      obtain ⟨d0, d1, d2, d3, d4⟩ := VC.out w' hSw'
      go_simp
    simp only [Act.put, List.setIfInBounds_toArray, List.set_cons_zero, List.set_cons_succ]
    refine wpAnyH_ready (rs := [2, 3]) (by kernel_rfl) (by simp) ?_
    refine AllReadyH.cons rfl (fun K hK => ?_) (AllReadyH.cons rfl (fun K hK => ?_) AllReadyH.nil)
    · go_simp
      have Ka : Hid (Kept (At eb) w4 (w4.drew.alloc (.map #[] 0))) := ((Kept.refl _ _).drew).alloc _
      refine hK.out _ _ (Ka.out) (fun hA1 => ?_)
      clear hK K
      refine wpAnyH_ready (rs := [3]) (by kernel_rfl) (by simp) ?_
      refine AllReadyH.cons rfl (fun K hK => ?_) AllReadyH.nil
      go_simp
      refine (skip_new _).mono ?_
      rintro e w5 ⟨sk, rfl, hl5, hs5, hb5⟩
      have K5 := keep (Ka.out.trans (Kept.of_below hb5))
      have L5 := keep hl5
      have LS5 : Hid (w4.heap.size ≤ sk) := Nat.le_trans (by simp) hs5
      have E5a := keep ((hb5.block eb (by have := s4.out; have := HEB.out; simp; omega)).trans (((Below.refl w4.heap.size w4).drew.alloc (Nat.le_refl _) (.map #[] 0)).block eb (by have := s4.out; have := HEB.out; omega) |>.trans E4.out))
      clear hl5 hs5 hb5
      go_wp2_with fail
      refine hK.out _ _ (K5.out) (fun hA2 => ?_)
      clear hK K
      refine takeH (i := 6) 39 (v := .agg #[.int .i64 0, .int .i64 0, .int .i64 0, .int .i64 0, .slice none 0 0, .map (some w4.heap.size), .pointer (some ⟨sk, 0, none⟩), .int .i64 0]) rfl rfl (by kernel_rfl) (by kernel_rfl) (by kernel_rfl) (fun _ _ _ h => h) (Or.inl ⟨by rfl, ?_⟩) (by assumption) ?_
      · intro w' hSw'
        go_simp
      simp only [Act.put, List.setIfInBounds_toArray, List.set_cons_zero, List.set_cons_succ]
      refine takeH (i := 7) 40 (v := .pointer (some ⟨eb, 0, none⟩)) rfl rfl (by kernel_rfl) (by kernel_rfl) (by kernel_rfl) (fun _ _ _ h => h) (Or.inl ⟨by rfl, ?_⟩) (by assumption) ?_
      · intro w' hSw'
        go_simp
      simp only [Act.put, List.setIfInBounds_toArray, List.set_cons_zero, List.set_cons_succ]
      refine takeH (i := 8) 41 (v := .pointer (some ⟨eb, 3, none⟩)) rfl rfl (by kernel_rfl) (by kernel_rfl) (by kernel_rfl) (fun _ _ _ h => h) (Or.inl ⟨by rfl, ?_⟩) (by assumption) ?_
      · intro w' hSw'
        go_simp
      simp only [Act.put, List.setIfInBounds_toArray, List.set_cons_zero, List.set_cons_succ]
      have E5 := keep E5a.out
      refine wpAnyH_ready (rs := [9]) (by kernel_rfl) (by simp) ?_
      refine AllReadyH.cons rfl (fun K hK => ?_) AllReadyH.nil
      have t0 : w5.cell? ⟨eb, 3, none⟩ = some (.int .i64 0) := cell_of_row _ _ _ _ _ _ E5.out
      have f0 : w5.frozen? ⟨eb, 3, none⟩ = false := by simp [World.frozen?, E5.out]
      have t1 : w5.cell? ⟨eb, 4, none⟩ = some (.int .i64 0) := cell_of_row _ _ _ _ _ _ E5.out
      have f1 : w5.frozen? ⟨eb, 4, none⟩ = false := by simp [World.frozen?, E5.out]
      have t2 : w5.cell? ⟨eb, 5, none⟩ = some (.int .i64 0) := cell_of_row _ _ _ _ _ _ E5.out
      have f2 : w5.frozen? ⟨eb, 5, none⟩ = false := by simp [World.frozen?, E5.out]
      have t3 : w5.cell? ⟨eb, 6, none⟩ = some (.int .i64 0) := cell_of_row _ _ _ _ _ _ E5.out
      have f3 : w5.frozen? ⟨eb, 6, none⟩ = false := by simp [World.frozen?, E5.out]
      have t4 : w5.cell? ⟨eb, 7, none⟩ = some (.slice none 0 0) := cell_of_row _ _ _ _ _ _ E5.out
      have f4 : w5.frozen? ⟨eb, 7, none⟩ = false := by simp [World.frozen?, E5.out]
      have t5 : w5.cell? ⟨eb, 8, none⟩ = some (.map none) := cell_of_row _ _ _ _ _ _ E5.out
      have f5 : w5.frozen? ⟨eb, 8, none⟩ = false := by simp [World.frozen?, E5.out]
      have t6 : w5.cell? ⟨eb, 9, none⟩ = some (.pointer none) := cell_of_row _ _ _ _ _ _ E5.out
      have f6 : w5.frozen? ⟨eb, 9, none⟩ = false := by simp [World.frozen?, E5.out]
      have t7 : w5.cell? ⟨eb, 10, none⟩ = some (.int .i64 0) := cell_of_row _ _ _ _ _ _ E5.out
      have f7 : w5.frozen? ⟨eb, 10, none⟩ = false := by simp [World.frozen?, E5.out]
      have K6 := keep ((((((((K5.out.at_set 3 (.int .i64 0)).at_set 4 (.int .i64 0)).at_set 5 (.int .i64 0)).at_set 6 (.int .i64 0)).at_set 7 (.slice none 0 0)).at_set 8 (.map (some w4.heap.size))).at_set 9 (.pointer (some ⟨sk, 0, none⟩))).at_set 10 (.int .i64 0))
      have E6 : Hid (((((((((w5.setCell ⟨eb, 3, none⟩ (.int .i64 0)).setCell ⟨eb, 4, none⟩ (.int .i64 0)).setCell ⟨eb, 5, none⟩ (.int .i64 0)).setCell ⟨eb, 6, none⟩ (.int .i64 0)).setCell ⟨eb, 7, none⟩ (.slice none 0 0)).setCell ⟨eb, 8, none⟩ (.map (some w4.heap.size))).setCell ⟨eb, 9, none⟩ (.pointer (some ⟨sk, 0, none⟩))).setCell ⟨eb, 10, none⟩ (.int .i64 0)).heap[eb]? = some (.cells #[.pointer (some ⟨b, 0, none⟩), .int .i64 0, .map (some pm), .int .i64 0, .int .i64 0, .int .i64 0, .int .i64 0, .slice none 0 0, .map (some w4.heap.size), .pointer (some ⟨sk, 0, none⟩), .int .i64 0] 103 (0, 0))) := by
        have h := (set_row (set_row (set_row (set_row (set_row (set_row (set_row (set_row E5.out 3 (.int .i64 0)) 4 (.int .i64 0)) 5 (.int .i64 0)) 6 (.int .i64 0)) 7 (.slice none 0 0)) 8 (.map (some w4.heap.size))) 9 (.pointer (some ⟨sk, 0, none⟩))) 10 (.int .i64 0))
        simp only [List.setIfInBounds_toArray, List.set_cons_zero, List.set_cons_succ] at h
        exact h
      have L6 : Hid (((((((((w5.setCell ⟨eb, 3, none⟩ (.int .i64 0)).setCell ⟨eb, 4, none⟩ (.int .i64 0)).setCell ⟨eb, 5, none⟩ (.int .i64 0)).setCell ⟨eb, 6, none⟩ (.int .i64 0)).setCell ⟨eb, 7, none⟩ (.slice none 0 0)).setCell ⟨eb, 8, none⟩ (.map (some w4.heap.size))).setCell ⟨eb, 9, none⟩ (.pointer (some ⟨sk, 0, none⟩))).setCell ⟨eb, 10, none⟩ (.int .i64 0)).heap[sk]? = some (.cells listZ 173 (0, 0))) := by
        have hne : ∀ (i : Nat) (W : World) (v : Value), (W.setCell ⟨eb, i, none⟩ v).heap[sk]? = W.heap[sk]? := fun i W v => Below.heap_setCell W ⟨eb, i, none⟩ v sk (by show sk ≠ eb; have := s4.out; have := HEB.out; have := LS5.out; omega)
        show _ = _
        rw [hne, hne, hne, hne, hne, hne, hne, hne]
        exact L5.out
      go_simp
      refine hK.out _ _ (K6.out) (fun hB2 => ?_)
      clear hK K t0 t1 t2 t3 t4 t5 t6 t7 f0 f1 f2 f3 f4 f5 f6 f7
      refine wpAnyH_done (by kernel_rfl) ?_ _
      exact ⟨w4.heap.size, sk, (by simp only [sets, Act.put, List.setIfInBounds_toArray, List.set_cons_zero, List.set_cons_succ]; all_goals rfl), ⟨⟨E6.out, L6.out, (by have := s4.out; have := HEB.out; have := LS5.out; omega)⟩, K6.out, (by have := s4.out; have := LS5.out; omega)⟩⟩
    · go_simp
      refine (skip_new _).mono ?_
      rintro e w5 ⟨sk, rfl, hl5, hs5, hb5⟩
      have Ka := keep (((Kept.refl (At eb) w4).drew).trans (Kept.of_below hb5))
      have La := keep hl5
      have LS5 : Hid (w4.heap.size ≤ sk) := hs5
      have Ea := keep ((hb5.block eb (by have := s4.out; have := HEB.out; show eb < w4.heap.size; omega)).trans E4.out)
      clear hl5 hs5 hb5
      go_wp2_with fail
      refine hK.out _ _ (Ka.out) (fun hA1 => ?_)
      clear hK K
      refine wpAnyH_ready (rs := [2]) (by kernel_rfl) (by simp) ?_
      refine AllReadyH.cons rfl (fun K hK => ?_) AllReadyH.nil
      go_simp
      have K5 := keep (Ka.out.alloc (.map #[] 0))
      have E5a := keep ((Below.heap_alloc w5 (.map #[] 0) eb (Array.getElem?_eq_some_iff.1 Ea.out).1).trans Ea.out)
      have L5 := keep ((Below.heap_alloc w5 (.map #[] 0) sk (Array.getElem?_eq_some_iff.1 La.out).1).trans La.out)
      refine hK.out _ _ (K5.out) (fun hA2 => ?_)
      clear hK K
      refine takeH (i := 6) 39 (v := .agg #[.int .i64 0, .int .i64 0, .int .i64 0, .int .i64 0, .slice none 0 0, .map (some w5.heap.size), .pointer (some ⟨sk, 0, none⟩), .int .i64 0]) rfl rfl (by kernel_rfl) (by kernel_rfl) (by kernel_rfl) (fun _ _ _ h => h) (Or.inl ⟨by rfl, ?_⟩) (by assumption) ?_
      · intro w' hSw'
        go_simp
      simp only [Act.put, List.setIfInBounds_toArray, List.set_cons_zero, List.set_cons_succ]
      refine takeH (i := 7) 40 (v := .pointer (some ⟨eb, 0, none⟩)) rfl rfl (by kernel_rfl) (by kernel_rfl) (by kernel_rfl) (fun _ _ _ h => h) (Or.inl ⟨by rfl, ?_⟩) (by assumption) ?_
      · intro w' hSw'
        go_simp
      simp only [Act.put, List.setIfInBounds_toArray, List.set_cons_zero, List.set_cons_succ]
      refine takeH (i := 8) 41 (v := .pointer (some ⟨eb, 3, none⟩)) rfl rfl (by kernel_rfl) (by kernel_rfl) (by kernel_rfl) (fun _ _ _ h => h) (Or.inl ⟨by rfl, ?_⟩) (by assumption) ?_
      · intro w' hSw'
        go_simp
      simp only [Act.put, List.setIfInBounds_toArray, List.set_cons_zero, List.set_cons_succ]
      have E5 := keep E5a.out
      refine wpAnyH_ready (rs := [9]) (by kernel_rfl) (by simp) ?_
      refine AllReadyH.cons rfl (fun K hK => ?_) AllReadyH.nil
      have t0 : (w5.alloc (.map #[] 0)).cell? ⟨eb, 3, none⟩ = some (.int .i64 0) := cell_of_row _ _ _ _ _ _ E5.out
      have f0 : (w5.alloc (.map #[] 0)).frozen? ⟨eb, 3, none⟩ = false := by simp [World.frozen?, E5.out]
      have t1 : (w5.alloc (.map #[] 0)).cell? ⟨eb, 4, none⟩ = some (.int .i64 0) := cell_of_row _ _ _ _ _ _ E5.out
      have f1 : (w5.alloc (.map #[] 0)).frozen? ⟨eb, 4, none⟩ = false := by simp [World.frozen?, E5.out]
      have t2 : (w5.alloc (.map #[] 0)).cell? ⟨eb, 5, none⟩ = some (.int .i64 0) := cell_of_row _ _ _ _ _ _ E5.out
      have f2 : (w5.alloc (.map #[] 0)).frozen? ⟨eb, 5, none⟩ = false := by simp [World.frozen?, E5.out]
      have t3 : (w5.alloc (.map #[] 0)).cell? ⟨eb, 6, none⟩ = some (.int .i64 0) := cell_of_row _ _ _ _ _ _ E5.out
      have f3 : (w5.alloc (.map #[] 0)).frozen? ⟨eb, 6, none⟩ = false := by simp [World.frozen?, E5.out]
      have t4 : (w5.alloc (.map #[] 0)).cell? ⟨eb, 7, none⟩ = some (.slice none 0 0) := cell_of_row _ _ _ _ _ _ E5.out
      have f4 : (w5.alloc (.map #[] 0)).frozen? ⟨eb, 7, none⟩ = false := by simp [World.frozen?, E5.out]
      have t5 : (w5.alloc (.map #[] 0)).cell? ⟨eb, 8, none⟩ = some (.map none) := cell_of_row _ _ _ _ _ _ E5.out
      have f5 : (w5.alloc (.map #[] 0)).frozen? ⟨eb, 8, none⟩ = false := by simp [World.frozen?, E5.out]
      have t6 : (w5.alloc (.map #[] 0)).cell? ⟨eb, 9, none⟩ = some (.pointer none) := cell_of_row _ _ _ _ _ _ E5.out
      have f6 : (w5.alloc (.map #[] 0)).frozen? ⟨eb, 9, none⟩ = false := by simp [World.frozen?, E5.out]
      have t7 : (w5.alloc (.map #[] 0)).cell? ⟨eb, 10, none⟩ = some (.int .i64 0) := cell_of_row _ _ _ _ _ _ E5.out
      have f7 : (w5.alloc (.map #[] 0)).frozen? ⟨eb, 10, none⟩ = false := by simp [World.frozen?, E5.out]
      have K6 := keep ((((((((K5.out.at_set 3 (.int .i64 0)).at_set 4 (.int .i64 0)).at_set 5 (.int .i64 0)).at_set 6 (.int .i64 0)).at_set 7 (.slice none 0 0)).at_set 8 (.map (some w5.heap.size))).at_set 9 (.pointer (some ⟨sk, 0, none⟩))).at_set 10 (.int .i64 0))
      have E6 : Hid ((((((((((w5.alloc (.map #[] 0)).setCell ⟨eb, 3, none⟩ (.int .i64 0)).setCell ⟨eb, 4, none⟩ (.int .i64 0)).setCell ⟨eb, 5, none⟩ (.int .i64 0)).setCell ⟨eb, 6, none⟩ (.int .i64 0)).setCell ⟨eb, 7, none⟩ (.slice none 0 0)).setCell ⟨eb, 8, none⟩ (.map (some w5.heap.size))).setCell ⟨eb, 9, none⟩ (.pointer (some ⟨sk, 0, none⟩))).setCell ⟨eb, 10, none⟩ (.int .i64 0)).heap[eb]? = some (.cells #[.pointer (some ⟨b, 0, none⟩), .int .i64 0, .map (some pm), .int .i64 0, .int .i64 0, .int .i64 0, .int .i64 0, .slice none 0 0, .map (some w5.heap.size), .pointer (some ⟨sk, 0, none⟩), .int .i64 0] 103 (0, 0))) := by
        have h := (set_row (set_row (set_row (set_row (set_row (set_row (set_row (set_row E5.out 3 (.int .i64 0)) 4 (.int .i64 0)) 5 (.int .i64 0)) 6 (.int .i64 0)) 7 (.slice none 0 0)) 8 (.map (some w5.heap.size))) 9 (.pointer (some ⟨sk, 0, none⟩))) 10 (.int .i64 0))
        simp only [List.setIfInBounds_toArray, List.set_cons_zero, List.set_cons_succ] at h
        exact h
      have L6 : Hid ((((((((((w5.alloc (.map #[] 0)).setCell ⟨eb, 3, none⟩ (.int .i64 0)).setCell ⟨eb, 4, none⟩ (.int .i64 0)).setCell ⟨eb, 5, none⟩ (.int .i64 0)).setCell ⟨eb, 6, none⟩ (.int .i64 0)).setCell ⟨eb, 7, none⟩ (.slice none 0 0)).setCell ⟨eb, 8, none⟩ (.map (some w5.heap.size))).setCell ⟨eb, 9, none⟩ (.pointer (some ⟨sk, 0, none⟩))).setCell ⟨eb, 10, none⟩ (.int .i64 0)).heap[sk]? = some (.cells listZ 173 (0, 0))) := by
        have hne : ∀ (i : Nat) (W : World) (v : Value), (W.setCell ⟨eb, i, none⟩ v).heap[sk]? = W.heap[sk]? := fun i W v => Below.heap_setCell W ⟨eb, i, none⟩ v sk (by show sk ≠ eb; have := s4.out; have := HEB.out; have := LS5.out; omega)
        show _ = _
        rw [hne, hne, hne, hne, hne, hne, hne, hne]
        exact L5.out
      go_simp
      refine hK.out _ _ (K6.out) (fun hB2 => ?_)
      clear hK K t0 t1 t2 t3 t4 t5 t6 t7 f0 f1 f2 f3 f4 f5 f6 f7
      refine wpAnyH_done (by kernel_rfl) ?_ _
      exact ⟨w5.heap.size, sk, (by simp only [sets, Act.put, List.setIfInBounds_toArray, List.set_cons_zero, List.set_cons_succ]; all_goals rfl), ⟨⟨E6.out, L6.out, (by have := s4.out; have := HEB.out; have := LS5.out; omega)⟩, K6.out, (by have := s4.out; have := LS5.out; omega)⟩⟩
  rintro a' w5 ⟨tm, sk, rfl, hR⟩
  have HR := keep hR
  clear hR
  simp only [sets, Act.put, List.setIfInBounds_toArray, List.set_cons_zero, List.set_cons_succ]
  have VB := keep (VC.out w5 HR.out.2.1)
  have v4 : w5.cell? ⟨vb, 4, none⟩ = some (.slice none 0 0) := VB.out.2.2.2.2
  have b5 : Hid (Below w.heap.size w w5) := B4.out.trans (HR.out.2.1.below B4.out.size (fun g hg => by have e : g = eb := hg; have := l3.out; have := HEB.out; omega))
  have SG5 := keep (SG.out w5 b5.out)
  have PM5 := keep ((HR.out.2.1.block pm (Array.getElem?_eq_some_iff.1 M4.out).1 (fun e => by have e2 : pm = eb := e; have := HEB.out; omega)).trans M4.out)
  have sk5 : Hid (w.heap.size ≤ sk) := by have h1 := HR.out.2.2; have h2 := l3.out; show _ ≤ _; omega
  clear SG B4 E4 M4 G4 VC VB
  go_wp2_with fail
  refine wp_loop_rounds 1 ?_
  rw [rounds_succ]
  go_wp2_with fail
  refine SG5.out.mono ?_
  rintro e w6 ⟨rfl, hb6⟩
  have B6 := keep hb6
  clear hb6 SG5 v4
  go_wp2_with fail
  refine wp_loop_rounds 1 ?_
  rw [rounds_succ]
  go_wp2
  go_ret2
  exact ⟨eb, pm, tm, sk, rfl, HR.out.1.below B6.out, (B6.out.block pm (Array.getElem?_eq_some_iff.1 PM5.out).1).trans PM5.out, l3.out, (by have := l3.out; have := HEB.out; omega), sk5.out, b5.out.trans (B6.out.mono b5.out.size)⟩
end Go.Proofs.YtogphpejdnhnjaaGreatDoor
namespace Go.Proofs.YtogphpejdnhnjaaGreatDoor
open Go.RowKit Go.Maps

theorem EngAt.e0 {w : World} {eb db pm tm sk : Nat} {seq : Int} (h : EngAt w eb db pm tm sk seq) : w.cell? ⟨eb, 0, none⟩ = some (.pointer (some ⟨db, 0, none⟩)) := cell_of_row _ _ _ _ _ _ h.box
theorem EngAt.e1 {w : World} {eb db pm tm sk : Nat} {seq : Int} (h : EngAt w eb db pm tm sk seq) : w.cell? ⟨eb, 1, none⟩ = some (.int .i64 seq) := cell_of_row _ _ _ _ _ _ h.box
theorem EngAt.e2 {w : World} {eb db pm tm sk : Nat} {seq : Int} (h : EngAt w eb db pm tm sk seq) : w.cell? ⟨eb, 2, none⟩ = some (.map (some pm)) := cell_of_row _ _ _ _ _ _ h.box
theorem EngAt.e9 {w : World} {eb db pm tm sk : Nat} {seq : Int} (h : EngAt w eb db pm tm sk seq) : w.cell? ⟨eb, 9, none⟩ = some (.pointer (some ⟨sk, 0, none⟩)) := cell_of_row _ _ _ _ _ _ h.box
theorem EngAt.v {w : World} {eb db pm tm sk : Nat} {seq : Int} (h : EngAt w eb db pm tm sk seq) : w.cell? ⟨eb, 3, none⟩ = some (.int .i64 0) ∧ w.cell? ⟨eb, 4, none⟩ = some (.int .i64 0) ∧ w.cell? ⟨eb, 5, none⟩ = some (.int .i64 0) ∧ w.cell? ⟨eb, 6, none⟩ = some (.int .i64 0) ∧ w.cell? ⟨eb, 7, none⟩ = some (.slice none 0 0) := ⟨cell_of_row _ _ _ _ _ _ h.box, cell_of_row _ _ _ _ _ _ h.box, cell_of_row _ _ _ _ _ _ h.box, cell_of_row _ _ _ _ _ _ h.box, cell_of_row _ _ _ _ _ _ h.box⟩
theorem skipZ {w : World} {sk : Nat} (h : w.heap[sk]? = some (.cells listZ 173 (0, 0))) : SMem w sk [] := by
  refine ⟨⟨fun j hj => ?_, fun i n hn => by simp at hn, fun n hn => by cases hn⟩, (fun n hn => by cases hn), trivial, (fun n hn => by cases hn)⟩
  rw [cell_of_row _ _ _ _ _ _ h]
  have : j = 0 ∨ j = 1 ∨ j = 2 ∨ j = 3 ∨ j = 4 ∨ j = 5 ∨ j = 6 ∨ j = 7 ∨ j = 8 ∨ j = 9 ∨ j = 10 ∨ j = 11 := by omega
  rcases this with rfl | rfl | rfl | rfl | rfl | rfl | rfl | rfl | rfl | rfl | rfl | rfl <;> rfl
theorem own_pins {w : World} {pm : Nat} (h : w.heap[pm]? = some (.map #[] 0)) : w.ownsMap (H := Unit) Tryz.prog 3 (plainElem Tryz.prog 3) pm 0 (.map []) :=
  ⟨#[], 0, h, ⟨by simp, MapKept.stamped_empty 0, by simp⟩, Nat.le_refl _, rfl⟩
theorem zeroInt (w : World) : (zeroValue 3).run Tryz.prog w = .ok (.int .i64 0) w := by kernel_rfl
theorem pins_look {w : World} {pm : Nat} (h : w.heap[pm]? = some (.map #[] 0)) (s : Int) (hs : (Lit.int .i64 s).wf = true) : (Instr.lookup 97 (.map (some pm)) (.int .i64 s) false).run Tryz.prog w = .ok (.int .i64 0) w := by
  obtain ⟨c, h1, h2, _⟩ := (own_pins h).lookup_int (int_keyed Tryz.underlying3) Tryz.underlying97 Tryz.underlying3 (zeroInt w) (keyOf_int_mk Tryz.underlying3 hs)
  rw [h1]
  have h3 : (DataW.lit (.int .i64 0) : DataW Unit) = .lit (.int .i64 c) := h2
  cases h3
  rfl
theorem pins_store {w : World} {pm : Nat} (h : w.heap[pm]? = some (.map #[] 0)) (s : Int) (hs : (Lit.int .i64 s).wf = true) : ∃ w', (Instr.mapUpdate 97 (.map (some pm)) (.int .i64 s) (.int .i64 1)).run Tryz.prog w = .ok () w' ∧ w.grownBy w' (some pm) := by
  obtain ⟨w', h1, _, h3⟩ := (own_pins h).update (int_keyed Tryz.underlying3) Tryz.underlying97 (by unfold maxLen; decide) (keyOf_int_mk Tryz.underlying3 hs) (val := .int .i64 1) (plainElem_int Tryz.underlying3 (by decide))
  exact ⟨w', h1, h3⟩
set_option maxHeartbeats 1000000 in
set_option maxRecDepth 100000 in
theorem emade (eb db pm tm sk : Nat) (seq : Int) (w : World) (h : EngAt w eb db pm tm sk seq) :
    Calls Tryz.prog 180 #[.pointer (some ⟨eb, 0, none⟩)] w fun e w' => e = .returned (.bool true) ∧ w' = w := by
  have e0 := h.e0
  clear h
  go_enter Tryz.func180, Tryz.ntmps180
  go_wp2
  go_ret
  exact ⟨rfl, rfl⟩
set_option maxHeartbeats 4000000 in
set_option maxRecDepth 100000 in
theorem pin_none (eb db pm tm sk : Nat) (seq : Int) (w : World) (h : EngAt w eb db pm tm sk seq) (hp : w.heap[pm]? = some (.map #[] 0)) (hs : (Lit.int .i64 seq).wf = true) :
    Calls Tryz.prog 113 #[.pointer (some ⟨eb, 0, none⟩)] w fun e w' => e = .returned (.tuple #[.int .i64 seq, .int .i64 0]) ∧ Kept (At pm) w w' := by
  have H := keep h
  have HP := keep hp
  have HS := keep hs
  have EM := keep (emade eb db pm tm sk seq)
  have PM : Hid (∀ w', Below w.heap.size w w' → w'.heap[pm]? = some (.map #[] 0)) := fun w' hb => (hb.block pm (Array.getElem?_eq_some_iff.1 hp).1).trans hp
  have LN : Hid (∀ w', Below w.heap.size w w' → ∀ ty, (Builtin.len_ #[97] ty #[.map (some pm)]).run Tryz.prog w' = .ok (.int .i64 0) w') := fun w' hb ty => (own_pins (PM.out w' hb)).len Tryz.underlying97 ty
  have HE : Hid (∀ w', Kept (At pm) w w' → EngAt w' eb db pm tm sk seq) := fun w' hk => h.same (hk.block eb h.lt.1 (fun e => by have e2 : eb = pm := e; have h1 := h.box; rw [e2, hp] at h1; cases h1)) (hk.block sk h.lt.2 (fun e => by have e2 : sk = pm := e; have h1 := h.list; rw [e2, hp] at h1; cases h1))
  clear h hp hs
  go_enter Tryz.func113, Tryz.ntmps113
  go_wp2_with fail
  refine wp_region_held_drew (S := fun w' => Below w.heap.size w w') (by kernel_rfl) ((Below.refl _ _).drew) (fun hHeld => ?_)
  refine takeH (i := 0) 4 (v := .pointer (some ⟨eb, 0, none⟩)) rfl rfl (by kernel_rfl) (by kernel_rfl) (by kernel_rfl) (fun _ _ _ h => h) (Or.inl ⟨by rfl, ?_⟩) (by assumption) ?_
  · intro w' hSw'
    go_simp
  simp only [Act.put, List.setIfInBounds_toArray, List.set_cons_zero, List.set_cons_succ]
  refine wpAnyH_ready (rs := [1]) (by kernel_rfl) (by simp) ?_
  refine AllReadyH.cons rfl (fun K hK => ?_) AllReadyH.nil
  go_simp
  refine (EM.out _ (H.out.below (by assumption))).mono ?_
  rintro e w3 ⟨rfl, rfl⟩
  go_wp2_with fail
  refine hK.out _ _ (by assumption) (fun hHeld1 => ?_)
  clear hK K
  refine takeH (i := 2) 6 (v := .bool false) rfl rfl (by kernel_rfl) (by kernel_rfl) (by kernel_rfl) (fun _ _ _ h => h) (Or.inl ⟨by rfl, ?_⟩) (by assumption) ?_
  · intro w' hSw'
    go_simp
  simp only [Act.put, List.setIfInBounds_toArray, List.set_cons_zero, List.set_cons_succ]
  refine takeH (i := 3) 7 (v := .bool false) rfl rfl (by kernel_rfl) (by kernel_rfl) (by kernel_rfl) (fun _ _ _ h => h) (Or.inl ⟨by rfl, ?_⟩) (by assumption) ?_
  · intro w' hSw'
    go_simp
  simp only [Act.put, List.setIfInBounds_toArray, List.set_cons_zero, List.set_cons_succ]
  refine takeH (i := 4) 8 (v := .pointer (some ⟨eb, 0, none⟩)) rfl rfl (by kernel_rfl) (by kernel_rfl) (by kernel_rfl) (fun _ _ _ h => h) (Or.inl ⟨by rfl, ?_⟩) (by assumption) ?_
  · intro w' hSw'
    go_simp
  simp only [Act.put, List.setIfInBounds_toArray, List.set_cons_zero, List.set_cons_succ]
  refine takeH (i := 5) 9 (v := .pointer (some ⟨eb, 0, none⟩)) rfl rfl (by kernel_rfl) (by kernel_rfl) (by kernel_rfl) (fun _ _ _ h => h) (Or.inl ⟨by rfl, ?_⟩) (by assumption) ?_
  · intro w' hSw'
    go_simp
  simp only [Act.put, List.setIfInBounds_toArray, List.set_cons_zero, List.set_cons_succ]
  refine takeH (i := 6) 10 (v := .pointer (some ⟨eb, 2, none⟩)) rfl rfl (by kernel_rfl) (by kernel_rfl) (by kernel_rfl) (fun _ _ _ h => h) (Or.inl ⟨by rfl, ?_⟩) (by assumption) ?_
  · intro w' hSw'
    go_simp
  simp only [Act.put, List.setIfInBounds_toArray, List.set_cons_zero, List.set_cons_succ]
  refine takeH (i := 7) 11 (v := .map (some pm)) rfl rfl (by kernel_rfl) (by kernel_rfl) (by kernel_rfl) (fun _ _ _ h => h) (Or.inl ⟨by rfl, ?_⟩) (by assumption) ?_
  · intro w' hSw'
    have EE := H.out.below hSw'
    have d0 := EE.e0
    have d1 := EE.e1
    have d2 := EE.e2
    go_simp
  simp only [Act.put, List.setIfInBounds_toArray, List.set_cons_zero, List.set_cons_succ]
  refine takeH (i := 8) 12 (v := .pointer (some ⟨eb, 0, none⟩)) rfl rfl (by kernel_rfl) (by kernel_rfl) (by kernel_rfl) (fun _ _ _ h => h) (Or.inl ⟨by rfl, ?_⟩) (by assumption) ?_
  · intro w' hSw'
    go_simp
  simp only [Act.put, List.setIfInBounds_toArray, List.set_cons_zero, List.set_cons_succ]
  refine takeH (i := 9) 13 (v := .pointer (some ⟨eb, 0, none⟩)) rfl rfl (by kernel_rfl) (by kernel_rfl) (by kernel_rfl) (fun _ _ _ h => h) (Or.inl ⟨by rfl, ?_⟩) (by assumption) ?_
  · intro w' hSw'
    go_simp
  simp only [Act.put, List.setIfInBounds_toArray, List.set_cons_zero, List.set_cons_succ]
  refine takeH (i := 10) 14 (v := .pointer (some ⟨eb, 1, none⟩)) rfl rfl (by kernel_rfl) (by kernel_rfl) (by kernel_rfl) (fun _ _ _ h => h) (Or.inl ⟨by rfl, ?_⟩) (by assumption) ?_
  · intro w' hSw'
    go_simp
  simp only [Act.put, List.setIfInBounds_toArray, List.set_cons_zero, List.set_cons_succ]
  refine takeH (i := 11) 15 (v := .int .i64 seq) rfl rfl (by kernel_rfl) (by kernel_rfl) (by kernel_rfl) (fun _ _ _ h => h) (Or.inl ⟨by rfl, ?_⟩) (by assumption) ?_
  · intro w' hSw'
    have EE := H.out.below hSw'
    have d0 := EE.e0
    have d1 := EE.e1
    have d2 := EE.e2
    go_simp
  simp only [Act.put, List.setIfInBounds_toArray, List.set_cons_zero, List.set_cons_succ]
  refine takeH (i := 12) 16 (v := .int .i64 0) rfl rfl (by kernel_rfl) (by kernel_rfl) (by kernel_rfl) (fun _ _ _ h => h) (Or.inl ⟨by rfl, ?_⟩) (by assumption) ?_
  · intro w' hSw'
    have EE := H.out.below hSw'
    have hl := pins_look (PM.out w' hSw') seq HS.out
    go_simp
  simp only [Act.put, List.setIfInBounds_toArray, List.set_cons_zero, List.set_cons_succ]
  refine takeH (i := 13) 17 (v := .bool true) rfl rfl (by kernel_rfl) (by kernel_rfl) (by kernel_rfl) (fun _ _ _ h => h) (Or.inl ⟨by rfl, ?_⟩) (by assumption) ?_
  · intro w' hSw'
    go_simp
  simp only [Act.put, List.setIfInBounds_toArray, List.set_cons_zero, List.set_cons_succ]
  refine takeH (i := 14) 18 (v := .bool true) rfl rfl (by kernel_rfl) (by kernel_rfl) (by kernel_rfl) (fun _ _ _ h => h) (Or.inl ⟨by rfl, ?_⟩) (by assumption) ?_
  · intro w' hSw'
    go_simp
  simp only [Act.put, List.setIfInBounds_toArray, List.set_cons_zero, List.set_cons_succ]
  refine takeH (i := 15) 19 (v := .pointer (some ⟨eb, 0, none⟩)) rfl rfl (by kernel_rfl) (by kernel_rfl) (by kernel_rfl) (fun _ _ _ h => h) (Or.inl ⟨by rfl, ?_⟩) (by assumption) ?_
  · intro w' hSw'
    go_simp
  simp only [Act.put, List.setIfInBounds_toArray, List.set_cons_zero, List.set_cons_succ]
  refine takeH (i := 16) 20 (v := .pointer (some ⟨eb, 0, none⟩)) rfl rfl (by kernel_rfl) (by kernel_rfl) (by kernel_rfl) (fun _ _ _ h => h) (Or.inl ⟨by rfl, ?_⟩) (by assumption) ?_
  · intro w' hSw'
    go_simp
  simp only [Act.put, List.setIfInBounds_toArray, List.set_cons_zero, List.set_cons_succ]
  refine takeH (i := 17) 21 (v := .pointer (some ⟨eb, 2, none⟩)) rfl rfl (by kernel_rfl) (by kernel_rfl) (by kernel_rfl) (fun _ _ _ h => h) (Or.inl ⟨by rfl, ?_⟩) (by assumption) ?_
  · intro w' hSw'
    go_simp
  simp only [Act.put, List.setIfInBounds_toArray, List.set_cons_zero, List.set_cons_succ]
  refine takeH (i := 18) 0x16 (v := .map (some pm)) rfl rfl (by kernel_rfl) (by kernel_rfl) (by kernel_rfl) (fun _ _ _ h => h) (Or.inl ⟨by rfl, ?_⟩) (by assumption) ?_
  · intro w' hSw'
    have EE := H.out.below hSw'
    have d0 := EE.e0
    have d1 := EE.e1
    have d2 := EE.e2
    go_simp
  simp only [Act.put, List.setIfInBounds_toArray, List.set_cons_zero, List.set_cons_succ]
  refine takeH (i := 19) 23 (v := .int .i64 0) rfl rfl (by kernel_rfl) (by kernel_rfl) (by kernel_rfl) (fun _ _ _ h => h) (Or.inl ⟨by rfl, ?_⟩) (by assumption) ?_
  · intro w' hSw'
    have ln := LN.out w' hSw'
    go_simp
  simp only [Act.put, List.setIfInBounds_toArray, List.set_cons_zero, List.set_cons_succ]
  refine takeH (i := 20) 24 (v := .bool false) rfl rfl (by kernel_rfl) (by kernel_rfl) (by kernel_rfl) (fun _ _ _ h => h) (Or.inl ⟨by rfl, ?_⟩) (by assumption) ?_
  · intro w' hSw'
    go_simp
  simp only [Act.put, List.setIfInBounds_toArray, List.set_cons_zero, List.set_cons_succ]
  refine takeH (i := 21) 25 (v := .bool false) rfl rfl (by kernel_rfl) (by kernel_rfl) (by kernel_rfl) (fun _ _ _ h => h) (Or.inl ⟨by rfl, ?_⟩) (by assumption) ?_
  · intro w' hSw'
    go_simp
  simp only [Act.put, List.setIfInBounds_toArray, List.set_cons_zero, List.set_cons_succ]
  refine takeH (i := 0x16) 26 (v := .bool false) rfl rfl (by kernel_rfl) (by kernel_rfl) (by kernel_rfl) (fun _ _ _ h => h) (Or.inl ⟨by rfl, ?_⟩) (by assumption) ?_
  · intro w' hSw'
    go_simp
  simp only [Act.put, List.setIfInBounds_toArray, List.set_cons_zero, List.set_cons_succ]
  refine wpAnyH_done (by kernel_rfl) ?_ _
  clear LN
  go_wp2_with fail
  refine wp_region_held_drew (S := fun w' => Kept (At pm) w w') (by kernel_rfl) (((Kept.refl _ _).drew).drew) (fun hH3_ => ?_)
  refine takeH (i := 0) 27 (v := .pointer (some ⟨eb, 0, none⟩)) rfl rfl (by kernel_rfl) (by kernel_rfl) (by kernel_rfl) (fun _ _ _ h => h) (Or.inl ⟨by rfl, ?_⟩) (by assumption) ?_
  · intro w' hSw'
    go_simp
  simp only [Act.put, List.setIfInBounds_toArray, List.set_cons_zero, List.set_cons_succ]
  refine takeH (i := 1) 28 (v := .pointer (some ⟨eb, 0, none⟩)) rfl rfl (by kernel_rfl) (by kernel_rfl) (by kernel_rfl) (fun _ _ _ h => h) (Or.inl ⟨by rfl, ?_⟩) (by assumption) ?_
  · intro w' hSw'
    go_simp
  simp only [Act.put, List.setIfInBounds_toArray, List.set_cons_zero, List.set_cons_succ]
  refine takeH (i := 2) 29 (v := .pointer (some ⟨eb, 2, none⟩)) rfl rfl (by kernel_rfl) (by kernel_rfl) (by kernel_rfl) (fun _ _ _ h => h) (Or.inl ⟨by rfl, ?_⟩) (by assumption) ?_
  · intro w' hSw'
    go_simp
  simp only [Act.put, List.setIfInBounds_toArray, List.set_cons_zero, List.set_cons_succ]
  refine takeH (i := 3) 30 (v := .map (some pm)) rfl rfl (by kernel_rfl) (by kernel_rfl) (by kernel_rfl) (fun _ _ _ h => h) (Or.inl ⟨by rfl, ?_⟩) (by assumption) ?_
  · intro w' hSw'
    have EE := HE.out w' hSw'
    have d0 := EE.e0
    have d1 := EE.e1
    have d2 := EE.e2
    go_simp
  simp only [Act.put, List.setIfInBounds_toArray, List.set_cons_zero, List.set_cons_succ]
  refine takeH (i := 4) 31 (v := .pointer (some ⟨eb, 0, none⟩)) rfl rfl (by kernel_rfl) (by kernel_rfl) (by kernel_rfl) (fun _ _ _ h => h) (Or.inl ⟨by rfl, ?_⟩) (by assumption) ?_
  · intro w' hSw'
    go_simp
  simp only [Act.put, List.setIfInBounds_toArray, List.set_cons_zero, List.set_cons_succ]
  refine takeH (i := 5) 32 (v := .pointer (some ⟨eb, 0, none⟩)) rfl rfl (by kernel_rfl) (by kernel_rfl) (by kernel_rfl) (fun _ _ _ h => h) (Or.inl ⟨by rfl, ?_⟩) (by assumption) ?_
  · intro w' hSw'
    go_simp
  simp only [Act.put, List.setIfInBounds_toArray, List.set_cons_zero, List.set_cons_succ]
  refine takeH (i := 6) 33 (v := .pointer (some ⟨eb, 1, none⟩)) rfl rfl (by kernel_rfl) (by kernel_rfl) (by kernel_rfl) (fun _ _ _ h => h) (Or.inl ⟨by rfl, ?_⟩) (by assumption) ?_
  · intro w' hSw'
    go_simp
  simp only [Act.put, List.setIfInBounds_toArray, List.set_cons_zero, List.set_cons_succ]
  refine takeH (i := 7) 34 (v := .int .i64 seq) rfl rfl (by kernel_rfl) (by kernel_rfl) (by kernel_rfl) (fun _ _ _ h => h) (Or.inl ⟨by rfl, ?_⟩) (by assumption) ?_
  · intro w' hSw'
    have EE := HE.out w' hSw'
    have d0 := EE.e0
    have d1 := EE.e1
    have d2 := EE.e2
    go_simp
  simp only [Act.put, List.setIfInBounds_toArray, List.set_cons_zero, List.set_cons_succ]
  refine wpAnyH_ready (rs := [8]) (by kernel_rfl) (by simp) ?_
  refine AllReadyH.cons rfl (fun K hK => ?_) AllReadyH.nil
  have hl := pins_look (w := w.drew.drew) HP.out seq HS.out
  go_simp
  refine hK.out _ _ (((Kept.refl _ _).drew).drew) (fun hH3_2 => ?_)
  clear hK K
  refine takeH (i := 9) 36 (v := .int .i64 1) rfl rfl (by kernel_rfl) (by kernel_rfl) (by kernel_rfl) (fun _ _ _ h => h) (Or.inl ⟨by rfl, ?_⟩) (by assumption) ?_
  · intro w' hSw'
    go_simp
    rfl
  simp only [Act.put, List.setIfInBounds_toArray, List.set_cons_zero, List.set_cons_succ]
  refine wpAnyH_ready (rs := [10]) (by kernel_rfl) (by simp) ?_
  refine AllReadyH.cons rfl (fun K hK => ?_) AllReadyH.nil
  obtain ⟨w5, hrun, hg⟩ := pins_store (w := w.drew.drew) HP.out seq HS.out
  have K5 : Hid (Kept (At pm) w w5) := (((Kept.refl _ _).drew).drew).grown hg (fun k e => by cases e; exact .inl rfl)
  have E5 := keep (HE.out _ K5.out)
  have z1 := E5.out.e1
  go_simp
  refine hK.out _ _ (K5.out) (fun hB2 => ?_)
  clear hK K hrun hg
  refine wpAnyH_done (by kernel_rfl) ?_ _
  go_wp2
  go_ret2
  exact ⟨rfl, K5.out⟩
set_option maxHeartbeats 1000000 in
set_option maxRecDepth 100000 in
theorem find_zero (kp : Option Addr) (kn kc : Nat) (w : World) :
    Calls Tryz.prog 255 #[verZ, .slice kp kn kc] w fun e w' => e = .returned (.slice none 0 0) ∧ Below w.heap.size w w' := by
  have b1 := keep ((Below.refl _ w).alloc (Nat.le_refl _) (.cells #[.int .i64 0, .int .i64 0, .int .i64 0, .int .i64 0, .slice none 0 0] 93))
  unfold verZ
  go_enter Tryz.func255, Tryz.ntmps255
  go_wp2_with fail
  refine wp_loop_rounds 1 ?_
  rw [rounds_succ]
  go_wp2
  go_ret
  exact ⟨rfl, b1.out⟩
set_option maxHeartbeats 4000000 in
set_option maxRecDepth 100000 in
theorem efind_none (eb db pm tm sk : Nat) (seq : Int) (kp : Option Addr) (kc : Nat) (key : List UInt8) (s : Int) (w : World) (h : EngAt w eb db pm tm sk seq) (hk : Src w kp key.length kc key) :
    Calls Tryz.prog 185 #[.pointer (some ⟨eb, 0, none⟩), .slice kp key.length kc, .int .i64 s] w fun e w' => e = .returned (.tuple #[.agg #[.slice none 0 0, .int .i64 0, .bool false, .slice none 0 0], .bool false]) ∧ Below w.heap.size w w' := by
  obtain ⟨W1, hW1⟩ : ∃ W1, w.alloc (.cells #[.slice none 0 0, .int .i64 0, .bool false, .slice none 0 0] 131) = W1 := ⟨_, rfl⟩
  have b1 : Hid (Below w.heap.size w W1) := by rw [← hW1]; exact (Below.refl _ _).alloc (Nat.le_refl _) _
  have g1 : Hid (W1.heap[w.heap.size]? = some (.cells #[.slice none 0 0, .int .i64 0, .bool false, .slice none 0 0] 131)) := by rw [← hW1]; exact heap_alloc_new w _
  have s1 : Hid (w.heap.size < W1.heap.size) := by rw [← hW1]; simp; trivial
  have H := keep h
  have E1 := keep (h.below b1.out)
  have e9 := E1.out.e9
  have GN := keep (get_none sk [] kp kc key s W1 (skipZ E1.out.list) (hk.below b1.out) rfl)
  have FZ := keep (find_zero kp key.length kc)
  unfold verZ at FZ
  clear h hk
  go_enter Tryz.func185, Tryz.ntmps185
  go_wp2_with fail
  refine GN.out.mono ?_
  rintro e w2 ⟨rfl, hb2⟩
  have B2 := keep (b1.out.trans (hb2.mono b1.out.size))
  have G2 := keep ((hb2.block _ s1.out).trans g1.out)
  have b3 := keep (B2.out.alloc B2.out.size (.cells #[.slice none 0 0, .int .i64 0, .bool false, .slice none 0 0] 131))
  have EE := keep (H.out.below b3.out)
  obtain ⟨v0, v1, v2, v3, v4⟩ := EE.out.v
  clear GN hb2 e9 hW1
  unfold ev evZ
  simp only
  go_wp2_with fail
  refine (FZ.out _).mono ?_
  rintro e w4 ⟨rfl, hb4⟩
  have B4 := keep (b3.out.trans (hb4.mono b3.out.size))
  have N3 := keep (heap_alloc_new w2 (.cells #[.slice none 0 0, .int .i64 0, .bool false, .slice none 0 0] 131))
  have G3 := keep ((Below.heap_alloc w2 (.cells #[.slice none 0 0, .int .i64 0, .bool false, .slice none 0 0] 131) w.heap.size (Array.getElem?_eq_some_iff.1 G2.out).1).trans G2.out)
  have N4 := keep ((hb4.block _ (Array.getElem?_eq_some_iff.1 N3.out).1).trans N3.out)
  have G4 := keep ((hb4.block _ (Array.getElem?_eq_some_iff.1 G3.out).1).trans G3.out)
  clear hb4 FZ v0 v1 v2 v3 v4 EE b3 N3 G3
  have y0 : w4.cell? ⟨w2.heap.size, 0, none⟩ = some (.slice none 0 0) := cell_of_row _ _ _ _ _ _ N4.out
  have y1 : w4.cell? ⟨w2.heap.size, 1, none⟩ = some (.int .i64 0) := cell_of_row _ _ _ _ _ _ N4.out
  have y2 : w4.cell? ⟨w2.heap.size, 2, none⟩ = some (.bool false) := cell_of_row _ _ _ _ _ _ N4.out
  have y3 : w4.cell? ⟨w2.heap.size, 3, none⟩ = some (.slice none 0 0) := cell_of_row _ _ _ _ _ _ N4.out
  have z0 : w4.cell? ⟨w.heap.size, 0, none⟩ = some (.slice none 0 0) := cell_of_row _ _ _ _ _ _ G4.out
  have z1 : w4.cell? ⟨w.heap.size, 1, none⟩ = some (.int .i64 0) := cell_of_row _ _ _ _ _ _ G4.out
  have z2 : w4.cell? ⟨w.heap.size, 2, none⟩ = some (.bool false) := cell_of_row _ _ _ _ _ _ G4.out
  have z3 : w4.cell? ⟨w.heap.size, 3, none⟩ = some (.slice none 0 0) := cell_of_row _ _ _ _ _ _ G4.out
  have f0 : w4.frozen? ⟨w.heap.size, 0, none⟩ = false := by simp [World.frozen?, G4.out]
  have f1 : w4.frozen? ⟨w.heap.size, 1, none⟩ = false := by simp [World.frozen?, G4.out]
  have f2 : w4.frozen? ⟨w.heap.size, 2, none⟩ = false := by simp [World.frozen?, G4.out]
  have f3 : w4.frozen? ⟨w.heap.size, 3, none⟩ = false := by simp [World.frozen?, G4.out]
  go_wp2_with fail
  refine wp_loop_rounds 1 ?_
  rw [rounds_succ]
  go_wp2
  refine ⟨rfl, .tuple #[.agg #[.slice none 0 0, .int .i64 0, .bool false, .slice none 0 0], .bool false], ?_, rfl, ?_⟩
  · have r0 : (w4.setCell ⟨w.heap.size, 0, none⟩ (.slice none 0 0)).cell? ⟨w.heap.size, 0, none⟩ = some (.slice none 0 0) := World.cell?_setCell_same' _ _ _ (by simp [go_sem, z0])
    have r1 : ((w4.setCell ⟨w.heap.size, 0, none⟩ (.slice none 0 0)).setCell ⟨w.heap.size, 1, none⟩ (.int .i64 0)).cell? ⟨w.heap.size, 1, none⟩ = some (.int .i64 0) := World.cell?_setCell_same' _ _ _ (by simp [go_sem, z1])
    have r2 : (((w4.setCell ⟨w.heap.size, 0, none⟩ (.slice none 0 0)).setCell ⟨w.heap.size, 1, none⟩ (.int .i64 0)).setCell ⟨w.heap.size, 2, none⟩ (.bool false)).cell? ⟨w.heap.size, 2, none⟩ = some (.bool false) := World.cell?_setCell_same' _ _ _ (by simp [go_sem, z2])
    have r3 : ((((w4.setCell ⟨w.heap.size, 0, none⟩ (.slice none 0 0)).setCell ⟨w.heap.size, 1, none⟩ (.int .i64 0)).setCell ⟨w.heap.size, 2, none⟩ (.bool false)).setCell ⟨w.heap.size, 3, none⟩ (.slice none 0 0)).cell? ⟨w.heap.size, 3, none⟩ = some (.slice none 0 0) := World.cell?_setCell_same' _ _ _ (by simp [go_sem, z3])
    simp [results, Tryz.f185, go_sem, loadCells, loadCellsFrom, r0, r1, r2, r3]
  · exact ((((B4.out.setCell (p := ⟨w.heap.size, 0, none⟩) (Nat.le_refl _) _).setCell (p := ⟨w.heap.size, 1, none⟩) (Nat.le_refl _) _).setCell (p := ⟨w.heap.size, 2, none⟩) (Nat.le_refl _) _).setCell (p := ⟨w.heap.size, 3, none⟩) (Nat.le_refl _) _)
set_option maxHeartbeats 2000000 in
set_option maxRecDepth 100000 in
theorem eget_none (eb db pm tm sk : Nat) (seq : Int) (kp : Option Addr) (kc : Nat) (key : List UInt8) (s : Int) (w : World) (h : EngAt w eb db pm tm sk seq) (hk : Src w kp key.length kc key) :
    Calls Tryz.prog 121 #[.pointer (some ⟨eb, 0, none⟩), .slice kp key.length kc, .int .i64 s] w fun e w' => e = .returned (.tuple #[.slice none 0 0, .int .i64 6]) ∧ Below w.heap.size w w' := by
  have H := keep h
  have FI := keep (efind_none eb db pm tm sk seq kp kc key s w h hk)
  clear h hk
  go_enter Tryz.func121, Tryz.ntmps121
  go_wp2_with fail
  refine (emade eb db pm tm sk seq w H.out).mono ?_
  rintro e w1 ⟨rfl, rfl⟩
  go_wp2_with fail
  refine FI.out.mono ?_
  rintro e w2 ⟨rfl, hb2⟩
  have B2 := keep hb2
  have B3 := keep (hb2.alloc hb2.size (.cells #[.slice none 0 0, .int .i64 0, .bool false, .slice none 0 0] 131))
  clear hb2 FI
  go_wp2
  go_ret2
  exact ⟨rfl, B3.out⟩
end Go.Proofs.YtogphpejdnhnjaaGreatDoor
namespace Go.Proofs.YtogphpejdnhnjaaGreatDoor
open Go.RowKit Go.Maps

/-- A change as a transaction keeps it. -/
def Chg (w : World) (v : Value) (val : List UInt8) : Prop := ∃ kp kn kc vp vc, v = .agg #[.slice kp kn kc, .bool false, .slice vp val.length vc] ∧ Src w vp val.length vc val
theorem Chg.kept {w w' : World} {v : Value} {val : List UInt8} {m : Nat} (h : Chg w v val) (hk : Kept (At m) w w') (hm : ∀ c t f, w.heap[m]? ≠ some (.cells c t f)) : Chg w' v val := by
  obtain ⟨kp, kn, kc, vp, vc, rfl, hs⟩ := h
  refine ⟨kp, kn, kc, vp, vc, rfl, hs.len, hs.cap, hs.nil, fun ad had j u hu => ?_⟩
  have hc := hs.cells ad had j u hu
  rw [hk.cell (World.block_lt_of_cell? w _ hc) (fun e => ?_)]
  · exact hc
  · have e2 : (ad.add j).block = m := e
    unfold World.cell? at hc
    rw [e2] at hc
    cases hx : w.heap[m]? with
    | none => rw [hx] at hc; cases hc
    | some o =>
      cases o with
      | cells c t f => exact hm c t f hx
      | _ => rw [hx] at hc; cases hc
/-- A transaction that has begun: its engine, its number, what it writes. -/
structure TxnAt (w : World) (tb eb wm gm : Nat) (seq : Int) (l : List Named) : Prop where
  box : w.heap[tb]? = some (.cells #[.int .i64 1, .pointer (some ⟨eb, 0, none⟩), .int .i64 seq, .map (some wm), .map (some gm)] 211 (0, 0))
  map : MapIs Tryz.prog 9 w wm l
  few : l.length ≤ 256
section
variable {w w' : World} {tb eb wm gm : Nat} {seq : Int} {l : List Named}
theorem TxnAt.t0 (h : TxnAt w tb eb wm gm seq l) : w.cell? ⟨tb, 0, none⟩ = some (.int .i64 1) := cell_of_row _ _ _ _ _ _ h.box
theorem TxnAt.t1 (h : TxnAt w tb eb wm gm seq l) : w.cell? ⟨tb, 1, none⟩ = some (.pointer (some ⟨eb, 0, none⟩)) := cell_of_row _ _ _ _ _ _ h.box
theorem TxnAt.t2 (h : TxnAt w tb eb wm gm seq l) : w.cell? ⟨tb, 2, none⟩ = some (.int .i64 seq) := cell_of_row _ _ _ _ _ _ h.box
theorem TxnAt.t3 (h : TxnAt w tb eb wm gm seq l) : w.cell? ⟨tb, 3, none⟩ = some (.map (some wm)) := cell_of_row _ _ _ _ _ _ h.box
theorem TxnAt.lt (h : TxnAt w tb eb wm gm seq l) : tb < w.heap.size ∧ wm < w.heap.size := ⟨(Array.getElem?_eq_some_iff.1 h.box).1, h.map.lt⟩
theorem TxnAt.below (h : TxnAt w tb eb wm gm seq l) (hb : Below w.heap.size w w') : TxnAt w' tb eb wm gm seq l := ⟨(hb.block _ h.lt.1).trans h.box, h.map.same (hb.block _ h.lt.2), h.few⟩
theorem TxnAt.nocell (h : TxnAt w tb eb wm gm seq l) : ∀ c t f, w.heap[wm]? ≠ some (.cells c t f) := by
  obtain ⟨_, es, clock, hb, _⟩ := h.map
  intro c t f e
  rw [hb] at e
  cases e
end
def chgZ : Value := .agg #[.slice none 0 0, .bool false, .slice none 0 0]
theorem zero_chg (w : World) : (zeroValue 218).run Tryz.prog w = .ok chgZ w := by
  simp [zeroValue, chgZ]
  kernel_rfl
theorem writes_look {w : World} {wm : Nat} {l : List Named} (h : MapIs Tryz.prog 9 w wm l) (n : List UInt8) (hn : n.length ≤ maxLen) :
    (Instr.lookup 208 (.map (some wm)) (.string ⟨n.toArray⟩) true).run Tryz.prog w = .ok (.tuple #[(seek l n).getD chgZ, .bool (seek l n).isSome]) w :=
  h.look_ok Tryz.underlying9 Tryz.underlying208 (zero_chg w) n hn
set_option maxHeartbeats 1000000 in
set_option maxRecDepth 100000 in
theorem tready (tb eb wm gm : Nat) (seq : Int) (l : List Named) (w : World) (h : TxnAt w tb eb wm gm seq l) :
    Calls Tryz.prog 120 #[.pointer (some ⟨tb, 0, none⟩)] w fun e w' => e = .returned (.int .i64 0) ∧ w' = w := by
  have t0 := h.t0
  clear h
  go_enter Tryz.func120, Tryz.ntmps120
  go_wp2
  go_ret
  exact ⟨rfl, rfl⟩
set_option maxHeartbeats 1000000 in
set_option maxRecDepth 100000 in
theorem begin_none (eb db pm tm sk : Nat) (seq : Int) (w : World) (h : EngAt w eb db pm tm sk seq) (hp : w.heap[pm]? = some (.map #[] 0)) (hs : (Lit.int .i64 seq).wf = true) :
    Calls Tryz.prog 47 #[.pointer (some ⟨eb, 0, none⟩)] w fun e w' => ∃ tb wm gm, e = .returned (.tuple #[.pointer (some ⟨tb, 0, none⟩), .int .i64 0]) ∧ TxnAt w' tb eb wm gm seq [] ∧ w.heap.size ≤ tb ∧ w.heap.size ≤ wm ∧ Kept (At pm) w w' := by
  have PN := keep (pin_none eb db pm tm sk seq w h hp hs)
  have hmm := @run_makeMap Tryz.prog
  clear h hp hs
  go_enter Tryz.func47, Tryz.ntmps47
  go_wp2_with fail
  refine PN.out.mono ?_
  rintro e w1 ⟨rfl, hk1⟩
  have K1 := keep hk1
  clear hk1 PN
  go_wp2
  go_ret2
  have s3 : ((w1.alloc (.map #[] 0)).alloc (.map #[] 0)).heap.size = w1.heap.size + 2 := by simp
  refine ⟨_, w1.heap.size, w1.heap.size + 1, rfl, ⟨?_, ?_, by decide⟩, ?_, K1.out.size, ((K1.out.alloc _).alloc _).alloc _⟩
  · have := heap_alloc_new ((w1.alloc (.map #[] 0)).alloc (.map #[] 0)) (.cells #[.int .i64 1, .pointer (some ⟨eb, 0, none⟩), .int .i64 seq, .map (some w1.heap.size), .map (some (w1.heap.size + 1))] 211)
    rw [s3] at this
    exact this
  · exact (((MapIs.made Tryz.prog 9 w1).kept (World.grownBy_alloc _ _ none) (by simp)).kept (World.grownBy_alloc _ _ none) (by simp))
  · have := K1.out.size; omega
set_option maxHeartbeats 4000000 in
set_option maxRecDepth 100000 in
theorem tget_none (tb eb wm gm db pm tm sk : Nat) (seq : Int) (l : List Named) (kp : Option Addr) (kc : Nat) (key : List UInt8) (w : World) (h : TxnAt w tb eb wm gm seq l) (he : EngAt w eb db pm tm sk seq) (hk : Src w kp key.length kc key) (hkl : key.length ≤ maxLen) (hx : seek l key = none) :
    Calls Tryz.prog 59 #[.pointer (some ⟨tb, 0, none⟩), .slice kp key.length kc] w fun e w' => e = .returned (.tuple #[.slice none 0 0, .int .i64 6]) ∧ Below w.heap.size w w' := by
  have H := keep h
  have HE := keep he
  have HK := keep hk
  have HL : Hid (∀ w', Below w.heap.size w w' → (Instr.lookup 208 (.map (some wm)) (.string ⟨key.toArray⟩) true).run Tryz.prog w' = .ok (.tuple #[.agg #[.slice none 0 0, .bool false, .slice none 0 0], .bool false]) w') := by
    intro w' hb
    have := writes_look (h.below hb).map key hkl
    rw [hx] at this
    exact this
  clear h he hk hx
  go_enter Tryz.func59, Tryz.ntmps59
  go_wp2_with fail
  refine (tready tb eb wm gm seq l w H.out).mono ?_
  rintro e w1 ⟨rfl, rfl⟩
  go_wp2_with fail
  refine wp_region_held_drew (S := fun w' => Below w1.heap.size w1 w') (by kernel_rfl) ((Below.refl _ _).drew) (fun hHeld => ?_)
  refine takeH (i := 0) 15 (v := .pointer (some ⟨tb, 0, none⟩)) rfl rfl (by kernel_rfl) (by kernel_rfl) (by kernel_rfl) (fun _ _ _ h => h) (Or.inl ⟨by rfl, ?_⟩) (by assumption) ?_
  · intro w' hSw'
    go_simp
  simp only [Act.put, List.setIfInBounds_toArray, List.set_cons_zero, List.set_cons_succ]
  refine takeH (i := 1) 16 (v := .pointer (some ⟨tb, 0, none⟩)) rfl rfl (by kernel_rfl) (by kernel_rfl) (by kernel_rfl) (fun _ _ _ h => h) (Or.inl ⟨by rfl, ?_⟩) (by assumption) ?_
  · intro w' hSw'
    go_simp
  simp only [Act.put, List.setIfInBounds_toArray, List.set_cons_zero, List.set_cons_succ]
  refine takeH (i := 2) 17 (v := .pointer (some ⟨tb, 3, none⟩)) rfl rfl (by kernel_rfl) (by kernel_rfl) (by kernel_rfl) (fun _ _ _ h => h) (Or.inl ⟨by rfl, ?_⟩) (by assumption) ?_
  · intro w' hSw'
    go_simp
  simp only [Act.put, List.setIfInBounds_toArray, List.set_cons_zero, List.set_cons_succ]
  refine takeH (i := 3) 18 (v := .map (some wm)) rfl rfl (by kernel_rfl) (by kernel_rfl) (by kernel_rfl) (fun _ _ _ h => h) (Or.inl ⟨by rfl, ?_⟩) (by assumption) ?_
  · intro w' hSw'
    have TT := H.out.below hSw'
    have d1 := TT.t1
    have d2 := TT.t2
    have d3 := TT.t3
    go_simp
  simp only [Act.put, List.setIfInBounds_toArray, List.set_cons_zero, List.set_cons_succ]
  refine takeH (i := 4) 19 (v := .slice kp key.length kc) rfl rfl (by kernel_rfl) (by kernel_rfl) (by kernel_rfl) (fun _ _ _ h => h) (Or.inl ⟨by rfl, ?_⟩) (by assumption) ?_
  · intro w' hSw'
    go_simp
  simp only [Act.put, List.setIfInBounds_toArray, List.set_cons_zero, List.set_cons_succ]
  refine takeH (i := 5) 20 (v := .string ⟨key.toArray⟩) rfl rfl (by kernel_rfl) (by kernel_rfl) (by kernel_rfl) (fun _ _ _ h => h) (Or.inl ⟨by rfl, ?_⟩) (by assumption) ?_
  · intro w' hSw'
    have cs := conv_src (HK.out.below hSw')
    go_simp
  simp only [Act.put, List.setIfInBounds_toArray, List.set_cons_zero, List.set_cons_succ]
  refine takeH (i := 6) 21 (v := .tuple #[.agg #[.slice none 0 0, .bool false, .slice none 0 0], .bool false]) rfl rfl (by kernel_rfl) (by kernel_rfl) (by kernel_rfl) (fun _ _ _ h => h) (Or.inl ⟨by rfl, ?_⟩) (by assumption) ?_
  · intro w' hSw'
    have hl := HL.out w' hSw'
    go_simp
  simp only [Act.put, List.setIfInBounds_toArray, List.set_cons_zero, List.set_cons_succ]
  refine takeH (i := 7) 14 (v := .tuple #[.agg #[.slice none 0 0, .bool false, .slice none 0 0], .bool false]) rfl rfl (by kernel_rfl) (by kernel_rfl) (by kernel_rfl) (fun _ _ _ h => h) (Or.inl ⟨by rfl, ?_⟩) (by assumption) ?_
  · intro w' hSw'
    go_simp
  simp only [Act.put, List.setIfInBounds_toArray, List.set_cons_zero, List.set_cons_succ]
  refine takeH (i := 8) 0x16 (v := .agg #[.slice none 0 0, .bool false, .slice none 0 0]) rfl rfl (by kernel_rfl) (by kernel_rfl) (by kernel_rfl) (fun _ _ _ h => h) (Or.inl ⟨by rfl, ?_⟩) (by assumption) ?_
  · intro w' hSw'
    go_simp
  simp only [Act.put, List.setIfInBounds_toArray, List.set_cons_zero, List.set_cons_succ]
  refine takeH (i := 9) 23 (v := .bool false) rfl rfl (by kernel_rfl) (by kernel_rfl) (by kernel_rfl) (fun _ _ _ h => h) (Or.inl ⟨by rfl, ?_⟩) (by assumption) ?_
  · intro w' hSw'
    go_simp
  simp only [Act.put, List.setIfInBounds_toArray, List.set_cons_zero, List.set_cons_succ]
  refine wpAnyH_ready (rs := [10]) (by kernel_rfl) (by simp) ?_
  refine AllReadyH.cons rfl (fun K hK => ?_) AllReadyH.nil
  go_simp
  have b5 : Hid (Below w1.heap.size w1 (w1.drew.alloc (.cells #[.slice none 0 0, .bool false, .slice none 0 0] 218))) := ((Below.refl _ _).drew).alloc (Nat.le_refl _) _
  refine hK.out _ _ (b5.out) (fun hA2 => ?_)
  clear hK K
  refine wpAnyH_ready (rs := [11]) (by kernel_rfl) (by simp) ?_
  refine AllReadyH.cons rfl (fun K hK => ?_) AllReadyH.nil
  go_simp
  refine hK.out _ _ (((Below.refl _ _).drew).alloc (Nat.le_refl _) _) (fun hA3 => ?_)
  clear hK K
  refine takeH (i := 12) 8 (v := .bool false) rfl rfl (by kernel_rfl) (by kernel_rfl) (by kernel_rfl) (fun _ _ _ h => h) (Or.inl ⟨by rfl, ?_⟩) (by assumption) ?_
  · intro w' hSw'
    go_simp
  simp only [Act.put, List.setIfInBounds_toArray, List.set_cons_zero, List.set_cons_succ]
  refine wpAnyH_done (by kernel_rfl) ?_ _
  obtain ⟨w5, hw5⟩ : ∃ w5, (w1.alloc (.cells #[.slice none 0 0, .bool false, .slice none 0 0] 218)).drew = w5 := ⟨_, rfl⟩
  have B5 : Hid (Below w1.heap.size w1 w5) := by rw [← hw5]; exact ((Below.refl _ _).alloc (Nat.le_refl _) _).drew
  rw [hw5]
  clear hw5
  go_wp2_with fail
  refine wp_region_held_drew (S := fun w' => Below w5.heap.size w5 w') (by kernel_rfl) ((Below.refl _ _).drew) (fun hH6_ => ?_)
  refine takeH (i := 0) 27 (v := .pointer (some ⟨tb, 0, none⟩)) rfl rfl (by kernel_rfl) (by kernel_rfl) (by kernel_rfl) (fun _ _ _ h => h) (Or.inl ⟨by rfl, ?_⟩) (by assumption) ?_
  · intro w' hSw'
    go_simp
  simp only [Act.put, List.setIfInBounds_toArray, List.set_cons_zero, List.set_cons_succ]
  refine takeH (i := 1) 28 (v := .pointer (some ⟨tb, 0, none⟩)) rfl rfl (by kernel_rfl) (by kernel_rfl) (by kernel_rfl) (fun _ _ _ h => h) (Or.inl ⟨by rfl, ?_⟩) (by assumption) ?_
  · intro w' hSw'
    go_simp
  simp only [Act.put, List.setIfInBounds_toArray, List.set_cons_zero, List.set_cons_succ]
  refine takeH (i := 2) 29 (v := .pointer (some ⟨tb, 1, none⟩)) rfl rfl (by kernel_rfl) (by kernel_rfl) (by kernel_rfl) (fun _ _ _ h => h) (Or.inl ⟨by rfl, ?_⟩) (by assumption) ?_
  · intro w' hSw'
    go_simp
  simp only [Act.put, List.setIfInBounds_toArray, List.set_cons_zero, List.set_cons_succ]
  refine takeH (i := 3) 30 (v := .pointer (some ⟨eb, 0, none⟩)) rfl rfl (by kernel_rfl) (by kernel_rfl) (by kernel_rfl) (fun _ _ _ h => h) (Or.inl ⟨by rfl, ?_⟩) (by assumption) ?_
  · intro w' hSw'
    have TT := H.out.below (B5.out.trans (hSw'.mono B5.out.size))
    have d1 := TT.t1
    have d2 := TT.t2
    have d3 := TT.t3
    go_simp
  simp only [Act.put, List.setIfInBounds_toArray, List.set_cons_zero, List.set_cons_succ]
  refine takeH (i := 4) 31 (v := .slice kp key.length kc) rfl rfl (by kernel_rfl) (by kernel_rfl) (by kernel_rfl) (fun _ _ _ h => h) (Or.inl ⟨by rfl, ?_⟩) (by assumption) ?_
  · intro w' hSw'
    go_simp
  simp only [Act.put, List.setIfInBounds_toArray, List.set_cons_zero, List.set_cons_succ]
  refine takeH (i := 5) 32 (v := .pointer (some ⟨tb, 0, none⟩)) rfl rfl (by kernel_rfl) (by kernel_rfl) (by kernel_rfl) (fun _ _ _ h => h) (Or.inl ⟨by rfl, ?_⟩) (by assumption) ?_
  · intro w' hSw'
    go_simp
  simp only [Act.put, List.setIfInBounds_toArray, List.set_cons_zero, List.set_cons_succ]
  refine takeH (i := 6) 33 (v := .pointer (some ⟨tb, 0, none⟩)) rfl rfl (by kernel_rfl) (by kernel_rfl) (by kernel_rfl) (fun _ _ _ h => h) (Or.inl ⟨by rfl, ?_⟩) (by assumption) ?_
  · intro w' hSw'
    go_simp
  simp only [Act.put, List.setIfInBounds_toArray, List.set_cons_zero, List.set_cons_succ]
  refine takeH (i := 7) 34 (v := .pointer (some ⟨tb, 2, none⟩)) rfl rfl (by kernel_rfl) (by kernel_rfl) (by kernel_rfl) (fun _ _ _ h => h) (Or.inl ⟨by rfl, ?_⟩) (by assumption) ?_
  · intro w' hSw'
    go_simp
  simp only [Act.put, List.setIfInBounds_toArray, List.set_cons_zero, List.set_cons_succ]
  refine takeH (i := 8) 35 (v := .int .i64 seq) rfl rfl (by kernel_rfl) (by kernel_rfl) (by kernel_rfl) (fun _ _ _ h => h) (Or.inl ⟨by rfl, ?_⟩) (by assumption) ?_
  · intro w' hSw'
    have TT := H.out.below (B5.out.trans (hSw'.mono B5.out.size))
    have d1 := TT.t1
    have d2 := TT.t2
    have d3 := TT.t3
    go_simp
  simp only [Act.put, List.setIfInBounds_toArray, List.set_cons_zero, List.set_cons_succ]
  refine wpAnyH_ready (rs := [9]) (by kernel_rfl) (by simp) ?_
  refine AllReadyH.cons rfl (fun K hK => ?_) AllReadyH.nil
  go_simp
  refine (eget_none eb db pm tm sk seq kp kc key seq _ (HE.out.below (B5.out.trans (Below.mono (by assumption) B5.out.size))) (HK.out.below (B5.out.trans (Below.mono (by assumption) B5.out.size)))).mono ?_
  rintro e w6 ⟨rfl, hb6⟩
  have B6 : Hid (Below w5.heap.size w5 w6) := ((Below.refl _ _).drew).trans (hb6.mono (Nat.le_refl _))
  clear hb6
  go_wp2_with fail
  refine hK.out _ _ (B6.out) (fun hH6_1 => ?_)
  clear hK K
  refine takeH (i := 10) 37 (v := .slice none 0 0) rfl rfl (by kernel_rfl) (by kernel_rfl) (by kernel_rfl) (fun _ _ _ h => h) (Or.inl ⟨by rfl, ?_⟩) (by assumption) ?_
  · intro w' hSw'
    go_simp
  simp only [Act.put, List.setIfInBounds_toArray, List.set_cons_zero, List.set_cons_succ]
  refine takeH (i := 11) 38 (v := .int .i64 6) rfl rfl (by kernel_rfl) (by kernel_rfl) (by kernel_rfl) (fun _ _ _ h => h) (Or.inl ⟨by rfl, ?_⟩) (by assumption) ?_
  · intro w' hSw'
    go_simp
  simp only [Act.put, List.setIfInBounds_toArray, List.set_cons_zero, List.set_cons_succ]
  refine takeH (i := 12) 4 (v := .slice none 0 0) rfl rfl (by kernel_rfl) (by kernel_rfl) (by kernel_rfl) (fun _ _ _ h => h) (Or.inl ⟨by rfl, ?_⟩) (by assumption) ?_
  · intro w' hSw'
    go_simp
  simp only [Act.put, List.setIfInBounds_toArray, List.set_cons_zero, List.set_cons_succ]
  refine takeH (i := 13) 5 (v := .int .i64 6) rfl rfl (by kernel_rfl) (by kernel_rfl) (by kernel_rfl) (fun _ _ _ h => h) (Or.inl ⟨by rfl, ?_⟩) (by assumption) ?_
  · intro w' hSw'
    go_simp
  simp only [Act.put, List.setIfInBounds_toArray, List.set_cons_zero, List.set_cons_succ]
  refine wpAnyH_done (by kernel_rfl) ?_ _
  go_wp2
  go_ret2
  exact ⟨rfl, B5.out.trans (B6.out.mono B5.out.size)⟩
set_option maxHeartbeats 4000000 in
set_option maxRecDepth 100000 in
theorem tget_some (tb eb wm gm : Nat) (seq : Int) (l : List Named) (kp : Option Addr) (kc : Nat) (key : List UInt8) (w : World) (h : TxnAt w tb eb wm gm seq l) (hk : Src w kp key.length kc key) (hkl : key.length ≤ maxLen) (v : Value) (val : List UInt8) (hx : seek l key = some v) (hc : Chg w v val) (hvl : val.length ≤ 140737488355328) :
    Calls Tryz.prog 59 #[.pointer (some ⟨tb, 0, none⟩), .slice kp key.length kc] w fun e w' => ∃ v', e = .returned (.tuple #[v', .int .i64 0]) ∧ New w w' v' val.length val := by
  obtain ⟨ckp, ckn, ckc, cvp, cvc, rfl, hv⟩ := hc
  have H := keep h
  have HK := keep hk
  have HV := keep hv
  have HL : Hid (∀ w', Below w.heap.size w w' → (Instr.lookup 208 (.map (some wm)) (.string ⟨key.toArray⟩) true).run Tryz.prog w' = .ok (.tuple #[.agg #[.slice ckp ckn ckc, .bool false, .slice cvp val.length cvc], .bool true]) w') := by
    intro w' hb
    have := writes_look (h.below hb).map key hkl
    rw [hx] at this
    exact this
  clear h hk hx hv
  go_enter Tryz.func59, Tryz.ntmps59
  go_wp2_with fail
  refine (tready tb eb wm gm seq l w H.out).mono ?_
  rintro e w1 ⟨rfl, rfl⟩
  go_wp2_with fail
  refine wp_region_held_drew (S := fun w' => Below w1.heap.size w1 w') (by kernel_rfl) ((Below.refl _ _).drew) (fun hHeld => ?_)
  refine takeH (i := 0) 15 (v := .pointer (some ⟨tb, 0, none⟩)) rfl rfl (by kernel_rfl) (by kernel_rfl) (by kernel_rfl) (fun _ _ _ h => h) (Or.inl ⟨by rfl, ?_⟩) (by assumption) ?_
  · intro w' hSw'
    go_simp
  simp only [Act.put, List.setIfInBounds_toArray, List.set_cons_zero, List.set_cons_succ]
  refine takeH (i := 1) 16 (v := .pointer (some ⟨tb, 0, none⟩)) rfl rfl (by kernel_rfl) (by kernel_rfl) (by kernel_rfl) (fun _ _ _ h => h) (Or.inl ⟨by rfl, ?_⟩) (by assumption) ?_
  · intro w' hSw'
    go_simp
  simp only [Act.put, List.setIfInBounds_toArray, List.set_cons_zero, List.set_cons_succ]
  refine takeH (i := 2) 17 (v := .pointer (some ⟨tb, 3, none⟩)) rfl rfl (by kernel_rfl) (by kernel_rfl) (by kernel_rfl) (fun _ _ _ h => h) (Or.inl ⟨by rfl, ?_⟩) (by assumption) ?_
  · intro w' hSw'
    go_simp
  simp only [Act.put, List.setIfInBounds_toArray, List.set_cons_zero, List.set_cons_succ]
  refine takeH (i := 3) 18 (v := .map (some wm)) rfl rfl (by kernel_rfl) (by kernel_rfl) (by kernel_rfl) (fun _ _ _ h => h) (Or.inl ⟨by rfl, ?_⟩) (by assumption) ?_
  · intro w' hSw'
    have TT := H.out.below hSw'
    have d1 := TT.t1
    have d2 := TT.t2
    have d3 := TT.t3
    go_simp
  simp only [Act.put, List.setIfInBounds_toArray, List.set_cons_zero, List.set_cons_succ]
  refine takeH (i := 4) 19 (v := .slice kp key.length kc) rfl rfl (by kernel_rfl) (by kernel_rfl) (by kernel_rfl) (fun _ _ _ h => h) (Or.inl ⟨by rfl, ?_⟩) (by assumption) ?_
  · intro w' hSw'
    go_simp
  simp only [Act.put, List.setIfInBounds_toArray, List.set_cons_zero, List.set_cons_succ]
  refine takeH (i := 5) 20 (v := .string ⟨key.toArray⟩) rfl rfl (by kernel_rfl) (by kernel_rfl) (by kernel_rfl) (fun _ _ _ h => h) (Or.inl ⟨by rfl, ?_⟩) (by assumption) ?_
  · intro w' hSw'
    have cs := conv_src (HK.out.below hSw')
    go_simp
  simp only [Act.put, List.setIfInBounds_toArray, List.set_cons_zero, List.set_cons_succ]
  refine takeH (i := 6) 21 (v := .tuple #[.agg #[.slice ckp ckn ckc, .bool false, .slice cvp val.length cvc], .bool true]) rfl rfl (by kernel_rfl) (by kernel_rfl) (by kernel_rfl) (fun _ _ _ h => h) (Or.inl ⟨by rfl, ?_⟩) (by assumption) ?_
  · intro w' hSw'
    have hl := HL.out w' hSw'
    go_simp
  simp only [Act.put, List.setIfInBounds_toArray, List.set_cons_zero, List.set_cons_succ]
  refine takeH (i := 7) 14 (v := .tuple #[.agg #[.slice ckp ckn ckc, .bool false, .slice cvp val.length cvc], .bool true]) rfl rfl (by kernel_rfl) (by kernel_rfl) (by kernel_rfl) (fun _ _ _ h => h) (Or.inl ⟨by rfl, ?_⟩) (by assumption) ?_
  · intro w' hSw'
    go_simp
  simp only [Act.put, List.setIfInBounds_toArray, List.set_cons_zero, List.set_cons_succ]
  refine takeH (i := 8) 0x16 (v := .agg #[.slice ckp ckn ckc, .bool false, .slice cvp val.length cvc]) rfl rfl (by kernel_rfl) (by kernel_rfl) (by kernel_rfl) (fun _ _ _ h => h) (Or.inl ⟨by rfl, ?_⟩) (by assumption) ?_
  · intro w' hSw'
    go_simp
  simp only [Act.put, List.setIfInBounds_toArray, List.set_cons_zero, List.set_cons_succ]
  refine takeH (i := 9) 23 (v := .bool true) rfl rfl (by kernel_rfl) (by kernel_rfl) (by kernel_rfl) (fun _ _ _ h => h) (Or.inl ⟨by rfl, ?_⟩) (by assumption) ?_
  · intro w' hSw'
    go_simp
  simp only [Act.put, List.setIfInBounds_toArray, List.set_cons_zero, List.set_cons_succ]
  refine wpAnyH_ready (rs := [10]) (by kernel_rfl) (by simp) ?_
  refine AllReadyH.cons rfl (fun K hK => ?_) AllReadyH.nil
  go_simp
  have b5 : Hid (Below w1.heap.size w1 (w1.drew.alloc (.cells #[.slice none 0 0, .bool false, .slice none 0 0] 218))) := ((Below.refl _ _).drew).alloc (Nat.le_refl _) _
  refine hK.out _ _ (b5.out) (fun hA2 => ?_)
  clear hK K
  refine wpAnyH_ready (rs := [11]) (by kernel_rfl) (by simp) ?_
  refine AllReadyH.cons rfl (fun K hK => ?_) AllReadyH.nil
  go_simp
  refine hK.out _ _ (((Below.refl _ _).drew).alloc (Nat.le_refl _) _) (fun hA3 => ?_)
  clear hK K
  refine takeH (i := 12) 8 (v := .bool true) rfl rfl (by kernel_rfl) (by kernel_rfl) (by kernel_rfl) (fun _ _ _ h => h) (Or.inl ⟨by rfl, ?_⟩) (by assumption) ?_
  · intro w' hSw'
    go_simp
  simp only [Act.put, List.setIfInBounds_toArray, List.set_cons_zero, List.set_cons_succ]
  refine wpAnyH_done (by kernel_rfl) ?_ _
  obtain ⟨w5, hw5⟩ : ∃ w5, (w1.alloc (.cells #[.slice ckp ckn ckc, .bool false, .slice cvp val.length cvc] 218)).drew = w5 := ⟨_, rfl⟩
  have B5 : Hid (Below w1.heap.size w1 w5) := by rw [← hw5]; exact ((Below.refl _ _).alloc (Nat.le_refl _) _).drew
  have G5 : Hid (w5.heap[w1.heap.size]? = some (.cells #[.slice ckp ckn ckc, .bool false, .slice cvp val.length cvc] 218)) := by rw [← hw5]; exact heap_alloc_new w1 _
  have x1 : w5.cell? ⟨w1.heap.size, 1, none⟩ = some (.bool false) := cell_of_row _ _ _ _ _ _ G5.out
  have x2 : w5.cell? ⟨w1.heap.size, 2, none⟩ = some (.slice cvp val.length cvc) := cell_of_row _ _ _ _ _ _ G5.out
  rw [hw5]
  clear hw5
  go_wp2_with fail
  refine (clone_any cvp val.length cvc val _ hvl (HV.out.below B5.out)).mono ?_
  rintro e w6 ⟨v6, rfl, hn6⟩
  have N6 := keep (New.after B5.out hn6)
  clear hn6
  go_wp2
  go_ret2
  exact ⟨_, rfl, N6.out⟩
end Go.Proofs.YtogphpejdnhnjaaGreatDoor
