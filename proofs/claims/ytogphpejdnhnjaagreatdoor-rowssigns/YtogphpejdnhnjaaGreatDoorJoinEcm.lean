/- The walks of the document's Open of a disk without files. -/
/- The walks of the document's Pin and Begin at an engine that has nothing. -/
/- The walks of rows' GetTree where there is no tree, of Row; of the law's made, begin, awake. -/
/- The walks of the law's begin, made, awake. -/
import Derived.Test.YtogphpejdnhnjaaGreatDoorJoinEci
namespace Go.Proofs.YtogphpejdnhnjaaGreatDoor
open Go.RowKit Go.Maps

/-- The document's disk without files. -/
structure RD (w : World) (q : Nat) (N : Int) : Prop where
  row : w.heap[q]? = some (.cells #[.int .i64 N, .slice none 0 0, .int .i64 0, .int .i64 (-1), .bool false] 114 (0, 0))
theorem RD.below {w w' : World} {q : Nat} {N : Int} (h : RD w q N) (hb : Below w.heap.size w w') : RD w' q N := ⟨(hb.block _ (Array.getElem?_eq_some_iff.1 h.row).1).trans h.row⟩
theorem RD.c1 {w : World} {q : Nat} {N : Int} (h : RD w q N) : w.cell? ⟨q, 1, none⟩ = some (.slice none 0 0) := cell_of_row _ _ _ _ _ _ h.row
set_option maxHeartbeats 2000000 in
set_option maxRecDepth 100000 in
theorem rdnew (w : World) :
    Calls Tryz.prog 17 #[.int .i64 1099511627776] w fun e w' => ∃ q, e = .returned (.tuple #[.pointer (some ⟨q, 0, none⟩), .int .i64 0]) ∧ RD w' q 1099511627776 ∧ Below w.heap.size w w' := by
  go_enter Tryz.func17, Tryz.ntmps17
  go_wp2
  go_ret2
  exact ⟨_, rfl, ⟨heap_alloc_new w _⟩, (Below.refl _ _).alloc (Nat.le_refl _) _⟩
set_option maxHeartbeats 2000000 in
set_option maxRecDepth 100000 in
theorem rnamed_cur (w : World) :
    Calls Tryz.prog 101 #[.string ⟨#[99, 117, 114]⟩] w fun e w' => e = .returned (.bool true) ∧ Below w.heap.size w w' := by
  go_enter Tryz.func101, Tryz.ntmps101
  go_wp2_with fail
  refine wp_loop_rounds 4 ?_
  rw [rounds_succ]
  go_wp2
  rw [rounds_succ]
  go_wp2
  rw [rounds_succ]
  go_wp2
  rw [rounds_succ]
  go_wp2
  go_ret
  exact ⟨rfl, Below.refl _ _⟩
set_option maxHeartbeats 2000000 in
set_option maxRecDepth 100000 in
theorem rat_none (q : Nat) (N : Int) (n : ByteArray) (w : World) (h : RD w q N) :
    Calls Tryz.prog 102 #[.pointer (some ⟨q, 0, none⟩), .string n] w fun e w' => e = .returned (.int .i64 (-1)) ∧ Below w.heap.size w w' := by
  have c1 := h.c1
  clear h
  go_enter Tryz.func102, Tryz.ntmps102
  go_wp2_with fail
  refine wp_loop_rounds 1 ?_
  rw [rounds_succ]
  go_wp2
  go_ret
  exact ⟨rfl, Below.refl _ _⟩
set_option maxHeartbeats 2000000 in
set_option maxRecDepth 100000 in
theorem rread_cur (q : Nat) (N : Int) (w : World) (h : RD w q N) :
    Calls Tryz.prog 40 #[.pointer (some ⟨q, 0, none⟩), .string ⟨#[99, 117, 114]⟩] w fun e w' => e = .returned (.tuple #[.slice none 0 0, .int .i64 3]) ∧ Below w.heap.size w w' := by
  have HR := keep h
  clear h
  go_enter Tryz.func40, Tryz.ntmps40
  go_wp2_with fail
  refine (rnamed_cur w).mono ?_
  rintro e w1 ⟨rfl, hb1⟩
  have B1 := keep hb1
  clear hb1
  go_wp2_with fail
  refine (rat_none q N _ w1 (HR.out.below B1.out)).mono ?_
  rintro e w2 ⟨rfl, hb2⟩
  have B2 := keep (B1.out.trans (hb2.mono B1.out.size))
  clear hb2
  go_wp2
  go_ret2
  exact ⟨rfl, B2.out⟩
set_option maxHeartbeats 2000000 in
set_option maxRecDepth 100000 in
theorem rnames_none (q : Nat) (N : Int) (w : World) (h : RD w q N) :
    Calls Tryz.prog 98 #[.pointer (some ⟨q, 0, none⟩)] w fun e w' => e = .returned (.slice none 0 0) ∧ Below w.heap.size w w' := by
  have c1 := h.c1
  clear h
  go_enter Tryz.func98, Tryz.ntmps98
  go_wp2_with fail
  refine wp_loop_rounds 1 ?_
  rw [rounds_succ]
  go_wp2
  go_ret
  exact ⟨rfl, Below.refl _ _⟩
set_option maxHeartbeats 2000000 in
set_option maxRecDepth 100000 in
theorem rsegs_none (q : Nat) (N : Int) (w : World) (h : RD w q N) :
    Calls Tryz.prog 43 #[.pointer (some ⟨q, 0, none⟩)] w fun e w' => e = .returned (.slice none 0 0) ∧ Below w.heap.size w w' := by
  have HR := keep h
  clear h
  go_enter Tryz.func43, Tryz.ntmps43
  go_wp2_with fail
  refine (rnames_none q N w HR.out).mono ?_
  rintro e w1 ⟨rfl, hb1⟩
  have B1 := keep hb1
  clear hb1
  go_wp2_with fail
  refine wp_loop_rounds 1 ?_
  rw [rounds_succ]
  go_wp2
  go_ret
  exact ⟨rfl, B1.out⟩
set_option maxHeartbeats 2000000 in
set_option maxRecDepth 100000 in
theorem rremove_none (q : Nat) (w : World) :
    Calls Tryz.prog 100 #[.pointer (some ⟨q, 0, none⟩), .slice none 0 0] w fun e w' => e = .returned (.int .i64 0) ∧ Below w.heap.size w w' := by
  go_enter Tryz.func100, Tryz.ntmps100
  go_wp2_with fail
  refine wp_loop_rounds 1 ?_
  rw [rounds_succ]
  go_wp2
  go_ret
  exact ⟨rfl, Below.refl _ _⟩
set_option maxHeartbeats 2000000 in
set_option maxRecDepth 100000 in
theorem rcheck_zero (w : World) :
    Calls Tryz.prog 97 #[verZ] w fun e w' => e = .returned (.int .i64 0) ∧ Below w.heap.size w w' := by
  have b1 := keep ((Below.refl w.heap.size w).alloc (Nat.le_refl _) (.cells #[.int .i64 0, .int .i64 0, .int .i64 0, .int .i64 0, .slice none 0 0] 117))
  unfold verZ
  go_enter Tryz.func97, Tryz.ntmps97
  go_wp2
  refine wp_loop_rounds 1 ?_
  rw [rounds_succ]
  go_wp2
  go_ret
  exact ⟨rfl, b1.out⟩
set_option maxHeartbeats 2000000 in
set_option maxRecDepth 100000 in
theorem rload_none (q : Nat) (N : Int) (w : World) (h : RD w q N) :
    Calls Tryz.prog 38 #[.pointer (some ⟨q, 0, none⟩)] w fun e w' => e = .returned (.tuple #[verZ, .int .i64 0]) ∧ Below w.heap.size w w' := by
  have HR := keep (fun w' hb => rread_cur q N w' (h.below hb))
  clear h
  unfold verZ
  go_enter Tryz.func38, Tryz.ntmps38
  go_wp2_with fail
  obtain ⟨W0, hW0⟩ : ∃ W0, (w.alloc (.cells #[.int .i64 0, .int .i64 0, .int .i64 0, .int .i64 0, .slice none 0 0] 117)).alloc (.cells #[.int .i64 0, .int .i64 0, .int .i64 0, .int .i64 0, .slice none 0 0] 117) = W0 := ⟨_, rfl⟩
  have s0 : (w.alloc (.cells #[.int .i64 0, .int .i64 0, .int .i64 0, .int .i64 0, .slice none 0 0] 117)).heap.size = w.heap.size + 1 := by simp
  have b0 : Hid (Below w.heap.size w W0) := by rw [← hW0]; exact ((Below.refl _ _).alloc (Nat.le_refl _) _).alloc (by rw [s0]; omega) _
  have n0 := heap_alloc_new (w.alloc (.cells #[.int .i64 0, .int .i64 0, .int .i64 0, .int .i64 0, .slice none 0 0] 117)) (.cells #[.int .i64 0, .int .i64 0, .int .i64 0, .int .i64 0, .slice none 0 0] 117)
  rw [s0, hW0] at n0
  have N0 := keep n0
  have G0 : Hid (W0.heap[w.heap.size]? = some (.cells #[.int .i64 0, .int .i64 0, .int .i64 0, .int .i64 0, .slice none 0 0] 117)) := by rw [← hW0]; exact (Below.heap_alloc _ _ _ (by rw [s0]; omega)).trans (heap_alloc_new w _)
  clear n0 s0
  rw [hW0]
  refine (HR.out W0 b0.out).mono ?_
  rintro e w2 ⟨rfl, hb2⟩
  have B2 := keep (b0.out.trans (hb2.mono b0.out.size))
  have G2 := keep ((hb2.block _ (Array.getElem?_eq_some_iff.1 G0.out).1).trans G0.out)
  have N2 := keep ((hb2.block _ (Array.getElem?_eq_some_iff.1 N0.out).1).trans N0.out)
  clear hW0 hb2 HR
  have z0 : w2.cell? ⟨w.heap.size, 0, none⟩ = some (.int .i64 0) := cell_of_row _ _ _ _ _ _ G2.out
  have z1 : w2.cell? ⟨w.heap.size, 1, none⟩ = some (.int .i64 0) := cell_of_row _ _ _ _ _ _ G2.out
  have z2 : w2.cell? ⟨w.heap.size, 2, none⟩ = some (.int .i64 0) := cell_of_row _ _ _ _ _ _ G2.out
  have z3 : w2.cell? ⟨w.heap.size, 3, none⟩ = some (.int .i64 0) := cell_of_row _ _ _ _ _ _ G2.out
  have z4 : w2.cell? ⟨w.heap.size, 4, none⟩ = some (.slice none 0 0) := cell_of_row _ _ _ _ _ _ G2.out
  have y0 : w2.cell? ⟨w.heap.size + 1, 0, none⟩ = some (.int .i64 0) := cell_of_row _ _ _ _ _ _ N2.out
  have y1 : w2.cell? ⟨w.heap.size + 1, 1, none⟩ = some (.int .i64 0) := cell_of_row _ _ _ _ _ _ N2.out
  have y2 : w2.cell? ⟨w.heap.size + 1, 2, none⟩ = some (.int .i64 0) := cell_of_row _ _ _ _ _ _ N2.out
  have y3 : w2.cell? ⟨w.heap.size + 1, 3, none⟩ = some (.int .i64 0) := cell_of_row _ _ _ _ _ _ N2.out
  have y4 : w2.cell? ⟨w.heap.size + 1, 4, none⟩ = some (.slice none 0 0) := cell_of_row _ _ _ _ _ _ N2.out
  have f0 : w2.frozen? ⟨w.heap.size, 0, none⟩ = false := by simp [World.frozen?, G2.out]
  have f1 : w2.frozen? ⟨w.heap.size, 1, none⟩ = false := by simp [World.frozen?, G2.out]
  have f2 : w2.frozen? ⟨w.heap.size, 2, none⟩ = false := by simp [World.frozen?, G2.out]
  have f3 : w2.frozen? ⟨w.heap.size, 3, none⟩ = false := by simp [World.frozen?, G2.out]
  have f4 : w2.frozen? ⟨w.heap.size, 4, none⟩ = false := by simp [World.frozen?, G2.out]
  go_wp2
  refine ⟨rfl, .tuple #[.agg #[.int .i64 0, .int .i64 0, .int .i64 0, .int .i64 0, .slice none 0 0], .int .i64 0], ?_, rfl, ?_⟩
  · have r0 : (w2.setCell ⟨w.heap.size, 0, none⟩ (.int .i64 0)).cell? ⟨w.heap.size, 0, none⟩ = some (.int .i64 0) := World.cell?_setCell_same' _ _ _ (by simp [go_sem, z0])
    have r1 : ((w2.setCell ⟨w.heap.size, 0, none⟩ (.int .i64 0)).setCell ⟨w.heap.size, 1, none⟩ (.int .i64 0)).cell? ⟨w.heap.size, 1, none⟩ = some (.int .i64 0) := World.cell?_setCell_same' _ _ _ (by simp [go_sem, z1])
    have r2 : (((w2.setCell ⟨w.heap.size, 0, none⟩ (.int .i64 0)).setCell ⟨w.heap.size, 1, none⟩ (.int .i64 0)).setCell ⟨w.heap.size, 2, none⟩ (.int .i64 0)).cell? ⟨w.heap.size, 2, none⟩ = some (.int .i64 0) := World.cell?_setCell_same' _ _ _ (by simp [go_sem, z2])
    have r3 : ((((w2.setCell ⟨w.heap.size, 0, none⟩ (.int .i64 0)).setCell ⟨w.heap.size, 1, none⟩ (.int .i64 0)).setCell ⟨w.heap.size, 2, none⟩ (.int .i64 0)).setCell ⟨w.heap.size, 3, none⟩ (.int .i64 0)).cell? ⟨w.heap.size, 3, none⟩ = some (.int .i64 0) := World.cell?_setCell_same' _ _ _ (by simp [go_sem, z3])
    have r4 : (((((w2.setCell ⟨w.heap.size, 0, none⟩ (.int .i64 0)).setCell ⟨w.heap.size, 1, none⟩ (.int .i64 0)).setCell ⟨w.heap.size, 2, none⟩ (.int .i64 0)).setCell ⟨w.heap.size, 3, none⟩ (.int .i64 0)).setCell ⟨w.heap.size, 4, none⟩ (.slice none 0 0)).cell? ⟨w.heap.size, 4, none⟩ = some (.slice none 0 0) := World.cell?_setCell_same' _ _ _ (by simp [go_sem, z4])
    simp [results, Tryz.f38, go_sem, loadCells, loadCellsFrom, r0, r1, r2, r3, r4]
  · exact (((((B2.out.setCell (p := ⟨w.heap.size, 0, none⟩) (Nat.le_refl _) _).setCell (p := ⟨w.heap.size, 1, none⟩) (Nat.le_refl _) _).setCell (p := ⟨w.heap.size, 2, none⟩) (Nat.le_refl _) _).setCell (p := ⟨w.heap.size, 3, none⟩) (Nat.le_refl _) _).setCell (p := ⟨w.heap.size, 4, none⟩) (Nat.le_refl _) _)
set_option maxHeartbeats 2000000 in
set_option maxRecDepth 100000 in
theorem rclean_none (q : Nat) (N : Int) (w : World) (h : RD w q N) :
    Calls Tryz.prog 39 #[.pointer (some ⟨q, 0, none⟩), verZ] w fun e w' => e = .returned (.int .i64 0) ∧ Below w.heap.size w w' := by
  have HR := keep h
  have b1 := keep ((Below.refl w.heap.size w).alloc (Nat.le_refl _) (.cells #[.int .i64 0, .int .i64 0, .int .i64 0, .int .i64 0, .slice none 0 0] 117))
  have CK := keep (rcheck_zero (w.alloc (.cells #[.int .i64 0, .int .i64 0, .int .i64 0, .int .i64 0, .slice none 0 0] 117)))
  clear h
  unfold verZ at CK ⊢
  go_enter Tryz.func39, Tryz.ntmps39
  go_wp2_with fail
  refine CK.out.mono ?_
  rintro e w2 ⟨rfl, hb2⟩
  have B2 := keep (b1.out.trans (hb2.mono b1.out.size))
  clear hb2 CK
  go_wp2_with fail
  refine (rnames_none q N w2 (HR.out.below B2.out)).mono ?_
  rintro e w3 ⟨rfl, hb3⟩
  have B3 := keep (B2.out.trans (hb3.mono B2.out.size))
  clear hb3
  go_wp2_with fail
  refine wp_loop_rounds 1 ?_
  rw [rounds_succ]
  go_wp2_with fail
  refine (rremove_none q w3).mono ?_
  rintro e w4 ⟨rfl, hb4⟩
  have B4 := keep (B3.out.trans (hb4.mono B3.out.size))
  clear hb4
  go_wp2
  go_ret
  exact ⟨rfl, B4.out⟩
/-- The document's engine that has nothing. -/
structure RE (w : World) (rb q : Nat) : Prop where
  row : w.heap[rb]? = some (.cells #[.pointer (some ⟨q, 0, none⟩), .int .i64 0, .int .i64 0, .int .i64 0, .int .i64 0, .slice none 0 0, .slice none 0 0, .slice none 0 0, .int .i64 0, .int .i64 0, .slice none 0 0] 124 (0, 0))
theorem RE.below {w w' : World} {rb q : Nat} (h : RE w rb q) (hb : Below w.heap.size w w') : RE w' rb q := ⟨(hb.block _ (Array.getElem?_eq_some_iff.1 h.row).1).trans h.row⟩
set_option maxHeartbeats 2000000 in
set_option maxRecDepth 100000 in
theorem ropen_none (q : Nat) (N : Int) (w : World) (h : RD w q N) :
    Calls Tryz.prog 18 #[.pointer (some ⟨q, 0, none⟩)] w fun e w' => ∃ rb, e = .returned (.tuple #[.pointer (some ⟨rb, 0, none⟩), .int .i64 0]) ∧ RE w' rb q ∧ w.heap.size ≤ rb ∧ Below w.heap.size w w' := by
  have HR := keep h
  have LO := keep (rload_none q N w h)
  have CLN := keep (fun w' hb => rclean_none q N w' (h.below hb))
  clear h
  unfold verZ at LO CLN
  go_enter Tryz.func18, Tryz.ntmps18
  go_wp2_with fail
  refine LO.out.mono ?_
  rintro e w1 ⟨rfl, hb1⟩
  have B1 := keep hb1
  have b2 := keep (hb1.alloc hb1.size (.cells #[.int .i64 0, .int .i64 0, .int .i64 0, .int .i64 0, .slice none 0 0] 117))
  have G2 := keep (heap_alloc_new w1 (.cells #[.int .i64 0, .int .i64 0, .int .i64 0, .int .i64 0, .slice none 0 0] 117))
  clear hb1 LO
  go_wp2_with fail
  refine (CLN.out _ b2.out).mono ?_
  rintro e w3 ⟨rfl, hb3⟩
  have B3 := keep (b2.out.trans (hb3.mono b2.out.size))
  have G3 := keep ((hb3.block _ (Array.getElem?_eq_some_iff.1 G2.out).1).trans G2.out)
  have x0 : w3.cell? ⟨w1.heap.size, 0, none⟩ = some (.int .i64 0) := cell_of_row _ _ _ _ _ _ G3.out
  have x1 : w3.cell? ⟨w1.heap.size, 1, none⟩ = some (.int .i64 0) := cell_of_row _ _ _ _ _ _ G3.out
  have x2 : w3.cell? ⟨w1.heap.size, 2, none⟩ = some (.int .i64 0) := cell_of_row _ _ _ _ _ _ G3.out
  have x3 : w3.cell? ⟨w1.heap.size, 3, none⟩ = some (.int .i64 0) := cell_of_row _ _ _ _ _ _ G3.out
  have x4 : w3.cell? ⟨w1.heap.size, 4, none⟩ = some (.slice none 0 0) := cell_of_row _ _ _ _ _ _ G3.out
  have b4 := keep (B3.out.alloc B3.out.size (.cells #[.pointer (some ⟨q, 0, none⟩), .int .i64 0, .int .i64 0, .int .i64 0, .int .i64 0, .slice none 0 0, .slice none 0 0, .slice none 0 0, .int .i64 0, .int .i64 0, .slice none 0 0] 124))
  have E4 := keep (heap_alloc_new w3 (.cells #[.pointer (some ⟨q, 0, none⟩), .int .i64 0, .int .i64 0, .int .i64 0, .int .i64 0, .slice none 0 0, .slice none 0 0, .slice none 0 0, .int .i64 0, .int .i64 0, .slice none 0 0] 124))
  have V4 := keep ((Below.heap_alloc w3 (.cells #[.pointer (some ⟨q, 0, none⟩), .int .i64 0, .int .i64 0, .int .i64 0, .int .i64 0, .slice none 0 0, .slice none 0 0, .slice none 0 0, .int .i64 0, .int .i64 0, .slice none 0 0] 124) w1.heap.size (Array.getElem?_eq_some_iff.1 G3.out).1).trans G3.out)
  have v4 : (w3.alloc (.cells #[.pointer (some ⟨q, 0, none⟩), .int .i64 0, .int .i64 0, .int .i64 0, .int .i64 0, .slice none 0 0, .slice none 0 0, .slice none 0 0, .int .i64 0, .int .i64 0, .slice none 0 0] 124)).cell? ⟨w1.heap.size, 4, none⟩ = some (.slice none 0 0) := cell_of_row _ _ _ _ _ _ V4.out
  have SG := keep (rsegs_none q N _ (HR.out.below b4.out))
  clear hb3 CLN
  go_wp2_with fail
  refine wp_loop_rounds 1 ?_
  rw [rounds_succ]
  go_wp2_with fail
  refine SG.out.mono ?_
  rintro e w5 ⟨rfl, hb5⟩
  have B5 := keep (b4.out.trans (hb5.mono b4.out.size))
  have E5 := keep ((hb5.block _ (Array.getElem?_eq_some_iff.1 E4.out).1).trans E4.out)
  have L3 := keep B3.out.size
  clear hb5 SG x0 x1 x2 x3 x4 v4
  go_wp2_with fail
  refine wp_loop_rounds 1 ?_
  rw [rounds_succ]
  go_wp2
  go_ret2
  exact ⟨_, rfl, ⟨E5.out⟩, L3.out, B5.out⟩
end Go.Proofs.YtogphpejdnhnjaaGreatDoor
namespace Go.Proofs.YtogphpejdnhnjaaGreatDoor
open Go.RowKit Go.Maps

theorem infoN : (Tryz.prog.info? 3).map (fun i => (i.zero, i.size, i.bytes)) = some (some (.int .i64 0), 1, 8) := by kernel_rfl
theorem info_partsN {P : Program} {t : TypeId} {z : Value} {s b : Nat} (h : (P.info? t).map (fun i => (i.zero, i.size, i.bytes)) = some (some z, s, b)) : ∃ i, P.info? t = some i ∧ i.zero = some z ∧ i.size = s ∧ i.bytes = b := by
  cases hi : P.info? t with
  | none => rw [hi] at h; cases h
  | some i =>
    rw [hi] at h
    simp only [Option.map_some, Option.some.injEq, Prod.mk.injEq] at h
    exact ⟨i, rfl, h.1, h.2.1, h.2.2⟩
/-- append(v, f) as a step of a region that draws, v nil or the call's own row of records, f laid as a row of its own. -/
theorem step_append_one {α : Type} {k : Kind α} (K : k.Ok) {P : Program} {w : World} {ops : Array Oper} {o : Oper} {a : Act} {C : Act → World → Prop} {Q : Exit → Act → World → Prop} {E : Prop} (hgd : o.guard = none) (s x : Operand) (t tF : TypeId)
    (ho : o.op = .call { callee := .builtin .append, args := #[s, x], argTypes := #[t, t] })
    (base : Nat) (i : TypeInfo) (z : Value) (bytes : Nat) (ht : P.underlying t = some (.slice tF)) (hi : P.info? tF = some i) (hz : i.zero = some z)
    (hsize : i.size = k.size) (hby : i.bytes = bytes) (hzs : z.cells.size = k.size)
    (v : Value) (n : Nat) (es : List α) (hs : a.eval s = v) (hown : w.ownsRow base tF k.size v n (rv k es))
    (ad : Addr) (c : Nat) (e : α) (hx : a.eval x = .slice (some ad) 1 c) (hcells : ∀ j u, (k.vals e)[j]? = some u → w.cell? (ad.add j) = some u)
    (hb : n + 1 ≤ maxLen) (hbytes : (n + 1) * bytes ≤ 140737488355328) (hbase : base ≤ w.heap.size)
    (h : ∀ v' w', w'.ownsRow base tF k.size v' (n + 1) (rv k (es ++ [e])) → w.grownBy w' v.ownBlock → C (a.put o.dst v') w') : if Region.wanted o (yielded ops a.tmps) = true then Oper.wp P o a w C Q else E := by
  have hw : Region.wanted o (yielded ops a.tmps) = true := by simp [Region.wanted, hgd]
  rw [if_pos hw]
  obtain ⟨v', w', hrun, h1, h2, _⟩ := run_append_own (P := P) w base t o.type tF i z k.size bytes ht hi hz hsize hby hzs K.pos v n (rv k es) hown ad 1 c (k.vals e) (by rw [K.len, Nat.one_mul]) hcells (K.one e) hb hbytes hbase
  unfold Oper.wp
  simp [execOp, ho, resolve, invoke, builtin, hs, hx, hrun, Result.andThen]
  refine h v' w' ?_ h2
  rw [rv_append]
  simpa [rv] using h1
/-- An empty row of its own. -/
theorem own_empty (w : World) (B : Nat) (hB : B ≤ w.heap.size) : (w.alloc (.cells #[] 3)).ownsRow B 3 1 (.slice (some ⟨w.heap.size, 0, none⟩) 0 0) 0 [] :=
  ⟨rfl, .inr ⟨w.heap.size, 0, #[], rfl, hB, heap_alloc_new w _, Nat.le_refl _, Nat.zero_le _, rfl, rfl⟩⟩
set_option maxHeartbeats 4000000 in
set_option maxRecDepth 100000 in
theorem rpin_none (rb q : Nat) (w : World) (h : RE w rb q) :
    Calls Tryz.prog 114 #[.pointer (some ⟨rb, 0, none⟩)] w fun e w' => e = .returned (.tuple #[.int .i64 0, .int .i64 0]) ∧ Kept (At rb) w w' := by
  have H := keep h
  have p0 : w.cell? ⟨rb, 10, none⟩ = some (.slice none 0 0) := cell_of_row _ _ _ _ _ _ h.row
  have p1 : w.cell? ⟨rb, 8, none⟩ = some (.int .i64 0) := cell_of_row _ _ _ _ _ _ h.row
  obtain ⟨i0, hi0, hz0, hz1, hz2⟩ := info_partsN infoN
  have SP : Hid (∀ w', Below w.heap.size w w' → w'.cell? ⟨rb, 10, none⟩ = some (.slice none 0 0) ∧ w'.cell? ⟨rb, 8, none⟩ = some (.int .i64 0) ∧ w'.frozen? ⟨rb, 10, none⟩ = false) := fun w' hb => ⟨cell_of_row _ _ _ _ _ _ (h.below hb).row, cell_of_row _ _ _ _ _ _ (h.below hb).row, by simp [World.frozen?, (h.below hb).row]⟩
  clear h
  go_enter Tryz.func114, Tryz.ntmps114
  go_wp2_with fail
  refine wp_loop_rounds 1 ?_
  rw [rounds_succ]
  go_wp2_with fail
  refine wp_region_parted (fun w' => w'.cell? ⟨rb, 10, none⟩ = some (.slice none 0 0) ∧ w'.cell? ⟨rb, 8, none⟩ = some (.int .i64 0)) 15 _ (by kernel_rfl) rfl rfl rfl (by kernel_rfl) (by kernel_rfl) (by exact ⟨p0, p1⟩) (fun hHeld => ?_)
  simp only [List.setIfInBounds_toArray, List.set_cons_succ, List.set_cons_zero, mute]
  refine takeH (i := 0) 65 (v := .pointer (some ⟨rb, 0, none⟩)) rfl rfl (by kernel_rfl) (by kernel_rfl) (by kernel_rfl) (fun _ _ _ h => h) (Or.inl ⟨by rfl, ?_⟩) (by assumption) ?_
  · intro w' hSw'
    go_simp
  simp only [Act.put, List.setIfInBounds_toArray, List.set_cons_zero, List.set_cons_succ]
  refine takeH (i := 2) 67 (v := .pointer (some ⟨rb, 0, none⟩)) rfl rfl (by kernel_rfl) (by kernel_rfl) (by kernel_rfl) (fun _ _ _ h => h) (Or.inl ⟨by rfl, ?_⟩) (by assumption) ?_
  · intro w' hSw'
    go_simp
  simp only [Act.put, List.setIfInBounds_toArray, List.set_cons_zero, List.set_cons_succ]
  refine takeH (i := 3) 68 (v := .pointer (some ⟨rb, 0, none⟩)) rfl rfl (by kernel_rfl) (by kernel_rfl) (by kernel_rfl) (fun _ _ _ h => h) (Or.inl ⟨by rfl, ?_⟩) (by assumption) ?_
  · intro w' hSw'
    go_simp
  simp only [Act.put, List.setIfInBounds_toArray, List.set_cons_zero, List.set_cons_succ]
  refine takeH (i := 4) 69 (v := .pointer (some ⟨rb, 10, none⟩)) rfl rfl (by kernel_rfl) (by kernel_rfl) (by kernel_rfl) (fun _ _ _ h => h) (Or.inl ⟨by rfl, ?_⟩) (by assumption) ?_
  · intro w' hSw'
    go_simp
  simp only [Act.put, List.setIfInBounds_toArray, List.set_cons_zero, List.set_cons_succ]
  refine takeH (i := 5) 70 (v := .slice none 0 0) rfl rfl (by kernel_rfl) (by kernel_rfl) (by kernel_rfl) (fun _ _ _ h => h) (Or.inl ⟨by rfl, ?_⟩) (by assumption) ?_
  · intro w' hSw'
    obtain ⟨q0, q1⟩ := hSw'
    go_simp
  simp only [Act.put, List.setIfInBounds_toArray, List.set_cons_zero, List.set_cons_succ]
  refine takeH (i := 7) 72 (v := .pointer (some ⟨rb, 0, none⟩)) rfl rfl (by kernel_rfl) (by kernel_rfl) (by kernel_rfl) (fun _ _ _ h => h) (Or.inl ⟨by rfl, ?_⟩) (by assumption) ?_
  · intro w' hSw'
    go_simp
  simp only [Act.put, List.setIfInBounds_toArray, List.set_cons_zero, List.set_cons_succ]
  refine takeH (i := 8) 73 (v := .pointer (some ⟨rb, 0, none⟩)) rfl rfl (by kernel_rfl) (by kernel_rfl) (by kernel_rfl) (fun _ _ _ h => h) (Or.inl ⟨by rfl, ?_⟩) (by assumption) ?_
  · intro w' hSw'
    go_simp
  simp only [Act.put, List.setIfInBounds_toArray, List.set_cons_zero, List.set_cons_succ]
  refine takeH (i := 9) 74 (v := .pointer (some ⟨rb, 8, none⟩)) rfl rfl (by kernel_rfl) (by kernel_rfl) (by kernel_rfl) (fun _ _ _ h => h) (Or.inl ⟨by rfl, ?_⟩) (by assumption) ?_
  · intro w' hSw'
    go_simp
  simp only [Act.put, List.setIfInBounds_toArray, List.set_cons_zero, List.set_cons_succ]
  refine takeH (i := 10) 75 (v := .int .i64 0) rfl rfl (by kernel_rfl) (by kernel_rfl) (by kernel_rfl) (fun _ _ _ h => h) (Or.inl ⟨by rfl, ?_⟩) (by assumption) ?_
  · intro w' hSw'
    obtain ⟨q0, q1⟩ := hSw'
    go_simp
  simp only [Act.put, List.setIfInBounds_toArray, List.set_cons_zero, List.set_cons_succ]
  refine wpAnyH_ready (rs := [1, 11]) (by kernel_rfl) (by simp) ?_
  refine AllReadyH.cons rfl (fun K hK => ?_) (AllReadyH.cons rfl (fun K hK => ?_) AllReadyH.nil)
  · go_simp
    refine hK.out _ _ (by obtain ⟨q0, q1, _⟩ := SP.out _ ((((Below.refl w.heap.size w).alloc (Nat.le_refl _) _).drew)); exact ⟨q0, q1⟩) (fun hA1 => ?_)
    clear hK K
    refine wpAnyH_ready (rs := [6, 11]) (by kernel_rfl) (by simp) ?_
    refine AllReadyH.cons rfl (fun K hK => ?_) (AllReadyH.cons rfl (fun K hK => ?_) AllReadyH.nil)
    · have hown : ((w.alloc (.cells #[] 3)).drew).ownsRow w.heap.size 3 1 (.slice (some ⟨w.heap.size, 0, none⟩) 0 0) 0 [] := own_empty w w.heap.size (Nat.le_refl _)
      have ha := fun ty => run_append_owned_none (P := Tryz.prog) (w := (w.alloc (.cells #[] 3)).drew) w.heap.size 78 ty 3 i0 1 Tryz.underlying78 hi0 (.slice (some ⟨w.heap.size, 0, none⟩) 0 0) 0 [] hown
      go_simp
      refine hK.out _ _ (by obtain ⟨q0, q1, _⟩ := SP.out _ ((((Below.refl w.heap.size w).alloc (Nat.le_refl _) _).drew)); exact ⟨q0, q1⟩) (fun hA2 => ?_)
      clear hK K
      clear ha hown
      refine wpAnyH_ready (rs := [11]) (by kernel_rfl) (by simp) ?_
      refine AllReadyH.cons rfl (fun K hK => ?_) AllReadyH.nil
      go_simp
      refine hK.out _ _ (by obtain ⟨q0, q1, _⟩ := SP.out _ (((((Below.refl w.heap.size w).alloc (Nat.le_refl _) _).alloc (by simp) _).drew)); exact ⟨q0, q1⟩) (fun hA3 => ?_)
      clear hK K
      have OE : (((w.alloc (.cells #[] 3)).alloc (.cells #[.int .i64 0] 3)).drew).ownsRow w.heap.size 3 1 (.slice (some ⟨w.heap.size, 0, none⟩) 0 0) 0 (rv numK []) := (own_empty w w.heap.size (Nat.le_refl _)).alloc _
      have ON : (((w.alloc (.cells #[] 3)).alloc (.cells #[.int .i64 0] 3)).drew).cell? ⟨w.heap.size + 1, 0, none⟩ = some (.int .i64 0) := by have h1 := heap_alloc_new (w.alloc (.cells #[] 3)) (.cells #[.int .i64 0] 3); simp only [World.size_alloc] at h1; exact cell_of_row _ _ _ _ _ _ h1
      have BZ : Hid (Below w.heap.size w (((w.alloc (.cells #[] 3)).alloc (.cells #[.int .i64 0] 3)).drew)) := ((((Below.refl w.heap.size w).alloc (Nat.le_refl _) _).alloc (by simp) _).drew)
      refine wpAnyH_ready (rs := [12]) (by kernel_rfl) (by simp) ?_
      refine AllReadyH.cons rfl (fun K hK => ?_) AllReadyH.nil
      refine step_append_one numK_ok rfl _ _ 78 3 rfl w.heap.size i0 _ 8 Tryz.underlying78 hi0 hz0 hz1 hz2 rfl (.slice (some ⟨w.heap.size, 0, none⟩) 0 0) 0 [] rfl OE ⟨w.heap.size + 1, 0, none⟩ 1 0 rfl (fun j u hu => by cases j with | zero => simp only [numK, List.getElem?_cons_zero, Option.some.injEq] at hu; subst hu; exact ON | succ j => simp [numK] at hu) (by unfold maxLen; omega) (by omega) BZ.out.size ?_
      intro v5 w5 ho5 hg5
      have B5 := keep (BZ.out.grown hg5 BZ.out.size (fun j hj => by cases hj; first | exact Nat.le_refl _ | exact Nat.le_succ _))
      obtain ⟨ap, ac, rfl⟩ := own_slice ho5
      clear ho5 hg5 OE ON
      obtain ⟨u0, u1, u2⟩ := SP.out w5 B5.out
      refine hK.out _ _ (⟨u0, u1⟩) (fun hC1 => ?_)
      clear hK K
      refine takeH (i := 13) 78 (v := .pointer (some ⟨rb, 0, none⟩)) rfl rfl (by kernel_rfl) (by kernel_rfl) (by kernel_rfl) (fun _ _ _ h => h) (Or.inl ⟨by rfl, ?_⟩) (by assumption) ?_
      · intro w' hSw'
        go_simp
      simp only [Act.put, List.setIfInBounds_toArray]
      refine takeH (i := 14) 79 (v := .pointer (some ⟨rb, 10, none⟩)) rfl rfl (by kernel_rfl) (by kernel_rfl) (by kernel_rfl) (fun _ _ _ h => h) (Or.inl ⟨by rfl, ?_⟩) (by assumption) ?_
      · intro w' hSw'
        go_simp
      simp only [Act.put]
      refine wpAnyH_ready (rs := [15]) (by kernel_rfl) (by simp) ?_
      refine AllReadyH.cons rfl (fun K hK => ?_) AllReadyH.nil
      go_simp
      refine hK.out _ _ (⟨u0, u1⟩) (fun hC2 => ?_)
      clear hK K
      refine wpAnyH_done (by kernel_rfl) ?_ _
      have z8 : (w5.setCell ⟨rb, 10, none⟩ (.slice ap 1 ac)).cell? ⟨rb, 8, none⟩ = some (.int .i64 0) := (setCell_cell w5 rb 10 8 _ (by decide)).trans u1
      unfold LastQ
      go_simp
      go_wp2
      go_ret2
      exact ⟨rfl, (Kept.of_below B5.out).at_set _ _⟩
    · go_simp
      refine hK.out _ _ (by obtain ⟨q0, q1, _⟩ := SP.out _ (((((Below.refl w.heap.size w).alloc (Nat.le_refl _) _).alloc (by simp) _).drew)); exact ⟨q0, q1⟩) (fun hA2 => ?_)
      clear hK K
      refine wpAnyH_ready (rs := [6]) (by kernel_rfl) (by simp) ?_
      refine AllReadyH.cons rfl (fun K hK => ?_) AllReadyH.nil
      have hown : (((w.alloc (.cells #[] 3)).alloc (.cells #[.int .i64 0] 3)).drew).ownsRow w.heap.size 3 1 (.slice (some ⟨w.heap.size, 0, none⟩) 0 0) 0 [] := (own_empty w w.heap.size (Nat.le_refl _)).alloc _
      have ha := fun ty => run_append_owned_none (P := Tryz.prog) (w := ((w.alloc (.cells #[] 3)).alloc (.cells #[.int .i64 0] 3)).drew) w.heap.size 78 ty 3 i0 1 Tryz.underlying78 hi0 (.slice (some ⟨w.heap.size, 0, none⟩) 0 0) 0 [] hown
      go_simp
      refine hK.out _ _ (by obtain ⟨q0, q1, _⟩ := SP.out _ (((((Below.refl w.heap.size w).alloc (Nat.le_refl _) _).alloc (by simp) _).drew)); exact ⟨q0, q1⟩) (fun hA3 => ?_)
      clear hK K
      clear ha hown
      have OE : (((w.alloc (.cells #[] 3)).alloc (.cells #[.int .i64 0] 3)).drew).ownsRow w.heap.size 3 1 (.slice (some ⟨w.heap.size, 0, none⟩) 0 0) 0 (rv numK []) := (own_empty w w.heap.size (Nat.le_refl _)).alloc _
      have ON : (((w.alloc (.cells #[] 3)).alloc (.cells #[.int .i64 0] 3)).drew).cell? ⟨w.heap.size + 1, 0, none⟩ = some (.int .i64 0) := by have h1 := heap_alloc_new (w.alloc (.cells #[] 3)) (.cells #[.int .i64 0] 3); simp only [World.size_alloc] at h1; exact cell_of_row _ _ _ _ _ _ h1
      have BZ : Hid (Below w.heap.size w (((w.alloc (.cells #[] 3)).alloc (.cells #[.int .i64 0] 3)).drew)) := ((((Below.refl w.heap.size w).alloc (Nat.le_refl _) _).alloc (by simp) _).drew)
      refine wpAnyH_ready (rs := [12]) (by kernel_rfl) (by simp) ?_
      refine AllReadyH.cons rfl (fun K hK => ?_) AllReadyH.nil
      refine step_append_one numK_ok rfl _ _ 78 3 rfl w.heap.size i0 _ 8 Tryz.underlying78 hi0 hz0 hz1 hz2 rfl (.slice (some ⟨w.heap.size, 0, none⟩) 0 0) 0 [] rfl OE ⟨w.heap.size + 1, 0, none⟩ 1 0 rfl (fun j u hu => by cases j with | zero => simp only [numK, List.getElem?_cons_zero, Option.some.injEq] at hu; subst hu; exact ON | succ j => simp [numK] at hu) (by unfold maxLen; omega) (by omega) BZ.out.size ?_
      intro v5 w5 ho5 hg5
      have B5 := keep (BZ.out.grown hg5 BZ.out.size (fun j hj => by cases hj; first | exact Nat.le_refl _ | exact Nat.le_succ _))
      obtain ⟨ap, ac, rfl⟩ := own_slice ho5
      clear ho5 hg5 OE ON
      obtain ⟨u0, u1, u2⟩ := SP.out w5 B5.out
      refine hK.out _ _ (⟨u0, u1⟩) (fun hC1 => ?_)
      clear hK K
      refine takeH (i := 13) 78 (v := .pointer (some ⟨rb, 0, none⟩)) rfl rfl (by kernel_rfl) (by kernel_rfl) (by kernel_rfl) (fun _ _ _ h => h) (Or.inl ⟨by rfl, ?_⟩) (by assumption) ?_
      · intro w' hSw'
        go_simp
      simp only [Act.put, List.setIfInBounds_toArray]
      refine takeH (i := 14) 79 (v := .pointer (some ⟨rb, 10, none⟩)) rfl rfl (by kernel_rfl) (by kernel_rfl) (by kernel_rfl) (fun _ _ _ h => h) (Or.inl ⟨by rfl, ?_⟩) (by assumption) ?_
      · intro w' hSw'
        go_simp
      simp only [Act.put]
      refine wpAnyH_ready (rs := [15]) (by kernel_rfl) (by simp) ?_
      refine AllReadyH.cons rfl (fun K hK => ?_) AllReadyH.nil
      go_simp
      refine hK.out _ _ (⟨u0, u1⟩) (fun hC2 => ?_)
      clear hK K
      refine wpAnyH_done (by kernel_rfl) ?_ _
      have z8 : (w5.setCell ⟨rb, 10, none⟩ (.slice ap 1 ac)).cell? ⟨rb, 8, none⟩ = some (.int .i64 0) := (setCell_cell w5 rb 10 8 _ (by decide)).trans u1
      unfold LastQ
      go_simp
      go_wp2
      go_ret2
      exact ⟨rfl, (Kept.of_below B5.out).at_set _ _⟩
  · go_simp
    refine hK.out _ _ (by obtain ⟨q0, q1, _⟩ := SP.out _ ((((Below.refl w.heap.size w).alloc (Nat.le_refl _) _).drew)); exact ⟨q0, q1⟩) (fun hB1 => ?_)
    clear hK K
    refine wpAnyH_ready (rs := [1]) (by kernel_rfl) (by simp) ?_
    refine AllReadyH.cons rfl (fun K hK => ?_) AllReadyH.nil
    go_simp
    refine hK.out _ _ (by obtain ⟨q0, q1, _⟩ := SP.out _ (((((Below.refl w.heap.size w).alloc (Nat.le_refl _) _).alloc (by simp) _).drew)); exact ⟨q0, q1⟩) (fun hB2 => ?_)
    clear hK K
    refine wpAnyH_ready (rs := [6]) (by kernel_rfl) (by simp) ?_
    refine AllReadyH.cons rfl (fun K hK => ?_) AllReadyH.nil
    have hown : (((w.alloc (.cells #[.int .i64 0] 3)).alloc (.cells #[] 3)).drew).ownsRow w.heap.size 3 1 (.slice (some ⟨w.heap.size + 1, 0, none⟩) 0 0) 0 [] := by have := own_empty (w.alloc (.cells #[.int .i64 0] 3)) w.heap.size (by simp); simp only [World.size_alloc] at this; exact this
    have ha := fun ty => run_append_owned_none (P := Tryz.prog) (w := ((w.alloc (.cells #[.int .i64 0] 3)).alloc (.cells #[] 3)).drew) w.heap.size 78 ty 3 i0 1 Tryz.underlying78 hi0 (.slice (some ⟨w.heap.size + 1, 0, none⟩) 0 0) 0 [] hown
    go_simp
    refine hK.out _ _ (by obtain ⟨q0, q1, _⟩ := SP.out _ (((((Below.refl w.heap.size w).alloc (Nat.le_refl _) _).alloc (by simp) _).drew)); exact ⟨q0, q1⟩) (fun hB3 => ?_)
    clear hK K
    clear ha hown
    have OE : (((w.alloc (.cells #[.int .i64 0] 3)).alloc (.cells #[] 3)).drew).ownsRow w.heap.size 3 1 (.slice (some ⟨w.heap.size + 1, 0, none⟩) 0 0) 0 (rv numK []) := by have := own_empty (w.alloc (.cells #[.int .i64 0] 3)) w.heap.size (by simp); simp only [World.size_alloc] at this; exact this
    have ON : (((w.alloc (.cells #[.int .i64 0] 3)).alloc (.cells #[] 3)).drew).cell? ⟨w.heap.size, 0, none⟩ = some (.int .i64 0) := cell_of_row _ _ _ _ _ _ ((Below.heap_alloc (w.alloc (.cells #[.int .i64 0] 3)) (.cells #[] 3) w.heap.size (by simp)).trans (heap_alloc_new w (.cells #[.int .i64 0] 3)))
    have BZ : Hid (Below w.heap.size w (((w.alloc (.cells #[.int .i64 0] 3)).alloc (.cells #[] 3)).drew)) := ((((Below.refl w.heap.size w).alloc (Nat.le_refl _) _).alloc (by simp) _).drew)
    refine wpAnyH_ready (rs := [12]) (by kernel_rfl) (by simp) ?_
    refine AllReadyH.cons rfl (fun K hK => ?_) AllReadyH.nil
    refine step_append_one numK_ok rfl _ _ 78 3 rfl w.heap.size i0 _ 8 Tryz.underlying78 hi0 hz0 hz1 hz2 rfl (.slice (some ⟨w.heap.size + 1, 0, none⟩) 0 0) 0 [] rfl OE ⟨w.heap.size, 0, none⟩ 1 0 rfl (fun j u hu => by cases j with | zero => simp only [numK, List.getElem?_cons_zero, Option.some.injEq] at hu; subst hu; exact ON | succ j => simp [numK] at hu) (by unfold maxLen; omega) (by omega) BZ.out.size ?_
    intro v5 w5 ho5 hg5
    have B5 := keep (BZ.out.grown hg5 BZ.out.size (fun j hj => by cases hj; first | exact Nat.le_refl _ | exact Nat.le_succ _))
    obtain ⟨ap, ac, rfl⟩ := own_slice ho5
    clear ho5 hg5 OE ON
    obtain ⟨u0, u1, u2⟩ := SP.out w5 B5.out
    refine hK.out _ _ (⟨u0, u1⟩) (fun hC1 => ?_)
    clear hK K
    refine takeH (i := 13) 78 (v := .pointer (some ⟨rb, 0, none⟩)) rfl rfl (by kernel_rfl) (by kernel_rfl) (by kernel_rfl) (fun _ _ _ h => h) (Or.inl ⟨by rfl, ?_⟩) (by assumption) ?_
    · intro w' hSw'
      go_simp
    simp only [Act.put, List.setIfInBounds_toArray]
    refine takeH (i := 14) 79 (v := .pointer (some ⟨rb, 10, none⟩)) rfl rfl (by kernel_rfl) (by kernel_rfl) (by kernel_rfl) (fun _ _ _ h => h) (Or.inl ⟨by rfl, ?_⟩) (by assumption) ?_
    · intro w' hSw'
      go_simp
    simp only [Act.put]
    refine wpAnyH_ready (rs := [15]) (by kernel_rfl) (by simp) ?_
    refine AllReadyH.cons rfl (fun K hK => ?_) AllReadyH.nil
    go_simp
    refine hK.out _ _ (⟨u0, u1⟩) (fun hC2 => ?_)
    clear hK K
    refine wpAnyH_done (by kernel_rfl) ?_ _
    have z8 : (w5.setCell ⟨rb, 10, none⟩ (.slice ap 1 ac)).cell? ⟨rb, 8, none⟩ = some (.int .i64 0) := (setCell_cell w5 rb 10 8 _ (by decide)).trans u1
    unfold LastQ
    go_simp
    go_wp2
    go_ret2
    exact ⟨rfl, (Kept.of_below B5.out).at_set _ _⟩
set_option maxHeartbeats 1000000 in
set_option maxRecDepth 100000 in
theorem rbegin_none (rb q : Nat) (w : World) (h : RE w rb q) :
    Calls Tryz.prog 48 #[.pointer (some ⟨rb, 0, none⟩)] w fun e w' => ∃ sb, e = .returned (.tuple #[.pointer (some ⟨sb, 0, none⟩), .int .i64 0]) ∧ Kept (At rb) w w' := by
  have PN := keep (rpin_none rb q w h)
  clear h
  go_enter Tryz.func48, Tryz.ntmps48
  go_wp2_with fail
  refine PN.out.mono ?_
  rintro e w1 ⟨rfl, hk1⟩
  have K1 := keep hk1
  clear hk1 PN
  go_wp2
  go_ret2
  exact ⟨_, rfl, K1.out.alloc _⟩
end Go.Proofs.YtogphpejdnhnjaaGreatDoor
namespace Go.Proofs.YtogphpejdnhnjaaGreatDoor
open Go.RowKit Go.Maps
open Dk (File Disk)

/-- Trees, as a kind of rows. -/
def KT : Value := .agg #[.int .i64 0, .func (.func 56) #[] #[], .func (.func 57) #[] #[], .func (.func 58) #[] #[]]
def treeZ : Value := .agg #[.int .i64 0, .int .i64 0, .int .i64 0, .string ⟨#[]⟩, .string ⟨#[]⟩]
set_option maxHeartbeats 4000000 in
set_option maxRecDepth 100000 in
theorem trees_any (w : World) : Calls Tryz.prog 24 #[] w fun e w' => e = .returned KT ∧ Below w.heap.size w w' := by
  have hst : ∀ (w' : World) (a : Addr) (f : FuncId), (store a (.func (.func f) #[] #[]) .plain).run Tryz.prog w' = stored Tryz.prog w' a (.func (.func f) #[] #[]) .plain := fun w' a f => run_store Tryz.prog w' a _ .plain rfl
  have b1 := keep ((Below.refl w.heap.size w).alloc (Nat.le_refl _) (.cells #[.int .i64 0, .func (.func 56) #[] #[], .func (.func 57) #[] #[], .func (.func 58) #[] #[]] 75))
  unfold KT
  go_enter Tryz.func24, Tryz.ntmps24
  go_wp2
  refine ⟨rfl, _, ?_, rfl, b1.out⟩
  simp [results, Tryz.f24, go_sem, loadCells, loadCellsFrom]
structure KTW (w : World) (g : Nat) : Prop where
  row : w.heap[g]? = some (.cells #[.int .i64 0, .func (.func 56) #[] #[], .func (.func 57) #[] #[], .func (.func 58) #[] #[]] 75 (0, 0))
theorem KTW.c {w : World} {g : Nat} (h : KTW w g) : w.cell? ⟨g, 0, none⟩ = some (.int .i64 0) ∧ w.cell? ⟨g, 1, none⟩ = some (.func (.func 56) #[] #[]) ∧ w.cell? ⟨g, 2, none⟩ = some (.func (.func 57) #[] #[]) ∧ w.cell? ⟨g, 3, none⟩ = some (.func (.func 58) #[] #[]) := ⟨cell_of_row _ _ _ _ _ _ h.row, cell_of_row _ _ _ _ _ _ h.row, cell_of_row _ _ _ _ _ _ h.row, cell_of_row _ _ _ _ _ _ h.row⟩
set_option maxHeartbeats 4000000 in
set_option maxRecDepth 100000 in
theorem tkey_any (id : Nat) (b : Addr) (w : World) (hid : id ≤ 64) (hg : ErrIs w b) :
    Calls Tryz.prog 60 #[KT, .int .i64 (id : Int)] w fun e w' => ∃ v, e = .returned v ∧ New w w' v 9 (mk id 0 []) := by
  obtain ⟨W1, hW1⟩ : ∃ W1, w.alloc (.cells #[.int .i64 0, .func (.func 56) #[] #[], .func (.func 57) #[] #[], .func (.func 58) #[] #[]] 75) = W1 := ⟨_, rfl⟩
  have b1 : Hid (Below w.heap.size w W1) := by rw [← hW1]; exact (Below.refl _ _).alloc (Nat.le_refl _) _
  have k1 : Hid (KTW W1 w.heap.size) := by rw [← hW1]; exact ⟨heap_alloc_new w _⟩
  obtain ⟨c0, c1, c2, c3⟩ := k1.out.c
  have MK := keep (make_yes id 0 none 0 0 [] b W1 (by omega) (by omega) (by omega) (Src.empty (fun _ => rfl)) (hg.below b1.out))
  unfold KT
  go_enter Tryz.func60, Tryz.ntmps60
  go_wp2_with fail
  refine MK.out.mono ?_
  rintro e w2 ⟨v, rfl, hn2⟩
  have N2 := keep (hn2.base b1.out)
  clear hn2 MK hW1
  go_wp2
  go_ret
  exact ⟨_, rfl, N2.out⟩
set_option maxHeartbeats 4000000 in
set_option maxRecDepth 100000 in
theorem ktget_none (tb eb wm gm db pm tm sk : Nat) (seq : Int) (l : List Named) (b : Addr) (id : Nat) (w : World) (h : TxnAt w tb eb wm gm seq l) (he : EngAt w eb db pm tm sk seq) (hg : ErrIs w b) (hid : id ≤ 64) (hx : seek l (mk id 0 []) = none) :
    Calls Tryz.prog 25 #[KT, .pointer (some ⟨tb, 0, none⟩), .int .i64 (id : Int)] w fun e w' => e = .returned (.tuple #[treeZ, .int .i64 6]) ∧ Below w.heap.size w w' := by
  obtain ⟨W0, hW0⟩ : ∃ W0, w.alloc (.cells #[.int .i64 0, .func (.func 56) #[] #[], .func (.func 57) #[] #[], .func (.func 58) #[] #[]] 75) = W0 := ⟨_, rfl⟩
  have b0 : Hid (Below w.heap.size w W0) := by rw [← hW0]; exact (Below.refl _ _).alloc (Nat.le_refl _) _
  have k0 : Hid (KTW W0 w.heap.size) := by rw [← hW0]; exact ⟨heap_alloc_new w _⟩
  have s0 : W0.heap.size = w.heap.size + 1 := by rw [← hW0]; simp
  obtain ⟨rc, hrc⟩ : ∃ rc, W0.heap.size = rc := ⟨_, rfl⟩
  have LRC : Hid (w.heap.size ≤ rc) := by show _ ≤ _; omega
  obtain ⟨W1, hW1⟩ : ∃ W1, W0.alloc (.cells #[.int .i64 0, .int .i64 0, .int .i64 0, .string ⟨#[]⟩, .string ⟨#[]⟩] 29) = W1 := ⟨_, rfl⟩
  have b1 : Hid (Below w.heap.size w W1) := by rw [← hW1]; exact b0.out.alloc b0.out.size _
  have g1 : Hid (W1.heap[rc]? = some (.cells #[.int .i64 0, .int .i64 0, .int .i64 0, .string ⟨#[]⟩, .string ⟨#[]⟩] 29)) := by rw [← hW1, ← hrc]; exact heap_alloc_new W0 _
  have k1 : Hid (KTW W1 w.heap.size) := by rw [← hW1]; exact ⟨(Below.heap_alloc _ _ _ (Array.getElem?_eq_some_iff.1 k0.out.row).1).trans k0.out.row⟩
  obtain ⟨c0, c1, c2, c3⟩ := k1.out.c
  have IK := keep (tkey_any id b W1 hid (hg.below b1.out))
  have T1 := keep (h.below b1.out)
  have E1 := keep (he.below b1.out)
  have HX := keep hx
  clear h he hg hx s0
  unfold KT at IK ⊢
  unfold treeZ
  go_enter Tryz.func25, Tryz.ntmps25
  go_wp2_with fail
  refine IK.out.mono ?_
  rintro e w2 ⟨v, rfl, hn2⟩
  obtain ⟨ap, ac, rfl, hs2, _⟩ := hn2.src
  have B2 := keep (b1.out.trans (hn2.2.mono b1.out.size))
  have G2 := keep ((hn2.2.block _ (Array.getElem?_eq_some_iff.1 g1.out).1).trans g1.out)
  have TG := keep (tget_none tb eb wm gm db pm tm sk seq l ap ac (mk id 0 []) w2 (T1.out.below hn2.2) (E1.out.below hn2.2) hs2 (by rw [mk_length]; unfold maxLen; decide) HX.out)
  rw [show (mk id 0 []).length = 9 by rw [mk_length]; rfl] at TG
  clear hn2 hs2 IK hW1 hW0 hrc c0 c1 c2 c3
  go_wp2_with fail
  refine TG.out.mono ?_
  rintro e w3 ⟨rfl, hb3⟩
  have B3 := keep (B2.out.trans (hb3.mono B2.out.size))
  have G3 := keep ((hb3.block _ (Array.getElem?_eq_some_iff.1 G2.out).1).trans G2.out)
  have B4 := keep (B3.out.alloc B3.out.size (.cells #[.int .i64 0, .int .i64 0, .int .i64 0, .string ⟨#[]⟩, .string ⟨#[]⟩] 29))
  have G4 := keep ((Below.heap_alloc w3 (.cells #[.int .i64 0, .int .i64 0, .int .i64 0, .string ⟨#[]⟩, .string ⟨#[]⟩] 29) rc (Array.getElem?_eq_some_iff.1 G3.out).1).trans G3.out)
  clear hb3 TG
  have z0 : (w3.alloc (.cells #[.int .i64 0, .int .i64 0, .int .i64 0, .string ⟨#[]⟩, .string ⟨#[]⟩] 29)).cell? ⟨rc, 0, none⟩ = some (.int .i64 0) := cell_of_row _ _ _ _ _ _ G4.out
  have z1 : (w3.alloc (.cells #[.int .i64 0, .int .i64 0, .int .i64 0, .string ⟨#[]⟩, .string ⟨#[]⟩] 29)).cell? ⟨rc, 1, none⟩ = some (.int .i64 0) := cell_of_row _ _ _ _ _ _ G4.out
  have z2 : (w3.alloc (.cells #[.int .i64 0, .int .i64 0, .int .i64 0, .string ⟨#[]⟩, .string ⟨#[]⟩] 29)).cell? ⟨rc, 2, none⟩ = some (.int .i64 0) := cell_of_row _ _ _ _ _ _ G4.out
  have z3 : (w3.alloc (.cells #[.int .i64 0, .int .i64 0, .int .i64 0, .string ⟨#[]⟩, .string ⟨#[]⟩] 29)).cell? ⟨rc, 3, none⟩ = some (.string ⟨#[]⟩) := cell_of_row _ _ _ _ _ _ G4.out
  have z4 : (w3.alloc (.cells #[.int .i64 0, .int .i64 0, .int .i64 0, .string ⟨#[]⟩, .string ⟨#[]⟩] 29)).cell? ⟨rc, 4, none⟩ = some (.string ⟨#[]⟩) := cell_of_row _ _ _ _ _ _ G4.out
  have f0 : (w3.alloc (.cells #[.int .i64 0, .int .i64 0, .int .i64 0, .string ⟨#[]⟩, .string ⟨#[]⟩] 29)).frozen? ⟨rc, 0, none⟩ = false := by simp [World.frozen?, G4.out]
  have f1 : (w3.alloc (.cells #[.int .i64 0, .int .i64 0, .int .i64 0, .string ⟨#[]⟩, .string ⟨#[]⟩] 29)).frozen? ⟨rc, 1, none⟩ = false := by simp [World.frozen?, G4.out]
  have f2 : (w3.alloc (.cells #[.int .i64 0, .int .i64 0, .int .i64 0, .string ⟨#[]⟩, .string ⟨#[]⟩] 29)).frozen? ⟨rc, 2, none⟩ = false := by simp [World.frozen?, G4.out]
  have f3 : (w3.alloc (.cells #[.int .i64 0, .int .i64 0, .int .i64 0, .string ⟨#[]⟩, .string ⟨#[]⟩] 29)).frozen? ⟨rc, 3, none⟩ = false := by simp [World.frozen?, G4.out]
  have f4 : (w3.alloc (.cells #[.int .i64 0, .int .i64 0, .int .i64 0, .string ⟨#[]⟩, .string ⟨#[]⟩] 29)).frozen? ⟨rc, 4, none⟩ = false := by simp [World.frozen?, G4.out]
  go_wp2
  refine ⟨rfl, .tuple #[.agg #[.int .i64 0, .int .i64 0, .int .i64 0, .string ⟨#[]⟩, .string ⟨#[]⟩], .int .i64 6], ?_, rfl, ?_⟩
  · have r0 : ((w3.alloc (.cells #[.int .i64 0, .int .i64 0, .int .i64 0, .string ⟨#[]⟩, .string ⟨#[]⟩] 29)).setCell ⟨rc, 0, none⟩ (.int .i64 0)).cell? ⟨rc, 0, none⟩ = some (.int .i64 0) := World.cell?_setCell_same' _ _ _ (by simp [go_sem, z0])
    have r1 : (((w3.alloc (.cells #[.int .i64 0, .int .i64 0, .int .i64 0, .string ⟨#[]⟩, .string ⟨#[]⟩] 29)).setCell ⟨rc, 0, none⟩ (.int .i64 0)).setCell ⟨rc, 1, none⟩ (.int .i64 0)).cell? ⟨rc, 1, none⟩ = some (.int .i64 0) := World.cell?_setCell_same' _ _ _ (by simp [go_sem, z1])
    have r2 : ((((w3.alloc (.cells #[.int .i64 0, .int .i64 0, .int .i64 0, .string ⟨#[]⟩, .string ⟨#[]⟩] 29)).setCell ⟨rc, 0, none⟩ (.int .i64 0)).setCell ⟨rc, 1, none⟩ (.int .i64 0)).setCell ⟨rc, 2, none⟩ (.int .i64 0)).cell? ⟨rc, 2, none⟩ = some (.int .i64 0) := World.cell?_setCell_same' _ _ _ (by simp [go_sem, z2])
    have r3 : (((((w3.alloc (.cells #[.int .i64 0, .int .i64 0, .int .i64 0, .string ⟨#[]⟩, .string ⟨#[]⟩] 29)).setCell ⟨rc, 0, none⟩ (.int .i64 0)).setCell ⟨rc, 1, none⟩ (.int .i64 0)).setCell ⟨rc, 2, none⟩ (.int .i64 0)).setCell ⟨rc, 3, none⟩ (.string ⟨#[]⟩)).cell? ⟨rc, 3, none⟩ = some (.string ⟨#[]⟩) := World.cell?_setCell_same' _ _ _ (by simp [go_sem, z3])
    have r4 : ((((((w3.alloc (.cells #[.int .i64 0, .int .i64 0, .int .i64 0, .string ⟨#[]⟩, .string ⟨#[]⟩] 29)).setCell ⟨rc, 0, none⟩ (.int .i64 0)).setCell ⟨rc, 1, none⟩ (.int .i64 0)).setCell ⟨rc, 2, none⟩ (.int .i64 0)).setCell ⟨rc, 3, none⟩ (.string ⟨#[]⟩)).setCell ⟨rc, 4, none⟩ (.string ⟨#[]⟩)).cell? ⟨rc, 4, none⟩ = some (.string ⟨#[]⟩) := World.cell?_setCell_same' _ _ _ (by simp [go_sem, z4])
    simp [results, Tryz.f25, go_sem, loadCells, loadCellsFrom, r0, r1, r2, r3, r4]
  · exact (((((B4.out.setCell (p := ⟨rc, 0, none⟩) LRC.out _).setCell (p := ⟨rc, 1, none⟩) LRC.out _).setCell (p := ⟨rc, 2, none⟩) LRC.out _).setCell (p := ⟨rc, 3, none⟩) LRC.out _).setCell (p := ⟨rc, 4, none⟩) LRC.out _)
set_option maxHeartbeats 4000000 in
set_option maxRecDepth 100000 in
theorem istree_yes (id : Int) (w : World) (h0 : 1 ≤ id) (h1 : id ≤ 64) :
    Calls Tryz.prog 23 #[.int .i64 id] w fun e w' => e = .returned (.bool true) ∧ w' = w := by
  go_enter Tryz.func23, Tryz.ntmps23
  go_wp2
  go_ret
  exact ⟨rfl, rfl⟩
set_option maxHeartbeats 4000000 in
set_option maxRecDepth 100000 in
theorem gettree_none (tb eb wm gm db pm tm sk : Nat) (seq : Int) (l : List Named) (b : Addr) (id : Nat) (w : World) (h : TxnAt w tb eb wm gm seq l) (he : EngAt w eb db pm tm sk seq) (hg : ErrIs w b) (h1 : 1 ≤ id) (hid : id ≤ 64) (hx : seek l (mk id 0 []) = none) :
    Calls Tryz.prog 10 #[.pointer (some ⟨tb, 0, none⟩), .int .i64 (id : Int)] w fun e w' => e = .returned (.tuple #[treeZ, .int .i64 10]) ∧ Below w.heap.size w w' := by
  obtain ⟨W1, hW1⟩ : ∃ W1, w.alloc (.cells #[.int .i64 0, .int .i64 0, .int .i64 0, .string ⟨#[]⟩, .string ⟨#[]⟩] 29) = W1 := ⟨_, rfl⟩
  have b1 : Hid (Below w.heap.size w W1) := by rw [← hW1]; exact (Below.refl _ _).alloc (Nat.le_refl _) _
  have g1 : Hid (W1.heap[w.heap.size]? = some (.cells #[.int .i64 0, .int .i64 0, .int .i64 0, .string ⟨#[]⟩, .string ⟨#[]⟩] 29)) := by rw [← hW1]; exact heap_alloc_new w _
  have T1 := keep (h.below b1.out)
  have E1 := keep (he.below b1.out)
  have G1 := keep (hg.below b1.out)
  have HX := keep hx
  have IT := keep (istree_yes (id : Int) W1 (by omega) (by omega))
  clear h he hg hx
  unfold treeZ
  go_enter Tryz.func10, Tryz.ntmps10
  go_wp2_with fail
  refine IT.out.mono ?_
  rintro e w2 ⟨rfl, rfl⟩
  clear IT
  go_wp2_with fail
  refine (trees_any w2).mono ?_
  rintro e w3 ⟨rfl, hb3⟩
  have B3 := keep (b1.out.trans (hb3.mono b1.out.size))
  have G3 := keep ((hb3.block _ (Array.getElem?_eq_some_iff.1 g1.out).1).trans g1.out)
  have KG := keep (ktget_none tb eb wm gm db pm tm sk seq l b id w3 (T1.out.below hb3) (E1.out.below hb3) (G1.out.below hb3) hid HX.out)
  unfold treeZ at KG
  clear hb3 hW1
  go_wp2_with fail
  refine KG.out.mono ?_
  rintro e w4 ⟨rfl, hb4⟩
  have B4 := keep (B3.out.trans (hb4.mono B3.out.size))
  have G4 := keep ((hb4.block _ (Array.getElem?_eq_some_iff.1 G3.out).1).trans G3.out)
  have B5 := keep (B4.out.alloc B4.out.size (.cells #[.int .i64 0, .int .i64 0, .int .i64 0, .string ⟨#[]⟩, .string ⟨#[]⟩] 29))
  have G5 := keep ((Below.heap_alloc w4 (.cells #[.int .i64 0, .int .i64 0, .int .i64 0, .string ⟨#[]⟩, .string ⟨#[]⟩] 29) w.heap.size (Array.getElem?_eq_some_iff.1 G4.out).1).trans G4.out)
  clear hb4 KG
  have z0 : (w4.alloc (.cells #[.int .i64 0, .int .i64 0, .int .i64 0, .string ⟨#[]⟩, .string ⟨#[]⟩] 29)).cell? ⟨w.heap.size, 0, none⟩ = some (.int .i64 0) := cell_of_row _ _ _ _ _ _ G5.out
  have z1 : (w4.alloc (.cells #[.int .i64 0, .int .i64 0, .int .i64 0, .string ⟨#[]⟩, .string ⟨#[]⟩] 29)).cell? ⟨w.heap.size, 1, none⟩ = some (.int .i64 0) := cell_of_row _ _ _ _ _ _ G5.out
  have z2 : (w4.alloc (.cells #[.int .i64 0, .int .i64 0, .int .i64 0, .string ⟨#[]⟩, .string ⟨#[]⟩] 29)).cell? ⟨w.heap.size, 2, none⟩ = some (.int .i64 0) := cell_of_row _ _ _ _ _ _ G5.out
  have z3 : (w4.alloc (.cells #[.int .i64 0, .int .i64 0, .int .i64 0, .string ⟨#[]⟩, .string ⟨#[]⟩] 29)).cell? ⟨w.heap.size, 3, none⟩ = some (.string ⟨#[]⟩) := cell_of_row _ _ _ _ _ _ G5.out
  have z4 : (w4.alloc (.cells #[.int .i64 0, .int .i64 0, .int .i64 0, .string ⟨#[]⟩, .string ⟨#[]⟩] 29)).cell? ⟨w.heap.size, 4, none⟩ = some (.string ⟨#[]⟩) := cell_of_row _ _ _ _ _ _ G5.out
  have f0 : (w4.alloc (.cells #[.int .i64 0, .int .i64 0, .int .i64 0, .string ⟨#[]⟩, .string ⟨#[]⟩] 29)).frozen? ⟨w.heap.size, 0, none⟩ = false := by simp [World.frozen?, G5.out]
  have f1 : (w4.alloc (.cells #[.int .i64 0, .int .i64 0, .int .i64 0, .string ⟨#[]⟩, .string ⟨#[]⟩] 29)).frozen? ⟨w.heap.size, 1, none⟩ = false := by simp [World.frozen?, G5.out]
  have f2 : (w4.alloc (.cells #[.int .i64 0, .int .i64 0, .int .i64 0, .string ⟨#[]⟩, .string ⟨#[]⟩] 29)).frozen? ⟨w.heap.size, 2, none⟩ = false := by simp [World.frozen?, G5.out]
  have f3 : (w4.alloc (.cells #[.int .i64 0, .int .i64 0, .int .i64 0, .string ⟨#[]⟩, .string ⟨#[]⟩] 29)).frozen? ⟨w.heap.size, 3, none⟩ = false := by simp [World.frozen?, G5.out]
  have f4 : (w4.alloc (.cells #[.int .i64 0, .int .i64 0, .int .i64 0, .string ⟨#[]⟩, .string ⟨#[]⟩] 29)).frozen? ⟨w.heap.size, 4, none⟩ = false := by simp [World.frozen?, G5.out]
  go_wp2
  refine ⟨rfl, .tuple #[.agg #[.int .i64 0, .int .i64 0, .int .i64 0, .string ⟨#[]⟩, .string ⟨#[]⟩], .int .i64 10], ?_, rfl, ?_⟩
  · have r0 : ((w4.alloc (.cells #[.int .i64 0, .int .i64 0, .int .i64 0, .string ⟨#[]⟩, .string ⟨#[]⟩] 29)).setCell ⟨w.heap.size, 0, none⟩ (.int .i64 0)).cell? ⟨w.heap.size, 0, none⟩ = some (.int .i64 0) := World.cell?_setCell_same' _ _ _ (by simp [go_sem, z0])
    have r1 : (((w4.alloc (.cells #[.int .i64 0, .int .i64 0, .int .i64 0, .string ⟨#[]⟩, .string ⟨#[]⟩] 29)).setCell ⟨w.heap.size, 0, none⟩ (.int .i64 0)).setCell ⟨w.heap.size, 1, none⟩ (.int .i64 0)).cell? ⟨w.heap.size, 1, none⟩ = some (.int .i64 0) := World.cell?_setCell_same' _ _ _ (by simp [go_sem, z1])
    have r2 : ((((w4.alloc (.cells #[.int .i64 0, .int .i64 0, .int .i64 0, .string ⟨#[]⟩, .string ⟨#[]⟩] 29)).setCell ⟨w.heap.size, 0, none⟩ (.int .i64 0)).setCell ⟨w.heap.size, 1, none⟩ (.int .i64 0)).setCell ⟨w.heap.size, 2, none⟩ (.int .i64 0)).cell? ⟨w.heap.size, 2, none⟩ = some (.int .i64 0) := World.cell?_setCell_same' _ _ _ (by simp [go_sem, z2])
    have r3 : (((((w4.alloc (.cells #[.int .i64 0, .int .i64 0, .int .i64 0, .string ⟨#[]⟩, .string ⟨#[]⟩] 29)).setCell ⟨w.heap.size, 0, none⟩ (.int .i64 0)).setCell ⟨w.heap.size, 1, none⟩ (.int .i64 0)).setCell ⟨w.heap.size, 2, none⟩ (.int .i64 0)).setCell ⟨w.heap.size, 3, none⟩ (.string ⟨#[]⟩)).cell? ⟨w.heap.size, 3, none⟩ = some (.string ⟨#[]⟩) := World.cell?_setCell_same' _ _ _ (by simp [go_sem, z3])
    have r4 : ((((((w4.alloc (.cells #[.int .i64 0, .int .i64 0, .int .i64 0, .string ⟨#[]⟩, .string ⟨#[]⟩] 29)).setCell ⟨w.heap.size, 0, none⟩ (.int .i64 0)).setCell ⟨w.heap.size, 1, none⟩ (.int .i64 0)).setCell ⟨w.heap.size, 2, none⟩ (.int .i64 0)).setCell ⟨w.heap.size, 3, none⟩ (.string ⟨#[]⟩)).setCell ⟨w.heap.size, 4, none⟩ (.string ⟨#[]⟩)).cell? ⟨w.heap.size, 4, none⟩ = some (.string ⟨#[]⟩) := World.cell?_setCell_same' _ _ _ (by simp [go_sem, z4])
    simp [results, Tryz.f10, go_sem, loadCells, loadCellsFrom, r0, r1, r2, r3, r4]
  · exact (((((B5.out.setCell (p := ⟨w.heap.size, 0, none⟩) (Nat.le_refl _) _).setCell (p := ⟨w.heap.size, 1, none⟩) (Nat.le_refl _) _).setCell (p := ⟨w.heap.size, 2, none⟩) (Nat.le_refl _) _).setCell (p := ⟨w.heap.size, 3, none⟩) (Nat.le_refl _) _).setCell (p := ⟨w.heap.size, 4, none⟩) (Nat.le_refl _) _)
set_option maxHeartbeats 4000000 in
set_option maxRecDepth 100000 in
theorem row_327 (b : Addr) (w : World) (hg : ErrIs w b) :
    Calls Tryz.prog 11 #[.int .i64 3, .int .i64 2, .int .i64 7] w fun e w' => ∃ ap ac, e = .returned (.tuple #[.slice ap 17 ac, .int .i64 0]) ∧ Below w.heap.size w w' := by
  have NY := keep (num_yes 3 2 7 b w (by omega) (by omega) (by omega) hg)
  rw [show ((3 : Nat) : Int) = 3 from rfl, show ((2 : Nat) : Int) = 2 from rfl, show ((7 : Nat) : Int) = 7 from rfl] at NY
  clear hg
  go_enter Tryz.func11, Tryz.ntmps11
  go_wp2_with fail
  refine (istree_yes 3 w (by decide) (by decide)).mono ?_
  rintro e w1 ⟨rfl, rfl⟩
  go_wp2_with fail
  refine NY.out.mono ?_
  rintro e w2 ⟨v, rfl, hn⟩
  obtain ⟨ap, ac, rfl, _, _⟩ := hn.src
  have B2 := keep hn.2
  clear hn NY
  go_wp2
  go_ret2
  exact ⟨_, _, rfl, B2.out⟩
end Go.Proofs.YtogphpejdnhnjaaGreatDoor
namespace Go.Proofs.YtogphpejdnhnjaaGreatDoor
open Go.RowKit Go.Maps
open Dk (File Disk)

/-- A world of the law's: a transaction over an engine that has nothing, and how many trees it has written. -/
structure UpW (w : World) (wb tb eb wm gm db pm tm sk : Nat) (l : List Named) (n : Nat) : Prop where
  ptr : w.cell? ⟨wb, 2, none⟩ = some (.pointer (some ⟨tb, 0, none⟩))
  txn : TxnAt w tb eb wm gm 0 l
  eng : EngAt w eb db pm tm sk 0
  had : Had w l n
section
variable {w w' : World} {wb tb eb wm gm db pm tm sk : Nat} {l : List Named} {n : Nat}
theorem UpW.below (h : UpW w wb tb eb wm gm db pm tm sk l n) (hb : Below w.heap.size w w') : UpW w' wb tb eb wm gm db pm tm sk l n :=
  ⟨by rw [hb.cell (p := ⟨wb, 2, none⟩) (World.block_lt_of_cell? w _ h.ptr)]; exact h.ptr, h.txn.below hb, h.eng.below hb, h.had.below hb⟩
theorem UpW.put {l' : List Named} {m : Nat} (h : UpW w wb tb eb wm gm db pm tm sk l n) (hk : Kept (At wm) w w') (ht : TxnAt w' tb eb wm gm 0 l') (hh : Had w' l' m) : UpW w' wb tb eb wm gm db pm tm sk l' m := by
  have nc := h.txn.nocell
  refine ⟨?_, ht, h.eng.same (hk.block eb h.eng.lt.1 (fun e => ?_)) (hk.block sk h.eng.lt.2 (fun e => ?_)), hh⟩
  · rw [hk.cell (p := ⟨wb, 2, none⟩) (World.block_lt_of_cell? w _ h.ptr) (fun e => ?_)]
    · exact h.ptr
    · have e2 : wb = wm := e
      have hc := h.ptr
      unfold World.cell? at hc
      rw [show (⟨wb, 2, none⟩ : Addr).block = wm from e2] at hc
      cases hx : w.heap[wm]? with
      | none => rw [hx] at hc; cases hc
      | some o =>
        cases o with
        | cells c t f => exact nc c t f hx
        | _ => rw [hx] at hc; cases hc
  · have e2 : eb = wm := e; exact nc _ _ _ (by rw [← e2]; exact h.eng.box)
  · have e2 : sk = wm := e; exact nc _ _ _ (by rw [← e2]; exact h.eng.list)
end
set_option maxHeartbeats 4000000 in
set_option maxRecDepth 100000 in
theorem wbegin (wb eb rb db pm tm sk q : Nat) (w : World) (hw : w.heap[wb]? = some (.cells #[.pointer (some ⟨eb, 0, none⟩), .pointer (some ⟨rb, 0, none⟩), .pointer none, .pointer none] 44 (0, 0))) (he : EngAt w eb db pm tm sk 0) (hp : w.heap[pm]? = some (.map #[] 0)) (hr : RE w rb q) (h1 : eb < rb) (h2 : sk < rb) (h3 : pm < rb) (h4 : rb < wb) :
    Calls Tryz.prog 19 #[.pointer (some ⟨wb, 0, none⟩)] w fun e w' => e = .returned (.bool true) ∧ ∃ tb wm gm, UpW w' wb tb eb wm gm db pm tm sk [] 0 ∧ w.heap.size ≤ wm ∧ Kept (fun g => g = pm ∨ g = rb ∨ g = wb) w w' := by
  have HW := keep hw
  have HE := keep he
  have HR := keep hr
  have HP := keep hp
  have BN := keep (begin_none eb db pm tm sk 0 w he hp (by decide))
  have a0 : w.cell? ⟨wb, 0, none⟩ = some (.pointer (some ⟨eb, 0, none⟩)) := cell_of_row _ _ _ _ _ _ hw
  have LW : Hid (wb < w.heap.size) := (Array.getElem?_eq_some_iff.1 hw).1
  clear hw he hp hr
  go_enter Tryz.func19, Tryz.ntmps19
  go_wp2_with fail
  refine BN.out.mono ?_
  rintro e w1 ⟨tb, wm, gm, rfl, ht, hl1, hl2, hk1⟩
  have T1 := keep ht
  have K1 := keep hk1
  have HTB := keep hl1
  have HWM := keep hl2
  have W1 := keep ((hk1.block wb LW.out (fun e => by have e2 : wb = pm := e; omega)).trans HW.out)
  have R1 : Hid (RE w1 rb q) := ⟨(hk1.block rb (by have := LW.out; omega) (fun e => by have e2 : rb = pm := e; omega)).trans HR.out.row⟩
  have E1 := keep (HE.out.same (hk1.block eb HE.out.lt.1 (fun e => by have e2 : eb = pm := e; have hx := HE.out.box; rw [e2, HP.out] at hx; cases hx)) (hk1.block sk HE.out.lt.2 (fun e => by have e2 : sk = pm := e; have hx := HE.out.list; rw [e2, HP.out] at hx; cases hx)))
  have a1 : w1.cell? ⟨wb, 1, none⟩ = some (.pointer (some ⟨rb, 0, none⟩)) := cell_of_row _ _ _ _ _ _ W1.out
  have RB := keep (rbegin_none rb q w1 R1.out)
  clear ht hl1 hl2 hk1 BN a0
  go_wp2_with fail
  refine RB.out.mono ?_
  rintro e w2 ⟨sb, rfl, hk2⟩
  have K2 := keep hk2
  have W2 := keep ((hk2.block wb (Nat.lt_of_lt_of_le LW.out K1.out.size) (fun e => by have e2 : wb = rb := e; omega)).trans W1.out)
  have E2 := keep (E1.out.same (hk2.block eb E1.out.lt.1 (fun e => by have e2 : eb = rb := e; omega)) (hk2.block sk E1.out.lt.2 (fun e => by have e2 : sk = rb := e; omega)))
  have LR : Hid (rb < w.heap.size) := by have := LW.out; show _ < _; omega
  have T2 : Hid (TxnAt w2 tb eb wm gm 0 []) := ⟨(hk2.block tb T1.out.lt.1 (fun e => by have e2 : tb = rb := e; have := LR.out; have := HTB.out; omega)).trans T1.out.box, T1.out.map.same (hk2.block wm T1.out.lt.2 (fun e => by have e2 : wm = rb := e; have := LR.out; have := HWM.out; omega)), T1.out.few⟩
  have y2 : w2.cell? ⟨wb, 2, none⟩ = some (.pointer none) := cell_of_row _ _ _ _ _ _ W2.out
  have f2 : w2.frozen? ⟨wb, 2, none⟩ = false := by simp [World.frozen?, W2.out]
  have W3 := keep (set_row W2.out 2 (.pointer (some ⟨tb, 0, none⟩)))
  have y3 : (w2.setCell ⟨wb, 2, none⟩ (.pointer (some ⟨tb, 0, none⟩))).cell? ⟨wb, 3, none⟩ = some (.pointer none) := cell_of_row _ _ _ _ _ _ W3.out
  have f3 : (w2.setCell ⟨wb, 2, none⟩ (.pointer (some ⟨tb, 0, none⟩))).frozen? ⟨wb, 3, none⟩ = false := by simp [World.frozen?, W3.out]
  have W4 := keep (set_row W3.out 3 (.pointer (some ⟨sb, 0, none⟩)))
  have KS : Hid (Kept (At wb) w2 ((w2.setCell ⟨wb, 2, none⟩ (.pointer (some ⟨tb, 0, none⟩))).setCell ⟨wb, 3, none⟩ (.pointer (some ⟨sb, 0, none⟩)))) := ((Kept.refl _ _).at_set _ _).at_set _ _
  clear hk2 RB a1
  go_wp2
  go_ret
  refine ⟨rfl, tb, wm, gm, ⟨cell_of_row _ _ _ _ _ _ W4.out, ⟨(KS.out.block tb T2.out.lt.1 (fun e => by have e2 : tb = wb := e; have := LW.out; have := HTB.out; omega)).trans T2.out.box, T2.out.map.same (KS.out.block wm T2.out.lt.2 (fun e => by have e2 : wm = wb := e; have := LW.out; have := HWM.out; omega)), T2.out.few⟩, E2.out.same (KS.out.block eb E2.out.lt.1 (fun e => by have e2 : eb = wb := e; omega)) (KS.out.block sk E2.out.lt.2 (fun e => by have e2 : sk = wb := e; omega)), .inl ⟨rfl, rfl⟩⟩, HWM.out, ?_⟩
  exact ((K1.out.wide (V := fun g => g = pm ∨ g = rb ∨ g = wb) (fun g _ e => .inl e)).trans (K2.out.wide (fun g _ e => .inr (.inl e)))).trans (KS.out.wide (fun g _ e => .inr (.inr e)))
set_option maxHeartbeats 4000000 in
set_option maxRecDepth 100000 in
theorem made_any (w : World) (ht : Tab w) (hw : 0 < w.heap.size) :
    Calls Tryz.prog 8 #[] w fun e w' => ∃ wb tb eb wm gm db pm tm sk, e = .returned (.pointer (some ⟨wb, 0, none⟩)) ∧ UpW w' wb tb eb wm gm db pm tm sk [] 0 ∧ w.heap.size ≤ wm ∧ Below w.heap.size w w' := by
  have HT := keep ht
  have ND := keep (new_mem 1099511627776 w (Nat.le_refl _))
  rw [show ((1099511627776 : Nat) : Int) = 1099511627776 from rfl] at ND
  clear ht
  go_enter Tryz.func8, Tryz.ntmps8
  go_wp2_with fail
  refine ND.out.mono ?_
  rintro e w1 ⟨db, S, rfl, hm, _, _, hb1⟩
  have B1 := keep hb1
  have OP := keep (open_none S db _ w1 hm rfl (HT.out.below hb1 hw) (Nat.lt_of_lt_of_le hw hb1.size))
  clear hb1 hm ND
  go_wp2_with fail
  refine OP.out.mono ?_
  rintro e w2 ⟨eb, pm, tm, sk, rfl, he, hp, hl1, hl2, hl3, hb2⟩
  have B2 := keep (B1.out.trans (hb2.mono B1.out.size))
  have E2 := keep he
  have P2 := keep hp
  have L1 : Hid (w.heap.size ≤ pm) := Nat.le_trans B1.out.size hl1
  have U1 : Hid (eb < w2.heap.size ∧ sk < w2.heap.size ∧ pm < w2.heap.size) := ⟨he.lt.1, he.lt.2, (Array.getElem?_eq_some_iff.1 hp).1⟩
  clear he hp hl1 hl2 hl3 hb2 OP
  go_wp2_with fail
  refine (rdnew w2).mono ?_
  rintro e w3 ⟨q, rfl, hr, hb3⟩
  have B3 := keep (B2.out.trans (hb3.mono B2.out.size))
  have E3 := keep (E2.out.below hb3)
  have P3 := keep ((hb3.block pm U1.out.2.2).trans P2.out)
  have RO := keep (ropen_none q _ w3 hr)
  have S3 := keep hb3.size
  clear hr hb3
  go_wp2_with fail
  refine RO.out.mono ?_
  rintro e w4 ⟨rb, rfl, hr, hl, hb4⟩
  have B4 := keep (B3.out.trans (hb4.mono B3.out.size))
  have E4 := keep (E3.out.below hb4)
  have P4 := keep ((hb4.block pm (Array.getElem?_eq_some_iff.1 P3.out).1).trans P3.out)
  have R4 := keep hr
  have L4 := keep hl
  have V4 : Hid (rb < w4.heap.size) := (Array.getElem?_eq_some_iff.1 hr.row).1
  have b5 := keep ((Below.refl w4.heap.size w4).alloc (Nat.le_refl _) (.cells #[.pointer (some ⟨eb, 0, none⟩), .pointer (some ⟨rb, 0, none⟩), .pointer none, .pointer none] 44))
  have N5 := keep (heap_alloc_new w4 (.cells #[.pointer (some ⟨eb, 0, none⟩), .pointer (some ⟨rb, 0, none⟩), .pointer none, .pointer none] 44))
  have BG := keep (wbegin w4.heap.size eb rb db pm tm sk q _ N5.out (E4.out.below b5.out) ((b5.out.block pm (Array.getElem?_eq_some_iff.1 P4.out).1).trans P4.out) (R4.out.below b5.out) (by have := U1.out; have := S3.out; have := L4.out; omega) (by have := U1.out; have := S3.out; have := L4.out; omega) (by have := U1.out; have := S3.out; have := L4.out; omega) V4.out)
  have B5 := keep (B4.out.trans (b5.out.mono B4.out.size))
  have Z4 := keep B4.out.size
  clear hr hl hb4 RO
  go_wp2_with fail
  refine BG.out.mono ?_
  rintro e w6 ⟨rfl, tb, wm, gm, hu, hlm, hk⟩
  have U6 := keep hu
  have LM : Hid (w.heap.size ≤ wm) := by have h1 := B5.out.size; show _ ≤ _; omega
  have B6 : Hid (Below w.heap.size w w6) := B5.out.trans (hk.below B5.out.size (fun g hg => by
    have h1 := L1.out
    have h2 := Z4.out
    have h3 := L4.out
    have h4 := B3.out.size
    rcases hg with e | e | e <;> omega))
  clear hu hlm hk BG
  go_wp2
  go_ret
  exact ⟨_, tb, eb, wm, gm, db, pm, tm, sk, rfl, U6.out, LM.out, B6.out⟩
set_option maxHeartbeats 4000000 in
set_option maxRecDepth 100000 in
theorem awake_any (b : Addr) (w : World) (ht : Tab w) (hw : 0 < w.heap.size) (hg : ErrIs w b) :
    Calls Tryz.prog 4 #[] w fun e w' => e = .returned (.bool true) ∧ Below w.heap.size w w' := by
  have HG := keep hg
  have MA := keep (made_any w ht hw)
  clear ht hg
  go_enter Tryz.func4, Tryz.ntmps4
  go_wp2_with fail
  refine MA.out.mono ?_
  rintro e w1 ⟨wb, tb, eb, wm, gm, db, pm, tm, sk, rfl, hu, hlm, hb1⟩
  have B1 := keep hb1
  have LM := keep hlm
  have p1 := hu.ptr
  have FR := keep (fresh_yes tb eb wm gm db pm tm sk 0 [] b 0 w1 hu.txn hu.eng (HG.out.below hb1) hu.had (by decide))
  have U1 := keep hu
  clear hb1 hlm hu MA
  go_wp2_with fail
  refine FR.out.mono ?_
  rintro e w2 ⟨rfl, l2, ht2, hh2, hk2⟩
  have U2 := keep (U1.out.put hk2 ht2 hh2)
  have B2 : Hid (Below w.heap.size w w2) := B1.out.trans (hk2.below B1.out.size (fun g hg => by have e : g = wm := hg; rw [e]; exact LM.out))
  have p2 := U2.out.ptr
  have FS := keep (fresh_yes tb eb wm gm db pm tm sk 0 l2 b 1 w2 ht2 U2.out.eng (HG.out.below B2.out) hh2 (by decide))
  clear ht2 hh2 hk2 FR p1
  go_wp2_with fail
  refine FS.out.mono ?_
  rintro e w3 ⟨rfl, l3, ht3, hh3, hk3⟩
  have U3 := keep (U2.out.put hk3 ht3 hh3)
  have B3 : Hid (Below w.heap.size w w3) := B2.out.trans (hk3.below B2.out.size (fun g hg => by have e : g = wm := hg; rw [e]; exact LM.out))
  have p3 := U3.out.ptr
  have GT := keep (gettree_none tb eb wm gm db pm tm sk 0 l3 b 1 w3 ht3 U3.out.eng (HG.out.below B3.out) (by decide) (by decide) (hh3.other (by decide)))
  rw [show ((1 : Nat) : Int) = 1 from rfl] at GT
  unfold treeZ at GT
  clear ht3 hh3 hk3 FS p2
  go_wp2_with fail
  refine GT.out.mono ?_
  rintro e w4 ⟨rfl, hb4⟩
  have B4 := keep (B3.out.trans (hb4.mono B3.out.size))
  have b5 := keep (B4.out.alloc B4.out.size (.cells #[.int .i64 0, .int .i64 0, .int .i64 0, .string ⟨#[]⟩, .string ⟨#[]⟩] 29))
  have RW := keep (row_327 b _ (HG.out.below b5.out))
  clear hb4 GT p3
  go_wp2_with fail
  refine RW.out.mono ?_
  rintro e w6 ⟨ap, ac, rfl, hb6⟩
  have B6 := keep (b5.out.trans (hb6.mono b5.out.size))
  clear hb6 RW
  go_wp2
  go_ret
  exact ⟨rfl, B6.out⟩
end Go.Proofs.YtogphpejdnhnjaaGreatDoor
