/- The walk of wal's Add: what may not be; the power; no room. -/
import Derived.Test.YtohnfogdalnilaaGreatDoorWa
import Derived.Test.YtohnfogdalnilaaGreatDoorCk
namespace Go.Proofs.YtohnfogdalnilaaGreatDoor
open Go.RowKit Go.Shelf
open Dk (File Disk)

theorem segName_ne {n : Int} (h : isSeg n = true) : (segName n == []) = false := by
  rw [beq_eq_false_iff_ne]
  intro e
  have := segName_len h
  rw [e] at this
  cases this
/-- The boxes that Add lays: the disk, the answer, the name. -/
def boxed (w : World) (b : Nat) : World := (w.alloc (.cells #[.pointer (some ⟨b, 0, none⟩)] 28)).alloc (.cells #[.int .i64 0] 49)

set_option maxHeartbeats 2000000 in
set_option maxRecDepth 100000 in
theorem add_bad (b : Nat) (n : Int) (ao : Option Addr) (m c : Nat) (w : World) (ht : Tab w) (hw : 0 < w.heap.size) (h : isSeg n = false) :
    Calls Tryz.prog 20 #[.pointer (some ⟨b, 0, none⟩), .int .i64 n, .slice ao m c] w fun e w' => e = .returned (.int .i64 1) ∧ Below w.heap.size w w' := by
  obtain ⟨W1, hW1⟩ : ∃ W1, (w.alloc (.cells #[.pointer (some ⟨b, 0, none⟩)] 28)).alloc (.cells #[.int .i64 0] 49) = W1 := ⟨_, rfl⟩
  have b1 : Hid (Below w.heap.size w W1) := by rw [← hW1]; exact ((Below.refl _ _).alloc (Nat.le_refl _) _).alloc (by simp) _
  have g0 : Hid (W1.heap[w.heap.size]? = some (.cells #[.pointer (some ⟨b, 0, none⟩)] 28)) := by
    rw [← hW1]; exact (Below.heap_alloc _ _ _ (by simp)).trans (heap_alloc_new w _)
  have g1 : Hid (W1.heap[w.heap.size + 1]? = some (.cells #[.int .i64 0] 49)) := by
    have := heap_alloc_new (w.alloc (.cells #[.pointer (some ⟨b, 0, none⟩)] 28)) (.cells #[.int .i64 0] 49)
    rw [World.size_alloc] at this
    rw [← hW1]; exact this
  have hN := keep (name_any n W1 (ht.below b1.out hw))
  rw [segName_none h] at hN
  clear ht h
  rw [← callsIn_wide (n := 8)]
  refine callsIn_of_wp_marks Tryz.func20 rfl trivial ?_ rfl
  simp only [Tryz.ntmps20, List.size_toArray, List.length_cons, List.length_nil, Nat.reduceAdd, Nat.reduceSub, Array.replicate_succ, Array.replicate_zero, List.push_toArray, List.append_toArray, List.nil_append, List.cons_append]
  gi_wp2_with fail
  refine ⟨trivial, ?_⟩
  refine (callsIn_wide.2 hN.out).mono ?_
  rintro e w2 ⟨rfl, hb⟩
  obtain ⟨W3, hW3⟩ : ∃ W3, w2.alloc (.cells #[.string ⟨([] : List UInt8).toArray⟩] 9) = W3 := ⟨_, rfl⟩
  have b3 : Hid (Below W1.heap.size W1 W3) := by rw [← hW3]; exact hb.alloc hb.size _
  obtain ⟨W4, hW4⟩ : ∃ W4, W3.setCell ⟨w2.heap.size, 0, none⟩ (.string ⟨([] : List UInt8).toArray⟩) = W4 := ⟨_, rfl⟩
  have b4 : Hid (Below W1.heap.size W1 W4) := by rw [← hW4]; exact b3.out.setCell (p := ⟨w2.heap.size, 0, none⟩) hb.size _
  have q1 := keep ((b4.out.block (w.heap.size + 1) (Array.getElem?_eq_some_iff.1 g1.out).1).trans g1.out)
  have c1 : W4.cell? ⟨w.heap.size + 1, 0, none⟩ = some (.int .i64 0) := cell_of_row _ _ _ _ _ _ q1.out
  have f1 : W4.frozen? ⟨w.heap.size + 1, 0, none⟩ = false := by simp [World.frozen?, q1.out]
  have q2 : W3.heap[w2.heap.size]? = some (.cells #[.string ⟨([] : List UInt8).toArray⟩] 9) := by rw [← hW3]; exact heap_alloc_new w2 _
  have c2 : W3.cell? ⟨w2.heap.size, 0, none⟩ = some (.string ⟨([] : List UInt8).toArray⟩) := cell_of_row _ _ _ _ _ _ q2
  have f2 : W3.frozen? ⟨w2.heap.size, 0, none⟩ = false := by simp [World.frozen?, q2]
  have c3 : W4.cell? ⟨w2.heap.size, 0, none⟩ = some (.string ⟨([] : List UInt8).toArray⟩) := by rw [← hW4]; exact cell_of_row _ _ _ _ _ _ (set_row (c := #[.string ⟨([] : List UInt8).toArray⟩]) q2 0 _)
  have B4 := keep (b1.out.trans (b4.out.mono b1.out.size))
  have hsz := b1.out.size
  clear hb hN hW1 q2
  gi_wp2_with fail
  refine ⟨trivial, ?_⟩
  gi_wp2
  have hc5 : (W4.setCell ⟨w.heap.size + 1, 0, none⟩ (.int .i64 1)).cell? ⟨w.heap.size + 1, 0, none⟩ = some (.int .i64 1) := World.cell?_setCell_same' _ _ _ (by rw [c1]; rfl)
  refine ⟨.int .i64 1, ?_, rfl, B4.out.setCell (p := ⟨w.heap.size + 1, 0, none⟩) (by simp) _⟩
  simp [results, Tryz.f20, go_sem, hc5]
set_option maxHeartbeats 2000000 in
set_option maxRecDepth 100000 in
theorem add_long (b : Nat) (n : Int) (ao : Option Addr) (m c : Nat) (w : World) (ht : Tab w) (hw : 0 < w.heap.size) (h : isSeg n = true) (hm : 1048576 < m) :
    Calls Tryz.prog 20 #[.pointer (some ⟨b, 0, none⟩), .int .i64 n, .slice ao m c] w fun e w' => e = .returned (.int .i64 1) ∧ Below w.heap.size w w' := by
  obtain ⟨W1, hW1⟩ : ∃ W1, (w.alloc (.cells #[.pointer (some ⟨b, 0, none⟩)] 28)).alloc (.cells #[.int .i64 0] 49) = W1 := ⟨_, rfl⟩
  have b1 : Hid (Below w.heap.size w W1) := by rw [← hW1]; exact ((Below.refl _ _).alloc (Nat.le_refl _) _).alloc (by simp) _
  have s1 : Hid (W1.heap.size = w.heap.size + 2) := by rw [← hW1]; show _ = _; simp
  have g0 : Hid (W1.heap[w.heap.size]? = some (.cells #[.pointer (some ⟨b, 0, none⟩)] 28)) := by
    rw [← hW1]; exact (Below.heap_alloc _ _ _ (by simp)).trans (heap_alloc_new w _)
  have g1 : Hid (W1.heap[w.heap.size + 1]? = some (.cells #[.int .i64 0] 49)) := by
    have := heap_alloc_new (w.alloc (.cells #[.pointer (some ⟨b, 0, none⟩)] 28)) (.cells #[.int .i64 0] 49)
    rw [World.size_alloc] at this
    rw [← hW1]; exact this
  have hN := keep (name_any n W1 (ht.below b1.out hw))
  have hne := segName_ne h
  have hnd := keep (segName_named h)
  have hnl := keep (segName_len h)
  obtain ⟨N, hNN⟩ : ∃ N, segName n = N := ⟨_, rfl⟩
  rw [hNN] at hN hne hnd hnl
  clear ht h
  rw [← callsIn_wide (n := 8)]
  refine callsIn_of_wp_marks Tryz.func20 rfl trivial ?_ rfl
  simp only [Tryz.ntmps20, List.size_toArray, List.length_cons, List.length_nil, Nat.reduceAdd, Nat.reduceSub, Array.replicate_succ, Array.replicate_zero, List.push_toArray, List.append_toArray, List.nil_append, List.cons_append]
  gi_wp2_with fail
  refine ⟨trivial, ?_⟩
  refine (callsIn_wide.2 hN.out).mono ?_
  rintro e w2 ⟨rfl, hb⟩
  obtain ⟨W3, hW3⟩ : ∃ W3, w2.alloc (.cells #[.string ⟨N.toArray⟩] 9) = W3 := ⟨_, rfl⟩
  have b3 : Hid (Below W1.heap.size W1 W3) := by rw [← hW3]; exact hb.alloc hb.size _
  have q0 := keep ((b3.out.block w.heap.size (by rw [s1.out]; omega)).trans g0.out)
  have q1 := keep ((b3.out.block (w.heap.size + 1) (by rw [s1.out]; omega)).trans g1.out)
  have q2 : Hid (W3.heap[w2.heap.size]? = some (.cells #[.string ⟨N.toArray⟩] 9)) := by rw [← hW3]; exact heap_alloc_new w2 _
  have c0 : W3.cell? ⟨w.heap.size, 0, none⟩ = some (.pointer (some ⟨b, 0, none⟩)) := cell_of_row _ _ _ _ _ _ q0.out
  have c1 : W3.cell? ⟨w.heap.size + 1, 0, none⟩ = some (.int .i64 0) := cell_of_row _ _ _ _ _ _ q1.out
  have c2 : W3.cell? ⟨w2.heap.size, 0, none⟩ = some (.string ⟨N.toArray⟩) := cell_of_row _ _ _ _ _ _ q2.out
  have f1 : W3.frozen? ⟨w.heap.size + 1, 0, none⟩ = false := by simp [World.frozen?, q1.out]
  have B3 := keep (b1.out.trans (b3.out.mono b1.out.size))
  have sz3 : Hid (w.heap.size + 2 ≤ w2.heap.size ∧ w2.heap.size < W3.heap.size) := ⟨by have := hb.size; rw [s1.out] at this; exact this, (Array.getElem?_eq_some_iff.1 q2.out).1⟩
  clear hb hN
  clear hW1
  have hm1 : (1048576 : Int) < (m : Int) := by omega
  gi_wp2_with fail
  refine ⟨trivial, ?_⟩
  gi_wp2
  have hc5 : (W3.setCell ⟨w.heap.size + 1, 0, none⟩ (.int .i64 1)).cell? ⟨w.heap.size + 1, 0, none⟩ = some (.int .i64 1) := World.cell?_setCell_same' _ _ _ (by rw [c1]; rfl)
  refine ⟨.int .i64 1, ?_, rfl, B3.out.setCell (p := ⟨w.heap.size + 1, 0, none⟩) (by simp) _⟩
  simp [results, Tryz.f20, go_sem, hc5]
end Go.Proofs.YtohnfogdalnilaaGreatDoor
