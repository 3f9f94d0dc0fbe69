/- The walks of disk's count, Free, Ops, Off, Cut over the five cells. -/
import Derived.Test.YtohnfogdalnilaaGreatDoorLf
namespace Go.Proofs.YtohnfogdalnilaaGreatDoor
open Go.RowKit

def At (b : Nat) (g : Nat) : Prop := g = b
theorem Kept.at_set {a w : World} {b : Nat} (h : Kept (At b) a w) (i : Nat) (v : Value) : Kept (At b) a (w.setCell ⟨b, i, none⟩ v) := Kept.setCell (p := ⟨b, i, none⟩) h (.inl rfl) v
theorem setCell_cell (w : World) (b i j : Nat) (v : Value) (h : i ≠ j) : (w.setCell ⟨b, i, none⟩ v).cell? ⟨b, j, none⟩ = w.cell? ⟨b, j, none⟩ := World.cell?_setCell_other w _ _ v (by intro e; cases e; exact h rfl)

set_option maxHeartbeats 1000000 in
set_option maxRecDepth 100000 in
theorem count_cut (b m : Nat) (free : Int) (off : Bool) (ops : Int) (w : World) (h : Box w b m free 0 off ops) :
    Calls Tryz.prog 95 #[.pointer (some ⟨b, 0, none⟩)] w fun e w' => e = .returned (.int .i64 5) ∧ Box w' b m free 0 true ops ∧ Kept (At b) w w' := by
  have c0 := h.c0
  have c1 := h.c1
  have c2 := h.c2
  have c3 := h.c3
  have c4 := h.c4
  have f0 := h.warm
  have HB := keep h
  clear h
  go_enter Tryz.func95, Tryz.ntmps95
  go_wp2
  go_ret
  refine ⟨rfl, HB.out.set3 true, (Kept.refl _ _).at_set _ _⟩
set_option maxHeartbeats 1000000 in
set_option maxRecDepth 100000 in
theorem count_none (b m : Nat) (free : Int) (off : Bool) (ops : Int) (w : World) (h : Box w b m free (-1) off ops) (h0 : 0 ≤ ops) (h1 : ops ≤ 4611686018427387904) :
    Calls Tryz.prog 95 #[.pointer (some ⟨b, 0, none⟩)] w fun e w' => e = .returned (.int .i64 0) ∧ Box w' b m free (-1) off (ops + 1) ∧ Kept (At b) w w' := by
  have ha := run_add1 w ⟨b, 4, none⟩ ops h.c4 (h.warm 4) h0 h1
  have c0 := h.c0
  have c1 := h.c1
  have c2 := h.c2
  have c3 := h.c3
  have c4 := h.c4
  have f0 := h.warm
  have HB := keep h
  clear h
  go_enter Tryz.func95, Tryz.ntmps95
  go_wp2
  go_ret
  refine ⟨rfl, HB.out.set4 _, (Kept.refl _ _).at_set _ _⟩
set_option maxHeartbeats 1000000 in
set_option maxRecDepth 100000 in
theorem count_some (b m : Nat) (free : Int) (k : Nat) (off : Bool) (ops : Int) (w : World) (h : Box w b m free ((k : Int) + 1) off ops) (hk : (k : Int) + 1 < 9223372036854775808) (h0 : 0 ≤ ops) (h1 : ops ≤ 4611686018427387904) :
    Calls Tryz.prog 95 #[.pointer (some ⟨b, 0, none⟩)] w fun e w' => e = .returned (.int .i64 0) ∧ Box w' b m free (k : Int) off (ops + 1) ∧ Kept (At b) w w' := by
  have ha := run_add1 (w.setCell ⟨b, 2, none⟩ (.int .i64 (k : Int))) ⟨b, 4, none⟩ ops ((h.set2 _).c4) ((h.set2 _).warm 4) h0 h1
  have e1 : ((k : Int) + 1 == 0) = false := by rw [beq_eq_false_iff_ne]; omega
  have e2 : ((k : Int) + 1 != -1) = true := by rw [bne_iff_ne]; omega
  have e3 : (k : Int) + 1 - 1 = (k : Int) := by omega
  have c0 := h.c0
  have c1 := h.c1
  have c2 := h.c2
  have c3 := h.c3
  have c4 := h.c4
  have f0 := h.warm
  have HB := keep h
  clear h
  go_enter Tryz.func95, Tryz.ntmps95
  go_wp2
  go_ret
  refine ⟨rfl, (HB.out.set2 _).set4 _, ((Kept.refl _ _).at_set _ _).at_set _ _⟩
set_option maxHeartbeats 1000000 in
set_option maxRecDepth 100000 in
theorem free_box (b m : Nat) (free left : Int) (off : Bool) (ops : Int) (w : World) (h : Box w b m free left off ops) :
    Calls Tryz.prog 52 #[.pointer (some ⟨b, 0, none⟩)] w fun e w' => e = .returned (.int .i64 free) ∧ Below w.heap.size w w' := by
  have c0 := h.c0
  have c1 := h.c1
  have c2 := h.c2
  have c3 := h.c3
  have c4 := h.c4
  have f0 := h.warm
  have HB := keep h
  clear h
  go_enter Tryz.func52, Tryz.ntmps52
  go_wp2_with fail
  refine (made_box b m _ (by first | exact c0 | simpa using c0)).mono ?_
  rintro e w1 ⟨rfl, rfl⟩
  go_wp2
  go_ret
  exact ⟨rfl, Below.refl _ _⟩
set_option maxHeartbeats 1000000 in
set_option maxRecDepth 100000 in
theorem ops_box (b m : Nat) (free left : Int) (off : Bool) (ops : Int) (w : World) (h : Box w b m free left off ops) :
    Calls Tryz.prog 14 #[.pointer (some ⟨b, 0, none⟩)] w fun e w' => e = .returned (.int .i64 ops) ∧ Below w.heap.size w w' := by
  have hl := run_load w ⟨b, 4, none⟩ ops h.c4
  have c0 := h.c0
  have c1 := h.c1
  have c2 := h.c2
  have c3 := h.c3
  have c4 := h.c4
  have f0 := h.warm
  have HB := keep h
  clear h
  go_enter Tryz.func14, Tryz.ntmps14
  go_wp2_with fail
  refine (made_box b m _ (by first | exact c0 | simpa using c0)).mono ?_
  rintro e w1 ⟨rfl, rfl⟩
  go_wp2
  go_ret
  exact ⟨rfl, Below.refl _ _⟩
set_option maxHeartbeats 1000000 in
set_option maxRecDepth 100000 in
theorem off_box (b m : Nat) (free left : Int) (off : Bool) (ops : Int) (w : World) (h : Box w b m free left off ops) :
    Calls Tryz.prog 50 #[.pointer (some ⟨b, 0, none⟩)] w fun e w' => e = .returned (.bool off) ∧ Below w.heap.size w w' := by
  have c0 := h.c0
  have c1 := h.c1
  have c2 := h.c2
  have c3 := h.c3
  have c4 := h.c4
  have f0 := h.warm
  have HB := keep h
  clear h
  go_enter Tryz.func50, Tryz.ntmps50
  go_wp2_with fail
  refine (made_box b m _ (by first | exact c0 | simpa using c0)).mono ?_
  rintro e w1 ⟨rfl, rfl⟩
  go_wp2
  go_ret
  exact ⟨rfl, Below.refl _ _⟩
set_option maxHeartbeats 1000000 in
set_option maxRecDepth 100000 in
theorem cut_neg (n : Int) (hn : n < 0) (b m : Nat) (free left : Int) (off : Bool) (ops : Int) (w : World) (h : Box w b m free left off ops) :
    Calls Tryz.prog 29 #[.pointer (some ⟨b, 0, none⟩), .int .i64 n] w fun e w' => e = .returned (.int .i64 1) ∧ Below w.heap.size w w' := by
  have c0 := h.c0
  have c1 := h.c1
  have c2 := h.c2
  have c3 := h.c3
  have c4 := h.c4
  have f0 := h.warm
  have HB := keep h
  clear h
  go_enter Tryz.func29, Tryz.ntmps29
  go_wp2_with fail
  refine (made_box b m _ (by first | exact c0 | simpa using c0)).mono ?_
  rintro e w1 ⟨rfl, rfl⟩
  go_wp2
  go_ret
  exact ⟨rfl, Below.refl _ _⟩
set_option maxHeartbeats 1000000 in
set_option maxRecDepth 100000 in
theorem cut_box (n : Int) (hn : ¬ n < 0) (b m : Nat) (free left : Int) (off : Bool) (ops : Int) (w : World) (h : Box w b m free left off ops) :
    Calls Tryz.prog 29 #[.pointer (some ⟨b, 0, none⟩), .int .i64 n] w fun e w' => e = .returned (.int .i64 0) ∧ Box w' b m free n off ops ∧ Kept (At b) w w' := by
  have c0 := h.c0
  have c1 := h.c1
  have c2 := h.c2
  have c3 := h.c3
  have c4 := h.c4
  have f0 := h.warm
  have HB := keep h
  clear h
  go_enter Tryz.func29, Tryz.ntmps29
  go_wp2_with fail
  refine (made_box b m _ (by first | exact c0 | simpa using c0)).mono ?_
  rintro e w1 ⟨rfl, rfl⟩
  go_wp2
  go_ret
  exact ⟨rfl, HB.out.set2 _, (Kept.refl _ _).at_set _ _⟩
end Go.Proofs.YtohnfogdalnilaaGreatDoor
