/- The walks of the laws' mine and theirs. -/
import Derived.Test.YtkepjjkiajkdmaaDoorUx
namespace Go.Proofs.YtkepjjkiajkdmaaDoor
open Go.RowKit

theorem results_cell {fn : Func} {p : Tmp} {ty : TypeId} (h : fn.results = #[.cell p ty]) (tmps : Array Value) (P : Program) (w : World) :
    (results fn tmps).run P w = ((asAddr (tmps.getD p undef)).run P w).andThen fun a w₁ => (loadVar ty a).run P w₁ := by
  simp only [results, h]
  simp [Sem.run_bind, Result.andThen]
set_option maxHeartbeats 1000000 in
set_option maxRecDepth 100000 in
theorem mine_any (n : Int) (ao : Option Addr) (m c : Nat) (w : World) :
    Calls Tryd.prog 10 #[.agg #[.int .i64 n, .slice ao m c]] w fun e w' => e = .returned (.agg #[.int .i64 n, .slice ao m c]) ∧ Below w.heap.size w w' := by
  go_enter Tryd.func10, Tryd.ntmps10
  go_wp2
  refine ⟨rfl, .agg #[.int .i64 n, .slice ao m c], ?_, rfl, ?_⟩
  · rw [results_cell (p := 2) (ty := 26) rfl]
    go_simp
  · exact ((Below.refl _ _).alloc (Nat.le_refl _) _).alloc (le_alloc (Nat.le_refl _) _) _
set_option maxHeartbeats 1000000 in
set_option maxRecDepth 100000 in
theorem theirs_any (n : Int) (ao : Option Addr) (m c : Nat) (w : World) :
    Calls Tryd.prog 15 #[.agg #[.int .i64 n, .slice ao m c]] w fun e w' => e = .returned (.agg #[.int .i64 n, .slice ao m c]) ∧ Below w.heap.size w w' := by
  go_enter Tryd.func15, Tryd.ntmps15
  go_wp2
  refine ⟨rfl, .agg #[.int .i64 n, .slice ao m c], ?_, rfl, ?_⟩
  · rw [results_cell (p := 2) (ty := 24) rfl]
    go_simp
  · exact ((Below.refl _ _).alloc (Nat.le_refl _) _).alloc (le_alloc (Nat.le_refl _) _) _
end Go.Proofs.YtkepjjkiajkdmaaDoor
