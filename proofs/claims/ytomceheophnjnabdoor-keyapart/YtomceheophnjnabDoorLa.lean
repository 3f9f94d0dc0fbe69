/- What the rows' list of variables gives: the package's own error; a world that holds it; no walk. -/
import Derived.Test.YtomceheophnjnabDoorCards
import Derived.Test.YtomceheophnjnabDoorTie
import Derived.Test.YtomceheophnjnabDoorMk
import Derived.Deep.DeepHandedRow
import Derived.Stop.LaidErr
import Derived.Stop.JoinedAt
import Derived.LaidLaws
namespace Go.Proofs.YtomceheophnjnabDoor
open Go.RowKit

theorem gE : Tryd.prog.globalNamed "sawyer/key.errNotMade" = some 0 := by kernel_rfl
theorem gEType : (Tryd.prog.globals[0]?).map (·.type) = some 32 := by kernel_rfl
theorem cellsErr : Tryd.prog.cellsOf 84 = 1 := by kernel_rfl
theorem cells9 : Tryd.prog.cellsOf 9 = 1 := by kernel_rfl
theorem star : "*" ++ "errors.errorString" = "*errors.errorString" := by decide
theorem rowErr (u : TypeId) (h : Tryd.prog.typeName? 3 u = some "*errors.errorString") : u = 58 :=
  typeName_ptr_named (nm := "errors.errorString") (by rw [star]; kernel_rfl) (by kernel_rfl) (by decide) u (by rw [star]; exact h)
theorem own_of_laid {W : World} (h : laidMetH Tryd.prog [("sawyer/key.errNotMade", Rows.laid_sawyer_key_errNotMade)] W) : ∃ b, Own W b := by
  have h' : laidMet Tryd.prog [("sawyer/key.errNotMade", .iface "*errors.errorString" (.ptr (.agg [.lit (.string [110, 111, 32, 107, 101, 121, 32, 105, 115, 32, 109, 97, 100, 101, 32, 115, 111])])))] W := h
  obtain ⟨a, s, hv, _⟩ := laid_sentinel h' gE gEType Tryd.underlying32 rowErr Tryd.underlying58 Tryd.underlying84 rfl rfl Tryd.underlying9 cellsErr cells9
  exact ⟨a, by unfold Own; simpa using World.var?_cell gE hv 0⟩
/-- The world w, but that the variable points to its last block. -/
def laidIn (w : World) : World :=
  { w with heap := w.heap.modify 0 fun
      | .cells _ t frozen => .cells #[.iface 58 (.pointer (some ⟨w.heap.size - 1, 0, none⟩))] t frozen
      | o => o }
theorem laid_met (os : Os) (args : Array Value) : laidMet Tryd.prog [("sawyer/key.errNotMade", Rows.laid_sawyer_key_errNotMade)] ((laidIn (World.holding Tryd.prog os ⟨#[.cells #[.string ⟨#[110, 111, 32, 107, 101, 121, 32, 105, 115, 32, 109, 97, 100, 101, 32, 115, 111]⟩] 84], #[], []⟩)).forCall (fun _ _ => 0) ⟨#[], args, []⟩).memory :=
  laidMet_of_run' 8 (by kernel_rfl) (by kernel_rfl)
end Go.Proofs.YtomceheophnjnabDoor
