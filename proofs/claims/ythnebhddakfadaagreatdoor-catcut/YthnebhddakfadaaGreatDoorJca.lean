/- Closed facts of the row of CatCut; no walk. -/
import Derived.Test.YthnebhddakfadaaGreatDoorJ0
import Derived.Test.YthnebhddakfadaaGreatDoorCards
import Derived.Test.YthnebhddakfadaaGreatDoorChecked
namespace Go.Proofs.YthnebhddakfadaaGreatDoor.catCut
open Go
set_option maxRecDepth 100000

theorem fact_k2 : laidOutB Tryz.prog = true := by kernel_rfl
theorem fact_wf : Rows.catCutRow.wfByText (OpenSpec.ofChange Rows.catCutSpec) = true := by kernel_rfl

end Go.Proofs.YthnebhddakfadaaGreatDoor.catCut
