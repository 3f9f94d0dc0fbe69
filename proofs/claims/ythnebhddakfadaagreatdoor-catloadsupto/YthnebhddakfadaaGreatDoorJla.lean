/- Closed facts of the row of CatLoads; no walk. -/
import Derived.Test.YthnebhddakfadaaGreatDoorJ0
import Derived.Test.YthnebhddakfadaaGreatDoorCards
import Derived.Test.YthnebhddakfadaaGreatDoorChecked
namespace Go.Proofs.YthnebhddakfadaaGreatDoor.catLoads
open Go
set_option maxRecDepth 100000

theorem fact_k2 : laidOutB Tryz.prog = true := by kernel_rfl
theorem fact_wf : Rows.catLoadsUptoRow.wfByText (Rows.OpenSpec.upto Rows.catLoadsSpec) = true := by kernel_rfl

end Go.Proofs.YthnebhddakfadaaGreatDoor.catLoads
