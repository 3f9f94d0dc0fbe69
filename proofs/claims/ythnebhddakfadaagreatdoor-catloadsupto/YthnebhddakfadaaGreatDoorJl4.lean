/- Closed facts of the row of CatLoads; no walk. -/
import Derived.Test.YthnebhddakfadaaGreatDoorJ0
import Derived.Test.YthnebhddakfadaaGreatDoorCards
import Derived.Test.YthnebhddakfadaaGreatDoorChecked
namespace Go.Proofs.YthnebhddakfadaaGreatDoor.catLoads
open Go
set_option maxRecDepth 100000

theorem fact_k12 : (Rows.catLoadsUptoRow.recurses == Tryz.prog.recurses 8) = true := by kernel_rfl

end Go.Proofs.YthnebhddakfadaaGreatDoor.catLoads
