/- Closed facts of the row of CatCut; no walk. -/
import Derived.Test.YthnebhddakfadaaGreatDoorJ0
import Derived.Test.YthnebhddakfadaaGreatDoorCards
import Derived.Test.YthnebhddakfadaaGreatDoorChecked
namespace Go.Proofs.YthnebhddakfadaaGreatDoor.catCut
open Go
set_option maxRecDepth 100000

theorem fact_k12 : (Rows.catCutRow.recurses == Tryz.prog.recurses 4) = true := by kernel_rfl

end Go.Proofs.YthnebhddakfadaaGreatDoor.catCut
