/- Closed facts of the row of CatCut; no walk. -/
import Derived.Test.YthnebhddakfadaaGreatDoorJ0
import Derived.Test.YthnebhddakfadaaGreatDoorCards
import Derived.Test.YthnebhddakfadaaGreatDoorChecked
namespace Go.Proofs.YthnebhddakfadaaGreatDoor.catCut
open Go
set_option maxRecDepth 100000

theorem fact_looks : true = Tryz.pinned.checked.prog.looks [] := by kernel_rfl

end Go.Proofs.YthnebhddakfadaaGreatDoor.catCut
