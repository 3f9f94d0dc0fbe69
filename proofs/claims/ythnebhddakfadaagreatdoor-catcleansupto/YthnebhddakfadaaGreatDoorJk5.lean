/- Closed facts of the row of CatCleans; no walk. -/
import Derived.Test.YthnebhddakfadaaGreatDoorJ0
import Derived.Test.YthnebhddakfadaaGreatDoorCards
import Derived.Test.YthnebhddakfadaaGreatDoorChecked
namespace Go.Proofs.YthnebhddakfadaaGreatDoor.catCleans
open Go
set_option maxRecDepth 100000

theorem fact_k13 : (Rows.catCleansUptoRow.named == Tryz.prog.varsNamed 6) = true := by kernel_rfl

end Go.Proofs.YthnebhddakfadaaGreatDoor.catCleans
