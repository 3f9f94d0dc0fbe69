/- Closed facts of the row of CatCut; no walk. -/
import Derived.Test.YtgkchkdjcebnaaaGreatDoorJ0
import Derived.Test.YtgkchkdjcebnaaaGreatDoorCards
import Derived.Test.YtgkchkdjcebnaaaGreatDoorChecked
namespace Go.Proofs.YtgkchkdjcebnaaaGreatDoor.catCut
open Go
set_option maxRecDepth 100000

theorem fact_k12 : (Rows.catCutRow.recurses == Tryz.prog.recurses 4) = true := by kernel_rfl

end Go.Proofs.YtgkchkdjcebnaaaGreatDoor.catCut
