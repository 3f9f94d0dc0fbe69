/- Closed facts of the row of CatCut; no walk. -/
import Derived.Test.YtgkchkdjcebnaaaGreatDoorJ0
import Derived.Test.YtgkchkdjcebnaaaGreatDoorCards
import Derived.Test.YtgkchkdjcebnaaaGreatDoorChecked
namespace Go.Proofs.YtgkchkdjcebnaaaGreatDoor.catCut
open Go
set_option maxRecDepth 100000

theorem fact_looks : true = Tryz.pinned.checked.prog.looks [] := by kernel_rfl

end Go.Proofs.YtgkchkdjcebnaaaGreatDoor.catCut
