/- Closed facts of the row of CatSure; no walk. -/
import Derived.Test.YtgkchkdjcebnaaaGreatDoorJ0
import Derived.Test.YtgkchkdjcebnaaaGreatDoorCards
import Derived.Test.YtgkchkdjcebnaaaGreatDoorChecked
namespace Go.Proofs.YtgkchkdjcebnaaaGreatDoor.catSure
open Go
set_option maxRecDepth 100000

theorem fact_k13 : (Rows.catSureRow.named == Tryz.prog.varsNamed 5) = true := by kernel_rfl

end Go.Proofs.YtgkchkdjcebnaaaGreatDoor.catSure
