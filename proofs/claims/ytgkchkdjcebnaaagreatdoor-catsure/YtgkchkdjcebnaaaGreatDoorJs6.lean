/- Closed facts of the row of CatSure; no walk. -/
import Derived.Test.YtgkchkdjcebnaaaGreatDoorJ0
import Derived.Test.YtgkchkdjcebnaaaGreatDoorCards
import Derived.Test.YtgkchkdjcebnaaaGreatDoorChecked
namespace Go.Proofs.YtgkchkdjcebnaaaGreatDoor.catSure
open Go
set_option maxRecDepth 100000

theorem fact_k22 : (Rows.catSureRow.plainKeys == Tryz.prog.plainKeys) = true := by kernel_rfl
theorem fact_k23b : Tryz.prog.stopsHeard = true := by kernel_rfl

end Go.Proofs.YtgkchkdjcebnaaaGreatDoor.catSure
