/- Closed facts of the row of CatTwo; no walk. -/
import Derived.Test.YtgkchkdjcebnaaaGreatDoorJ0
import Derived.Test.YtgkchkdjcebnaaaGreatDoorCards
import Derived.Test.YtgkchkdjcebnaaaGreatDoorChecked
namespace Go.Proofs.YtgkchkdjcebnaaaGreatDoor.catTwo
open Go
set_option maxRecDepth 100000

theorem fact_k22 : (Rows.catTwoRow.plainKeys == Tryz.prog.plainKeys) = true := by kernel_rfl
theorem fact_k23b : Tryz.prog.stopsHeard = true := by kernel_rfl

end Go.Proofs.YtgkchkdjcebnaaaGreatDoor.catTwo
