/- Closed facts of the row of RowsFresh; no walk. -/
import Derived.Test.YtbgdkkcobcmpoaaGreatDoorJ0
import Derived.Test.YtbgdkkcobcmpoaaGreatDoorCards
import Derived.Test.YtbgdkkcobcmpoaaGreatDoorChecked
namespace Go.Proofs.YtbgdkkcobcmpoaaGreatDoor.rowsFresh
open Go
set_option maxRecDepth 100000

theorem fact_goes : false = Rows.rowsFreshRow.goesBy Tryz.pinned.checked.prog := by kernel_rfl

end Go.Proofs.YtbgdkkcobcmpoaaGreatDoor.rowsFresh
