/- Closed facts of the row of RowsNone; no walk. -/
import Derived.Test.YtbgdkkcobcmpoaaGreatDoorJ0
import Derived.Test.YtbgdkkcobcmpoaaGreatDoorCards
import Derived.Test.YtbgdkkcobcmpoaaGreatDoorChecked
namespace Go.Proofs.YtbgdkkcobcmpoaaGreatDoor.rowsNone
open Go
set_option maxRecDepth 100000

theorem fact_k12 : (Rows.rowsNoneRow.recurses == Tryz.prog.recurses 4) = true := by kernel_rfl

end Go.Proofs.YtbgdkkcobcmpoaaGreatDoor.rowsNone
