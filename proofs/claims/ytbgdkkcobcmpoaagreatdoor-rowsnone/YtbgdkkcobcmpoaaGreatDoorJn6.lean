/- Closed facts of the row of RowsNone; no walk. -/
import Derived.Test.YtbgdkkcobcmpoaaGreatDoorJ0
import Derived.Test.YtbgdkkcobcmpoaaGreatDoorCards
import Derived.Test.YtbgdkkcobcmpoaaGreatDoorChecked
namespace Go.Proofs.YtbgdkkcobcmpoaaGreatDoor.rowsNone
open Go
set_option maxRecDepth 100000

theorem fact_k22 : (Rows.rowsNoneRow.plainKeys == Tryz.prog.plainKeys) = true := by kernel_rfl
theorem fact_k23b : Tryz.prog.stopsHeard = true := by kernel_rfl

end Go.Proofs.YtbgdkkcobcmpoaaGreatDoor.rowsNone
