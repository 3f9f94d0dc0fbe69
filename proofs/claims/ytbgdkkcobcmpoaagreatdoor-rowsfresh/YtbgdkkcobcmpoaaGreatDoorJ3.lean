/- Closed facts of the row of RowsFresh; no walk. -/
import Derived.Test.YtbgdkkcobcmpoaaGreatDoorJ0
import Derived.Test.YtbgdkkcobcmpoaaGreatDoorCards
import Derived.Test.YtbgdkkcobcmpoaaGreatDoorChecked
namespace Go.Proofs.YtbgdkkcobcmpoaaGreatDoor.rowsFresh
open Go
set_option maxRecDepth 100000

theorem fact_k11 : (Rows.rowsFreshRow.unfollowed == Tryz.prog.unfollowed 3) = true := by kernel_rfl

end Go.Proofs.YtbgdkkcobcmpoaaGreatDoor.rowsFresh
