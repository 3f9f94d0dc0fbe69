/- Closed facts of the row of RowsSigns; no walk. -/
import Derived.Test.YtogphpejdnhnjaaGreatDoorJ0
import Derived.Test.YtogphpejdnhnjaaGreatDoorCards
import Derived.Test.YtogphpejdnhnjaaGreatDoorChecked
namespace Go.Proofs.YtogphpejdnhnjaaGreatDoor.rowsSigns
open Go
set_option maxRecDepth 100000

theorem fact_k22 : (Rows.rowsSignsRow.plainKeys == Tryz.prog.plainKeys) = true := by kernel_rfl
theorem fact_k23b : Tryz.prog.stopsHeard = true := by kernel_rfl

end Go.Proofs.YtogphpejdnhnjaaGreatDoor.rowsSigns
