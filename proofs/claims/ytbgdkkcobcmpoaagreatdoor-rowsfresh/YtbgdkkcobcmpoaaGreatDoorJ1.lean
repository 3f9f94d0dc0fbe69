/- Closed facts of the row of RowsFresh; no walk. -/
import Derived.Test.YtbgdkkcobcmpoaaGreatDoorJ0
import Derived.Test.YtbgdkkcobcmpoaaGreatDoorCards
import Derived.Test.YtbgdkkcobcmpoaaGreatDoorChecked
namespace Go.Proofs.YtbgdkkcobcmpoaaGreatDoor.rowsFresh
open Go
set_option maxRecDepth 100000

theorem fact_k1 : Rows.rowsFreshRow.wf (OpenSpec.ofChange (OpenSpec.ofChange Rows.rowsFreshSpec).bare) = true := by kernel_rfl
theorem fact_k3 : mapsRowed Tryz.prog = true := by kernel_rfl
theorem fact_k4 : Tryz.f3.params.all (Tryz.prog.readableRec ·) = true := by kernel_rfl
theorem fact_k5 : namedTie Tryz.prog Rows.rowsFreshRow.named (OpenSpec.ofChange Rows.rowsFreshSpec).bare.vars = true := by kernel_rfl
theorem fact_k6 : (Rows.rowsFreshRow.stops == []) = true := by kernel_rfl
theorem fact_k7 : (Tryz.prog.stops == []) = true := by kernel_rfl
theorem fact_k8 : (Rows.rowsFreshRow.knobs == []) = true := by kernel_rfl
theorem fact_k9 : (Tryz.prog.stopKnobs == []) = true := by kernel_rfl
theorem fact_k14 : (Rows.rowsFreshRow.maps == (Tryz.f3.params.toList ++ (OpenSpec.ofChange Rows.rowsFreshSpec).bare.plain.varTypes Tryz.prog).any (Tryz.prog.mapsRec ·)) = true := by kernel_rfl
theorem fact_k15 : (Rows.rowsFreshRow.ifaces == (Tryz.f3.params.toList ++ (OpenSpec.ofChange Rows.rowsFreshSpec).bare.plain.varTypes Tryz.prog).any (Tryz.prog.ifacesRec ·)) = true := by kernel_rfl
theorem fact_k16 : (Rows.rowsFreshRow.mapsOut == Tryz.prog.mapsAmong Tryz.f3.resultTypes.toList) = true := by kernel_rfl
theorem fact_k17 : (Rows.rowsFreshRow.loops == (Tryz.f3.params.toList ++ (OpenSpec.ofChange Rows.rowsFreshSpec).bare.plain.varTypes Tryz.prog).any (Tryz.prog.loopsFrom ·)) = true := by kernel_rfl
theorem fact_k17b : (Rows.rowsFreshRow.wideKeys == (Tryz.f3.params.toList ++ (OpenSpec.ofChange Rows.rowsFreshSpec).bare.plain.varTypes Tryz.prog ++ Tryz.f3.resultTypes.toList).any (Tryz.prog.wideKeysFrom ·)) = true := by kernel_rfl
theorem fact_k18 : (OpenSpec.ofChange Rows.rowsFreshSpec).bare.vars.all (Tryz.prog.varReadable ·) = true := by kernel_rfl
theorem fact_k19 : Tryz.f3.resultTypes.all (fun t => Tryz.prog.readableRec t && decide (t < Tryz.prog.types.size)) = true := by kernel_rfl
theorem fact_k20 : (Rows.rowsFreshRow.ifacesOut == Tryz.f3.resultTypes.toList.any (Tryz.prog.ifacesRec ·)) = true := by kernel_rfl
theorem fact_k21 : (Rows.rowsFreshRow.loopsOut == Tryz.f3.resultTypes.toList.any (Tryz.prog.loopsFrom ·)) = true := by kernel_rfl
theorem fact_k23 : Rows.rowsFreshRow.shortTexts.isNone = true := by kernel_rfl
theorem fact_k24b : (Rows.rowsFreshRow.lifted == Tryz.prog.liftsFinal) = true := by kernel_rfl
theorem fact_k24c : (Tryz.prog.make == some Rows.rowsFreshRow.make) = true := by kernel_rfl
theorem fact_k26 : (Rows.rowsFreshRow.pinned == Rows.rowsFreshRow.pinnedBy) = true := by kernel_rfl
theorem fact_k27 : (Rows.rowsFreshRow.veiled == (Tryz.f3.params.toList ++ (OpenSpec.ofChange Rows.rowsFreshSpec).bare.plain.varTypes Tryz.prog ++ Tryz.f3.resultTypes.toList).any (Tryz.prog.veiledRec ·)) = true := by kernel_rfl
theorem fact_k28 : Rows.rowsFreshRow.veiledFits Tryz.prog Tryz.f3.params.toList (Tryz.f3.params.toList ++ (OpenSpec.ofChange Rows.rowsFreshSpec).bare.plain.varTypes Tryz.prog ++ Tryz.f3.resultTypes.toList) = true := by kernel_rfl

end Go.Proofs.YtbgdkkcobcmpoaaGreatDoor.rowsFresh
