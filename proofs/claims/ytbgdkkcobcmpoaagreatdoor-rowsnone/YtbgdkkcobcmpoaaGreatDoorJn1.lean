/- Closed facts of the row of RowsNone; no walk. -/
import Derived.Test.YtbgdkkcobcmpoaaGreatDoorJ0
import Derived.Test.YtbgdkkcobcmpoaaGreatDoorCards
import Derived.Test.YtbgdkkcobcmpoaaGreatDoorChecked
namespace Go.Proofs.YtbgdkkcobcmpoaaGreatDoor.rowsNone
open Go
set_option maxRecDepth 100000

theorem fact_k1 : Rows.rowsNoneRow.wf (OpenSpec.ofChange (OpenSpec.ofChange Rows.rowsNoneSpec).bare) = true := by kernel_rfl
theorem fact_k3 : mapsRowed Tryz.prog = true := by kernel_rfl
theorem fact_k4 : Tryz.f4.params.all (Tryz.prog.readableRec ·) = true := by kernel_rfl
theorem fact_k5 : namedTie Tryz.prog Rows.rowsNoneRow.named (OpenSpec.ofChange Rows.rowsNoneSpec).bare.vars = true := by kernel_rfl
theorem fact_k6 : (Rows.rowsNoneRow.stops == []) = true := by kernel_rfl
theorem fact_k7 : (Tryz.prog.stops == []) = true := by kernel_rfl
theorem fact_k8 : (Rows.rowsNoneRow.knobs == []) = true := by kernel_rfl
theorem fact_k9 : (Tryz.prog.stopKnobs == []) = true := by kernel_rfl
theorem fact_k14 : (Rows.rowsNoneRow.maps == (Tryz.f4.params.toList ++ (OpenSpec.ofChange Rows.rowsNoneSpec).bare.plain.varTypes Tryz.prog).any (Tryz.prog.mapsRec ·)) = true := by kernel_rfl
theorem fact_k15 : (Rows.rowsNoneRow.ifaces == (Tryz.f4.params.toList ++ (OpenSpec.ofChange Rows.rowsNoneSpec).bare.plain.varTypes Tryz.prog).any (Tryz.prog.ifacesRec ·)) = true := by kernel_rfl
theorem fact_k16 : (Rows.rowsNoneRow.mapsOut == Tryz.prog.mapsAmong Tryz.f4.resultTypes.toList) = true := by kernel_rfl
theorem fact_k17 : (Rows.rowsNoneRow.loops == (Tryz.f4.params.toList ++ (OpenSpec.ofChange Rows.rowsNoneSpec).bare.plain.varTypes Tryz.prog).any (Tryz.prog.loopsFrom ·)) = true := by kernel_rfl
theorem fact_k17b : (Rows.rowsNoneRow.wideKeys == (Tryz.f4.params.toList ++ (OpenSpec.ofChange Rows.rowsNoneSpec).bare.plain.varTypes Tryz.prog ++ Tryz.f4.resultTypes.toList).any (Tryz.prog.wideKeysFrom ·)) = true := by kernel_rfl
theorem fact_k18 : (OpenSpec.ofChange Rows.rowsNoneSpec).bare.vars.all (Tryz.prog.varReadable ·) = true := by kernel_rfl
theorem fact_k19 : Tryz.f4.resultTypes.all (fun t => Tryz.prog.readableRec t && decide (t < Tryz.prog.types.size)) = true := by kernel_rfl
theorem fact_k20 : (Rows.rowsNoneRow.ifacesOut == Tryz.f4.resultTypes.toList.any (Tryz.prog.ifacesRec ·)) = true := by kernel_rfl
theorem fact_k21 : (Rows.rowsNoneRow.loopsOut == Tryz.f4.resultTypes.toList.any (Tryz.prog.loopsFrom ·)) = true := by kernel_rfl
theorem fact_k23 : Rows.rowsNoneRow.shortTexts.isNone = true := by kernel_rfl
theorem fact_k24b : (Rows.rowsNoneRow.lifted == Tryz.prog.liftsFinal) = true := by kernel_rfl
theorem fact_k24c : (Tryz.prog.make == some Rows.rowsNoneRow.make) = true := by kernel_rfl
theorem fact_k26 : (Rows.rowsNoneRow.pinned == Rows.rowsNoneRow.pinnedBy) = true := by kernel_rfl
theorem fact_k27 : (Rows.rowsNoneRow.veiled == (Tryz.f4.params.toList ++ (OpenSpec.ofChange Rows.rowsNoneSpec).bare.plain.varTypes Tryz.prog ++ Tryz.f4.resultTypes.toList).any (Tryz.prog.veiledRec ·)) = true := by kernel_rfl
theorem fact_k28 : Rows.rowsNoneRow.veiledFits Tryz.prog Tryz.f4.params.toList (Tryz.f4.params.toList ++ (OpenSpec.ofChange Rows.rowsNoneSpec).bare.plain.varTypes Tryz.prog ++ Tryz.f4.resultTypes.toList) = true := by kernel_rfl

end Go.Proofs.YtbgdkkcobcmpoaaGreatDoor.rowsNone
