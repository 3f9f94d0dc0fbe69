/- Closed facts of the row of RowsSigns; no walk. -/
import Derived.Test.YtogphpejdnhnjaaGreatDoorJ0
import Derived.Test.YtogphpejdnhnjaaGreatDoorCards
import Derived.Test.YtogphpejdnhnjaaGreatDoorChecked
namespace Go.Proofs.YtogphpejdnhnjaaGreatDoor.rowsSigns
open Go
set_option maxRecDepth 100000

theorem fact_k1 : Rows.rowsSignsRow.wf (OpenSpec.ofChange (OpenSpec.ofChange Rows.rowsSignsSpec).bare) = true := by kernel_rfl
theorem fact_k3 : mapsRowed Tryz.prog = true := by kernel_rfl
theorem fact_k4 : Tryz.f3.params.all (Tryz.prog.readableRec ·) = true := by kernel_rfl
theorem fact_k5 : namedTie Tryz.prog Rows.rowsSignsRow.named (OpenSpec.ofChange Rows.rowsSignsSpec).bare.vars = true := by kernel_rfl
theorem fact_k6 : (Rows.rowsSignsRow.stops == []) = true := by kernel_rfl
theorem fact_k7 : (Tryz.prog.stops == []) = true := by kernel_rfl
theorem fact_k8 : (Rows.rowsSignsRow.knobs == []) = true := by kernel_rfl
theorem fact_k9 : (Tryz.prog.stopKnobs == []) = true := by kernel_rfl
theorem fact_k14 : (Rows.rowsSignsRow.maps == (Tryz.f3.params.toList ++ (OpenSpec.ofChange Rows.rowsSignsSpec).bare.plain.varTypes Tryz.prog).any (Tryz.prog.mapsRec ·)) = true := by kernel_rfl
theorem fact_k15 : (Rows.rowsSignsRow.ifaces == (Tryz.f3.params.toList ++ (OpenSpec.ofChange Rows.rowsSignsSpec).bare.plain.varTypes Tryz.prog).any (Tryz.prog.ifacesRec ·)) = true := by kernel_rfl
theorem fact_k16 : (Rows.rowsSignsRow.mapsOut == Tryz.prog.mapsAmong Tryz.f3.resultTypes.toList) = true := by kernel_rfl
theorem fact_k17 : (Rows.rowsSignsRow.loops == (Tryz.f3.params.toList ++ (OpenSpec.ofChange Rows.rowsSignsSpec).bare.plain.varTypes Tryz.prog).any (Tryz.prog.loopsFrom ·)) = true := by kernel_rfl
theorem fact_k17b : (Rows.rowsSignsRow.wideKeys == (Tryz.f3.params.toList ++ (OpenSpec.ofChange Rows.rowsSignsSpec).bare.plain.varTypes Tryz.prog ++ Tryz.f3.resultTypes.toList).any (Tryz.prog.wideKeysFrom ·)) = true := by kernel_rfl
theorem fact_k18 : (OpenSpec.ofChange Rows.rowsSignsSpec).bare.vars.all (Tryz.prog.varReadable ·) = true := by kernel_rfl
theorem fact_k19 : Tryz.f3.resultTypes.all (fun t => Tryz.prog.readableRec t && decide (t < Tryz.prog.types.size)) = true := by kernel_rfl
theorem fact_k20 : (Rows.rowsSignsRow.ifacesOut == Tryz.f3.resultTypes.toList.any (Tryz.prog.ifacesRec ·)) = true := by kernel_rfl
theorem fact_k21 : (Rows.rowsSignsRow.loopsOut == Tryz.f3.resultTypes.toList.any (Tryz.prog.loopsFrom ·)) = true := by kernel_rfl
theorem fact_k23 : Rows.rowsSignsRow.shortTexts.isNone = true := by kernel_rfl
theorem fact_k24b : (Rows.rowsSignsRow.lifted == Tryz.prog.liftsFinal) = true := by kernel_rfl
theorem fact_k24c : (Tryz.prog.make == some Rows.rowsSignsRow.make) = true := by kernel_rfl
theorem fact_k26 : (Rows.rowsSignsRow.pinned == Rows.rowsSignsRow.pinnedBy) = true := by kernel_rfl
theorem fact_k27 : (Rows.rowsSignsRow.veiled == (Tryz.f3.params.toList ++ (OpenSpec.ofChange Rows.rowsSignsSpec).bare.plain.varTypes Tryz.prog ++ Tryz.f3.resultTypes.toList).any (Tryz.prog.veiledRec ·)) = true := by kernel_rfl
theorem fact_k28 : Rows.rowsSignsRow.veiledFits Tryz.prog Tryz.f3.params.toList (Tryz.f3.params.toList ++ (OpenSpec.ofChange Rows.rowsSignsSpec).bare.plain.varTypes Tryz.prog ++ Tryz.f3.resultTypes.toList) = true := by kernel_rfl

end Go.Proofs.YtogphpejdnhnjaaGreatDoor.rowsSigns
