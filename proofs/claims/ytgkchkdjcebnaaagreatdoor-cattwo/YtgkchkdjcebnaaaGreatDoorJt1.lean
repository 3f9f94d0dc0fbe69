/- Closed facts of the row of CatTwo; no walk. -/
import Derived.Test.YtgkchkdjcebnaaaGreatDoorJ0
import Derived.Test.YtgkchkdjcebnaaaGreatDoorCards
import Derived.Test.YtgkchkdjcebnaaaGreatDoorChecked
namespace Go.Proofs.YtgkchkdjcebnaaaGreatDoor.catTwo
open Go
set_option maxRecDepth 100000

theorem fact_k1 : Rows.catTwoRow.wf (OpenSpec.ofChange (OpenSpec.ofChange Rows.catTwoSpec).bare) = true := by kernel_rfl
theorem fact_k3 : mapsRowed Tryz.prog = true := by kernel_rfl
theorem fact_k4 : Tryz.f7.params.all (Tryz.prog.readableRec ·) = true := by kernel_rfl
theorem fact_k5 : namedTie Tryz.prog Rows.catTwoRow.named (OpenSpec.ofChange Rows.catTwoSpec).bare.vars = true := by kernel_rfl
theorem fact_k6 : (Rows.catTwoRow.stops == []) = true := by kernel_rfl
theorem fact_k7 : (Tryz.prog.stops == []) = true := by kernel_rfl
theorem fact_k8 : (Rows.catTwoRow.knobs == []) = true := by kernel_rfl
theorem fact_k9 : (Tryz.prog.stopKnobs == []) = true := by kernel_rfl
theorem fact_k14 : (Rows.catTwoRow.maps == (Tryz.f7.params.toList ++ (OpenSpec.ofChange Rows.catTwoSpec).bare.plain.varTypes Tryz.prog).any (Tryz.prog.mapsRec ·)) = true := by kernel_rfl
theorem fact_k15 : (Rows.catTwoRow.ifaces == (Tryz.f7.params.toList ++ (OpenSpec.ofChange Rows.catTwoSpec).bare.plain.varTypes Tryz.prog).any (Tryz.prog.ifacesRec ·)) = true := by kernel_rfl
theorem fact_k16 : (Rows.catTwoRow.mapsOut == Tryz.prog.mapsAmong Tryz.f7.resultTypes.toList) = true := by kernel_rfl
theorem fact_k17 : (Rows.catTwoRow.loops == (Tryz.f7.params.toList ++ (OpenSpec.ofChange Rows.catTwoSpec).bare.plain.varTypes Tryz.prog).any (Tryz.prog.loopsFrom ·)) = true := by kernel_rfl
theorem fact_k17b : (Rows.catTwoRow.wideKeys == (Tryz.f7.params.toList ++ (OpenSpec.ofChange Rows.catTwoSpec).bare.plain.varTypes Tryz.prog ++ Tryz.f7.resultTypes.toList).any (Tryz.prog.wideKeysFrom ·)) = true := by kernel_rfl
theorem fact_k18 : (OpenSpec.ofChange Rows.catTwoSpec).bare.vars.all (Tryz.prog.varReadable ·) = true := by kernel_rfl
theorem fact_k19 : Tryz.f7.resultTypes.all (fun t => Tryz.prog.readableRec t && decide (t < Tryz.prog.types.size)) = true := by kernel_rfl
theorem fact_k20 : (Rows.catTwoRow.ifacesOut == Tryz.f7.resultTypes.toList.any (Tryz.prog.ifacesRec ·)) = true := by kernel_rfl
theorem fact_k21 : (Rows.catTwoRow.loopsOut == Tryz.f7.resultTypes.toList.any (Tryz.prog.loopsFrom ·)) = true := by kernel_rfl
theorem fact_k23 : Rows.catTwoRow.shortTexts.isNone = true := by kernel_rfl
theorem fact_k24b : (Rows.catTwoRow.lifted == Tryz.prog.liftsFinal) = true := by kernel_rfl
theorem fact_k24c : (Tryz.prog.make == some Rows.catTwoRow.make) = true := by kernel_rfl
theorem fact_k26 : (Rows.catTwoRow.pinned == Rows.catTwoRow.pinnedBy) = true := by kernel_rfl
theorem fact_k27 : (Rows.catTwoRow.veiled == (Tryz.f7.params.toList ++ (OpenSpec.ofChange Rows.catTwoSpec).bare.plain.varTypes Tryz.prog ++ Tryz.f7.resultTypes.toList).any (Tryz.prog.veiledRec ·)) = true := by kernel_rfl
theorem fact_k28 : Rows.catTwoRow.veiledFits Tryz.prog Tryz.f7.params.toList (Tryz.f7.params.toList ++ (OpenSpec.ofChange Rows.catTwoSpec).bare.plain.varTypes Tryz.prog ++ Tryz.f7.resultTypes.toList) = true := by kernel_rfl

end Go.Proofs.YtgkchkdjcebnaaaGreatDoor.catTwo
