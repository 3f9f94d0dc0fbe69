/- Closed facts of the row of CatCut; no walk. -/
import Derived.Test.YthnebhddakfadaaGreatDoorJ0
import Derived.Test.YthnebhddakfadaaGreatDoorCards
import Derived.Test.YthnebhddakfadaaGreatDoorChecked
namespace Go.Proofs.YthnebhddakfadaaGreatDoor.catCut
open Go
set_option maxRecDepth 100000

theorem fact_k1 : Rows.catCutRow.wf (OpenSpec.ofChange (OpenSpec.ofChange Rows.catCutSpec).bare) = true := by kernel_rfl
theorem fact_k3 : mapsRowed Tryz.prog = true := by kernel_rfl
theorem fact_k4 : Tryz.f4.params.all (Tryz.prog.readableRec ·) = true := by kernel_rfl
theorem fact_k5 : namedTie Tryz.prog Rows.catCutRow.named (OpenSpec.ofChange Rows.catCutSpec).bare.vars = true := by kernel_rfl
theorem fact_k6 : (Rows.catCutRow.stops == []) = true := by kernel_rfl
theorem fact_k7 : (Tryz.prog.stops == []) = true := by kernel_rfl
theorem fact_k8 : (Rows.catCutRow.knobs == []) = true := by kernel_rfl
theorem fact_k9 : (Tryz.prog.stopKnobs == []) = true := by kernel_rfl
theorem fact_k14 : (Rows.catCutRow.maps == (Tryz.f4.params.toList ++ (OpenSpec.ofChange Rows.catCutSpec).bare.plain.varTypes Tryz.prog).any (Tryz.prog.mapsRec ·)) = true := by kernel_rfl
theorem fact_k15 : (Rows.catCutRow.ifaces == (Tryz.f4.params.toList ++ (OpenSpec.ofChange Rows.catCutSpec).bare.plain.varTypes Tryz.prog).any (Tryz.prog.ifacesRec ·)) = true := by kernel_rfl
theorem fact_k16 : (Rows.catCutRow.mapsOut == Tryz.prog.mapsAmong Tryz.f4.resultTypes.toList) = true := by kernel_rfl
theorem fact_k17 : (Rows.catCutRow.loops == (Tryz.f4.params.toList ++ (OpenSpec.ofChange Rows.catCutSpec).bare.plain.varTypes Tryz.prog).any (Tryz.prog.loopsFrom ·)) = true := by kernel_rfl
theorem fact_k17b : (Rows.catCutRow.wideKeys == (Tryz.f4.params.toList ++ (OpenSpec.ofChange Rows.catCutSpec).bare.plain.varTypes Tryz.prog ++ Tryz.f4.resultTypes.toList).any (Tryz.prog.wideKeysFrom ·)) = true := by kernel_rfl
theorem fact_k18 : (OpenSpec.ofChange Rows.catCutSpec).bare.vars.all (Tryz.prog.varReadable ·) = true := by kernel_rfl
theorem fact_k19 : Tryz.f4.resultTypes.all (fun t => Tryz.prog.readableRec t && decide (t < Tryz.prog.types.size)) = true := by kernel_rfl
theorem fact_k20 : (Rows.catCutRow.ifacesOut == Tryz.f4.resultTypes.toList.any (Tryz.prog.ifacesRec ·)) = true := by kernel_rfl
theorem fact_k21 : (Rows.catCutRow.loopsOut == Tryz.f4.resultTypes.toList.any (Tryz.prog.loopsFrom ·)) = true := by kernel_rfl
theorem fact_k23 : Rows.catCutRow.shortTexts.isNone = true := by kernel_rfl
theorem fact_k24b : (Rows.catCutRow.lifted == Tryz.prog.liftsFinal) = true := by kernel_rfl
theorem fact_k24c : (Tryz.prog.make == some Rows.catCutRow.make) = true := by kernel_rfl
theorem fact_k26 : (Rows.catCutRow.pinned == Rows.catCutRow.pinnedBy) = true := by kernel_rfl
theorem fact_k27 : (Rows.catCutRow.veiled == (Tryz.f4.params.toList ++ (OpenSpec.ofChange Rows.catCutSpec).bare.plain.varTypes Tryz.prog ++ Tryz.f4.resultTypes.toList).any (Tryz.prog.veiledRec ·)) = true := by kernel_rfl
theorem fact_k28 : Rows.catCutRow.veiledFits Tryz.prog Tryz.f4.params.toList (Tryz.f4.params.toList ++ (OpenSpec.ofChange Rows.catCutSpec).bare.plain.varTypes Tryz.prog ++ Tryz.f4.resultTypes.toList) = true := by kernel_rfl

end Go.Proofs.YthnebhddakfadaaGreatDoor.catCut
