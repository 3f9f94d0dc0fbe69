/- Closed facts of the row of CatCleans; no walk. -/
import Derived.Test.YthnebhddakfadaaGreatDoorJ0
import Derived.Test.YthnebhddakfadaaGreatDoorCards
import Derived.Test.YthnebhddakfadaaGreatDoorChecked
namespace Go.Proofs.YthnebhddakfadaaGreatDoor.catCleans
open Go
set_option maxRecDepth 100000

theorem fact_k1 : Rows.catCleansUptoRow.wf (OpenSpec.ofChange (Rows.OpenSpec.upto Rows.catCleansSpec).bare) = true := by kernel_rfl
theorem fact_k3 : mapsRowed Tryz.prog = true := by kernel_rfl
theorem fact_k4 : Tryz.f6.params.all (Tryz.prog.readableRec ·) = true := by kernel_rfl
theorem fact_k5 : namedTie Tryz.prog Rows.catCleansUptoRow.named (Rows.OpenSpec.upto Rows.catCleansSpec).bare.vars = true := by kernel_rfl
theorem fact_k6 : (Rows.catCleansUptoRow.stops == []) = true := by kernel_rfl
theorem fact_k7 : (Tryz.prog.stops == []) = true := by kernel_rfl
theorem fact_k8 : (Rows.catCleansUptoRow.knobs == []) = true := by kernel_rfl
theorem fact_k9 : (Tryz.prog.stopKnobs == []) = true := by kernel_rfl
theorem fact_k14 : (Rows.catCleansUptoRow.maps == (Tryz.f6.params.toList ++ (Rows.OpenSpec.upto Rows.catCleansSpec).bare.plain.varTypes Tryz.prog).any (Tryz.prog.mapsRec ·)) = true := by kernel_rfl
theorem fact_k15 : (Rows.catCleansUptoRow.ifaces == (Tryz.f6.params.toList ++ (Rows.OpenSpec.upto Rows.catCleansSpec).bare.plain.varTypes Tryz.prog).any (Tryz.prog.ifacesRec ·)) = true := by kernel_rfl
theorem fact_k16 : (Rows.catCleansUptoRow.mapsOut == Tryz.prog.mapsAmong Tryz.f6.resultTypes.toList) = true := by kernel_rfl
theorem fact_k17 : (Rows.catCleansUptoRow.loops == (Tryz.f6.params.toList ++ (Rows.OpenSpec.upto Rows.catCleansSpec).bare.plain.varTypes Tryz.prog).any (Tryz.prog.loopsFrom ·)) = true := by kernel_rfl
theorem fact_k17b : (Rows.catCleansUptoRow.wideKeys == (Tryz.f6.params.toList ++ (Rows.OpenSpec.upto Rows.catCleansSpec).bare.plain.varTypes Tryz.prog ++ Tryz.f6.resultTypes.toList).any (Tryz.prog.wideKeysFrom ·)) = true := by kernel_rfl
theorem fact_k18 : (Rows.OpenSpec.upto Rows.catCleansSpec).bare.vars.all (Tryz.prog.varReadable ·) = true := by kernel_rfl
theorem fact_k19 : Tryz.f6.resultTypes.all (fun t => Tryz.prog.readableRec t && decide (t < Tryz.prog.types.size)) = true := by kernel_rfl
theorem fact_k20 : (Rows.catCleansUptoRow.ifacesOut == Tryz.f6.resultTypes.toList.any (Tryz.prog.ifacesRec ·)) = true := by kernel_rfl
theorem fact_k21 : (Rows.catCleansUptoRow.loopsOut == Tryz.f6.resultTypes.toList.any (Tryz.prog.loopsFrom ·)) = true := by kernel_rfl
theorem fact_k23 : Rows.catCleansUptoRow.shortTexts.isNone = true := by kernel_rfl
theorem fact_k24b : (Rows.catCleansUptoRow.lifted == Tryz.prog.liftsFinal) = true := by kernel_rfl
theorem fact_k24c : (Tryz.prog.make == some Rows.catCleansUptoRow.make) = true := by kernel_rfl
theorem fact_k26 : (Rows.catCleansUptoRow.pinned == Rows.catCleansUptoRow.pinnedBy) = true := by kernel_rfl
theorem fact_k27 : (Rows.catCleansUptoRow.veiled == (Tryz.f6.params.toList ++ (Rows.OpenSpec.upto Rows.catCleansSpec).bare.plain.varTypes Tryz.prog ++ Tryz.f6.resultTypes.toList).any (Tryz.prog.veiledRec ·)) = true := by kernel_rfl
theorem fact_k28 : Rows.catCleansUptoRow.veiledFits Tryz.prog Tryz.f6.params.toList (Tryz.f6.params.toList ++ (Rows.OpenSpec.upto Rows.catCleansSpec).bare.plain.varTypes Tryz.prog ++ Tryz.f6.resultTypes.toList) = true := by kernel_rfl

end Go.Proofs.YthnebhddakfadaaGreatDoor.catCleans
