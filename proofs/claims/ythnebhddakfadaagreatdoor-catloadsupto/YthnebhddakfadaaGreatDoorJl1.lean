/- Closed facts of the row of CatLoads; no walk. -/
import Derived.Test.YthnebhddakfadaaGreatDoorJ0
import Derived.Test.YthnebhddakfadaaGreatDoorCards
import Derived.Test.YthnebhddakfadaaGreatDoorChecked
namespace Go.Proofs.YthnebhddakfadaaGreatDoor.catLoads
open Go
set_option maxRecDepth 100000

theorem fact_k1 : Rows.catLoadsUptoRow.wf (OpenSpec.ofChange (Rows.OpenSpec.upto Rows.catLoadsSpec).bare) = true := by kernel_rfl
theorem fact_k3 : mapsRowed Tryz.prog = true := by kernel_rfl
theorem fact_k4 : Tryz.f8.params.all (Tryz.prog.readableRec ·) = true := by kernel_rfl
theorem fact_k5 : namedTie Tryz.prog Rows.catLoadsUptoRow.named (Rows.OpenSpec.upto Rows.catLoadsSpec).bare.vars = true := by kernel_rfl
theorem fact_k6 : (Rows.catLoadsUptoRow.stops == []) = true := by kernel_rfl
theorem fact_k7 : (Tryz.prog.stops == []) = true := by kernel_rfl
theorem fact_k8 : (Rows.catLoadsUptoRow.knobs == []) = true := by kernel_rfl
theorem fact_k9 : (Tryz.prog.stopKnobs == []) = true := by kernel_rfl
theorem fact_k14 : (Rows.catLoadsUptoRow.maps == (Tryz.f8.params.toList ++ (Rows.OpenSpec.upto Rows.catLoadsSpec).bare.plain.varTypes Tryz.prog).any (Tryz.prog.mapsRec ·)) = true := by kernel_rfl
theorem fact_k15 : (Rows.catLoadsUptoRow.ifaces == (Tryz.f8.params.toList ++ (Rows.OpenSpec.upto Rows.catLoadsSpec).bare.plain.varTypes Tryz.prog).any (Tryz.prog.ifacesRec ·)) = true := by kernel_rfl
theorem fact_k16 : (Rows.catLoadsUptoRow.mapsOut == Tryz.prog.mapsAmong Tryz.f8.resultTypes.toList) = true := by kernel_rfl
theorem fact_k17 : (Rows.catLoadsUptoRow.loops == (Tryz.f8.params.toList ++ (Rows.OpenSpec.upto Rows.catLoadsSpec).bare.plain.varTypes Tryz.prog).any (Tryz.prog.loopsFrom ·)) = true := by kernel_rfl
theorem fact_k17b : (Rows.catLoadsUptoRow.wideKeys == (Tryz.f8.params.toList ++ (Rows.OpenSpec.upto Rows.catLoadsSpec).bare.plain.varTypes Tryz.prog ++ Tryz.f8.resultTypes.toList).any (Tryz.prog.wideKeysFrom ·)) = true := by kernel_rfl
theorem fact_k18 : (Rows.OpenSpec.upto Rows.catLoadsSpec).bare.vars.all (Tryz.prog.varReadable ·) = true := by kernel_rfl
theorem fact_k19 : Tryz.f8.resultTypes.all (fun t => Tryz.prog.readableRec t && decide (t < Tryz.prog.types.size)) = true := by kernel_rfl
theorem fact_k20 : (Rows.catLoadsUptoRow.ifacesOut == Tryz.f8.resultTypes.toList.any (Tryz.prog.ifacesRec ·)) = true := by kernel_rfl
theorem fact_k21 : (Rows.catLoadsUptoRow.loopsOut == Tryz.f8.resultTypes.toList.any (Tryz.prog.loopsFrom ·)) = true := by kernel_rfl
theorem fact_k23 : Rows.catLoadsUptoRow.shortTexts.isNone = true := by kernel_rfl
theorem fact_k24b : (Rows.catLoadsUptoRow.lifted == Tryz.prog.liftsFinal) = true := by kernel_rfl
theorem fact_k24c : (Tryz.prog.make == some Rows.catLoadsUptoRow.make) = true := by kernel_rfl
theorem fact_k26 : (Rows.catLoadsUptoRow.pinned == Rows.catLoadsUptoRow.pinnedBy) = true := by kernel_rfl
theorem fact_k27 : (Rows.catLoadsUptoRow.veiled == (Tryz.f8.params.toList ++ (Rows.OpenSpec.upto Rows.catLoadsSpec).bare.plain.varTypes Tryz.prog ++ Tryz.f8.resultTypes.toList).any (Tryz.prog.veiledRec ·)) = true := by kernel_rfl
theorem fact_k28 : Rows.catLoadsUptoRow.veiledFits Tryz.prog Tryz.f8.params.toList (Tryz.f8.params.toList ++ (Rows.OpenSpec.upto Rows.catLoadsSpec).bare.plain.varTypes Tryz.prog ++ Tryz.f8.resultTypes.toList) = true := by kernel_rfl

end Go.Proofs.YthnebhddakfadaaGreatDoor.catLoads
