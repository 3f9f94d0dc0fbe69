/- Closed facts of the row of CatSure; no walk. -/
import Derived.Test.YtgkchkdjcebnaaaGreatDoorJ0
import Derived.Test.YtgkchkdjcebnaaaGreatDoorCards
import Derived.Test.YtgkchkdjcebnaaaGreatDoorChecked
namespace Go.Proofs.YtgkchkdjcebnaaaGreatDoor.catSure
open Go
set_option maxRecDepth 100000

theorem fact_k1 : Rows.catSureRow.wf (OpenSpec.ofChange (OpenSpec.ofChange Rows.catSureSpec).bare) = true := by kernel_rfl
theorem fact_k3 : mapsRowed Tryz.prog = true := by kernel_rfl
theorem fact_k4 : Tryz.f5.params.all (Tryz.prog.readableRec ·) = true := by kernel_rfl
theorem fact_k5 : namedTie Tryz.prog Rows.catSureRow.named (OpenSpec.ofChange Rows.catSureSpec).bare.vars = true := by kernel_rfl
theorem fact_k6 : (Rows.catSureRow.stops == []) = true := by kernel_rfl
theorem fact_k7 : (Tryz.prog.stops == []) = true := by kernel_rfl
theorem fact_k8 : (Rows.catSureRow.knobs == []) = true := by kernel_rfl
theorem fact_k9 : (Tryz.prog.stopKnobs == []) = true := by kernel_rfl
theorem fact_k14 : (Rows.catSureRow.maps == (Tryz.f5.params.toList ++ (OpenSpec.ofChange Rows.catSureSpec).bare.plain.varTypes Tryz.prog).any (Tryz.prog.mapsRec ·)) = true := by kernel_rfl
theorem fact_k15 : (Rows.catSureRow.ifaces == (Tryz.f5.params.toList ++ (OpenSpec.ofChange Rows.catSureSpec).bare.plain.varTypes Tryz.prog).any (Tryz.prog.ifacesRec ·)) = true := by kernel_rfl
theorem fact_k16 : (Rows.catSureRow.mapsOut == Tryz.prog.mapsAmong Tryz.f5.resultTypes.toList) = true := by kernel_rfl
theorem fact_k17 : (Rows.catSureRow.loops == (Tryz.f5.params.toList ++ (OpenSpec.ofChange Rows.catSureSpec).bare.plain.varTypes Tryz.prog).any (Tryz.prog.loopsFrom ·)) = true := by kernel_rfl
theorem fact_k17b : (Rows.catSureRow.wideKeys == (Tryz.f5.params.toList ++ (OpenSpec.ofChange Rows.catSureSpec).bare.plain.varTypes Tryz.prog ++ Tryz.f5.resultTypes.toList).any (Tryz.prog.wideKeysFrom ·)) = true := by kernel_rfl
theorem fact_k18 : (OpenSpec.ofChange Rows.catSureSpec).bare.vars.all (Tryz.prog.varReadable ·) = true := by kernel_rfl
theorem fact_k19 : Tryz.f5.resultTypes.all (fun t => Tryz.prog.readableRec t && decide (t < Tryz.prog.types.size)) = true := by kernel_rfl
theorem fact_k20 : (Rows.catSureRow.ifacesOut == Tryz.f5.resultTypes.toList.any (Tryz.prog.ifacesRec ·)) = true := by kernel_rfl
theorem fact_k21 : (Rows.catSureRow.loopsOut == Tryz.f5.resultTypes.toList.any (Tryz.prog.loopsFrom ·)) = true := by kernel_rfl
theorem fact_k23 : Rows.catSureRow.shortTexts.isNone = true := by kernel_rfl
theorem fact_k24b : (Rows.catSureRow.lifted == Tryz.prog.liftsFinal) = true := by kernel_rfl
theorem fact_k24c : (Tryz.prog.make == some Rows.catSureRow.make) = true := by kernel_rfl
theorem fact_k26 : (Rows.catSureRow.pinned == Rows.catSureRow.pinnedBy) = true := by kernel_rfl
theorem fact_k27 : (Rows.catSureRow.veiled == (Tryz.f5.params.toList ++ (OpenSpec.ofChange Rows.catSureSpec).bare.plain.varTypes Tryz.prog ++ Tryz.f5.resultTypes.toList).any (Tryz.prog.veiledRec ·)) = true := by kernel_rfl
theorem fact_k28 : Rows.catSureRow.veiledFits Tryz.prog Tryz.f5.params.toList (Tryz.f5.params.toList ++ (OpenSpec.ofChange Rows.catSureSpec).bare.plain.varTypes Tryz.prog ++ Tryz.f5.resultTypes.toList) = true := by kernel_rfl

end Go.Proofs.YtgkchkdjcebnaaaGreatDoor.catSure
