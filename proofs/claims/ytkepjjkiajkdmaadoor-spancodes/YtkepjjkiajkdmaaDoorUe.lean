/- The walk of the document's Same of two spans that are alike. -/
import Derived.Test.YtkepjjkiajkdmaaDoorUd
import Derived.Test.YtkepjjkiajkdmaaDoorKs
namespace Go.Proofs.YtkepjjkiajkdmaaDoor
open Go.RowKit

set_option maxHeartbeats 2000000 in
set_option maxRecDepth 100000 in
theorem rsame16_yes (n : Int) (pp : Option Addr) (pm pc : Nat) (ps : List (List UInt8)) (qp : Option Addr) (qc : Nat) (w : World) (hs : RSrc strKind w pp pm pc ps) (hs2 : RSrc strKind w qp pm qc ps) (hm : pm ≤ 4611686018427387904) :
    Calls Tryd.prog 14 #[.agg #[.int .i64 n, .slice pp pm pc], .agg #[.int .i64 n, .slice qp pm qc]] w fun e w' => e = .returned (.bool true) ∧ Below w.heap.size w w' := by
  obtain ⟨W1, hW1⟩ : ∃ Wn, w.alloc (.cells #[.int .i64 n, .slice pp pm pc] 24) = Wn := ⟨_, rfl⟩
  have b1 : Hid (Below w.heap.size w W1) := by rw [← hW1]; exact (Below.refl _ _).alloc (Nat.le_refl _) _
  have s1 : W1.heap.size = w.heap.size + 1 := by rw [← hW1, alloc_size]
  have c0 : W1.cell? ⟨w.heap.size, 0, none⟩ = some (.int .i64 n) := by rw [← hW1]; exact cell_of_row _ _ _ _ _ _ (heap_alloc_new w _)
  have c1 : W1.cell? ⟨w.heap.size, 1, none⟩ = some (.slice pp pm pc) := by rw [← hW1]; exact cell_of_row _ _ _ _ _ _ (heap_alloc_new w _)
  obtain ⟨W2, hW2⟩ : ∃ Wn, W1.alloc (.cells #[.int .i64 n, .slice qp pm qc] 24) = Wn := ⟨_, rfl⟩
  have b2 : Hid (Below W1.heap.size W1 W2) := by rw [← hW2]; exact (Below.refl _ _).alloc (Nat.le_refl _) _
  have d0 : W2.cell? ⟨w.heap.size + 1, 0, none⟩ = some (.int .i64 n) := by rw [← s1, ← hW2]; exact cell_of_row _ _ _ _ _ _ (heap_alloc_new W1 _)
  have d1 : W2.cell? ⟨w.heap.size + 1, 1, none⟩ = some (.slice qp pm qc) := by rw [← s1, ← hW2]; exact cell_of_row _ _ _ _ _ _ (heap_alloc_new W1 _)
  have f0 := below_cell b2.out c0
  have f1 := below_cell b2.out c1
  have B2 := keep (b1.out.trans (b2.out.mono b1.out.size))
  have SM := keep (rsameS_yes pp pm pc ps qp qc W2 (hs.below strKind_ok B2.out) (hs2.below strKind_ok B2.out) hm)
  clear hs hs2 c0 c1
  go_enter Tryd.func14, Tryd.ntmps14
  go_wp2_with fail
  refine SM.out.mono ?_
  rintro e w3 ⟨rfl, hb3⟩
  have B3 := keep (B2.out.trans (hb3.mono B2.out.size))
  clear hb3 SM hW1 hW2 s1 d0 d1 f0 f1
  go_wp2
  go_ret
  exact ⟨rfl, B3.out⟩
end Go.Proofs.YtkepjjkiajkdmaaDoor
