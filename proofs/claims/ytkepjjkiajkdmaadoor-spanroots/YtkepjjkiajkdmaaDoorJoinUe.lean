/- The walks of the laws' mine and theirs. -/
/- The walk of the document's Same over hashes, where both rows are alike. -/
/- The walk of the document's Same of two spans that are alike. -/
import Derived.Test.YtkepjjkiajkdmaaDoorUx
import Derived.Test.YtkepjjkiajkdmaaDoorKa
import Derived.Test.YtkepjjkiajkdmaaDoorKt
import Derived.Test.YtkepjjkiajkdmaaDoorUd
namespace Go.Proofs.YtkepjjkiajkdmaaDoor
open Go.RowKit

theorem results_cell {fn : Func} {p : Tmp} {ty : TypeId} (h : fn.results = #[.cell p ty]) (tmps : Array Value) (P : Program) (w : World) :
    (results fn tmps).run P w = ((asAddr (tmps.getD p undef)).run P w).andThen fun a w₁ => (loadVar ty a).run P w₁ := by
  simp only [results, h]
  simp [Sem.run_bind, Result.andThen]
set_option maxHeartbeats 1000000 in
set_option maxRecDepth 100000 in
theorem mine_any (n : Int) (ao : Option Addr) (m c : Nat) (w : World) :
    Calls Tryd.prog 10 #[.agg #[.int .i64 n, .slice ao m c]] w fun e w' => e = .returned (.agg #[.int .i64 n, .slice ao m c]) ∧ Below w.heap.size w w' := by
  go_enter Tryd.func10, Tryd.ntmps10
  go_wp2
  refine ⟨rfl, .agg #[.int .i64 n, .slice ao m c], ?_, rfl, ?_⟩
  · rw [results_cell (p := 2) (ty := 26) rfl]
    go_simp
  · exact ((Below.refl _ _).alloc (Nat.le_refl _) _).alloc (le_alloc (Nat.le_refl _) _) _
set_option maxHeartbeats 1000000 in
set_option maxRecDepth 100000 in
theorem theirs_any (n : Int) (ao : Option Addr) (m c : Nat) (w : World) :
    Calls Tryd.prog 15 #[.agg #[.int .i64 n, .slice ao m c]] w fun e w' => e = .returned (.agg #[.int .i64 n, .slice ao m c]) ∧ Below w.heap.size w w' := by
  go_enter Tryd.func15, Tryd.ntmps15
  go_wp2
  refine ⟨rfl, .agg #[.int .i64 n, .slice ao m c], ?_, rfl, ?_⟩
  · rw [results_cell (p := 2) (ty := 24) rfl]
    go_simp
  · exact ((Below.refl _ _).alloc (Nat.le_refl _) _).alloc (le_alloc (Nat.le_refl _) _) _
end Go.Proofs.YtkepjjkiajkdmaaDoor
namespace Go.Proofs.YtkepjjkiajkdmaaDoor
open Go.RowKit

set_option maxHeartbeats 1000000 in
set_option maxRecDepth 100000 in
theorem rsameS_yes (ao : Option Addr) (n c : Nat) (es : List (List UInt8)) (ao2 : Option Addr) (c2 : Nat) (w : World) (hs : RSrc strKind w ao n c es) (hs2 : RSrc strKind w ao2 n c2 es) (hn : n ≤ 4611686018427387904) :
    Calls Tryd.prog 26 #[.slice ao n c, .slice ao2 n c2] w fun e w' => e = .returned (.bool true) ∧ Below w.heap.size w w' := by
  have HS := keep hs
  have HS2 := keep hs2
  have HN := keep hs.len
  clear hs hs2
  go_enter Tryd.func26, Tryd.ntmps26
  go_wp2
  go_loopw [5] (fun i wr => ∃ k : Nat, k ≤ n ∧ i = .int .i64 (k : Int) ∧ Hid (Below w.heap.size w wr)) (fun i _ => n - (intOf i).toNat)
  case atStart => exact ⟨0, Nat.zero_le _, rfl, Below.refl _ _⟩
  case round =>
    obtain ⟨k, hk, rfl, hI⟩ := hrel
    by_cases hkn : k < n
    · obtain ⟨b, off, rfl, _, hcell⟩ := strs_at HS.out (by omega)
      obtain ⟨b2, off2, rfl, _, hcell2⟩ := strs_at HS2.out (by omega)
      obtain ⟨s, hsk⟩ : ∃ s, es[k]? = some s := ⟨es[k]'(by rw [HN.out]; exact hkn), List.getElem?_eq_getElem _⟩
      have ck : wr.cell? ⟨b, off + k, none⟩ = some (.string ⟨s.toArray⟩) := below_cell hI.out (hcell k s hsk)
      have ck2 : wr.cell? ⟨b2, off2 + k, none⟩ = some (.string ⟨s.toArray⟩) := below_cell hI.out (hcell2 k s hsk)
      have k0 : (0 : Int) ≤ (k : Int) := by omega
      have k1 : (k : Int) < (n : Int) := by omega
      clear hcell hcell2 hsk
      go_wp2_with fail
      go_region
      go_wp2
      go_roundw
      case rel => exact ⟨k + 1, by omega, by go_num, by repeat (first | exact hI.out | apply Below.drew)⟩
      case measure => simp [intOf]; omega
    · have k1 : ¬ (k : Int) < (n : Int) := by omega
      go_wp2
      go_ret
      exact ⟨rfl, hI.out⟩
end Go.Proofs.YtkepjjkiajkdmaaDoor
namespace Go.Proofs.YtkepjjkiajkdmaaDoor
open Go.RowKit

set_option maxHeartbeats 2000000 in
set_option maxRecDepth 100000 in
theorem rsame16_yes (n : Int) (pp : Option Addr) (pm pc : Nat) (ps : List (List UInt8)) (qp : Option Addr) (qc : Nat) (w : World) (hs : RSrc strKind w pp pm pc ps) (hs2 : RSrc strKind w qp pm qc ps) (hm : pm ≤ 4611686018427387904) :
    Calls Tryd.prog 14 #[.agg #[.int .i64 n, .slice pp pm pc], .agg #[.int .i64 n, .slice qp pm qc]] w fun e w' => e = .returned (.bool true) ∧ Below w.heap.size w w' := by
  obtain ⟨W1, hW1⟩ : ∃ Wn, w.alloc (.cells #[.int .i64 n, .slice pp pm pc] 24) = Wn := ⟨_, rfl⟩
  have b1 : Hid (Below w.heap.size w W1) := by rw [← hW1]; exact (Below.refl _ _).alloc (Nat.le_refl _) _
  have s1 : W1.heap.size = w.heap.size + 1 := by rw [← hW1, alloc_size]
  have c0 : W1.cell? ⟨w.heap.size, 0, none⟩ = some (.int .i64 n) := by rw [← hW1]; exact cell_of_row _ _ _ _ _ _ (heap_alloc_new w _)
  have c1 : W1.cell? ⟨w.heap.size, 1, none⟩ = some (.slice pp pm pc) := by rw [← hW1]; exact cell_of_row _ _ _ _ _ _ (heap_alloc_new w _)
  obtain ⟨W2, hW2⟩ : ∃ Wn, W1.alloc (.cells #[.int .i64 n, .slice qp pm qc] 24) = Wn := ⟨_, rfl⟩
  have b2 : Hid (Below W1.heap.size W1 W2) := by rw [← hW2]; exact (Below.refl _ _).alloc (Nat.le_refl _) _
  have d0 : W2.cell? ⟨w.heap.size + 1, 0, none⟩ = some (.int .i64 n) := by rw [← s1, ← hW2]; exact cell_of_row _ _ _ _ _ _ (heap_alloc_new W1 _)
  have d1 : W2.cell? ⟨w.heap.size + 1, 1, none⟩ = some (.slice qp pm qc) := by rw [← s1, ← hW2]; exact cell_of_row _ _ _ _ _ _ (heap_alloc_new W1 _)
  have f0 := below_cell b2.out c0
  have f1 := below_cell b2.out c1
  have B2 := keep (b1.out.trans (b2.out.mono b1.out.size))
  have SM := keep (rsameS_yes pp pm pc ps qp qc W2 (hs.below strKind_ok B2.out) (hs2.below strKind_ok B2.out) hm)
  clear hs hs2 c0 c1
  go_enter Tryd.func14, Tryd.ntmps14
  go_wp2_with fail
  refine SM.out.mono ?_
  rintro e w3 ⟨rfl, hb3⟩
  have B3 := keep (B2.out.trans (hb3.mono B2.out.size))
  clear hb3 SM hW1 hW2 s1 d0 d1 f0 f1
  go_wp2
  go_ret
  exact ⟨rfl, B3.out⟩
end Go.Proofs.YtkepjjkiajkdmaaDoor
