/- The walk of the document's Same over hashes, where both rows are alike. -/
import Derived.Test.YtkepjjkiajkdmaaDoorKa
import Derived.Test.YtkepjjkiajkdmaaDoorKt
namespace Go.Proofs.YtkepjjkiajkdmaaDoor
open Go.RowKit

set_option maxHeartbeats 1000000 in
set_option maxRecDepth 100000 in
theorem rsameS_yes (ao : Option Addr) (n c : Nat) (es : List (List UInt8)) (ao2 : Option Addr) (c2 : Nat) (w : World) (hs : RSrc strKind w ao n c es) (hs2 : RSrc strKind w ao2 n c2 es) (hn : n ≤ 4611686018427387904) :
    Calls Tryd.prog 26 #[.slice ao n c, .slice ao2 n c2] w fun e w' => e = .returned (.bool true) ∧ Below w.heap.size w w' := by
  have HS := keep hs
  have HS2 := keep hs2
  have HN := keep hs.len
  clear hs hs2
  go_enter Tryd.func26, Tryd.ntmps26
  go_wp2
  go_loopw [5] (fun i wr => ∃ k : Nat, k ≤ n ∧ i = .int .i64 (k : Int) ∧ Hid (Below w.heap.size w wr)) (fun i _ => n - (intOf i).toNat)
  case atStart => exact ⟨0, Nat.zero_le _, rfl, Below.refl _ _⟩
  case round =>
    obtain ⟨k, hk, rfl, hI⟩ := hrel
    by_cases hkn : k < n
    · obtain ⟨b, off, rfl, _, hcell⟩ := strs_at HS.out (by omega)
      obtain ⟨b2, off2, rfl, _, hcell2⟩ := strs_at HS2.out (by omega)
      obtain ⟨s, hsk⟩ : ∃ s, es[k]? = some s := ⟨es[k]'(by rw [HN.out]; exact hkn), List.getElem?_eq_getElem _⟩
      have ck : wr.cell? ⟨b, off + k, none⟩ = some (.string ⟨s.toArray⟩) := below_cell hI.out (hcell k s hsk)
      have ck2 : wr.cell? ⟨b2, off2 + k, none⟩ = some (.string ⟨s.toArray⟩) := below_cell hI.out (hcell2 k s hsk)
      have k0 : (0 : Int) ≤ (k : Int) := by omega
      have k1 : (k : Int) < (n : Int) := by omega
      clear hcell hcell2 hsk
      go_wp2_with fail
      go_region
      go_wp2
      go_roundw
      case rel => exact ⟨k + 1, by omega, by go_num, by repeat (first | exact hI.out | apply Below.drew)⟩
      case measure => simp [intOf]; omega
    · have k1 : ¬ (k : Int) < (n : Int) := by omega
      go_wp2
      go_ret
      exact ⟨rfl, hI.out⟩
end Go.Proofs.YtkepjjkiajkdmaaDoor
