/- What the laws' leaves are; a number cut to a place; no walk. -/
import Derived.Test.YtelebhcaljepaabDoorPn
import Derived.Test.YtelebhcaljepaabDoorKp
namespace Go.Proofs.YtelebhcaljepaabDoor
open Go.RowKit

theorem and_mask (n : Int) (k : Nat) (hk : k < 4611686018427387904) : ∃ q : Nat, q ≤ k ∧ bits .and .i64 n (k : Int) = (q : Int) := by
  have hb : (BitVec.ofInt 64 (k : Int)).toNat = k := ofInt_u64 k (by omega)
  have h : ((BitVec.ofInt 64 n) &&& (BitVec.ofInt 64 (k : Int))).toNat ≤ k := by
    rw [BitVec.toNat_and, hb]
    exact Nat.and_le_right
  refine ⟨((BitVec.ofInt 64 n) &&& (BitVec.ofInt 64 (k : Int))).toNat, h, ?_⟩
  show IntKind.i64.wrap (((BitVec.ofInt 64 n) &&& (BitVec.ofInt 64 (k : Int))).toNat : Int) = _
  exact wrap_small _ (by omega) (by omega)
theorem leaves_len (es : List ByteE) : (leavesL es).length ≤ 70 ∧ (leavesL es).length ≤ es.length := by
  unfold leavesL
  rw [List.length_map, List.length_take]
  omega
theorem leaves_32 (es : List ByteE) : all32 (leavesL es) := fun e he => by
  unfold leavesL at he
  obtain ⟨x, _, rfl⟩ := List.mem_map.1 he
  exact leafL_len _
theorem leaves_short (es : List ByteE) : ∀ e ∈ leavesL es, e.length ≤ 1099511627776 := fun e he => by rw [leaves_32 es e he]; decide
theorem leaves_at {es : List ByteE} {k : Nat} (hk : k < (leavesL es).length) : ∃ e, es[k]? = some e ∧ (leavesL es)[k]? = some (leafL e.bytes) := by
  have h1 := leaves_len es
  have h2 : k < es.length := by omega
  refine ⟨es[k], List.getElem?_eq_getElem h2, ?_⟩
  unfold leavesL
  rw [List.getElem?_map, List.getElem?_take_of_lt (by omega), List.getElem?_eq_getElem h2]
  rfl
/-- i cut to a place among n. -/
theorem place_of (i : Int) (n : Nat) (h : 0 < n) : ∃ q k : Nat, bits .and .i64 i (65535 : Int) = (q : Int) ∧ q ≤ 65535 ∧ Int.tmod (q : Int) (n : Int) = (k : Int) ∧ k < n := by
  obtain ⟨q, h1, h2⟩ := and_mask i 65535 (by omega)
  exact ⟨q, q % n, h2, h1, (Int.ofNat_tmod q n).symm, Nat.mod_lt _ h⟩
end Go.Proofs.YtelebhcaljepaabDoor
