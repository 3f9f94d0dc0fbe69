/- A number under a mask; no walk. -/
import Derived.Test.YtohnfogdalnilaaDoorK
namespace Go.Proofs.YtohnfogdalnilaaDoor
open Go.RowKit

theorem and_le (x : Int) (m : Nat) (hm : m < 9223372036854775808) : ∃ k : Nat, bits BinOp.and IntKind.i64 x (m : Int) = (k : Int) ∧ k ≤ m := by
  have e : bits BinOp.and IntKind.i64 x (m : Int) = IntKind.i64.wrap ((BitVec.ofInt 64 x &&& BitVec.ofInt 64 (m : Int)).toNat : Int) := rfl
  have hb : (BitVec.ofInt 64 (m : Int)).toNat = m := by
    rw [BitVec.toNat_ofInt]
    have : ((m : Int) % ((2 ^ 64 : Nat) : Int)) = (m : Int) := Int.emod_eq_of_lt (by omega) (by omega)
    rw [this]; rfl
  have hle : (BitVec.ofInt 64 x &&& BitVec.ofInt 64 (m : Int)).toNat ≤ m := by
    rw [BitVec.toNat_and, hb]
    exact Nat.and_le_right
  refine ⟨(BitVec.ofInt 64 x &&& BitVec.ofInt 64 (m : Int)).toNat, ?_, hle⟩
  rw [e, IntKind.wrap_i64]
  omega
end Go.Proofs.YtohnfogdalnilaaDoor
