/- Known answers, reckoned by the kernel; slices that are built or made; no walk. -/
import Derived.Test.YtjjpfckmbjgfbaaDoorH
import Derived.Test.YtjjpfckmbjgfbaaDoorHex
namespace Go.Proofs.YtjjpfckmbjgfbaaDoor
open Go.RowKit

def jefe : List UInt8 := [74, 101, 102, 101]
def what : List UInt8 := [119, 104, 97, 116, 32, 100, 111, 32, 121, 97, 32, 119, 97, 110, 116, 32, 102, 111, 114, 32, 110, 111, 116, 104, 105, 110, 103, 63]
theorem known_abc : hexOf (sum [97, 98, 99]) = [98, 97, 55, 56, 49, 54, 98, 102, 56, 102, 48, 49, 99, 102, 101, 97, 52, 49, 52, 49, 52, 48, 100, 101, 53, 100, 97, 101, 50, 50, 50, 51, 98, 48, 48, 51, 54, 49, 97, 51, 57, 54, 49, 55, 55, 97, 57, 99, 98, 52, 49, 48, 102, 102, 54, 49, 102, 50, 48, 48, 49, 53, 97, 100] := by decide +kernel
theorem known_none : hexOf (sum []) = [101, 51, 98, 48, 99, 52, 52, 50, 57, 56, 102, 99, 49, 99, 49, 52, 57, 97, 102, 98, 102, 52, 99, 56, 57, 57, 54, 102, 98, 57, 50, 52, 50, 55, 97, 101, 52, 49, 101, 52, 54, 52, 57, 98, 57, 51, 52, 99, 97, 52, 57, 53, 57, 57, 49, 98, 55, 56, 53, 50, 98, 56, 53, 53] := by decide +kernel
theorem known_mac : hexOf (mac jefe what) = [53, 98, 100, 99, 99, 49, 52, 54, 98, 102, 54, 48, 55, 53, 52, 101, 54, 97, 48, 52, 50, 52, 50, 54, 48, 56, 57, 53, 55, 53, 99, 55, 53, 97, 48, 48, 51, 102, 48, 56, 57, 100, 50, 55, 51, 57, 56, 51, 57, 100, 101, 99, 53, 56, 98, 57, 54, 52, 101, 99, 51, 56, 52, 51] := by decide +kernel
theorem fn_rep (q j : Nat) : fn (List.replicate q 0) j = 0 := by
  unfold fn
  rw [List.getD_eq_getElem?_getD, List.getElem?_replicate]
  split <;> rfl
theorem kb_rep (q : Nat) (h : q ≤ 64) : kb (List.replicate q 0) = fun _ => 0 := by
  funext j
  unfold kb
  rw [if_neg (by rw [List.length_replicate]; omega), fn_rep]
theorem mac_rep (q : Nat) (h : q ≤ 64) (l : List UInt8) : mac (List.replicate q 0) l = mac (List.replicate 64 0) l := by
  unfold mac
  rw [kb_rep q h, kb_rep 64 (by omega)]
theorem and63 (n : Int) : ∃ q : Nat, q < 64 ∧ bits .and .i64 n 63 = (q : Int) := by
  refine ⟨((BitVec.ofInt 64 n) &&& (BitVec.ofInt 64 63)).toNat, ?_, ?_⟩
  · rw [BitVec.toNat_and]
    exact Nat.lt_of_le_of_lt Nat.and_le_right (by decide)
  · have h : ((BitVec.ofInt 64 n) &&& (BitVec.ofInt 64 63)).toNat < 64 := by
      rw [BitVec.toNat_and]
      exact Nat.lt_of_le_of_lt Nat.and_le_right (by decide)
    show IntKind.i64.wrap (((BitVec.ofInt 64 n) &&& (BitVec.ofInt 64 63)).toNat : Int) = _
    exact wrap_small _ (by omega) (by omega)
theorem Src.block {w : World} {b t m : Nat} {l : List UInt8} {fr : Nat × Nat} (h : w.heap[b]? = some (.cells (bv l).toArray t fr)) (hm : l.length = m) : Src w (some ⟨b, 0, none⟩) m m l :=
  ⟨hm, Nat.le_refl _, (fun e => by cases e), fun ad had j u hu => by
    cases had
    rw [Addr.add_mid, Nat.zero_add, cell_of_row _ _ _ _ _ _ h]
    simpa using hu⟩
end Go.Proofs.YtjjpfckmbjgfbaaDoor
