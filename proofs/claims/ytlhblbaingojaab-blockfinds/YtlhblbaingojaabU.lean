/- Words of 32 bits as the walk spells them; no walk. -/
import Derived.Test.YtlhblbaingojaabF
namespace Go.Proofs.Ytlhblbaingojaab
open Go.RowKit

def U (x : UInt32) : Int := (x.toNat : Int)
theorem U_lo (x : UInt32) : 0 ≤ U x := Int.natCast_nonneg _
theorem U_hi (x : UInt32) : U x < 4294967296 := by have := x.toNat_lt; unfold U; omega
theorem U_xor (x y : UInt32) : bits .xor .u32 (U x) (U y) = U (x ^^^ y) := by
  unfold U
  rw [u32_xor_nat _ _ x.toNat_lt y.toNat_lt, UInt32.toNat_xor]
theorem U_xorb (x : UInt32) (b : UInt8) : bits .xor .u32 (U x) (b.toNat : Int) = U (x ^^^ b.toUInt32) := by
  rw [← U_xor]
  unfold U
  simp
theorem U_xorc (x : UInt32) (b : UInt8) : bits .xor .u32 (U x) ((b.toNat : Int) % 4294967296) = U (x ^^^ b.toUInt32) := by
  rw [← U_xorb]
  congr 1
  have := b.toNat_lt
  omega
theorem U_inj {x y : UInt32} : U x = U y ↔ x = y := by
  unfold U
  constructor
  · intro h; exact UInt32.toNat_inj.1 (by omega)
  · rintro rfl; rfl
theorem low_bit (x : UInt32) : bits .and .u32 (U x) 1 = U (x % 2) := by
  have h := u32_and_nat x.toNat 1 x.toNat_lt (by omega)
  rw [nat_mask1] at h
  unfold U
  refine Eq.trans h ?_
  rw [UInt32.toNat_mod]
  rfl
theorem half (x : UInt32) : U x / (2 : Int) = U (x >>> 1) := by
  unfold U
  rw [shr1_toNat]
  omega
theorem low_poly (x : UInt32) : IntKind.u32.wrap (3988292384 * U (x % 2)) = U (if x % 2 = 1 then 0xEDB88320 else 0) := by
  have h2 : (x % 2).toNat = x.toNat % 2 := by rw [UInt32.toNat_mod]; rfl
  rw [IntKind.wrap_u32']
  unfold U
  by_cases h : x % 2 = 1
  · rw [if_pos h, h]; rfl
  · rw [if_neg h]
    have : (x % 2).toNat = 0 := by
      rcases Nat.mod_two_eq_zero_or_one x.toNat with h0 | h0
      · omega
      · exact absurd (UInt32.toNat_inj.1 (by rw [h2, h0]; rfl)) h
    rw [this]; rfl
theorem step_walk (x : UInt32) : bits .xor .u32 (U (x >>> 1)) (U (if x % 2 = 1 then 0xEDB88320 else 0)) = U (step x) := U_xor _ _
theorem U_not (x : UInt32) : bits .xor .u32 (if IntKind.u32.signed = true then -1 else IntKind.u32.max) (U x) = U (~~~x) := by
  have e : (if IntKind.u32.signed = true then -1 else IntKind.u32.max) = U 4294967295 := rfl
  rw [e, U_xor]
  have h : (4294967295 : UInt32) ^^^ x = ~~~x := by
    apply UInt32.toBitVec_inj.1
    simp
    exact BitVec.allOnes_xor
  rw [h]
theorem rem2 (x : UInt32) : (U x).tmod 2 = U (x % 2) := by
  rw [Int.tmod_eq_emod_of_nonneg (U_lo x)]
  unfold U
  rw [UInt32.toNat_mod]
  rfl
theorem one_bit (x : UInt32) : (U (x % 2) == 1) = decide (x % 2 = 1) := by
  have h : (U (x % 2) = 1) ↔ (x % 2 = 1) := by
    have e : (1 : Int) = U 1 := rfl
    rw [e, U_inj]
  by_cases hx : x % 2 = 1
  · rw [hx]; rfl
  · rw [decide_eq_false hx, beq_eq_false_iff_ne]
    exact fun h' => hx (h.1 h')
def steps : Nat → UInt32 → UInt32
  | 0, x => x
  | n + 1, x => step (steps n x)
theorem steps8 (x : UInt32) : steps 8 x = step8 x := rfl
theorem crcW_snoc (W : UInt32) (l : List UInt8) (k : Nat) (h : k < l.length) : crcW W (l.take (k + 1)) = byteStep (crcW W (l.take k)) (fn l k) := by
  rw [List.take_succ_eq_append_getElem h, crcW_append]
  have e : fn l k = l[k] := by simp [fn, List.getD, h]
  rw [e]; rfl
end Go.Proofs.Ytlhblbaingojaab
