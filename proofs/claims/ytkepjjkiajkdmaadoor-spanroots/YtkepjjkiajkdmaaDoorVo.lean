/- The walks of math/bits.OnesCount64 and OnesCount. -/
import Derived.Test.YtkepjjkiajkdmaaDoorUo
import Derived.Test.YtkepjjkiajkdmaaDoorK
namespace Go.Proofs.YtkepjjkiajkdmaaDoor
open Go.RowKit

theorem wrap_u64 (x : Nat) (h : x < 18446744073709551616) : IntKind.u64.wrap (x : Int) = (x : Int) := by
  show (x : Int) % 18446744073709551616 = _
  omega
theorem ofInt_nat (x : Nat) (h : x < 18446744073709551616) : (BitVec.ofInt 64 (x : Int)).toNat = x := by
  rw [BitVec.toNat_ofInt]
  omega
theorem and_u64 (x m : Nat) (hx : x < 18446744073709551616) (hm : m < 18446744073709551616) : bits .and .u64 (x : Int) (m : Int) = ((x &&& m : Nat) : Int) := by
  show IntKind.u64.wrap (((BitVec.ofInt 64 (x : Int)) &&& (BitVec.ofInt 64 (m : Int))).toNat : Int) = _
  rw [BitVec.toNat_and, ofInt_nat x hx, ofInt_nat m hm]
  exact wrap_u64 _ (Nat.lt_of_le_of_lt Nat.and_le_left hx)
theorem wrap_i64 (x : Nat) (h : x < 9223372036854775808) : IntKind.i64.wrap (x : Int) = (x : Int) := by
  rw [IntKind.wrap_i64]
  omega
theorem and_i64 (x m : Nat) (hx : x < 9223372036854775808) (hm : m < 9223372036854775808) : bits .and .i64 (x : Int) (m : Int) = ((x &&& m : Nat) : Int) := by
  have h := @Nat.and_le_left x m
  show IntKind.i64.wrap (((BitVec.ofInt 64 (x : Int)) &&& (BitVec.ofInt 64 (m : Int))).toNat : Int) = _
  rw [BitVec.toNat_and, ofInt_nat x (by omega), ofInt_nat m (by omega)]
  exact wrap_i64 _ (by omega)
set_option maxHeartbeats 1000000 in
set_option maxRecDepth 100000 in
theorem ones64_any (x : Nat) (w : World) (hx : x < 18446744073709551616) :
    Calls Tryd.prog 53 #[.int .u64 (x : Int)] w fun e w' => e = .returned (.int .i64 (Mt.ones x : Int)) ∧ w' = w := by
  obtain ⟨x1, h1⟩ : ∃ y, y = (x / 2 &&& 6148914691236517205) + (x &&& 6148914691236517205) := ⟨_, rfl⟩
  obtain ⟨x2, h2⟩ : ∃ y, y = (x1 / 4 &&& 3689348814741910323) + (x1 &&& 3689348814741910323) := ⟨_, rfl⟩
  obtain ⟨x3, h3⟩ : ∃ y, y = (x2 / 16 + x2) &&& 1085102592571150095 := ⟨_, rfl⟩
  obtain ⟨x4, h4⟩ : ∃ y, y = x3 + x3 / 256 := ⟨_, rfl⟩
  obtain ⟨x5, h5⟩ : ∃ y, y = x4 + x4 / 65536 := ⟨_, rfl⟩
  obtain ⟨x6, h6⟩ : ∃ y, y = x5 + x5 / 4294967296 := ⟨_, rfl⟩
  obtain ⟨q1, q2, q3, q4, q5, q6, q7⟩ := Mt.swar x x1 x2 x3 x4 x5 x6 hx h1 h2 h3 h4 h5 h6
  have f1 : IntKind.u64.wrap (bits .and .u64 ((x : Int) / 2) 6148914691236517205 + bits .and .u64 (x : Int) 6148914691236517205) = (x1 : Int) := by
    have a1 := and_u64 (x / 2) 6148914691236517205 (by omega) (by decide)
    have a2 := and_u64 x 6148914691236517205 hx (by decide)
    rw [show ((x : Int) / 2) = ((x / 2 : Nat) : Int) by omega, show (6148914691236517205 : Int) = ((6148914691236517205 : Nat) : Int) from rfl, a1, a2, ← Int.natCast_add, ← h1]
    exact wrap_u64 _ (by omega)
  have f2 : IntKind.u64.wrap (bits .and .u64 ((x1 : Int) / 4) 3689348814741910323 + bits .and .u64 (x1 : Int) 3689348814741910323) = (x2 : Int) := by
    have a1 := and_u64 (x1 / 4) 3689348814741910323 (by omega) (by decide)
    have a2 := and_u64 x1 3689348814741910323 (by omega) (by decide)
    rw [show ((x1 : Int) / 4) = ((x1 / 4 : Nat) : Int) by omega, show (3689348814741910323 : Int) = ((3689348814741910323 : Nat) : Int) from rfl, a1, a2, ← Int.natCast_add, ← h2]
    exact wrap_u64 _ (by omega)
  have f3 : bits .and .u64 (IntKind.u64.wrap ((x2 : Int) / 16 + (x2 : Int))) 1085102592571150095 = (x3 : Int) := by
    rw [show (x2 : Int) / 16 + (x2 : Int) = ((x2 / 16 + x2 : Nat) : Int) by omega, wrap_u64 _ (by omega), show (1085102592571150095 : Int) = ((1085102592571150095 : Nat) : Int) from rfl, and_u64 _ _ (by omega) (by decide), ← h3]
  have f4 : IntKind.u64.wrap ((x3 : Int) + (x3 : Int) / 256) = (x4 : Int) := by
    rw [show (x3 : Int) + (x3 : Int) / 256 = (x4 : Int) by omega]
    exact wrap_u64 _ (by omega)
  have f5 : IntKind.u64.wrap ((x4 : Int) + (x4 : Int) / 65536) = (x5 : Int) := by
    rw [show (x4 : Int) + (x4 : Int) / 65536 = (x5 : Int) by omega]
    exact wrap_u64 _ (by omega)
  have f6 : IntKind.u64.wrap ((x5 : Int) + (x5 : Int) / 4294967296) = (x6 : Int) := by
    rw [show (x5 : Int) + (x5 : Int) / 4294967296 = (x6 : Int) by omega]
    exact wrap_u64 _ (by omega)
  have f7 : bits .and .i64 (x6 : Int) 127 = (Mt.ones x : Int) := by
    rw [show (127 : Int) = ((127 : Nat) : Int) from rfl, and_i64 _ _ (by omega) (by decide), ← q7]
    have := Nat.and_two_pow_sub_one_eq_mod x6 7
    rw [show 2 ^ 7 - 1 = 127 from rfl, show 2 ^ 7 = 128 from rfl] at this
    rw [this]
  have l6 : (x6 : Int) < 9223372036854775808 := by omega
  have l7 : (0 : Int) ≤ (x6 : Int) := by omega
  have f8 : IntKind.i64.wrap (x6 : Int) = (x6 : Int) := wrap_i64 _ (by omega)
  clear h1 h2 h3 h4 h5 h6 q1 q2 q3 q4 q5 q6 q7
  go_enter Tryd.func53, Tryd.ntmps53
  go_wp2
  go_ret
  refine ⟨?_, rfl⟩
  rfl
set_option maxHeartbeats 1000000 in
set_option maxRecDepth 100000 in
theorem ones_any (x : Nat) (w : World) (hx : x < 18446744073709551616) :
    Calls Tryd.prog 36 #[.int .u64 (x : Int)] w fun e w' => e = .returned (.int .i64 (Mt.ones x : Int)) ∧ w' = w := by
  have OC := keep (ones64_any x w hx)
  clear hx
  go_enter Tryd.func36, Tryd.ntmps36
  go_wp2_with fail
  refine OC.out.mono ?_
  rintro e w1 ⟨rfl, rfl⟩
  go_wp2
  go_ret
  exact ⟨rfl, rfl⟩
end Go.Proofs.YtkepjjkiajkdmaaDoor
