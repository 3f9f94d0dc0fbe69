/- Words of 32 bits as the walk spells them; no walk. -/
/- The walks of code.crcGoOn, code.crcOf, code.Crc. -/
/- The walks of code.crcOf, code.Crc. -/
import Derived.Test.YtjblicgbdecbcaaGreatZF
namespace Go.Proofs.YtjblicgbdecbcaaGreat
open Go.RowKit

def U (x : UInt32) : Int := (x.toNat : Int)
theorem U_lo (x : UInt32) : 0 ≤ U x := Int.natCast_nonneg _
theorem U_hi (x : UInt32) : U x < 4294967296 := by have := x.toNat_lt; unfold U; omega
theorem U_xor (x y : UInt32) : bits .xor .u32 (U x) (U y) = U (x ^^^ y) := by
  unfold U
  rw [u32_xor_nat _ _ x.toNat_lt y.toNat_lt, UInt32.toNat_xor]
theorem U_xorb (x : UInt32) (b : UInt8) : bits .xor .u32 (U x) (b.toNat : Int) = U (x ^^^ b.toUInt32) := by
  rw [← U_xor]
  unfold U
  simp
theorem U_xorc (x : UInt32) (b : UInt8) : bits .xor .u32 (U x) ((b.toNat : Int) % 4294967296) = U (x ^^^ b.toUInt32) := by
  rw [← U_xorb]
  congr 1
  have := b.toNat_lt
  omega
theorem U_inj {x y : UInt32} : U x = U y ↔ x = y := by
  unfold U
  constructor
  · intro h; exact UInt32.toNat_inj.1 (by omega)
  · rintro rfl; rfl
theorem low_bit (x : UInt32) : bits .and .u32 (U x) 1 = U (x % 2) := by
  have h := u32_and_nat x.toNat 1 x.toNat_lt (by omega)
  rw [nat_mask1] at h
  unfold U
  refine Eq.trans h ?_
  rw [UInt32.toNat_mod]
  rfl
theorem half (x : UInt32) : U x / (2 : Int) = U (x >>> 1) := by
  unfold U
  rw [shr1_toNat]
  omega
theorem low_poly (x : UInt32) : IntKind.u32.wrap (3988292384 * U (x % 2)) = U (if x % 2 = 1 then 0xEDB88320 else 0) := by
  have h2 : (x % 2).toNat = x.toNat % 2 := by rw [UInt32.toNat_mod]; rfl
  rw [IntKind.wrap_u32']
  unfold U
  by_cases h : x % 2 = 1
  · rw [if_pos h, h]; rfl
  · rw [if_neg h]
    have : (x % 2).toNat = 0 := by
      rcases Nat.mod_two_eq_zero_or_one x.toNat with h0 | h0
      · omega
      · exact absurd (UInt32.toNat_inj.1 (by rw [h2, h0]; rfl)) h
    rw [this]; rfl
theorem step_walk (x : UInt32) : bits .xor .u32 (U (x >>> 1)) (U (if x % 2 = 1 then 0xEDB88320 else 0)) = U (step x) := U_xor _ _
theorem U_not (x : UInt32) : bits .xor .u32 (if IntKind.u32.signed = true then -1 else IntKind.u32.max) (U x) = U (~~~x) := by
  have e : (if IntKind.u32.signed = true then -1 else IntKind.u32.max) = U 4294967295 := rfl
  rw [e, U_xor]
  have h : (4294967295 : UInt32) ^^^ x = ~~~x := by
    apply UInt32.toBitVec_inj.1
    simp
    exact BitVec.allOnes_xor
  rw [h]
theorem rem2 (x : UInt32) : (U x).tmod 2 = U (x % 2) := by
  rw [Int.tmod_eq_emod_of_nonneg (U_lo x)]
  unfold U
  rw [UInt32.toNat_mod]
  rfl
theorem one_bit (x : UInt32) : (U (x % 2) == 1) = decide (x % 2 = 1) := by
  have h : (U (x % 2) = 1) ↔ (x % 2 = 1) := by
    have e : (1 : Int) = U 1 := rfl
    rw [e, U_inj]
  by_cases hx : x % 2 = 1
  · rw [hx]; rfl
  · rw [decide_eq_false hx, beq_eq_false_iff_ne]
    exact fun h' => hx (h.1 h')
def steps : Nat → UInt32 → UInt32
  | 0, x => x
  | n + 1, x => step (steps n x)
theorem steps8 (x : UInt32) : steps 8 x = step8 x := rfl
theorem crcW_snoc (W : UInt32) (l : List UInt8) (k : Nat) (h : k < l.length) : crcW W (l.take (k + 1)) = byteStep (crcW W (l.take k)) (fn l k) := by
  rw [List.take_succ_eq_append_getElem h, crcW_append]
  have e : fn l k = l[k] := by simp [fn, List.getD, h]
  rw [e]; rfl
end Go.Proofs.YtjblicgbdecbcaaGreat
namespace Go.Proofs.YtjblicgbdecbcaaGreat
open Go.RowKit
attribute [local go_sem] U_xor U_xorb low_bit half low_poly U_not

set_option maxHeartbeats 1000000 in
set_option maxRecDepth 100000 in
theorem crcGoOn_any (W : UInt32) (ao : Option Addr) (m c : Nat) (l : List UInt8) (w : World) (hm : m ≤ 140737488355328) (hs : Src w ao m c l) :
    Calls Tryz.prog 93 #[.int .u32 (U W), .slice ao m c] w fun e w' => e = .returned (.int .u32 (U (crcW W l))) ∧ Below w.heap.size w w' := by
  have hll := hs.len
  have HS := keep hs
  clear hs
  go_enter Tryz.func93, Tryz.ntmps93
  go_wp2
  go_loopw [0, 10] (fun x i wr => ∃ k : Nat, k ≤ m ∧ i = .int .i64 (k : Int) ∧ x = .int .u32 (U (crcW W (l.take k))) ∧ Hid (Below w.heap.size w wr)) (fun _ i _ => m - (intOf i).toNat)
  case atStart => exact ⟨0, Nat.zero_le _, rfl, rfl, Below.refl _ _⟩
  case round =>
    obtain ⟨k, hk, rfl, rfl, hb⟩ := hrel
    by_cases hlt : k < m
    · obtain ⟨b, off, rfl, hbw, hby⟩ := HS.out.form (by omega)
      have hcell : wr.cell? ⟨b, off + k, none⟩ = some (.int .u8 ((fn l k).toNat : Int)) := by
        rw [hb.out.cell (p := ⟨b, off + k, none⟩) hbw]; exact hby k hlt
      have h0 : (0 : Int) ≤ (k : Int) := by omega
      have h1 : (k : Int) < (m : Int) := by omega
      have hnext : Hid (crcW W (l.take (k + 1)) = byteStep (crcW W (l.take k)) (fn l k)) := crcW_snoc W l k (by omega)
      clear hby
      obtain ⟨x, hx⟩ : ∃ x, crcW W (l.take k) = x := ⟨_, rfl⟩
      obtain ⟨y, hy⟩ : ∃ y, fn l k = y := ⟨_, rfl⟩
      rw [hx] at hnext ⊢
      rw [hy] at hnext hcell
      clear hx hy
      go_wp2
      go_loopw [0, 18] (fun z i wq => ∃ j : Nat, j ≤ 8 ∧ i = .int .i64 (j : Int) ∧ z = .int .u32 (U (steps j (x ^^^ y.toUInt32))) ∧ Hid (Below w.heap.size w wq)) (fun _ i _ => 8 - (intOf i).toNat)
      case atStart => exact ⟨0, by omega, rfl, by rw [U_xorc]; rfl, hb⟩
      case round =>
        clear hb hcell
        obtain ⟨j, hj, rfl, rfl, hb⟩ := hrel
        by_cases hj8 : j < 8
        · have hst : Hid (steps (j + 1) (x ^^^ y.toUInt32) = step (steps j (x ^^^ y.toUInt32))) := rfl
          obtain ⟨z, hz⟩ : ∃ z, steps j (x ^^^ y.toUInt32) = z := ⟨_, rfl⟩
          rw [hz] at hst ⊢
          clear hz
          go_wp2
          go_roundw
          case rel => exact ⟨j + 1, by omega, by go_num, by rw [hst.out]; rfl, hb⟩
          case measure => simp [intOf]; omega
        · obtain rfl : j = 8 := by omega
          go_wp2
          go_roundw
          case rel => exact ⟨k + 1, by omega, by go_num, by rw [hnext.out]; rfl, hb⟩
          case measure => simp [intOf]; omega
    · obtain rfl : k = m := by omega
      rw [List.take_of_length_le (by omega)]
      go_wp2
      go_ret
      exact ⟨rfl, hb.out⟩
end Go.Proofs.YtjblicgbdecbcaaGreat
namespace Go.Proofs.YtjblicgbdecbcaaGreat
open Go.RowKit
attribute [local go_sem] U_xor U_xorb low_bit half low_poly U_not

set_option maxHeartbeats 1000000 in
set_option maxRecDepth 100000 in
theorem crcOf_any (ao : Option Addr) (m c : Nat) (l : List UInt8) (ao2 : Option Addr) (m2 c2 : Nat) (l2 : List UInt8) (w : World) (hm : m ≤ 140737488355328) (hm2 : m2 ≤ 140737488355328) (hs : Src w ao m c l) (hs2 : Src w ao2 m2 c2 l2) :
    Calls Tryz.prog 83 #[.slice ao m c, .slice ao2 m2 c2] w fun e w' => e = .returned (.int .u32 (U (crc (l ++ l2)))) ∧ Below w.heap.size w w' := by
  have HS := keep hs
  have HS2 := keep hs2
  clear hs hs2
  have hcr : Hid (crc (l ++ l2) = ~~~ crcW (crcW 0xFFFFFFFF l) l2) := by show _ = _; unfold crc; rw [crcW_append]
  go_enter Tryz.func83, Tryz.ntmps83
  go_wp2_with fail
  refine (crcGoOn_any 0xFFFFFFFF ao m c l _ hm HS.out).mono ?_
  rintro e w1 ⟨rfl, hb1⟩
  have HB := keep hb1
  clear hb1
  go_wp2_with fail
  refine (crcGoOn_any _ ao2 m2 c2 l2 _ hm2 (HS2.out.below HB.out)).mono ?_
  rintro e w2 ⟨rfl, hb2⟩
  have HB2 := keep (HB.out.trans (hb2.mono HB.out.size))
  clear hb2
  go_wp2
  go_ret
  refine ⟨?_, HB2.out⟩
  rw [hcr.out]
  rfl

set_option maxHeartbeats 1000000 in
set_option maxRecDepth 100000 in
theorem crc_any (ao : Option Addr) (m c : Nat) (l : List UInt8) (w : World) (hm : m ≤ 140737488355328) (hs : Src w ao m c l) :
    Calls Tryz.prog 63 #[.slice ao m c] w fun e w' => e = .returned (.int .u32 (U (crc l))) ∧ Below w.heap.size w w' := by
  have HS := keep hs
  clear hs
  go_enter Tryz.func63, Tryz.ntmps63
  go_wp2_with fail
  refine (crcOf_any ao m c l none 0 0 [] _ hm (by omega) HS.out (Src.empty (fun _ => rfl))).mono ?_
  rintro e w1 ⟨rfl, hb1⟩
  rw [List.append_nil]
  have HB := keep hb1
  clear hb1
  go_wp2
  go_ret
  exact ⟨rfl, HB.out⟩
end Go.Proofs.YtjblicgbdecbcaaGreat
