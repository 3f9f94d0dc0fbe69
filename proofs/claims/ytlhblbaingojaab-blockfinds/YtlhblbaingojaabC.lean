/- The walks of code.crcGoOn, code.crcOf, code.Crc. -/
import Derived.Test.YtlhblbaingojaabU
namespace Go.Proofs.Ytlhblbaingojaab
open Go.RowKit
attribute [local go_sem] U_xor U_xorb low_bit half low_poly U_not

set_option maxHeartbeats 1000000 in
set_option maxRecDepth 100000 in
theorem crcGoOn_any (W : UInt32) (ao : Option Addr) (m c : Nat) (l : List UInt8) (w : World) (hm : m ≤ 140737488355328) (hs : Src w ao m c l) :
    Calls Try.prog 58 #[.int .u32 (U W), .slice ao m c] w fun e w' => e = .returned (.int .u32 (U (crcW W l))) ∧ Below w.heap.size w w' := by
  have hll := hs.len
  have HS := keep hs
  clear hs
  go_enter Try.func58, Try.ntmps58
  go_wp2
  go_loopw [0, 10] (fun x i wr => ∃ k : Nat, k ≤ m ∧ i = .int .i64 (k : Int) ∧ x = .int .u32 (U (crcW W (l.take k))) ∧ Hid (Below w.heap.size w wr)) (fun _ i _ => m - (intOf i).toNat)
  case atStart => exact ⟨0, Nat.zero_le _, rfl, rfl, Below.refl _ _⟩
  case round =>
    obtain ⟨k, hk, rfl, rfl, hb⟩ := hrel
    by_cases hlt : k < m
    · obtain ⟨b, off, rfl, hbw, hby⟩ := HS.out.form (by omega)
      have hcell : wr.cell? ⟨b, off + k, none⟩ = some (.int .u8 ((fn l k).toNat : Int)) := by
        rw [hb.out.cell (p := ⟨b, off + k, none⟩) hbw]; exact hby k hlt
      have h0 : (0 : Int) ≤ (k : Int) := by omega
      have h1 : (k : Int) < (m : Int) := by omega
      have hnext : Hid (crcW W (l.take (k + 1)) = byteStep (crcW W (l.take k)) (fn l k)) := crcW_snoc W l k (by omega)
      clear hby
      obtain ⟨x, hx⟩ : ∃ x, crcW W (l.take k) = x := ⟨_, rfl⟩
      obtain ⟨y, hy⟩ : ∃ y, fn l k = y := ⟨_, rfl⟩
      rw [hx] at hnext ⊢
      rw [hy] at hnext hcell
      clear hx hy
      go_wp2
      go_loopw [0, 18] (fun z i wq => ∃ j : Nat, j ≤ 8 ∧ i = .int .i64 (j : Int) ∧ z = .int .u32 (U (steps j (x ^^^ y.toUInt32))) ∧ Hid (Below w.heap.size w wq)) (fun _ i _ => 8 - (intOf i).toNat)
      case atStart => exact ⟨0, by omega, rfl, by rw [U_xorc]; rfl, hb⟩
      case round =>
        clear hb hcell
        obtain ⟨j, hj, rfl, rfl, hb⟩ := hrel
        by_cases hj8 : j < 8
        · have hst : Hid (steps (j + 1) (x ^^^ y.toUInt32) = step (steps j (x ^^^ y.toUInt32))) := rfl
          obtain ⟨z, hz⟩ : ∃ z, steps j (x ^^^ y.toUInt32) = z := ⟨_, rfl⟩
          rw [hz] at hst ⊢
          clear hz
          go_wp2
          go_roundw
          case rel => exact ⟨j + 1, by omega, by go_num, by rw [hst.out]; rfl, hb⟩
          case measure => simp [intOf]; omega
        · obtain rfl : j = 8 := by omega
          go_wp2
          go_roundw
          case rel => exact ⟨k + 1, by omega, by go_num, by rw [hnext.out]; rfl, hb⟩
          case measure => simp [intOf]; omega
    · obtain rfl : k = m := by omega
      rw [List.take_of_length_le (by omega)]
      go_wp2
      go_ret
      exact ⟨rfl, hb.out⟩
end Go.Proofs.Ytlhblbaingojaab
