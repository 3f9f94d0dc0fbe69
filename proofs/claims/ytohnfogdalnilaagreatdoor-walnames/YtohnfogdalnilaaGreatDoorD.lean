/- The walk of code.readHighFirst. -/
import Derived.Test.YtohnfogdalnilaaGreatDoorLb
import Derived.Test.YtohnfogdalnilaaGreatDoorCl
import Derived.Lib.LazyBuf
namespace Go.Proofs.YtohnfogdalnilaaGreatDoor
open Go.RowKit

theorem big_take (l : List UInt8) (k : Nat) (h : k < l.length) : big (l.take (k + 1)) = big (l.take k) * 256 + (fn l k).toNat := by
  rw [List.take_succ_eq_append_getElem h, big_snoc]
  have e : fn l k = l[k] := by simp [fn, List.getD, h]
  rw [e]
theorem or_low (a b : Nat) (ha : a < 72057594037927936) (hb : b < 256) : bits .or .u64 ((a : Int) * 256) (IntKind.u64.wrap (b : Int)) = ((a * 256 + b : Nat) : Int) := by
  have e1 : IntKind.u64.wrap (b : Int) = (b : Int) := by rw [IntKind.wrap_u64]; omega
  have e2 : (a : Int) * 256 = ((a * 256 : Nat) : Int) := by omega
  rw [e1, e2, u64_or_nat _ _ (by omega) (by omega)]
  congr 1
  have := Nat.two_pow_add_eq_or_of_lt (i := 8) hb a
  rw [Nat.mul_comm] at this
  exact this.symm

set_option maxHeartbeats 1000000 in
set_option maxRecDepth 100000 in
theorem readHigh_any (ao : Option Addr) (m c : Nat) (l : List UInt8) (w : World) (hm : m ≤ 8) (hs : Src w ao m c l) :
    Calls Tryz.prog 88 #[.slice ao m c] w fun e w' => e = .returned (.int .u64 ((big l : Nat) : Int)) ∧ Below w.heap.size w w' := by
  have hll := hs.len
  have HS := keep hs
  clear hs
  go_enter Tryz.func88, Tryz.ntmps88
  go_wp2
  go_loopw [3, 8] (fun x i wr => ∃ k : Nat, k ≤ m ∧ i = .int .i64 (k : Int) ∧ x = .int .u64 ((big (l.take k) : Nat) : Int) ∧ Hid (Below w.heap.size w wr)) (fun _ i _ => m - (intOf i).toNat)
  case atStart => exact ⟨0, Nat.zero_le _, rfl, rfl, Below.refl _ _⟩
  case round =>
    obtain ⟨k, hk, rfl, rfl, hb⟩ := hrel
    by_cases hlt : k < m
    · obtain ⟨b, off, rfl, hbw, hby⟩ := HS.out.form (by omega)
      have hcell : wr.cell? ⟨b, off + k, none⟩ = some (.int .u8 ((fn l k).toNat : Int)) := by
        rw [hb.out.cell (p := ⟨b, off + k, none⟩) hbw]; exact hby k hlt
      have h0 : (0 : Int) ≤ (k : Int) := by omega
      have h1 : (k : Int) < (m : Int) := by omega
      clear hby
      have hq : big (l.take k) < 72057594037927936 := by
        have h2 := big_lt (l.take k)
        have h3 : (l.take k).length ≤ 7 := by simp; omega
        have h4 : 256 ^ (l.take k).length ≤ 256 ^ 7 := Nat.pow_le_pow_right (by decide) h3
        have e : (256 : Nat) ^ 7 = 72057594037927936 := rfl
        omega
      have hnext : Hid (big (l.take (k + 1)) = big (l.take k) * 256 + (fn l k).toNat) := big_take l k (by omega)
      have hor := or_low (big (l.take k)) (fn l k).toNat hq (fn l k).toNat_lt
      obtain ⟨q, hq2⟩ : ∃ q, big (l.take k) = q := ⟨_, rfl⟩
      obtain ⟨y, hy⟩ : ∃ y, fn l k = y := ⟨_, rfl⟩
      rw [hq2] at hq hnext hor ⊢
      rw [hy] at hnext hor hcell
      clear hq2 hy
      have hor' := keep hor
      clear hor
      go_wp2
      go_roundw
      case rel => exact ⟨k + 1, by omega, by go_num, by rw [hnext.out, hor'.out], hb⟩
      case measure => simp [intOf]; omega
    · obtain rfl : k = m := by omega
      rw [List.take_of_length_le (by omega)]
      go_wp2
      go_ret
      exact ⟨rfl, hb.out⟩

end Go.Proofs.YtohnfogdalnilaaGreatDoor
