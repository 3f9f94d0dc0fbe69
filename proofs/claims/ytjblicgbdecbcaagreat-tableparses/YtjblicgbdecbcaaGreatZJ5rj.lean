/- The walk of the document's Crc. -/
/- The walks of block's putSum, and of the document's Summed. -/
import Derived.Test.YtjblicgbdecbcaaGreatZCrj
import Derived.Test.YtjblicgbdecbcaaGreatZJ6j
namespace Go.Proofs.YtjblicgbdecbcaaGreat
open Go.RowKit
attribute [local go_sem] U_xor U_xorb half U_not

theorem xor_poly (z : UInt32) : bits .xor .u32 (U (z >>> 1)) 3988292384 = U ((z >>> 1) ^^^ 0xEDB88320) := by
  have e : U 0xEDB88320 = 3988292384 := by unfold U; rfl
  rw [← e, U_xor]

theorem half_t (z : UInt32) : (U z).tdiv (2 : Int) % (4294967296 : Int) = U (z >>> 1) := by
  rw [Int.tdiv_eq_ediv_of_nonneg (U_lo z), ← half]
  have h1 := U_lo z
  have h2 := U_hi z
  omega

set_option maxHeartbeats 1000000 in
set_option maxRecDepth 100000 in
theorem rcrc_any (ao : Option Addr) (m c : Nat) (l : List UInt8) (w : World) (hm : m ≤ 140737488355328) (hs : Src w ao m c l) :
    Calls Tryz.prog 67 #[.slice ao m c] w fun e w' => e = .returned (.int .u32 (U (crc l))) ∧ Below w.heap.size w w' := by
  have hll := hs.len
  have HS := keep hs
  clear hs
  go_enter Tryz.func67, Tryz.ntmps67
  go_wp2
  go_loopw [3, 4] (fun x i wr => ∃ k : Nat, k ≤ m ∧ i = .int .i64 (k : Int) ∧ x = .int .u32 (U (crcW 0xFFFFFFFF (l.take k))) ∧ Hid (Below w.heap.size w wr)) (fun _ i _ => m - (intOf i).toNat)
  case atStart => exact ⟨0, Nat.zero_le _, rfl, rfl, Below.refl _ _⟩
  case round =>
    obtain ⟨k, hk, rfl, rfl, hb⟩ := hrel
    by_cases hlt : k < m
    · obtain ⟨b, off, rfl, hbw, hby⟩ := HS.out.form (by omega)
      have hcell : wr.cell? ⟨b, off + k, none⟩ = some (.int .u8 ((fn l k).toNat : Int)) := by
        rw [hb.out.cell (p := ⟨b, off + k, none⟩) hbw]; exact hby k hlt
      have h0 : (0 : Int) ≤ (k : Int) := by omega
      have h1 : (k : Int) < (m : Int) := by omega
      have hnext : Hid (crcW 0xFFFFFFFF (l.take (k + 1)) = byteStep (crcW 0xFFFFFFFF (l.take k)) (fn l k)) := crcW_snoc _ l k (by omega)
      clear hby
      obtain ⟨x, hx⟩ : ∃ x, crcW 0xFFFFFFFF (l.take k) = x := ⟨_, rfl⟩
      obtain ⟨y, hy⟩ : ∃ y, fn l k = y := ⟨_, rfl⟩
      rw [hx] at hnext ⊢
      rw [hy] at hnext hcell
      clear hx hy
      go_wp2
      go_loopw [3, 5] (fun z i wq => ∃ j : Nat, j ≤ 8 ∧ i = .int .i64 (j : Int) ∧ z = .int .u32 (U (steps j (x ^^^ y.toUInt32))) ∧ Hid (Below w.heap.size w wq)) (fun _ i _ => 8 - (intOf i).toNat)
      case atStart => exact ⟨0, by omega, rfl, by first | rfl | (rw [U_xorc]; rfl), hb⟩
      case round =>
        clear hb hcell
        obtain ⟨j, hj, rfl, rfl, hb⟩ := hrel
        by_cases hj8 : j < 8
        · have hst : Hid (steps (j + 1) (x ^^^ y.toUInt32) = step (steps j (x ^^^ y.toUInt32))) := rfl
          obtain ⟨z, hz⟩ : ∃ z, steps j (x ^^^ y.toUInt32) = z := ⟨_, rfl⟩
          rw [hz] at hst ⊢
          clear hz
          have hrem := rem2 z
          have hzl := U_lo z
          have HXP := keep (xor_poly z)
          by_cases h2 : z % 2 = 1
          · rw [h2, show U 1 = 1 from rfl] at hrem
            have H2 := keep h2
            clear h2
            have h2 := H2.out
            clear h2
            go_wp2
            go_roundw
            case rel => exact ⟨j + 1, by omega, by go_num, by rw [hst.out]; unfold step; rw [if_pos H2.out]; rw [half_t, HXP.out], hb⟩
            case measure => simp [intOf]; omega
          · have hu : ¬ ((U z).tmod (2 : Int) = 1) := fun e => h2 (U_inj.1 ((hrem.symm.trans e).trans (show (1 : Int) = U 1 from rfl)))
            have hu2 : ¬ (U z % (2 : Int) = 1) := fun e => hu (by rw [Int.tmod_eq_emod_of_nonneg hzl]; exact e)
            clear hrem
            have H2 := keep h2
            clear h2
            go_wp2
            go_roundw
            case rel => exact ⟨j + 1, by omega, by go_num, by rw [hst.out]; unfold step; rw [if_neg H2.out, UInt32.xor_zero, half_t], hb⟩
            case measure => simp [intOf]; omega
        · obtain rfl : j = 8 := by omega
          go_wp2
          go_roundw
          case rel => exact ⟨k + 1, by omega, by go_num, by rw [hnext.out]; rfl, hb⟩
          case measure => simp [intOf]; omega
    · obtain rfl : k = m := by omega
      rw [List.take_of_length_le (by omega)]
      go_wp2
      go_ret
      exact ⟨rfl, hb.out⟩
end Go.Proofs.YtjblicgbdecbcaaGreat
namespace Go.Proofs.YtjblicgbdecbcaaGreat
open Go.RowKit
open Sk (Ent)

set_option maxHeartbeats 2000000 in
set_option maxRecDepth 100000 in
theorem rsummed_any (ao : Option Addr) (m c : Nat) (l : List UInt8) (w : World) (hm : m ≤ 1000000) (hs : Src w ao m c l) :
    Calls Tryz.prog 36 #[.slice ao m c] w fun e w' => ∃ v, e = .returned v ∧ New w w' v (m + 4) (summed l) := by
  obtain ⟨i0, hi, hz0, hz1, hz2⟩ := info_parts info5
  have HS := keep hs
  have KC := keep (rcrc_any ao m c l w (by omega) hs)
  obtain ⟨X, hX⟩ : ∃ X, crc l = X := ⟨_, rfl⟩
  have HX := keep hX
  rw [hX] at KC
  clear hX hs
  have hXl := X.toNat_lt
  obtain ⟨y0, hy0⟩ : ∃ y, UInt8.ofNat (X.toNat / 16777216) = y := ⟨_, rfl⟩
  obtain ⟨y1, hy1⟩ : ∃ y, UInt8.ofNat (X.toNat / 65536) = y := ⟨_, rfl⟩
  obtain ⟨y2, hy2⟩ : ∃ y, UInt8.ofNat (X.toNat / 256) = y := ⟨_, rfl⟩
  obtain ⟨y3, hy3⟩ : ∃ y, UInt8.ofNat X.toNat = y := ⟨_, rfl⟩
  have g0 : Hid (X.toNat / 16777216 % 256 = y0.toNat) := by rw [← hy0, UInt8.toNat_ofNat']; exact rfl
  have g1 : Hid (X.toNat / 65536 % 256 = y1.toNat) := by rw [← hy1, UInt8.toNat_ofNat']; exact rfl
  have g2 : Hid (X.toNat / 256 % 256 = y2.toNat) := by rw [← hy2, UInt8.toNat_ofNat']; exact rfl
  have g3 : Hid (X.toNat % 256 = y3.toNat) := by rw [← hy3, UInt8.toNat_ofNat']; exact rfl
  have HB := keep (be4 X)
  rw [hy0, hy1, hy2, hy3] at HB
  have HXL := keep hXl
  clear hy0 hy1 hy2 hy3 hXl
  go_enter Tryz.func36, Tryz.ntmps36
  go_wp2_with fail
  refine KC.out.mono ?_
  rintro e w5 ⟨rfl, hb5⟩
  have b5 := keep hb5
  clear hb5
  go_wp2_with (first
    | (at_builtin; refine wpList_append_src rfl _ _ 24 rfl w.heap.size i0 _ Tryz.underlying24 hi hz0 hz1 hz2 rfl _ m l rfl (by exact O6.out.alloc _) _ 4 4 [y0, y1, y2, y3] rfl (Src.built4 _ _ _ _ _ _ _ _ _ (by have h1 := g0.out; have h2 := HXL.out; unfold U; omega) (by have h1 := g1.out; have h2 := HXL.out; unfold U; omega) (by have h1 := g2.out; have h2 := HXL.out; unfold U; omega) (by have h1 := g3.out; have h2 := HXL.out; unfold U; omega)) (by omega) (le_alloc b6.out.size _) ?_; intro v7 w7 ho7 hg7; have O7 := keep ho7; have b7 := keep ((b6.out.alloc b6.out.size _).grown hg7 (le_alloc b6.out.size _) (fun j hj => (O6.out.lt j hj).1)); clear ho7 hg7)
    | (at_builtin; refine wpList_append_src rfl _ _ 24 rfl w.heap.size i0 _ Tryz.underlying24 hi hz0 hz1 hz2 rfl _ 0 [] rfl (own_emptyS (t := 5) (k := 1) b5.out.size) _ m c l rfl (HS.out.below (b5.out.alloc b5.out.size _)) (by omega) (le_alloc b5.out.size _) ?_; intro v6 w6 ho6 hg6; have O6 := keep ho6; simp only [Nat.zero_add, List.nil_append] at O6; have b6 := keep ((b5.out.alloc b5.out.size _).grown hg6 (le_alloc b5.out.size _) (fun j hj => by cases hj; exact b5.out.size)); clear ho6 hg6))
  go_ret
  refine ⟨_, rfl, ?_, b7.out⟩
  unfold summed
  rw [HX.out, HB.out]
  exact O7.out
end Go.Proofs.YtjblicgbdecbcaaGreat
