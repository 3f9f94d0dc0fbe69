/- The walks of the program's roof, nodes, New, Cover. -/
import Derived.Test.YtdgfbbaddoghaaaDoorTk
import Derived.Test.YtdgfbbaddoghaaaDoorPq
import Derived.Lib.BitFns
namespace Go.Proofs.YtdgfbbaddoghaaaDoor
open Go.RowKit
open Mt (Pos)

theorem infoP : (Tryd.prog.info? 41).map (fun i => (i.zero, i.size, i.bytes)) = some (some (.agg #[.int .i64 0, .int .i64 0]), 2, 16) := by kernel_rfl
theorem bitLen_log2 : ∀ (x : Nat), x ≠ 0 → x < 2 ^ 64 → Lib.bitLen x = Nat.log2 x + 1 := by
  intro x
  induction x using Nat.strongRecOn with
  | _ x ih =>
    intro h0 hx
    rw [Lib.bitLen_half x h0 hx]
    by_cases h1 : x = 1
    · subst h1
      decide +kernel
    · have h2 := ih (x / 2) (by omega) (by omega) (by omega)
      rw [h2]
      conv => rhs; rw [Nat.log2_def, if_pos (by omega)]
      omega
theorem bitLen_lv {n : Nat} (h1 : 1 ≤ n) (hn : n ≤ 1099511627776) : Lib.bitLen (n - 1) = Mt.lv n := by
  by_cases h : n = 1
  · subst h
    rw [Mt.lv_one (Nat.le_refl _)]
    decide +kernel
  · rw [bitLen_log2 (n - 1) (by omega) (by have : (1099511627776 : Nat) < 2 ^ 64 := by decide
                                           omega)]
    unfold Mt.lv
    rw [if_neg (by omega)]
theorem bitLen_hb {n : Nat} (h1 : 1 ≤ n) (hn : n ≤ 1099511627776) : Lib.bitLen n = Nat.log2 n + 1 :=
  bitLen_log2 n (by omega) (by have : (1099511627776 : Nat) < 2 ^ 64 := by decide
                               omega)
set_option maxHeartbeats 1000000 in
set_option maxRecDepth 100000 in
theorem roof_any (n : Nat) (w : World) (h1 : 1 ≤ n) (hn : n ≤ 1099511627776) :
    Calls Tryd.prog 32 #[.int .i64 (n : Int)] w fun e w' => e = .returned (.int .i64 (Mt.rf n : Int)) ∧ w' = w := by
  have e1 : (n : Int) - 1 = ((n - 1 : Nat) : Int) := by omega
  have LN := keep (sh_bits_Len ((n - 1 : Nat) : Int) w (by omega) (by omega))
  rw [Int.toNat_natCast, bitLen_lv h1 hn] at LN
  have WP := keep (wrap_pow (k := Mt.lv n) (by have := lv_40 hn; omega))
  have hk := lv_40 hn
  have hrf : Mt.rf n = 2 ^ Mt.lv n := rfl
  rw [hrf]
  obtain ⟨k, hkk⟩ : ∃ k, Mt.lv n = k := ⟨_, rfl⟩
  rw [hkk] at LN WP hk ⊢
  obtain ⟨x, hx⟩ : ∃ x, n - 1 = x := ⟨_, rfl⟩
  rw [hx] at e1 LN
  have x0 : (0 : Int) ≤ (x : Int) := by omega
  have x1 : (x : Int) < 9223372036854775808 := by omega
  have k0 : (0 : Int) ≤ (k : Int) := by omega
  clear hrf hkk hx
  go_enter Tryd.func32, Tryd.ntmps32
  go_wp2_with fail
  refine LN.out.mono ?_
  rintro e w1 ⟨rfl, rfl⟩
  go_wp2
  go_ret
  refine ⟨?_, rfl⟩
  show Ending.returned (.int .i64 (wrap64 ((2 : Int) ^ k))) = _
  rw [WP.out]
end Go.Proofs.YtdgfbbaddoghaaaDoor
