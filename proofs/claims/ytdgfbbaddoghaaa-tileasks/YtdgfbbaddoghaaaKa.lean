/- The walk of the document's Cut. -/
import Derived.Test.YtdgfbbaddoghaaaKz
namespace Go.Proofs.Ytdgfbbaddoghaaa
open Go.RowKit

set_option maxHeartbeats 1000000 in
set_option maxRecDepth 100000 in
theorem rcut_any (n : Nat) (w : World) (h2 : 2 ≤ n) (hb : n ≤ 4611686018427387904) :
    Calls Try.prog 30 #[.int .i64 (n : Int)] w fun e w' => e = .returned (.int .i64 (Mt.cut n : Int)) ∧ Below w.heap.size w w' := by
  go_enter Try.func30, Try.ntmps30
  go_wp2
  go_loopw [3] (fun i wr => ∃ k : Nat, i = .int .i64 (k : Int) ∧ Hid (∃ j, k = 2 ^ j) ∧ 1 ≤ k ∧ k < n ∧ Hid (Below w.heap.size w wr)) (fun i _ => n - (intOf i).toNat)
  case atStart => exact ⟨1, rfl, ⟨0, rfl⟩, by omega, by omega, Below.refl _ _⟩
  case round =>
    obtain ⟨k, rfl, hj, hk1, hkn, hB⟩ := hrel
    by_cases hc : 2 * k < n
    · have cc : 2 * (k : Int) < (n : Int) := by omega
      go_wp2
      go_roundw
      case rel =>
        obtain ⟨j, rfl⟩ := hj.out
        exact ⟨2 * 2 ^ j, by go_num, ⟨j + 1, by rw [Nat.pow_succ]; omega⟩, by omega, by omega, hB.out⟩
      case measure => simp [intOf]; omega
    · have cc : ¬ 2 * (k : Int) < (n : Int) := by omega
      go_wp2
      go_ret
      obtain ⟨j, hj2⟩ := hj.out
      have e := Mt.cut_is hj2 hkn (by omega)
      rw [e]
      exact ⟨rfl, hB.out⟩
end Go.Proofs.Ytdgfbbaddoghaaa
