/- The walk of the statement that a number takes a byte for each seven bits. -/
import Derived.Test.YticglckbjdchjabP
namespace Go.Proofs.Yticglckbjdchjab
open Go.RowKit

set_option maxHeartbeats 1000000 in
set_option maxRecDepth 100000 in
theorem long_walk (n : Int) (w : World) (hn : -9223372036854775808 ≤ n ∧ n < 9223372036854775808) :
    Calls Try.prog 5 #[.int .i64 n] w fun e w' => e = .returned (.bool true) ∧ Below w.heap.size w w' := by
  have h9 := num9 n
  have hn2 := hn.2
  go_enter Try.func5, Try.ntmps5
  go_wp2
  all_goals
    go_loopw [3, 4] (fun k x wr => ∃ K X : Nat, X ≤ 4611686018427387903 ∧ K ≤ 9 ∧ k = .int .i64 (K : Int) ∧ x = .int .i64 (X : Int) ∧ Hid ((num (cl n)).length = K + (if X = 0 then 0 else (num X).length)) ∧ Hid (Below w.heap.size w wr)) (fun _ x _ => (intOf x).toNat)
    case atStart =>
      refine ⟨1, cl n / 128, by have := cl_le n; omega, by omega, rfl, by unfold cl; congr 1; omega, ?_, Below.refl _ _⟩
      show _ = _
      by_cases h : cl n < 128
      · rw [len_small h, if_pos (by omega)]
      · rw [len_great (by omega), if_neg (by omega)]; omega
    case round =>
      obtain ⟨K, X, hX, hK, rfl, rfl, hl, hb⟩ := hrel
      by_cases hx : X = 0
      · subst hx
        have hl2 : (num (cl n)).length = K := by have := hl.out; simpa using this
        go_wp2_with fail
        refine (putNum_nil n _).mono ?_
        rintro e w1 ⟨a1, c1, rfl, hn1⟩
        have hb1 := keep (hb.out.trans (hn1.2.mono hb.out.size))
        clear hn1 hb
        rw [hl2]
        go_wp2_with fail
        refine (putFix_nil n _ hn2).mono ?_
        rintro e w2 ⟨a2, c2, rfl, hn3⟩
        have hb2 := keep (hb1.out.trans (hn3.2.mono hb1.out.size))
        clear hn3 hb1
        go_wp2
        go_ret
        exact ⟨rfl, hb2.out⟩
      · have hx0 : (0 : Int) < (X : Int) := by omega
        have hK9 : K < 9 := by have h1 := hl.out; rw [if_neg hx] at h1; have := num_pos X; omega
        have hl' : Hid ((num (cl n)).length = K + 1 + (if X / 128 = 0 then 0 else (num (X / 128)).length)) := by
          have h1 := hl.out
          rw [if_neg hx] at h1
          show _ = _
          rw [h1]
          by_cases h : X < 128
          · rw [len_small h, if_pos (by omega)]
          · rw [len_great (by omega), if_neg (by omega)]; omega
        go_wp2
        go_roundw
        case rel => exact ⟨K + 1, X / 128, by omega, by omega, by go_num, by first | rfl | (congr 1; omega), hl', hb⟩
        case measure => simp [intOf]; omega
end Go.Proofs.Yticglckbjdchjab
