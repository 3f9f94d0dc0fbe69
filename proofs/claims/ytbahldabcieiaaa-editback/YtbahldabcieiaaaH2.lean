/- The walks of isNum, isKey, cmp.Compare. -/
import Derived.Test.YtbahldabcieiaaaH1
import Derived.Test.YtbahldabcieiaaaCp
namespace Go.Proofs.Ytbahldabcieiaaa
open Go.RowKit
open Ed (Nt)

set_option maxHeartbeats 1000000 in
theorem isNum_any (n : Int) (w : World) : Calls Try.prog 37 #[.int .i64 n] w fun e w' => e = .returned (.bool (Ed.isNum n)) ∧ w' = w := by
  by_cases h0 : 0 ≤ n
  · have d0 : decide (0 ≤ n) = true := decide_eq_true h0
    go_enter Try.func37, Try.ntmps37
    go_wp2
    go_ret
    exact ⟨by unfold Ed.isNum; rw [d0]; rfl, rfl⟩
  · have d0 : decide (0 ≤ n) = false := decide_eq_false h0
    go_enter Try.func37, Try.ntmps37
    go_wp2
    go_ret
    exact ⟨by unfold Ed.isNum; rw [d0]; rfl, rfl⟩
set_option maxHeartbeats 1000000 in
theorem isKey_any (ao : Option Addr) (m c : Nat) (l : List UInt8) (w : World) (hs : Src w ao m c l) : Calls Try.prog 88 #[.slice ao m c] w fun e w' => e = .returned (.bool (Ed.isKey l)) ∧ w' = w := by
  have hl := hs.len
  have HL : Hid (Ed.isKey l = (decide (1 ≤ m) && decide (m ≤ 64))) := by show _ = _; unfold Ed.isKey; rw [hl]
  rw [HL.out]
  clear hs hl
  by_cases h0 : 1 ≤ m
  · have d0 : decide (1 ≤ m) = true := decide_eq_true h0
    have i0 : (1 : Int) ≤ (m : Int) := by omega
    have e2 : decide ((m : Int) ≤ 64) = decide (m ≤ 64) := by rw [decide_eq_decide]; omega
    go_enter Try.func88, Try.ntmps88
    go_wp2
    go_ret
    exact ⟨by rw [d0]; simp, rfl⟩
  · have d0 : decide (1 ≤ m) = false := decide_eq_false h0
    have i0 : ¬ (1 : Int) ≤ (m : Int) := by omega
    go_enter Try.func88, Try.ntmps88
    go_wp2
    go_ret
    exact ⟨rfl, rfl⟩
set_option maxHeartbeats 1000000 in
theorem isNaN_any (n : Int) (w : World) : Calls Try.prog 78 #[.int .i64 n] w fun e w' => e = .returned (.bool false) ∧ w' = w := by
  go_enter Try.func78, Try.ntmps78
  go_wp2
  go_ret
  exact ⟨by simp, rfl⟩
set_option maxHeartbeats 1000000 in
theorem compare_int (a b : Int) (w : World) : Calls Try.prog 48 #[.int .i64 a, .int .i64 b] w fun e w' => e = .returned (.int .i64 (Ed.cmpI a b)) ∧ w' = w := by
  have N1 := keep (isNaN_any a w)
  have N2 := keep (isNaN_any b w)
  by_cases h1 : a < b
  · have e : Ed.cmpI a b = -1 := by unfold Ed.cmpI; rw [if_pos h1]
    rw [e]
    go_enter Try.func48, Try.ntmps48
    go_wp2_with fail
    refine N1.out.mono ?_
    rintro e w1 ⟨rfl, rfl⟩
    go_wp2_with fail
    refine N2.out.mono ?_
    rintro e w2 ⟨rfl, rfl⟩
    go_wp2
    go_ret
    exact ⟨rfl, rfl⟩
  · by_cases h2 : b < a
    · have e : Ed.cmpI a b = 1 := by unfold Ed.cmpI; rw [if_neg h1, if_pos h2]
      rw [e]
      go_enter Try.func48, Try.ntmps48
      go_wp2_with fail
      refine N1.out.mono ?_
      rintro e w1 ⟨rfl, rfl⟩
      go_wp2_with fail
      refine N2.out.mono ?_
      rintro e w2 ⟨rfl, rfl⟩
      go_wp2
      go_ret
      exact ⟨rfl, rfl⟩
    · have e : Ed.cmpI a b = 0 := by unfold Ed.cmpI; rw [if_neg h1, if_neg h2]
      rw [e]
      go_enter Try.func48, Try.ntmps48
      go_wp2_with fail
      refine N1.out.mono ?_
      rintro e w1 ⟨rfl, rfl⟩
      go_wp2_with fail
      refine N2.out.mono ?_
      rintro e w2 ⟨rfl, rfl⟩
      go_wp2
      go_ret
      exact ⟨rfl, rfl⟩
end Go.Proofs.Ytbahldabcieiaaa
