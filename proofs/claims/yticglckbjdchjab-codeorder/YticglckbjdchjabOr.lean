/- The walk of the statement that fixed numbers go by their bytes. -/
import Derived.Test.YticglckbjdchjabRs
import Derived.Deep.RegionWith
namespace Go.Proofs.Yticglckbjdchjab
open Go.RowKit

theorem less_eq : ∀ (x y : List UInt8), Op.bytesLess x y = decide (x < y)
  | _, [] => by simp [Op.bytesLess]
  | [], _ :: _ => by simp [Op.bytesLess]
  | a :: x, b :: y => by
    rw [Op.bytesLess, less_eq x y, Bool.eq_iff_iff]
    simp [List.cons_lt_cons_iff]
theorem less_be {X Y : Nat} (hx : X < 9223372036854775808) (hy : Y < 9223372036854775808) : Op.bytesLess (be 8 X) (be 8 Y) = decide (X < Y) := by
  rw [less_eq, Bool.eq_iff_iff, decide_eq_true_iff, decide_eq_true_iff]
  have e : (256 : Nat) ^ 8 = 18446744073709551616 := rfl
  exact be_order 8 (by omega) (by omega)

set_option maxHeartbeats 1000000 in
set_option maxRecDepth 100000 in
theorem order_pp (a b : Int) (A B : Nat) (w : World) (ha : a = (A : Int)) (hb : b = (B : Int)) (hA : A < 9223372036854775808) (hB : B < 9223372036854775808) :
    Calls Try.prog 6 #[.int .i64 a, .int .i64 b] w fun e w' => e = .returned (.bool true) ∧ Below w.heap.size w w' := by
  subst ha
  have ha0 : ¬ ((A : Int) < 0) := by omega
  subst hb
  have hb0 : ¬ ((B : Int) < 0) := by omega
  have K1 := keep (putFix_nil (A : Int) w.drew (by omega))
  have K2 := keep (fun w1 => putFix_nil (B : Int) w1 (by omega))
  simp only [Int.toNat_natCast] at K1 K2
  have HL := keep (less_be hA hB)
  clear hA hB
  go_enter Try.func6, Try.ntmps6
  go_wp2_with fail
  go_region_with (first
      | (go_at_call 12; go_fit K1.out; rintro e w1 ⟨a1, c1, rfl, hn1⟩; have b1 := keep hn1.2; obtain ⟨_, _, e1, hs1, _⟩ := hn1.src; cases e1; have S1 := keep hs1; have hc1 := conv_src hs1; clear hs1 hn1)
      | (go_at_call 12; go_fit (K2.out w1); rintro e w2 ⟨a2, c2, rfl, hn2⟩; have b2 := keep ((Below.refl w.heap.size w).drew.trans (b1.out.trans (hn2.2.mono b1.out.size))); obtain ⟨_, _, e2, hs2, _⟩ := hn2.src; cases e2; have hc2 := conv_src hs2; have hc3 := conv_src (S1.out.below hn2.2); clear hs2 hn2))
  all_goals go_wp2
  all_goals go_ret
  all_goals refine ⟨?_, b2.out⟩
  all_goals change Ending.returned (Value.bool (Op.bytesLess _ _ == _)) = _
  all_goals rw [HL.out]
  all_goals simp

set_option maxHeartbeats 1000000 in
set_option maxRecDepth 100000 in
theorem order_pn (a b : Int) (A B : Nat) (w : World) (ha : a = (A : Int)) (hb : b < 0 ∧ B = 0) (hA : A < 9223372036854775808) (hB : B < 9223372036854775808) :
    Calls Try.prog 6 #[.int .i64 a, .int .i64 b] w fun e w' => e = .returned (.bool true) ∧ Below w.heap.size w w' := by
  subst ha
  have ha0 : ¬ ((A : Int) < 0) := by omega
  obtain ⟨hb0, rfl⟩ := hb
  have K1 := keep (putFix_nil (A : Int) w.drew (by omega))
  have K2 := keep (fun w1 => putFix_nil 0 w1 (by omega))
  simp only [Int.toNat_natCast, Int.toNat_zero] at K1 K2
  have HL := keep (less_be hA hB)
  clear hA hB
  go_enter Try.func6, Try.ntmps6
  go_wp2_with fail
  go_region_with (first
      | (go_at_call 12; go_fit K1.out; rintro e w1 ⟨a1, c1, rfl, hn1⟩; have b1 := keep hn1.2; obtain ⟨_, _, e1, hs1, _⟩ := hn1.src; cases e1; have S1 := keep hs1; have hc1 := conv_src hs1; clear hs1 hn1)
      | (go_at_call 12; go_fit (K2.out w1); rintro e w2 ⟨a2, c2, rfl, hn2⟩; have b2 := keep ((Below.refl w.heap.size w).drew.trans (b1.out.trans (hn2.2.mono b1.out.size))); obtain ⟨_, _, e2, hs2, _⟩ := hn2.src; cases e2; have hc2 := conv_src hs2; have hc3 := conv_src (S1.out.below hn2.2); clear hs2 hn2))
  all_goals go_wp2
  all_goals go_ret
  all_goals refine ⟨?_, b2.out⟩
  all_goals change Ending.returned (Value.bool (Op.bytesLess _ _ == _)) = _
  all_goals rw [HL.out]
  all_goals simp

set_option maxHeartbeats 1000000 in
set_option maxRecDepth 100000 in
theorem order_np (a b : Int) (A B : Nat) (w : World) (ha : a < 0 ∧ A = 0) (hb : b = (B : Int)) (hA : A < 9223372036854775808) (hB : B < 9223372036854775808) :
    Calls Try.prog 6 #[.int .i64 a, .int .i64 b] w fun e w' => e = .returned (.bool true) ∧ Below w.heap.size w w' := by
  obtain ⟨ha0, rfl⟩ := ha
  subst hb
  have hb0 : ¬ ((B : Int) < 0) := by omega
  have K1 := keep (putFix_nil 0 w.drew (by omega))
  have K2 := keep (fun w1 => putFix_nil (B : Int) w1 (by omega))
  simp only [Int.toNat_natCast, Int.toNat_zero] at K1 K2
  have HL := keep (less_be hA hB)
  clear hA hB
  go_enter Try.func6, Try.ntmps6
  go_wp2_with fail
  go_region_with (first
      | (go_at_call 12; go_fit K1.out; rintro e w1 ⟨a1, c1, rfl, hn1⟩; have b1 := keep hn1.2; obtain ⟨_, _, e1, hs1, _⟩ := hn1.src; cases e1; have S1 := keep hs1; have hc1 := conv_src hs1; clear hs1 hn1)
      | (go_at_call 12; go_fit (K2.out w1); rintro e w2 ⟨a2, c2, rfl, hn2⟩; have b2 := keep ((Below.refl w.heap.size w).drew.trans (b1.out.trans (hn2.2.mono b1.out.size))); obtain ⟨_, _, e2, hs2, _⟩ := hn2.src; cases e2; have hc2 := conv_src hs2; have hc3 := conv_src (S1.out.below hn2.2); clear hs2 hn2))
  all_goals go_wp2
  all_goals go_ret
  all_goals refine ⟨?_, b2.out⟩
  all_goals change Ending.returned (Value.bool (Op.bytesLess _ _ == _)) = _
  all_goals rw [HL.out]
  all_goals simp

set_option maxHeartbeats 1000000 in
set_option maxRecDepth 100000 in
theorem order_nn (a b : Int) (A B : Nat) (w : World) (ha : a < 0 ∧ A = 0) (hb : b < 0 ∧ B = 0) (hA : A < 9223372036854775808) (hB : B < 9223372036854775808) :
    Calls Try.prog 6 #[.int .i64 a, .int .i64 b] w fun e w' => e = .returned (.bool true) ∧ Below w.heap.size w w' := by
  obtain ⟨ha0, rfl⟩ := ha
  obtain ⟨hb0, rfl⟩ := hb
  have K1 := keep (putFix_nil 0 w.drew (by omega))
  have K2 := keep (fun w1 => putFix_nil 0 w1 (by omega))
  simp only [Int.toNat_zero] at K1 K2
  have HL := keep (less_be hA hB)
  clear hA hB
  go_enter Try.func6, Try.ntmps6
  go_wp2_with fail
  go_region_with (first
      | (go_at_call 12; go_fit K1.out; rintro e w1 ⟨a1, c1, rfl, hn1⟩; have b1 := keep hn1.2; obtain ⟨_, _, e1, hs1, _⟩ := hn1.src; cases e1; have S1 := keep hs1; have hc1 := conv_src hs1; clear hs1 hn1)
      | (go_at_call 12; go_fit (K2.out w1); rintro e w2 ⟨a2, c2, rfl, hn2⟩; have b2 := keep ((Below.refl w.heap.size w).drew.trans (b1.out.trans (hn2.2.mono b1.out.size))); obtain ⟨_, _, e2, hs2, _⟩ := hn2.src; cases e2; have hc2 := conv_src hs2; have hc3 := conv_src (S1.out.below hn2.2); clear hs2 hn2))
  all_goals go_wp2
  all_goals go_ret
  all_goals refine ⟨?_, b2.out⟩
  all_goals change Ending.returned (Value.bool (!Op.bytesLess _ _)) = _
  all_goals rw [HL.out]
  all_goals simp

theorem order_walk (a b : Int) (w : World) (ha : -9223372036854775808 ≤ a ∧ a < 9223372036854775808) (hb : -9223372036854775808 ≤ b ∧ b < 9223372036854775808) :
    Calls Try.prog 6 #[.int .i64 a, .int .i64 b] w fun e w' => e = .returned (.bool true) ∧ Below w.heap.size w w' := by
  by_cases h : a < 0
  · by_cases h2 : b < 0
    · exact order_nn a b 0 0 w ⟨h, rfl⟩ ⟨h2, rfl⟩ (by omega) (by omega)
    · exact order_np a b 0 b.toNat w ⟨h, rfl⟩ (by omega) (by omega) (by omega)
  · by_cases h2 : b < 0
    · exact order_pn a b a.toNat 0 w (by omega) ⟨h2, rfl⟩ (by omega) (by omega)
    · exact order_pp a b a.toNat b.toNat w (by omega) (by omega) (by omega) (by omega)
end Go.Proofs.Yticglckbjdchjab
