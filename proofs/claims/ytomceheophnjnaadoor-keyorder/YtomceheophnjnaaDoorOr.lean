/- The walk of the statement that keys go by tree, then table, then number. -/
import Derived.Test.YtomceheophnjnaaDoorNm
import Derived.Test.YtomceheophnjnaaDoorCp
import Derived.Test.YtomceheophnjnaaDoorHp
namespace Go.Proofs.YtomceheophnjnaaDoor
open Go.RowKit

theorem less_nums {T A N U B M : Nat} (h1 : T ≤ 1099511627776) (h2 : A ≤ 255) (h3 : N ≤ 1099511627776) (h4 : U ≤ 1099511627776) (h5 : B ≤ 255) (h6 : M ≤ 1099511627776) : less (mk T A (be 8 N)) (mk U B (be 8 M)) = decide (T < U ∨ T = U ∧ (A < B ∨ A = B ∧ N < M)) := by
  rw [Bool.eq_iff_iff, mk_less (by omega) (by omega) (by omega) (by omega), decide_eq_true_iff, less_fix (by omega) (by omega), decide_eq_true_iff]

set_option maxHeartbeats 1000000 in
set_option maxRecDepth 100000 in
theorem order_lt (b : Addr) (T A N U B M : Nat) (w : World) (hg : Own w b) (h1 : T ≤ 1099511627776) (h2 : A ≤ 255) (h3 : N ≤ 1099511627776) (h4 : U ≤ 1099511627776) (h5 : B ≤ 255) (h6 : M ≤ 1099511627776) (h : T < U) :
    Calls Tryd.prog 5 #[.int .i64 (T : Int), .int .i64 (A : Int), .int .i64 (N : Int), .int .i64 (U : Int), .int .i64 (B : Int), .int .i64 (M : Int)] w fun e w' => e = .returned (.bool true) ∧ Below w.heap.size w w' := by
  have HL : Hid (less (mk T A (be 8 N)) (mk U B (be 8 M)) = true) := by
    show _ = _
    rw [less_nums h1 h2 h3 h4 h5 h6]
    exact decide_eq_true (by omega)
  have e1 : (T : Int) < (U : Int) := by omega
  have K1 := keep (num_yes T A N b w h1 h2 h3 hg)
  have K2 := keep (fun w1 (hb : Below w.heap.size w w1) => num_yes U B M b w1 h4 h5 h6 (hg.below hb))
  clear hg h1 h2 h3 h4 h5 h6
  go_enter Tryd.func5, Tryd.ntmps5
  go_wp2_with fail
  refine K1.out.mono ?_
  rintro e w1 ⟨v1, rfl, hn1⟩
  obtain ⟨a1, c1, rfl, s1, _⟩ := hn1.src
  have b1 := keep hn1.2
  have S1 := keep s1
  clear hn1 s1
  go_wp2_with fail
  refine (K2.out w1 b1.out).mono ?_
  rintro e w2 ⟨v2, rfl, hn2⟩
  obtain ⟨a2, c2, rfl, s2, _⟩ := hn2.src
  have b2 := keep (b1.out.trans (hn2.2.mono b1.out.size))
  have S1' := keep (S1.out.below hn2.2)
  have S2 := keep s2
  clear hn2 s2 b1 S1
  go_wp2_with fail
  refine (less_any a1 17 c1 _ a2 17 c2 _ _ S1'.out S2.out).mono ?_
  rintro e w3 ⟨rfl, rfl⟩
  rw [HL.out]
  go_wp2
  go_ret
  refine ⟨?_, b2.out⟩
  first
    | rfl
    | (change Ending.returned (Value.bool (!_)) = _; simp; omega)

set_option maxHeartbeats 1000000 in
set_option maxRecDepth 100000 in
theorem order_gt (b : Addr) (T A N U B M : Nat) (w : World) (hg : Own w b) (h1 : T ≤ 1099511627776) (h2 : A ≤ 255) (h3 : N ≤ 1099511627776) (h4 : U ≤ 1099511627776) (h5 : B ≤ 255) (h6 : M ≤ 1099511627776) (h : U < T) :
    Calls Tryd.prog 5 #[.int .i64 (T : Int), .int .i64 (A : Int), .int .i64 (N : Int), .int .i64 (U : Int), .int .i64 (B : Int), .int .i64 (M : Int)] w fun e w' => e = .returned (.bool true) ∧ Below w.heap.size w w' := by
  have HL : Hid (less (mk T A (be 8 N)) (mk U B (be 8 M)) = false) := by
    show _ = _
    rw [less_nums h1 h2 h3 h4 h5 h6]
    exact decide_eq_false (by omega)
  have e1 : ¬ ((T : Int) < (U : Int)) := by omega
  have e2 : ¬ ((T : Int) = (U : Int)) := by omega
  have K1 := keep (num_yes T A N b w h1 h2 h3 hg)
  have K2 := keep (fun w1 (hb : Below w.heap.size w w1) => num_yes U B M b w1 h4 h5 h6 (hg.below hb))
  clear hg h1 h2 h3 h4 h5 h6
  go_enter Tryd.func5, Tryd.ntmps5
  go_wp2_with fail
  refine K1.out.mono ?_
  rintro e w1 ⟨v1, rfl, hn1⟩
  obtain ⟨a1, c1, rfl, s1, _⟩ := hn1.src
  have b1 := keep hn1.2
  have S1 := keep s1
  clear hn1 s1
  go_wp2_with fail
  refine (K2.out w1 b1.out).mono ?_
  rintro e w2 ⟨v2, rfl, hn2⟩
  obtain ⟨a2, c2, rfl, s2, _⟩ := hn2.src
  have b2 := keep (b1.out.trans (hn2.2.mono b1.out.size))
  have S1' := keep (S1.out.below hn2.2)
  have S2 := keep s2
  clear hn2 s2 b1 S1
  go_wp2_with fail
  refine (less_any a1 17 c1 _ a2 17 c2 _ _ S1'.out S2.out).mono ?_
  rintro e w3 ⟨rfl, rfl⟩
  rw [HL.out]
  go_wp2
  go_ret
  refine ⟨?_, b2.out⟩
  first
    | rfl
    | (change Ending.returned (Value.bool (!_)) = _; simp; omega)

set_option maxHeartbeats 1000000 in
set_option maxRecDepth 100000 in
theorem order_elt (b : Addr) (T A N B M : Nat) (w : World) (hg : Own w b) (h1 : T ≤ 1099511627776) (h2 : A ≤ 255) (h3 : N ≤ 1099511627776) (h4 : T ≤ 1099511627776) (h5 : B ≤ 255) (h6 : M ≤ 1099511627776) (h : A < B) :
    Calls Tryd.prog 5 #[.int .i64 (T : Int), .int .i64 (A : Int), .int .i64 (N : Int), .int .i64 (T : Int), .int .i64 (B : Int), .int .i64 (M : Int)] w fun e w' => e = .returned (.bool true) ∧ Below w.heap.size w w' := by
  have HL : Hid (less (mk T A (be 8 N)) (mk T B (be 8 M)) = true) := by
    show _ = _
    rw [less_nums h1 h2 h3 h4 h5 h6]
    exact decide_eq_true (by omega)
  have e1 : (A : Int) < (B : Int) := by omega
  have K1 := keep (num_yes T A N b w h1 h2 h3 hg)
  have K2 := keep (fun w1 (hb : Below w.heap.size w w1) => num_yes T B M b w1 h4 h5 h6 (hg.below hb))
  clear hg h1 h2 h3 h4 h5 h6
  go_enter Tryd.func5, Tryd.ntmps5
  go_wp2_with fail
  refine K1.out.mono ?_
  rintro e w1 ⟨v1, rfl, hn1⟩
  obtain ⟨a1, c1, rfl, s1, _⟩ := hn1.src
  have b1 := keep hn1.2
  have S1 := keep s1
  clear hn1 s1
  go_wp2_with fail
  refine (K2.out w1 b1.out).mono ?_
  rintro e w2 ⟨v2, rfl, hn2⟩
  obtain ⟨a2, c2, rfl, s2, _⟩ := hn2.src
  have b2 := keep (b1.out.trans (hn2.2.mono b1.out.size))
  have S1' := keep (S1.out.below hn2.2)
  have S2 := keep s2
  clear hn2 s2 b1 S1
  go_wp2_with fail
  refine (less_any a1 17 c1 _ a2 17 c2 _ _ S1'.out S2.out).mono ?_
  rintro e w3 ⟨rfl, rfl⟩
  rw [HL.out]
  go_wp2
  go_ret
  refine ⟨?_, b2.out⟩
  first
    | rfl
    | (change Ending.returned (Value.bool (!_)) = _; simp; omega)

set_option maxHeartbeats 1000000 in
set_option maxRecDepth 100000 in
theorem order_egt (b : Addr) (T A N B M : Nat) (w : World) (hg : Own w b) (h1 : T ≤ 1099511627776) (h2 : A ≤ 255) (h3 : N ≤ 1099511627776) (h4 : T ≤ 1099511627776) (h5 : B ≤ 255) (h6 : M ≤ 1099511627776) (h : B < A) :
    Calls Tryd.prog 5 #[.int .i64 (T : Int), .int .i64 (A : Int), .int .i64 (N : Int), .int .i64 (T : Int), .int .i64 (B : Int), .int .i64 (M : Int)] w fun e w' => e = .returned (.bool true) ∧ Below w.heap.size w w' := by
  have HL : Hid (less (mk T A (be 8 N)) (mk T B (be 8 M)) = false) := by
    show _ = _
    rw [less_nums h1 h2 h3 h4 h5 h6]
    exact decide_eq_false (by omega)
  have e1 : ¬ ((A : Int) < (B : Int)) := by omega
  have e2 : ¬ ((A : Int) = (B : Int)) := by omega
  have K1 := keep (num_yes T A N b w h1 h2 h3 hg)
  have K2 := keep (fun w1 (hb : Below w.heap.size w w1) => num_yes T B M b w1 h4 h5 h6 (hg.below hb))
  clear hg h1 h2 h3 h4 h5 h6
  go_enter Tryd.func5, Tryd.ntmps5
  go_wp2_with fail
  refine K1.out.mono ?_
  rintro e w1 ⟨v1, rfl, hn1⟩
  obtain ⟨a1, c1, rfl, s1, _⟩ := hn1.src
  have b1 := keep hn1.2
  have S1 := keep s1
  clear hn1 s1
  go_wp2_with fail
  refine (K2.out w1 b1.out).mono ?_
  rintro e w2 ⟨v2, rfl, hn2⟩
  obtain ⟨a2, c2, rfl, s2, _⟩ := hn2.src
  have b2 := keep (b1.out.trans (hn2.2.mono b1.out.size))
  have S1' := keep (S1.out.below hn2.2)
  have S2 := keep s2
  clear hn2 s2 b1 S1
  go_wp2_with fail
  refine (less_any a1 17 c1 _ a2 17 c2 _ _ S1'.out S2.out).mono ?_
  rintro e w3 ⟨rfl, rfl⟩
  rw [HL.out]
  go_wp2
  go_ret
  refine ⟨?_, b2.out⟩
  first
    | rfl
    | (change Ending.returned (Value.bool (!_)) = _; simp; omega)

set_option maxHeartbeats 1000000 in
set_option maxRecDepth 100000 in
theorem order_eelt (b : Addr) (T A N M : Nat) (w : World) (hg : Own w b) (h1 : T ≤ 1099511627776) (h2 : A ≤ 255) (h3 : N ≤ 1099511627776) (h4 : T ≤ 1099511627776) (h5 : A ≤ 255) (h6 : M ≤ 1099511627776) (h : N < M) :
    Calls Tryd.prog 5 #[.int .i64 (T : Int), .int .i64 (A : Int), .int .i64 (N : Int), .int .i64 (T : Int), .int .i64 (A : Int), .int .i64 (M : Int)] w fun e w' => e = .returned (.bool true) ∧ Below w.heap.size w w' := by
  have HL : Hid (less (mk T A (be 8 N)) (mk T A (be 8 M)) = true) := by
    show _ = _
    rw [less_nums h1 h2 h3 h4 h5 h6]
    exact decide_eq_true (by omega)
  have e1 : (N : Int) < (M : Int) := by omega
  have K1 := keep (num_yes T A N b w h1 h2 h3 hg)
  have K2 := keep (fun w1 (hb : Below w.heap.size w w1) => num_yes T A M b w1 h4 h5 h6 (hg.below hb))
  clear hg h1 h2 h3 h4 h5 h6
  go_enter Tryd.func5, Tryd.ntmps5
  go_wp2_with fail
  refine K1.out.mono ?_
  rintro e w1 ⟨v1, rfl, hn1⟩
  obtain ⟨a1, c1, rfl, s1, _⟩ := hn1.src
  have b1 := keep hn1.2
  have S1 := keep s1
  clear hn1 s1
  go_wp2_with fail
  refine (K2.out w1 b1.out).mono ?_
  rintro e w2 ⟨v2, rfl, hn2⟩
  obtain ⟨a2, c2, rfl, s2, _⟩ := hn2.src
  have b2 := keep (b1.out.trans (hn2.2.mono b1.out.size))
  have S1' := keep (S1.out.below hn2.2)
  have S2 := keep s2
  clear hn2 s2 b1 S1
  go_wp2_with fail
  refine (less_any a1 17 c1 _ a2 17 c2 _ _ S1'.out S2.out).mono ?_
  rintro e w3 ⟨rfl, rfl⟩
  rw [HL.out]
  go_wp2
  go_ret
  refine ⟨?_, b2.out⟩
  first
    | rfl
    | (change Ending.returned (Value.bool (!_)) = _; simp; omega)

set_option maxHeartbeats 1000000 in
set_option maxRecDepth 100000 in
theorem order_eege (b : Addr) (T A N M : Nat) (w : World) (hg : Own w b) (h1 : T ≤ 1099511627776) (h2 : A ≤ 255) (h3 : N ≤ 1099511627776) (h4 : T ≤ 1099511627776) (h5 : A ≤ 255) (h6 : M ≤ 1099511627776) (h : ¬ N < M) :
    Calls Tryd.prog 5 #[.int .i64 (T : Int), .int .i64 (A : Int), .int .i64 (N : Int), .int .i64 (T : Int), .int .i64 (A : Int), .int .i64 (M : Int)] w fun e w' => e = .returned (.bool true) ∧ Below w.heap.size w w' := by
  have HL : Hid (less (mk T A (be 8 N)) (mk T A (be 8 M)) = false) := by
    show _ = _
    rw [less_nums h1 h2 h3 h4 h5 h6]
    exact decide_eq_false (by omega)
  have e1 : ¬ ((N : Int) < (M : Int)) := by omega
  have K1 := keep (num_yes T A N b w h1 h2 h3 hg)
  have K2 := keep (fun w1 (hb : Below w.heap.size w w1) => num_yes T A M b w1 h4 h5 h6 (hg.below hb))
  clear hg h1 h2 h3 h4 h5 h6
  go_enter Tryd.func5, Tryd.ntmps5
  go_wp2_with fail
  refine K1.out.mono ?_
  rintro e w1 ⟨v1, rfl, hn1⟩
  obtain ⟨a1, c1, rfl, s1, _⟩ := hn1.src
  have b1 := keep hn1.2
  have S1 := keep s1
  clear hn1 s1
  go_wp2_with fail
  refine (K2.out w1 b1.out).mono ?_
  rintro e w2 ⟨v2, rfl, hn2⟩
  obtain ⟨a2, c2, rfl, s2, _⟩ := hn2.src
  have b2 := keep (b1.out.trans (hn2.2.mono b1.out.size))
  have S1' := keep (S1.out.below hn2.2)
  have S2 := keep s2
  clear hn2 s2 b1 S1
  go_wp2_with fail
  refine (less_any a1 17 c1 _ a2 17 c2 _ _ S1'.out S2.out).mono ?_
  rintro e w3 ⟨rfl, rfl⟩
  rw [HL.out]
  go_wp2
  go_ret
  refine ⟨?_, b2.out⟩
  first
    | rfl
    | (change Ending.returned (Value.bool (!_)) = _; simp; omega)

theorem hasnt : decide (([0] : List UInt8) <+: []) = false := by decide

set_option maxHeartbeats 1000000 in
set_option maxRecDepth 100000 in
theorem order_no1 (b : Addr) (t a n u c m : Int) (w : World) (hg : Own w b) (hn : n < 9223372036854775808) (hm : m < 9223372036854775808) (h : ¬ NumFit t a n) (h2 : ¬ NumFit u c m) :
    Calls Tryd.prog 5 #[.int .i64 t, .int .i64 a, .int .i64 n, .int .i64 u, .int .i64 c, .int .i64 m] w fun e w' => e = .returned (.bool true) ∧ Below w.heap.size w w' := by
  have K1 := keep (num_no t a n b w hn h hg)
  have K2 := keep (fun w1 (hb : Below w.heap.size w w1) => num_no u c m b w1 hm h2 (hg.below hb))
  clear hg h h2 hn hm
  go_enter Tryd.func5, Tryd.ntmps5
  go_wp2_with fail
  refine K1.out.mono ?_
  rintro e w1 ⟨rfl, hb1⟩
  have b1 := keep hb1
  clear hb1
  go_wp2_with fail
  refine (K2.out w1 b1.out).mono ?_
  rintro e w2 ⟨rfl, hb2⟩
  have b2 := keep (b1.out.trans (hb2.mono b1.out.size))
  clear hb2
  go_wp2_with fail
  have B3 := keep (b2.out.alloc b2.out.size (.cells #[.int .u8 0] 5))
  refine (has_any none 0 0 [] _ 1 1 [0] _ (src_nil _) (Src.builtI _ 0 0 rfl)).mono ?_
  rintro e w3 ⟨rfl, hb3⟩
  have b3 := keep (B3.out.trans (hb3.mono B3.out.size))
  clear hb3
  rw [hasnt]
  go_wp2
  go_ret
  exact ⟨rfl, b3.out⟩

set_option maxHeartbeats 1000000 in
set_option maxRecDepth 100000 in
theorem order_no2 (b : Addr) (T A N : Nat) (u c m : Int) (w : World) (hg : Own w b) (h1 : T ≤ 1099511627776) (h2 : A ≤ 255) (h3 : N ≤ 1099511627776) (hn : m < 9223372036854775808) (h : ¬ NumFit u c m) :
    Calls Tryd.prog 5 #[.int .i64 (T : Int), .int .i64 (A : Int), .int .i64 (N : Int), .int .i64 u, .int .i64 c, .int .i64 m] w fun e w' => e = .returned (.bool true) ∧ Below w.heap.size w w' := by
  have K1 := keep (num_yes T A N b w h1 h2 h3 hg)
  have K2 := keep (fun w1 (hb : Below w.heap.size w w1) => num_no u c m b w1 hn h (hg.below hb))
  clear hg h h1 h2 h3 hn
  go_enter Tryd.func5, Tryd.ntmps5
  go_wp2_with fail
  refine K1.out.mono ?_
  rintro e w1 ⟨v1, rfl, hn1⟩
  obtain ⟨a1, c1, rfl, s1, _⟩ := hn1.src
  have hb1 := hn1.2
  clear s1 hn1
  have b1 := keep hb1
  clear hb1
  go_wp2_with fail
  refine (K2.out w1 b1.out).mono ?_
  rintro e w2 ⟨rfl, hb2⟩
  have b2 := keep (b1.out.trans (hb2.mono b1.out.size))
  clear hb2
  go_wp2_with fail
  have B3 := keep (b2.out.alloc b2.out.size (.cells #[.int .u8 0] 5))
  refine (has_any none 0 0 [] _ 1 1 [0] _ (src_nil _) (Src.builtI _ 0 0 rfl)).mono ?_
  rintro e w3 ⟨rfl, hb3⟩
  have b3 := keep (B3.out.trans (hb3.mono B3.out.size))
  clear hb3
  rw [hasnt]
  go_wp2
  go_ret
  exact ⟨rfl, b3.out⟩

set_option maxHeartbeats 1000000 in
set_option maxRecDepth 100000 in
theorem order_no3 (b : Addr) (u c m : Int) (T A N : Nat) (w : World) (hg : Own w b) (h1 : T ≤ 1099511627776) (h2 : A ≤ 255) (h3 : N ≤ 1099511627776) (hn : m < 9223372036854775808) (h : ¬ NumFit u c m) :
    Calls Tryd.prog 5 #[.int .i64 u, .int .i64 c, .int .i64 m, .int .i64 (T : Int), .int .i64 (A : Int), .int .i64 (N : Int)] w fun e w' => e = .returned (.bool true) ∧ Below w.heap.size w w' := by
  have K1 := keep (num_no u c m b w hn h hg)
  have K2 := keep (fun w1 (hb : Below w.heap.size w w1) => num_yes T A N b w1 h1 h2 h3 (hg.below hb))
  clear hg h h1 h2 h3 hn
  go_enter Tryd.func5, Tryd.ntmps5
  go_wp2_with fail
  refine K1.out.mono ?_
  rintro e w1 ⟨rfl, hb1⟩
  have b1 := keep hb1
  clear hb1
  go_wp2_with fail
  refine (K2.out w1 b1.out).mono ?_
  rintro e w2 ⟨v2, rfl, hn2⟩
  obtain ⟨a2, c2, rfl, s2, _⟩ := hn2.src
  have hb2 := hn2.2
  clear s2 hn2
  have b2 := keep (b1.out.trans (hb2.mono b1.out.size))
  clear hb2
  go_wp2_with fail
  have B3 := keep (b2.out.alloc b2.out.size (.cells #[.int .u8 0] 5))
  refine (has_any none 0 0 [] _ 1 1 [0] _ (src_nil _) (Src.builtI _ 0 0 rfl)).mono ?_
  rintro e w3 ⟨rfl, hb3⟩
  have b3 := keep (B3.out.trans (hb3.mono B3.out.size))
  clear hb3
  rw [hasnt]
  go_wp2
  go_ret
  exact ⟨rfl, b3.out⟩

theorem orders_walk (b : Addr) (t a n u c m : Int) (w : World) (hg : Own w b) (_ : -9223372036854775808 ≤ t ∧ t < 9223372036854775808) (_ : -9223372036854775808 ≤ a ∧ a < 9223372036854775808) (hn : -9223372036854775808 ≤ n ∧ n < 9223372036854775808)
    (_ : -9223372036854775808 ≤ u ∧ u < 9223372036854775808) (_ : -9223372036854775808 ≤ c ∧ c < 9223372036854775808) (hm : -9223372036854775808 ≤ m ∧ m < 9223372036854775808) :
    Calls Tryd.prog 5 #[.int .i64 t, .int .i64 a, .int .i64 n, .int .i64 u, .int .i64 c, .int .i64 m] w fun e w' => e = .returned (.bool true) ∧ Below w.heap.size w w' := by
  by_cases f1 : NumFit t a n
  · obtain ⟨⟨h1, h2⟩, ⟨h3, h4⟩, h5, h6⟩ := f1
    obtain ⟨T, rfl⟩ : ∃ T : Nat, t = (T : Int) := ⟨t.toNat, by omega⟩
    obtain ⟨A, rfl⟩ : ∃ A : Nat, a = (A : Int) := ⟨a.toNat, by omega⟩
    obtain ⟨N, rfl⟩ : ∃ N : Nat, n = (N : Int) := ⟨n.toNat, by omega⟩
    by_cases f2 : NumFit u c m
    · obtain ⟨⟨g1, g2⟩, ⟨g3, g4⟩, g5, g6⟩ := f2
      obtain ⟨U, rfl⟩ : ∃ T : Nat, u = (T : Int) := ⟨u.toNat, by omega⟩
      obtain ⟨B, rfl⟩ : ∃ A : Nat, c = (A : Int) := ⟨c.toNat, by omega⟩
      obtain ⟨M, rfl⟩ : ∃ N : Nat, m = (N : Int) := ⟨m.toNat, by omega⟩
      rcases Nat.lt_trichotomy T U with h | rfl | h
      · exact order_lt b T A N U B M w hg (by omega) (by omega) (by omega) (by omega) (by omega) (by omega) h
      · rcases Nat.lt_trichotomy A B with h | rfl | h
        · exact order_elt b T A N B M w hg (by omega) (by omega) (by omega) (by omega) (by omega) (by omega) h
        · by_cases h : N < M
          · exact order_eelt b T A N M w hg (by omega) (by omega) (by omega) (by omega) (by omega) (by omega) h
          · exact order_eege b T A N M w hg (by omega) (by omega) (by omega) (by omega) (by omega) (by omega) h
        · exact order_egt b T A N B M w hg (by omega) (by omega) (by omega) (by omega) (by omega) (by omega) h
      · exact order_gt b T A N U B M w hg (by omega) (by omega) (by omega) (by omega) (by omega) (by omega) h
    · exact order_no2 b T A N u c m w hg (by omega) (by omega) (by omega) hm.2 f2
  · by_cases f2 : NumFit u c m
    · obtain ⟨⟨g1, g2⟩, ⟨g3, g4⟩, g5, g6⟩ := f2
      obtain ⟨U, rfl⟩ : ∃ T : Nat, u = (T : Int) := ⟨u.toNat, by omega⟩
      obtain ⟨B, rfl⟩ : ∃ A : Nat, c = (A : Int) := ⟨c.toNat, by omega⟩
      obtain ⟨M, rfl⟩ : ∃ N : Nat, m = (N : Int) := ⟨m.toNat, by omega⟩
      exact order_no3 b t a n U B M w hg (by omega) (by omega) (by omega) hn.2 f1
    · exact order_no1 b t a n u c m w hg hn.2 hm.2 f1 f2
end Go.Proofs.YtomceheophnjnaaDoor
