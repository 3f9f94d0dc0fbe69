/- The walk of the statement on a table's keys. -/
import Derived.Test.YtomceheophnjnabDoorMy
import Derived.Test.YtomceheophnjnabDoorCp
import Derived.Test.YtomceheophnjnabDoorNx
namespace Go.Proofs.YtomceheophnjnabDoor
open Go.RowKit

theorem less_one : less [] [1] = true := rfl
theorem tables_in {T A U B : Nat} {l : List UInt8} (h1 : T ≤ 1099511627776) (h2 : A ≤ 255) (h3 : U ≤ 1099511627776) (h4 : B ≤ 255) : decide (mk T A [] <+: mk U B l) = decide (T = U ∧ A = B) := by
  rw [Bool.eq_iff_iff, decide_eq_true_iff, decide_eq_true_iff]
  exact mk_begins (by omega) (by omega) (by omega) (by omega)
theorem tables_less {T A U B : Nat} {l : List UInt8} (h1 : T ≤ 1099511627776) (h2 : A ≤ 255) (h3 : U ≤ 1099511627776) (h4 : B ≤ 255) : (less (mk U B l) (mk T A []) = false ∧ less (mk U B l) (next (mk T A [])) = true) ↔ (T = U ∧ A = B) := by
  rw [← mk_begins (y := l) (show T < 9223372036854775808 by omega) (show U < 9223372036854775808 by omega) (show A < 256 by omega) (show B < 256 by omega), ← next_spec]
  have := next_mk (t := T) (a := A) (by omega)
  simp [this]

set_option maxHeartbeats 1000000 in
set_option maxRecDepth 100000 in
theorem tables_same (b : Addr) (T A : Nat) (ao : Option Addr) (m c : Nat) (l : List UInt8) (w : World) (hg : Own w b) (h1 : T ≤ 1099511627776) (h2 : A ≤ 255) (h3 : T ≤ 1099511627776) (h4 : A ≤ 255) (h5 : m ≤ 55) (hs : Src w ao m c l) 
    (H1 : Hid (less (mk T A l) (mk T A []) = false)) (H2 : Hid (less (mk T A l) (next (mk T A [])) = true)) (H3 : Hid (decide (mk T A [] <+: mk T A l) = true)) :
    Calls Tryd.prog 3 #[.int .i64 (T : Int), .int .i64 (A : Int), .int .i64 (T : Int), .int .i64 (A : Int), .slice ao m c] w fun e w' => e = .returned (.bool true) ∧ Below w.heap.size w w' := by
  have K1 := keep (make_yes T A none 0 0 [] b w h1 h2 (by omega) (src_nil w) hg)
  have K2 := keep (fun w1 (hb : Below w.heap.size w w1) => make_yes T A ao m c l b w1 h3 h4 h5 (hs.below hb) (hg.below hb))
  have hnx := next_mk (t := T) (a := A) (by omega)
  have HNX := keep hnx
  clear hnx hg hs h1 h2 h3 h4
  go_enter Tryd.func3, Tryd.ntmps3
  go_wp2_with fail
  refine K1.out.mono ?_
  rintro e w1 ⟨v1, rfl, hn1⟩
  obtain ⟨a1, c1, rfl, s1, _⟩ := hn1.src
  have b1 := keep hn1.2
  have S1 := keep s1
  clear hn1 s1
  go_wp2_with fail
  refine (K2.out w1 b1.out).mono ?_
  rintro e w2 ⟨v2, rfl, hn2⟩
  obtain ⟨a2, c2, rfl, s2, _⟩ := hn2.src
  have b2 := keep (b1.out.trans (hn2.2.mono b1.out.size))
  have S1' := keep (S1.out.below hn2.2)
  have S2 := keep s2
  clear hn2 s2 b1 S1
  have S1 := S1'
  clear S1'
  go_wp2_with fail
  refine (less_any a2 _ c2 _ a1 _ c1 _ _ S2.out S1.out).mono ?_
  rintro e wl ⟨rfl, rfl⟩
  rw [H1.out]
  go_wp2_with fail
  refine (next_any a1 9 c1 _ wl (by omega) S1.out).mono ?_
  rintro e w3 ⟨v3, n3, rfl, hn3⟩
  obtain ⟨a3, c3, rfl, s3, _⟩ := hn3.src
  have hlen := hn3.len
  have b3 := keep (b2.out.trans (hn3.2.mono b2.out.size))
  have S3 := keep s3
  have S1' := keep (S1.out.below hn3.2)
  have S2' := keep (S2.out.below hn3.2)
  clear hn3 s3 b2 S1 S2 hlen
  go_wp2_with fail
  refine (less_any a2 _ c2 _ a3 n3 c3 _ _ S2'.out S3.out).mono ?_
  rintro e w4 ⟨rfl, rfl⟩
  rw [H2.out]
  go_wp2_with fail
  refine (next_any a1 9 c1 _ w4 (by omega) S1'.out).mono ?_
  rintro e w5 ⟨v5, n5, rfl, hn5⟩
  obtain ⟨a5, c5, rfl, s5, _⟩ := hn5.src
  have hlen := hn5.len
  have hn0 : n5 ≠ 0 := fun e => HNX.out (List.length_eq_zero_iff.1 (by omega))
  have hn1 : (0 : Int) < (n5 : Int) := by omega
  have b5 := keep (b3.out.trans (hn5.2.mono b3.out.size))
  have T1 := keep (S1'.out.below hn5.2)
  have T2 := keep (S2'.out.below hn5.2)
  clear hn5 s5 b3 S1' S2' hlen hn0
  go_wp2_with fail
  refine (has_any a2 _ c2 _ a1 _ c1 _ _ T2.out T1.out).mono ?_
  rintro e w6 ⟨rfl, hb6⟩
  rw [H3.out]
  have b6 := keep (b5.out.trans (hb6.mono b5.out.size))
  clear hb6
  go_wp2
  go_ret
  exact ⟨rfl, b6.out⟩

set_option maxHeartbeats 1000000 in
set_option maxRecDepth 100000 in
theorem tables_tree_a (b : Addr) (T A U B : Nat) (ao : Option Addr) (m c : Nat) (l : List UInt8) (w : World) (hg : Own w b) (h1 : T ≤ 1099511627776) (h2 : A ≤ 255) (h3 : U ≤ 1099511627776) (h4 : B ≤ 255) (h5 : m ≤ 55) (hs : Src w ao m c l) (hne : T ≠ U)
    (H1 : Hid (less (mk U B l) (mk T A []) = true)) (H3 : Hid (decide (mk T A [] <+: mk U B l) = false)) :
    Calls Tryd.prog 3 #[.int .i64 (T : Int), .int .i64 (A : Int), .int .i64 (U : Int), .int .i64 (B : Int), .slice ao m c] w fun e w' => e = .returned (.bool true) ∧ Below w.heap.size w w' := by
  have K1 := keep (make_yes T A none 0 0 [] b w h1 h2 (by omega) (src_nil w) hg)
  have K2 := keep (fun w1 (hb : Below w.heap.size w w1) => make_yes U B ao m c l b w1 h3 h4 h5 (hs.below hb) (hg.below hb))
  have hnx := next_mk (t := T) (a := A) (by omega)
  have HNX := keep hnx
  have e1 : ¬ ((T : Int) = (U : Int)) := by omega
  clear hne
  clear hnx hg hs h1 h2 h3 h4
  go_enter Tryd.func3, Tryd.ntmps3
  go_wp2_with fail
  refine K1.out.mono ?_
  rintro e w1 ⟨v1, rfl, hn1⟩
  obtain ⟨a1, c1, rfl, s1, _⟩ := hn1.src
  have b1 := keep hn1.2
  have S1 := keep s1
  clear hn1 s1
  go_wp2_with fail
  refine (K2.out w1 b1.out).mono ?_
  rintro e w2 ⟨v2, rfl, hn2⟩
  obtain ⟨a2, c2, rfl, s2, _⟩ := hn2.src
  have b2 := keep (b1.out.trans (hn2.2.mono b1.out.size))
  have S1' := keep (S1.out.below hn2.2)
  have S2 := keep s2
  clear hn2 s2 b1 S1
  have S1 := S1'
  clear S1'
  go_wp2_with fail
  refine (less_any a2 _ c2 _ a1 _ c1 _ _ S2.out S1.out).mono ?_
  rintro e wl ⟨rfl, rfl⟩
  rw [H1.out]
  go_wp2_with fail
  refine (next_any a1 9 c1 _ wl (by omega) S1.out).mono ?_
  rintro e w5 ⟨v5, n5, rfl, hn5⟩
  obtain ⟨a5, c5, rfl, s5, _⟩ := hn5.src
  have hlen := hn5.len
  have hn0 : n5 ≠ 0 := fun e => HNX.out (List.length_eq_zero_iff.1 (by omega))
  have hn1 : (0 : Int) < (n5 : Int) := by omega
  have b5 := keep (b2.out.trans (hn5.2.mono b2.out.size))
  have T1 := keep (S1.out.below hn5.2)
  have T2 := keep (S2.out.below hn5.2)
  clear hn5 s5 b2 S1 S2 hlen hn0
  go_wp2_with fail
  refine (has_any a2 _ c2 _ a1 _ c1 _ _ T2.out T1.out).mono ?_
  rintro e w6 ⟨rfl, hb6⟩
  rw [H3.out]
  have b6 := keep (b5.out.trans (hb6.mono b5.out.size))
  clear hb6
  go_wp2
  go_ret
  exact ⟨rfl, b6.out⟩

set_option maxHeartbeats 1000000 in
set_option maxRecDepth 100000 in
theorem tables_tab_a (b : Addr) (T A B : Nat) (ao : Option Addr) (m c : Nat) (l : List UInt8) (w : World) (hg : Own w b) (h1 : T ≤ 1099511627776) (h2 : A ≤ 255) (h3 : T ≤ 1099511627776) (h4 : B ≤ 255) (h5 : m ≤ 55) (hs : Src w ao m c l) (hne : A ≠ B)
    (H1 : Hid (less (mk T B l) (mk T A []) = true)) (H3 : Hid (decide (mk T A [] <+: mk T B l) = false)) :
    Calls Tryd.prog 3 #[.int .i64 (T : Int), .int .i64 (A : Int), .int .i64 (T : Int), .int .i64 (B : Int), .slice ao m c] w fun e w' => e = .returned (.bool true) ∧ Below w.heap.size w w' := by
  have K1 := keep (make_yes T A none 0 0 [] b w h1 h2 (by omega) (src_nil w) hg)
  have K2 := keep (fun w1 (hb : Below w.heap.size w w1) => make_yes T B ao m c l b w1 h3 h4 h5 (hs.below hb) (hg.below hb))
  have hnx := next_mk (t := T) (a := A) (by omega)
  have HNX := keep hnx
  have e1 : ((A : Int) == (B : Int)) = false := by rw [beq_eq_false_iff_ne]; omega
  clear hne
  clear hnx hg hs h1 h2 h3 h4
  go_enter Tryd.func3, Tryd.ntmps3
  go_wp2_with fail
  refine K1.out.mono ?_
  rintro e w1 ⟨v1, rfl, hn1⟩
  obtain ⟨a1, c1, rfl, s1, _⟩ := hn1.src
  have b1 := keep hn1.2
  have S1 := keep s1
  clear hn1 s1
  go_wp2_with fail
  refine (K2.out w1 b1.out).mono ?_
  rintro e w2 ⟨v2, rfl, hn2⟩
  obtain ⟨a2, c2, rfl, s2, _⟩ := hn2.src
  have b2 := keep (b1.out.trans (hn2.2.mono b1.out.size))
  have S1' := keep (S1.out.below hn2.2)
  have S2 := keep s2
  clear hn2 s2 b1 S1
  have S1 := S1'
  clear S1'
  go_wp2_with fail
  refine (less_any a2 _ c2 _ a1 _ c1 _ _ S2.out S1.out).mono ?_
  rintro e wl ⟨rfl, rfl⟩
  rw [H1.out]
  go_wp2_with fail
  refine (next_any a1 9 c1 _ wl (by omega) S1.out).mono ?_
  rintro e w5 ⟨v5, n5, rfl, hn5⟩
  obtain ⟨a5, c5, rfl, s5, _⟩ := hn5.src
  have hlen := hn5.len
  have hn0 : n5 ≠ 0 := fun e => HNX.out (List.length_eq_zero_iff.1 (by omega))
  have hn1 : (0 : Int) < (n5 : Int) := by omega
  have b5 := keep (b2.out.trans (hn5.2.mono b2.out.size))
  have T1 := keep (S1.out.below hn5.2)
  have T2 := keep (S2.out.below hn5.2)
  clear hn5 s5 b2 S1 S2 hlen hn0
  go_wp2_with fail
  refine (has_any a2 _ c2 _ a1 _ c1 _ _ T2.out T1.out).mono ?_
  rintro e w6 ⟨rfl, hb6⟩
  rw [H3.out]
  have b6 := keep (b5.out.trans (hb6.mono b5.out.size))
  clear hb6
  go_wp2
  go_ret
  exact ⟨rfl, b6.out⟩

set_option maxHeartbeats 1000000 in
set_option maxRecDepth 100000 in
theorem tables_tree_b (b : Addr) (T A U B : Nat) (ao : Option Addr) (m c : Nat) (l : List UInt8) (w : World) (hg : Own w b) (h1 : T ≤ 1099511627776) (h2 : A ≤ 255) (h3 : U ≤ 1099511627776) (h4 : B ≤ 255) (h5 : m ≤ 55) (hs : Src w ao m c l) (hne : T ≠ U)
    (H1 : Hid (less (mk U B l) (mk T A []) = false)) (H2 : Hid (less (mk U B l) (next (mk T A [])) = false)) (H3 : Hid (decide (mk T A [] <+: mk U B l) = false)) :
    Calls Tryd.prog 3 #[.int .i64 (T : Int), .int .i64 (A : Int), .int .i64 (U : Int), .int .i64 (B : Int), .slice ao m c] w fun e w' => e = .returned (.bool true) ∧ Below w.heap.size w w' := by
  have K1 := keep (make_yes T A none 0 0 [] b w h1 h2 (by omega) (src_nil w) hg)
  have K2 := keep (fun w1 (hb : Below w.heap.size w w1) => make_yes U B ao m c l b w1 h3 h4 h5 (hs.below hb) (hg.below hb))
  have hnx := next_mk (t := T) (a := A) (by omega)
  have HNX := keep hnx
  have e1 : ¬ ((T : Int) = (U : Int)) := by omega
  clear hne
  clear hnx hg hs h1 h2 h3 h4
  go_enter Tryd.func3, Tryd.ntmps3
  go_wp2_with fail
  refine K1.out.mono ?_
  rintro e w1 ⟨v1, rfl, hn1⟩
  obtain ⟨a1, c1, rfl, s1, _⟩ := hn1.src
  have b1 := keep hn1.2
  have S1 := keep s1
  clear hn1 s1
  go_wp2_with fail
  refine (K2.out w1 b1.out).mono ?_
  rintro e w2 ⟨v2, rfl, hn2⟩
  obtain ⟨a2, c2, rfl, s2, _⟩ := hn2.src
  have b2 := keep (b1.out.trans (hn2.2.mono b1.out.size))
  have S1' := keep (S1.out.below hn2.2)
  have S2 := keep s2
  clear hn2 s2 b1 S1
  have S1 := S1'
  clear S1'
  go_wp2_with fail
  refine (less_any a2 _ c2 _ a1 _ c1 _ _ S2.out S1.out).mono ?_
  rintro e wl ⟨rfl, rfl⟩
  rw [H1.out]
  go_wp2_with fail
  refine (next_any a1 9 c1 _ wl (by omega) S1.out).mono ?_
  rintro e w3 ⟨v3, n3, rfl, hn3⟩
  obtain ⟨a3, c3, rfl, s3, _⟩ := hn3.src
  have hlen := hn3.len
  have b3 := keep (b2.out.trans (hn3.2.mono b2.out.size))
  have S3 := keep s3
  have S1' := keep (S1.out.below hn3.2)
  have S2' := keep (S2.out.below hn3.2)
  clear hn3 s3 b2 S1 S2 hlen
  go_wp2_with fail
  refine (less_any a2 _ c2 _ a3 n3 c3 _ _ S2'.out S3.out).mono ?_
  rintro e w4 ⟨rfl, rfl⟩
  rw [H2.out]
  go_wp2_with fail
  refine (next_any a1 9 c1 _ w4 (by omega) S1'.out).mono ?_
  rintro e w5 ⟨v5, n5, rfl, hn5⟩
  obtain ⟨a5, c5, rfl, s5, _⟩ := hn5.src
  have hlen := hn5.len
  have hn0 : n5 ≠ 0 := fun e => HNX.out (List.length_eq_zero_iff.1 (by omega))
  have hn1 : (0 : Int) < (n5 : Int) := by omega
  have b5 := keep (b3.out.trans (hn5.2.mono b3.out.size))
  have T1 := keep (S1'.out.below hn5.2)
  have T2 := keep (S2'.out.below hn5.2)
  clear hn5 s5 b3 S1' S2' hlen hn0
  go_wp2_with fail
  refine (has_any a2 _ c2 _ a1 _ c1 _ _ T2.out T1.out).mono ?_
  rintro e w6 ⟨rfl, hb6⟩
  rw [H3.out]
  have b6 := keep (b5.out.trans (hb6.mono b5.out.size))
  clear hb6
  go_wp2
  go_ret
  exact ⟨rfl, b6.out⟩

set_option maxHeartbeats 1000000 in
set_option maxRecDepth 100000 in
theorem tables_tab_b (b : Addr) (T A B : Nat) (ao : Option Addr) (m c : Nat) (l : List UInt8) (w : World) (hg : Own w b) (h1 : T ≤ 1099511627776) (h2 : A ≤ 255) (h3 : T ≤ 1099511627776) (h4 : B ≤ 255) (h5 : m ≤ 55) (hs : Src w ao m c l) (hne : A ≠ B)
    (H1 : Hid (less (mk T B l) (mk T A []) = false)) (H2 : Hid (less (mk T B l) (next (mk T A [])) = false)) (H3 : Hid (decide (mk T A [] <+: mk T B l) = false)) :
    Calls Tryd.prog 3 #[.int .i64 (T : Int), .int .i64 (A : Int), .int .i64 (T : Int), .int .i64 (B : Int), .slice ao m c] w fun e w' => e = .returned (.bool true) ∧ Below w.heap.size w w' := by
  have K1 := keep (make_yes T A none 0 0 [] b w h1 h2 (by omega) (src_nil w) hg)
  have K2 := keep (fun w1 (hb : Below w.heap.size w w1) => make_yes T B ao m c l b w1 h3 h4 h5 (hs.below hb) (hg.below hb))
  have hnx := next_mk (t := T) (a := A) (by omega)
  have HNX := keep hnx
  have e1 : ((A : Int) == (B : Int)) = false := by rw [beq_eq_false_iff_ne]; omega
  clear hne
  clear hnx hg hs h1 h2 h3 h4
  go_enter Tryd.func3, Tryd.ntmps3
  go_wp2_with fail
  refine K1.out.mono ?_
  rintro e w1 ⟨v1, rfl, hn1⟩
  obtain ⟨a1, c1, rfl, s1, _⟩ := hn1.src
  have b1 := keep hn1.2
  have S1 := keep s1
  clear hn1 s1
  go_wp2_with fail
  refine (K2.out w1 b1.out).mono ?_
  rintro e w2 ⟨v2, rfl, hn2⟩
  obtain ⟨a2, c2, rfl, s2, _⟩ := hn2.src
  have b2 := keep (b1.out.trans (hn2.2.mono b1.out.size))
  have S1' := keep (S1.out.below hn2.2)
  have S2 := keep s2
  clear hn2 s2 b1 S1
  have S1 := S1'
  clear S1'
  go_wp2_with fail
  refine (less_any a2 _ c2 _ a1 _ c1 _ _ S2.out S1.out).mono ?_
  rintro e wl ⟨rfl, rfl⟩
  rw [H1.out]
  go_wp2_with fail
  refine (next_any a1 9 c1 _ wl (by omega) S1.out).mono ?_
  rintro e w3 ⟨v3, n3, rfl, hn3⟩
  obtain ⟨a3, c3, rfl, s3, _⟩ := hn3.src
  have hlen := hn3.len
  have b3 := keep (b2.out.trans (hn3.2.mono b2.out.size))
  have S3 := keep s3
  have S1' := keep (S1.out.below hn3.2)
  have S2' := keep (S2.out.below hn3.2)
  clear hn3 s3 b2 S1 S2 hlen
  go_wp2_with fail
  refine (less_any a2 _ c2 _ a3 n3 c3 _ _ S2'.out S3.out).mono ?_
  rintro e w4 ⟨rfl, rfl⟩
  rw [H2.out]
  go_wp2_with fail
  refine (next_any a1 9 c1 _ w4 (by omega) S1'.out).mono ?_
  rintro e w5 ⟨v5, n5, rfl, hn5⟩
  obtain ⟨a5, c5, rfl, s5, _⟩ := hn5.src
  have hlen := hn5.len
  have hn0 : n5 ≠ 0 := fun e => HNX.out (List.length_eq_zero_iff.1 (by omega))
  have hn1 : (0 : Int) < (n5 : Int) := by omega
  have b5 := keep (b3.out.trans (hn5.2.mono b3.out.size))
  have T1 := keep (S1'.out.below hn5.2)
  have T2 := keep (S2'.out.below hn5.2)
  clear hn5 s5 b3 S1' S2' hlen hn0
  go_wp2_with fail
  refine (has_any a2 _ c2 _ a1 _ c1 _ _ T2.out T1.out).mono ?_
  rintro e w6 ⟨rfl, hb6⟩
  rw [H3.out]
  have b6 := keep (b5.out.trans (hb6.mono b5.out.size))
  clear hb6
  go_wp2
  go_ret
  exact ⟨rfl, b6.out⟩

set_option maxHeartbeats 1000000 in
set_option maxRecDepth 100000 in
theorem tables_nn (b : Addr) (t a u d : Int) (ao : Option Addr) (m c : Nat) (w : World) (hg : Own w b) (h : ¬ Fit t a 0) (h2 : ¬ Fit u d m) :
    Calls Tryd.prog 3 #[.int .i64 t, .int .i64 a, .int .i64 u, .int .i64 d, .slice ao m c] w fun e w' => e = .returned (.bool true) ∧ Below w.heap.size w w' := by
  have K1 := keep (make_no t a none 0 0 b w h hg)
  have K2 := keep (fun w1 (hb : Below w.heap.size w w1) => make_no u d ao m c b w1 h2 (hg.below hb))
  clear hg h h2
  go_enter Tryd.func3, Tryd.ntmps3
  go_wp2_with fail
  refine K1.out.mono ?_
  rintro e w1 ⟨rfl, hb1⟩
  have b1 := keep hb1
  clear hb1
  go_wp2_with fail
  refine (K2.out w1 b1.out).mono ?_
  rintro e w2 ⟨rfl, hb2⟩
  have b2 := keep (b1.out.trans (hb2.mono b1.out.size))
  clear hb2
  go_wp2_with fail
  have B3 := keep (b2.out.alloc b2.out.size (.cells #[.int .u8 1] 5))
  refine (less_any none 0 0 [] _ 1 1 [1] _ (src_nil _) (Src.builtI _ 1 1 rfl)).mono ?_
  rintro e w3 ⟨rfl, rfl⟩
  rw [less_one]
  go_wp2
  go_ret
  exact ⟨rfl, B3.out⟩

set_option maxHeartbeats 1000000 in
set_option maxRecDepth 100000 in
theorem tables_yn (b : Addr) (T A : Nat) (u d : Int) (ao : Option Addr) (m c : Nat) (w : World) (hg : Own w b) (h1 : T ≤ 1099511627776) (h2 : A ≤ 255) (h : ¬ Fit u d m) :
    Calls Tryd.prog 3 #[.int .i64 (T : Int), .int .i64 (A : Int), .int .i64 u, .int .i64 d, .slice ao m c] w fun e w' => e = .returned (.bool true) ∧ Below w.heap.size w w' := by
  have K1 := keep (make_yes T A none 0 0 [] b w h1 h2 (by omega) (src_nil w) hg)
  have K2 := keep (fun w1 (hb : Below w.heap.size w w1) => make_no u d ao m c b w1 h (hg.below hb))
  clear hg h h1 h2
  go_enter Tryd.func3, Tryd.ntmps3
  go_wp2_with fail
  refine K1.out.mono ?_
  rintro e w1 ⟨v1, rfl, hn1⟩
  obtain ⟨a1, c1, rfl, s1, _⟩ := hn1.src
  have hb1 := hn1.2
  clear s1 hn1
  have b1 := keep hb1
  clear hb1
  go_wp2_with fail
  refine (K2.out w1 b1.out).mono ?_
  rintro e w2 ⟨rfl, hb2⟩
  have b2 := keep (b1.out.trans (hb2.mono b1.out.size))
  clear hb2
  go_wp2_with fail
  have B3 := keep (b2.out.alloc b2.out.size (.cells #[.int .u8 1] 5))
  refine (less_any none 0 0 [] _ 1 1 [1] _ (src_nil _) (Src.builtI _ 1 1 rfl)).mono ?_
  rintro e w3 ⟨rfl, rfl⟩
  rw [less_one]
  go_wp2
  go_ret
  exact ⟨rfl, B3.out⟩

set_option maxHeartbeats 1000000 in
set_option maxRecDepth 100000 in
theorem tables_ny (b : Addr) (t a : Int) (U B : Nat) (ao : Option Addr) (m c : Nat) (l : List UInt8) (w : World) (hg : Own w b) (h : ¬ Fit t a 0) (h1 : U ≤ 1099511627776) (h2 : B ≤ 255) (h3 : m ≤ 55) (hs : Src w ao m c l) :
    Calls Tryd.prog 3 #[.int .i64 t, .int .i64 a, .int .i64 (U : Int), .int .i64 (B : Int), .slice ao m c] w fun e w' => e = .returned (.bool true) ∧ Below w.heap.size w w' := by
  have K1 := keep (make_no t a none 0 0 b w h hg)
  have K2 := keep (fun w1 (hb : Below w.heap.size w w1) => make_yes U B ao m c l b w1 h1 h2 h3 (hs.below hb) (hg.below hb))
  clear hg h h1 h2 h3 hs
  go_enter Tryd.func3, Tryd.ntmps3
  go_wp2_with fail
  refine K1.out.mono ?_
  rintro e w1 ⟨rfl, hb1⟩
  have b1 := keep hb1
  clear hb1
  go_wp2_with fail
  refine (K2.out w1 b1.out).mono ?_
  rintro e w2 ⟨v2, rfl, hn2⟩
  obtain ⟨a2, c2, rfl, s2, _⟩ := hn2.src
  have hb2 := hn2.2
  clear s2 hn2
  have b2 := keep (b1.out.trans (hb2.mono b1.out.size))
  clear hb2
  go_wp2_with fail
  have B3 := keep (b2.out.alloc b2.out.size (.cells #[.int .u8 1] 5))
  refine (less_any none 0 0 [] _ 1 1 [1] _ (src_nil _) (Src.builtI _ 1 1 rfl)).mono ?_
  rintro e w3 ⟨rfl, rfl⟩
  rw [less_one]
  go_wp2
  go_ret
  exact ⟨rfl, B3.out⟩

theorem tables_walk (b : Addr) (t a u d : Int) (ao : Option Addr) (m c : Nat) (l : List UInt8) (w : World) (hg : Own w b) (_ : -9223372036854775808 ≤ t ∧ t < 9223372036854775808) (_ : -9223372036854775808 ≤ a ∧ a < 9223372036854775808)
    (_ : -9223372036854775808 ≤ u ∧ u < 9223372036854775808) (_ : -9223372036854775808 ≤ d ∧ d < 9223372036854775808) (_ : m ≤ 140737488351232) (hs : Src w ao m c l) :
    Calls Tryd.prog 3 #[.int .i64 t, .int .i64 a, .int .i64 u, .int .i64 d, .slice ao m c] w fun e w' => e = .returned (.bool true) ∧ Below w.heap.size w w' := by
  by_cases f1 : Fit t a 0
  · obtain ⟨⟨h1, h2⟩, ⟨h3, h4⟩, _⟩ := f1
    obtain ⟨T, rfl⟩ : ∃ T : Nat, t = (T : Int) := ⟨t.toNat, by omega⟩
    obtain ⟨A, rfl⟩ : ∃ A : Nat, a = (A : Int) := ⟨a.toNat, by omega⟩
    by_cases f2 : Fit u d m
    · obtain ⟨⟨g1, g2⟩, ⟨g3, g4⟩, g5⟩ := f2
      obtain ⟨U, rfl⟩ : ∃ T : Nat, u = (T : Int) := ⟨u.toNat, by omega⟩
      obtain ⟨B, rfl⟩ : ∃ A : Nat, d = (A : Int) := ⟨d.toNat, by omega⟩
      have hT : T ≤ 1099511627776 := by omega
      have hA : A ≤ 255 := by omega
      have hU : U ≤ 1099511627776 := by omega
      have hB : B ≤ 255 := by omega
      have hin := tables_in (l := l) hT hA hU hB
      have hle := tables_less (l := l) hT hA hU hB
      by_cases hTU : T = U
      · subst hTU
        by_cases hAB : A = B
        · subst hAB
          have hx := hle.2 ⟨rfl, rfl⟩
          exact tables_same b T A ao m c l w hg hT hA hU hB g5 hs (keep hx.1) (keep hx.2) (keep (by rw [hin]; exact decide_eq_true ⟨rfl, rfl⟩))
        · have hq : decide (mk T A [] <+: mk T B l) = false := by rw [hin]; exact decide_eq_false (fun h => hAB h.2)
          cases hp : less (mk T B l) (mk T A []) with
          | true => exact tables_tab_a b T A B ao m c l w hg hT hA hU hB g5 hs hAB (keep hp) (keep hq)
          | false =>
            have hn : less (mk T B l) (next (mk T A [])) = false := by
              cases hn : less (mk T B l) (next (mk T A [])) with
              | false => rfl
              | true => exact absurd (hle.1 ⟨hp, hn⟩).2 hAB
            exact tables_tab_b b T A B ao m c l w hg hT hA hU hB g5 hs hAB (keep hp) (keep hn) (keep hq)
      · have hq : decide (mk T A [] <+: mk U B l) = false := by rw [hin]; exact decide_eq_false (fun h => hTU h.1)
        cases hp : less (mk U B l) (mk T A []) with
        | true => exact tables_tree_a b T A U B ao m c l w hg hT hA hU hB g5 hs hTU (keep hp) (keep hq)
        | false =>
          have hn : less (mk U B l) (next (mk T A [])) = false := by
            cases hn : less (mk U B l) (next (mk T A [])) with
            | false => rfl
            | true => exact absurd (hle.1 ⟨hp, hn⟩).1 hTU
          exact tables_tree_b b T A U B ao m c l w hg hT hA hU hB g5 hs hTU (keep hp) (keep hn) (keep hq)
    · exact tables_yn b T A u d ao m c w hg (by omega) (by omega) f2
  · by_cases f2 : Fit u d m
    · obtain ⟨⟨g1, g2⟩, ⟨g3, g4⟩, g5⟩ := f2
      obtain ⟨U, rfl⟩ : ∃ T : Nat, u = (T : Int) := ⟨u.toNat, by omega⟩
      obtain ⟨B, rfl⟩ : ∃ A : Nat, d = (A : Int) := ⟨d.toNat, by omega⟩
      exact tables_ny b t a U B ao m c l w hg f1 (by omega) (by omega) g5 hs
    · exact tables_nn b t a u d ao m c w hg f1 f2
end Go.Proofs.YtomceheophnjnabDoor
