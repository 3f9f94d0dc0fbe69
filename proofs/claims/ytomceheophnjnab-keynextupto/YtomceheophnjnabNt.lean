/- The walk of the statement on all that begin with a prefix. -/
import Derived.Test.YtomceheophnjnabCp
import Derived.Test.YtomceheophnjnabNx
import Derived.Test.YtomceheophnjnabAi
namespace Go.Proofs.Ytomceheophnjnab
open Go.RowKit

theorem begins_self (p k : List UInt8) : decide (p <+: p ++ k) = true := decide_eq_true (List.prefix_append p k)
theorem in_of {p k : List UInt8} (h : less k p = false) (h2 : next p = []) : decide (p <+: k) = true := decide_eq_true ((next_spec p k).1 ⟨h, .inl h2⟩)
theorem in_not {p k : List UInt8} (h : less k p = true) : decide (p <+: k) = false := decide_eq_false (fun hp => by have := ((next_spec p k).2 hp).1; rw [h] at this; cases this)
theorem in_next {p k : List UInt8} (h : less k p = false) (h2 : next p ≠ []) : decide (p <+: k) = less k (next p) := by
  rw [Bool.eq_iff_iff, decide_eq_true_iff, ← next_spec p k]
  simp [h, h2]

set_option maxHeartbeats 1000000 in
set_option maxRecDepth 100000 in
theorem next_no (ao : Option Addr) (m c : Nat) (l : List UInt8) (ao2 : Option Addr) (m2 c2 : Nat) (l2 : List UInt8) (w : World) (hm : m + m2 ≤ 1048576)
    (hs : Src w ao m c l) (hs2 : Src w ao2 m2 c2 l2) (h1 : Hid (less l2 l = true)) (h2 : Hid (decide (l <+: l2) = false)) :
    Calls Try.prog 3 #[.slice ao m c, .slice ao2 m2 c2] w fun e w' => e = .returned (.bool true) ∧ Below w.heap.size w w' := by
  obtain ⟨i0, hi, hz0, hz1, hz2⟩ := info_parts info5
  have HS := keep hs
  have HS2 := keep hs2
  clear hs hs2
  go_enter Try.func3, Try.ntmps3
  go_wp2_with fail
  refine (next_any ao m c l _ (by omega) HS.out).mono ?_
  rintro e w1 ⟨v1, n1, rfl, hn1⟩
  have hlen := hn1.len
  have b1 := keep hn1.2
  obtain ⟨a1, c1, rfl, s1, _⟩ := hn1.src
  have S1 := keep s1
  have T := keep (HS.out.below b1.out)
  have T2 := keep (HS2.out.below b1.out)
  clear hn1 s1
  clear hlen
  go_wp2_with fail
  refine (less_any ao2 m2 c2 l2 ao m c l _ T2.out T.out).mono ?_
  rintro e w2 ⟨rfl, rfl⟩
  rw [h1.out]
  go_wp2_with fail
  refine (has_any ao2 m2 c2 l2 ao m c l _ T2.out T.out).mono ?_
  rintro e w4 ⟨rfl, hb4⟩
  have b4 := keep (b1.out.trans (hb4.mono b1.out.size))
  have U := keep (T.out.below hb4)
  have U2 := keep (T2.out.below hb4)
  clear hb4 b1 T T2 S1
  rw [h2.out]
  go_wp2_with (first
    | (at_builtin; refine wpList_append_src_if (by rfl) _ _ 22 rfl w4.heap.size i0 _ Try.underlying22 hi hz0 hz1 hz2 rfl _ m l rfl O5.out _ m2 c2 l2 rfl (U2.out.below B5.out) (by omega) B5.out.size ?_; intro v5b w5b ho hg; have C5 := keep (B5.out.grown hg B5.out.size (fun j hj => (O5.out.lt j hj).1)); obtain ⟨a5, c5, rfl, s5, _⟩ := Src.of_own ho; have S5 := keep s5; clear ho hg s5)
    | (at_builtin; refine wpList_append_src_if (by rfl) _ _ 22 rfl w4.heap.size i0 _ Try.underlying22 hi hz0 hz1 hz2 rfl _ 0 [] rfl (World.ownsRow_made w4 #[] 0 (Nat.le_refl _) (by unfold maxLen; omega) rfl) _ m c l rfl (U.out.below ((Below.refl _ _).alloc (Nat.le_refl _) _)) (by omega) (by simp) ?_; intro v5 w5 ho hg; simp only [Nat.zero_add, List.nil_append] at ho; have B5 := keep (((Below.refl w4.heap.size w4).alloc (Nat.le_refl _) _).grown hg (by simp) (fun j hj => by cases hj; exact Nat.le_refl _)); have O5 := keep ho; clear ho hg))
  refine (has_any a5 _ c5 _ ao m c l _ S5.out (U.out.below C5.out)).mono ?_
  rintro e w6 ⟨rfl, hb6⟩
  rw [begins_self]
  have b6 := keep (b4.out.trans (((C5.out.trans (hb6.mono C5.out.size))).mono b4.out.size))
  have V := keep (U.out.below (C5.out.trans (hb6.mono C5.out.size)))
  have V2 := keep (U2.out.below (C5.out.trans (hb6.mono C5.out.size)))
  clear hb6 b4 U U2 S5 C5 B5 O5
  go_wp2_with (first
    | (at_builtin; refine wpList_append_src_if (by rfl) _ _ 22 rfl w6.heap.size i0 _ Try.underlying22 hi hz0 hz1 hz2 rfl _ m l rfl O7.out _ m2 c2 l2 rfl (V2.out.below B7.out) (by omega) B7.out.size ?_; intro v7b w7b ho hg; have C7 := keep (B7.out.grown hg B7.out.size (fun j hj => (O7.out.lt j hj).1)); obtain ⟨a7, c7, rfl, s7, _⟩ := Src.of_own ho; have S7 := keep s7; clear ho hg s7)
    | (at_builtin; refine wpList_append_src_if (by rfl) _ _ 22 rfl w6.heap.size i0 _ Try.underlying22 hi hz0 hz1 hz2 rfl _ 0 [] rfl (World.ownsRow_made w6 #[] 0 (Nat.le_refl _) (by unfold maxLen; omega) rfl) _ m c l rfl (V.out.below ((Below.refl _ _).alloc (Nat.le_refl _) _)) (by omega) (by simp) ?_; intro v7 w7 ho hg; simp only [Nat.zero_add, List.nil_append] at ho; have B7 := keep (((Below.refl w6.heap.size w6).alloc (Nat.le_refl _) _).grown hg (by simp) (fun j hj => by cases hj; exact Nat.le_refl _)); have O7 := keep ho; clear ho hg))
  refine (less_any a7 _ c7 _ ao m c l _ S7.out (V.out.below C7.out)).mono ?_
  rintro e w8 ⟨rfl, rfl⟩
  rw [less_begin]
  go_wp2
  go_ret
  exact ⟨rfl, b6.out.trans (C7.out.mono b6.out.size)⟩

set_option maxHeartbeats 1000000 in
set_option maxRecDepth 100000 in
theorem next_end (ao : Option Addr) (m c : Nat) (l : List UInt8) (ao2 : Option Addr) (m2 c2 : Nat) (l2 : List UInt8) (w : World) (hm : m + m2 ≤ 1048576)
    (hs : Src w ao m c l) (hs2 : Src w ao2 m2 c2 l2) (h1 : Hid (less l2 l = false)) (h2 : Hid (decide (l <+: l2) = true)) (h4 : next l = []) :
    Calls Try.prog 3 #[.slice ao m c, .slice ao2 m2 c2] w fun e w' => e = .returned (.bool true) ∧ Below w.heap.size w w' := by
  obtain ⟨i0, hi, hz0, hz1, hz2⟩ := info_parts info5
  have HS := keep hs
  have HS2 := keep hs2
  clear hs hs2
  go_enter Try.func3, Try.ntmps3
  go_wp2_with fail
  refine (next_any ao m c l _ (by omega) HS.out).mono ?_
  rintro e w1 ⟨v1, n1, rfl, hn1⟩
  have hlen := hn1.len
  have b1 := keep hn1.2
  obtain ⟨a1, c1, rfl, s1, _⟩ := hn1.src
  have S1 := keep s1
  have T := keep (HS.out.below b1.out)
  have T2 := keep (HS2.out.below b1.out)
  clear hn1 s1
  have hn0 : n1 = 0 := by rw [h4] at hlen; simpa using hlen.symm
  subst hn0
  clear hlen h4
  go_wp2_with fail
  refine (less_any ao2 m2 c2 l2 ao m c l _ T2.out T.out).mono ?_
  rintro e w2 ⟨rfl, rfl⟩
  rw [h1.out]
  go_wp2_with fail
  refine (has_any ao2 m2 c2 l2 ao m c l _ T2.out T.out).mono ?_
  rintro e w4 ⟨rfl, hb4⟩
  have b4 := keep (b1.out.trans (hb4.mono b1.out.size))
  have U := keep (T.out.below hb4)
  have U2 := keep (T2.out.below hb4)
  clear hb4 b1 T T2 S1
  rw [h2.out]
  go_wp2_with (first
    | (at_builtin; refine wpList_append_src_if (by rfl) _ _ 22 rfl w4.heap.size i0 _ Try.underlying22 hi hz0 hz1 hz2 rfl _ m l rfl O5.out _ m2 c2 l2 rfl (U2.out.below B5.out) (by omega) B5.out.size ?_; intro v5b w5b ho hg; have C5 := keep (B5.out.grown hg B5.out.size (fun j hj => (O5.out.lt j hj).1)); obtain ⟨a5, c5, rfl, s5, _⟩ := Src.of_own ho; have S5 := keep s5; clear ho hg s5)
    | (at_builtin; refine wpList_append_src_if (by rfl) _ _ 22 rfl w4.heap.size i0 _ Try.underlying22 hi hz0 hz1 hz2 rfl _ 0 [] rfl (World.ownsRow_made w4 #[] 0 (Nat.le_refl _) (by unfold maxLen; omega) rfl) _ m c l rfl (U.out.below ((Below.refl _ _).alloc (Nat.le_refl _) _)) (by omega) (by simp) ?_; intro v5 w5 ho hg; simp only [Nat.zero_add, List.nil_append] at ho; have B5 := keep (((Below.refl w4.heap.size w4).alloc (Nat.le_refl _) _).grown hg (by simp) (fun j hj => by cases hj; exact Nat.le_refl _)); have O5 := keep ho; clear ho hg))
  refine (has_any a5 _ c5 _ ao m c l _ S5.out (U.out.below C5.out)).mono ?_
  rintro e w6 ⟨rfl, hb6⟩
  rw [begins_self]
  have b6 := keep (b4.out.trans (((C5.out.trans (hb6.mono C5.out.size))).mono b4.out.size))
  have V := keep (U.out.below (C5.out.trans (hb6.mono C5.out.size)))
  have V2 := keep (U2.out.below (C5.out.trans (hb6.mono C5.out.size)))
  clear hb6 b4 U U2 S5 C5 B5 O5
  go_wp2_with (first
    | (at_builtin; refine wpList_append_src_if (by rfl) _ _ 22 rfl w6.heap.size i0 _ Try.underlying22 hi hz0 hz1 hz2 rfl _ m l rfl O7.out _ m2 c2 l2 rfl (V2.out.below B7.out) (by omega) B7.out.size ?_; intro v7b w7b ho hg; have C7 := keep (B7.out.grown hg B7.out.size (fun j hj => (O7.out.lt j hj).1)); obtain ⟨a7, c7, rfl, s7, _⟩ := Src.of_own ho; have S7 := keep s7; clear ho hg s7)
    | (at_builtin; refine wpList_append_src_if (by rfl) _ _ 22 rfl w6.heap.size i0 _ Try.underlying22 hi hz0 hz1 hz2 rfl _ 0 [] rfl (World.ownsRow_made w6 #[] 0 (Nat.le_refl _) (by unfold maxLen; omega) rfl) _ m c l rfl (V.out.below ((Below.refl _ _).alloc (Nat.le_refl _) _)) (by omega) (by simp) ?_; intro v7 w7 ho hg; simp only [Nat.zero_add, List.nil_append] at ho; have B7 := keep (((Below.refl w6.heap.size w6).alloc (Nat.le_refl _) _).grown hg (by simp) (fun j hj => by cases hj; exact Nat.le_refl _)); have O7 := keep ho; clear ho hg))
  refine (less_any a7 _ c7 _ ao m c l _ S7.out (V.out.below C7.out)).mono ?_
  rintro e w8 ⟨rfl, rfl⟩
  rw [less_begin]
  go_wp2
  go_ret
  exact ⟨rfl, b6.out.trans (C7.out.mono b6.out.size)⟩

set_option maxHeartbeats 1000000 in
set_option maxRecDepth 100000 in
theorem next_in_t (ao : Option Addr) (m c : Nat) (l : List UInt8) (ao2 : Option Addr) (m2 c2 : Nat) (l2 : List UInt8) (w : World) (hm : m + m2 ≤ 1048576)
    (hs : Src w ao m c l) (hs2 : Src w ao2 m2 c2 l2) (h1 : Hid (less l2 l = false)) (h2 : Hid (decide (l <+: l2) = true)) (h3 : Hid (less l2 (next l) = true)) (h4 : next l ≠ []) :
    Calls Try.prog 3 #[.slice ao m c, .slice ao2 m2 c2] w fun e w' => e = .returned (.bool true) ∧ Below w.heap.size w w' := by
  obtain ⟨i0, hi, hz0, hz1, hz2⟩ := info_parts info5
  have HS := keep hs
  have HS2 := keep hs2
  clear hs hs2
  go_enter Try.func3, Try.ntmps3
  go_wp2_with fail
  refine (next_any ao m c l _ (by omega) HS.out).mono ?_
  rintro e w1 ⟨v1, n1, rfl, hn1⟩
  have hlen := hn1.len
  have b1 := keep hn1.2
  obtain ⟨a1, c1, rfl, s1, _⟩ := hn1.src
  have S1 := keep s1
  have T := keep (HS.out.below b1.out)
  have T2 := keep (HS2.out.below b1.out)
  clear hn1 s1
  have hn0 : n1 ≠ 0 := fun e => h4 (List.length_eq_zero_iff.1 (by omega))
  have hn2 : ((n1 : Int) == 0) = false := by rw [beq_eq_false_iff_ne]; omega
  clear hlen h4
  go_wp2_with fail
  refine (less_any ao2 m2 c2 l2 ao m c l _ T2.out T.out).mono ?_
  rintro e w2 ⟨rfl, rfl⟩
  rw [h1.out]
  go_wp2_with fail
  refine (less_any ao2 m2 c2 l2 a1 n1 c1 _ _ T2.out S1.out).mono ?_
  rintro e w3 ⟨rfl, rfl⟩
  rw [h3.out]
  go_wp2_with fail
  refine (has_any ao2 m2 c2 l2 ao m c l _ T2.out T.out).mono ?_
  rintro e w4 ⟨rfl, hb4⟩
  have b4 := keep (b1.out.trans (hb4.mono b1.out.size))
  have U := keep (T.out.below hb4)
  have U2 := keep (T2.out.below hb4)
  clear hb4 b1 T T2 S1
  rw [h2.out]
  go_wp2_with (first
    | (at_builtin; refine wpList_append_src_if (by rfl) _ _ 22 rfl w4.heap.size i0 _ Try.underlying22 hi hz0 hz1 hz2 rfl _ m l rfl O5.out _ m2 c2 l2 rfl (U2.out.below B5.out) (by omega) B5.out.size ?_; intro v5b w5b ho hg; have C5 := keep (B5.out.grown hg B5.out.size (fun j hj => (O5.out.lt j hj).1)); obtain ⟨a5, c5, rfl, s5, _⟩ := Src.of_own ho; have S5 := keep s5; clear ho hg s5)
    | (at_builtin; refine wpList_append_src_if (by rfl) _ _ 22 rfl w4.heap.size i0 _ Try.underlying22 hi hz0 hz1 hz2 rfl _ 0 [] rfl (World.ownsRow_made w4 #[] 0 (Nat.le_refl _) (by unfold maxLen; omega) rfl) _ m c l rfl (U.out.below ((Below.refl _ _).alloc (Nat.le_refl _) _)) (by omega) (by simp) ?_; intro v5 w5 ho hg; simp only [Nat.zero_add, List.nil_append] at ho; have B5 := keep (((Below.refl w4.heap.size w4).alloc (Nat.le_refl _) _).grown hg (by simp) (fun j hj => by cases hj; exact Nat.le_refl _)); have O5 := keep ho; clear ho hg))
  refine (has_any a5 _ c5 _ ao m c l _ S5.out (U.out.below C5.out)).mono ?_
  rintro e w6 ⟨rfl, hb6⟩
  rw [begins_self]
  have b6 := keep (b4.out.trans (((C5.out.trans (hb6.mono C5.out.size))).mono b4.out.size))
  have V := keep (U.out.below (C5.out.trans (hb6.mono C5.out.size)))
  have V2 := keep (U2.out.below (C5.out.trans (hb6.mono C5.out.size)))
  clear hb6 b4 U U2 S5 C5 B5 O5
  go_wp2_with (first
    | (at_builtin; refine wpList_append_src_if (by rfl) _ _ 22 rfl w6.heap.size i0 _ Try.underlying22 hi hz0 hz1 hz2 rfl _ m l rfl O7.out _ m2 c2 l2 rfl (V2.out.below B7.out) (by omega) B7.out.size ?_; intro v7b w7b ho hg; have C7 := keep (B7.out.grown hg B7.out.size (fun j hj => (O7.out.lt j hj).1)); obtain ⟨a7, c7, rfl, s7, _⟩ := Src.of_own ho; have S7 := keep s7; clear ho hg s7)
    | (at_builtin; refine wpList_append_src_if (by rfl) _ _ 22 rfl w6.heap.size i0 _ Try.underlying22 hi hz0 hz1 hz2 rfl _ 0 [] rfl (World.ownsRow_made w6 #[] 0 (Nat.le_refl _) (by unfold maxLen; omega) rfl) _ m c l rfl (V.out.below ((Below.refl _ _).alloc (Nat.le_refl _) _)) (by omega) (by simp) ?_; intro v7 w7 ho hg; simp only [Nat.zero_add, List.nil_append] at ho; have B7 := keep (((Below.refl w6.heap.size w6).alloc (Nat.le_refl _) _).grown hg (by simp) (fun j hj => by cases hj; exact Nat.le_refl _)); have O7 := keep ho; clear ho hg))
  refine (less_any a7 _ c7 _ ao m c l _ S7.out (V.out.below C7.out)).mono ?_
  rintro e w8 ⟨rfl, rfl⟩
  rw [less_begin]
  go_wp2
  go_ret
  exact ⟨rfl, b6.out.trans (C7.out.mono b6.out.size)⟩

set_option maxHeartbeats 1000000 in
set_option maxRecDepth 100000 in
theorem next_in_f (ao : Option Addr) (m c : Nat) (l : List UInt8) (ao2 : Option Addr) (m2 c2 : Nat) (l2 : List UInt8) (w : World) (hm : m + m2 ≤ 1048576)
    (hs : Src w ao m c l) (hs2 : Src w ao2 m2 c2 l2) (h1 : Hid (less l2 l = false)) (h2 : Hid (decide (l <+: l2) = false)) (h3 : Hid (less l2 (next l) = false)) (h4 : next l ≠ []) :
    Calls Try.prog 3 #[.slice ao m c, .slice ao2 m2 c2] w fun e w' => e = .returned (.bool true) ∧ Below w.heap.size w w' := by
  obtain ⟨i0, hi, hz0, hz1, hz2⟩ := info_parts info5
  have HS := keep hs
  have HS2 := keep hs2
  clear hs hs2
  go_enter Try.func3, Try.ntmps3
  go_wp2_with fail
  refine (next_any ao m c l _ (by omega) HS.out).mono ?_
  rintro e w1 ⟨v1, n1, rfl, hn1⟩
  have hlen := hn1.len
  have b1 := keep hn1.2
  obtain ⟨a1, c1, rfl, s1, _⟩ := hn1.src
  have S1 := keep s1
  have T := keep (HS.out.below b1.out)
  have T2 := keep (HS2.out.below b1.out)
  clear hn1 s1
  have hn0 : n1 ≠ 0 := fun e => h4 (List.length_eq_zero_iff.1 (by omega))
  have hn2 : ((n1 : Int) == 0) = false := by rw [beq_eq_false_iff_ne]; omega
  clear hlen h4
  go_wp2_with fail
  refine (less_any ao2 m2 c2 l2 ao m c l _ T2.out T.out).mono ?_
  rintro e w2 ⟨rfl, rfl⟩
  rw [h1.out]
  go_wp2_with fail
  refine (less_any ao2 m2 c2 l2 a1 n1 c1 _ _ T2.out S1.out).mono ?_
  rintro e w3 ⟨rfl, rfl⟩
  rw [h3.out]
  go_wp2_with fail
  refine (has_any ao2 m2 c2 l2 ao m c l _ T2.out T.out).mono ?_
  rintro e w4 ⟨rfl, hb4⟩
  have b4 := keep (b1.out.trans (hb4.mono b1.out.size))
  have U := keep (T.out.below hb4)
  have U2 := keep (T2.out.below hb4)
  clear hb4 b1 T T2 S1
  rw [h2.out]
  go_wp2_with (first
    | (at_builtin; refine wpList_append_src_if (by rfl) _ _ 22 rfl w4.heap.size i0 _ Try.underlying22 hi hz0 hz1 hz2 rfl _ m l rfl O5.out _ m2 c2 l2 rfl (U2.out.below B5.out) (by omega) B5.out.size ?_; intro v5b w5b ho hg; have C5 := keep (B5.out.grown hg B5.out.size (fun j hj => (O5.out.lt j hj).1)); obtain ⟨a5, c5, rfl, s5, _⟩ := Src.of_own ho; have S5 := keep s5; clear ho hg s5)
    | (at_builtin; refine wpList_append_src_if (by rfl) _ _ 22 rfl w4.heap.size i0 _ Try.underlying22 hi hz0 hz1 hz2 rfl _ 0 [] rfl (World.ownsRow_made w4 #[] 0 (Nat.le_refl _) (by unfold maxLen; omega) rfl) _ m c l rfl (U.out.below ((Below.refl _ _).alloc (Nat.le_refl _) _)) (by omega) (by simp) ?_; intro v5 w5 ho hg; simp only [Nat.zero_add, List.nil_append] at ho; have B5 := keep (((Below.refl w4.heap.size w4).alloc (Nat.le_refl _) _).grown hg (by simp) (fun j hj => by cases hj; exact Nat.le_refl _)); have O5 := keep ho; clear ho hg))
  refine (has_any a5 _ c5 _ ao m c l _ S5.out (U.out.below C5.out)).mono ?_
  rintro e w6 ⟨rfl, hb6⟩
  rw [begins_self]
  have b6 := keep (b4.out.trans (((C5.out.trans (hb6.mono C5.out.size))).mono b4.out.size))
  have V := keep (U.out.below (C5.out.trans (hb6.mono C5.out.size)))
  have V2 := keep (U2.out.below (C5.out.trans (hb6.mono C5.out.size)))
  clear hb6 b4 U U2 S5 C5 B5 O5
  go_wp2_with (first
    | (at_builtin; refine wpList_append_src_if (by rfl) _ _ 22 rfl w6.heap.size i0 _ Try.underlying22 hi hz0 hz1 hz2 rfl _ m l rfl O7.out _ m2 c2 l2 rfl (V2.out.below B7.out) (by omega) B7.out.size ?_; intro v7b w7b ho hg; have C7 := keep (B7.out.grown hg B7.out.size (fun j hj => (O7.out.lt j hj).1)); obtain ⟨a7, c7, rfl, s7, _⟩ := Src.of_own ho; have S7 := keep s7; clear ho hg s7)
    | (at_builtin; refine wpList_append_src_if (by rfl) _ _ 22 rfl w6.heap.size i0 _ Try.underlying22 hi hz0 hz1 hz2 rfl _ 0 [] rfl (World.ownsRow_made w6 #[] 0 (Nat.le_refl _) (by unfold maxLen; omega) rfl) _ m c l rfl (V.out.below ((Below.refl _ _).alloc (Nat.le_refl _) _)) (by omega) (by simp) ?_; intro v7 w7 ho hg; simp only [Nat.zero_add, List.nil_append] at ho; have B7 := keep (((Below.refl w6.heap.size w6).alloc (Nat.le_refl _) _).grown hg (by simp) (fun j hj => by cases hj; exact Nat.le_refl _)); have O7 := keep ho; clear ho hg))
  refine (less_any a7 _ c7 _ ao m c l _ S7.out (V.out.below C7.out)).mono ?_
  rintro e w8 ⟨rfl, rfl⟩
  rw [less_begin]
  go_wp2
  go_ret
  exact ⟨rfl, b6.out.trans (C7.out.mono b6.out.size)⟩

theorem nexts_walk (ao : Option Addr) (m c : Nat) (l : List UInt8) (ao2 : Option Addr) (m2 c2 : Nat) (l2 : List UInt8) (w : World) (hm : m + m2 ≤ 1048576) (hs : Src w ao m c l) (hs2 : Src w ao2 m2 c2 l2) :
    Calls Try.prog 3 #[.slice ao m c, .slice ao2 m2 c2] w fun e w' => e = .returned (.bool true) ∧ Below w.heap.size w w' := by
  cases h : less l2 l with
  | true => exact next_no ao m c l ao2 m2 c2 l2 w hm hs hs2 (keep h) (keep (in_not h))
  | false =>
    by_cases h2 : next l = []
    · exact next_end ao m c l ao2 m2 c2 l2 w hm hs hs2 (keep h) (keep (in_of h h2)) h2
    · cases h3 : less l2 (next l) with
      | true => exact next_in_t ao m c l ao2 m2 c2 l2 w hm hs hs2 (keep h) (keep ((in_next h h2).trans h3)) (keep h3) h2
      | false => exact next_in_f ao m c l ao2 m2 c2 l2 w hm hs hs2 (keep h) (keep ((in_next h h2).trans h3)) (keep h3) h2
end Go.Proofs.Ytomceheophnjnab
