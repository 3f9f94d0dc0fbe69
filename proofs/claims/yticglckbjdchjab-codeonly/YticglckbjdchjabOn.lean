/- The walk of the statement that no other bytes say the same. -/
import Derived.Test.YticglckbjdchjabSp
import Derived.Test.YticglckbjdchjabRs
namespace Go.Proofs.Yticglckbjdchjab
open Go.RowKit

theorem takeNum_five : takeNum [5] = some (5, []) := by
  have e : ([5] : List UInt8) = num 5 ++ [] := by rw [num_small (by omega)]; rfl
  rw [e]
  exact takeNum_put (by omega)
theorem cl_nat' (n : Nat) (h : n < 4611686018427387904) : cl (n : Int) = n := by unfold cl; omega
theorem frame_nil_any (ao2 : Option Addr) (m2 c2 : Nat) (body : List UInt8) (w : World) (hm : m2 + 13 ≤ 140737488355328) (hs2 : Src w ao2 m2 c2 body) :
    Calls Try.prog 14 #[.slice none 0 0, .slice ao2 m2 c2] w fun e w' => ∃ a c, e = .returned (.slice a (frame body).length c) ∧ New w w' (.slice a (frame body).length c) (frame body).length (frame body) :=
  (putFrame_any none 0 0 [] ao2 m2 c2 body w (by omega) (src_nil w) hs2).mono fun e w' ⟨v, he, h⟩ => by
    simp only [Nat.zero_add, List.nil_append] at h
    obtain ⟨a, c, rfl, _, _⟩ := h.src
    exact ⟨a, c, he, h⟩

set_option maxHeartbeats 1000000 in
set_option maxRecDepth 100000 in
theorem only_yyy (ao : Option Addr) (m c : Nat) (l : List UInt8) (w : World) (hm : m ≤ 140737488351232) (hs : Src w ao m c l) (n : Nat) (r : List UInt8) (h1 : takeNum l = some (n, r)) (N : Nat) (h28 : 8 ≤ m) (h2N : big (l.take 8) = N) (h2b : N < 9223372036854775808) (Bd R : List UInt8) (h3 : tfr l (m : Int) = some (Bd, R)) :
    Calls Try.prog 3 #[.slice ao m c] w fun e w' => e = .returned (.bool true) ∧ Below w.heap.size w w' := by
  obtain ⟨i0, hi, hz0, hz1, hz2⟩ := info_parts info5
  have hll := hs.len
  have q1 := takeNum_some h1
  have K1 := keep (fun w' (hb : Below w.heap.size w w') => takeNum_yes (by omega) (hs.below hb) h1)
  have K1p := keep (fun w' => putNum_nil (n : Int) w')
  simp only [cl_nat' n q1.1] at K1p
  have E1 := keep q1.2
  have l1 : (num n).length + r.length = m := by rw [← hll, ← List.length_append, ← q1.2]
  clear q1
  generalize num n = H1 at K1p E1 l1
  have K2 := keep (fun w' (hb : Below w.heap.size w w') => takeFix_yes (by omega) (hs.below hb) h28 h2N h2b rfl rfl)
  have K2p := keep (fun w' => putFix_nil (N : Int) w' (by omega))
  simp only [Int.toNat_natCast] at K2p
  have E2 : Hid (l = be 8 N ++ l.drop 8) := by
    have e := be_big (l.take 8)
    rw [List.length_take, Nat.min_eq_left (by omega), h2N] at e
    show _ = _
    rw [e, List.take_append_drop]
  clear h2N
  have K3 := keep (fun w' (hb : Below w.heap.size w w') => takeFrame_yes (by omega) (hs.below hb) h3)
  have q3 := (tfr_some h3).1
  have E3 := keep q3
  have f3 := frame_length Bd
  have l3 : (frame Bd).length + R.length = m := by rw [← hll, ← List.length_append, ← q3]
  have K3p := keep (fun a c w' (h : Src w' a Bd.length c Bd) => frame_nil_any a Bd.length c Bd w' (by omega) h)
  clear q3 f3
  generalize frame Bd = FB at K3p E3 l3
  have K4 := keep (fun w' => takeNum_yes (w := w'.alloc (.cells #[.int .u8 ((5 : UInt8).toNat : Int)] 5)) (by omega) (Src.built w' 5) takeNum_five)
  have HS := keep hs
  clear hs h1 h3
  go_enter Try.func3, Try.ntmps3
  go_wp2_with fail
  go_fit (K1.out w (Below.refl _ _))
  rintro e w1 ⟨a1, c1, rfl, hs1, hb1⟩
  have b1 := keep hb1
  have S1 := keep hs1
  clear hb1 hs1 K1
  go_wp2_with fail
  go_fit (K1p.out w1)
  rintro e w2 ⟨a2, c2, rfl, hn2⟩
  have O := keep hn2.1
  have B := keep hn2.2
  have S := keep (S1.out.below hn2.2)
  clear hn2 K1p S1
  go_wp2_with (at_builtin; refine wpList_append_src_if (by rfl) _ _ 22 rfl w1.heap.size i0 _ Try.underlying22 hi hz0 hz1 hz2 rfl _ H1.length H1 rfl O.out a1 r.length c1 r rfl S.out (by omega) B.out.size ?_; intro v3 w3 ho3 hg3; have B3 := keep (B.out.grown hg3 B.out.size (fun j hj => (O.out.lt j hj).1)); have O3 := keep ho3; clear ho3 hg3)
  obtain ⟨a3, c3, rfl, hs3, _⟩ := Src.of_own O3.out
  have T3 := keep hs3
  have d3 := keep (b1.out.trans (B3.out.mono b1.out.size))
  clear hs3 O O3 B B3 S b1
  go_wp2_with fail
  refine (same_any a3 _ c3 (H1 ++ r) ao m c l w3 T3.out (HS.out.below d3.out)).mono ?_
  rintro e w4 ⟨rfl, hb4⟩
  have b4 := keep (d3.out.trans (hb4.mono d3.out.size))
  rw [decide_eq_true E1.out.symm]
  clear hb4 d3 T3 E1
  go_wp2_with fail
  go_fit (K2.out w4 b4.out)
  rintro e w5 ⟨a5, c5, rfl, hs5, hb5⟩
  have b5 := keep (b4.out.trans (hb5.mono b4.out.size))
  have S5 := keep hs5
  clear hb5 hs5 K2 b4
  go_wp2_with fail
  go_fit (K2p.out w5)
  rintro e w6 ⟨a6, c6, rfl, hn6⟩
  have O := keep hn6.1
  have B := keep hn6.2
  have S := keep (S5.out.below hn6.2)
  clear hn6 K2p S5
  go_wp2_with (at_builtin; refine wpList_append_src_if (by rfl) _ _ 22 rfl w5.heap.size i0 _ Try.underlying22 hi hz0 hz1 hz2 rfl _ 8 (be 8 N) rfl O.out a5 (m - 8) c5 (l.drop 8) rfl S.out (by omega) B.out.size ?_; intro v7 w7 ho3 hg3; have B3 := keep (B.out.grown hg3 B.out.size (fun j hj => (O.out.lt j hj).1)); have O3 := keep ho3; clear ho3 hg3)
  obtain ⟨a3, c3, rfl, hs3, _⟩ := Src.of_own O3.out
  have T3 := keep hs3
  have d3 := keep (b5.out.trans (B3.out.mono b5.out.size))
  clear hs3 O O3 B B3 S b5
  go_wp2_with fail
  refine (same_any a3 _ c3 (be 8 N ++ l.drop 8) ao m c l w7 T3.out (HS.out.below d3.out)).mono ?_
  rintro e w8 ⟨rfl, hb8⟩
  have b8 := keep (d3.out.trans (hb8.mono d3.out.size))
  rw [decide_eq_true E2.out.symm]
  clear hb8 d3 T3 E2
  go_wp2_with fail
  go_fit (K3.out w8 b8.out)
  rintro e w9 ⟨a9, c9, x9, y9, rfl, hs9, ht9, hb9⟩
  have b9 := keep (b8.out.trans (hb9.mono b8.out.size))
  have S9 := keep hs9
  have T9 := keep ht9
  clear hb9 hs9 ht9 K3 b8
  go_wp2_with fail
  go_fit (K3p.out a9 c9 w9 S9.out)
  rintro e w10 ⟨a10, c10, rfl, hn10⟩
  have O := keep hn10.1
  have B := keep hn10.2
  have S := keep (T9.out.below hn10.2)
  clear hn10 K3p S9 T9
  go_wp2_with (at_builtin; refine wpList_append_src_if (by rfl) _ _ 22 rfl w9.heap.size i0 _ Try.underlying22 hi hz0 hz1 hz2 rfl _ FB.length FB rfl O.out x9 R.length y9 R rfl S.out (by omega) B.out.size ?_; intro v11 w11 ho3 hg3; have B3 := keep (B.out.grown hg3 B.out.size (fun j hj => (O.out.lt j hj).1)); have O3 := keep ho3; clear ho3 hg3)
  obtain ⟨a3, c3, rfl, hs3, _⟩ := Src.of_own O3.out
  have T3 := keep hs3
  have d3 := keep (b9.out.trans (B3.out.mono b9.out.size))
  clear hs3 O O3 B B3 S b9
  go_wp2_with fail
  refine (same_any a3 _ c3 (FB ++ R) ao m c l w11 T3.out (HS.out.below d3.out)).mono ?_
  rintro e w12 ⟨rfl, hb12⟩
  have b12 := keep (d3.out.trans (hb12.mono d3.out.size))
  rw [decide_eq_true E3.out.symm]
  clear hb12 d3 T3 E3
  go_wp2_with fail
  go_fit (K4.out w12)
  rintro e w13 ⟨a13, c13, rfl, _, hb13⟩
  have b13 := keep ((b12.out.alloc b12.out.size _).trans (hb13.mono (le_alloc b12.out.size _)))
  clear hb13 K4 b12
  go_wp2
  go_ret
  exact ⟨rfl, b13.out⟩

set_option maxHeartbeats 1000000 in
set_option maxRecDepth 100000 in
theorem only_yyn (ao : Option Addr) (m c : Nat) (l : List UInt8) (w : World) (hm : m ≤ 140737488351232) (hs : Src w ao m c l) (n : Nat) (r : List UInt8) (h1 : takeNum l = some (n, r)) (N : Nat) (h28 : 8 ≤ m) (h2N : big (l.take 8) = N) (h2b : N < 9223372036854775808) (h3 : tfr l (m : Int) = none) :
    Calls Try.prog 3 #[.slice ao m c] w fun e w' => e = .returned (.bool true) ∧ Below w.heap.size w w' := by
  obtain ⟨i0, hi, hz0, hz1, hz2⟩ := info_parts info5
  have hll := hs.len
  have q1 := takeNum_some h1
  have K1 := keep (fun w' (hb : Below w.heap.size w w') => takeNum_yes (by omega) (hs.below hb) h1)
  have K1p := keep (fun w' => putNum_nil (n : Int) w')
  simp only [cl_nat' n q1.1] at K1p
  have E1 := keep q1.2
  have l1 : (num n).length + r.length = m := by rw [← hll, ← List.length_append, ← q1.2]
  clear q1
  generalize num n = H1 at K1p E1 l1
  have K2 := keep (fun w' (hb : Below w.heap.size w w') => takeFix_yes (by omega) (hs.below hb) h28 h2N h2b rfl rfl)
  have K2p := keep (fun w' => putFix_nil (N : Int) w' (by omega))
  simp only [Int.toNat_natCast] at K2p
  have E2 : Hid (l = be 8 N ++ l.drop 8) := by
    have e := be_big (l.take 8)
    rw [List.length_take, Nat.min_eq_left (by omega), h2N] at e
    show _ = _
    rw [e, List.take_append_drop]
  clear h2N
  have K3 := keep (fun w' (hb : Below w.heap.size w w') => takeFrame_no (by omega) (hs.below hb) h3)
  have K4 := keep (fun w' => takeNum_yes (w := w'.alloc (.cells #[.int .u8 ((5 : UInt8).toNat : Int)] 5)) (by omega) (Src.built w' 5) takeNum_five)
  have HS := keep hs
  clear hs h1 h3
  go_enter Try.func3, Try.ntmps3
  go_wp2_with fail
  go_fit (K1.out w (Below.refl _ _))
  rintro e w1 ⟨a1, c1, rfl, hs1, hb1⟩
  have b1 := keep hb1
  have S1 := keep hs1
  clear hb1 hs1 K1
  go_wp2_with fail
  go_fit (K1p.out w1)
  rintro e w2 ⟨a2, c2, rfl, hn2⟩
  have O := keep hn2.1
  have B := keep hn2.2
  have S := keep (S1.out.below hn2.2)
  clear hn2 K1p S1
  go_wp2_with (at_builtin; refine wpList_append_src_if (by rfl) _ _ 22 rfl w1.heap.size i0 _ Try.underlying22 hi hz0 hz1 hz2 rfl _ H1.length H1 rfl O.out a1 r.length c1 r rfl S.out (by omega) B.out.size ?_; intro v3 w3 ho3 hg3; have B3 := keep (B.out.grown hg3 B.out.size (fun j hj => (O.out.lt j hj).1)); have O3 := keep ho3; clear ho3 hg3)
  obtain ⟨a3, c3, rfl, hs3, _⟩ := Src.of_own O3.out
  have T3 := keep hs3
  have d3 := keep (b1.out.trans (B3.out.mono b1.out.size))
  clear hs3 O O3 B B3 S b1
  go_wp2_with fail
  refine (same_any a3 _ c3 (H1 ++ r) ao m c l w3 T3.out (HS.out.below d3.out)).mono ?_
  rintro e w4 ⟨rfl, hb4⟩
  have b4 := keep (d3.out.trans (hb4.mono d3.out.size))
  rw [decide_eq_true E1.out.symm]
  clear hb4 d3 T3 E1
  go_wp2_with fail
  go_fit (K2.out w4 b4.out)
  rintro e w5 ⟨a5, c5, rfl, hs5, hb5⟩
  have b5 := keep (b4.out.trans (hb5.mono b4.out.size))
  have S5 := keep hs5
  clear hb5 hs5 K2 b4
  go_wp2_with fail
  go_fit (K2p.out w5)
  rintro e w6 ⟨a6, c6, rfl, hn6⟩
  have O := keep hn6.1
  have B := keep hn6.2
  have S := keep (S5.out.below hn6.2)
  clear hn6 K2p S5
  go_wp2_with (at_builtin; refine wpList_append_src_if (by rfl) _ _ 22 rfl w5.heap.size i0 _ Try.underlying22 hi hz0 hz1 hz2 rfl _ 8 (be 8 N) rfl O.out a5 (m - 8) c5 (l.drop 8) rfl S.out (by omega) B.out.size ?_; intro v7 w7 ho3 hg3; have B3 := keep (B.out.grown hg3 B.out.size (fun j hj => (O.out.lt j hj).1)); have O3 := keep ho3; clear ho3 hg3)
  obtain ⟨a3, c3, rfl, hs3, _⟩ := Src.of_own O3.out
  have T3 := keep hs3
  have d3 := keep (b5.out.trans (B3.out.mono b5.out.size))
  clear hs3 O O3 B B3 S b5
  go_wp2_with fail
  refine (same_any a3 _ c3 (be 8 N ++ l.drop 8) ao m c l w7 T3.out (HS.out.below d3.out)).mono ?_
  rintro e w8 ⟨rfl, hb8⟩
  have b8 := keep (d3.out.trans (hb8.mono d3.out.size))
  rw [decide_eq_true E2.out.symm]
  clear hb8 d3 T3 E2
  go_wp2_with fail
  go_fit (K3.out w8 b8.out)
  rintro e w12 ⟨rfl, hb12⟩
  have b12 := keep (b8.out.trans (hb12.mono b8.out.size))
  clear hb12 K3 b8
  go_wp2_with fail
  go_fit (K4.out w12)
  rintro e w13 ⟨a13, c13, rfl, _, hb13⟩
  have b13 := keep ((b12.out.alloc b12.out.size _).trans (hb13.mono (le_alloc b12.out.size _)))
  clear hb13 K4 b12
  go_wp2
  go_ret
  exact ⟨rfl, b13.out⟩

set_option maxHeartbeats 1000000 in
set_option maxRecDepth 100000 in
theorem only_yny (ao : Option Addr) (m c : Nat) (l : List UInt8) (w : World) (hm : m ≤ 140737488351232) (hs : Src w ao m c l) (n : Nat) (r : List UInt8) (h1 : takeNum l = some (n, r)) (h2 : ¬ (8 ≤ m ∧ big (l.take 8) < 9223372036854775808)) (Bd R : List UInt8) (h3 : tfr l (m : Int) = some (Bd, R)) :
    Calls Try.prog 3 #[.slice ao m c] w fun e w' => e = .returned (.bool true) ∧ Below w.heap.size w w' := by
  obtain ⟨i0, hi, hz0, hz1, hz2⟩ := info_parts info5
  have hll := hs.len
  have q1 := takeNum_some h1
  have K1 := keep (fun w' (hb : Below w.heap.size w w') => takeNum_yes (by omega) (hs.below hb) h1)
  have K1p := keep (fun w' => putNum_nil (n : Int) w')
  simp only [cl_nat' n q1.1] at K1p
  have E1 := keep q1.2
  have l1 : (num n).length + r.length = m := by rw [← hll, ← List.length_append, ← q1.2]
  clear q1
  generalize num n = H1 at K1p E1 l1
  have K2 := keep (fun w' (hb : Below w.heap.size w w') => takeFix_no (by omega) (hs.below hb) h2)
  have K3 := keep (fun w' (hb : Below w.heap.size w w') => takeFrame_yes (by omega) (hs.below hb) h3)
  have q3 := (tfr_some h3).1
  have E3 := keep q3
  have f3 := frame_length Bd
  have l3 : (frame Bd).length + R.length = m := by rw [← hll, ← List.length_append, ← q3]
  have K3p := keep (fun a c w' (h : Src w' a Bd.length c Bd) => frame_nil_any a Bd.length c Bd w' (by omega) h)
  clear q3 f3
  generalize frame Bd = FB at K3p E3 l3
  have K4 := keep (fun w' => takeNum_yes (w := w'.alloc (.cells #[.int .u8 ((5 : UInt8).toNat : Int)] 5)) (by omega) (Src.built w' 5) takeNum_five)
  have HS := keep hs
  clear hs h1 h2 h3
  go_enter Try.func3, Try.ntmps3
  go_wp2_with fail
  go_fit (K1.out w (Below.refl _ _))
  rintro e w1 ⟨a1, c1, rfl, hs1, hb1⟩
  have b1 := keep hb1
  have S1 := keep hs1
  clear hb1 hs1 K1
  go_wp2_with fail
  go_fit (K1p.out w1)
  rintro e w2 ⟨a2, c2, rfl, hn2⟩
  have O := keep hn2.1
  have B := keep hn2.2
  have S := keep (S1.out.below hn2.2)
  clear hn2 K1p S1
  go_wp2_with (at_builtin; refine wpList_append_src_if (by rfl) _ _ 22 rfl w1.heap.size i0 _ Try.underlying22 hi hz0 hz1 hz2 rfl _ H1.length H1 rfl O.out a1 r.length c1 r rfl S.out (by omega) B.out.size ?_; intro v3 w3 ho3 hg3; have B3 := keep (B.out.grown hg3 B.out.size (fun j hj => (O.out.lt j hj).1)); have O3 := keep ho3; clear ho3 hg3)
  obtain ⟨a3, c3, rfl, hs3, _⟩ := Src.of_own O3.out
  have T3 := keep hs3
  have d3 := keep (b1.out.trans (B3.out.mono b1.out.size))
  clear hs3 O O3 B B3 S b1
  go_wp2_with fail
  refine (same_any a3 _ c3 (H1 ++ r) ao m c l w3 T3.out (HS.out.below d3.out)).mono ?_
  rintro e w4 ⟨rfl, hb4⟩
  have b4 := keep (d3.out.trans (hb4.mono d3.out.size))
  rw [decide_eq_true E1.out.symm]
  clear hb4 d3 T3 E1
  go_wp2_with fail
  go_fit (K2.out w4 b4.out)
  rintro e w8 ⟨rfl, hb8⟩
  have b8 := keep (b4.out.trans (hb8.mono b4.out.size))
  clear hb8 K2 b4
  go_wp2_with fail
  go_fit (K3.out w8 b8.out)
  rintro e w9 ⟨a9, c9, x9, y9, rfl, hs9, ht9, hb9⟩
  have b9 := keep (b8.out.trans (hb9.mono b8.out.size))
  have S9 := keep hs9
  have T9 := keep ht9
  clear hb9 hs9 ht9 K3 b8
  go_wp2_with fail
  go_fit (K3p.out a9 c9 w9 S9.out)
  rintro e w10 ⟨a10, c10, rfl, hn10⟩
  have O := keep hn10.1
  have B := keep hn10.2
  have S := keep (T9.out.below hn10.2)
  clear hn10 K3p S9 T9
  go_wp2_with (at_builtin; refine wpList_append_src_if (by rfl) _ _ 22 rfl w9.heap.size i0 _ Try.underlying22 hi hz0 hz1 hz2 rfl _ FB.length FB rfl O.out x9 R.length y9 R rfl S.out (by omega) B.out.size ?_; intro v11 w11 ho3 hg3; have B3 := keep (B.out.grown hg3 B.out.size (fun j hj => (O.out.lt j hj).1)); have O3 := keep ho3; clear ho3 hg3)
  obtain ⟨a3, c3, rfl, hs3, _⟩ := Src.of_own O3.out
  have T3 := keep hs3
  have d3 := keep (b9.out.trans (B3.out.mono b9.out.size))
  clear hs3 O O3 B B3 S b9
  go_wp2_with fail
  refine (same_any a3 _ c3 (FB ++ R) ao m c l w11 T3.out (HS.out.below d3.out)).mono ?_
  rintro e w12 ⟨rfl, hb12⟩
  have b12 := keep (d3.out.trans (hb12.mono d3.out.size))
  rw [decide_eq_true E3.out.symm]
  clear hb12 d3 T3 E3
  go_wp2_with fail
  go_fit (K4.out w12)
  rintro e w13 ⟨a13, c13, rfl, _, hb13⟩
  have b13 := keep ((b12.out.alloc b12.out.size _).trans (hb13.mono (le_alloc b12.out.size _)))
  clear hb13 K4 b12
  go_wp2
  go_ret
  exact ⟨rfl, b13.out⟩

set_option maxHeartbeats 1000000 in
set_option maxRecDepth 100000 in
theorem only_ynn (ao : Option Addr) (m c : Nat) (l : List UInt8) (w : World) (hm : m ≤ 140737488351232) (hs : Src w ao m c l) (n : Nat) (r : List UInt8) (h1 : takeNum l = some (n, r)) (h2 : ¬ (8 ≤ m ∧ big (l.take 8) < 9223372036854775808)) (h3 : tfr l (m : Int) = none) :
    Calls Try.prog 3 #[.slice ao m c] w fun e w' => e = .returned (.bool true) ∧ Below w.heap.size w w' := by
  obtain ⟨i0, hi, hz0, hz1, hz2⟩ := info_parts info5
  have hll := hs.len
  have q1 := takeNum_some h1
  have K1 := keep (fun w' (hb : Below w.heap.size w w') => takeNum_yes (by omega) (hs.below hb) h1)
  have K1p := keep (fun w' => putNum_nil (n : Int) w')
  simp only [cl_nat' n q1.1] at K1p
  have E1 := keep q1.2
  have l1 : (num n).length + r.length = m := by rw [← hll, ← List.length_append, ← q1.2]
  clear q1
  generalize num n = H1 at K1p E1 l1
  have K2 := keep (fun w' (hb : Below w.heap.size w w') => takeFix_no (by omega) (hs.below hb) h2)
  have K3 := keep (fun w' (hb : Below w.heap.size w w') => takeFrame_no (by omega) (hs.below hb) h3)
  have K4 := keep (fun w' => takeNum_yes (w := w'.alloc (.cells #[.int .u8 ((5 : UInt8).toNat : Int)] 5)) (by omega) (Src.built w' 5) takeNum_five)
  have HS := keep hs
  clear hs h1 h2 h3
  go_enter Try.func3, Try.ntmps3
  go_wp2_with fail
  go_fit (K1.out w (Below.refl _ _))
  rintro e w1 ⟨a1, c1, rfl, hs1, hb1⟩
  have b1 := keep hb1
  have S1 := keep hs1
  clear hb1 hs1 K1
  go_wp2_with fail
  go_fit (K1p.out w1)
  rintro e w2 ⟨a2, c2, rfl, hn2⟩
  have O := keep hn2.1
  have B := keep hn2.2
  have S := keep (S1.out.below hn2.2)
  clear hn2 K1p S1
  go_wp2_with (at_builtin; refine wpList_append_src_if (by rfl) _ _ 22 rfl w1.heap.size i0 _ Try.underlying22 hi hz0 hz1 hz2 rfl _ H1.length H1 rfl O.out a1 r.length c1 r rfl S.out (by omega) B.out.size ?_; intro v3 w3 ho3 hg3; have B3 := keep (B.out.grown hg3 B.out.size (fun j hj => (O.out.lt j hj).1)); have O3 := keep ho3; clear ho3 hg3)
  obtain ⟨a3, c3, rfl, hs3, _⟩ := Src.of_own O3.out
  have T3 := keep hs3
  have d3 := keep (b1.out.trans (B3.out.mono b1.out.size))
  clear hs3 O O3 B B3 S b1
  go_wp2_with fail
  refine (same_any a3 _ c3 (H1 ++ r) ao m c l w3 T3.out (HS.out.below d3.out)).mono ?_
  rintro e w4 ⟨rfl, hb4⟩
  have b4 := keep (d3.out.trans (hb4.mono d3.out.size))
  rw [decide_eq_true E1.out.symm]
  clear hb4 d3 T3 E1
  go_wp2_with fail
  go_fit (K2.out w4 b4.out)
  rintro e w8 ⟨rfl, hb8⟩
  have b8 := keep (b4.out.trans (hb8.mono b4.out.size))
  clear hb8 K2 b4
  go_wp2_with fail
  go_fit (K3.out w8 b8.out)
  rintro e w12 ⟨rfl, hb12⟩
  have b12 := keep (b8.out.trans (hb12.mono b8.out.size))
  clear hb12 K3 b8
  go_wp2_with fail
  go_fit (K4.out w12)
  rintro e w13 ⟨a13, c13, rfl, _, hb13⟩
  have b13 := keep ((b12.out.alloc b12.out.size _).trans (hb13.mono (le_alloc b12.out.size _)))
  clear hb13 K4 b12
  go_wp2
  go_ret
  exact ⟨rfl, b13.out⟩

set_option maxHeartbeats 1000000 in
set_option maxRecDepth 100000 in
theorem only_nyy (ao : Option Addr) (m c : Nat) (l : List UInt8) (w : World) (hm : m ≤ 140737488351232) (hs : Src w ao m c l) (h1 : takeNum l = none) (N : Nat) (h28 : 8 ≤ m) (h2N : big (l.take 8) = N) (h2b : N < 9223372036854775808) (Bd R : List UInt8) (h3 : tfr l (m : Int) = some (Bd, R)) :
    Calls Try.prog 3 #[.slice ao m c] w fun e w' => e = .returned (.bool true) ∧ Below w.heap.size w w' := by
  obtain ⟨i0, hi, hz0, hz1, hz2⟩ := info_parts info5
  have hll := hs.len
  have K1 := keep (fun w' (hb : Below w.heap.size w w') => takeNum_no (by omega) (hs.below hb) h1)
  have K2 := keep (fun w' (hb : Below w.heap.size w w') => takeFix_yes (by omega) (hs.below hb) h28 h2N h2b rfl rfl)
  have K2p := keep (fun w' => putFix_nil (N : Int) w' (by omega))
  simp only [Int.toNat_natCast] at K2p
  have E2 : Hid (l = be 8 N ++ l.drop 8) := by
    have e := be_big (l.take 8)
    rw [List.length_take, Nat.min_eq_left (by omega), h2N] at e
    show _ = _
    rw [e, List.take_append_drop]
  clear h2N
  have K3 := keep (fun w' (hb : Below w.heap.size w w') => takeFrame_yes (by omega) (hs.below hb) h3)
  have q3 := (tfr_some h3).1
  have E3 := keep q3
  have f3 := frame_length Bd
  have l3 : (frame Bd).length + R.length = m := by rw [← hll, ← List.length_append, ← q3]
  have K3p := keep (fun a c w' (h : Src w' a Bd.length c Bd) => frame_nil_any a Bd.length c Bd w' (by omega) h)
  clear q3 f3
  generalize frame Bd = FB at K3p E3 l3
  have K4 := keep (fun w' => takeNum_yes (w := w'.alloc (.cells #[.int .u8 ((5 : UInt8).toNat : Int)] 5)) (by omega) (Src.built w' 5) takeNum_five)
  have HS := keep hs
  clear hs h1 h3
  go_enter Try.func3, Try.ntmps3
  go_wp2_with fail
  go_fit (K1.out w (Below.refl _ _))
  rintro e w4 ⟨rfl, hb4⟩
  have b4 := keep hb4
  clear hb4 K1
  go_wp2_with fail
  go_fit (K2.out w4 b4.out)
  rintro e w5 ⟨a5, c5, rfl, hs5, hb5⟩
  have b5 := keep (b4.out.trans (hb5.mono b4.out.size))
  have S5 := keep hs5
  clear hb5 hs5 K2 b4
  go_wp2_with fail
  go_fit (K2p.out w5)
  rintro e w6 ⟨a6, c6, rfl, hn6⟩
  have O := keep hn6.1
  have B := keep hn6.2
  have S := keep (S5.out.below hn6.2)
  clear hn6 K2p S5
  go_wp2_with (at_builtin; refine wpList_append_src_if (by rfl) _ _ 22 rfl w5.heap.size i0 _ Try.underlying22 hi hz0 hz1 hz2 rfl _ 8 (be 8 N) rfl O.out a5 (m - 8) c5 (l.drop 8) rfl S.out (by omega) B.out.size ?_; intro v7 w7 ho3 hg3; have B3 := keep (B.out.grown hg3 B.out.size (fun j hj => (O.out.lt j hj).1)); have O3 := keep ho3; clear ho3 hg3)
  obtain ⟨a3, c3, rfl, hs3, _⟩ := Src.of_own O3.out
  have T3 := keep hs3
  have d3 := keep (b5.out.trans (B3.out.mono b5.out.size))
  clear hs3 O O3 B B3 S b5
  go_wp2_with fail
  refine (same_any a3 _ c3 (be 8 N ++ l.drop 8) ao m c l w7 T3.out (HS.out.below d3.out)).mono ?_
  rintro e w8 ⟨rfl, hb8⟩
  have b8 := keep (d3.out.trans (hb8.mono d3.out.size))
  rw [decide_eq_true E2.out.symm]
  clear hb8 d3 T3 E2
  go_wp2_with fail
  go_fit (K3.out w8 b8.out)
  rintro e w9 ⟨a9, c9, x9, y9, rfl, hs9, ht9, hb9⟩
  have b9 := keep (b8.out.trans (hb9.mono b8.out.size))
  have S9 := keep hs9
  have T9 := keep ht9
  clear hb9 hs9 ht9 K3 b8
  go_wp2_with fail
  go_fit (K3p.out a9 c9 w9 S9.out)
  rintro e w10 ⟨a10, c10, rfl, hn10⟩
  have O := keep hn10.1
  have B := keep hn10.2
  have S := keep (T9.out.below hn10.2)
  clear hn10 K3p S9 T9
  go_wp2_with (at_builtin; refine wpList_append_src_if (by rfl) _ _ 22 rfl w9.heap.size i0 _ Try.underlying22 hi hz0 hz1 hz2 rfl _ FB.length FB rfl O.out x9 R.length y9 R rfl S.out (by omega) B.out.size ?_; intro v11 w11 ho3 hg3; have B3 := keep (B.out.grown hg3 B.out.size (fun j hj => (O.out.lt j hj).1)); have O3 := keep ho3; clear ho3 hg3)
  obtain ⟨a3, c3, rfl, hs3, _⟩ := Src.of_own O3.out
  have T3 := keep hs3
  have d3 := keep (b9.out.trans (B3.out.mono b9.out.size))
  clear hs3 O O3 B B3 S b9
  go_wp2_with fail
  refine (same_any a3 _ c3 (FB ++ R) ao m c l w11 T3.out (HS.out.below d3.out)).mono ?_
  rintro e w12 ⟨rfl, hb12⟩
  have b12 := keep (d3.out.trans (hb12.mono d3.out.size))
  rw [decide_eq_true E3.out.symm]
  clear hb12 d3 T3 E3
  go_wp2_with fail
  go_fit (K4.out w12)
  rintro e w13 ⟨a13, c13, rfl, _, hb13⟩
  have b13 := keep ((b12.out.alloc b12.out.size _).trans (hb13.mono (le_alloc b12.out.size _)))
  clear hb13 K4 b12
  go_wp2
  go_ret
  exact ⟨rfl, b13.out⟩

set_option maxHeartbeats 1000000 in
set_option maxRecDepth 100000 in
theorem only_nyn (ao : Option Addr) (m c : Nat) (l : List UInt8) (w : World) (hm : m ≤ 140737488351232) (hs : Src w ao m c l) (h1 : takeNum l = none) (N : Nat) (h28 : 8 ≤ m) (h2N : big (l.take 8) = N) (h2b : N < 9223372036854775808) (h3 : tfr l (m : Int) = none) :
    Calls Try.prog 3 #[.slice ao m c] w fun e w' => e = .returned (.bool true) ∧ Below w.heap.size w w' := by
  obtain ⟨i0, hi, hz0, hz1, hz2⟩ := info_parts info5
  have hll := hs.len
  have K1 := keep (fun w' (hb : Below w.heap.size w w') => takeNum_no (by omega) (hs.below hb) h1)
  have K2 := keep (fun w' (hb : Below w.heap.size w w') => takeFix_yes (by omega) (hs.below hb) h28 h2N h2b rfl rfl)
  have K2p := keep (fun w' => putFix_nil (N : Int) w' (by omega))
  simp only [Int.toNat_natCast] at K2p
  have E2 : Hid (l = be 8 N ++ l.drop 8) := by
    have e := be_big (l.take 8)
    rw [List.length_take, Nat.min_eq_left (by omega), h2N] at e
    show _ = _
    rw [e, List.take_append_drop]
  clear h2N
  have K3 := keep (fun w' (hb : Below w.heap.size w w') => takeFrame_no (by omega) (hs.below hb) h3)
  have K4 := keep (fun w' => takeNum_yes (w := w'.alloc (.cells #[.int .u8 ((5 : UInt8).toNat : Int)] 5)) (by omega) (Src.built w' 5) takeNum_five)
  have HS := keep hs
  clear hs h1 h3
  go_enter Try.func3, Try.ntmps3
  go_wp2_with fail
  go_fit (K1.out w (Below.refl _ _))
  rintro e w4 ⟨rfl, hb4⟩
  have b4 := keep hb4
  clear hb4 K1
  go_wp2_with fail
  go_fit (K2.out w4 b4.out)
  rintro e w5 ⟨a5, c5, rfl, hs5, hb5⟩
  have b5 := keep (b4.out.trans (hb5.mono b4.out.size))
  have S5 := keep hs5
  clear hb5 hs5 K2 b4
  go_wp2_with fail
  go_fit (K2p.out w5)
  rintro e w6 ⟨a6, c6, rfl, hn6⟩
  have O := keep hn6.1
  have B := keep hn6.2
  have S := keep (S5.out.below hn6.2)
  clear hn6 K2p S5
  go_wp2_with (at_builtin; refine wpList_append_src_if (by rfl) _ _ 22 rfl w5.heap.size i0 _ Try.underlying22 hi hz0 hz1 hz2 rfl _ 8 (be 8 N) rfl O.out a5 (m - 8) c5 (l.drop 8) rfl S.out (by omega) B.out.size ?_; intro v7 w7 ho3 hg3; have B3 := keep (B.out.grown hg3 B.out.size (fun j hj => (O.out.lt j hj).1)); have O3 := keep ho3; clear ho3 hg3)
  obtain ⟨a3, c3, rfl, hs3, _⟩ := Src.of_own O3.out
  have T3 := keep hs3
  have d3 := keep (b5.out.trans (B3.out.mono b5.out.size))
  clear hs3 O O3 B B3 S b5
  go_wp2_with fail
  refine (same_any a3 _ c3 (be 8 N ++ l.drop 8) ao m c l w7 T3.out (HS.out.below d3.out)).mono ?_
  rintro e w8 ⟨rfl, hb8⟩
  have b8 := keep (d3.out.trans (hb8.mono d3.out.size))
  rw [decide_eq_true E2.out.symm]
  clear hb8 d3 T3 E2
  go_wp2_with fail
  go_fit (K3.out w8 b8.out)
  rintro e w12 ⟨rfl, hb12⟩
  have b12 := keep (b8.out.trans (hb12.mono b8.out.size))
  clear hb12 K3 b8
  go_wp2_with fail
  go_fit (K4.out w12)
  rintro e w13 ⟨a13, c13, rfl, _, hb13⟩
  have b13 := keep ((b12.out.alloc b12.out.size _).trans (hb13.mono (le_alloc b12.out.size _)))
  clear hb13 K4 b12
  go_wp2
  go_ret
  exact ⟨rfl, b13.out⟩

set_option maxHeartbeats 1000000 in
set_option maxRecDepth 100000 in
theorem only_nny (ao : Option Addr) (m c : Nat) (l : List UInt8) (w : World) (hm : m ≤ 140737488351232) (hs : Src w ao m c l) (h1 : takeNum l = none) (h2 : ¬ (8 ≤ m ∧ big (l.take 8) < 9223372036854775808)) (Bd R : List UInt8) (h3 : tfr l (m : Int) = some (Bd, R)) :
    Calls Try.prog 3 #[.slice ao m c] w fun e w' => e = .returned (.bool true) ∧ Below w.heap.size w w' := by
  obtain ⟨i0, hi, hz0, hz1, hz2⟩ := info_parts info5
  have hll := hs.len
  have K1 := keep (fun w' (hb : Below w.heap.size w w') => takeNum_no (by omega) (hs.below hb) h1)
  have K2 := keep (fun w' (hb : Below w.heap.size w w') => takeFix_no (by omega) (hs.below hb) h2)
  have K3 := keep (fun w' (hb : Below w.heap.size w w') => takeFrame_yes (by omega) (hs.below hb) h3)
  have q3 := (tfr_some h3).1
  have E3 := keep q3
  have f3 := frame_length Bd
  have l3 : (frame Bd).length + R.length = m := by rw [← hll, ← List.length_append, ← q3]
  have K3p := keep (fun a c w' (h : Src w' a Bd.length c Bd) => frame_nil_any a Bd.length c Bd w' (by omega) h)
  clear q3 f3
  generalize frame Bd = FB at K3p E3 l3
  have K4 := keep (fun w' => takeNum_yes (w := w'.alloc (.cells #[.int .u8 ((5 : UInt8).toNat : Int)] 5)) (by omega) (Src.built w' 5) takeNum_five)
  have HS := keep hs
  clear hs h1 h2 h3
  go_enter Try.func3, Try.ntmps3
  go_wp2_with fail
  go_fit (K1.out w (Below.refl _ _))
  rintro e w4 ⟨rfl, hb4⟩
  have b4 := keep hb4
  clear hb4 K1
  go_wp2_with fail
  go_fit (K2.out w4 b4.out)
  rintro e w8 ⟨rfl, hb8⟩
  have b8 := keep (b4.out.trans (hb8.mono b4.out.size))
  clear hb8 K2 b4
  go_wp2_with fail
  go_fit (K3.out w8 b8.out)
  rintro e w9 ⟨a9, c9, x9, y9, rfl, hs9, ht9, hb9⟩
  have b9 := keep (b8.out.trans (hb9.mono b8.out.size))
  have S9 := keep hs9
  have T9 := keep ht9
  clear hb9 hs9 ht9 K3 b8
  go_wp2_with fail
  go_fit (K3p.out a9 c9 w9 S9.out)
  rintro e w10 ⟨a10, c10, rfl, hn10⟩
  have O := keep hn10.1
  have B := keep hn10.2
  have S := keep (T9.out.below hn10.2)
  clear hn10 K3p S9 T9
  go_wp2_with (at_builtin; refine wpList_append_src_if (by rfl) _ _ 22 rfl w9.heap.size i0 _ Try.underlying22 hi hz0 hz1 hz2 rfl _ FB.length FB rfl O.out x9 R.length y9 R rfl S.out (by omega) B.out.size ?_; intro v11 w11 ho3 hg3; have B3 := keep (B.out.grown hg3 B.out.size (fun j hj => (O.out.lt j hj).1)); have O3 := keep ho3; clear ho3 hg3)
  obtain ⟨a3, c3, rfl, hs3, _⟩ := Src.of_own O3.out
  have T3 := keep hs3
  have d3 := keep (b9.out.trans (B3.out.mono b9.out.size))
  clear hs3 O O3 B B3 S b9
  go_wp2_with fail
  refine (same_any a3 _ c3 (FB ++ R) ao m c l w11 T3.out (HS.out.below d3.out)).mono ?_
  rintro e w12 ⟨rfl, hb12⟩
  have b12 := keep (d3.out.trans (hb12.mono d3.out.size))
  rw [decide_eq_true E3.out.symm]
  clear hb12 d3 T3 E3
  go_wp2_with fail
  go_fit (K4.out w12)
  rintro e w13 ⟨a13, c13, rfl, _, hb13⟩
  have b13 := keep ((b12.out.alloc b12.out.size _).trans (hb13.mono (le_alloc b12.out.size _)))
  clear hb13 K4 b12
  go_wp2
  go_ret
  exact ⟨rfl, b13.out⟩

set_option maxHeartbeats 1000000 in
set_option maxRecDepth 100000 in
theorem only_nnn (ao : Option Addr) (m c : Nat) (l : List UInt8) (w : World) (hm : m ≤ 140737488351232) (hs : Src w ao m c l) (h1 : takeNum l = none) (h2 : ¬ (8 ≤ m ∧ big (l.take 8) < 9223372036854775808)) (h3 : tfr l (m : Int) = none) :
    Calls Try.prog 3 #[.slice ao m c] w fun e w' => e = .returned (.bool true) ∧ Below w.heap.size w w' := by
  obtain ⟨i0, hi, hz0, hz1, hz2⟩ := info_parts info5
  have hll := hs.len
  have K1 := keep (fun w' (hb : Below w.heap.size w w') => takeNum_no (by omega) (hs.below hb) h1)
  have K2 := keep (fun w' (hb : Below w.heap.size w w') => takeFix_no (by omega) (hs.below hb) h2)
  have K3 := keep (fun w' (hb : Below w.heap.size w w') => takeFrame_no (by omega) (hs.below hb) h3)
  have K4 := keep (fun w' => takeNum_yes (w := w'.alloc (.cells #[.int .u8 ((5 : UInt8).toNat : Int)] 5)) (by omega) (Src.built w' 5) takeNum_five)
  have HS := keep hs
  clear hs h1 h2 h3
  go_enter Try.func3, Try.ntmps3
  go_wp2_with fail
  go_fit (K1.out w (Below.refl _ _))
  rintro e w4 ⟨rfl, hb4⟩
  have b4 := keep hb4
  clear hb4 K1
  go_wp2_with fail
  go_fit (K2.out w4 b4.out)
  rintro e w8 ⟨rfl, hb8⟩
  have b8 := keep (b4.out.trans (hb8.mono b4.out.size))
  clear hb8 K2 b4
  go_wp2_with fail
  go_fit (K3.out w8 b8.out)
  rintro e w12 ⟨rfl, hb12⟩
  have b12 := keep (b8.out.trans (hb12.mono b8.out.size))
  clear hb12 K3 b8
  go_wp2_with fail
  go_fit (K4.out w12)
  rintro e w13 ⟨a13, c13, rfl, _, hb13⟩
  have b13 := keep ((b12.out.alloc b12.out.size _).trans (hb13.mono (le_alloc b12.out.size _)))
  clear hb13 K4 b12
  go_wp2
  go_ret
  exact ⟨rfl, b13.out⟩

theorem only_walk (ao : Option Addr) (m c : Nat) (l : List UInt8) (w : World) (hm : m ≤ 140737488351232) (hs : Src w ao m c l) :
    Calls Try.prog 3 #[.slice ao m c] w fun e w' => e = .returned (.bool true) ∧ Below w.heap.size w w' := by
  cases h1 : takeNum l with
  | none =>
    by_cases h2 : 8 ≤ m ∧ big (l.take 8) < 9223372036854775808
    · cases h3 : tfr l (m : Int) with
      | none => exact only_nyn ao m c l w hm hs h1 _ h2.1 rfl h2.2 h3
      | some x => exact only_nyy ao m c l w hm hs h1 _ h2.1 rfl h2.2 x.1 x.2 h3
    · cases h3 : tfr l (m : Int) with
      | none => exact only_nnn ao m c l w hm hs h1 h2 h3
      | some x => exact only_nny ao m c l w hm hs h1 h2 x.1 x.2 h3
  | some y =>
    by_cases h2 : 8 ≤ m ∧ big (l.take 8) < 9223372036854775808
    · cases h3 : tfr l (m : Int) with
      | none => exact only_yyn ao m c l w hm hs y.1 y.2 h1 _ h2.1 rfl h2.2 h3
      | some x => exact only_yyy ao m c l w hm hs y.1 y.2 h1 _ h2.1 rfl h2.2 x.1 x.2 h3
    · cases h3 : tfr l (m : Int) with
      | none => exact only_ynn ao m c l w hm hs y.1 y.2 h1 h2 h3
      | some x => exact only_yny ao m c l w hm hs y.1 y.2 h1 h2 x.1 x.2 h3
end Go.Proofs.Yticglckbjdchjab
