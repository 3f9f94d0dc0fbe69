/- The walk of the statement on the key of any tree and table. -/
import Derived.Test.YtomceheophnjnaaDoorNm
import Derived.Test.YtomceheophnjnaaDoorRm
import Derived.Test.YtomceheophnjnaaDoorSm
namespace Go.Proofs.YtomceheophnjnaaDoor
open Go.RowKit

theorem make_any (t a : Int) (ao : Option Addr) (m c : Nat) (l : List UInt8) (b : Addr) (w : World) (hs : Src w ao m c l) (hg : Own w b) :
    ∃ (L : List UInt8) (E : Int), (∀ w', Below w.heap.size w w' → Calls Tryd.prog 7 #[.int .i64 t, .int .i64 a, .slice ao m c] w' fun e w2 => ∃ x n y, e = .returned (.tuple #[.slice x n y, .int .i64 E]) ∧ Src w2 x n y L ∧ Below w'.heap.size w' w2) ∧
      (∀ w', Below w.heap.size w w' → Calls Tryd.prog 8 #[.int .i64 t, .int .i64 a, .slice ao m c] w' fun e w2 => ∃ x n y, e = .returned (.tuple #[.slice x n y, .int .i64 E]) ∧ Src w2 x n y L ∧ Below w'.heap.size w' w2) := by
  by_cases h : Fit t a m
  · obtain ⟨⟨h1, h2⟩, ⟨h3, h4⟩, h5⟩ := h
    obtain ⟨T, rfl⟩ : ∃ T : Nat, t = (T : Int) := ⟨t.toNat, by omega⟩
    obtain ⟨A, rfl⟩ : ∃ A : Nat, a = (A : Int) := ⟨a.toNat, by omega⟩
    refine ⟨mk T A l, 0, fun w' hb => ?_, fun w' hb => ?_⟩
    · refine (make_yes T A ao m c l b w' (by omega) (by omega) h5 (hs.below hb) (hg.below hb)).mono ?_
      rintro e w2 ⟨v, rfl, hn⟩
      obtain ⟨x, y, rfl, s, _⟩ := hn.src
      exact ⟨x, _, y, rfl, s, hn.2⟩
    · refine (rmake_yes T A ao m c l w' (by omega) (by omega) h5 (hs.below hb)).mono ?_
      rintro e w2 ⟨v, rfl, hn⟩
      obtain ⟨x, y, rfl, s, _⟩ := hn.src
      exact ⟨x, _, y, rfl, s, hn.2⟩
  · refine ⟨[], 1, fun w' hb => ?_, fun w' hb => ?_⟩
    · refine (make_no t a ao m c b w' h (hg.below hb)).mono ?_
      rintro e w2 ⟨rfl, hb2⟩
      exact ⟨none, 0, 0, rfl, src_nil _, hb2⟩
    · refine (rmake_no t a ao m c w' h).mono ?_
      rintro e w2 ⟨rfl, hb2⟩
      exact ⟨none, 0, 0, rfl, src_nil _, hb2⟩
theorem num_any (t a n : Int) (b : Addr) (w : World) (hn : n < 9223372036854775808) (hg : Own w b) :
    ∃ (L : List UInt8) (E : Int), (∀ w', Below w.heap.size w w' → Calls Tryd.prog 9 #[.int .i64 t, .int .i64 a, .int .i64 n] w' fun e w2 => ∃ x n y, e = .returned (.tuple #[.slice x n y, .int .i64 E]) ∧ Src w2 x n y L ∧ Below w'.heap.size w' w2) ∧
      (∀ w', Below w.heap.size w w' → Calls Tryd.prog 10 #[.int .i64 t, .int .i64 a, .int .i64 n] w' fun e w2 => ∃ x n y, e = .returned (.tuple #[.slice x n y, .int .i64 E]) ∧ Src w2 x n y L ∧ Below w'.heap.size w' w2) := by
  by_cases h : NumFit t a n
  · obtain ⟨⟨h1, h2⟩, ⟨h3, h4⟩, h5, h6⟩ := h
    obtain ⟨T, rfl⟩ : ∃ T : Nat, t = (T : Int) := ⟨t.toNat, by omega⟩
    obtain ⟨A, rfl⟩ : ∃ A : Nat, a = (A : Int) := ⟨a.toNat, by omega⟩
    obtain ⟨N, rfl⟩ : ∃ N : Nat, n = (N : Int) := ⟨n.toNat, by omega⟩
    refine ⟨mk T A (be 8 N), 0, fun w' hb => ?_, fun w' hb => ?_⟩
    · refine (num_yes T A N b w' (by omega) (by omega) (by omega) (hg.below hb)).mono ?_
      rintro e w2 ⟨v, rfl, hn⟩
      obtain ⟨x, y, rfl, s, _⟩ := hn.src
      exact ⟨x, _, y, rfl, s, hn.2⟩
    · refine (rnum_yes T A N w' (by omega) (by omega) (by omega)).mono ?_
      rintro e w2 ⟨v, rfl, hn⟩
      obtain ⟨x, y, rfl, s, _⟩ := hn.src
      exact ⟨x, _, y, rfl, s, hn.2⟩
  · refine ⟨[], 1, fun w' hb => ?_, fun w' hb => ?_⟩
    · refine (num_no t a n b w' hn h (hg.below hb)).mono ?_
      rintro e w2 ⟨rfl, hb2⟩
      exact ⟨none, 0, 0, rfl, src_nil _, hb2⟩
    · refine (rnum_no t a n w' h).mono ?_
      rintro e w2 ⟨rfl, hb2⟩
      exact ⟨none, 0, 0, rfl, src_nil _, hb2⟩

set_option maxHeartbeats 1000000 in
set_option maxRecDepth 100000 in
theorem makes_walk (b : Addr) (t a : Int) (ao : Option Addr) (m c : Nat) (l : List UInt8) (n : Int) (w : World) (hg : Own w b) (_ : -9223372036854775808 ≤ t ∧ t < 9223372036854775808) (_ : -9223372036854775808 ≤ a ∧ a < 9223372036854775808) (_ : m ≤ 140737488351232) (hn : -9223372036854775808 ≤ n ∧ n < 9223372036854775808) (hs : Src w ao m c l) :
    Calls Tryd.prog 3 #[.int .i64 t, .int .i64 a, .slice ao m c, .int .i64 n] w fun e w' => e = .returned (.bool true) ∧ Below w.heap.size w w' := by
  obtain ⟨L1, E1, k1, k2⟩ := make_any t a ao m c l b w hs hg
  obtain ⟨L2, E2, k3, k4⟩ := num_any t a n b w hn.2 hg
  have K1 := keep k1
  have K2 := keep k2
  have K3 := keep k3
  have K4 := keep k4
  clear k1 k2 k3 k4 hs hg
  go_enter Tryd.func3, Tryd.ntmps3
  go_wp2_with fail
  refine (K1.out w (Below.refl _ _)).mono ?_
  rintro e w1 ⟨x1, n1, y1, rfl, s1, hb1⟩
  have S1 := keep s1
  have b1 := keep hb1
  clear s1 hb1
  go_wp2_with fail
  refine (K2.out w1 b1.out).mono ?_
  rintro e w2 ⟨x2, n2, y2, rfl, s2, hb2⟩
  have S1' := keep (S1.out.below hb2)
  have S2 := keep s2
  have b2 := keep (b1.out.trans (hb2.mono b1.out.size))
  clear s2 hb2 b1 S1
  go_wp2_with fail
  refine (K3.out w2 b2.out).mono ?_
  rintro e w3 ⟨x3, n3, y3, rfl, s3, hb3⟩
  have S1 := keep (S1'.out.below hb3)
  have S2' := keep (S2.out.below hb3)
  have S3 := keep s3
  have b3 := keep (b2.out.trans (hb3.mono b2.out.size))
  clear s3 hb3 b2 S1' S2
  go_wp2_with fail
  refine (K4.out w3 b3.out).mono ?_
  rintro e w4 ⟨x4, n4, y4, rfl, s4, hb4⟩
  have S1' := keep (S1.out.below hb4)
  have S2 := keep (S2'.out.below hb4)
  have S3' := keep (S3.out.below hb4)
  have S4 := keep s4
  have b4 := keep (b3.out.trans (hb4.mono b3.out.size))
  clear s4 hb4 b3 S1 S2' S3
  go_wp2_with fail
  refine (same_any x1 n1 y1 _ x2 n2 y2 _ _ S1'.out S2.out).mono ?_
  rintro e w5 ⟨rfl, hb5⟩
  rw [decide_eq_true rfl]
  have S3 := keep (S3'.out.below hb5)
  have S4' := keep (S4.out.below hb5)
  have b5 := keep (b4.out.trans (hb5.mono b4.out.size))
  clear hb5 b4 S3' S4 S1' S2
  go_wp2_with fail
  refine (same_any x3 n3 y3 _ x4 n4 y4 _ _ S3.out S4'.out).mono ?_
  rintro e w6 ⟨rfl, hb6⟩
  rw [decide_eq_true rfl]
  have b6 := keep (b5.out.trans (hb6.mono b5.out.size))
  clear hb6
  go_wp2
  go_ret
  exact ⟨rfl, b6.out⟩
end Go.Proofs.YtomceheophnjnaaDoor
