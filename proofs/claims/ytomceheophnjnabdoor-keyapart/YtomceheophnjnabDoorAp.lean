/- The walk of the statement that other trees, tables and rests have other keys. -/
import Derived.Test.YtomceheophnjnabDoorMy
import Derived.Test.YtomceheophnjnabDoorCp
namespace Go.Proofs.YtomceheophnjnabDoor
open Go.RowKit

theorem less_one' : less [] [1] = true := rfl

set_option maxHeartbeats 1000000 in
set_option maxRecDepth 100000 in
theorem apart_tree (b : Addr) (T A U B : Nat) (ao : Option Addr) (m c : Nat) (l : List UInt8) (ao2 : Option Addr) (m2 c2 : Nat) (l2 : List UInt8) (w : World) (hg : Own w b) (h1 : T ≤ 1099511627776) (h2 : A ≤ 255) (h3 : U ≤ 1099511627776) (h4 : B ≤ 255) (h5 : m ≤ 55) (h6 : m2 ≤ 55) (hs : Src w ao m c l) (hs2 : Src w ao2 m2 c2 l2) (hne : T ≠ U)
    (hq : (mk T A l == mk U B l2) = false) :
    Calls Tryd.prog 4 #[.int .i64 (T : Int), .int .i64 (A : Int), .slice ao m c, .int .i64 (U : Int), .int .i64 (B : Int), .slice ao2 m2 c2] w fun e w' => e = .returned (.bool true) ∧ Below w.heap.size w w' := by
  have K1 := keep (make_yes T A ao m c l b w h1 h2 h5 hs hg)
  have K2 := keep (fun w1 (hb : Below w.heap.size w w1) => make_yes U B ao2 m2 c2 l2 b w1 h3 h4 h6 (hs2.below hb) (hg.below hb))
  have HS := keep hs
  have HS2 := keep hs2
  have e1 : ¬ ((T : Int) = (U : Int)) := by omega
  clear hne
  clear hg hs hs2 h1 h2 h3 h4
  obtain ⟨L1, hL1⟩ : ∃ L1, mk T A l = L1 := ⟨_, rfl⟩
  obtain ⟨L2, hL2⟩ : ∃ L2, mk U B l2 = L2 := ⟨_, rfl⟩
  rw [hL1, hL2] at hq
  rw [hL1] at K1
  rw [hL2] at K2
  clear hL1 hL2
  go_enter Tryd.func4, Tryd.ntmps4
  go_wp2_with fail
  refine K1.out.mono ?_
  rintro e w1 ⟨v1, rfl, hn1⟩
  obtain ⟨a1, c1, rfl, s1, _⟩ := hn1.src
  have b1 := keep hn1.2
  have S1 := keep s1
  clear hn1 s1
  go_wp2_with fail
  refine (K2.out w1 b1.out).mono ?_
  rintro e w2 ⟨v2, rfl, hn2⟩
  obtain ⟨a2, d2, rfl, s2, _⟩ := hn2.src
  have b2 := keep (b1.out.trans (hn2.2.mono b1.out.size))
  have cv3 := conv_src (S1.out.below hn2.2)
  have cv4 := conv_src s2
  clear hn2 s2 b1 S1
  go_wp2
  go_ret
  exact ⟨rfl, b2.out⟩

set_option maxHeartbeats 1000000 in
set_option maxRecDepth 100000 in
theorem apart_tab (b : Addr) (T A B : Nat) (ao : Option Addr) (m c : Nat) (l : List UInt8) (ao2 : Option Addr) (m2 c2 : Nat) (l2 : List UInt8) (w : World) (hg : Own w b) (h1 : T ≤ 1099511627776) (h2 : A ≤ 255) (h3 : T ≤ 1099511627776) (h4 : B ≤ 255) (h5 : m ≤ 55) (h6 : m2 ≤ 55) (hs : Src w ao m c l) (hs2 : Src w ao2 m2 c2 l2) (hne : A ≠ B)
    (hq : (mk T A l == mk T B l2) = false) :
    Calls Tryd.prog 4 #[.int .i64 (T : Int), .int .i64 (A : Int), .slice ao m c, .int .i64 (T : Int), .int .i64 (B : Int), .slice ao2 m2 c2] w fun e w' => e = .returned (.bool true) ∧ Below w.heap.size w w' := by
  have K1 := keep (make_yes T A ao m c l b w h1 h2 h5 hs hg)
  have K2 := keep (fun w1 (hb : Below w.heap.size w w1) => make_yes T B ao2 m2 c2 l2 b w1 h3 h4 h6 (hs2.below hb) (hg.below hb))
  have HS := keep hs
  have HS2 := keep hs2
  have e1 : ((A : Int) == (B : Int)) = false := by rw [beq_eq_false_iff_ne]; omega
  clear hne
  clear hg hs hs2 h1 h2 h3 h4
  obtain ⟨L1, hL1⟩ : ∃ L1, mk T A l = L1 := ⟨_, rfl⟩
  obtain ⟨L2, hL2⟩ : ∃ L2, mk T B l2 = L2 := ⟨_, rfl⟩
  rw [hL1, hL2] at hq
  rw [hL1] at K1
  rw [hL2] at K2
  clear hL1 hL2
  go_enter Tryd.func4, Tryd.ntmps4
  go_wp2_with fail
  refine K1.out.mono ?_
  rintro e w1 ⟨v1, rfl, hn1⟩
  obtain ⟨a1, c1, rfl, s1, _⟩ := hn1.src
  have b1 := keep hn1.2
  have S1 := keep s1
  clear hn1 s1
  go_wp2_with fail
  refine (K2.out w1 b1.out).mono ?_
  rintro e w2 ⟨v2, rfl, hn2⟩
  obtain ⟨a2, d2, rfl, s2, _⟩ := hn2.src
  have b2 := keep (b1.out.trans (hn2.2.mono b1.out.size))
  have cv3 := conv_src (S1.out.below hn2.2)
  have cv4 := conv_src s2
  clear hn2 s2 b1 S1
  go_wp2
  go_ret
  exact ⟨rfl, b2.out⟩

set_option maxHeartbeats 1000000 in
set_option maxRecDepth 100000 in
theorem apart_rest (b : Addr) (T A : Nat) (ao : Option Addr) (m c : Nat) (l : List UInt8) (ao2 : Option Addr) (m2 c2 : Nat) (l2 : List UInt8) (w : World) (hg : Own w b) (h1 : T ≤ 1099511627776) (h2 : A ≤ 255) (h3 : T ≤ 1099511627776) (h4 : A ≤ 255) (h5 : m ≤ 55) (h6 : m2 ≤ 55) (hs : Src w ao m c l) (hs2 : Src w ao2 m2 c2 l2) 
    (hq : (mk T A l == mk T A l2) = false) (hr : (l == l2) = false) :
    Calls Tryd.prog 4 #[.int .i64 (T : Int), .int .i64 (A : Int), .slice ao m c, .int .i64 (T : Int), .int .i64 (A : Int), .slice ao2 m2 c2] w fun e w' => e = .returned (.bool true) ∧ Below w.heap.size w w' := by
  have K1 := keep (make_yes T A ao m c l b w h1 h2 h5 hs hg)
  have K2 := keep (fun w1 (hb : Below w.heap.size w w1) => make_yes T A ao2 m2 c2 l2 b w1 h3 h4 h6 (hs2.below hb) (hg.below hb))
  have HS := keep hs
  have HS2 := keep hs2
  clear hg hs hs2 h1 h2 h3 h4
  obtain ⟨L1, hL1⟩ : ∃ L1, mk T A l = L1 := ⟨_, rfl⟩
  obtain ⟨L2, hL2⟩ : ∃ L2, mk T A l2 = L2 := ⟨_, rfl⟩
  rw [hL1, hL2] at hq
  rw [hL1] at K1
  rw [hL2] at K2
  clear hL1 hL2
  go_enter Tryd.func4, Tryd.ntmps4
  go_wp2_with fail
  refine K1.out.mono ?_
  rintro e w1 ⟨v1, rfl, hn1⟩
  obtain ⟨a1, c1, rfl, s1, _⟩ := hn1.src
  have b1 := keep hn1.2
  have S1 := keep s1
  clear hn1 s1
  go_wp2_with fail
  refine (K2.out w1 b1.out).mono ?_
  rintro e w2 ⟨v2, rfl, hn2⟩
  obtain ⟨a2, d2, rfl, s2, _⟩ := hn2.src
  have b2 := keep (b1.out.trans (hn2.2.mono b1.out.size))
  have cv3 := conv_src (S1.out.below hn2.2)
  have cv4 := conv_src s2
  clear hn2 s2 b1 S1
  have cv1 := conv_src (HS.out.below b2.out)
  have cv2 := conv_src (HS2.out.below b2.out)
  go_wp2
  go_ret
  exact ⟨rfl, b2.out⟩

set_option maxHeartbeats 1000000 in
set_option maxRecDepth 100000 in
theorem apart_same (b : Addr) (T A : Nat) (ao : Option Addr) (m c : Nat) (l : List UInt8) (ao2 : Option Addr) (m2 c2 : Nat) (l2 : List UInt8) (w : World) (hg : Own w b) (h1 : T ≤ 1099511627776) (h2 : A ≤ 255) (h3 : T ≤ 1099511627776) (h4 : A ≤ 255) (h5 : m ≤ 55) (h6 : m2 ≤ 55) (hs : Src w ao m c l) (hs2 : Src w ao2 m2 c2 l2) 
    (hq : (mk T A l == mk T A l2) = true) (hr : (l == l2) = true) :
    Calls Tryd.prog 4 #[.int .i64 (T : Int), .int .i64 (A : Int), .slice ao m c, .int .i64 (T : Int), .int .i64 (A : Int), .slice ao2 m2 c2] w fun e w' => e = .returned (.bool true) ∧ Below w.heap.size w w' := by
  have K1 := keep (make_yes T A ao m c l b w h1 h2 h5 hs hg)
  have K2 := keep (fun w1 (hb : Below w.heap.size w w1) => make_yes T A ao2 m2 c2 l2 b w1 h3 h4 h6 (hs2.below hb) (hg.below hb))
  have HS := keep hs
  have HS2 := keep hs2
  clear hg hs hs2 h1 h2 h3 h4
  obtain ⟨L1, hL1⟩ : ∃ L1, mk T A l = L1 := ⟨_, rfl⟩
  obtain ⟨L2, hL2⟩ : ∃ L2, mk T A l2 = L2 := ⟨_, rfl⟩
  rw [hL1, hL2] at hq
  rw [hL1] at K1
  rw [hL2] at K2
  clear hL1 hL2
  go_enter Tryd.func4, Tryd.ntmps4
  go_wp2_with fail
  refine K1.out.mono ?_
  rintro e w1 ⟨v1, rfl, hn1⟩
  obtain ⟨a1, c1, rfl, s1, _⟩ := hn1.src
  have b1 := keep hn1.2
  have S1 := keep s1
  clear hn1 s1
  go_wp2_with fail
  refine (K2.out w1 b1.out).mono ?_
  rintro e w2 ⟨v2, rfl, hn2⟩
  obtain ⟨a2, d2, rfl, s2, _⟩ := hn2.src
  have b2 := keep (b1.out.trans (hn2.2.mono b1.out.size))
  have cv3 := conv_src (S1.out.below hn2.2)
  have cv4 := conv_src s2
  clear hn2 s2 b1 S1
  have cv1 := conv_src (HS.out.below b2.out)
  have cv2 := conv_src (HS2.out.below b2.out)
  go_wp2
  go_ret
  exact ⟨rfl, b2.out⟩

set_option maxHeartbeats 1000000 in
set_option maxRecDepth 100000 in
theorem apart_nn (b : Addr) (t a u d : Int) (ao : Option Addr) (m c : Nat) (ao2 : Option Addr) (m2 c2 : Nat) (w : World) (hg : Own w b) (h : ¬ Fit t a m) (h2 : ¬ Fit u d m2) :
    Calls Tryd.prog 4 #[.int .i64 t, .int .i64 a, .slice ao m c, .int .i64 u, .int .i64 d, .slice ao2 m2 c2] w fun e w' => e = .returned (.bool true) ∧ Below w.heap.size w w' := by
  have K1 := keep (make_no t a ao m c b w h hg)
  have K2 := keep (fun w1 (hb : Below w.heap.size w w1) => make_no u d ao2 m2 c2 b w1 h2 (hg.below hb))
  clear hg h h2
  go_enter Tryd.func4, Tryd.ntmps4
  go_wp2_with fail
  refine K1.out.mono ?_
  rintro e w1 ⟨rfl, hb1⟩
  have b1 := keep hb1
  clear hb1
  go_wp2_with fail
  refine (K2.out w1 b1.out).mono ?_
  rintro e w2 ⟨rfl, hb2⟩
  have b2 := keep (b1.out.trans (hb2.mono b1.out.size))
  clear hb2
  go_wp2_with fail
  have B3 := keep (b2.out.alloc b2.out.size (.cells #[.int .u8 1] 5))
  refine (less_any none 0 0 [] _ 1 1 [1] _ (src_nil _) (Src.builtI _ 1 1 rfl)).mono ?_
  rintro e w3 ⟨rfl, rfl⟩
  rw [less_one']
  go_wp2
  go_ret
  exact ⟨rfl, B3.out⟩

set_option maxHeartbeats 1000000 in
set_option maxRecDepth 100000 in
theorem apart_yn (b : Addr) (T A : Nat) (u d : Int) (ao : Option Addr) (m c : Nat) (ao2 : Option Addr) (m2 c2 : Nat) (l : List UInt8) (w : World) (hg : Own w b) (h1 : T ≤ 1099511627776) (h2 : A ≤ 255) (h3 : m ≤ 55) (h : ¬ Fit u d m2) (hs : Src w ao m c l) :
    Calls Tryd.prog 4 #[.int .i64 (T : Int), .int .i64 (A : Int), .slice ao m c, .int .i64 u, .int .i64 d, .slice ao2 m2 c2] w fun e w' => e = .returned (.bool true) ∧ Below w.heap.size w w' := by
  have K1 := keep (make_yes T A ao m c l b w h1 h2 h3 hs hg)
  have K2 := keep (fun w1 (hb : Below w.heap.size w w1) => make_no u d ao2 m2 c2 b w1 h (hg.below hb))
  clear hg h h1 h2 h3 hs
  go_enter Tryd.func4, Tryd.ntmps4
  go_wp2_with fail
  refine K1.out.mono ?_
  rintro e w1 ⟨v1, rfl, hn1⟩
  obtain ⟨a1, c1, rfl, s1, _⟩ := hn1.src
  have hb1 := hn1.2
  clear s1 hn1
  have b1 := keep hb1
  clear hb1
  go_wp2_with fail
  refine (K2.out w1 b1.out).mono ?_
  rintro e w2 ⟨rfl, hb2⟩
  have b2 := keep (b1.out.trans (hb2.mono b1.out.size))
  clear hb2
  go_wp2_with fail
  have B3 := keep (b2.out.alloc b2.out.size (.cells #[.int .u8 1] 5))
  refine (less_any none 0 0 [] _ 1 1 [1] _ (src_nil _) (Src.builtI _ 1 1 rfl)).mono ?_
  rintro e w3 ⟨rfl, rfl⟩
  rw [less_one']
  go_wp2
  go_ret
  exact ⟨rfl, B3.out⟩

set_option maxHeartbeats 1000000 in
set_option maxRecDepth 100000 in
theorem apart_ny (b : Addr) (t a : Int) (U B : Nat) (ao : Option Addr) (m c : Nat) (ao2 : Option Addr) (m2 c2 : Nat) (l : List UInt8) (w : World) (hg : Own w b) (h : ¬ Fit t a m) (h1 : U ≤ 1099511627776) (h2 : B ≤ 255) (h3 : m2 ≤ 55) (hs : Src w ao2 m2 c2 l) :
    Calls Tryd.prog 4 #[.int .i64 t, .int .i64 a, .slice ao m c, .int .i64 (U : Int), .int .i64 (B : Int), .slice ao2 m2 c2] w fun e w' => e = .returned (.bool true) ∧ Below w.heap.size w w' := by
  have K1 := keep (make_no t a ao m c b w h hg)
  have K2 := keep (fun w1 (hb : Below w.heap.size w w1) => make_yes U B ao2 m2 c2 l b w1 h1 h2 h3 (hs.below hb) (hg.below hb))
  clear hg h h1 h2 h3 hs
  go_enter Tryd.func4, Tryd.ntmps4
  go_wp2_with fail
  refine K1.out.mono ?_
  rintro e w1 ⟨rfl, hb1⟩
  have b1 := keep hb1
  clear hb1
  go_wp2_with fail
  refine (K2.out w1 b1.out).mono ?_
  rintro e w2 ⟨v2, rfl, hn2⟩
  obtain ⟨a2, d2, rfl, s2, _⟩ := hn2.src
  have hb2 := hn2.2
  clear s2 hn2
  have b2 := keep (b1.out.trans (hb2.mono b1.out.size))
  clear hb2
  go_wp2_with fail
  have B3 := keep (b2.out.alloc b2.out.size (.cells #[.int .u8 1] 5))
  refine (less_any none 0 0 [] _ 1 1 [1] _ (src_nil _) (Src.builtI _ 1 1 rfl)).mono ?_
  rintro e w3 ⟨rfl, rfl⟩
  rw [less_one']
  go_wp2
  go_ret
  exact ⟨rfl, B3.out⟩

theorem apart_walk (b : Addr) (t a : Int) (ao : Option Addr) (m c : Nat) (l : List UInt8) (u d : Int) (ao2 : Option Addr) (m2 c2 : Nat) (l2 : List UInt8) (w : World) (hg : Own w b) (_ : -9223372036854775808 ≤ t ∧ t < 9223372036854775808) (_ : -9223372036854775808 ≤ a ∧ a < 9223372036854775808) (_ : m ≤ 140737488351232)
    (_ : -9223372036854775808 ≤ u ∧ u < 9223372036854775808) (_ : -9223372036854775808 ≤ d ∧ d < 9223372036854775808) (_ : m2 ≤ 140737488351232) (hs : Src w ao m c l) (hs2 : Src w ao2 m2 c2 l2) :
    Calls Tryd.prog 4 #[.int .i64 t, .int .i64 a, .slice ao m c, .int .i64 u, .int .i64 d, .slice ao2 m2 c2] w fun e w' => e = .returned (.bool true) ∧ Below w.heap.size w w' := by
  by_cases f1 : Fit t a m
  · obtain ⟨⟨h1, h2⟩, ⟨h3, h4⟩, h5⟩ := f1
    obtain ⟨T, rfl⟩ : ∃ T : Nat, t = (T : Int) := ⟨t.toNat, by omega⟩
    obtain ⟨A, rfl⟩ : ∃ A : Nat, a = (A : Int) := ⟨a.toNat, by omega⟩
    by_cases f2 : Fit u d m2
    · obtain ⟨⟨g1, g2⟩, ⟨g3, g4⟩, g5⟩ := f2
      obtain ⟨U, rfl⟩ : ∃ T : Nat, u = (T : Int) := ⟨u.toNat, by omega⟩
      obtain ⟨B, rfl⟩ : ∃ A : Nat, d = (A : Int) := ⟨d.toNat, by omega⟩
      have hT : T ≤ 1099511627776 := by omega
      have hA : A ≤ 255 := by omega
      have hU : U ≤ 1099511627776 := by omega
      have hB : B ≤ 255 := by omega
      have hinj : mk T A l = mk U B l2 → T = U ∧ A = B ∧ l = l2 := mk_inj (by omega) (by omega) (by omega) (by omega)
      by_cases hTU : T = U
      · subst hTU
        by_cases hAB : A = B
        · subst hAB
          by_cases hll : l = l2
          · subst hll
            exact apart_same b T A ao m c l ao2 m2 c2 l w hg hT hA hU hB h5 g5 hs hs2 (by simp) (by simp)
          · exact apart_rest b T A ao m c l ao2 m2 c2 l2 w hg hT hA hU hB h5 g5 hs hs2 (by rw [beq_eq_false_iff_ne]; exact fun e => hll (hinj e).2.2) (by rw [beq_eq_false_iff_ne]; exact hll)
        · exact apart_tab b T A B ao m c l ao2 m2 c2 l2 w hg hT hA hU hB h5 g5 hs hs2 hAB (by rw [beq_eq_false_iff_ne]; exact fun e => hAB (hinj e).2.1)
      · exact apart_tree b T A U B ao m c l ao2 m2 c2 l2 w hg hT hA hU hB h5 g5 hs hs2 hTU (by rw [beq_eq_false_iff_ne]; exact fun e => hTU (hinj e).1)
    · exact apart_yn b T A u d ao m c ao2 m2 c2 l w hg (by omega) (by omega) h5 f2 hs
  · by_cases f2 : Fit u d m2
    · obtain ⟨⟨g1, g2⟩, ⟨g3, g4⟩, g5⟩ := f2
      obtain ⟨U, rfl⟩ : ∃ T : Nat, u = (T : Int) := ⟨u.toNat, by omega⟩
      obtain ⟨B, rfl⟩ : ∃ A : Nat, d = (A : Int) := ⟨d.toNat, by omega⟩
      exact apart_ny b t a U B ao m c ao2 m2 c2 l2 w hg f1 (by omega) (by omega) g5 hs2
    · exact apart_nn b t a u d ao m c ao2 m2 c2 w hg f1 f2
end Go.Proofs.YtomceheophnjnabDoor
