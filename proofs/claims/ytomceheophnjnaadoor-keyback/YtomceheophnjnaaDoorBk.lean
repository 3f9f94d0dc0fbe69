/- The walk of the statement that a key is split into what it was made of. -/
import Derived.Test.YtomceheophnjnaaDoorSl
import Derived.Test.YtomceheophnjnaaDoorMy
import Derived.Test.YtomceheophnjnaaDoorSm
namespace Go.Proofs.YtomceheophnjnaaDoor
open Go.RowKit

theorem mk_take (T A : Nat) (l : List UInt8) (h : T ≤ 1099511627776) : big ((mk T A l).take 8) = T := by
  unfold mk
  rw [List.take_append_of_le_length (by rw [be_length]; omega), List.take_of_length_le (by rw [be_length]; omega)]
  exact big_be 8 T (fix_lt8 (by omega))
theorem mk_at (T A : Nat) (l : List UInt8) (h : A ≤ 255) : (fn (mk T A l) 8).toNat = A := by
  have e : fn (mk T A l) 8 = UInt8.ofNat A := by
    unfold fn mk
    rw [List.getD_eq_getElem?_getD, List.getElem?_append_right (by rw [be_length]; omega), be_length]
    rfl
  rw [e, UInt8.toNat_ofNat']
  omega
theorem mk_drop (T A : Nat) (l : List UInt8) : (mk T A l).drop 9 = l := by
  unfold mk
  rw [List.drop_append, be_length, List.drop_eq_nil_of_le (by rw [be_length]; omega)]
  rfl
theorem mk_key (T A : Nat) (l : List UInt8) (h : T ≤ 1099511627776) (hl : l.length ≤ 55) : IsKey (mk T A l) :=
  ⟨by rw [mk_length]; omega, by rw [mk_take T A l h]; exact h, by rw [mk_length]; omega⟩
theorem split_mk (b : Addr) (ao : Option Addr) (m c : Nat) (T A : Nat) (l : List UInt8) (w : World) (hg : Own w b) (hs : Src w ao m c (mk T A l)) (h1 : T ≤ 1099511627776) (h2 : A ≤ 255) (h3 : l.length ≤ 55) :
    Calls Tryd.prog 12 #[.slice ao m c] w fun e w' => ∃ x y, e = .returned (.tuple #[.int .i64 (T : Int), .int .i64 (A : Int), .slice x l.length y, .int .i64 0]) ∧ Src w' x l.length y l ∧ Below w.heap.size w w' :=
  (split_any b ao m c _ w hg hs).mono fun e w' h => by
    rcases h with ⟨_, x, y, rfl, s, hb⟩ | ⟨h, _⟩
    · have e9 : (mk T A l).length - 9 = l.length := by rw [mk_length]; omega
      rw [e9, mk_drop] at s
      exact ⟨x, y, by rw [mk_take T A l h1, mk_at T A l h2, e9], s, hb⟩
    · exact absurd (mk_key T A l h1 h3) h

set_option maxHeartbeats 1000000 in
set_option maxRecDepth 100000 in
theorem back_yes (b : Addr) (T A : Nat) (ao : Option Addr) (m c : Nat) (l : List UInt8) (w : World) (hg : Own w b) (h1 : T ≤ 1099511627776) (h2 : A ≤ 255) (h3 : m ≤ 55) (hs : Src w ao m c l) :
    Calls Tryd.prog 6 #[.int .i64 (T : Int), .int .i64 (A : Int), .slice ao m c] w fun e w' => e = .returned (.bool true) ∧ Below w.heap.size w w' := by
  have hll := hs.len
  have K1 := keep (make_yes T A ao m c l b w h1 h2 h3 hs hg)
  have HS := keep hs
  have HG := keep hg
  clear hs hg
  go_enter Tryd.func6, Tryd.ntmps6
  go_wp2_with fail
  refine K1.out.mono ?_
  rintro e w1 ⟨v1, rfl, hn1⟩
  obtain ⟨a1, c1, rfl, s1, _⟩ := hn1.src
  have b1 := keep hn1.2
  have S1 := keep s1
  clear hn1 s1
  go_wp2_with fail
  refine (split_mk b a1 _ c1 T A l w1 (HG.out.below b1.out) S1.out h1 h2 (by omega)).mono ?_
  rintro e w2 ⟨x2, y2, rfl, s2, hb2⟩
  have b2 := keep (b1.out.trans (hb2.mono b1.out.size))
  rw [hll] at s2
  have S2 := keep s2
  clear s2 hb2 b1 S1
  go_wp2_with fail
  refine (same_any x2 m y2 _ ao m c l _ S2.out (HS.out.below b2.out)).mono ?_
  rintro e w3 ⟨rfl, hb3⟩
  rw [decide_eq_true rfl]
  have b3 := keep (b2.out.trans (hb3.mono b2.out.size))
  clear hb3
  go_wp2
  go_ret
  exact ⟨rfl, b3.out⟩

set_option maxHeartbeats 1000000 in
set_option maxRecDepth 100000 in
theorem back_no (b : Addr) (t a : Int) (ao : Option Addr) (m c : Nat) (w : World) (hg : Own w b) (h : ¬ Fit t a m) :
    Calls Tryd.prog 6 #[.int .i64 t, .int .i64 a, .slice ao m c] w fun e w' => e = .returned (.bool true) ∧ Below w.heap.size w w' := by
  have K1 := keep (make_no t a ao m c b w h hg)
  unfold Fit at h
  clear hg
  by_cases e1 : t < 0
  · clear h
    go_enter Tryd.func6, Tryd.ntmps6
    go_wp2_with fail
    refine K1.out.mono ?_
    rintro e w1 ⟨rfl, hb1⟩
    have b1 := keep hb1
    clear hb1
    go_wp2
    go_ret
    exact ⟨rfl, b1.out⟩
  by_cases e2 : 1099511627776 < t
  · clear h
    go_enter Tryd.func6, Tryd.ntmps6
    go_wp2_with fail
    refine K1.out.mono ?_
    rintro e w1 ⟨rfl, hb1⟩
    have b1 := keep hb1
    clear hb1
    go_wp2
    go_ret
    exact ⟨rfl, b1.out⟩
  by_cases e3 : a < 0
  · clear h
    go_enter Tryd.func6, Tryd.ntmps6
    go_wp2_with fail
    refine K1.out.mono ?_
    rintro e w1 ⟨rfl, hb1⟩
    have b1 := keep hb1
    clear hb1
    go_wp2
    go_ret
    exact ⟨rfl, b1.out⟩
  by_cases e4 : 255 < a
  · clear h
    go_enter Tryd.func6, Tryd.ntmps6
    go_wp2_with fail
    refine K1.out.mono ?_
    rintro e w1 ⟨rfl, hb1⟩
    have b1 := keep hb1
    clear hb1
    go_wp2
    go_ret
    exact ⟨rfl, b1.out⟩
  have e5 : (55 : Int) < (m : Int) := by omega
  clear h
  go_enter Tryd.func6, Tryd.ntmps6
  go_wp2_with fail
  refine K1.out.mono ?_
  rintro e w1 ⟨rfl, hb1⟩
  have b1 := keep hb1
  clear hb1
  go_wp2
  go_ret
  exact ⟨rfl, b1.out⟩

theorem back_walk (b : Addr) (t a : Int) (ao : Option Addr) (m c : Nat) (l : List UInt8) (w : World) (hg : Own w b) (_ : -9223372036854775808 ≤ t ∧ t < 9223372036854775808) (_ : -9223372036854775808 ≤ a ∧ a < 9223372036854775808) (_ : m ≤ 140737488351232) (hs : Src w ao m c l) :
    Calls Tryd.prog 6 #[.int .i64 t, .int .i64 a, .slice ao m c] w fun e w' => e = .returned (.bool true) ∧ Below w.heap.size w w' := by
  by_cases h : Fit t a m
  · obtain ⟨⟨h1, h2⟩, ⟨h3, h4⟩, h5⟩ := h
    obtain ⟨T, rfl⟩ : ∃ T : Nat, t = (T : Int) := ⟨t.toNat, by omega⟩
    obtain ⟨A, rfl⟩ : ∃ A : Nat, a = (A : Int) := ⟨a.toNat, by omega⟩
    exact back_yes b T A ao m c l w hg (by omega) (by omega) h5 hs
  · exact back_no b t a ao m c w hg h
end Go.Proofs.YtomceheophnjnaaDoor
