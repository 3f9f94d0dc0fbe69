/- The walk of the statement that less is an order. -/
import Derived.Test.YtomceheophnjnaaCp
import Derived.Test.YtomceheophnjnaaCl
import Derived.Test.YtomceheophnjnaaAi
namespace Go.Proofs.Ytomceheophnjnaa
open Go.RowKit

/-- Less than itself with a byte behind it. -/
theorem less_zero (l : List UInt8) : less l (l ++ [0]) = true := less_more l 0 []

set_option maxHeartbeats 1000000 in
set_option maxRecDepth 100000 in
theorem chain_tt (ao : Option Addr) (m c : Nat) (l : List UInt8) (ao2 : Option Addr) (m2 c2 : Nat) (l2 : List UInt8) (ao3 : Option Addr) (m3 c3 : Nat) (l3 : List UInt8) (w : World) (hm : m ≤ 140737488351232)
    (hs : Src w ao m c l) (hs2 : Src w ao2 m2 c2 l2) (hs3 : Src w ao3 m3 c3 l3) (h1 : less l l2 = true) (h2 : less l2 l = false) (h3 : Hid (less l2 l3 = true)) (h4 : Hid (less l l3 = true)) (h5 : decide (l = l2) = false) :
    Calls Try.prog 4 #[.slice ao m c, .slice ao2 m2 c2, .slice ao3 m3 c3] w fun e w' => e = .returned (.bool true) ∧ Below w.heap.size w w' := by
  obtain ⟨i0, hi, hz0, hz1, hz2⟩ := info_parts info5
  have hq : (l == l2) = false := by rw [list_beq, h5]
  have HS := keep hs
  have HS2 := keep hs2
  have HS3 := keep hs3
  have cv1 := conv_src hs
  have cv2 := conv_src hs2
  have H1 := keep h1
  have H2 := keep h2
  clear hs hs2 hs3 h1 h2 h5
  go_enter Try.func4, Try.ntmps4
  go_wp2_with fail
  refine (less_any ao m c l ao2 m2 c2 l2 _ HS.out HS2.out).mono ?_
  rintro e w1 ⟨rfl, rfl⟩
  rw [H1.out]
  go_wp2_with fail
  refine (less_any ao2 m2 c2 l2 ao m c l _ HS2.out HS.out).mono ?_
  rintro e w2 ⟨rfl, rfl⟩
  rw [H2.out]
  go_wp2_with fail
  refine (less_any ao2 m2 c2 l2 ao3 m3 c3 l3 _ HS2.out HS3.out).mono ?_
  rintro e w3 ⟨rfl, rfl⟩
  rw [h3.out]
  go_wp2_with fail
  refine (less_any ao m c l ao3 m3 c3 l3 _ HS.out HS3.out).mono ?_
  rintro e w3y ⟨rfl, rfl⟩
  rw [h4.out]
  go_wp2_with (first
    | (at_builtin; refine wpList_append_src_if (by rfl) _ _ 22 rfl w3y.heap.size i0 _ Try.underlying22 hi hz0 hz1 hz2 rfl _ m l rfl (by exact O4.out.alloc _) _ 1 1 [0] rfl (Src.builtI _ 0 0 rfl) (by omega) (le_alloc B4.out.size _) ?_; intro v5 w5 ho5 hg5; have B5 := keep ((B4.out.alloc B4.out.size _).grown hg5 (le_alloc B4.out.size _) (fun j hj => (O4.out.lt j hj).1)); obtain ⟨a5, c5, rfl, s5, _⟩ := Src.of_own ho5; have S5 := keep s5; clear ho5 hg5 s5)
    | (at_builtin; refine wpList_append_src_if (by rfl) _ _ 22 rfl w3y.heap.size i0 _ Try.underlying22 hi hz0 hz1 hz2 rfl _ 0 [] rfl (World.ownsRow_made w3y #[] 0 (Nat.le_refl _) (by unfold maxLen; omega) rfl) _ m c l rfl (HS.out.below ((Below.refl _ _).alloc (Nat.le_refl _) _)) (by omega) (by simp) ?_; intro v4 w4 ho4 hg4; simp only [Nat.zero_add, List.nil_append] at ho4; have B4 := keep (((Below.refl w3y.heap.size w3y).alloc (Nat.le_refl _) _).grown hg4 (by simp) (fun j hj => by cases hj; exact Nat.le_refl _)); have O4 := keep ho4; clear ho4 hg4))
  refine (less_any ao m c l a5 _ c5 _ _ (HS.out.below B5.out) S5.out).mono ?_
  rintro e w6 ⟨rfl, rfl⟩
  rw [less_zero]
  go_wp2
  go_ret
  exact ⟨rfl, B5.out⟩

set_option maxHeartbeats 1000000 in
set_option maxRecDepth 100000 in
theorem chain_tf (ao : Option Addr) (m c : Nat) (l : List UInt8) (ao2 : Option Addr) (m2 c2 : Nat) (l2 : List UInt8) (ao3 : Option Addr) (m3 c3 : Nat) (l3 : List UInt8) (w : World) (hm : m ≤ 140737488351232)
    (hs : Src w ao m c l) (hs2 : Src w ao2 m2 c2 l2) (hs3 : Src w ao3 m3 c3 l3) (h1 : less l l2 = true) (h2 : less l2 l = false) (h3 : Hid (less l2 l3 = false)) (h5 : decide (l = l2) = false) :
    Calls Try.prog 4 #[.slice ao m c, .slice ao2 m2 c2, .slice ao3 m3 c3] w fun e w' => e = .returned (.bool true) ∧ Below w.heap.size w w' := by
  obtain ⟨i0, hi, hz0, hz1, hz2⟩ := info_parts info5
  have hq : (l == l2) = false := by rw [list_beq, h5]
  have HS := keep hs
  have HS2 := keep hs2
  have HS3 := keep hs3
  have cv1 := conv_src hs
  have cv2 := conv_src hs2
  have H1 := keep h1
  have H2 := keep h2
  clear hs hs2 hs3 h1 h2 h5
  go_enter Try.func4, Try.ntmps4
  go_wp2_with fail
  refine (less_any ao m c l ao2 m2 c2 l2 _ HS.out HS2.out).mono ?_
  rintro e w1 ⟨rfl, rfl⟩
  rw [H1.out]
  go_wp2_with fail
  refine (less_any ao2 m2 c2 l2 ao m c l _ HS2.out HS.out).mono ?_
  rintro e w2 ⟨rfl, rfl⟩
  rw [H2.out]
  go_wp2_with fail
  refine (less_any ao2 m2 c2 l2 ao3 m3 c3 l3 _ HS2.out HS3.out).mono ?_
  rintro e w3 ⟨rfl, rfl⟩
  rw [h3.out]
  go_wp2_with (first
    | (at_builtin; refine wpList_append_src_if (by rfl) _ _ 22 rfl w3.heap.size i0 _ Try.underlying22 hi hz0 hz1 hz2 rfl _ m l rfl (by exact O4.out.alloc _) _ 1 1 [0] rfl (Src.builtI _ 0 0 rfl) (by omega) (le_alloc B4.out.size _) ?_; intro v5 w5 ho5 hg5; have B5 := keep ((B4.out.alloc B4.out.size _).grown hg5 (le_alloc B4.out.size _) (fun j hj => (O4.out.lt j hj).1)); obtain ⟨a5, c5, rfl, s5, _⟩ := Src.of_own ho5; have S5 := keep s5; clear ho5 hg5 s5)
    | (at_builtin; refine wpList_append_src_if (by rfl) _ _ 22 rfl w3.heap.size i0 _ Try.underlying22 hi hz0 hz1 hz2 rfl _ 0 [] rfl (World.ownsRow_made w3 #[] 0 (Nat.le_refl _) (by unfold maxLen; omega) rfl) _ m c l rfl (HS.out.below ((Below.refl _ _).alloc (Nat.le_refl _) _)) (by omega) (by simp) ?_; intro v4 w4 ho4 hg4; simp only [Nat.zero_add, List.nil_append] at ho4; have B4 := keep (((Below.refl w3.heap.size w3).alloc (Nat.le_refl _) _).grown hg4 (by simp) (fun j hj => by cases hj; exact Nat.le_refl _)); have O4 := keep ho4; clear ho4 hg4))
  refine (less_any ao m c l a5 _ c5 _ _ (HS.out.below B5.out) S5.out).mono ?_
  rintro e w6 ⟨rfl, rfl⟩
  rw [less_zero]
  go_wp2
  go_ret
  exact ⟨rfl, B5.out⟩

set_option maxHeartbeats 1000000 in
set_option maxRecDepth 100000 in
theorem chain_ft (ao : Option Addr) (m c : Nat) (l : List UInt8) (ao2 : Option Addr) (m2 c2 : Nat) (l2 : List UInt8) (ao3 : Option Addr) (m3 c3 : Nat) (l3 : List UInt8) (w : World) (hm : m ≤ 140737488351232)
    (hs : Src w ao m c l) (hs2 : Src w ao2 m2 c2 l2) (hs3 : Src w ao3 m3 c3 l3) (h1 : less l l2 = false) (h2 : less l2 l = true)  (h5 : decide (l = l2) = false) :
    Calls Try.prog 4 #[.slice ao m c, .slice ao2 m2 c2, .slice ao3 m3 c3] w fun e w' => e = .returned (.bool true) ∧ Below w.heap.size w w' := by
  obtain ⟨i0, hi, hz0, hz1, hz2⟩ := info_parts info5
  have hq : (l == l2) = false := by rw [list_beq, h5]
  have HS := keep hs
  have HS2 := keep hs2
  have HS3 := keep hs3
  have cv1 := conv_src hs
  have cv2 := conv_src hs2
  have H1 := keep h1
  have H2 := keep h2
  clear hs hs2 hs3 h1 h2 h5
  go_enter Try.func4, Try.ntmps4
  go_wp2_with fail
  refine (less_any ao m c l ao2 m2 c2 l2 _ HS.out HS2.out).mono ?_
  rintro e w1 ⟨rfl, rfl⟩
  rw [H1.out]
  go_wp2_with fail
  refine (less_any ao2 m2 c2 l2 ao m c l _ HS2.out HS.out).mono ?_
  rintro e w2 ⟨rfl, rfl⟩
  rw [H2.out]
  go_wp2_with (first
    | (at_builtin; refine wpList_append_src_if (by rfl) _ _ 22 rfl w2.heap.size i0 _ Try.underlying22 hi hz0 hz1 hz2 rfl _ m l rfl (by exact O4.out.alloc _) _ 1 1 [0] rfl (Src.builtI _ 0 0 rfl) (by omega) (le_alloc B4.out.size _) ?_; intro v5 w5 ho5 hg5; have B5 := keep ((B4.out.alloc B4.out.size _).grown hg5 (le_alloc B4.out.size _) (fun j hj => (O4.out.lt j hj).1)); obtain ⟨a5, c5, rfl, s5, _⟩ := Src.of_own ho5; have S5 := keep s5; clear ho5 hg5 s5)
    | (at_builtin; refine wpList_append_src_if (by rfl) _ _ 22 rfl w2.heap.size i0 _ Try.underlying22 hi hz0 hz1 hz2 rfl _ 0 [] rfl (World.ownsRow_made w2 #[] 0 (Nat.le_refl _) (by unfold maxLen; omega) rfl) _ m c l rfl (HS.out.below ((Below.refl _ _).alloc (Nat.le_refl _) _)) (by omega) (by simp) ?_; intro v4 w4 ho4 hg4; simp only [Nat.zero_add, List.nil_append] at ho4; have B4 := keep (((Below.refl w2.heap.size w2).alloc (Nat.le_refl _) _).grown hg4 (by simp) (fun j hj => by cases hj; exact Nat.le_refl _)); have O4 := keep ho4; clear ho4 hg4))
  refine (less_any ao m c l a5 _ c5 _ _ (HS.out.below B5.out) S5.out).mono ?_
  rintro e w6 ⟨rfl, rfl⟩
  rw [less_zero]
  go_wp2
  go_ret
  exact ⟨rfl, B5.out⟩

set_option maxHeartbeats 1000000 in
set_option maxRecDepth 100000 in
theorem chain_ff (ao : Option Addr) (m c : Nat) (l : List UInt8) (ao2 : Option Addr) (m2 c2 : Nat) (l2 : List UInt8) (ao3 : Option Addr) (m3 c3 : Nat) (l3 : List UInt8) (w : World) (hm : m ≤ 140737488351232)
    (hs : Src w ao m c l) (hs2 : Src w ao2 m2 c2 l2) (hs3 : Src w ao3 m3 c3 l3) (h1 : less l l2 = false) (h2 : less l2 l = false)  (h5 : decide (l = l2) = true) :
    Calls Try.prog 4 #[.slice ao m c, .slice ao2 m2 c2, .slice ao3 m3 c3] w fun e w' => e = .returned (.bool true) ∧ Below w.heap.size w w' := by
  obtain ⟨i0, hi, hz0, hz1, hz2⟩ := info_parts info5
  have hq : (l == l2) = true := by rw [list_beq, h5]
  have HS := keep hs
  have HS2 := keep hs2
  have HS3 := keep hs3
  have cv1 := conv_src hs
  have cv2 := conv_src hs2
  have H1 := keep h1
  have H2 := keep h2
  clear hs hs2 hs3 h1 h2 h5
  go_enter Try.func4, Try.ntmps4
  go_wp2_with fail
  refine (less_any ao m c l ao2 m2 c2 l2 _ HS.out HS2.out).mono ?_
  rintro e w1 ⟨rfl, rfl⟩
  rw [H1.out]
  go_wp2_with fail
  refine (less_any ao2 m2 c2 l2 ao m c l _ HS2.out HS.out).mono ?_
  rintro e w2 ⟨rfl, rfl⟩
  rw [H2.out]
  go_wp2_with (first
    | (at_builtin; refine wpList_append_src_if (by rfl) _ _ 22 rfl w2.heap.size i0 _ Try.underlying22 hi hz0 hz1 hz2 rfl _ m l rfl (by exact O4.out.alloc _) _ 1 1 [0] rfl (Src.builtI _ 0 0 rfl) (by omega) (le_alloc B4.out.size _) ?_; intro v5 w5 ho5 hg5; have B5 := keep ((B4.out.alloc B4.out.size _).grown hg5 (le_alloc B4.out.size _) (fun j hj => (O4.out.lt j hj).1)); obtain ⟨a5, c5, rfl, s5, _⟩ := Src.of_own ho5; have S5 := keep s5; clear ho5 hg5 s5)
    | (at_builtin; refine wpList_append_src_if (by rfl) _ _ 22 rfl w2.heap.size i0 _ Try.underlying22 hi hz0 hz1 hz2 rfl _ 0 [] rfl (World.ownsRow_made w2 #[] 0 (Nat.le_refl _) (by unfold maxLen; omega) rfl) _ m c l rfl (HS.out.below ((Below.refl _ _).alloc (Nat.le_refl _) _)) (by omega) (by simp) ?_; intro v4 w4 ho4 hg4; simp only [Nat.zero_add, List.nil_append] at ho4; have B4 := keep (((Below.refl w2.heap.size w2).alloc (Nat.le_refl _) _).grown hg4 (by simp) (fun j hj => by cases hj; exact Nat.le_refl _)); have O4 := keep ho4; clear ho4 hg4))
  refine (less_any ao m c l a5 _ c5 _ _ (HS.out.below B5.out) S5.out).mono ?_
  rintro e w6 ⟨rfl, rfl⟩
  rw [less_zero]
  go_wp2
  go_ret
  exact ⟨rfl, B5.out⟩

theorem chain_walk (ao : Option Addr) (m c : Nat) (l : List UInt8) (ao2 : Option Addr) (m2 c2 : Nat) (l2 : List UInt8) (ao3 : Option Addr) (m3 c3 : Nat) (l3 : List UInt8) (w : World) (hm : m ≤ 140737488351232) (_ : m2 ≤ 140737488351232) (_ : m3 ≤ 140737488351232)
    (hs : Src w ao m c l) (hs2 : Src w ao2 m2 c2 l2) (hs3 : Src w ao3 m3 c3 l3) :
    Calls Try.prog 4 #[.slice ao m c, .slice ao2 m2 c2, .slice ao3 m3 c3] w fun e w' => e = .returned (.bool true) ∧ Below w.heap.size w w' := by
  have hor := less_or l l2
  cases h1 : less l l2 with
  | true =>
    have h2 := less_asymm h1
    rw [h1, h2] at hor
    have h5 : decide (l = l2) = false := by simpa using hor
    cases h3 : less l2 l3 with
    | true => exact chain_tt ao m c l ao2 m2 c2 l2 ao3 m3 c3 l3 w hm hs hs2 hs3 h1 h2 (keep h3) (keep (less_trans h1 h3)) h5
    | false => exact chain_tf ao m c l ao2 m2 c2 l2 ao3 m3 c3 l3 w hm hs hs2 hs3 h1 h2 (keep h3) h5
  | false =>
    rw [h1] at hor
    cases h2 : less l2 l with
    | true =>
      rw [h2] at hor
      exact chain_ft ao m c l ao2 m2 c2 l2 ao3 m3 c3 l3 w hm hs hs2 hs3 h1 h2 (by simpa using hor)
    | false =>
      rw [h2] at hor
      exact chain_ff ao m c l ao2 m2 c2 l2 ao3 m3 c3 l3 w hm hs hs2 hs3 h1 h2 (by simpa using hor)
end Go.Proofs.Ytomceheophnjnaa
