/- The walk of the statement on what any bytes were made of. -/
import Derived.Test.YtomceheophnjnaaDoorRt
import Derived.Test.YtomceheophnjnaaDoorSm
namespace Go.Proofs.YtomceheophnjnaaDoor
open Go.RowKit

theorem no_key_nil : ¬ IsKey [] := fun h => by have := h.1; simp at this
theorem split_yes (b : Addr) (ao : Option Addr) (m c : Nat) (l : List UInt8) (w : World) (hg : Own w b) (hs : Src w ao m c l) (h : IsKey l) :
    Calls Tryd.prog 12 #[.slice ao m c] w fun e w' => ∃ x y, e = .returned (.tuple #[.int .i64 ((big (l.take 8) : Nat) : Int), .int .i64 ((fn l 8).toNat : Int), .slice x (l.length - 9) y, .int .i64 0]) ∧ Src w' x (l.length - 9) y (l.drop 9) ∧ Below w.heap.size w w' :=
  (split_any b ao m c l w hg hs).mono fun e w' hh => by
    rcases hh with ⟨_, hh⟩ | ⟨hn, _⟩
    · exact hh
    · exact absurd h hn
theorem split_no (b : Addr) (ao : Option Addr) (m c : Nat) (l : List UInt8) (w : World) (hg : Own w b) (hs : Src w ao m c l) (h : ¬ IsKey l) :
    Calls Tryd.prog 12 #[.slice ao m c] w fun e w' => e = .returned (.tuple #[.int .i64 0, .int .i64 0, .slice none 0 0, .int .i64 2]) ∧ Below w.heap.size w w' :=
  (split_any b ao m c l w hg hs).mono fun e w' hh => by
    rcases hh with ⟨hn, _⟩ | ⟨_, hh⟩
    · exact absurd hn h
    · exact hh
theorem rsplit_yes (ao : Option Addr) (m c : Nat) (l : List UInt8) (w : World) (hm : m ≤ 140737488355328) (hs : Src w ao m c l) (h : IsKey l) :
    Calls Tryd.prog 13 #[.slice ao m c] w fun e w' => ∃ x y, e = .returned (.tuple #[.int .i64 ((big (l.take 8) : Nat) : Int), .int .i64 ((fn l 8).toNat : Int), .slice x (l.length - 9) y, .int .i64 0]) ∧ Src w' x (l.length - 9) y (l.drop 9) ∧ Below w.heap.size w w' :=
  (rsplit_any ao m c l w hm hs).mono fun e w' hh => by
    rcases hh with ⟨_, hh⟩ | ⟨hn, _⟩
    · exact hh
    · exact absurd h hn
theorem rsplit_no (ao : Option Addr) (m c : Nat) (l : List UInt8) (w : World) (hm : m ≤ 140737488355328) (hs : Src w ao m c l) (h : ¬ IsKey l) :
    Calls Tryd.prog 13 #[.slice ao m c] w fun e w' => e = .returned (.tuple #[.int .i64 0, .int .i64 0, .slice none 0 0, .int .i64 2]) ∧ Below w.heap.size w w' :=
  (rsplit_any ao m c l w hm hs).mono fun e w' hh => by
    rcases hh with ⟨hn, _⟩ | ⟨_, hh⟩
    · exact absurd hn h
    · exact hh

set_option maxHeartbeats 1000000 in
set_option maxRecDepth 100000 in
theorem splits_yes (b : Addr) (ao : Option Addr) (m c : Nat) (l : List UInt8) (w : World) (hg : Own w b) (hm : m ≤ 140737488351232) (hs : Src w ao m c l) (h : IsKey l) :
    Calls Tryd.prog 4 #[.slice ao m c] w fun e w' => e = .returned (.bool true) ∧ Below w.heap.size w w' := by
  have K1 := keep (split_yes b ao m c l w hg hs h)
  have K2 := keep (fun w1 (hb : Below w.heap.size w w1) => rsplit_yes ao m c l w1 (by omega) (hs.below hb) h)
  have K3 := keep (fun w1 (hb : Below w.heap.size w w1) => split_no b none 0 0 [] w1 (hg.below hb) (src_nil w1) no_key_nil)
  clear hs hg h
  obtain ⟨N, hN⟩ : ∃ N, big (l.take 8) = N := ⟨_, rfl⟩
  obtain ⟨y, hy⟩ : ∃ y, fn l 8 = y := ⟨_, rfl⟩
  obtain ⟨k, hk⟩ : ∃ k, l.length - 9 = k := ⟨_, rfl⟩
  obtain ⟨r, hr⟩ : ∃ r, l.drop 9 = r := ⟨_, rfl⟩
  rw [hN, hy, hk, hr] at K1 K2
  clear hN hy hk hr
  go_enter Tryd.func4, Tryd.ntmps4
  go_wp2_with fail
  refine K1.out.mono ?_
  rintro e w1 ⟨x1, y1, rfl, s1, hb1⟩
  have S1 := keep s1
  have b1 := keep hb1
  clear s1 hb1
  go_wp2_with fail
  refine (K2.out w1 b1.out).mono ?_
  rintro e w2 ⟨x2, y2, rfl, s2, hb2⟩
  have S1' := keep (S1.out.below hb2)
  have S2 := keep s2
  have b2 := keep (b1.out.trans (hb2.mono b1.out.size))
  clear s2 hb2 b1 S1
  go_wp2_with fail
  refine (K3.out w2 b2.out).mono ?_
  rintro e w3 ⟨rfl, hb3⟩
  have S1 := keep (S1'.out.below hb3)
  have S2' := keep (S2.out.below hb3)
  have b3 := keep (b2.out.trans (hb3.mono b2.out.size))
  clear hb3 b2 S1' S2
  go_wp2_with fail
  refine (same_any x1 k y1 _ x2 k y2 _ _ S1.out S2'.out).mono ?_
  rintro e w4 ⟨rfl, hb4⟩
  rw [decide_eq_true rfl]
  have b4 := keep (b3.out.trans (hb4.mono b3.out.size))
  clear hb4
  go_wp2
  go_ret
  exact ⟨rfl, b4.out⟩

set_option maxHeartbeats 1000000 in
set_option maxRecDepth 100000 in
theorem splits_no (b : Addr) (ao : Option Addr) (m c : Nat) (l : List UInt8) (w : World) (hg : Own w b) (hm : m ≤ 140737488351232) (hs : Src w ao m c l) (h : ¬ IsKey l) :
    Calls Tryd.prog 4 #[.slice ao m c] w fun e w' => e = .returned (.bool true) ∧ Below w.heap.size w w' := by
  have K1 := keep (split_no b ao m c l w hg hs h)
  have K2 := keep (fun w1 (hb : Below w.heap.size w w1) => rsplit_no ao m c l w1 (by omega) (hs.below hb) h)
  have K3 := keep (fun w1 (hb : Below w.heap.size w w1) => split_no b none 0 0 [] w1 (hg.below hb) (src_nil w1) no_key_nil)
  clear hs hg h
  go_enter Tryd.func4, Tryd.ntmps4
  go_wp2_with fail
  refine K1.out.mono ?_
  rintro e w1 ⟨rfl, hb1⟩
  have b1 := keep hb1
  clear hb1
  go_wp2_with fail
  refine (K2.out w1 b1.out).mono ?_
  rintro e w2 ⟨rfl, hb2⟩
  have b2 := keep (b1.out.trans (hb2.mono b1.out.size))
  clear hb2 b1
  go_wp2_with fail
  refine (K3.out w2 b2.out).mono ?_
  rintro e w3 ⟨rfl, hb3⟩
  have b3 := keep (b2.out.trans (hb3.mono b2.out.size))
  clear hb3 b2
  go_wp2_with fail
  refine (same_any none 0 0 [] none 0 0 [] _ (src_nil _) (src_nil _)).mono ?_
  rintro e w4 ⟨rfl, hb4⟩
  rw [decide_eq_true rfl]
  have b4 := keep (b3.out.trans (hb4.mono b3.out.size))
  clear hb4
  go_wp2
  go_ret
  exact ⟨rfl, b4.out⟩

theorem splits_walk (b : Addr) (ao : Option Addr) (m c : Nat) (l : List UInt8) (w : World) (hg : Own w b) (hm : m ≤ 140737488351232) (hs : Src w ao m c l) :
    Calls Tryd.prog 4 #[.slice ao m c] w fun e w' => e = .returned (.bool true) ∧ Below w.heap.size w w' := by
  by_cases h : IsKey l
  · exact splits_yes b ao m c l w hg hm hs h
  · exact splits_no b ao m c l w hg hm hs h
end Go.Proofs.YtomceheophnjnaaDoor
