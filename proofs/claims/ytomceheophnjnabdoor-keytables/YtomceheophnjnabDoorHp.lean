/- The walks of bytes.Equal, of bytes.HasPrefix and of key.Has. -/
import Derived.Test.YtomceheophnjnabDoorKl
namespace Go.Proofs.YtomceheophnjnabDoor
open Go.RowKit

theorem Src.take {w : World} {ao : Option Addr} {m c : Nat} {l : List UInt8} (h : Src w ao m c l) {k : Nat} (hk : k ≤ m) : Src w ao k c (l.take k) :=
  ⟨by rw [List.length_take, h.len]; omega, Nat.le_trans hk h.cap, fun e => by have := h.nil e; omega, fun ad had j u hu => h.cells ad had j u (by
    unfold bv at hu ⊢
    rw [List.map_take, List.getElem?_take] at hu
    split at hu
    · exact hu
    · cases hu)⟩
theorem prefix_take (l p : List UInt8) : (decide (p.length ≤ l.length) && decide (l.take p.length = p)) = decide (p <+: l) := by
  rw [Bool.eq_iff_iff]
  simp only [Bool.and_eq_true, decide_eq_true_iff]
  constructor
  · rintro ⟨_, h⟩
    exact ⟨l.drop p.length, by conv => lhs; arg 1; rw [← h]
                               exact List.take_append_drop _ _⟩
  · rintro ⟨t, rfl⟩
    simp

set_option maxHeartbeats 1000000 in
set_option maxRecDepth 100000 in
theorem equal_any (ao : Option Addr) (m c : Nat) (l : List UInt8) (ao2 : Option Addr) (m2 c2 : Nat) (l2 : List UInt8) (w : World) (hs : Src w ao m c l) (hs2 : Src w ao2 m2 c2 l2) :
    Calls Tryd.prog 20 #[.slice ao m c, .slice ao2 m2 c2] w fun e w' => e = .returned (.bool (decide (l = l2))) ∧ Below w.heap.size w w' := by
  have h1 := conv_src hs
  have h2 := conv_src hs2
  clear hs hs2
  go_enter Tryd.func20, Tryd.ntmps20
  go_wp2
  go_ret
  exact ⟨by rw [← list_beq]; rfl, by first | exact Below.refl _ _ | exact (Below.refl _ _).drew⟩

set_option maxHeartbeats 1000000 in
set_option maxRecDepth 100000 in
theorem hasPrefix_any (ao : Option Addr) (m c : Nat) (l : List UInt8) (ao2 : Option Addr) (m2 c2 : Nat) (l2 : List UInt8) (w : World) (hs : Src w ao m c l) (hs2 : Src w ao2 m2 c2 l2) :
    Calls Tryd.prog 14 #[.slice ao m c, .slice ao2 m2 c2] w fun e w' => e = .returned (.bool (decide (l2 <+: l))) ∧ Below w.heap.size w w' := by
  have hp := prefix_take l l2
  rw [hs.len, hs2.len] at hp
  have HP := keep hp
  clear hp
  by_cases h : m2 ≤ m
  · have hc := Nat.le_trans h hs.cap
    have K1 := keep (fun w1 (hb : Below w.heap.size w w1) => equal_any ao m2 c (l.take m2) ao2 m2 c2 l2 w1 ((hs.take h).below hb) (hs2.below hb))
    clear hs hs2
    go_enter Tryd.func14, Tryd.ntmps14
    go_wp2_with fail
    refine (K1.out w (Below.refl _ _)).mono ?_
    rintro e w1 ⟨rfl, b1⟩
    have B1 := keep b1
    clear b1
    go_wp2
    go_ret
    refine ⟨?_, B1.out⟩
    rw [← HP.out]
    simp [h]
  · clear hs hs2
    go_enter Tryd.func14, Tryd.ntmps14
    go_wp2
    go_ret
    refine ⟨?_, by first | exact Below.refl _ _ | exact (Below.refl _ _).drew⟩
    rw [← HP.out]
    simp [h]

set_option maxHeartbeats 1000000 in
set_option maxRecDepth 100000 in
theorem has_any (ao : Option Addr) (m c : Nat) (l : List UInt8) (ao2 : Option Addr) (m2 c2 : Nat) (l2 : List UInt8) (w : World) (hs : Src w ao m c l) (hs2 : Src w ao2 m2 c2 l2) :
    Calls Tryd.prog 8 #[.slice ao m c, .slice ao2 m2 c2] w fun e w' => e = .returned (.bool (decide (l2 <+: l))) ∧ Below w.heap.size w w' := by
  have K1 := keep (hasPrefix_any ao m c l ao2 m2 c2 l2 w hs hs2)
  clear hs hs2
  go_enter Tryd.func8, Tryd.ntmps8
  go_wp2_with fail
  refine K1.out.mono ?_
  rintro e w1 ⟨rfl, b1⟩
  have B1 := keep b1
  clear b1
  go_wp2
  go_ret
  exact ⟨rfl, B1.out⟩
end Go.Proofs.YtomceheophnjnabDoor
