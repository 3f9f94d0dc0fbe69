/- The walk of key.check. -/
import Derived.Test.YtomceheophnjnabDoorIs
namespace Go.Proofs.YtomceheophnjnabDoor
open Go.RowKit

/-- Of which a key is made. -/
def Fit (t a : Int) (m : Nat) : Prop := (0 ≤ t ∧ t ≤ 1099511627776) ∧ (0 ≤ a ∧ a ≤ 255) ∧ m ≤ 55

/-- Of which the key of a number is made. -/
def NumFit (t a n : Int) : Prop := (0 ≤ t ∧ t ≤ 1099511627776) ∧ (0 ≤ a ∧ a ≤ 255) ∧ 0 ≤ n ∧ n ≤ 1099511627776
/-- A fault was answered; nothing of w is turned. -/
def Faulty (w : World) (e : Ending) (w' : World) : Prop := ∃ s, e = .returned (.iface 42 (.agg #[.string s])) ∧ Below w.heap.size w w'

set_option maxHeartbeats 1000000 in
set_option maxRecDepth 100000 in
theorem check_yes (t a : Int) (m : Nat) (w : World) (h : Fit t a m) :
    Calls Tryd.prog 10 #[.int .i64 t, .int .i64 a, .int .i64 (m : Int)] w fun e w' => e = .returned .nilIface ∧ Below w.heap.size w w' := by
  obtain ⟨⟨h1, h2⟩, ⟨h3, h4⟩, h5⟩ := h
  have e1 : ¬ t < 0 := by omega
  have e2 : ¬ 1099511627776 < t := by omega
  have e3 : ¬ a < 0 := by omega
  have e4 : ¬ 255 < a := by omega
  have e5 : ¬ (55 : Int) < (m : Int) := by omega
  go_enter Tryd.func10, Tryd.ntmps10
  go_wp2
  go_ret
  exact ⟨rfl, Below.refl _ _⟩

set_option maxHeartbeats 1000000 in
set_option maxRecDepth 100000 in
theorem check_no (t a : Int) (m : Nat) (w : World) (h : ¬ Fit t a m) :
    Calls Tryd.prog 10 #[.int .i64 t, .int .i64 a, .int .i64 (m : Int)] w fun e w' => Faulty w e w' := by
  unfold Fit at h
  by_cases e1 : t < 0
  · clear h
    go_enter Tryd.func10, Tryd.ntmps10
    go_wp2
    go_ret
    exact ⟨_, rfl, Below.refl _ _⟩
  by_cases e2 : 1099511627776 < t
  · clear h
    go_enter Tryd.func10, Tryd.ntmps10
    go_wp2
    go_ret
    exact ⟨_, rfl, Below.refl _ _⟩
  by_cases e3 : a < 0
  · clear h
    go_enter Tryd.func10, Tryd.ntmps10
    go_wp2
    go_ret
    exact ⟨_, rfl, Below.refl _ _⟩
  by_cases e4 : 255 < a
  · clear h
    go_enter Tryd.func10, Tryd.ntmps10
    go_wp2
    go_ret
    exact ⟨_, rfl, Below.refl _ _⟩
  have e5 : (55 : Int) < (m : Int) := by omega
  clear h
  go_enter Tryd.func10, Tryd.ntmps10
  go_wp2
  go_ret
  exact ⟨_, rfl, Below.refl _ _⟩
end Go.Proofs.YtomceheophnjnabDoor
