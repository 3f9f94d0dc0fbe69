/- The walks of key.Make and key.Num. -/
import Derived.Test.YtomceheophnjnabDoorCk
import Derived.Test.YtomceheophnjnabDoorKm
import Derived.Test.YtomceheophnjnabDoorP
import Derived.Deep.RegionWith
namespace Go.Proofs.YtomceheophnjnabDoor
open Go.RowKit

/-- The package's own error stands in its variable. -/
def Own (w : World) (b : Addr) : Prop := w.cell? ⟨0, 0, none⟩ = some (.iface 58 (.pointer (some b)))
theorem Own.below {w w' : World} {b : Addr} (h : Own w b) (hb : Below w.heap.size w w') : Own w' b := by
  unfold Own at h ⊢
  rw [hb.cell (World.block_lt_of_cell? w _ h)]
  exact h
theorem Own.drew {w : World} {b : Addr} (h : Own w b) : Own w.drew b := h

theorem is_fault' (s : ByteArray) (b : Addr) (w : World) (hg : Own w b) :
    Calls Tryd.prog 9 #[.iface 42 (.agg #[.string s]), .iface 58 (.pointer (some b))] w fun e w' => e = .returned (.bool true) ∧ Below w.heap.size w w' := is_fault s b w hg

set_option maxHeartbeats 1000000 in
set_option maxRecDepth 100000 in
theorem make_no (t a : Int) (ao : Option Addr) (m c : Nat) (b : Addr) (w : World) (h : ¬ Fit t a m) (hg : Own w b) :
    Calls Tryd.prog 5 #[.int .i64 t, .int .i64 a, .slice ao m c] w fun e w' => e = .returned (.tuple #[.slice none 0 0, .int .i64 1]) ∧ Below w.heap.size w w' := by
  have HG := keep hg
  have KC := keep (check_no t a m w.drew h)
  unfold Own at hg
  clear h
  go_enter Tryd.func5, Tryd.ntmps5
  go_wp2_with fail
  go_region_with (first
    | (go_at_call 10; go_fit KC.out; rintro e w1 ⟨s, rfl, hb1⟩; have G1 := keep (HG.out.drew.below hb1); have hg1 : w1.cell? ⟨0, 0, none⟩ = some (.iface 58 (.pointer (some b))) := G1.out; have b1 := keep ((Below.refl w.heap.size w).drew.trans hb1); have KI := keep (is_fault' s b w1 G1.out); clear hb1)
    | (go_at_call 9; go_fit KI.out; rintro e w2 ⟨rfl, hb2⟩; have b2 := keep (b1.out.trans (hb2.mono b1.out.size)); clear hb2))
  all_goals go_wp2
  all_goals go_ret2
  all_goals exact ⟨rfl, b2.out⟩
end Go.Proofs.YtomceheophnjnabDoor
