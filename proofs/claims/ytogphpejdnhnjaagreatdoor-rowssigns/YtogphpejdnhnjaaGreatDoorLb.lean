/- The walk of code.lay over bytes. -/
import Derived.Test.YtogphpejdnhnjaaGreatDoorF
import Derived.Test.YtogphpejdnhnjaaGreatDoorL
namespace Go.Proofs.YtogphpejdnhnjaaGreatDoor
open Go.RowKit

set_option maxHeartbeats 1000000 in
set_option maxRecDepth 100000 in
theorem layB_any (ao : Option Addr) (m c : Nat) (l : List UInt8) (ao2 : Option Addr) (m2 c2 : Nat) (l2 : List UInt8) (w : World) (hm : m + m2 ≤ 140737488355328) (hs : Src w ao m c l) (hs2 : Src w ao2 m2 c2 l2) :
    Calls Tryz.prog 64 #[.slice ao m c, .slice ao2 m2 c2] w fun e w' => ∃ v, e = .returned v ∧ New w w' v (m + m2) (l ++ l2) := by
  obtain ⟨i0, hi, hz0, hz1, hz2⟩ := info_parts info5
  have HS := keep hs
  have HS2 := keep hs2
  clear hs hs2
  go_enter Tryz.func64, Tryz.ntmps64
  go_wp2_with (first
    | (at_make; go_loud (refine wpList_make_own _ rfl _ _ 47 rfl w.heap.size 5 i0 (.int .u8 0) 1 Tryz.underlying47 hi hz0 hz1 .i64 .i64 _ (m + m2) rfl rfl (by omega) (by rw [hz2]; omega) (by unfold maxLen; omega) (Nat.le_refl _) ?_); intro w1 hown hgrow; have hb1 := keep ((Below.refl w.heap.size w).grown hgrow (Nat.le_refl _) (fun k h => by cases h)); have ho1 := keep hown; clear hown hgrow)
    | (at_builtin; (refine wpList_append_src rfl _ _ 47 rfl w.heap.size i0 _ Tryz.underlying47 hi hz0 hz1 hz2 rfl _ m l rfl ho2.out _ m2 c2 l2 rfl (HS2.out.below hb2.out) (by omega) hb2.out.size ?_); intro v3 w3 ho3 hg3; have hb3 := keep (hb2.out.grown hg3 hb2.out.size (fun j hj => (ho2.out.lt j hj).1)); have ho3' := keep ho3; clear ho3 hg3 ho2)
    | (at_builtin; (refine wpList_append_src rfl _ _ 47 rfl w.heap.size i0 _ Tryz.underlying47 hi hz0 hz1 hz2 rfl _ 0 [] rfl ho1.out _ m c l rfl (HS.out.below hb1.out) (by omega) hb1.out.size ?_); intro v2 w2 ho2' hg2; have hb2 := keep (hb1.out.grown hg2 hb1.out.size (fun j hj => (ho1.out.lt j hj).1)); have ho2 := keep ho2'; simp only [Nat.zero_add, List.nil_append] at ho2; clear ho2' hg2 ho1 hb1))
  go_ret
  exact ⟨_, rfl, ho3'.out, hb3.out⟩
end Go.Proofs.YtogphpejdnhnjaaGreatDoor
