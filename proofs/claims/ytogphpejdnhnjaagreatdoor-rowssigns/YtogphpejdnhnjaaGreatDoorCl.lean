/- The walk of bytes.Clone. -/
import Derived.Test.YtogphpejdnhnjaaGreatDoorJoinMp
import Derived.Lib.LazyBuf
namespace Go.Proofs.YtogphpejdnhnjaaGreatDoor
open Go.RowKit

set_option maxHeartbeats 1000000 in
set_option maxRecDepth 100000 in
theorem clone_any (ao : Option Addr) (m c : Nat) (l : List UInt8) (w : World) (hm : m ≤ 140737488355328) (hs : Src w ao m c l) :
    Calls Tryz.prog 122 #[.slice ao m c] w fun e w' => ∃ v, e = .returned v ∧ New w w' v m l := by
  obtain ⟨i0, hi, hz0, hz1, hz2⟩ := info_parts info5
  have HS := keep hs
  clear hs
  cases ao with
  | none =>
    obtain ⟨rfl, rfl⟩ := HS.out.nil rfl
    have hl : l = [] := List.length_eq_zero_iff.1 HS.out.len
    subst hl
    have heq := fun w => Lib.run_eql_slice_nil (P := Tryz.prog) w 47 5 none 0 0 0 0 Tryz.underlying47
    go_enter Tryz.func122, Tryz.ntmps122
    go_wp2
    go_ret
    exact ⟨_, rfl, World.ownsRow_nil _ _ _ _, Below.refl _ _⟩
  | some ad =>
    have heq := fun w => Lib.run_eql_slice_nil (P := Tryz.prog) w 47 5 (some ad) m c 0 0 Tryz.underlying47
    go_enter Tryz.func122, Tryz.ntmps122
    go_wp2_with (at_builtin; refine wpList_append_src rfl _ _ 47 rfl w.heap.size i0 _ Tryz.underlying47 hi hz0 hz1 hz2 rfl _ 0 [] rfl (World.ownsRow_made w #[] 0 (Nat.le_refl _) (by unfold maxLen; omega) rfl) _ m c l rfl (HS.out.below ((Below.refl _ _).alloc (Nat.le_refl _) _)) (by omega) (by simp) ?_; intro v1 w1 ho1 hg1; simp only [Nat.zero_add, List.nil_append] at ho1; have ho2 := keep ho1; have hb1 := keep (((Below.refl w.heap.size w).alloc (Nat.le_refl _) _).grown hg1 (by simp) (fun j hj => by cases hj; exact Nat.le_refl _)); clear ho1 hg1)
    go_ret
    exact ⟨_, rfl, ho2.out, hb1.out⟩
end Go.Proofs.YtogphpejdnhnjaaGreatDoor
