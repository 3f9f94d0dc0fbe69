/- The walk of block's isAhead. -/
import Derived.Test.YtlhblbaingojaabJ1
import Derived.Test.YtlhblbaingojaabVj
namespace Go.Proofs.Ytlhblbaingojaab
open Go.RowKit
open Sk (Ent)

set_option maxHeartbeats 1000000 in
set_option maxRecDepth 100000 in
theorem isAhead_any (x y : EV) (w : World) (hh : entKind.held w x) (hh2 : entKind.held w y) :
    Calls Try.prog 28 #[ev x, ev y] w fun e w' => e = .returned (.bool (Sk.aheadOf y.e.key y.e.seq x.e)) ∧ Below w.heap.size w w' := by
  obtain ⟨xkp, xkc, xvp, xvc, xkey, xseq, xgone, xval⟩ := x
  obtain ⟨ykp, ykc, yvp, yvc, ykey, yseq, ygone, yval⟩ := y
  have hk : Src w xkp xkey.length xkc xkey := hh.1
  have hk2 : Src w ykp ykey.length ykc ykey := hh2.1
  clear hh hh2
  unfold ev Sk.aheadOf
  simp only
  have hal := keep (((Below.refl w.heap.size w).alloc (Nat.le_refl _) (.cells #[.slice xkp xkey.length xkc, .int .i64 xseq, .bool xgone, .slice xvp xval.length xvc] 36)).alloc (by simp) (.cells #[.slice ykp ykey.length ykc, .int .i64 yseq, .bool ygone, .slice yvp yval.length yvc] 36))
  have EQ := keep (equal_any xkp xkey.length xkc xkey ykp ykey.length ykc ykey _ (hk.below hal.out) (hk2.below hal.out))
  have LS := keep (less_any xkp xkey.length xkc xkey ykp ykey.length ykc ykey _ (hk.below hal.out) (hk2.below hal.out))
  clear hk hk2
  by_cases hq : xkey = ykey
  · rw [decide_eq_true hq] at EQ
    rw [if_pos hq]
    clear hq
    go_enter Try.func28, Try.ntmps28
    go_wp2_with fail
    refine EQ.out.mono ?_
    rintro e w1 ⟨rfl, rfl⟩
    go_wp2
    go_ret
    exact ⟨rfl, hal.out⟩
  · rw [decide_eq_false hq] at EQ
    rw [if_neg hq]
    clear hq
    go_enter Try.func28, Try.ntmps28
    go_wp2_with fail
    refine EQ.out.mono ?_
    rintro e w1 ⟨rfl, rfl⟩
    go_wp2_with fail
    refine LS.out.mono ?_
    rintro e w2 ⟨rfl, rfl⟩
    go_wp2
    go_ret
    exact ⟨rfl, hal.out⟩
/-- An operation of a region is taken first; where its answer goes is named. -/
theorem takeH {P : Program} {ops : Array Oper} {Q : Exit → Act → World → Prop} {md : Region.Mode} {S : World → Prop} {i : Nat} {oi : Oper} (dd : Nat) {v : Value} {fuel : Nat} {listed : Array Bool} {a : Act} {w : World} (hi : ops[i]? = some oi) (hd : oi.dst = some dd)
    (hs : Region.noSelect ops = true) (hf : Region.free md ops listed i = true) (hr : (Region.ready md ops listed).contains i = true)
    (hQ : ∀ c a w, Q (.panic c) (a.put (some dd) v) w → Q (.panic c) a w) (hy : YieldsIf P ops S oi v a) (hS : S w)
    (h : wpAnyH P md ops Q S fuel (listed.setIfInBounds i true) (a.put (some dd) v) w) : wpAnyH P md ops Q S (fuel + 1) listed a w := by
  rw [← hd] at hQ h
  exact wpAnyH_take hi hs hf hr hQ hy hS h
end Go.Proofs.Ytlhblbaingojaab
