/- The walk of skip's aheadOf. -/
import Derived.Test.YtjiphmeoofeepaaSc
namespace Go.Proofs.Ytjiphmeoofeepaa
open Go.RowKit
open Sk (Ent)

set_option maxHeartbeats 1000000 in
set_option maxRecDepth 100000 in
theorem aheadOf_any (kp : Option Addr) (K kc : Nat) (s : Int) (w : World) :
    Calls Try.prog 18 #[.slice kp K kc, .int .i64 s] w fun e w' => e = .returned (.func (.func 28) #[] #[.pointer (some ⟨w.heap.size, 0, none⟩), .pointer (some ⟨w.heap.size + 1, 0, none⟩)]) ∧ w' = (w.alloc (.cells #[.slice kp K kc] 26)).alloc (.cells #[.int .i64 s] 3) := by
  go_enter Try.func18, Try.ntmps18
  go_wp2
  go_ret
  exact ⟨rfl, rfl⟩
/-- The closure of aheadOf: captured are the key, in block p1, and the number, in block p2. -/
def AheadIn (w : World) (p1 p2 : Nat) (key : List UInt8) (s : Int) : Prop := ∃ kp kc, Src w kp key.length kc key ∧ w.cell? ⟨p1, 0, none⟩ = some (.slice kp key.length kc) ∧ w.cell? ⟨p2, 0, none⟩ = some (.int .i64 s)
theorem AheadIn.below {w w' : World} {p1 p2 : Nat} {key : List UInt8} {s : Int} (h : AheadIn w p1 p2 key s) (hb : Below w.heap.size w w') : AheadIn w' p1 p2 key s := by
  obtain ⟨kp, kc, h1, h2, h3⟩ := h
  exact ⟨kp, kc, h1.below hb, below_cell hb h2, below_cell hb h3⟩
set_option maxHeartbeats 1000000 in
set_option maxRecDepth 100000 in
theorem ahead_any (p1 p2 : Nat) (key : List UInt8) (s : Int) (x : EV) (w : World) (h : AheadIn w p1 p2 key s) (hh : entKind.held w x) :
    Calls Try.prog 28 #[ev x, .pointer (some ⟨p1, 0, none⟩), .pointer (some ⟨p2, 0, none⟩)] w fun e w' => e = .returned (.bool (Sk.aheadOf key s x.e)) ∧ Below w.heap.size w w' := by
  obtain ⟨kp, kc, hs, hc1, hc2⟩ := h
  obtain ⟨xkp, xkc, xvp, xvc, xkey, xseq, xgone, xval⟩ := x
  have hk : Src w xkp xkey.length xkc xkey := hh.1
  clear hh
  unfold ev Sk.aheadOf
  simp only
  have hal := keep ((Below.refl w.heap.size w).alloc (Nat.le_refl _) (.cells #[.slice xkp xkey.length xkc, .int .i64 xseq, .bool xgone, .slice xvp xval.length xvc] 28))
  have d1 := below_cell hal.out hc1
  have d2 := below_cell hal.out hc2
  have EQ := keep (equal_any xkp xkey.length xkc xkey kp key.length kc key _ (hk.below hal.out) (hs.below hal.out))
  have LS := keep (less_any xkp xkey.length xkc xkey kp key.length kc key _ (hk.below hal.out) (hs.below hal.out))
  clear hs hc1 hc2 hk
  by_cases hq : xkey = key
  · rw [decide_eq_true hq] at EQ
    rw [if_pos hq]
    clear hq
    go_enter Try.func28, Try.ntmps28
    go_wp2_with fail
    refine EQ.out.mono ?_
    rintro e w1 ⟨rfl, rfl⟩
    go_wp2
    go_ret
    exact ⟨rfl, hal.out⟩
  · rw [decide_eq_false hq] at EQ
    rw [if_neg hq]
    clear hq
    go_enter Try.func28, Try.ntmps28
    go_wp2_with fail
    refine EQ.out.mono ?_
    rintro e w1 ⟨rfl, rfl⟩
    go_wp2_with fail
    refine LS.out.mono ?_
    rintro e w2 ⟨rfl, rfl⟩
    go_wp2
    go_ret
    exact ⟨rfl, hal.out⟩
end Go.Proofs.Ytjiphmeoofeepaa
