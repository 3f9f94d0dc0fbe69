/- An entry that a call answers as its own, stored in a new cell: both orders, one answer; no walk. -/
import Derived.Test.YtjblicgbdecbcaaGreatZQlj
import Derived.Test.YtjblicgbdecbcaaGreatZQ6j
import Derived.Test.YtjblicgbdecbcaaGreatZQdj
import Derived.Deep.RegionHeld3
namespace Go.Proofs.YtjblicgbdecbcaaGreat
open Go.RowKit
open Sk (Ent)

/-- An entry in a cell of its own, and the bytes that it owns. -/
structure GotE (wr : World) (e : Ent) (g : Nat) (y : EV) (w' : World) : Prop where
  same : y.e = e
  own : OwnE wr.heap.size w' y
  row : w'.heap[g]? = some (.cells #[.slice y.kp y.e.key.length y.kc, .int .i64 y.e.seq, .bool y.e.gone, .slice y.vp y.e.val.length y.vc] 37)
  bel : Below wr.heap.size wr w'
  far : wr.heap.size ≤ g
/-- The entry's four cells set in a new entry's block. -/
theorem got_store {wr w5 : World} {e : Ent} {g : Nat} {y : EV} (hg : w5.heap[g]? = some (.cells #[.slice none 0 0, .int .i64 0, .bool false, .slice none 0 0] 37)) (hgw : wr.heap.size ≤ g) (hb : Below wr.heap.size wr w5) (he : y.e = e) (hh : OwnE wr.heap.size w5 y) :
    GotE wr e g y ((((w5.setCell ⟨g, 0, none⟩ (.slice y.kp y.e.key.length y.kc)).setCell ⟨g, 1, none⟩ (.int .i64 y.e.seq)).setCell ⟨g, 2, none⟩ (.bool y.e.gone)).setCell ⟨g, 3, none⟩ (.slice y.vp y.e.val.length y.vc)) := by
  have h0 := set_row hg 0 (.slice y.kp y.e.key.length y.kc)
  have h1 := set_row h0 1 (.int .i64 y.e.seq)
  have h2 := set_row h1 2 (.bool y.e.gone)
  have h3 := set_row h2 3 (.slice y.vp y.e.val.length y.vc)
  have far : ∀ {v : Value} {n : Nat} {xs : List Value}, w5.ownsRow wr.heap.size 5 1 v n xs → ∀ k, v.ownBlock = some k → k ≠ g := fun {v n xs} h k hk e => by
    obtain ⟨cur, hc⟩ := own_tag h hk
    rw [e, hg] at hc
    cases hc
  refine ⟨he, ⟨?_, ?_⟩, h3, ?_, hgw⟩
  · refine own_block hh.1 (fun k hk => ?_)
    have h1 := far hh.1 k hk
    simp only [set_far _ _ h1]
  · refine own_block hh.2 (fun k hk => ?_)
    have h1 := far hh.2 k hk
    simp only [set_far _ _ h1]
  · exact ((((hb.setCell (p := ⟨g, 0, none⟩) hgw _).setCell (p := ⟨g, 1, none⟩) hgw _).setCell (p := ⟨g, 2, none⟩) hgw _).setCell (p := ⟨g, 3, none⟩) hgw _)
theorem got_alloc {wr w5 : World} {e : Ent} {y : EV} (hb : Below wr.heap.size wr w5) (he : y.e = e) (hh : OwnE wr.heap.size w5 y) :
    GotE wr e w5.heap.size y (w5.alloc (.cells #[.slice y.kp y.e.key.length y.kc, .int .i64 y.e.seq, .bool y.e.gone, .slice y.vp y.e.val.length y.vc] 37)) :=
  ⟨he, hh.block ((Below.refl _ _).alloc (Nat.le_refl _) _), heap_alloc_new w5 _, hb.alloc hb.size _, hb.size⟩
theorem GotE.cells {wr w' w'' : World} {e : Ent} {g : Nat} {y : EV} (h : GotE wr e g y w') (hb : Below w'.heap.size w' w'') : w''.cell? ⟨g, 0, none⟩ = some (.slice y.kp y.e.key.length y.kc) ∧ w''.cell? ⟨g, 1, none⟩ = some (.int .i64 y.e.seq) ∧ w''.cell? ⟨g, 2, none⟩ = some (.bool y.e.gone) ∧ w''.cell? ⟨g, 3, none⟩ = some (.slice y.vp y.e.val.length y.vc) :=
  ⟨below_cell hb (cell_of_row _ _ _ _ _ _ h.row), below_cell hb (cell_of_row _ _ _ _ _ _ h.row), below_cell hb (cell_of_row _ _ _ _ _ _ h.row), below_cell hb (cell_of_row _ _ _ _ _ _ h.row)⟩
theorem wpAnyH_narrow {P : Program} {md : Region.Mode} {ops : Array Oper} {Q : Exit → Act → World → Prop} {S1 S2 : World → Prop} (h12 : ∀ w, S2 w → S1 w) : ∀ (fuel : Nat) (listed : Array Bool) (a : Act) (w : World), wpAnyH P md ops Q S2 fuel listed a w → wpAnyH P md ops Q S1 fuel listed a w
  | 0, _, _, _, h => h
  | fuel + 1, _, _, _, h => ⟨h.1, fun i hi => wpOp_mono (fun a' w' h' => ⟨h12 w' h'.1, wpAnyH_narrow h12 fuel _ a' w' h'.2⟩) (h.2 i hi)⟩
/-- Get of a parsed table, at any later world. -/
theorem get_tab {W0 : World} {tb : Nat} {ds : List DE} {L : List Ent} (hT : TabD W0 tb ds L) (kp : Option Addr) (kc : Nat) (key : List UInt8) (s : Int) (hK : key.length + 1 ≤ 140737488355328) (hs : Src W0 kp key.length kc key) {w : World} (hb : Below W0.heap.size W0 w) :
    Calls Tryz.prog 13 #[.pointer (some ⟨tb, 0, none⟩), .slice kp key.length kc, .int .i64 s] w fun e w' => ∃ y : EV, e = .returned (.tuple #[ev y, .bool (verE L key s).isSome]) ∧ y.e = (verE L key s).getD zeroE ∧ OwnE W0.heap.size w' y ∧ Below w.heap.size w w' := by
  have h := get_done tb ds (Tq.filt L) kp kc key s w (hT.done.below hb) hT.few (Nat.le_trans (Tq.filt_len hT.ok) (by decide)) hK hT.small (hs.below hb)
  rw [hT.got] at h
  refine h.mono ?_
  rintro e w' ⟨y, h1, h2, h3, h4⟩
  exact ⟨y, h1, h2, h3.base hb.size, h4⟩
theorem tok_goes {L : List Ent} (h : Tq.tok L = true) : ∀ {j i : Nat} {a b : Ent}, i < j → L[i]? = some a → L[j]? = some b → Sk.Goes a b
  | 0, i, a, b, hij, _, _ => by omega
  | j + 1, i, a, b, hij, ha, hb => by
    have hjl := (List.getElem?_eq_some_iff.1 hb).1
    by_cases e : i = j
    · subst e
      exact Tq.okAt_ahead (Tq.okAt_ok (Tq.tok_ord h) hjl) ha hb
    · obtain ⟨c, hc⟩ : ∃ c, L[j]? = some c := ⟨L[j]'(by omega), List.getElem?_eq_getElem _⟩
      exact Sk.goes_trans (tok_goes h (by omega) ha hc) (Tq.okAt_ahead (Tq.okAt_ok (Tq.tok_ord h) hjl) hc hb)
/-- An entry of a table is the version at its own Seq. -/
theorem ver_at {L : List Ent} (h : Tq.tok L = true) {k : Nat} {e : Ent} (he : L[k]? = some e) : verE L e.key e.seq = some e := by
  refine find_at he (by simp [vers]) (List.find?_eq_none.2 (fun a ha hv => ?_))
  obtain ⟨i, hi⟩ := List.getElem?_of_mem ha
  have hik : i < k := by
    have := (List.getElem?_eq_some_iff.1 hi).1
    rw [List.length_take] at this
    omega
  rw [List.getElem?_take_of_lt hik] at hi
  have hg := tok_goes h hik hi he
  unfold vers at hv
  simp only [Bool.and_eq_true, decide_eq_true_eq] at hv
  unfold Sk.Goes Sk.aheadOf at hg
  rw [if_pos hv.1] at hg
  simp only [decide_eq_true_eq] at hg
  omega
end Go.Proofs.YtjblicgbdecbcaaGreat
