/- A region whose answer is an entry that a call finds, stored in a new cell: both orders, one answer; no walk. -/
import Derived.Test.YtimgdhdfefldpaaHk
namespace Go.Proofs.Ytimgdhdfefldpaa
open Go.RowKit
open Sk (Ent)

/-- An entry in a cell of its own, and what it holds. -/
structure GotE (wr : World) (e : Ent) (g : Nat) (y : EV) (w' : World) : Prop where
  same : y.e = e
  held : entKind.held w' y
  row : w'.heap[g]? = some (.cells #[.slice y.kp y.e.key.length y.kc, .int .i64 y.e.seq, .bool y.e.gone, .slice y.vp y.e.val.length y.vc] 36)
  bel : Below wr.heap.size wr w'
theorem src_far {w w' : World} {r : Nat} {cs : Array Value} {t : TypeId} {fr : Nat × Nat} (hr : w.heap[r]? = some (.cells cs t fr)) (hno : ∀ (i : Nat) (x : Int), cs[i]? ≠ some (.int .u8 x)) (hk : ∀ g, g < w.heap.size → g ≠ r → w'.heap[g]? = w.heap[g]?) {ao : Option Addr} {m c : Nat} {l : List UInt8} (h : Src w ao m c l) : Src w' ao m c l :=
  ⟨h.len, h.cap, h.nil, fun ad had j u hu => by
    have hc := h.cells ad had j u hu
    have hlt := World.block_lt_of_cell? w _ hc
    have hj := (List.getElem?_eq_some_iff.1 hu).1
    rw [bv_length] at hj
    rw [bv_at l j hj] at hu
    cases hu
    have hsp := World.cell?_spot hc
    obtain ⟨q, hq⟩ : ∃ q, ad.add j = q := ⟨_, rfl⟩
    rw [hq] at hc hlt hsp ⊢
    obtain ⟨qb, qo, qs⟩ := q
    simp only at hlt hsp
    subst hsp
    have hne : qb ≠ r := fun e => by
      subst e
      rw [cell_of_row _ _ _ _ _ _ hr] at hc
      exact hno _ _ hc
    exact (World.cell?_of_block (hk qb hlt hne)).trans hc⟩
theorem no_byteE {a b : Option Addr} {m c n d : Nat} {x : Int} {y : Bool} : ∀ (i : Nat) (z : Int), (#[Value.slice a m c, .int .i64 x, .bool y, .slice b n d] : Array Value)[i]? ≠ some (.int .u8 z)
  | 0, z => by simp
  | 1, z => by simp
  | 2, z => by simp
  | 3, z => by simp
  | n + 4, z => by simp
/-- The entry's four cells set in a new entry's block. -/
theorem got_store {wr w5 : World} {e : Ent} {g : Nat} {y : EV} (hg : w5.heap[g]? = some (.cells #[.slice none 0 0, .int .i64 0, .bool false, .slice none 0 0] 36)) (hgw : wr.heap.size ≤ g) (hb : Below wr.heap.size wr w5) (he : y.e = e) (hh : entKind.held w5 y) :
    GotE wr e g y ((((w5.setCell ⟨g, 0, none⟩ (.slice y.kp y.e.key.length y.kc)).setCell ⟨g, 1, none⟩ (.int .i64 y.e.seq)).setCell ⟨g, 2, none⟩ (.bool y.e.gone)).setCell ⟨g, 3, none⟩ (.slice y.vp y.e.val.length y.vc)) := by
  have h0 := set_row hg 0 (.slice y.kp y.e.key.length y.kc)
  have h1 := set_row h0 1 (.int .i64 y.e.seq)
  have h2 := set_row h1 2 (.bool y.e.gone)
  have h3 := set_row h2 3 (.slice y.vp y.e.val.length y.vc)
  have far : ∀ k, k < w5.heap.size → k ≠ g → ((((w5.setCell ⟨g, 0, none⟩ (.slice y.kp y.e.key.length y.kc)).setCell ⟨g, 1, none⟩ (.int .i64 y.e.seq)).setCell ⟨g, 2, none⟩ (.bool y.e.gone)).setCell ⟨g, 3, none⟩ (.slice y.vp y.e.val.length y.vc)).heap[k]? = w5.heap[k]? := fun k _ hk => by
    rw [Below.heap_setCell _ _ _ k hk, Below.heap_setCell _ _ _ k hk, Below.heap_setCell _ _ _ k hk, Below.heap_setCell _ _ _ k hk]
  refine ⟨he, ⟨src_far hg no_byteE far hh.1, src_far hg no_byteE far hh.2⟩, h3, ?_⟩
  exact ((((hb.setCell (p := ⟨g, 0, none⟩) hgw _).setCell (p := ⟨g, 1, none⟩) hgw _).setCell (p := ⟨g, 2, none⟩) hgw _).setCell (p := ⟨g, 3, none⟩) hgw _)
theorem got_alloc {wr w5 : World} {e : Ent} {y : EV} (hb : Below wr.heap.size wr w5) (he : y.e = e) (hh : entKind.held w5 y) :
    GotE wr e w5.heap.size y (w5.alloc (.cells #[.slice y.kp y.e.key.length y.kc, .int .i64 y.e.seq, .bool y.e.gone, .slice y.vp y.e.val.length y.vc] 36)) :=
  ⟨he, entKind_ok.below hh ((Below.refl _ _).alloc (Nat.le_refl _) _), heap_alloc_new w5 _, hb.alloc hb.size _⟩
theorem GotE.cells {wr w' w'' : World} {e : Ent} {g : Nat} {y : EV} (h : GotE wr e g y w') (hb : Below w'.heap.size w' w'') : w''.cell? ⟨g, 0, none⟩ = some (.slice y.kp y.e.key.length y.kc) ∧ w''.cell? ⟨g, 1, none⟩ = some (.int .i64 y.e.seq) ∧ w''.cell? ⟨g, 2, none⟩ = some (.bool y.e.gone) ∧ w''.cell? ⟨g, 3, none⟩ = some (.slice y.vp y.e.val.length y.vc) :=
  ⟨below_cell hb (cell_of_row _ _ _ _ _ _ h.row), below_cell hb (cell_of_row _ _ _ _ _ _ h.row), below_cell hb (cell_of_row _ _ _ _ _ _ h.row), below_cell hb (cell_of_row _ _ _ _ _ _ h.row)⟩
end Go.Proofs.Ytimgdhdfefldpaa
