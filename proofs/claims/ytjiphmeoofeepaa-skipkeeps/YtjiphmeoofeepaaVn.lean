/- Two lists side by side, and a row of entries; no walk. -/
import Derived.Test.YtjiphmeoofeepaaVm
namespace Go.Proofs.Ytjiphmeoofeepaa
open Go.RowKit
open Sk (Ent)

/-- Numbers as records of one cell. -/
def numKind : Kind Int where
  size := 1
  vals z := [.int .i64 z]
  held _ _ := True
theorem numKind_ok : numKind.Ok :=
  ⟨by decide, fun _ => rfl, fun e u hu => by
    simp only [numKind, List.mem_cons, List.not_mem_nil, or_false] at hu
    subst hu
    rfl, fun _ _ => trivial⟩
structure Pair (w : World) (ba : Nat) (na : List Nd) (bb : Nat) (nb : List Nd) (v : Value) (ys : List EV) (wr : World) : Prop where
  one : LMem w.heap.size wr ba na
  two : LMem w.heap.size wr bb nb
  dis : ∀ g, foot ba na g → ¬ foot bb nb g
  row : wr.ownsRow w.heap.size 28 4 v ys.length (rv entKind ys)
  held : ∀ y ∈ ys, entKind.held w y
  bel : Below w.heap.size w wr
section
variable {w : World} {ba bb : Nat} {na nb : List Nd} {v : Value} {ys : List EV} {wr : World}
theorem Pair.swap (h : Pair w ba na bb nb v ys wr) : Pair w bb nb ba na v ys wr := ⟨h.two, h.one, fun g h1 h2 => h.dis g h2 h1, h.row, h.held, h.bel⟩
theorem Pair.below (h : Pair w ba na bb nb v ys wr) {w' : World} (hb : Below wr.heap.size wr w') : Pair w ba na bb nb v ys w' :=
  ⟨h.one.below hb, h.two.below hb, h.dis, own_block h.row (fun g hg => hb.block g (own_size h.row hg)), h.held, h.bel.trans (hb.mono h.bel.size)⟩
theorem Pair.put (h : Pair w ba na bb nb v ys wr) {w' : World} {na' : List Nd} (h1 : LMem w.heap.size w' ba na') (h2 : Kept (foot ba na) wr w') (h3 : ∀ g, foot ba na' g → foot ba na g ∨ wr.heap.size ≤ g) : Pair w ba na' bb nb v ys w' := by
  refine ⟨h1, h.two.kept h2 (fun g hg _ => ⟨h.dis g hg, h.one.tag hg⟩), fun g hg hq => ?_, own_block h.row (fun g hg => h2.block g (own_size h.row hg) (fun e => ?_)), h.held, h.bel.trans (h2.below h.bel.size (fun g hg => h.one.far g hg))⟩
  · rcases h3 g hg with h4 | h4
    · exact h.dis g h4 hq
    · have := h.two.lt hq; omega
  · obtain ⟨c, t, h4, _, h5⟩ := h.one.tag2 e
    obtain ⟨c', h6⟩ := own_tag h.row hg
    rw [h4] at h6
    cases h6
    exact h5 rfl
/-- The row has one more. -/
theorem Pair.more (h : Pair w ba na bb nb v ys wr) {w' : World} {v' : Value} {y : EV} (hy : entKind.held w y) (ho : w'.ownsRow w.heap.size 28 4 v' (ys.length + 1) (rv entKind (ys ++ [y]))) (hg : wr.grownBy w' v.ownBlock) : Pair w ba na bb nb v' (ys ++ [y]) w' := by
  have hk : Kept (fun g => some g = v.ownBlock) wr w' := (Kept.refl _ wr).grown hg (fun k e => .inl e.symm)
  have hU : ∀ {b : Nat} {ns : List Nd}, LMem w.heap.size wr b ns → LMem w.heap.size w' b ns := fun {b ns} hm => hm.kept hk (fun g e _ => by
    obtain ⟨c, h1⟩ := own_tag h.row e.symm
    refine ⟨fun hf => ?_, c, _, h1, by decide⟩
    obtain ⟨c', t, h2, _, h3⟩ := hm.tag2 hf
    rw [h1] at h2
    cases h2
    exact h3 rfl)
  refine ⟨hU h.one, hU h.two, h.dis, by rw [List.length_append]; exact ho, fun z hz => ?_, h.bel.grown hg h.bel.size (fun k e => (h.row.lt k e).1)⟩
  rcases List.mem_append.1 hz with h1 | h1
  · exact h.held z h1
  · rw [List.mem_singleton.1 h1]; exact hy
end
theorem pair_new (w0 w : World) (hb : Below w0.heap.size w0 w) : Pair w0 w.heap.size [] (w.alloc (.cells listZ 51)).heap.size [] (.slice none 0 0) [] ((w.alloc (.cells listZ 51)).alloc (.cells listZ 51)) := by
  have h1 := new_lmem w (B := w0.heap.size) hb.size
  have b1 : Below w.heap.size w (w.alloc (.cells listZ 51)) := (Below.refl _ _).alloc (Nat.le_refl _) _
  have h2 := new_lmem (w.alloc (.cells listZ 51)) (B := w0.heap.size) (Nat.le_trans hb.size b1.size)
  refine ⟨h1.below ((Below.refl _ _).alloc (Nat.le_refl _) _), h2, fun g hg hq => ?_, World.ownsRow_nil _ _ _ _, (fun y hy => by cases hy), hb.trans ((b1.trans (((Below.refl _ _).alloc (Nat.le_refl _) _).mono b1.size)).mono hb.size)⟩
  have e1 : g = w.heap.size := by
    rcases hg with h | ⟨n, hn, _⟩
    · exact h
    · cases hn
  have e2 : g = (w.alloc (.cells listZ 51)).heap.size := by
    rcases hq with h | ⟨n, hn, _⟩
    · exact h
    · cases hn
  rw [World.size_alloc] at e2
  omega
/-- An operation's cells. -/
theorem op_cells {w : World} {b off n c : Nat} {es : List OpS} (h : RSrc opsKind w (some ⟨b, off, none⟩) n c es) {i : Nat} {o : OpS} (ho : es[i]? = some o) (j : Nat) (u : Value) (hu : (opsKind.vals o)[j]? = some u) : w.cell? ⟨b, off + i * 8 + j, none⟩ = some u := by
  have hj : j < 8 := (List.getElem?_eq_some_iff.1 hu).1
  have := h.cells _ rfl (i * opsKind.size + j) u ((rv_at opsKind_ok j ho hj).trans hu)
  rw [Addr.add_mid] at this
  rw [show off + i * 8 + j = off + (i * opsKind.size + j) by show _ = off + (i * 8 + j); omega]
  exact this
end Go.Proofs.Ytjiphmeoofeepaa
