/- Frames by blocks; rows that a call owns; no walk. -/
import Derived.Test.YtjiphmeoofeepaaL
import Derived.Test.YtjiphmeoofeepaaRw
namespace Go.Proofs.Ytjiphmeoofeepaa
open Go.RowKit

/-- But for the blocks of U, and new ones, w' is as w was. -/
structure Kept (U : Nat → Prop) (w w' : World) : Prop where
  os : w'.os = w.os
  tape : w'.tape = w.tape
  output : w'.output = w.output
  size : w.heap.size ≤ w'.heap.size
  block : ∀ k, k < w.heap.size → ¬ U k → w'.heap[k]? = w.heap[k]?
theorem Kept.refl (U : Nat → Prop) (w : World) : Kept U w w := ⟨rfl, rfl, rfl, Nat.le_refl _, fun _ _ _ => rfl⟩
theorem Kept.trans {U : Nat → Prop} {a b c : World} (h : Kept U a b) (k : Kept U b c) : Kept U a c :=
  ⟨k.os.trans h.os, k.tape.trans h.tape, k.output.trans h.output, Nat.le_trans h.size k.size, fun i hi hu => (k.block i (Nat.lt_of_lt_of_le hi h.size) hu).trans (h.block i hi hu)⟩
theorem Kept.trans' {U V : Nat → Prop} {a b c : World} (h : Kept U a b) (k : Kept V b c) (hv : ∀ g, g < a.heap.size → V g → U g) : Kept U a c :=
  ⟨k.os.trans h.os, k.tape.trans h.tape, k.output.trans h.output, Nat.le_trans h.size k.size, fun i hi hu => (k.block i (Nat.lt_of_lt_of_le hi h.size) (fun e => hu (hv i hi e))).trans (h.block i hi hu)⟩
theorem Kept.wide {U V : Nat → Prop} {a b : World} (h : Kept U a b) (hv : ∀ g, g < a.heap.size → U g → V g) : Kept V a b :=
  ⟨h.os, h.tape, h.output, h.size, fun i hi hu => h.block i hi (fun e => hu (hv i hi e))⟩
theorem Kept.of_below {U : Nat → Prop} {w w' : World} (h : Below w.heap.size w w') : Kept U w w' := ⟨h.os, h.tape, h.output, h.size, fun k hk _ => h.block k hk⟩
theorem Kept.below {U : Nat → Prop} {w w' : World} {B : Nat} (h : Kept U w w') (hB : B ≤ w.heap.size) (hU : ∀ g, U g → B ≤ g) : Below B w w' :=
  ⟨h.os, h.tape, h.output, h.size, fun k hk => h.block k (by omega) (fun e => by have := hU k e; omega)⟩
theorem Kept.drew {U : Nat → Prop} {a w : World} (h : Kept U a w) : Kept U a w.drew := ⟨h.os, h.tape, h.output, h.size, h.block⟩
theorem Kept.alloc {U : Nat → Prop} {a w : World} (h : Kept U a w) (o : Obj) : Kept U a (w.alloc o) := h.trans (Kept.of_below ((Below.refl _ w).alloc (Nat.le_refl _) o))
theorem Kept.setCell {U : Nat → Prop} {a w : World} (h : Kept U a w) {p : Addr} (hp : U p.block ∨ a.heap.size ≤ p.block) (u : Value) : Kept U a (w.setCell p u) :=
  ⟨h.os, h.tape, h.output, by simp only [World.setCell, Array.size_modify]; exact h.size, fun k hk hu => by
    rw [Below.heap_setCell w p u k (fun e => by rcases hp with hp | hp; exact hu (e ▸ hp); omega)]
    exact h.block k hk hu⟩
theorem Kept.grown {U : Nat → Prop} {a w w' : World} {row : Option Nat} (h : Kept U a w) (hg : w.grownBy w' row) (hr : ∀ k, row = some k → U k ∨ a.heap.size ≤ k) : Kept U a w' :=
  ⟨hg.os.trans h.os, hg.tape.trans h.tape, hg.output.trans h.output, Nat.le_trans h.size hg.size, fun k hk hu => by
    rw [hg.block k (Nat.lt_of_lt_of_le hk h.size) (fun e => by rcases hr k e.symm with h1 | h1; exact hu h1; omega)]
    exact h.block k hk hu⟩
theorem Kept.cell {U : Nat → Prop} {w w' : World} (h : Kept U w w') {p : Addr} (hp : p.block < w.heap.size) (hu : ¬ U p.block) : w'.cell? p = w.cell? p := World.cell?_of_block (w := w) (h.block p.block hp hu)

/-- It holds in w, whatever becomes of the blocks of U. -/
def Steady (U : Nat → Prop) (w : World) (A : World → Prop) : Prop := ∀ w', Kept U w w' → A w'
theorem Steady.here {U : Nat → Prop} {w : World} {A : World → Prop} (h : Steady U w A) : A w := h w (Kept.refl U w)
theorem Steady.next {U : Nat → Prop} {w w' : World} {A : World → Prop} (h : Steady U w A) (k : Kept U w w') : Steady U w' A := fun w'' k' => h w'' (k.trans k')
theorem Steady.next' {U V : Nat → Prop} {w w' : World} {A : World → Prop} (h : Steady U w A) (k : Kept U w w') (hv : ∀ g, g < w.heap.size → V g → U g) : Steady V w' A := fun w'' k' => h w'' (k.trans' k' hv)
theorem Steady.below {U : Nat → Prop} {w w' : World} {A : World → Prop} (h : Steady U w A) (k : Below w.heap.size w w') : Steady U w' A := h.next (Kept.of_below k)
theorem own_steady {U : Nat → Prop} {w : World} {B t k n : Nat} {v : Value} {xs : List Value} (h : w.ownsRow B t k v n xs) (hU : ∀ g, U g → g < B) : Steady U w fun w' => w'.ownsRow B t k v n xs := by
  intro w' hk
  rcases h.2 with h0 | ⟨g, cap, cur, hv, hb, hg, r⟩
  · exact ⟨h.1, .inl h0⟩
  · refine ⟨h.1, .inr ⟨g, cap, cur, hv, hb, ?_, r⟩⟩
    have hlt : g < w.heap.size := (Array.getElem?_eq_some_iff.1 hg).1
    rw [hk.block g hlt (fun e => by have := hU g e; omega)]
    exact hg
theorem own_block {w w' : World} {B t k n : Nat} {v : Value} {xs : List Value} (h : w.ownsRow B t k v n xs) (hk : ∀ g, v.ownBlock = some g → w'.heap[g]? = w.heap[g]?) : w'.ownsRow B t k v n xs := by
  rcases h.2 with h0 | ⟨g, cap, cur, rfl, hb, hg, r⟩
  · exact ⟨h.1, .inl h0⟩
  · exact ⟨h.1, .inr ⟨g, cap, cur, rfl, hb, (hk g rfl).trans hg, r⟩⟩
theorem own_base {w : World} {B B' t k n : Nat} {v : Value} {xs : List Value} (h : w.ownsRow B t k v n xs) (hb : ∀ g, v.ownBlock = some g → B' ≤ g) : w.ownsRow B' t k v n xs := by
  rcases h.2 with h0 | ⟨g, cap, cur, rfl, _, r⟩
  · exact ⟨h.1, .inl h0⟩
  · exact ⟨h.1, .inr ⟨g, cap, cur, rfl, hb g rfl, r⟩⟩

theorem set_row {w : World} {b : Nat} {c : Array Value} {t : TypeId} (h : w.heap[b]? = some (.cells c t (0, 0))) (i : Nat) (v : Value) : (w.setCell ⟨b, i, none⟩ v).heap[b]? = some (.cells (c.setIfInBounds i v) t (0, 0)) := by
  rw [setCell_eq_setRow w b i c t (0, 0) v h]; exact setRow_heap w b c _ t (0, 0) h
theorem own_size {w : World} {B t k n : Nat} {v : Value} {xs : List Value} (h : w.ownsRow B t k v n xs) {g : Nat} (hg : v.ownBlock = some g) : g < w.heap.size := by
  rcases h.2 with ⟨rfl, _⟩ | ⟨g', cap, cur, rfl, _, hh, _⟩
  · cases hg
  · cases hg
    exact (Array.getElem?_eq_some_iff.1 hh).1
theorem own_tag {w : World} {B t k n : Nat} {v : Value} {xs : List Value} (h : w.ownsRow B t k v n xs) {g : Nat} (hg : v.ownBlock = some g) : ∃ cur, w.heap[g]? = some (.cells cur t (0, 0)) := by
  rcases h.2 with ⟨rfl, _⟩ | ⟨g', cap, cur, rfl, _, hh, _⟩
  · cases hg
  · cases hg
    exact ⟨cur, hh⟩
end Go.Proofs.Ytjiphmeoofeepaa
