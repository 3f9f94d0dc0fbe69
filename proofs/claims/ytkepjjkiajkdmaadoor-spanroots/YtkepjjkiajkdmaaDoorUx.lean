/- What Push and the like answer, over plain lists; records of two cells written; no walk. -/
import Derived.Test.YtkepjjkiajkdmaaDoorUd
namespace Go.Proofs.YtkepjjkiajkdmaaDoor
open Go.RowKit

/-- May a leaf be pushed? -/
def pOk (n : Int) (ps : List (List UInt8)) (leaf : List UInt8) : Bool := ckS n ps && (!decide (n = 1099511627776) && decide (leaf.length = 32))
def pL (n : Int) (ps : List (List UInt8)) (leaf : List UInt8) : List (List UInt8) := if pOk n ps leaf then Mt.mrg nodeL n.toNat (ps ++ [leaf]) else []
def pN (n : Int) (ps : List (List UInt8)) (leaf : List UInt8) : Int := if pOk n ps leaf then n + 1 else 0
def pE (n : Int) (ps : List (List UInt8)) (leaf : List UInt8) : Int := ckV (pOk n ps leaf)
/-- A span of its own and an error, answered. -/
def SpA (w : World) (n : Int) (ps : List (List UInt8)) (er : Int) (e : Ending) (w' : World) : Prop :=
  ∃ v, e = .returned (.tuple #[.agg #[.int .i64 n, v], .int .i64 er]) ∧ w'.ownsRow w.heap.size 9 1 v ps.length (rv strKind ps) ∧ Below w.heap.size w w'
theorem SpA.none {w w' : World} {er : Int} (hb : Below w.heap.size w w') : SpA w 0 [] er (.returned (.tuple #[.agg #[.int .i64 0, .slice none 0 0], .int .i64 er])) w' := ⟨_, rfl, ⟨rfl, .inl ⟨rfl, rfl⟩⟩, hb⟩
theorem p_no {n : Int} {ps : List (List UInt8)} {leaf : List UInt8} (h : pOk n ps leaf = false) : pL n ps leaf = [] ∧ pN n ps leaf = 0 ∧ pE n ps leaf = 1 := by
  unfold pL pN pE
  rw [h]
  exact ⟨rfl, rfl, rfl⟩
theorem p_yes {n : Int} {ps : List (List UInt8)} {leaf : List UInt8} (h : pOk n ps leaf = true) : pL n ps leaf = Mt.mrg nodeL n.toNat (ps ++ [leaf]) ∧ pN n ps leaf = n + 1 ∧ pE n ps leaf = 0 := by
  unfold pL pN pE
  rw [h]
  exact ⟨rfl, rfl, rfl⟩
theorem set_far {w : World} {g b : Nat} (i : Nat) (v : Value) (h : g ≠ b) : (w.setCell ⟨b, i, none⟩ v).heap[g]? = w.heap[g]? := Below.heap_setCell w ⟨b, i, none⟩ v g h
theorem own_block {w w' : World} {B t k n : Nat} {v : Value} {xs : List Value} (h : w.ownsRow B t k v n xs) (hk : ∀ g, v.ownBlock = some g → w'.heap[g]? = w.heap[g]?) : w'.ownsRow B t k v n xs := by
  rcases h.2 with h0 | ⟨g, cap, cur, rfl, hb, hg, r⟩
  · exact ⟨h.1, .inl h0⟩
  · exact ⟨h.1, .inr ⟨g, cap, cur, rfl, hb, (hk g rfl).trans hg, r⟩⟩
theorem own_set {w : World} {B t k n R : Nat} {v : Value} {xs : List Value} (h : w.ownsRow B t k v n xs) (hR : R < B) (i : Nat) (u : Value) : (w.setCell ⟨R, i, none⟩ u).ownsRow B t k v n xs :=
  own_block h (fun g hg => set_far i u (by have := (h.lt g hg).1; omega))
theorem set2 {w : World} {R : Nat} {T : TypeId} {x y : Value} (h : w.heap[R]? = some (.cells #[x, y] T)) (a b : Value) : ((w.setCell ⟨R, 0, none⟩ a).setCell ⟨R, 1, none⟩ b).heap[R]? = some (.cells #[a, b] T) := by
  have h1 := put_row h 0 a
  have h2 := put_row h1 1 b
  simpa using h2
theorem mrg_len {α : Type} (nd : α → α → α) : ∀ (f n : Nat) (l : List α), (Mt.mrgF nd f n l).length ≤ l.length
  | 0, _, _ => Nat.le_refl _
  | f + 1, n, l => by
    show (if n % 2 = 1 then _ else _ : List α).length ≤ _
    split
    · refine Nat.le_trans (mrg_len nd f (n / 2) _) ?_
      unfold Mt.pair2
      split
      · next b a r h =>
        have h2 := congrArg List.length h
        simp only [List.length_reverse, List.length_cons] at h2 ⊢
        omega
      · exact Nat.le_refl _
    · exact Nat.le_refl _
theorem pL_len (n : Int) (ps : List (List UInt8)) (leaf : List UInt8) : (pL n ps leaf).length ≤ 1099511627777 := by
  unfold pL
  split
  · next h =>
    have h1 : ckS n ps = true := by
      unfold pOk at h
      rw [Bool.and_eq_true] at h
      exact h.1
    obtain ⟨_, d2, d3, _⟩ := ckS_parts h1
    have h2 := mrg_len nodeL n.toNat n.toNat (ps ++ [leaf])
    have h3 := ones_le n.toNat
    rw [List.length_append, d3] at h2
    simp only [List.length_cons, List.length_nil] at h2
    unfold Mt.mrg
    omega
  · exact Nat.zero_le _
end Go.Proofs.YtkepjjkiajkdmaaDoor
