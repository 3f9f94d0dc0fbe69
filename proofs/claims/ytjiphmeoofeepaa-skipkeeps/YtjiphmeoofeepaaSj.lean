/- The walk of skip's Level. -/
import Derived.Test.YtjiphmeoofeepaaSh
import Derived.Deep.LoopGhost
namespace Go.Proofs.Ytjiphmeoofeepaa
open Go.RowKit
open Sk (Ent)

theorem info_parts3 {P : Program} {t : TypeId} {z : Value} {s b : Nat} (h : (P.info? t).map (fun i => (i.zero, i.size, i.bytes)) = some (some z, s, b)) : ∃ i, P.info? t = some i ∧ i.zero = some z ∧ i.size = s ∧ i.bytes = b := by
  cases hi : P.info? t with
  | none => rw [hi] at h; cases h
  | some i =>
    rw [hi] at h
    simp only [Option.map_some, Option.some.injEq, Prod.mk.injEq] at h
    exact ⟨i, rfl, h.1, h.2.1, h.2.2⟩
theorem infoE : (Try.prog.info? 28).map (fun i => (i.zero, i.size, i.bytes)) = some (some (.agg #[.slice none 0 0, .int .i64 0, .bool false, .slice none 0 0]), 4, 64) := by kernel_rfl
theorem OwnE.held {B : Nat} {w : World} {y : EV} (h : OwnE B w y) : entKind.held w y := by
  obtain ⟨a1, c1, e1, h1, _⟩ := Src.of_own h.1
  obtain ⟨a2, c2, e2, h2, _⟩ := Src.of_own h.2
  cases e1
  cases e2
  exact ⟨h1, h2⟩
theorem OwnE.block {B : Nat} {w w' : World} {y : EV} (h : OwnE B w y) (hb : Below w.heap.size w w') : OwnE B w' y := ⟨own_block h.1 (fun g hg => hb.block g (own_size h.1 hg)), own_block h.2 (fun g hg => hb.block g (own_size h.2 hg))⟩
theorem OwnE.base {B B' : Nat} {w : World} {y : EV} (h : OwnE B w y) (hb : B' ≤ B) : OwnE B' w y := ⟨own_base h.1 (fun g hg => Nat.le_trans hb (h.1.lt g hg).1), own_base h.2 (fun g hg => Nat.le_trans hb (h.2.lt g hg).1)⟩
/-- A row of entries that was made at or beyond B. -/
structure Ents (B : Nat) (w : World) (v : Value) (ys : List EV) : Prop where
  row : w.ownsRow B 28 4 v ys.length (rv entKind ys)
  each : ∀ y ∈ ys, OwnE B w y
theorem Ents.nil (B : Nat) (w : World) : Ents B w (.slice none 0 0) [] := ⟨World.ownsRow_nil _ _ _ _, fun y h => by cases h⟩
theorem Ents.below {B : Nat} {w w' : World} {v : Value} {ys : List EV} (h : Ents B w v ys) (hb : Below w.heap.size w w') : Ents B w' v ys := ⟨own_block h.row (fun g hg => hb.block g (own_size h.row hg)), fun y hy => (h.each y hy).block hb⟩
theorem OwnE.grown {B : Nat} {w w' : World} {v : Value} {n : Nat} {xs : List Value} {y : EV} (h : OwnE B w y) (hv : w.ownsRow B 28 4 v n xs) (hg : w.grownBy w' v.ownBlock) : OwnE B w' y := by
  have one : ∀ {u : Value} {m : Nat} {zs : List Value}, w.ownsRow B 5 1 u m zs → w'.ownsRow B 5 1 u m zs := fun {u m zs} hu => own_block hu (fun g hgg => hg.block g (own_size hu hgg) (fun e1 => by
    obtain ⟨c1, h1⟩ := own_tag hu hgg
    obtain ⟨c2, h2⟩ := own_tag hv e1.symm
    rw [h1] at h2
    cases h2))
  exact ⟨one h.1, one h.2⟩
theorem Ents.more {B : Nat} {w w' : World} {v v' : Value} {ys : List EV} {y : EV} (h : Ents B w v ys) (hy : OwnE B w y) (ho : w'.ownsRow B 28 4 v' (ys.length + 1) (rv entKind (ys ++ [y]))) (hg : w.grownBy w' v.ownBlock) : Ents B w' v' (ys ++ [y]) :=
  ⟨by rw [List.length_append]; exact ho, fun z hz => by
    rcases List.mem_append.1 hz with hz | hz
    · exact (h.each z hz).grown h.row hg
    · rw [List.mem_singleton.1 hz]; exact hy.grown h.row hg⟩
/-- The entries that are higher than i. -/
def above (ns : List Nd) (i : Nat) : List Ent := (ns.filter (fun n => decide (i < n.h))).map (·.x.e)
theorem above_more {ns : List Nd} {i q r : Nat} {n : Nd} (h1 : ns[q + r]? = some n) (h2 : i < n.h) (h3 : ∀ j m, j < r → (ns.drop q)[j]? = some m → ¬ i < m.h) : above (ns.take (q + r + 1)) i = above (ns.take q) i ++ [n.x.e] := by
  have e1 : ns.take (q + r + 1) = ns.take q ++ ((ns.drop q).take r ++ [n]) := by
    rw [List.take_add_one, h1, ← List.append_assoc, ← List.take_add]
    rfl
  have e2 : ((ns.drop q).take r).filter (fun n => decide (i < n.h)) = [] := by
    rw [List.filter_eq_nil_iff]
    intro m hm
    obtain ⟨j, hj⟩ := List.getElem?_of_mem hm
    rw [List.getElem?_take] at hj
    split at hj
    · rename_i hjr
      simpa using h3 j m hjr hj
    · cases hj
  unfold above
  rw [e1, List.filter_append, List.filter_append, e2, List.nil_append, List.map_append]
  simp [h2]
theorem above_end {ns : List Nd} {i q : Nat} (h : nxtAt (ns.drop q) i = none) : above ns i = above (ns.take q) i := by
  have e : above (ns.drop q) i = [] := by
    unfold above
    rw [List.map_eq_nil_iff, List.filter_eq_nil_iff]
    intro m hm
    simpa using (nxt_none h).2 m hm
  conv => lhs; rw [← List.take_append_drop q ns]
  unfold above at e ⊢
  rw [List.filter_append, List.map_append, e, List.append_nil]
end Go.Proofs.Ytjiphmeoofeepaa
