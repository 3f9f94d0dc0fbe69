/- Rows of entries; no walk. -/
import Derived.Test.YtgdggeacjfhkkaaSc
import Derived.Deep.LoopGhost
namespace Go.Proofs.Ytgdggeacjfhkkaa
open Go.RowKit
open Sk (Ent)

theorem info_parts3 {P : Program} {t : TypeId} {z : Value} {s b : Nat} (h : (P.info? t).map (fun i => (i.zero, i.size, i.bytes)) = some (some z, s, b)) : ∃ i, P.info? t = some i ∧ i.zero = some z ∧ i.size = s ∧ i.bytes = b := by
  cases hi : P.info? t with
  | none => rw [hi] at h; cases h
  | some i =>
    rw [hi] at h
    simp only [Option.map_some, Option.some.injEq, Prod.mk.injEq] at h
    exact ⟨i, rfl, h.1, h.2.1, h.2.2⟩
theorem infoE : (Try.prog.info? 36).map (fun i => (i.zero, i.size, i.bytes)) = some (some (.agg #[.slice none 0 0, .int .i64 0, .bool false, .slice none 0 0]), 4, 64) := by kernel_rfl
theorem OwnE.held {B : Nat} {w : World} {y : EV} (h : OwnE B w y) : entKind.held w y := by
  obtain ⟨a1, c1, e1, h1, _⟩ := Src.of_own h.1
  obtain ⟨a2, c2, e2, h2, _⟩ := Src.of_own h.2
  cases e1
  cases e2
  exact ⟨h1, h2⟩
theorem OwnE.block {B : Nat} {w w' : World} {y : EV} (h : OwnE B w y) (hb : Below w.heap.size w w') : OwnE B w' y := ⟨own_block h.1 (fun g hg => hb.block g (own_size h.1 hg)), own_block h.2 (fun g hg => hb.block g (own_size h.2 hg))⟩
theorem OwnE.base {B B' : Nat} {w : World} {y : EV} (h : OwnE B w y) (hb : B' ≤ B) : OwnE B' w y := ⟨own_base h.1 (fun g hg => Nat.le_trans hb (h.1.lt g hg).1), own_base h.2 (fun g hg => Nat.le_trans hb (h.2.lt g hg).1)⟩
/-- A row of entries that was made at or beyond B. -/
structure Ents (B : Nat) (w : World) (v : Value) (ys : List EV) : Prop where
  row : w.ownsRow B 36 4 v ys.length (rv entKind ys)
  each : ∀ y ∈ ys, OwnE B w y
theorem Ents.nil (B : Nat) (w : World) : Ents B w (.slice none 0 0) [] := ⟨World.ownsRow_nil _ _ _ _, fun y h => by cases h⟩
theorem Ents.below {B : Nat} {w w' : World} {v : Value} {ys : List EV} (h : Ents B w v ys) (hb : Below w.heap.size w w') : Ents B w' v ys := ⟨own_block h.row (fun g hg => hb.block g (own_size h.row hg)), fun y hy => (h.each y hy).block hb⟩
theorem OwnE.grown {B : Nat} {w w' : World} {v : Value} {n : Nat} {xs : List Value} {y : EV} (h : OwnE B w y) (hv : w.ownsRow B 36 4 v n xs) (hg : w.grownBy w' v.ownBlock) : OwnE B w' y := by
  have one : ∀ {u : Value} {m : Nat} {zs : List Value}, w.ownsRow B 5 1 u m zs → w'.ownsRow B 5 1 u m zs := fun {u m zs} hu => own_block hu (fun g hgg => hg.block g (own_size hu hgg) (fun e1 => by
    obtain ⟨c1, h1⟩ := own_tag hu hgg
    obtain ⟨c2, h2⟩ := own_tag hv e1.symm
    rw [h1] at h2
    cases h2))
  exact ⟨one h.1, one h.2⟩
theorem Ents.more {B : Nat} {w w' : World} {v v' : Value} {ys : List EV} {y : EV} (h : Ents B w v ys) (hy : OwnE B w y) (ho : w'.ownsRow B 36 4 v' (ys.length + 1) (rv entKind (ys ++ [y]))) (hg : w.grownBy w' v.ownBlock) : Ents B w' v' (ys ++ [y]) :=
  ⟨by rw [List.length_append]; exact ho, fun z hz => by
    rcases List.mem_append.1 hz with hz | hz
    · exact (h.each z hz).grown h.row hg
    · rw [List.mem_singleton.1 hz]; exact hy.grown h.row hg⟩
def evZ : EV := ⟨none, 0, none, 0, ⟨[], 0, false, []⟩⟩
def zeroE : Ent := ⟨[], 0, false, []⟩
theorem held_zero (w : World) : entKind.held w evZ := ⟨src_nil w, src_nil w⟩
end Go.Proofs.Ytgdggeacjfhkkaa
