/- A function that leaves with many marks; what a range over a function keeps; no walk. -/
import Derived.Test.YtdgfbbaddoghaaaDoorKz
import Derived.RangeFuncNested
import Derived.RangeFuncWrites
import Derived.RangeFuncBound
import Derived.RangeFuncCalls
import Derived.RangeFuncLeaves
import Derived.Shelf.Abstract
import Derived.Shelf.RegionOpen
import Derived.WalkKit
import Derived.OwnWalkIn
import Derived.TacticsInMore
import Derived.LoopNIn
import Derived.LoopIn
namespace Go.Proofs.YtdgfbbaddoghaaaDoor
open Go.RowKit

theorem own_tag {w : World} {B t k n : Nat} {v : Value} {xs : List Value} (h : w.ownsRow B t k v n xs) {g : Nat} (hg : v.ownBlock = some g) : ∃ cur, w.heap[g]? = some (.cells cur t (0, 0)) := by
  rcases h.2 with ⟨rfl, _⟩ | ⟨g', cap, cur, rfl, _, hh, _⟩
  · cases hg
  · cases hg
    exact ⟨cur, hh⟩
theorem grown_of_below {w w' : World} (h : Below w.heap.size w w') : w.grownBy w' none := ⟨h.os, h.tape, h.output, h.size, fun k hk _ => h.block k hk⟩

/-- The mark that a range over a function leaves. -/
def markOf (D : Nat) : Deferred := { target := .collected D, args := #[] }
/-- Blocks that await deferred calls, and have none; no two are one. -/
structure Marks (B : Nat) (W : World) (Ds : List Nat) : Prop where
  nodup : Ds.Nodup
  far : ∀ D ∈ Ds, B ≤ D
  each : ∀ D ∈ Ds, W.heap[D]? = some (.deferred (some []))
theorem Marks.nil (B : Nat) (W : World) : Marks B W [] := ⟨List.nodup_nil, (fun _ h => by cases h), (fun _ h => by cases h)⟩
/-- w' is as w was, but for blocks that are no cells and lie at or beyond B. -/
structure Shut (B : Nat) (w w' : World) : Prop where
  os : w'.os = w.os
  tape : w'.tape = w.tape
  output : w'.output = w.output
  size : w.heap.size = w'.heap.size
  block : ∀ k o, w.heap[k]? = some o → k < B ∨ o.isCells = true → w'.heap[k]? = some o
theorem Shut.refl (B : Nat) (w : World) : Shut B w w := ⟨rfl, rfl, rfl, rfl, fun _ _ h _ => h⟩
theorem Shut.below {B : Nat} {w w' : World} (h : Shut B w w') (hB : B ≤ w.heap.size) : Below B w w' :=
  ⟨h.os, h.tape, h.output, Nat.le_of_eq h.size, fun k hk => by
    have : w.heap[k]? = some w.heap[k] := Array.getElem?_eq_getElem (by omega)
    rw [this]
    exact h.block k _ this (.inl hk)⟩
theorem Shut.own {B : Nat} {w w' : World} (h : Shut B w w') {b t k n : Nat} {v : Value} {xs : List Value} (ho : w.ownsRow b t k v n xs) : w'.ownsRow b t k v n xs := by
  rcases ho.2 with h0 | ⟨g, cap, cur, e, h1, h2, r⟩
  · exact ⟨ho.1, .inl h0⟩
  · exact ⟨ho.1, .inr ⟨g, cap, cur, e, h1, h.block g _ h2 (.inr rfl), r⟩⟩
theorem leaves_marks {F : Fence} {n : Nat} {P : Program} {fn : Func} {tmps : Array Value} {R : Ending → World → Prop} {B : Nat} : ∀ (Ds : List Nat) (W : World), Marks B W Ds →
    (∀ W', Shut B W W' → LeavesInM F n P fn tmps R [] .returning W') → LeavesInM F n P fn tmps R (Ds.map markOf) .returning W
  | [], W, _, h => h W (Shut.refl _ _)
  | D :: Ds, W, hM, h => by
    have hD := hM.each D List.mem_cons_self
    refine ⟨by simp, .inl ⟨D, _, rfl, run_takeDeferred hD, ?_⟩⟩
    have hne : ∀ k, k ≠ D → (W.putObj D (.deferred none)).heap[k]? = W.heap[k]? := fun k hk => World.putObj_heap_other hk
    refine leaves_marks Ds _ ⟨(List.nodup_cons.1 hM.nodup).2, fun x hx => hM.far x (List.mem_cons_of_mem _ hx), fun x hx => ?_⟩ (fun W' hs => h W' ?_)
    · rw [hne x (fun e => (List.nodup_cons.1 hM.nodup).1 (e ▸ hx))]
      exact hM.each x (List.mem_cons_of_mem _ hx)
    · refine ⟨hs.os, hs.tape, hs.output, by rw [← hs.size]; simp, fun k o hk ho => ?_⟩
      have hkD : k ≠ D := fun e => by
        subst e
        rw [hD] at hk
        cases hk
        rcases ho with ho | ho
        · have := hM.far k List.mem_cons_self; omega
        · cases ho
      exact hs.block k o ((hne k hkD).trans hk) ho
theorem keeps_below {W V : World} (h : Below W.heap.size W V) : KeepsOthers W V := ⟨h.size, fun k _ hk _ => (h.block k (Array.getElem?_eq_some_iff.1 hk).1).trans hk⟩
/-- What an iterator wants kept: all cells but those of one block. -/
def KpN (R : Nat) (W W' : World) : Prop := ∀ (p : Addr) v, p.block ≠ R → W.cell? p = some v → W'.cell? p = some v
theorem KpN.t {R : Nat} {A B C : World} (h : KpN R A B) (k : KpN R B C) : KpN R A C := fun p v hp hv => k p v hp (h p v hp hv)
theorem KpN.b {R : Nat} {w : World} (W : World) (l : Nat) (o o' : Obj) (_ : w.heap.size ≤ l) (h : W.heap[l]? = some o) (ho : o.isCells = false) (_ : o.isWalk = false) : KpN R W (W.putObj l o') :=
  fun _ _ _ hv => cell_kept hv (grownBy_putObj' W l o') (fun r e => by cases e; exact ⟨o, h, ho⟩)
theorem KpN.src {R : Nat} {W W' : World} {ao : Option Addr} {n c : Nat} {es : List (List UInt8)} (h : RSrc strKind W ao n c es) (hk : KpN R W W') (hr : ∀ ad, ao = some ad → ad.block ≠ R) : RSrc strKind W' ao n c es :=
  ⟨h.len, h.cap, h.nil, fun ad e j u hu => hk _ _ (by rw [addr_block]; exact hr ad e) (h.cells ad e j u hu), fun _ _ => trivial⟩
end Go.Proofs.YtdgfbbaddoghaaaDoor
