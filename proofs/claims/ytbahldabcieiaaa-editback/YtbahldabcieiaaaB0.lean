/- Rows of byte slices; rows cut short, or turned in one byte; a function that leaves with many marks; no walk. -/
import Derived.Test.YtbahldabcieiaaaOw
import Derived.Test.YtbahldabcieiaaaBp
import Derived.RangeFuncNested
import Derived.RangeFuncWrites
import Derived.RangeFuncBound
import Derived.RangeFuncCalls
import Derived.RangeFuncLeaves
import Derived.Shelf.Abstract
import Derived.Shelf.RegionOpen
import Derived.WalkKit
import Derived.OwnWalkIn
import Derived.TacticsInMore
import Derived.LoopNIn
import Derived.LoopIn
namespace Go.Proofs.Ytbahldabcieiaaa
open Go.RowKit

/-- A byte slice as it lies in memory. -/
structure ByteE where
  ptr : Option Addr
  cap : Nat
  bytes : List UInt8
def byteKind : Kind ByteE where
  size := 1
  vals e := [.slice e.ptr e.bytes.length e.cap]
  held w e := Src w e.ptr e.bytes.length e.cap e.bytes
theorem byteKind_ok : byteKind.Ok :=
  ⟨by decide, fun _ => rfl, fun e u hu => by
    simp only [byteKind, List.mem_cons, List.not_mem_nil, or_false] at hu
    rw [hu]; rfl, fun h hb => Src.below h hb⟩
theorem own_cut0 {w : World} {B n cap t : Nat} {g : Nat} {xs : List Value} (h : w.ownsRow B t 1 (.slice (some ⟨g, 0, none⟩) n cap) n xs) : w.ownsRow B t 1 (.slice (some ⟨g, 0, none⟩) 0 cap) 0 [] := by
  rcases h.2 with ⟨h0, _⟩ | ⟨g', cap', cur, e, h1, h2, _, h4, h5, _⟩
  · cases h0
  · cases e
    exact ⟨rfl, .inr ⟨g, cap, cur, rfl, h1, h2, Nat.zero_le _, h4, h5, by simp⟩⟩
/-- One byte of a row of the call's own is turned. -/
theorem own_turn {w : World} {B n cap g i : Nat} {l : List UInt8} (h : w.ownsRow B 5 1 (.slice (some ⟨g, 0, none⟩) n cap) n (bv l)) (hi : i < n) (x : UInt8) :
    (w.setCell ⟨g, i, none⟩ (.int .u8 (x.toNat : Int))).ownsRow B 5 1 (.slice (some ⟨g, 0, none⟩) n cap) n (bv (l.set i x)) := by
  rcases h.2 with ⟨h0, _⟩ | ⟨g', cap', cur, e, h1, h2, h3, h4, h5, h6⟩
  · cases h0
  · cases e
    have hl : (bv l).length = n := by have := h.1; omega
    refine ⟨by rw [bv_length, List.length_set]; rw [bv_length] at hl; omega, .inr ⟨g, cap, cur.setIfInBounds i (.int .u8 (x.toNat : Int)), rfl, h1, ?_, h3, h4, by rw [Array.size_setIfInBounds]; exact h5, ?_⟩⟩
    · have := set_row h2 i (.int .u8 (x.toNat : Int))
      exact this
    · rw [Array.toList_setIfInBounds, List.take_set, h6]
      apply List.ext_getElem?
      intro j
      rw [List.getElem?_set]
      by_cases e : i = j
      · subst e
        rw [if_pos rfl, if_pos (by rw [hl]; exact hi), bv_at _ i (by rw [List.length_set]; rw [bv_length] at hl; omega)]
        rw [Bl.fn_set _ _ _ _ (by rw [bv_length] at hl; omega), if_pos rfl]
      · rw [if_neg e]
        simp only [bv, List.getElem?_map, List.getElem?_set, if_neg e]
theorem belowc {w w' : World} (h : Below w.heap.size w w') {p : Addr} {v : Value} (hc : w.cell? p = some v) : w'.cell? p = some v := by rw [h.cell (World.block_lt_of_cell? w _ hc)]; exact hc
theorem grown_of_below {w w' : World} (h : Below w.heap.size w w') : w.grownBy w' none := ⟨h.os, h.tape, h.output, h.size, fun k hk _ => h.block k hk⟩

/-- The mark that a range over a function leaves. -/
def markOf (D : Nat) : Deferred := { target := .collected D, args := #[] }
/-- Blocks that await deferred calls, and have none; no two are one. -/
structure Marks (B : Nat) (W : World) (Ds : List Nat) : Prop where
  nodup : Ds.Nodup
  far : ∀ D ∈ Ds, B ≤ D
  each : ∀ D ∈ Ds, W.heap[D]? = some (.deferred (some []))
theorem Marks.nil (B : Nat) (W : World) : Marks B W [] := ⟨List.nodup_nil, (fun _ h => by cases h), (fun _ h => by cases h)⟩
/-- w' is as w was, but for blocks that are no cells and lie at or beyond B. -/
structure Shut (B : Nat) (w w' : World) : Prop where
  os : w'.os = w.os
  tape : w'.tape = w.tape
  output : w'.output = w.output
  size : w.heap.size = w'.heap.size
  block : ∀ k o, w.heap[k]? = some o → k < B ∨ o.isCells = true → w'.heap[k]? = some o
theorem Shut.refl (B : Nat) (w : World) : Shut B w w := ⟨rfl, rfl, rfl, rfl, fun _ _ h _ => h⟩
theorem Shut.below {B : Nat} {w w' : World} (h : Shut B w w') (hB : B ≤ w.heap.size) : Below B w w' :=
  ⟨h.os, h.tape, h.output, Nat.le_of_eq h.size, fun k hk => by
    have : w.heap[k]? = some w.heap[k] := Array.getElem?_eq_getElem (by omega)
    rw [this]
    exact h.block k _ this (.inl hk)⟩
theorem Shut.own {B : Nat} {w w' : World} (h : Shut B w w') {b t k n : Nat} {v : Value} {xs : List Value} (ho : w.ownsRow b t k v n xs) : w'.ownsRow b t k v n xs := by
  rcases ho.2 with h0 | ⟨g, cap, cur, e, h1, h2, r⟩
  · exact ⟨ho.1, .inl h0⟩
  · exact ⟨ho.1, .inr ⟨g, cap, cur, e, h1, h.block g _ h2 (.inr rfl), r⟩⟩
theorem leaves_marks {F : Fence} {n : Nat} {P : Program} {fn : Func} {tmps : Array Value} {R : Ending → World → Prop} {B : Nat} : ∀ (Ds : List Nat) (W : World), Marks B W Ds →
    (∀ W', Shut B W W' → LeavesInM F n P fn tmps R [] .returning W') → LeavesInM F n P fn tmps R (Ds.map markOf) .returning W
  | [], W, _, h => h W (Shut.refl _ _)
  | D :: Ds, W, hM, h => by
    have hD := hM.each D List.mem_cons_self
    refine ⟨by simp, .inl ⟨D, _, rfl, run_takeDeferred hD, ?_⟩⟩
    have hne : ∀ k, k ≠ D → (W.putObj D (.deferred none)).heap[k]? = W.heap[k]? := fun k hk => World.putObj_heap_other hk
    refine leaves_marks Ds _ ⟨(List.nodup_cons.1 hM.nodup).2, fun x hx => hM.far x (List.mem_cons_of_mem _ hx), fun x hx => ?_⟩ (fun W' hs => h W' ?_)
    · rw [hne x (fun e => (List.nodup_cons.1 hM.nodup).1 (e ▸ hx))]
      exact hM.each x (List.mem_cons_of_mem _ hx)
    · refine ⟨hs.os, hs.tape, hs.output, by rw [← hs.size]; simp, fun k o hk ho => ?_⟩
      have hkD : k ≠ D := fun e => by
        subst e
        rw [hD] at hk
        cases hk
        rcases ho with ho | ho
        · have := hM.far k List.mem_cons_self; omega
        · cases ho
      exact hs.block k o ((hne k hkD).trans hk) ho
end Go.Proofs.Ytbahldabcieiaaa
