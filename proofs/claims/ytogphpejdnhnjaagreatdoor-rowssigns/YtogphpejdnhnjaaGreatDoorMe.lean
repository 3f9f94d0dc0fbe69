/- A disk of the program's as it lies in memory; no walk. -/
import Derived.Test.YtogphpejdnhnjaaGreatDoorJoinDs
namespace Go.Proofs.YtogphpejdnhnjaaGreatDoor
open Go.RowKit
open Dk (File Disk)

def leftOf : Option Nat → Int
  | none => -1
  | some k => (k : Int)
/-- The five cells of a disk. -/
def Box (w : World) (b m : Nat) (free left : Int) (off : Bool) (ops : Int) : Prop :=
  w.heap[b]? = some (.cells #[.map (some m), .int .i64 free, .int .i64 left, .bool off, .int .i64 ops] 90 (0, 0))
section
variable {w : World} {b m : Nat} {free left : Int} {off : Bool} {ops : Int}
theorem Box.c0 (h : Box w b m free left off ops) : w.cell? ⟨b, 0, none⟩ = some (.map (some m)) := cell_of_row _ _ _ _ _ _ h
theorem Box.c1 (h : Box w b m free left off ops) : w.cell? ⟨b, 1, none⟩ = some (.int .i64 free) := cell_of_row _ _ _ _ _ _ h
theorem Box.c2 (h : Box w b m free left off ops) : w.cell? ⟨b, 2, none⟩ = some (.int .i64 left) := cell_of_row _ _ _ _ _ _ h
theorem Box.c3 (h : Box w b m free left off ops) : w.cell? ⟨b, 3, none⟩ = some (.bool off) := cell_of_row _ _ _ _ _ _ h
theorem Box.c4 (h : Box w b m free left off ops) : w.cell? ⟨b, 4, none⟩ = some (.int .i64 ops) := cell_of_row _ _ _ _ _ _ h
theorem Box.warm (h : Box w b m free left off ops) (i : Nat) : w.frozen? ⟨b, i, none⟩ = false := by unfold Box at h; simp [World.frozen?, h]
theorem Box.lt (h : Box w b m free left off ops) : b < w.heap.size := (Array.getElem?_eq_some_iff.1 h).1
theorem Box.same {w' : World} (h : Box w b m free left off ops) (hb : w'.heap[b]? = w.heap[b]?) : Box w' b m free left off ops := hb.trans h
theorem set_row {c : Array Value} {t : TypeId} (h : w.heap[b]? = some (.cells c t (0, 0))) (i : Nat) (v : Value) : (w.setCell ⟨b, i, none⟩ v).heap[b]? = some (.cells (c.setIfInBounds i v) t (0, 0)) := by
  rw [setCell_eq_setRow w b i c t (0, 0) v h]; exact setRow_heap w b c _ t (0, 0) h
theorem Box.set1 (h : Box w b m free left off ops) (x : Int) : Box (w.setCell ⟨b, 1, none⟩ (.int .i64 x)) b m x left off ops := set_row h 1 _
theorem Box.set2 (h : Box w b m free left off ops) (x : Int) : Box (w.setCell ⟨b, 2, none⟩ (.int .i64 x)) b m free x off ops := set_row h 2 _
theorem Box.set3 (h : Box w b m free left off ops) (x : Bool) : Box (w.setCell ⟨b, 3, none⟩ (.bool x)) b m free left x ops := set_row h 3 _
theorem Box.set4 (h : Box w b m free left off ops) (x : Int) : Box (w.setCell ⟨b, 4, none⟩ (.int .i64 x)) b m free left off x := set_row h 4 _
end
/-- The disk d of the program's at block b; its map and its files' bytes lie in the blocks of S. -/
structure MemAt (S : Nat → Prop) (w : World) (b m : Nat) (l : List Named) (left : Int) (d : Disk) : Prop where
  good : Dk.Good d
  capb : d.cap ≤ 1099511627776
  box : Box w b m ((d.cap : Int) - (Dk.used d.files : Int)) left d.dark (d.done : Int)
  map : MapIs Tryz.prog 9 w m l
  rel : Rel w Nobody l d.files
  foot : Foot S m l
  out : ¬ S b
  lt : ∀ g, S g → g < w.heap.size
  lefts : d.dark = false → left = leftOf d.left
  range : -1 ≤ left ∧ left < 9223372036854775808
def Mem (S : Nat → Prop) (w : World) (b : Nat) (d : Disk) : Prop := ∃ m l left, MemAt S w b m l left d
/-- The blocks of S, and those that are new. -/
def more (S : Nat → Prop) (w w' : World) (g : Nat) : Prop := S g ∨ (w.heap.size ≤ g ∧ g < w'.heap.size)
/-- What a call on the disk at b may turn. -/
def mine (S : Nat → Prop) (b : Nat) (g : Nat) : Prop := S g ∨ g = b
theorem MemAt.kept {S U : Nat → Prop} {w w' : World} {b m : Nat} {l : List Named} {left : Int} {d : Disk} (h : MemAt S w b m l left d) (hk : Kept U w w') (hs : ∀ g, S g → ¬ U g) (hb : ¬ U b) : MemAt S w' b m l left d :=
  ⟨h.good, h.capb, h.box.same (hk.block b h.box.lt hb), h.map.same (hk.block m (h.lt m h.foot.mine) (hs m h.foot.mine)),
    h.rel.turn (fun _ e => e) (fun x hx _ g hg => hk.block g (h.lt g (h.foot.arrs x hx g hg).1) (hs g (h.foot.arrs x hx g hg).1)), h.foot, h.out, fun g hg => Nat.lt_of_lt_of_le (h.lt g hg) hk.size, h.lefts, h.range⟩
theorem MemAt.below {S : Nat → Prop} {w w' : World} {b m : Nat} {l : List Named} {left : Int} {d : Disk} (h : MemAt S w b m l left d) (hk : Below w.heap.size w w') : MemAt S w' b m l left d :=
  h.kept (U := fun _ => False) (Kept.of_below hk) (fun _ _ e => e) (fun e => e)
theorem Mem.kept {S U : Nat → Prop} {w w' : World} {b : Nat} {d : Disk} (h : Mem S w b d) (hk : Kept U w w') (hs : ∀ g, S g → ¬ U g) (hb : ¬ U b) : Mem S w' b d := by
  obtain ⟨m, l, left, h⟩ := h
  exact ⟨m, l, left, h.kept hk hs hb⟩
theorem Mem.below {S : Nat → Prop} {w w' : World} {b : Nat} {d : Disk} (h : Mem S w b d) (hk : Below w.heap.size w w') : Mem S w' b d := by
  obtain ⟨m, l, left, h⟩ := h
  exact ⟨m, l, left, h.below hk⟩
theorem Mem.lt {S : Nat → Prop} {w : World} {b : Nat} {d : Disk} (h : Mem S w b d) : (∀ g, S g → g < w.heap.size) ∧ b < w.heap.size ∧ ¬ S b := by
  obtain ⟨m, l, left, h⟩ := h
  exact ⟨h.lt, h.box.lt, h.out⟩
theorem Mem.good {S : Nat → Prop} {w : World} {b : Nat} {d : Disk} (h : Mem S w b d) : Dk.Good d := by
  obtain ⟨m, l, left, h⟩ := h
  exact h.good
/-- A wider footprint, of old blocks. -/
theorem MemAt.wide {S S' : Nat → Prop} {w : World} {b m : Nat} {l : List Named} {left : Int} {d : Disk} (h : MemAt S w b m l left d) (hs : ∀ g, S g → S' g) (hb : ¬ S' b) (hl : ∀ g, S' g → g < w.heap.size) : MemAt S' w b m l left d :=
  ⟨h.good, h.capb, h.box, h.map, h.rel, h.foot.wide hs, hb, hl, h.lefts, h.range⟩
end Go.Proofs.YtogphpejdnhnjaaGreatDoor
