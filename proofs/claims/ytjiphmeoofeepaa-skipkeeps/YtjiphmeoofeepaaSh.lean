/- The walk of skip's Get. -/
import Derived.Test.YtjiphmeoofeepaaSg
namespace Go.Proofs.Ytjiphmeoofeepaa
open Go.RowKit
open Sk (Ent)

/-- The list's head lies in block b, its nodes are in order and each at least 1 high. -/
structure SMem (w : World) (b : Nat) (ns : List Nd) : Prop where
  chain : Chain w b ns
  tall : Tall ns
  up : Sk.Up (ns.map (·.x.e))
  short : ∀ n ∈ ns, n.x.e.key.length ≤ 64 ∧ n.x.e.val.length ≤ 1024
theorem SMem.below {w w' : World} {b : Nat} {ns : List Nd} (h : SMem w b ns) (hb : Below w.heap.size w w') : SMem w' b ns := ⟨h.chain.below hb, h.tall, h.up, h.short⟩
/-- No entry. -/
def evZ : EV := ⟨none, 0, none, 0, ⟨[], 0, false, []⟩⟩
/-- The place of a key and a number. -/
def place (ns : List Nd) (key : List UInt8) (s : Int) : Nat := Sk.count (Sk.aheadOf key s) (ns.map (·.x.e))
/-- The node at that place, if it is of the key. -/
def hit (ns : List Nd) (key : List UInt8) (s : Int) : Option Nd := match ns[place ns key s]? with | some n => if n.x.e.key = key then some n else none | none => none
set_option maxHeartbeats 2000000 in
set_option maxRecDepth 100000 in
theorem get_none (b : Nat) (ns : List Nd) (kp : Option Addr) (kc : Nat) (key : List UInt8) (s : Int) (w : World) (h : SMem w b ns) (hs : Src w kp key.length kc key) (hx : hit ns key s = none) :
    Calls Try.prog 11 #[.pointer (some ⟨b, 0, none⟩), .slice kp key.length kc, .int .i64 s] w fun e w' => e = .returned (.tuple #[ev evZ, .bool false]) ∧ Below w.heap.size w w' := by
  obtain ⟨W1, hW1⟩ : ∃ W1, w.alloc (.cells #[.slice none 0 0, .int .i64 0, .bool false, .slice none 0 0] 28) = W1 := ⟨_, rfl⟩
  have b1 : Hid (Below w.heap.size w W1) := by rw [← hW1]; exact (Below.refl _ _).alloc (Nat.le_refl _) _
  have g1 : Hid (W1.heap[w.heap.size]? = some (.cells #[.slice none 0 0, .int .i64 0, .bool false, .slice none 0 0] 28)) := by rw [← hW1]; exact heap_alloc_new w _
  have AO := keep (aheadOf_any kp key.length kc s W1)
  have HM := keep (h.below b1.out)
  have HS := keep (hs.below b1.out)
  clear h hs
  go_enter Try.func11, Try.ntmps11
  go_wp2_with fail
  refine AO.out.mono ?_
  rintro e w2 ⟨rfl, hw2⟩
  have B2 : Hid (Below W1.heap.size W1 w2) := by rw [hw2]; exact ((Below.refl _ _).alloc (Nat.le_refl _) _).alloc (by simp) _
  have AI : Hid (AheadIn w2 W1.heap.size (W1.heap.size + 1) key s) := by
    refine ⟨kp, kc, HS.out.below B2.out, ?_, ?_⟩
    · rw [hw2]
      exact cell_of_row _ _ _ _ _ _ ((Below.heap_alloc _ _ _ (by simp)).trans (heap_alloc_new W1 _))
    · have := heap_alloc_new (W1.alloc (.cells #[.slice kp key.length kc] 26)) (.cells #[.int .i64 s] 3)
      rw [World.size_alloc] at this
      rw [hw2]
      exact cell_of_row _ _ _ _ _ _ this
  have FI := keep (first_two W1.heap.size (W1.heap.size + 1) b ns (Sk.aheadOf key s) (place ns key s) w2 (HM.out.below B2.out).chain HM.out.tall (Sk.cut_count (Sk.ahead_down key s) HM.out.up) (fun w' x hb hh => ahead_any _ _ key s x w' (AI.out.below hb) hh))
  clear hw2 AO
  go_wp2_with fail
  refine FI.out.mono ?_
  rintro e w3 ⟨rfl, hb3⟩
  have B3 := keep (B2.out.trans (hb3.mono B2.out.size))
  have M3 := keep (HM.out.below B3.out)
  have S3 := keep (HS.out.below B3.out)
  have G3 : Hid (w3.heap[w.heap.size]? = some (.cells #[.slice none 0 0, .int .i64 0, .bool false, .slice none 0 0] 28)) := (B3.out.block _ (by rw [← hW1]; simp)).trans g1.out
  have BL := keep (b1.out.trans (B3.out.mono b1.out.size))
  have r0 : w3.cell? ⟨w.heap.size, 0, none⟩ = some (.slice none 0 0) := cell_of_row _ _ _ _ _ _ G3.out
  have r1 : w3.cell? ⟨w.heap.size, 1, none⟩ = some (.int .i64 0) := cell_of_row _ _ _ _ _ _ G3.out
  have r2 : w3.cell? ⟨w.heap.size, 2, none⟩ = some (.bool false) := cell_of_row _ _ _ _ _ _ G3.out
  have r3 : w3.cell? ⟨w.heap.size, 3, none⟩ = some (.slice none 0 0) := cell_of_row _ _ _ _ _ _ G3.out
  have f0 : w3.frozen? ⟨w.heap.size, 0, none⟩ = false := by simp [World.frozen?, G3.out]
  have f1 : w3.frozen? ⟨w.heap.size, 1, none⟩ = false := by simp [World.frozen?, G3.out]
  have f2 : w3.frozen? ⟨w.heap.size, 2, none⟩ = false := by simp [World.frozen?, G3.out]
  have f3 : w3.frozen? ⟨w.heap.size, 3, none⟩ = false := by simp [World.frozen?, G3.out]
  clear hb3 FI hW1
  unfold hit at hx
  unfold nodeAt
  cases hn : ns[place ns key s]? with
  | none =>
    clear hx hn
    simp only
    go_wp2
    refine ⟨rfl, .tuple #[ev evZ, .bool false], ?_, rfl, ?_⟩
    · have s0 : (w3.setCell ⟨w.heap.size, 0, none⟩ (.slice none 0 0)).cell? ⟨w.heap.size, 0, none⟩ = some (.slice none 0 0) := World.cell?_setCell_same' _ _ _ (by simp [go_sem, r0])
      have s1 : ((w3.setCell ⟨w.heap.size, 0, none⟩ (.slice none 0 0)).setCell ⟨w.heap.size, 1, none⟩ (.int .i64 0)).cell? ⟨w.heap.size, 1, none⟩ = some (.int .i64 0) := World.cell?_setCell_same' _ _ _ (by simp [go_sem, r1])
      have s2 : (((w3.setCell ⟨w.heap.size, 0, none⟩ (.slice none 0 0)).setCell ⟨w.heap.size, 1, none⟩ (.int .i64 0)).setCell ⟨w.heap.size, 2, none⟩ (.bool false)).cell? ⟨w.heap.size, 2, none⟩ = some (.bool false) := World.cell?_setCell_same' _ _ _ (by simp [go_sem, r2])
      have s3 : ((((w3.setCell ⟨w.heap.size, 0, none⟩ (.slice none 0 0)).setCell ⟨w.heap.size, 1, none⟩ (.int .i64 0)).setCell ⟨w.heap.size, 2, none⟩ (.bool false)).setCell ⟨w.heap.size, 3, none⟩ (.slice none 0 0)).cell? ⟨w.heap.size, 3, none⟩ = some (.slice none 0 0) := World.cell?_setCell_same' _ _ _ (by simp [go_sem, r3])
      simp [results, Try.f11, go_sem, loadCells, loadCellsFrom, s0, s1, s2, s3, ev, evZ]
    · exact ((((BL.out.setCell (p := ⟨w.heap.size, 0, none⟩) (Nat.le_refl _) _).setCell (p := ⟨w.heap.size, 1, none⟩) (Nat.le_refl _) _).setCell (p := ⟨w.heap.size, 2, none⟩) (Nat.le_refl _) _).setCell (p := ⟨w.heap.size, 3, none⟩) (Nat.le_refl _) _)
  | some n =>
    rw [hn] at hx
    simp only at hx
    have hk : ¬ n.x.e.key = key := fun e => by rw [if_pos e] at hx; cases hx
    have hent := M3.out.chain.ents n (List.mem_of_getElem? hn)
    obtain ⟨ng, ⟨xkp, xkc, xvp, xvc, ⟨xkey, xseq, xgone, xval⟩⟩, nh⟩ := n
    have q0 : w3.cell? ⟨ng, 0, none⟩ = some (.slice xkp xkey.length xkc) := hent.1 0 _ rfl
    have EQ := keep (equal_any xkp xkey.length xkc xkey kp key.length kc key w3 hent.2.1 S3.out)
    rw [decide_eq_false hk] at EQ
    clear hx hn hk hent
    simp only
    go_wp2_with fail
    refine EQ.out.mono ?_
    rintro e w4 ⟨rfl, rfl⟩
    go_wp2
    refine ⟨rfl, .tuple #[ev evZ, .bool false], ?_, rfl, ?_⟩
    · have s0 : (w4.setCell ⟨w.heap.size, 0, none⟩ (.slice none 0 0)).cell? ⟨w.heap.size, 0, none⟩ = some (.slice none 0 0) := World.cell?_setCell_same' _ _ _ (by simp [go_sem, r0])
      have s1 : ((w4.setCell ⟨w.heap.size, 0, none⟩ (.slice none 0 0)).setCell ⟨w.heap.size, 1, none⟩ (.int .i64 0)).cell? ⟨w.heap.size, 1, none⟩ = some (.int .i64 0) := World.cell?_setCell_same' _ _ _ (by simp [go_sem, r1])
      have s2 : (((w4.setCell ⟨w.heap.size, 0, none⟩ (.slice none 0 0)).setCell ⟨w.heap.size, 1, none⟩ (.int .i64 0)).setCell ⟨w.heap.size, 2, none⟩ (.bool false)).cell? ⟨w.heap.size, 2, none⟩ = some (.bool false) := World.cell?_setCell_same' _ _ _ (by simp [go_sem, r2])
      have s3 : ((((w4.setCell ⟨w.heap.size, 0, none⟩ (.slice none 0 0)).setCell ⟨w.heap.size, 1, none⟩ (.int .i64 0)).setCell ⟨w.heap.size, 2, none⟩ (.bool false)).setCell ⟨w.heap.size, 3, none⟩ (.slice none 0 0)).cell? ⟨w.heap.size, 3, none⟩ = some (.slice none 0 0) := World.cell?_setCell_same' _ _ _ (by simp [go_sem, r3])
      simp [results, Try.f11, go_sem, loadCells, loadCellsFrom, s0, s1, s2, s3, ev, evZ]
    · exact ((((BL.out.setCell (p := ⟨w.heap.size, 0, none⟩) (Nat.le_refl _) _).setCell (p := ⟨w.heap.size, 1, none⟩) (Nat.le_refl _) _).setCell (p := ⟨w.heap.size, 2, none⟩) (Nat.le_refl _) _).setCell (p := ⟨w.heap.size, 3, none⟩) (Nat.le_refl _) _)
end Go.Proofs.Ytjiphmeoofeepaa
