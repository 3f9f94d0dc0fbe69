/- The walk of skip's Get, where there is a version. -/
import Derived.Test.YtjiphmeoofeepaaSh
namespace Go.Proofs.Ytjiphmeoofeepaa
open Go.RowKit
open Sk (Ent)

set_option maxHeartbeats 2000000 in
set_option maxRecDepth 100000 in
theorem get_some (b : Nat) (ns : List Nd) (n : Nd) (kp : Option Addr) (kc : Nat) (key : List UInt8) (s : Int) (w : World) (h : SMem w b ns) (hs : Src w kp key.length kc key) (hx : hit ns key s = some n) :
    Calls Try.prog 11 #[.pointer (some ⟨b, 0, none⟩), .slice kp key.length kc, .int .i64 s] w fun e w' => ∃ y : EV, e = .returned (.tuple #[ev y, .bool true]) ∧ y.e = n.x.e ∧ OwnE w.heap.size w' y ∧ Below w.heap.size w w' := by
  obtain ⟨W1, hW1⟩ : ∃ W1, w.alloc (.cells #[.slice none 0 0, .int .i64 0, .bool false, .slice none 0 0] 28) = W1 := ⟨_, rfl⟩
  have b1 : Hid (Below w.heap.size w W1) := by rw [← hW1]; exact (Below.refl _ _).alloc (Nat.le_refl _) _
  have g1 : Hid (W1.heap[w.heap.size]? = some (.cells #[.slice none 0 0, .int .i64 0, .bool false, .slice none 0 0] 28)) := by rw [← hW1]; exact heap_alloc_new w _
  have AO := keep (aheadOf_any kp key.length kc s W1)
  have HM := keep (h.below b1.out)
  have HS := keep (hs.below b1.out)
  clear h hs
  go_enter Try.func11, Try.ntmps11
  go_wp2_with fail
  refine AO.out.mono ?_
  rintro e w2 ⟨rfl, hw2⟩
  have B2 : Hid (Below W1.heap.size W1 w2) := by rw [hw2]; exact ((Below.refl _ _).alloc (Nat.le_refl _) _).alloc (by simp) _
  have AI : Hid (AheadIn w2 W1.heap.size (W1.heap.size + 1) key s) := by
    refine ⟨kp, kc, HS.out.below B2.out, ?_, ?_⟩
    · rw [hw2]
      exact cell_of_row _ _ _ _ _ _ ((Below.heap_alloc _ _ _ (by simp)).trans (heap_alloc_new W1 _))
    · have := heap_alloc_new (W1.alloc (.cells #[.slice kp key.length kc] 26)) (.cells #[.int .i64 s] 3)
      rw [World.size_alloc] at this
      rw [hw2]
      exact cell_of_row _ _ _ _ _ _ this
  have FI := keep (first_two W1.heap.size (W1.heap.size + 1) b ns (Sk.aheadOf key s) (place ns key s) w2 (HM.out.below B2.out).chain HM.out.tall (Sk.cut_count (Sk.ahead_down key s) HM.out.up) (fun w' x hb hh => ahead_any _ _ key s x w' (AI.out.below hb) hh))
  clear hw2 AO
  go_wp2_with fail
  refine FI.out.mono ?_
  rintro e w3 ⟨rfl, hb3⟩
  have B3 := keep (B2.out.trans (hb3.mono B2.out.size))
  have M3 := keep (HM.out.below B3.out)
  have S3 := keep (HS.out.below B3.out)
  have G3 : Hid (w3.heap[w.heap.size]? = some (.cells #[.slice none 0 0, .int .i64 0, .bool false, .slice none 0 0] 28)) := (B3.out.block _ (by rw [← hW1]; simp)).trans g1.out
  have BL := keep (b1.out.trans (B3.out.mono b1.out.size))
  have r0 : w3.cell? ⟨w.heap.size, 0, none⟩ = some (.slice none 0 0) := cell_of_row _ _ _ _ _ _ G3.out
  have r1 : w3.cell? ⟨w.heap.size, 1, none⟩ = some (.int .i64 0) := cell_of_row _ _ _ _ _ _ G3.out
  have r2 : w3.cell? ⟨w.heap.size, 2, none⟩ = some (.bool false) := cell_of_row _ _ _ _ _ _ G3.out
  have r3 : w3.cell? ⟨w.heap.size, 3, none⟩ = some (.slice none 0 0) := cell_of_row _ _ _ _ _ _ G3.out
  have f0 : w3.frozen? ⟨w.heap.size, 0, none⟩ = false := by simp [World.frozen?, G3.out]
  have f1 : w3.frozen? ⟨w.heap.size, 1, none⟩ = false := by simp [World.frozen?, G3.out]
  have f2 : w3.frozen? ⟨w.heap.size, 2, none⟩ = false := by simp [World.frozen?, G3.out]
  have f3 : w3.frozen? ⟨w.heap.size, 3, none⟩ = false := by simp [World.frozen?, G3.out]
  clear hb3 FI hW1
  unfold hit at hx
  unfold nodeAt
  cases hn : ns[place ns key s]? with
  | none => rw [hn] at hx; cases hx
  | some m =>
    rw [hn] at hx
    simp only at hx
    have hk : m.x.e.key = key := by
      by_cases e : m.x.e.key = key
      · exact e
      · rw [if_neg e] at hx; cases hx
    rw [if_pos hk] at hx
    obtain rfl : m = n := Option.some.inj hx
    have hent := M3.out.chain.ents m (List.mem_of_getElem? hn)
    have hsh := M3.out.short m (List.mem_of_getElem? hn)
    have CP := keep (copied_any m.x w3 (by omega) (by omega) hent.2)
    obtain ⟨ng, ⟨xkp, xkc, xvp, xvc, ⟨xkey, xseq, xgone, xval⟩⟩, nh⟩ := m
    have q0 : w3.cell? ⟨ng, 0, none⟩ = some (.slice xkp xkey.length xkc) := hent.1 0 _ rfl
    have q1 : w3.cell? ⟨ng, 1, none⟩ = some (.int .i64 xseq) := hent.1 1 _ rfl
    have q2 : w3.cell? ⟨ng, 2, none⟩ = some (.bool xgone) := hent.1 2 _ rfl
    have q3 : w3.cell? ⟨ng, 3, none⟩ = some (.slice xvp xval.length xvc) := hent.1 3 _ rfl
    have EQ := keep (equal_any xkp xkey.length xkc xkey kp key.length kc key w3 hent.2.1 S3.out)
    rw [decide_eq_true hk] at EQ
    unfold ev at CP
    simp only at CP
    clear hx hn hk hent hsh r0 r1 r2 r3 f0 f1 f2 f3
    simp only
    go_wp2_with fail
    refine EQ.out.mono ?_
    rintro e w4 ⟨rfl, rfl⟩
    go_wp2_with fail
    refine CP.out.mono ?_
    rintro e w5 ⟨y, rfl, hye, hyo, hb5⟩
    obtain ⟨ykp, ykc, yvp, yvc, ⟨ykey, yseq, ygone, yval⟩⟩ := y
    have G5 : Hid (w5.heap[w.heap.size]? = some (.cells #[.slice none 0 0, .int .i64 0, .bool false, .slice none 0 0] 28)) := (hb5.block _ (Array.getElem?_eq_some_iff.1 G3.out).1).trans G3.out
    have BL5 := keep (BL.out.trans (hb5.mono BL.out.size))
    have HYE := keep hye
    have O5 : Hid (OwnE w.heap.size w5 ⟨ykp, ykc, yvp, yvc, ⟨ykey, yseq, ygone, yval⟩⟩) := ⟨own_base hyo.1 (fun g hg => Nat.le_trans BL.out.size (hyo.1.lt g hg).1), own_base hyo.2 (fun g hg => Nat.le_trans BL.out.size (hyo.2.lt g hg).1)⟩
    have t0 : w5.cell? ⟨w.heap.size, 0, none⟩ = some (.slice none 0 0) := cell_of_row _ _ _ _ _ _ G5.out
    have t1 : w5.cell? ⟨w.heap.size, 1, none⟩ = some (.int .i64 0) := cell_of_row _ _ _ _ _ _ G5.out
    have t2 : w5.cell? ⟨w.heap.size, 2, none⟩ = some (.bool false) := cell_of_row _ _ _ _ _ _ G5.out
    have t3 : w5.cell? ⟨w.heap.size, 3, none⟩ = some (.slice none 0 0) := cell_of_row _ _ _ _ _ _ G5.out
    have f0 : w5.frozen? ⟨w.heap.size, 0, none⟩ = false := by simp [World.frozen?, G5.out]
    have f1 : w5.frozen? ⟨w.heap.size, 1, none⟩ = false := by simp [World.frozen?, G5.out]
    have f2 : w5.frozen? ⟨w.heap.size, 2, none⟩ = false := by simp [World.frozen?, G5.out]
    have f3 : w5.frozen? ⟨w.heap.size, 3, none⟩ = false := by simp [World.frozen?, G5.out]
    simp only
    clear hye hyo hb5 CP EQ q0 q1 q2 q3
    go_wp2
    have far : ∀ {v : Value} {n : Nat} {xs : List Value}, w5.ownsRow w.heap.size 5 1 v n xs → ∀ g, v.ownBlock = some g → g ≠ w.heap.size := fun {v n xs} h g hg e => by
      obtain ⟨cur, hc⟩ := own_tag h hg
      rw [e, G5.out] at hc
      cases hc
    refine ⟨rfl, .tuple #[.agg #[.slice ykp ykey.length ykc, .int .i64 yseq, .bool ygone, .slice yvp yval.length yvc], .bool true], ?_, ⟨ykp, ykc, yvp, yvc, ⟨ykey, yseq, ygone, yval⟩⟩, rfl, HYE.out, ⟨?_, ?_⟩, ?_⟩
    · have s0 : (w5.setCell ⟨w.heap.size, 0, none⟩ (.slice ykp ykey.length ykc)).cell? ⟨w.heap.size, 0, none⟩ = some (.slice ykp ykey.length ykc) := World.cell?_setCell_same' _ _ _ (by simp [go_sem, t0])
      have s1 : ((w5.setCell ⟨w.heap.size, 0, none⟩ (.slice ykp ykey.length ykc)).setCell ⟨w.heap.size, 1, none⟩ (.int .i64 yseq)).cell? ⟨w.heap.size, 1, none⟩ = some (.int .i64 yseq) := World.cell?_setCell_same' _ _ _ (by simp [go_sem, t1])
      have s2 : (((w5.setCell ⟨w.heap.size, 0, none⟩ (.slice ykp ykey.length ykc)).setCell ⟨w.heap.size, 1, none⟩ (.int .i64 yseq)).setCell ⟨w.heap.size, 2, none⟩ (.bool ygone)).cell? ⟨w.heap.size, 2, none⟩ = some (.bool ygone) := World.cell?_setCell_same' _ _ _ (by simp [go_sem, t2])
      have s3 : ((((w5.setCell ⟨w.heap.size, 0, none⟩ (.slice ykp ykey.length ykc)).setCell ⟨w.heap.size, 1, none⟩ (.int .i64 yseq)).setCell ⟨w.heap.size, 2, none⟩ (.bool ygone)).setCell ⟨w.heap.size, 3, none⟩ (.slice yvp yval.length yvc)).cell? ⟨w.heap.size, 3, none⟩ = some (.slice yvp yval.length yvc) := World.cell?_setCell_same' _ _ _ (by simp [go_sem, t3])
      simp [results, Try.f11, go_sem, loadCells, loadCellsFrom, s0, s1, s2, s3]
    · refine own_block O5.out.1 (fun g hg => ?_)
      have h1 := far O5.out.1 g hg
      simp only [set_far _ _ h1]
    · refine own_block O5.out.2 (fun g hg => ?_)
      have h1 := far O5.out.2 g hg
      simp only [set_far _ _ h1]
    · exact ((((BL5.out.setCell (p := ⟨w.heap.size, 0, none⟩) (Nat.le_refl _) _).setCell (p := ⟨w.heap.size, 1, none⟩) (Nat.le_refl _) _).setCell (p := ⟨w.heap.size, 2, none⟩) (Nat.le_refl _) _).setCell (p := ⟨w.heap.size, 3, none⟩) (Nat.le_refl _) _)
end Go.Proofs.Ytjiphmeoofeepaa
