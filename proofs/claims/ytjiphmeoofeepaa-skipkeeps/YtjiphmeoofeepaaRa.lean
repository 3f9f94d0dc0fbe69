/- The walk of the document's SameOne. -/
import Derived.Test.YtjiphmeoofeepaaSb
namespace Go.Proofs.Ytjiphmeoofeepaa
open Go.RowKit
open Sk (Ent)

theorem ent_eq {a b : Ent} : a = b ↔ a.key = b.key ∧ a.seq = b.seq ∧ a.gone = b.gone ∧ a.val = b.val := by
  obtain ⟨k1, s1, g1, v1⟩ := a
  obtain ⟨k2, s2, g2, v2⟩ := b
  simp
set_option maxHeartbeats 1000000 in
set_option maxRecDepth 100000 in
theorem sameOne_yes (x y : EV) (w : World) (hx : entKind.held w x) (hy : entKind.held w y) (h : x.e = y.e) :
    Calls Try.prog 24 #[ev x, ev y] w fun e w' => e = .returned (.bool true) ∧ Below w.heap.size w w' := by
  obtain ⟨xkp, xkc, xvp, xvc, xkey, xseq, xgone, xval⟩ := x
  obtain ⟨ykp, ykc, yvp, yvc, e2⟩ := y
  simp only at h
  subst h
  have a1 : Src w xkp xkey.length xkc xkey := hx.1
  have a2 : Src w xvp xval.length xvc xval := hx.2
  have b1 : Src w ykp xkey.length ykc xkey := hy.1
  have b2 : Src w yvp xval.length yvc xval := hy.2
  clear hx hy
  unfold ev
  simp only
  obtain ⟨W, hW⟩ : ∃ W, (w.alloc (.cells #[.slice xkp xkey.length xkc, .int .i64 xseq, .bool xgone, .slice xvp xval.length xvc] 28)).alloc (.cells #[.slice ykp xkey.length ykc, .int .i64 xseq, .bool xgone, .slice yvp xval.length yvc] 28) = W := ⟨_, rfl⟩
  have bW : Hid (Below w.heap.size w W) := by rw [← hW]; exact ((Below.refl _ _).alloc (Nat.le_refl _) _).alloc (by simp) _
  have d1 := conv_src (a1.below bW.out)
  have d2 := conv_src (a2.below bW.out)
  have d3 := conv_src (b1.below bW.out)
  have d4 := conv_src (b2.below bW.out)
  have g0 : W.heap[w.heap.size]? = some (.cells #[.slice xkp xkey.length xkc, .int .i64 xseq, .bool xgone, .slice xvp xval.length xvc] 28) := by
    rw [← hW]; exact (Below.heap_alloc _ _ _ (by simp)).trans (heap_alloc_new w _)
  have g1 : W.heap[w.heap.size + 1]? = some (.cells #[.slice ykp xkey.length ykc, .int .i64 xseq, .bool xgone, .slice yvp xval.length yvc] 28) := by
    have := heap_alloc_new (w.alloc (.cells #[.slice xkp xkey.length xkc, .int .i64 xseq, .bool xgone, .slice xvp xval.length xvc] 28)) (.cells #[.slice ykp xkey.length ykc, .int .i64 xseq, .bool xgone, .slice yvp xval.length yvc] 28)
    rw [World.size_alloc] at this
    rw [← hW]; exact this
  have p0 : W.cell? ⟨w.heap.size, 0, none⟩ = some (.slice xkp xkey.length xkc) := cell_of_row _ _ _ _ _ _ g0
  have p1 : W.cell? ⟨w.heap.size, 1, none⟩ = some (.int .i64 xseq) := cell_of_row _ _ _ _ _ _ g0
  have p2 : W.cell? ⟨w.heap.size, 2, none⟩ = some (.bool xgone) := cell_of_row _ _ _ _ _ _ g0
  have p3 : W.cell? ⟨w.heap.size, 3, none⟩ = some (.slice xvp xval.length xvc) := cell_of_row _ _ _ _ _ _ g0
  have r0 : W.cell? ⟨w.heap.size + 1, 0, none⟩ = some (.slice ykp xkey.length ykc) := cell_of_row _ _ _ _ _ _ g1
  have r1 : W.cell? ⟨w.heap.size + 1, 1, none⟩ = some (.int .i64 xseq) := cell_of_row _ _ _ _ _ _ g1
  have r2 : W.cell? ⟨w.heap.size + 1, 2, none⟩ = some (.bool xgone) := cell_of_row _ _ _ _ _ _ g1
  have r3 : W.cell? ⟨w.heap.size + 1, 3, none⟩ = some (.slice yvp xval.length yvc) := cell_of_row _ _ _ _ _ _ g1
  clear a1 a2 b1 b2 g0 g1
  go_enter Try.func24, Try.ntmps24
  go_wp2
  go_ret
  exact ⟨rfl, bW.out⟩
end Go.Proofs.Ytjiphmeoofeepaa
