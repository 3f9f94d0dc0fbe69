/- The walk of the document's SameOne, all cases. -/
import Derived.Test.YtjiphmeoofeepaaRa
namespace Go.Proofs.Ytjiphmeoofeepaa
open Go.RowKit
open Sk (Ent)

set_option maxHeartbeats 1000000 in
set_option maxRecDepth 100000 in
theorem sameOne_any (x y : EV) (w : World) (hx : entKind.held w x) (hy : entKind.held w y) :
    Calls Try.prog 24 #[ev x, ev y] w fun e w' => (∃ t : Bool, e = .returned (.bool t) ∧ (t = true ↔ x.e = y.e)) ∧ Below w.heap.size w w' := by
  obtain ⟨xkp, xkc, xvp, xvc, xkey, xseq, xgone, xval⟩ := x
  obtain ⟨ykp, ykc, yvp, yvc, ykey, yseq, ygone, yval⟩ := y
  rw [ent_eq]
  simp only
  have a1 : Src w xkp xkey.length xkc xkey := hx.1
  have a2 : Src w xvp xval.length xvc xval := hx.2
  have b1 : Src w ykp ykey.length ykc ykey := hy.1
  have b2 : Src w yvp yval.length yvc yval := hy.2
  clear hx hy
  unfold ev
  simp only
  obtain ⟨W, hW⟩ : ∃ W, (w.alloc (.cells #[.slice xkp xkey.length xkc, .int .i64 xseq, .bool xgone, .slice xvp xval.length xvc] 28)).alloc (.cells #[.slice ykp ykey.length ykc, .int .i64 yseq, .bool ygone, .slice yvp yval.length yvc] 28) = W := ⟨_, rfl⟩
  have bW : Hid (Below w.heap.size w W) := by rw [← hW]; exact ((Below.refl _ _).alloc (Nat.le_refl _) _).alloc (by simp) _
  have d1 := conv_src (a1.below bW.out)
  have d2 := conv_src (a2.below bW.out)
  have d3 := conv_src (b1.below bW.out)
  have d4 := conv_src (b2.below bW.out)
  have g0 : W.heap[w.heap.size]? = some (.cells #[.slice xkp xkey.length xkc, .int .i64 xseq, .bool xgone, .slice xvp xval.length xvc] 28) := by
    rw [← hW]; exact (Below.heap_alloc _ _ _ (by simp)).trans (heap_alloc_new w _)
  have g1 : W.heap[w.heap.size + 1]? = some (.cells #[.slice ykp ykey.length ykc, .int .i64 yseq, .bool ygone, .slice yvp yval.length yvc] 28) := by
    have := heap_alloc_new (w.alloc (.cells #[.slice xkp xkey.length xkc, .int .i64 xseq, .bool xgone, .slice xvp xval.length xvc] 28)) (.cells #[.slice ykp ykey.length ykc, .int .i64 yseq, .bool ygone, .slice yvp yval.length yvc] 28)
    rw [World.size_alloc] at this
    rw [← hW]; exact this
  have p0 : W.cell? ⟨w.heap.size, 0, none⟩ = some (.slice xkp xkey.length xkc) := cell_of_row _ _ _ _ _ _ g0
  have p1 : W.cell? ⟨w.heap.size, 1, none⟩ = some (.int .i64 xseq) := cell_of_row _ _ _ _ _ _ g0
  have p2 : W.cell? ⟨w.heap.size, 2, none⟩ = some (.bool xgone) := cell_of_row _ _ _ _ _ _ g0
  have p3 : W.cell? ⟨w.heap.size, 3, none⟩ = some (.slice xvp xval.length xvc) := cell_of_row _ _ _ _ _ _ g0
  have r0 : W.cell? ⟨w.heap.size + 1, 0, none⟩ = some (.slice ykp ykey.length ykc) := cell_of_row _ _ _ _ _ _ g1
  have r1 : W.cell? ⟨w.heap.size + 1, 1, none⟩ = some (.int .i64 yseq) := cell_of_row _ _ _ _ _ _ g1
  have r2 : W.cell? ⟨w.heap.size + 1, 2, none⟩ = some (.bool ygone) := cell_of_row _ _ _ _ _ _ g1
  have r3 : W.cell? ⟨w.heap.size + 1, 3, none⟩ = some (.slice yvp yval.length yvc) := cell_of_row _ _ _ _ _ _ g1
  clear a1 a2 b1 b2 g0 g1
  by_cases hk : xkey = ykey
  · by_cases hs : xseq = yseq
    · by_cases hg : xgone = ygone
      · by_cases hv : xval = yval
        · have HA : Hid (xkey = ykey ∧ xseq = yseq ∧ xgone = ygone ∧ xval = yval) := ⟨hk, hs, hg, hv⟩
          have f1 : (xkey == ykey) = true := by simpa using hk
          have f2 : (xseq == yseq) = true := by simpa using hs
          have f3 : (xgone == ygone) = true := by simpa using hg
          have f4 : (xval == yval) = true := by simpa using hv
          clear hk hs hg hv
          go_enter Try.func24, Try.ntmps24
          go_wp2
          go_ret
          exact ⟨⟨true, rfl, ⟨fun _ => HA.out, fun _ => rfl⟩⟩, bW.out⟩
        · have HA := keep hv
          have f1 : (xkey == ykey) = true := by simpa using hk
          have f2 : (xseq == yseq) = true := by simpa using hs
          have f3 : (xgone == ygone) = true := by simpa using hg
          have f4 : (xval == yval) = false := by simpa using hv
          clear hk hs hg hv
          go_enter Try.func24, Try.ntmps24
          go_wp2
          go_ret
          exact ⟨⟨false, rfl, ⟨fun h => (by cases h), fun h => absurd h.2.2.2 HA.out⟩⟩, bW.out⟩
      · have HA := keep hg
        have f1 : (xkey == ykey) = true := by simpa using hk
        have f2 : (xseq == yseq) = true := by simpa using hs
        have f3 : (xgone == ygone) = false := by simpa using hg
        clear hk hs hg
        go_enter Try.func24, Try.ntmps24
        go_wp2
        go_ret
        exact ⟨⟨false, rfl, ⟨fun h => (by cases h), fun h => absurd h.2.2.1 HA.out⟩⟩, bW.out⟩
    · have HA := keep hs
      have f1 : (xkey == ykey) = true := by simpa using hk
      have f2 : (xseq == yseq) = false := by simpa using hs
      clear hk hs
      go_enter Try.func24, Try.ntmps24
      go_wp2
      go_ret
      exact ⟨⟨false, rfl, ⟨fun h => (by cases h), fun h => absurd h.2.1 HA.out⟩⟩, bW.out⟩
  · have HA := keep hk
    have f1 : (xkey == ykey) = false := by simpa using hk
    clear hk
    go_enter Try.func24, Try.ntmps24
    go_wp2
    go_ret
    exact ⟨⟨false, rfl, ⟨fun h => (by cases h), fun h => absurd h.1 HA.out⟩⟩, bW.out⟩
end Go.Proofs.Ytjiphmeoofeepaa
