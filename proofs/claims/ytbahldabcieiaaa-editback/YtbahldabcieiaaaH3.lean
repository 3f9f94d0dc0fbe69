/- The walks of a note's order and meets. -/
import Derived.Test.YtbahldabcieiaaaH2
namespace Go.Proofs.Ytbahldabcieiaaa
open Go.RowKit
open Ed (Nt)

set_option maxHeartbeats 2000000 in
set_option maxRecDepth 100000 in
theorem order_any (x y : MV) (w : World) (hx : metaKind.held w x) (hy : metaKind.held w y) :
    Calls Try.prog 25 #[mv x, mv y] w fun e w' => e = .returned (.int .i64 (Ed.order x.m y.m)) ∧ Below w.heap.size w w' := by
  obtain ⟨xfp, xfc, xlp, xlc, ⟨xnum, xlevel, xcount, xfirst, xlast⟩⟩ := x
  obtain ⟨yfp, yfc, ylp, ylc, ⟨ynum, ylevel, ycount, yfirst, ylast⟩⟩ := y
  have XF : Hid (Src w xfp xfirst.length xfc xfirst) := hx.1
  have XL : Hid (Src w xlp xlast.length xlc xlast) := hx.2
  have YF : Hid (Src w yfp yfirst.length yfc yfirst) := hy.1
  have YL : Hid (Src w ylp ylast.length ylc ylast) := hy.2
  clear hx hy
  unfold mv
  simp only
  obtain ⟨W1, hW1⟩ : ∃ Wn, w.alloc (.cells #[.int .i64 xnum, .int .i64 xlevel, .int .i64 xcount, .slice xfp xfirst.length xfc, .slice xlp xlast.length xlc] 52) = Wn := ⟨_, rfl⟩
  have bW1 : Hid (Below w.heap.size w W1) := by rw [← hW1]; exact (Below.refl _ _).alloc (Nat.le_refl _) _
  have gW1 : Hid (W1.heap[w.heap.size]? = some (.cells #[.int .i64 xnum, .int .i64 xlevel, .int .i64 xcount, .slice xfp xfirst.length xfc, .slice xlp xlast.length xlc] 52)) := by rw [← hW1]; exact heap_alloc_new w _
  obtain ⟨W2, hW2⟩ : ∃ Wn, W1.alloc (.cells #[.int .i64 ynum, .int .i64 ylevel, .int .i64 ycount, .slice yfp yfirst.length yfc, .slice ylp ylast.length ylc] 52) = Wn := ⟨_, rfl⟩
  have bW2 : Hid (Below W1.heap.size W1 W2) := by rw [← hW2]; exact (Below.refl _ _).alloc (Nat.le_refl _) _
  have gW2 : Hid (W2.heap[W1.heap.size]? = some (.cells #[.int .i64 ynum, .int .i64 ylevel, .int .i64 ycount, .slice yfp yfirst.length yfc, .slice ylp ylast.length ylc] 52)) := by rw [← hW2]; exact heap_alloc_new W1 _
  have BW := keep (bW1.out.trans (bW2.out.mono bW1.out.size))
  have G1 : Hid (W2.heap[w.heap.size]? = _) := (bW2.out.block _ (Array.getElem?_eq_some_iff.1 gW1.out).1).trans gW1.out
  have x0 : W2.cell? ⟨w.heap.size, 0, none⟩ = some (.int .i64 xnum) := cell_of_row _ _ _ _ _ _ G1.out
  have x1 : W2.cell? ⟨w.heap.size, 1, none⟩ = some (.int .i64 xlevel) := cell_of_row _ _ _ _ _ _ G1.out
  have x2 : W2.cell? ⟨w.heap.size, 2, none⟩ = some (.int .i64 xcount) := cell_of_row _ _ _ _ _ _ G1.out
  have x3 : W2.cell? ⟨w.heap.size, 3, none⟩ = some (.slice xfp xfirst.length xfc) := cell_of_row _ _ _ _ _ _ G1.out
  have x4 : W2.cell? ⟨w.heap.size, 4, none⟩ = some (.slice xlp xlast.length xlc) := cell_of_row _ _ _ _ _ _ G1.out
  have y0 : W2.cell? ⟨W1.heap.size, 0, none⟩ = some (.int .i64 ynum) := cell_of_row _ _ _ _ _ _ gW2.out
  have y1 : W2.cell? ⟨W1.heap.size, 1, none⟩ = some (.int .i64 ylevel) := cell_of_row _ _ _ _ _ _ gW2.out
  have y2 : W2.cell? ⟨W1.heap.size, 2, none⟩ = some (.int .i64 ycount) := cell_of_row _ _ _ _ _ _ gW2.out
  have y3 : W2.cell? ⟨W1.heap.size, 3, none⟩ = some (.slice yfp yfirst.length yfc) := cell_of_row _ _ _ _ _ _ gW2.out
  have y4 : W2.cell? ⟨W1.heap.size, 4, none⟩ = some (.slice ylp ylast.length ylc) := cell_of_row _ _ _ _ _ _ gW2.out
  have C1 := keep (compare_int xlevel ylevel W2)
  have C2 := keep (compare_int ynum xnum W2)
  have L1 := keep (less_any xfp xfirst.length xfc xfirst yfp yfirst.length yfc yfirst W2 (XF.out.below BW.out) (YF.out.below BW.out))
  have L2 := keep (less_any yfp yfirst.length yfc yfirst xfp xfirst.length xfc xfirst W2 (YF.out.below BW.out) (XF.out.below BW.out))
  by_cases h1 : xlevel = ylevel
  · subst h1
    by_cases h2 : xlevel = 0
    · have e : Ed.order ⟨xnum, xlevel, xcount, xfirst, xlast⟩ ⟨ynum, xlevel, ycount, yfirst, ylast⟩ = Ed.cmpI ynum xnum := by simp [Ed.order, h2]
      rw [e]
      clear e
      subst h2
      go_enter Try.func25, Try.ntmps25
      go_wp2_with fail
      refine C2.out.mono ?_
      rintro e w1 ⟨rfl, rfl⟩
      go_wp2
      go_ret
      exact ⟨rfl, BW.out⟩
    · have h2b : (xlevel == 0) = false := by simp [h2]
      cases h3 : less xfirst yfirst with
      | true =>
        have e : Ed.order ⟨xnum, xlevel, xcount, xfirst, xlast⟩ ⟨ynum, xlevel, ycount, yfirst, ylast⟩ = -1 := by simp [Ed.order, h2, h3]
        rw [e]
        rw [h3] at L1
        clear e h3
        go_enter Try.func25, Try.ntmps25
        go_wp2_with fail
        refine L1.out.mono ?_
        rintro e w1 ⟨rfl, rfl⟩
        go_wp2
        go_ret
        exact ⟨rfl, BW.out⟩
      | false =>
        rw [h3] at L1
        cases h4 : less yfirst xfirst with
        | true =>
          have e : Ed.order ⟨xnum, xlevel, xcount, xfirst, xlast⟩ ⟨ynum, xlevel, ycount, yfirst, ylast⟩ = 1 := by simp [Ed.order, h2, h3, h4]
          rw [e]
          rw [h4] at L2
          clear e h3 h4
          go_enter Try.func25, Try.ntmps25
          go_wp2_with fail
          refine L1.out.mono ?_
          rintro e w1 ⟨rfl, rfl⟩
          go_wp2_with fail
          refine L2.out.mono ?_
          rintro e w1 ⟨rfl, rfl⟩
          go_wp2
          go_ret
          exact ⟨rfl, BW.out⟩
        | false =>
          have e : Ed.order ⟨xnum, xlevel, xcount, xfirst, xlast⟩ ⟨ynum, xlevel, ycount, yfirst, ylast⟩ = 0 := by simp [Ed.order, h2, h3, h4]
          rw [e]
          rw [h4] at L2
          clear e h3 h4
          go_enter Try.func25, Try.ntmps25
          go_wp2_with fail
          refine L1.out.mono ?_
          rintro e w1 ⟨rfl, rfl⟩
          go_wp2_with fail
          refine L2.out.mono ?_
          rintro e w1 ⟨rfl, rfl⟩
          go_wp2
          go_ret
          exact ⟨rfl, BW.out⟩
  · have e : Ed.order ⟨xnum, xlevel, xcount, xfirst, xlast⟩ ⟨ynum, ylevel, ycount, yfirst, ylast⟩ = Ed.cmpI xlevel ylevel := by simp [Ed.order, h1]
    rw [e]
    have h1b : (xlevel == ylevel) = false := by simp [h1]
    clear e
    go_enter Try.func25, Try.ntmps25
    go_wp2_with fail
    refine C1.out.mono ?_
    rintro e w1 ⟨rfl, rfl⟩
    go_wp2
    go_ret
    exact ⟨rfl, BW.out⟩
set_option maxHeartbeats 2000000 in
set_option maxRecDepth 100000 in
theorem meets_any (x y : MV) (w : World) (hx : metaKind.held w x) (hy : metaKind.held w y) :
    Calls Try.prog 61 #[mv x, mv y] w fun e w' => e = .returned (.bool (Ed.meets x.m y.m)) ∧ Below w.heap.size w w' := by
  obtain ⟨xfp, xfc, xlp, xlc, ⟨xnum, xlevel, xcount, xfirst, xlast⟩⟩ := x
  obtain ⟨yfp, yfc, ylp, ylc, ⟨ynum, ylevel, ycount, yfirst, ylast⟩⟩ := y
  have XF : Hid (Src w xfp xfirst.length xfc xfirst) := hx.1
  have XL : Hid (Src w xlp xlast.length xlc xlast) := hx.2
  have YF : Hid (Src w yfp yfirst.length yfc yfirst) := hy.1
  have YL : Hid (Src w ylp ylast.length ylc ylast) := hy.2
  clear hx hy
  unfold mv
  simp only
  obtain ⟨W1, hW1⟩ : ∃ Wn, w.alloc (.cells #[.int .i64 xnum, .int .i64 xlevel, .int .i64 xcount, .slice xfp xfirst.length xfc, .slice xlp xlast.length xlc] 52) = Wn := ⟨_, rfl⟩
  have bW1 : Hid (Below w.heap.size w W1) := by rw [← hW1]; exact (Below.refl _ _).alloc (Nat.le_refl _) _
  have gW1 : Hid (W1.heap[w.heap.size]? = some (.cells #[.int .i64 xnum, .int .i64 xlevel, .int .i64 xcount, .slice xfp xfirst.length xfc, .slice xlp xlast.length xlc] 52)) := by rw [← hW1]; exact heap_alloc_new w _
  obtain ⟨W2, hW2⟩ : ∃ Wn, W1.alloc (.cells #[.int .i64 ynum, .int .i64 ylevel, .int .i64 ycount, .slice yfp yfirst.length yfc, .slice ylp ylast.length ylc] 52) = Wn := ⟨_, rfl⟩
  have bW2 : Hid (Below W1.heap.size W1 W2) := by rw [← hW2]; exact (Below.refl _ _).alloc (Nat.le_refl _) _
  have gW2 : Hid (W2.heap[W1.heap.size]? = some (.cells #[.int .i64 ynum, .int .i64 ylevel, .int .i64 ycount, .slice yfp yfirst.length yfc, .slice ylp ylast.length ylc] 52)) := by rw [← hW2]; exact heap_alloc_new W1 _
  have BW := keep (bW1.out.trans (bW2.out.mono bW1.out.size))
  have G1 : Hid (W2.heap[w.heap.size]? = _) := (bW2.out.block _ (Array.getElem?_eq_some_iff.1 gW1.out).1).trans gW1.out
  have x0 : W2.cell? ⟨w.heap.size, 0, none⟩ = some (.int .i64 xnum) := cell_of_row _ _ _ _ _ _ G1.out
  have x1 : W2.cell? ⟨w.heap.size, 1, none⟩ = some (.int .i64 xlevel) := cell_of_row _ _ _ _ _ _ G1.out
  have x2 : W2.cell? ⟨w.heap.size, 2, none⟩ = some (.int .i64 xcount) := cell_of_row _ _ _ _ _ _ G1.out
  have x3 : W2.cell? ⟨w.heap.size, 3, none⟩ = some (.slice xfp xfirst.length xfc) := cell_of_row _ _ _ _ _ _ G1.out
  have x4 : W2.cell? ⟨w.heap.size, 4, none⟩ = some (.slice xlp xlast.length xlc) := cell_of_row _ _ _ _ _ _ G1.out
  have y0 : W2.cell? ⟨W1.heap.size, 0, none⟩ = some (.int .i64 ynum) := cell_of_row _ _ _ _ _ _ gW2.out
  have y1 : W2.cell? ⟨W1.heap.size, 1, none⟩ = some (.int .i64 ylevel) := cell_of_row _ _ _ _ _ _ gW2.out
  have y2 : W2.cell? ⟨W1.heap.size, 2, none⟩ = some (.int .i64 ycount) := cell_of_row _ _ _ _ _ _ gW2.out
  have y3 : W2.cell? ⟨W1.heap.size, 3, none⟩ = some (.slice yfp yfirst.length yfc) := cell_of_row _ _ _ _ _ _ gW2.out
  have y4 : W2.cell? ⟨W1.heap.size, 4, none⟩ = some (.slice ylp ylast.length ylc) := cell_of_row _ _ _ _ _ _ gW2.out
  have L1 := keep (less_any xlp xlast.length xlc xlast yfp yfirst.length yfc yfirst W2 (XL.out.below BW.out) (YF.out.below BW.out))
  by_cases h1 : xlevel = ylevel
  · by_cases h2 : 0 < xlevel
    · have e : Ed.meets ⟨xnum, xlevel, xcount, xfirst, xlast⟩ ⟨ynum, ylevel, ycount, yfirst, ylast⟩ = !less xlast yfirst := by simp [Ed.meets, h1, h1 ▸ h2]
      rw [e]
      have h1b : (xlevel == ylevel) = true := by simp [h1]
      have h2b : decide (0 < xlevel) = true := decide_eq_true h2
      subst h1
      clear e
      go_enter Try.func61, Try.ntmps61
      go_wp2_with fail
      refine L1.out.mono ?_
      rintro e w1 ⟨rfl, rfl⟩
      go_wp2
      go_ret
      exact ⟨rfl, BW.out⟩
    · have e : Ed.meets ⟨xnum, xlevel, xcount, xfirst, xlast⟩ ⟨ynum, ylevel, ycount, yfirst, ylast⟩ = false := by unfold Ed.meets; simp only; rw [decide_eq_false h2]; simp
      rw [e]
      have h2b : decide (0 < xlevel) = false := decide_eq_false h2
      subst h1
      clear e
      go_enter Try.func61, Try.ntmps61
      go_wp2
      go_ret
      exact ⟨rfl, BW.out⟩
  · have e : Ed.meets ⟨xnum, xlevel, xcount, xfirst, xlast⟩ ⟨ynum, ylevel, ycount, yfirst, ylast⟩ = false := by unfold Ed.meets; simp only; rw [decide_eq_false h1]; simp
    rw [e]
    have h1b : (xlevel == ylevel) = false := by simp [h1]
    clear e
    go_enter Try.func61, Try.ntmps61
    go_wp2
    go_ret
    exact ⟨rfl, BW.out⟩
end Go.Proofs.Ytbahldabcieiaaa
