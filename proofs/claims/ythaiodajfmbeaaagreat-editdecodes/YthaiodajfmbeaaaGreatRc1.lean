/- The walks of the document's in, right, ahead. -/
import Derived.Test.YthaiodajfmbeaaaGreatJoinH6
import Derived.Test.YthaiodajfmbeaaaGreatRl
import Derived.Test.YthaiodajfmbeaaaGreatRc0
namespace Go.Proofs.YthaiodajfmbeaaaGreat
open Go.RowKit
open Ed (Nt)

set_option maxHeartbeats 1000000 in
theorem rin_any (n : Int) (w : World) : Calls Tryz.prog 59 #[.int .i64 n] w fun e w' => e = .returned (.bool (Ed.isNum n)) ∧ w' = w := by
  by_cases h0 : 0 ≤ n
  · have d0 : decide (0 ≤ n) = true := decide_eq_true h0
    go_enter Tryz.func59, Tryz.ntmps59
    go_wp2
    go_ret
    exact ⟨by unfold Ed.isNum; rw [d0]; rfl, rfl⟩
  · have d0 : decide (0 ≤ n) = false := decide_eq_false h0
    go_enter Tryz.func59, Tryz.ntmps59
    go_wp2
    go_ret
    exact ⟨by unfold Ed.isNum; rw [d0]; rfl, rfl⟩
set_option maxHeartbeats 8000000 in
set_option maxRecDepth 100000 in
theorem right_any (x : MV) (w : World) (hx : metaKind.held w x) :
    Calls Tryz.prog 60 #[mv x] w fun e w' => e = .returned (.bool (Ed.mayBe x.m)) ∧ Below w.heap.size w w' := by
  obtain ⟨xfp, xfc, xlp, xlc, ⟨xnum, xlevel, xcount, xfirst, xlast⟩⟩ := x
  have XF : Hid (Src w xfp xfirst.length xfc xfirst) := hx.1
  have XL : Hid (Src w xlp xlast.length xlc xlast) := hx.2
  clear hx
  unfold mv
  simp only
  obtain ⟨W1, hW1⟩ : ∃ Wn, w.alloc (.cells #[.int .i64 xnum, .int .i64 xlevel, .int .i64 xcount, .slice xfp xfirst.length xfc, .slice xlp xlast.length xlc] 53) = Wn := ⟨_, rfl⟩
  have bW1 : Hid (Below w.heap.size w W1) := by rw [← hW1]; exact (Below.refl _ _).alloc (Nat.le_refl _) _
  have gW1 : Hid (W1.heap[w.heap.size]? = some (.cells #[.int .i64 xnum, .int .i64 xlevel, .int .i64 xcount, .slice xfp xfirst.length xfc, .slice xlp xlast.length xlc] 53)) := by rw [← hW1]; exact heap_alloc_new w _
  have x0 : W1.cell? ⟨w.heap.size, 0, none⟩ = some (.int .i64 xnum) := cell_of_row _ _ _ _ _ _ gW1.out
  have x1 : W1.cell? ⟨w.heap.size, 1, none⟩ = some (.int .i64 xlevel) := cell_of_row _ _ _ _ _ _ gW1.out
  have x2 : W1.cell? ⟨w.heap.size, 2, none⟩ = some (.int .i64 xcount) := cell_of_row _ _ _ _ _ _ gW1.out
  have x3 : W1.cell? ⟨w.heap.size, 3, none⟩ = some (.slice xfp xfirst.length xfc) := cell_of_row _ _ _ _ _ _ gW1.out
  have x4 : W1.cell? ⟨w.heap.size, 4, none⟩ = some (.slice xlp xlast.length xlc) := cell_of_row _ _ _ _ _ _ gW1.out
  have N1 := keep (rin_any xnum W1)
  obtain ⟨FN, hFN⟩ : ∃ FN, xfirst.length = FN := ⟨_, rfl⟩
  obtain ⟨LN, hLN⟩ : ∃ LN, xlast.length = LN := ⟨_, rfl⟩
  have EQ : Hid (Ed.mayBe ⟨xnum, xlevel, xcount, xfirst, xlast⟩ = (Ed.isNum xnum && decide (0 ≤ xlevel) && decide (xlevel ≤ 3) && decide (1 ≤ xcount) && decide (xcount ≤ 64) && decide (1 ≤ FN) && decide (FN ≤ 64) && decide (1 ≤ LN) && decide (LN ≤ 64) && !less xlast xfirst)) := by
    show _ = _
    rw [← hFN, ← hLN]
    unfold Ed.mayBe Ed.isKey
    simp only [Bool.and_assoc]
  have L1 : Hid (FN ≤ 64 → LN ≤ 64 → Calls Tryz.prog 62 #[.slice xlp LN xlc, .slice xfp FN xfc] W1 fun e w' => e = .returned (.bool (less xlast xfirst)) ∧ Below W1.heap.size W1 w') := fun h1 h2 => refLess_any xlp LN xlc xlast xfp FN xfc xfirst W1 (by omega) (by omega) (by rw [← hLN]; exact XL.out.below bW1.out) (by rw [← hFN]; exact XF.out.below bW1.out)
  rw [hFN] at x3 hW1 ⊢
  rw [hLN] at x4 hW1 ⊢
  obtain ⟨q1, hq1⟩ : ∃ q, Ed.isNum xnum = q := ⟨_, rfl⟩
  rw [hq1] at N1 EQ
  obtain ⟨q9, hq9⟩ : ∃ q, less xlast xfirst = q := ⟨_, rfl⟩
  rw [hq9] at L1 EQ
  rw [EQ.out]
  clear hq1 hq9 EQ hFN hLN gW1
  cases q1 with
  | false =>
    simp only [Bool.false_and]
    go_enter Tryz.func60, Tryz.ntmps60
    go_wp2_with fail
    refine N1.out.mono ?_
    rintro e w1 ⟨rfl, rfl⟩
    go_wp2
    go_ret
    exact ⟨by first | rfl | simp, bW1.out⟩
  | true =>
    by_cases h1 : 0 ≤ xlevel
    · have d1 : decide (0 ≤ xlevel) = true := decide_eq_true h1
      rw [d1]
      by_cases h2 : xlevel ≤ 3
      · have d2 : decide (xlevel ≤ 3) = true := decide_eq_true h2
        rw [d2]
        by_cases h3 : 1 ≤ xcount
        · have d3 : decide (1 ≤ xcount) = true := decide_eq_true h3
          rw [d3]
          by_cases h4 : xcount ≤ 64
          · have d4 : decide (xcount ≤ 64) = true := decide_eq_true h4
            rw [d4]
            by_cases h5 : 1 ≤ FN
            · have d5 : decide (1 ≤ FN) = true := decide_eq_true h5
              rw [d5]
              have i5 : (1 : Int) ≤ (FN : Int) := by omega
              by_cases h6 : FN ≤ 64
              · have d6 : decide (FN ≤ 64) = true := decide_eq_true h6
                rw [d6]
                have i6 : (FN : Int) ≤ 64 := by omega
                by_cases h7 : 1 ≤ LN
                · have d7 : decide (1 ≤ LN) = true := decide_eq_true h7
                  rw [d7]
                  have i7 : (1 : Int) ≤ (LN : Int) := by omega
                  by_cases h8 : LN ≤ 64
                  · have d8 : decide (LN ≤ 64) = true := decide_eq_true h8
                    rw [d8]
                    have i8 : (LN : Int) ≤ 64 := by omega
                    go_enter Tryz.func60, Tryz.ntmps60
                    go_wp2_with fail
                    refine N1.out.mono ?_
                    rintro e w1 ⟨rfl, rfl⟩
                    go_wp2_with fail
                    refine (L1.out h6 h8).mono ?_
                    rintro e w2 ⟨rfl, hb2⟩
                    have B2 := keep (bW1.out.trans (hb2.mono bW1.out.size))
                    clear hb2
                    go_wp2
                    go_ret
                    exact ⟨by simp, B2.out⟩
                  · have d8 : decide (LN ≤ 64) = false := decide_eq_false h8
                    rw [d8]
                    have i8 : ¬ (LN : Int) ≤ 64 := by omega
                    simp only [Bool.false_and, Bool.and_false]
                    go_enter Tryz.func60, Tryz.ntmps60
                    go_wp2_with fail
                    refine N1.out.mono ?_
                    rintro e w1 ⟨rfl, rfl⟩
                    go_wp2
                    go_ret
                    exact ⟨by first | rfl | simp, bW1.out⟩
                · have d7 : decide (1 ≤ LN) = false := decide_eq_false h7
                  rw [d7]
                  have i7 : ¬ (1 : Int) ≤ (LN : Int) := by omega
                  simp only [Bool.false_and, Bool.and_false]
                  go_enter Tryz.func60, Tryz.ntmps60
                  go_wp2_with fail
                  refine N1.out.mono ?_
                  rintro e w1 ⟨rfl, rfl⟩
                  go_wp2
                  go_ret
                  exact ⟨by first | rfl | simp, bW1.out⟩
              · have d6 : decide (FN ≤ 64) = false := decide_eq_false h6
                rw [d6]
                have i6 : ¬ (FN : Int) ≤ 64 := by omega
                simp only [Bool.false_and, Bool.and_false]
                go_enter Tryz.func60, Tryz.ntmps60
                go_wp2_with fail
                refine N1.out.mono ?_
                rintro e w1 ⟨rfl, rfl⟩
                go_wp2
                go_ret
                exact ⟨by first | rfl | simp, bW1.out⟩
            · have d5 : decide (1 ≤ FN) = false := decide_eq_false h5
              rw [d5]
              have i5 : ¬ (1 : Int) ≤ (FN : Int) := by omega
              simp only [Bool.false_and, Bool.and_false]
              go_enter Tryz.func60, Tryz.ntmps60
              go_wp2_with fail
              refine N1.out.mono ?_
              rintro e w1 ⟨rfl, rfl⟩
              go_wp2
              go_ret
              exact ⟨by first | rfl | simp, bW1.out⟩
          · have d4 : decide (xcount ≤ 64) = false := decide_eq_false h4
            rw [d4]
            simp only [Bool.false_and, Bool.and_false]
            go_enter Tryz.func60, Tryz.ntmps60
            go_wp2_with fail
            refine N1.out.mono ?_
            rintro e w1 ⟨rfl, rfl⟩
            go_wp2
            go_ret
            exact ⟨by first | rfl | simp, bW1.out⟩
        · have d3 : decide (1 ≤ xcount) = false := decide_eq_false h3
          rw [d3]
          simp only [Bool.false_and, Bool.and_false]
          go_enter Tryz.func60, Tryz.ntmps60
          go_wp2_with fail
          refine N1.out.mono ?_
          rintro e w1 ⟨rfl, rfl⟩
          go_wp2
          go_ret
          exact ⟨by first | rfl | simp, bW1.out⟩
      · have d2 : decide (xlevel ≤ 3) = false := decide_eq_false h2
        rw [d2]
        simp only [Bool.false_and, Bool.and_false]
        go_enter Tryz.func60, Tryz.ntmps60
        go_wp2_with fail
        refine N1.out.mono ?_
        rintro e w1 ⟨rfl, rfl⟩
        go_wp2
        go_ret
        exact ⟨by first | rfl | simp, bW1.out⟩
    · have d1 : decide (0 ≤ xlevel) = false := decide_eq_false h1
      rw [d1]
      simp only [Bool.false_and, Bool.and_false]
      go_enter Tryz.func60, Tryz.ntmps60
      go_wp2_with fail
      refine N1.out.mono ?_
      rintro e w1 ⟨rfl, rfl⟩
      go_wp2
      go_ret
      exact ⟨by first | rfl | simp, bW1.out⟩
set_option maxHeartbeats 2000000 in
set_option maxRecDepth 100000 in
theorem rahead_any (x y : MV) (w : World) (hx : metaKind.held w x) (hy : metaKind.held w y) (kx : x.m.first.length ≤ 140737488355328) (ky : y.m.first.length ≤ 140737488355328) :
    Calls Tryz.prog 61 #[mv x, mv y] w fun e w' => e = .returned (.bool (Ed.rahead x.m y.m)) ∧ Below w.heap.size w w' := by
  obtain ⟨xfp, xfc, xlp, xlc, ⟨xnum, xlevel, xcount, xfirst, xlast⟩⟩ := x
  obtain ⟨yfp, yfc, ylp, ylc, ⟨ynum, ylevel, ycount, yfirst, ylast⟩⟩ := y
  have XF : Hid (Src w xfp xfirst.length xfc xfirst) := hx.1
  have XL : Hid (Src w xlp xlast.length xlc xlast) := hx.2
  have YF : Hid (Src w yfp yfirst.length yfc yfirst) := hy.1
  have YL : Hid (Src w ylp ylast.length ylc ylast) := hy.2
  clear hx hy
  unfold mv
  simp only
  obtain ⟨W1, hW1⟩ : ∃ Wn, w.alloc (.cells #[.int .i64 xnum, .int .i64 xlevel, .int .i64 xcount, .slice xfp xfirst.length xfc, .slice xlp xlast.length xlc] 53) = Wn := ⟨_, rfl⟩
  have bW1 : Hid (Below w.heap.size w W1) := by rw [← hW1]; exact (Below.refl _ _).alloc (Nat.le_refl _) _
  have gW1 : Hid (W1.heap[w.heap.size]? = some (.cells #[.int .i64 xnum, .int .i64 xlevel, .int .i64 xcount, .slice xfp xfirst.length xfc, .slice xlp xlast.length xlc] 53)) := by rw [← hW1]; exact heap_alloc_new w _
  obtain ⟨W2, hW2⟩ : ∃ Wn, W1.alloc (.cells #[.int .i64 ynum, .int .i64 ylevel, .int .i64 ycount, .slice yfp yfirst.length yfc, .slice ylp ylast.length ylc] 53) = Wn := ⟨_, rfl⟩
  have bW2 : Hid (Below W1.heap.size W1 W2) := by rw [← hW2]; exact (Below.refl _ _).alloc (Nat.le_refl _) _
  have gW2 : Hid (W2.heap[W1.heap.size]? = some (.cells #[.int .i64 ynum, .int .i64 ylevel, .int .i64 ycount, .slice yfp yfirst.length yfc, .slice ylp ylast.length ylc] 53)) := by rw [← hW2]; exact heap_alloc_new W1 _
  have BW := keep (bW1.out.trans (bW2.out.mono bW1.out.size))
  have G1 : Hid (W2.heap[w.heap.size]? = _) := (bW2.out.block _ (Array.getElem?_eq_some_iff.1 gW1.out).1).trans gW1.out
  have x0 : W2.cell? ⟨w.heap.size, 0, none⟩ = some (.int .i64 xnum) := cell_of_row _ _ _ _ _ _ G1.out
  have x1 : W2.cell? ⟨w.heap.size, 1, none⟩ = some (.int .i64 xlevel) := cell_of_row _ _ _ _ _ _ G1.out
  have x2 : W2.cell? ⟨w.heap.size, 2, none⟩ = some (.int .i64 xcount) := cell_of_row _ _ _ _ _ _ G1.out
  have x3 : W2.cell? ⟨w.heap.size, 3, none⟩ = some (.slice xfp xfirst.length xfc) := cell_of_row _ _ _ _ _ _ G1.out
  have x4 : W2.cell? ⟨w.heap.size, 4, none⟩ = some (.slice xlp xlast.length xlc) := cell_of_row _ _ _ _ _ _ G1.out
  have y0 : W2.cell? ⟨W1.heap.size, 0, none⟩ = some (.int .i64 ynum) := cell_of_row _ _ _ _ _ _ gW2.out
  have y1 : W2.cell? ⟨W1.heap.size, 1, none⟩ = some (.int .i64 ylevel) := cell_of_row _ _ _ _ _ _ gW2.out
  have y2 : W2.cell? ⟨W1.heap.size, 2, none⟩ = some (.int .i64 ycount) := cell_of_row _ _ _ _ _ _ gW2.out
  have y3 : W2.cell? ⟨W1.heap.size, 3, none⟩ = some (.slice yfp yfirst.length yfc) := cell_of_row _ _ _ _ _ _ gW2.out
  have y4 : W2.cell? ⟨W1.heap.size, 4, none⟩ = some (.slice ylp ylast.length ylc) := cell_of_row _ _ _ _ _ _ gW2.out
  have L1 := keep (refLess_any xfp xfirst.length xfc xfirst yfp yfirst.length yfc yfirst W2 kx ky (XF.out.below BW.out) (YF.out.below BW.out))
  clear kx ky
  by_cases h1 : xlevel = ylevel
  · subst h1
    by_cases h2 : xlevel = 0
    · have e : Ed.rahead ⟨xnum, xlevel, xcount, xfirst, xlast⟩ ⟨ynum, xlevel, ycount, yfirst, ylast⟩ = decide (ynum < xnum) := by simp [Ed.rahead, h2]
      rw [e]
      clear e
      subst h2
      go_enter Tryz.func61, Tryz.ntmps61
      go_wp2
      go_ret
      exact ⟨rfl, BW.out⟩
    · have h2b : (xlevel == 0) = false := by simp [h2]
      have e : Ed.rahead ⟨xnum, xlevel, xcount, xfirst, xlast⟩ ⟨ynum, xlevel, ycount, yfirst, ylast⟩ = less xfirst yfirst := by simp [Ed.rahead, h2]
      rw [e]
      clear e
      go_enter Tryz.func61, Tryz.ntmps61
      go_wp2_with fail
      refine L1.out.mono ?_
      rintro e w1 ⟨rfl, hb1⟩
      have B1 := keep (BW.out.trans (hb1.mono BW.out.size))
      clear hb1
      go_wp2
      go_ret
      exact ⟨rfl, B1.out⟩
  · have e : Ed.rahead ⟨xnum, xlevel, xcount, xfirst, xlast⟩ ⟨ynum, ylevel, ycount, yfirst, ylast⟩ = decide (xlevel < ylevel) := by simp [Ed.rahead, h1]
    rw [e]
    have h1b : (xlevel == ylevel) = false := by simp [h1]
    clear e
    go_enter Tryz.func61, Tryz.ntmps61
    go_wp2
    go_ret
    exact ⟨rfl, BW.out⟩
end Go.Proofs.YthaiodajfmbeaaaGreat
