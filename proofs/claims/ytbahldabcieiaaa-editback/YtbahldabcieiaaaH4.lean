/- The walks of a note's mayBe and spans. -/
import Derived.Test.YtbahldabcieiaaaH3
namespace Go.Proofs.Ytbahldabcieiaaa
open Go.RowKit
open Ed (Nt)

set_option maxHeartbeats 4000000 in
set_option maxRecDepth 100000 in
theorem mayBe_any (x : MV) (w : World) (hx : metaKind.held w x) :
    Calls Try.prog 60 #[mv x] w fun e w' => e = .returned (.bool (Ed.mayBe x.m)) ∧ Below w.heap.size w w' := by
  obtain ⟨xfp, xfc, xlp, xlc, ⟨xnum, xlevel, xcount, xfirst, xlast⟩⟩ := x
  have XF : Hid (Src w xfp xfirst.length xfc xfirst) := hx.1
  have XL : Hid (Src w xlp xlast.length xlc xlast) := hx.2
  clear hx
  unfold mv
  simp only
  obtain ⟨W1, hW1⟩ : ∃ Wn, w.alloc (.cells #[.int .i64 xnum, .int .i64 xlevel, .int .i64 xcount, .slice xfp xfirst.length xfc, .slice xlp xlast.length xlc] 52) = Wn := ⟨_, rfl⟩
  have bW1 : Hid (Below w.heap.size w W1) := by rw [← hW1]; exact (Below.refl _ _).alloc (Nat.le_refl _) _
  have gW1 : Hid (W1.heap[w.heap.size]? = some (.cells #[.int .i64 xnum, .int .i64 xlevel, .int .i64 xcount, .slice xfp xfirst.length xfc, .slice xlp xlast.length xlc] 52)) := by rw [← hW1]; exact heap_alloc_new w _
  have x0 : W1.cell? ⟨w.heap.size, 0, none⟩ = some (.int .i64 xnum) := cell_of_row _ _ _ _ _ _ gW1.out
  have x1 : W1.cell? ⟨w.heap.size, 1, none⟩ = some (.int .i64 xlevel) := cell_of_row _ _ _ _ _ _ gW1.out
  have x2 : W1.cell? ⟨w.heap.size, 2, none⟩ = some (.int .i64 xcount) := cell_of_row _ _ _ _ _ _ gW1.out
  have x3 : W1.cell? ⟨w.heap.size, 3, none⟩ = some (.slice xfp xfirst.length xfc) := cell_of_row _ _ _ _ _ _ gW1.out
  have x4 : W1.cell? ⟨w.heap.size, 4, none⟩ = some (.slice xlp xlast.length xlc) := cell_of_row _ _ _ _ _ _ gW1.out
  have N1 := keep (isNum_any xnum W1)
  have K1 := keep (isKey_any xfp xfirst.length xfc xfirst W1 (XF.out.below bW1.out))
  have K2 := keep (isKey_any xlp xlast.length xlc xlast W1 (XL.out.below bW1.out))
  have L1 := keep (less_any xlp xlast.length xlc xlast xfp xfirst.length xfc xfirst W1 (XL.out.below bW1.out) (XF.out.below bW1.out))
  have EQ : Hid (Ed.mayBe ⟨xnum, xlevel, xcount, xfirst, xlast⟩ = (Ed.isNum xnum && decide (0 ≤ xlevel) && decide (xlevel ≤ 3) && decide (1 ≤ xcount) && decide (xcount ≤ 64) && Ed.isKey xfirst && Ed.isKey xlast && !less xlast xfirst)) := rfl
  obtain ⟨q1, hq1⟩ : ∃ q, Ed.isNum xnum = q := ⟨_, rfl⟩
  obtain ⟨q6, hq6⟩ : ∃ q, Ed.isKey xfirst = q := ⟨_, rfl⟩
  obtain ⟨q7, hq7⟩ : ∃ q, Ed.isKey xlast = q := ⟨_, rfl⟩
  rw [hq1] at N1 EQ
  rw [hq6] at K1 EQ
  rw [hq7] at K2 EQ
  rw [EQ.out]
  clear hq1 hq6 hq7 EQ
  cases q1 with
  | false =>
    simp only [Bool.false_and]
    go_enter Try.func60, Try.ntmps60
    go_wp2_with fail
    refine N1.out.mono ?_
    rintro e w1 ⟨rfl, rfl⟩
    go_wp2
    go_ret
    exact ⟨by first | rfl | simp, bW1.out⟩
  | true =>
    by_cases h1 : 0 ≤ xlevel
    · have d1 : decide (0 ≤ xlevel) = true := decide_eq_true h1
      rw [d1]
      by_cases h2 : xlevel ≤ 3
      · have d2 : decide (xlevel ≤ 3) = true := decide_eq_true h2
        rw [d2]
        by_cases h3 : 1 ≤ xcount
        · have d3 : decide (1 ≤ xcount) = true := decide_eq_true h3
          rw [d3]
          by_cases h4 : xcount ≤ 64
          · have d4 : decide (xcount ≤ 64) = true := decide_eq_true h4
            rw [d4]
            cases q6 with
            | false =>
              simp only [Bool.false_and, Bool.and_false]
              go_enter Try.func60, Try.ntmps60
              go_wp2_with fail
              refine N1.out.mono ?_
              rintro e w1 ⟨rfl, rfl⟩
              go_wp2_with fail
              refine K1.out.mono ?_
              rintro e w1 ⟨rfl, rfl⟩
              go_wp2
              go_ret
              exact ⟨by first | rfl | simp, bW1.out⟩
            | true =>
              cases q7 with
              | false =>
                simp only [Bool.false_and, Bool.and_false]
                go_enter Try.func60, Try.ntmps60
                go_wp2_with fail
                refine N1.out.mono ?_
                rintro e w1 ⟨rfl, rfl⟩
                go_wp2_with fail
                refine K1.out.mono ?_
                rintro e w1 ⟨rfl, rfl⟩
                go_wp2_with fail
                refine K2.out.mono ?_
                rintro e w1 ⟨rfl, rfl⟩
                go_wp2
                go_ret
                exact ⟨by first | rfl | simp, bW1.out⟩
              | true =>
                go_enter Try.func60, Try.ntmps60
                go_wp2_with fail
                refine N1.out.mono ?_
                rintro e w1 ⟨rfl, rfl⟩
                go_wp2_with fail
                refine K1.out.mono ?_
                rintro e w1 ⟨rfl, rfl⟩
                go_wp2_with fail
                refine K2.out.mono ?_
                rintro e w1 ⟨rfl, rfl⟩
                go_wp2_with fail
                refine L1.out.mono ?_
                rintro e w1 ⟨rfl, rfl⟩
                go_wp2
                go_ret
                exact ⟨by simp, bW1.out⟩
          · have d4 : decide (xcount ≤ 64) = false := decide_eq_false h4
            rw [d4]
            simp only [Bool.false_and, Bool.and_false]
            go_enter Try.func60, Try.ntmps60
            go_wp2_with fail
            refine N1.out.mono ?_
            rintro e w1 ⟨rfl, rfl⟩
            go_wp2
            go_ret
            exact ⟨by first | rfl | simp, bW1.out⟩
        · have d3 : decide (1 ≤ xcount) = false := decide_eq_false h3
          rw [d3]
          simp only [Bool.false_and, Bool.and_false]
          go_enter Try.func60, Try.ntmps60
          go_wp2_with fail
          refine N1.out.mono ?_
          rintro e w1 ⟨rfl, rfl⟩
          go_wp2
          go_ret
          exact ⟨by first | rfl | simp, bW1.out⟩
      · have d2 : decide (xlevel ≤ 3) = false := decide_eq_false h2
        rw [d2]
        simp only [Bool.false_and, Bool.and_false]
        go_enter Try.func60, Try.ntmps60
        go_wp2_with fail
        refine N1.out.mono ?_
        rintro e w1 ⟨rfl, rfl⟩
        go_wp2
        go_ret
        exact ⟨by first | rfl | simp, bW1.out⟩
    · have d1 : decide (0 ≤ xlevel) = false := decide_eq_false h1
      rw [d1]
      simp only [Bool.false_and, Bool.and_false]
      go_enter Try.func60, Try.ntmps60
      go_wp2_with fail
      refine N1.out.mono ?_
      rintro e w1 ⟨rfl, rfl⟩
      go_wp2
      go_ret
      exact ⟨by first | rfl | simp, bW1.out⟩
set_option maxHeartbeats 2000000 in
set_option maxRecDepth 100000 in
theorem spans_any (x : MV) (kp : Option Addr) (K kc : Nat) (key : List UInt8) (w : World) (hx : metaKind.held w x) (hk : Src w kp K kc key) :
    Calls Try.prog 31 #[mv x, .slice kp K kc] w fun e w' => e = .returned (.bool (Ed.spans x.m key)) ∧ Below w.heap.size w w' := by
  obtain ⟨xfp, xfc, xlp, xlc, ⟨xnum, xlevel, xcount, xfirst, xlast⟩⟩ := x
  have XF : Hid (Src w xfp xfirst.length xfc xfirst) := hx.1
  have XL : Hid (Src w xlp xlast.length xlc xlast) := hx.2
  clear hx
  unfold mv
  simp only
  obtain ⟨W1, hW1⟩ : ∃ Wn, w.alloc (.cells #[.int .i64 xnum, .int .i64 xlevel, .int .i64 xcount, .slice xfp xfirst.length xfc, .slice xlp xlast.length xlc] 52) = Wn := ⟨_, rfl⟩
  have bW1 : Hid (Below w.heap.size w W1) := by rw [← hW1]; exact (Below.refl _ _).alloc (Nat.le_refl _) _
  have gW1 : Hid (W1.heap[w.heap.size]? = some (.cells #[.int .i64 xnum, .int .i64 xlevel, .int .i64 xcount, .slice xfp xfirst.length xfc, .slice xlp xlast.length xlc] 52)) := by rw [← hW1]; exact heap_alloc_new w _
  have x0 : W1.cell? ⟨w.heap.size, 0, none⟩ = some (.int .i64 xnum) := cell_of_row _ _ _ _ _ _ gW1.out
  have x1 : W1.cell? ⟨w.heap.size, 1, none⟩ = some (.int .i64 xlevel) := cell_of_row _ _ _ _ _ _ gW1.out
  have x2 : W1.cell? ⟨w.heap.size, 2, none⟩ = some (.int .i64 xcount) := cell_of_row _ _ _ _ _ _ gW1.out
  have x3 : W1.cell? ⟨w.heap.size, 3, none⟩ = some (.slice xfp xfirst.length xfc) := cell_of_row _ _ _ _ _ _ gW1.out
  have x4 : W1.cell? ⟨w.heap.size, 4, none⟩ = some (.slice xlp xlast.length xlc) := cell_of_row _ _ _ _ _ _ gW1.out
  have L1 := keep (less_any kp K kc key xfp xfirst.length xfc xfirst W1 (hk.below bW1.out) (XF.out.below bW1.out))
  have L2 := keep (less_any xlp xlast.length xlc xlast kp K kc key W1 (XL.out.below bW1.out) (hk.below bW1.out))
  have EQ : Hid (Ed.spans ⟨xnum, xlevel, xcount, xfirst, xlast⟩ key = (!less key xfirst && !less xlast key)) := rfl
  rw [EQ.out]
  clear hk EQ
  cases h1 : less key xfirst with
  | true =>
    rw [h1] at L1
    clear h1
    go_enter Try.func31, Try.ntmps31
    go_wp2_with fail
    refine L1.out.mono ?_
    rintro e w1 ⟨rfl, rfl⟩
    go_wp2
    go_ret
    exact ⟨by first | rfl | simp, bW1.out⟩
  | false =>
    rw [h1] at L1
    clear h1
    go_enter Try.func31, Try.ntmps31
    go_wp2_with fail
    refine L1.out.mono ?_
    rintro e w1 ⟨rfl, rfl⟩
    go_wp2_with fail
    refine L2.out.mono ?_
    rintro e w1 ⟨rfl, rfl⟩
    go_wp2
    go_ret
    exact ⟨by first | rfl | simp, bW1.out⟩
end Go.Proofs.Ytbahldabcieiaaa
