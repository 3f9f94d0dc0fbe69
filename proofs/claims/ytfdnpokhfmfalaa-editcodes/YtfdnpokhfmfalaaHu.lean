/- EditCodes' walk. -/
import Derived.Test.YtfdnpokhfmfalaaHt
import Derived.Test.YtfdnpokhfmfalaaHo
import Derived.Test.YtfdnpokhfmfalaaRp
namespace Go.Proofs.Ytfdnpokhfmfalaa
open Go.RowKit
open Ed (Nt)

set_option maxHeartbeats 8000000 in
set_option maxRecDepth 100000 in
theorem codes_walk (x : VV) (w : World) (hx : VV.held w x) (hnear : Near x.n x.es) :
    Calls Try.prog 3 #[x.val] w fun e w' => e = .returned (.bool true) ∧ Below w.heap.size w w' := by
  obtain ⟨p, n, c, gen, next, log, seq, es⟩ := x
  have SX : Hid (RSrc metaKind w p n c es) := hx
  have NR : Hid (n ≤ 1954687338268) := hnear.1
  clear hnear hx
  unfold VV.val
  simp only
  obtain ⟨W1, hW1⟩ : ∃ W1, w.alloc (.cells #[.int .i64 gen, .int .i64 next, .int .i64 log, .int .i64 seq, .slice p n c] 24) = W1 := ⟨_, rfl⟩
  have b1 : Hid (Below w.heap.size w W1) := by rw [← hW1]; exact (Below.refl _ _).alloc (Nat.le_refl _) _
  have g1 : Hid (W1.heap[w.heap.size]? = some (.cells #[.int .i64 gen, .int .i64 next, .int .i64 log, .int .i64 seq, .slice p n c] 24)) := by rw [← hW1]; exact heap_alloc_new w _
  have CX : Hid (∀ w', Below W1.heap.size W1 w' → w'.cell? ⟨w.heap.size, 0, none⟩ = some (.int .i64 gen) ∧ w'.cell? ⟨w.heap.size, 1, none⟩ = some (.int .i64 next) ∧ w'.cell? ⟨w.heap.size, 2, none⟩ = some (.int .i64 log) ∧ w'.cell? ⟨w.heap.size, 3, none⟩ = some (.int .i64 seq) ∧ w'.cell? ⟨w.heap.size, 4, none⟩ = some (.slice p n c)) := fun w' hb => ⟨belowE hb (cell_of_row _ _ _ _ _ _ g1.out), belowE hb (cell_of_row _ _ _ _ _ _ g1.out), belowE hb (cell_of_row _ _ _ _ _ _ g1.out), belowE hb (cell_of_row _ _ _ _ _ _ g1.out), belowE hb (cell_of_row _ _ _ _ _ _ g1.out)⟩
  have AW := keep (awake_any W1)
  have MI : Hid (∀ w', Below W1.heap.size W1 w' → _) := fun w' hb => mine_any ⟨p, n, c, gen, next, log, seq, es⟩ w' (SX.out.below metaKind_ok (b1.out.trans (hb.mono b1.out.size))) NR.out
  have RE : Hid (∀ w', Below W1.heap.size W1 w' → _) := fun w' hb => rencode_any ⟨p, n, c, gen, next, log, seq, es⟩ w' (SX.out.below metaKind_ok (b1.out.trans (hb.mono b1.out.size)))
  unfold VV.val at MI RE
  simp only at MI RE
  obtain ⟨V, hV⟩ : ∃ V : Ed.Ver, VV.v ⟨p, n, c, gen, next, log, seq, es⟩ = V := ⟨_, rfl⟩
  rw [hV] at MI RE
  clear hV
  obtain ⟨N, hN⟩ : ∃ N, chkN V = N := ⟨_, rfl⟩
  have HN := keep hN
  clear hN
  go_enter Try.func3, Try.ntmps3
  go_wp2_with fail
  refine AW.out.mono ?_
  rintro e w2 ⟨rfl, hb2⟩
  have L2 := keep hb2
  obtain ⟨c0, c1, c2, c3, c4⟩ := CX.out w2 hb2
  clear hb2 AW hW1
  go_wp2_with fail
  refine (MI.out w2 L2.out).mono ?_
  rintro e w3 ⟨y, rfl, hy, hyv, hyn, hye, hb3⟩
  have L3 := keep (L2.out.trans (hb3.mono L2.out.size))
  have EN := keep (encode_any y w3 hy)
  rw [hyv] at EN
  obtain ⟨yp, yn, yc, ygen, ynext, ylog, yseq, yes⟩ := y
  have E1 : n = yn := hyn.symm
  subst E1
  unfold VV.val at EN
  simp only at EN
  simp only
  clear hy hyv hyn hye hb3 c0 c1 c2 c3 c4
  go_wp2_with fail
  refine EN.out.mono ?_
  rintro e w4 ⟨a4, m4, d4, l4, rfl, hs4, hl4, hb4⟩
  rw [HN.out]
  have L4 := keep (L3.out.trans (hb4.mono L3.out.size))
  have S4 := keep hs4
  have E4 := keep hl4
  obtain ⟨c0, c1, c2, c3, c4⟩ := CX.out w4 L4.out
  clear hs4 hl4 hb4 EN
  go_wp2_with fail
  refine (RE.out w4 L4.out).mono ?_
  rintro e w5 ⟨a5, m5, d5, l5, rfl, hs5, hl5, hb5⟩
  rw [HN.out]
  have L5 := keep (L4.out.trans (hb5.mono L4.out.size))
  have S5 := keep hs5
  have ES : Hid (decide (l4 = l5) = true) := decide_eq_true (E4.out.trans hl5.symm)
  have SM := keep (same_any a4 m4 d4 l4 a5 m5 d5 l5 w5 (S4.out.below hb5) S5.out)
  rw [ES.out] at SM
  clear c0 c1 c2 c3 c4
  obtain ⟨c0, c1, c2, c3, c4⟩ := CX.out w5 L5.out
  clear hs5 hl5 hb5
  go_wp2_with fail
  refine SM.out.mono ?_
  rintro e w6 ⟨rfl, hb6⟩
  have L6 := keep (L5.out.trans (hb6.mono L5.out.size))
  clear c0 c1 c2 c3 c4
  obtain ⟨c0, c1, c2, c3, c4⟩ := CX.out w6 L6.out
  clear hb6 SM
  go_wp2_with fail
  refine (MI.out w6 L6.out).mono ?_
  rintro e w7 ⟨z, rfl, hz, hzv, hzn, hze, hb7⟩
  have L7 := keep (L6.out.trans (hb7.mono L6.out.size))
  have CK := keep (vcheck_any z w7 hz)
  rw [hzv, HN.out] at CK
  obtain ⟨zp, zn, zc, zgen, znext, zlog, zseq, zes⟩ := z
  have E2 : n = zn := hzn.symm
  subst E2
  unfold VV.val at CK
  simp only at CK
  simp only
  clear hz hzv hzn hze hb7 c0 c1 c2 c3 c4
  go_wp2_with fail
  refine CK.out.mono ?_
  rintro e w8 ⟨rfl, hb8⟩
  have B8 := keep (b1.out.trans ((L7.out.trans (hb8.mono L7.out.size)).mono b1.out.size))
  clear hb8
  go_wp2
  go_ret
  exact ⟨rfl, B8.out⟩
end Go.Proofs.Ytfdnpokhfmfalaa
