/- The walks of block's Find, and of BlockFinds. -/
import Derived.Test.YtlhblbaingojaabJc
import Derived.Test.YtlhblbaingojaabXg
namespace Go.Proofs.Ytlhblbaingojaab
open Go.RowKit
open Sk (Ent)

set_option maxHeartbeats 2000000 in
set_option maxRecDepth 100000 in
theorem find_any (ao : Option Addr) (N c : Nat) (ys : List EV) (kp : Option Addr) (kc : Nat) (key : List UInt8) (s : Int) (w : World) (hsrc : RSrc entKind w ao N c ys) (hMAY : ∀ y ∈ ys, y.e.key.length ≤ 140737488355328 ∧ y.e.val.length ≤ 140737488355328) (hln : N ≤ 140737488355328) (hs : Src w kp key.length kc key) :
    Calls Try.prog 17 #[.slice ao N c, .slice kp key.length kc, .int .i64 s] w fun e w' => ∃ y : EV, e = .returned (.tuple #[ev y, .bool (verE (ys.map (·.e)) key s).isSome]) ∧ y.e = (verE (ys.map (·.e)) key s).getD zeroE ∧ OwnE w.heap.size w' y ∧ Below w.heap.size w w' := by
  have MAY := keep hMAY
  have SRC := keep hsrc
  have HS := keep hs
  have HN := keep hsrc.len
  have FULL : Hid ((ys.map (·.e)).take N = ys.map (·.e)) := List.take_of_length_le (by rw [List.length_map]; have := hsrc.len; omega)
  obtain ⟨W1, hW1⟩ : ∃ W1, w.alloc (.cells #[.slice none 0 0, .int .i64 0, .bool false, .slice none 0 0] 36) = W1 := ⟨_, rfl⟩
  have b1 : Hid (Below w.heap.size w W1) := by rw [← hW1]; exact (Below.refl _ _).alloc (Nat.le_refl _) _
  have g1 : Hid (W1.heap[w.heap.size]? = some (.cells #[.slice none 0 0, .int .i64 0, .bool false, .slice none 0 0] 36)) := by rw [← hW1]; exact heap_alloc_new w _
  have gl : Hid (w.heap.size < W1.heap.size) := by rw [← hW1]; show _ < _; simp
  obtain ⟨KL, hKL⟩ : ∃ KL, key.length = KL := ⟨_, rfl⟩
  rw [hKL] at HS ⊢
  clear hsrc hMAY hs hKL
  go_enter Try.func17, Try.ntmps17
  go_wp2
  clear hW1
  go_loopw [12] (fun i wr => ∃ k : Nat, k ≤ N ∧ i = .int .i64 (k : Int) ∧ Hid (Below W1.heap.size W1 wr ∧ ((ys.map (·.e)).take k).find? (vers key s) = none)) (fun i _ => N - (intOf i).toNat)
  case atStart => exact ⟨0, Nat.zero_le _, rfl, Below.refl _ _, rfl⟩
  case round =>
    obtain ⟨k, hk, rfl, hI⟩ := hrel
    have HB := keep (b1.out.trans (hI.out.1.mono b1.out.size))
    by_cases hkn : k < N
    · obtain ⟨b, off, rfl, _, _⟩ := SRC.out.form entKind_ok (by omega)
      obtain ⟨y, hy⟩ : ∃ y, ys[k]? = some y := ⟨ys[k]'(by rw [HN.out]; exact hkn), List.getElem?_eq_getElem _⟩
      obtain ⟨p0, p1, p2, p3⟩ := ent_cells (SRC.out.below entKind_ok HB.out) hy
      have hyh := (SRC.out.below entKind_ok HB.out).held y (List.mem_of_getElem? hy)
      have hym := MAY.out y (List.mem_of_getElem? hy)
      have HY : Hid ((ys.map (·.e))[k]? = some y.e) := by show _ = _; rw [List.getElem?_map, hy]; rfl
      obtain ⟨xkp, xkc, xvp, xvc, ⟨xkey, xseq, xgone, xval⟩⟩ := y
      obtain ⟨W2, hW2⟩ : ∃ W2, wr.alloc (.cells #[.slice xkp xkey.length xkc, .int .i64 xseq, .bool xgone, .slice xvp xval.length xvc] 36) = W2 := ⟨_, rfl⟩
      have b2 : Hid (Below wr.heap.size wr W2) := by rw [← hW2]; exact (Below.refl _ _).alloc (Nat.le_refl _) _
      have g2 : Hid (W2.heap[wr.heap.size]? = some (.cells #[.slice xkp xkey.length xkc, .int .i64 xseq, .bool xgone, .slice xvp xval.length xvc] 36)) := by rw [← hW2]; exact heap_alloc_new wr _
      have c0 : W2.cell? ⟨wr.heap.size, 0, none⟩ = some (.slice xkp xkey.length xkc) := cell_of_row _ _ _ _ _ _ g2.out
      have c1 : W2.cell? ⟨wr.heap.size, 1, none⟩ = some (.int .i64 xseq) := cell_of_row _ _ _ _ _ _ g2.out
      have c2 : W2.cell? ⟨wr.heap.size, 2, none⟩ = some (.bool xgone) := cell_of_row _ _ _ _ _ _ g2.out
      have c3 : W2.cell? ⟨wr.heap.size, 3, none⟩ = some (.slice xvp xval.length xvc) := cell_of_row _ _ _ _ _ _ g2.out
      have EQ := keep (equal_any xkp xkey.length xkc xkey kp KL kc key W2 (hyh.1.below b2.out) ((HS.out.below HB.out).below b2.out))
      have CP := keep (copied_any ⟨xkp, xkc, xvp, xvc, ⟨xkey, xseq, xgone, xval⟩⟩ W2 hym.1 hym.2 (entKind_ok.below hyh b2.out))
      have B2 := keep (hI.out.1.trans (b2.out.mono hI.out.1.size))
      have HB2 := keep (HB.out.trans (b2.out.mono HB.out.size))
      unfold ev at CP
      simp only at p0 p1 p2 p3 CP HY
      clear hy hyh hym
      have j0 : (0 : Int) ≤ (k : Int) := by omega
      have ll : (k : Int) < (N : Int) := by omega
      by_cases hq2 : xseq ≤ s
      · by_cases hq : xkey = key
        · have FA : Hid (verE (ys.map (·.e)) key s = some ⟨xkey, xseq, xgone, xval⟩) := (find_at HY.out (show vers key s ⟨xkey, xseq, xgone, xval⟩ = true from by unfold vers; simp [hq, hq2]) hI.out.2)
          rw [decide_eq_true hq] at EQ
          clear hq
          go_wp2_with fail
          refine EQ.out.mono ?_
          rintro e w4 ⟨rfl, rfl⟩
          go_wp2_with fail
          refine CP.out.mono ?_
          rintro e w5 ⟨y, rfl, hye, hyo, hb5⟩
          have bD := keep (B2.out.trans (hb5.mono B2.out.size))
          obtain ⟨ykp, ykc, yvp, yvc, ⟨ykey, yseq, ygone, yval⟩⟩ := y
          have G5 : Hid (w5.heap[w.heap.size]? = some (.cells #[.slice none 0 0, .int .i64 0, .bool false, .slice none 0 0] 36)) := (bD.out.block _ gl.out).trans g1.out
          have BL5 := keep (b1.out.trans (bD.out.mono b1.out.size))
          have HYE := keep hye
          have O5 := keep (hyo.base HB2.out.size)
          have t0 : w5.cell? ⟨w.heap.size, 0, none⟩ = some (.slice none 0 0) := cell_of_row _ _ _ _ _ _ G5.out
          have t1 : w5.cell? ⟨w.heap.size, 1, none⟩ = some (.int .i64 0) := cell_of_row _ _ _ _ _ _ G5.out
          have t2 : w5.cell? ⟨w.heap.size, 2, none⟩ = some (.bool false) := cell_of_row _ _ _ _ _ _ G5.out
          have t3 : w5.cell? ⟨w.heap.size, 3, none⟩ = some (.slice none 0 0) := cell_of_row _ _ _ _ _ _ G5.out
          have f0 : w5.frozen? ⟨w.heap.size, 0, none⟩ = false := by simp [World.frozen?, G5.out]
          have f1 : w5.frozen? ⟨w.heap.size, 1, none⟩ = false := by simp [World.frozen?, G5.out]
          have f2 : w5.frozen? ⟨w.heap.size, 2, none⟩ = false := by simp [World.frozen?, G5.out]
          have f3 : w5.frozen? ⟨w.heap.size, 3, none⟩ = false := by simp [World.frozen?, G5.out]
          simp only
          clear hye hyo hb5 CP p0 p1 p2 p3 hW2 EQ
          go_wp2
          have far : ∀ {v : Value} {n : Nat} {xs : List Value}, w5.ownsRow w.heap.size 5 1 v n xs → ∀ g, v.ownBlock = some g → g ≠ w.heap.size := fun {v n xs} h g hg e => by
            obtain ⟨cur, hc⟩ := own_tag h hg
            rw [e, G5.out] at hc
            cases hc
          refine ⟨rfl, .tuple #[.agg #[.slice ykp ykey.length ykc, .int .i64 yseq, .bool ygone, .slice yvp yval.length yvc], .bool true], ?_, ⟨ykp, ykc, yvp, yvc, ⟨ykey, yseq, ygone, yval⟩⟩, ?_, ?_, ?_, ?_⟩
          · have s0 : (w5.setCell ⟨w.heap.size, 0, none⟩ (.slice ykp ykey.length ykc)).cell? ⟨w.heap.size, 0, none⟩ = some (.slice ykp ykey.length ykc) := World.cell?_setCell_same' _ _ _ (by simp [go_sem, t0])
            have s1 : ((w5.setCell ⟨w.heap.size, 0, none⟩ (.slice ykp ykey.length ykc)).setCell ⟨w.heap.size, 1, none⟩ (.int .i64 yseq)).cell? ⟨w.heap.size, 1, none⟩ = some (.int .i64 yseq) := World.cell?_setCell_same' _ _ _ (by simp [go_sem, t1])
            have s2 : (((w5.setCell ⟨w.heap.size, 0, none⟩ (.slice ykp ykey.length ykc)).setCell ⟨w.heap.size, 1, none⟩ (.int .i64 yseq)).setCell ⟨w.heap.size, 2, none⟩ (.bool ygone)).cell? ⟨w.heap.size, 2, none⟩ = some (.bool ygone) := World.cell?_setCell_same' _ _ _ (by simp [go_sem, t2])
            have s3 : ((((w5.setCell ⟨w.heap.size, 0, none⟩ (.slice ykp ykey.length ykc)).setCell ⟨w.heap.size, 1, none⟩ (.int .i64 yseq)).setCell ⟨w.heap.size, 2, none⟩ (.bool ygone)).setCell ⟨w.heap.size, 3, none⟩ (.slice yvp yval.length yvc)).cell? ⟨w.heap.size, 3, none⟩ = some (.slice yvp yval.length yvc) := World.cell?_setCell_same' _ _ _ (by simp [go_sem, t3])
            simp [results, Try.f17, go_sem, loadCells, loadCellsFrom, s0, s1, s2, s3]
          · rw [FA.out]; rfl
          · rw [FA.out]; exact HYE.out
          · refine ⟨?_, ?_⟩
            · refine own_block O5.out.1 (fun g hg => ?_)
              have h1 := far O5.out.1 g hg
              simp only [set_far _ _ h1]
            · refine own_block O5.out.2 (fun g hg => ?_)
              have h1 := far O5.out.2 g hg
              simp only [set_far _ _ h1]
          · exact ((((BL5.out.setCell (p := ⟨w.heap.size, 0, none⟩) (Nat.le_refl _) _).setCell (p := ⟨w.heap.size, 1, none⟩) (Nat.le_refl _) _).setCell (p := ⟨w.heap.size, 2, none⟩) (Nat.le_refl _) _).setCell (p := ⟨w.heap.size, 3, none⟩) (Nat.le_refl _) _)
        · have FS := keep (find_step HY.out (show vers key s ⟨xkey, xseq, xgone, xval⟩ = false from by unfold vers; simp [hq]) hI.out.2)
          rw [decide_eq_false hq] at EQ
          clear hq
          go_wp2_with fail
          refine EQ.out.mono ?_
          rintro e w4 ⟨rfl, rfl⟩
          go_wp2
          go_roundw
          case rel => exact ⟨k + 1, by omega, by first | rfl | go_num, B2.out, FS.out⟩
          case measure => simp [intOf]; omega
      · have FS := keep (find_step HY.out (show vers key s ⟨xkey, xseq, xgone, xval⟩ = false from by unfold vers; simp [hq2]) hI.out.2)
        go_wp2
        go_roundw
        case rel => exact ⟨k + 1, by omega, by first | rfl | go_num, B2.out, FS.out⟩
        case measure => simp [intOf]; omega
    · obtain rfl : k = N := by omega
      have ll : ¬ (k : Int) < (k : Int) := by omega
      have G5 : Hid (wr.heap[w.heap.size]? = some (.cells #[.slice none 0 0, .int .i64 0, .bool false, .slice none 0 0] 36)) := (hI.out.1.block _ gl.out).trans g1.out
      have FN : Hid (verE (ys.map (·.e)) key s = none) := by rw [← FULL.out]; exact hI.out.2
      have t0 : wr.cell? ⟨w.heap.size, 0, none⟩ = some (.slice none 0 0) := cell_of_row _ _ _ _ _ _ G5.out
      have t1 : wr.cell? ⟨w.heap.size, 1, none⟩ = some (.int .i64 0) := cell_of_row _ _ _ _ _ _ G5.out
      have t2 : wr.cell? ⟨w.heap.size, 2, none⟩ = some (.bool false) := cell_of_row _ _ _ _ _ _ G5.out
      have t3 : wr.cell? ⟨w.heap.size, 3, none⟩ = some (.slice none 0 0) := cell_of_row _ _ _ _ _ _ G5.out
      have f0 : wr.frozen? ⟨w.heap.size, 0, none⟩ = false := by simp [World.frozen?, G5.out]
      have f1 : wr.frozen? ⟨w.heap.size, 1, none⟩ = false := by simp [World.frozen?, G5.out]
      have f2 : wr.frozen? ⟨w.heap.size, 2, none⟩ = false := by simp [World.frozen?, G5.out]
      have f3 : wr.frozen? ⟨w.heap.size, 3, none⟩ = false := by simp [World.frozen?, G5.out]
      go_wp2
      refine ⟨rfl, .tuple #[ev evZ, .bool false], ?_, evZ, ?_, ?_, ⟨World.ownsRow_nil _ _ _ _, World.ownsRow_nil _ _ _ _⟩, ?_⟩
      · have s0 : (wr.setCell ⟨w.heap.size, 0, none⟩ (.slice none 0 0)).cell? ⟨w.heap.size, 0, none⟩ = some (.slice none 0 0) := World.cell?_setCell_same' _ _ _ (by simp [go_sem, t0])
        have s1 : ((wr.setCell ⟨w.heap.size, 0, none⟩ (.slice none 0 0)).setCell ⟨w.heap.size, 1, none⟩ (.int .i64 0)).cell? ⟨w.heap.size, 1, none⟩ = some (.int .i64 0) := World.cell?_setCell_same' _ _ _ (by simp [go_sem, t1])
        have s2 : (((wr.setCell ⟨w.heap.size, 0, none⟩ (.slice none 0 0)).setCell ⟨w.heap.size, 1, none⟩ (.int .i64 0)).setCell ⟨w.heap.size, 2, none⟩ (.bool false)).cell? ⟨w.heap.size, 2, none⟩ = some (.bool false) := World.cell?_setCell_same' _ _ _ (by simp [go_sem, t2])
        have s3 : ((((wr.setCell ⟨w.heap.size, 0, none⟩ (.slice none 0 0)).setCell ⟨w.heap.size, 1, none⟩ (.int .i64 0)).setCell ⟨w.heap.size, 2, none⟩ (.bool false)).setCell ⟨w.heap.size, 3, none⟩ (.slice none 0 0)).cell? ⟨w.heap.size, 3, none⟩ = some (.slice none 0 0) := World.cell?_setCell_same' _ _ _ (by simp [go_sem, t3])
        simp [results, Try.f17, go_sem, loadCells, loadCellsFrom, s0, s1, s2, s3, ev, evZ]
      · rw [FN.out]; rfl
      · rw [FN.out]; rfl
      · exact ((((HB.out.setCell (p := ⟨w.heap.size, 0, none⟩) (Nat.le_refl _) _).setCell (p := ⟨w.heap.size, 1, none⟩) (Nat.le_refl _) _).setCell (p := ⟨w.heap.size, 2, none⟩) (Nat.le_refl _) _).setCell (p := ⟨w.heap.size, 3, none⟩) (Nat.le_refl _) _)
set_option maxHeartbeats 4000000 in
set_option maxRecDepth 100000 in
theorem finds_walk (ao : Option Addr) (n c : Nat) (es : List EV) (kp : Option Addr) (KL kc : Nat) (key : List UInt8) (s : Int) (w : World) (hsrc : RSrc entKind w ao n c es) (hMAY : n ≤ 140737488355328 ∧ ∀ y ∈ es, y.e.key.length ≤ 140737488355328 ∧ y.e.val.length ≤ 140737488355328) (hs : Src w kp KL kc key) :
    Calls Try.prog 5 #[.slice ao n c, .slice kp KL kc, .int .i64 s] w fun e w' => e = .returned (.bool true) ∧ Below w.heap.size w w' := by
  have hKL := hs.len
  subst hKL
  have SRC := keep hsrc
  have HS := keep hs
  have MAY := keep hMAY
  have AW := keep (awake_any w)
  clear hsrc hs hMAY
  have F1 : Hid (∀ w', Below w.heap.size w w' → _) := fun w' hb => find_any ao n c es kp kc key s w' (SRC.out.below entKind_ok hb) MAY.out.2 MAY.out.1 (HS.out.below hb)
  have F2 : Hid (∀ w', Below w.heap.size w w' → _) := fun w' hb => rversion_any ao n c es kp kc key s w' (SRC.out.below entKind_ok hb) MAY.out.2 MAY.out.1 (HS.out.below hb)
  obtain ⟨V, hV⟩ : ∃ V, verE (es.map (·.e)) key s = V := ⟨_, rfl⟩
  obtain ⟨KL, hKL⟩ : ∃ KL, key.length = KL := ⟨_, rfl⟩
  rw [hV, hKL] at F1 F2
  rw [hKL]
  clear hV hKL
  obtain ⟨vs, hvs⟩ : ∃ vs, V.isSome = vs := ⟨_, rfl⟩
  obtain ⟨vd, hvd⟩ : ∃ vd, V.getD zeroE = vd := ⟨_, rfl⟩
  rw [hvs, hvd] at F1 F2
  clear hvs hvd
  go_enter Try.func5, Try.ntmps5
  go_wp2_with fail
  refine AW.out.mono ?_
  rintro e w1 ⟨rfl, hb1⟩
  have B1 := keep hb1
  clear hb1 AW
  go_wp2_with fail
  refine (F1.out w1 B1.out).mono ?_
  rintro e w2 ⟨x, rfl, hx, hxo, hb2⟩
  have B2 := keep (B1.out.trans (hb2.mono B1.out.size))
  have HX := keep hx
  have XH := keep hxo.held
  obtain ⟨W3, hW3⟩ : ∃ W3, w2.alloc (.cells (entKind.vals x).toArray 36) = W3 := ⟨_, rfl⟩
  have b3 : Hid (Below w2.heap.size w2 W3) := by rw [← hW3]; exact (Below.refl _ _).alloc (Nat.le_refl _) _
  have g3 : Hid (W3.heap[w2.heap.size]? = some (.cells (entKind.vals x).toArray 36)) := by rw [← hW3]; exact heap_alloc_new w2 _
  have B3 := keep (B2.out.trans (b3.out.mono B2.out.size))
  obtain ⟨xkp, xkc, xvp, xvc, ⟨xkey, xseq, xgone, xval⟩⟩ := x
  simp only [entKind] at hW3 g3
  unfold ev
  simp only
  clear hx hxo hb2
  go_wp2_with fail
  refine (F2.out W3 B3.out).mono ?_
  rintro e w4 ⟨y, rfl, hy, hyo, hb4⟩
  have B4 := keep (B3.out.trans (hb4.mono B3.out.size))
  have HY := keep hy
  have b4 := keep hb4
  obtain ⟨W5, hW5⟩ : ∃ W5, w4.alloc (.cells (entKind.vals y).toArray 36) = W5 := ⟨_, rfl⟩
  have b5 : Hid (Below w4.heap.size w4 W5) := by rw [← hW5]; exact (Below.refl _ _).alloc (Nat.le_refl _) _
  have g5 : Hid (W5.heap[w4.heap.size]? = some (.cells (entKind.vals y).toArray 36)) := by rw [← hW5]; exact heap_alloc_new w4 _
  have B5 := keep (B4.out.trans (b5.out.mono B4.out.size))
  have b35 := keep (b4.out.trans (b5.out.mono b4.out.size))
  have SO := keep (sameOne_yes ⟨xkp, xkc, xvp, xvc, ⟨xkey, xseq, xgone, xval⟩⟩ y W5 (entKind_ok.below XH.out (b3.out.trans (b35.out.mono b3.out.size))) (entKind_ok.below hyo.held b5.out) (HX.out.trans hy.symm))
  obtain ⟨ykp, ykc, yvp, yvc, ⟨ykey, yseq, ygone, yval⟩⟩ := y
  simp only [entKind] at hW5 g5
  unfold ev at SO
  simp only at SO
  unfold ev
  simp only
  have c0 : W5.cell? ⟨w2.heap.size, 0, none⟩ = some (.slice xkp xkey.length xkc) := below_cell b35.out (cell_of_row _ _ _ _ _ _ g3.out)
  have c1 : W5.cell? ⟨w2.heap.size, 1, none⟩ = some (.int .i64 xseq) := below_cell b35.out (cell_of_row _ _ _ _ _ _ g3.out)
  have c2 : W5.cell? ⟨w2.heap.size, 2, none⟩ = some (.bool xgone) := below_cell b35.out (cell_of_row _ _ _ _ _ _ g3.out)
  have c3 : W5.cell? ⟨w2.heap.size, 3, none⟩ = some (.slice xvp xval.length xvc) := below_cell b35.out (cell_of_row _ _ _ _ _ _ g3.out)
  have d0 : W5.cell? ⟨w4.heap.size, 0, none⟩ = some (.slice ykp ykey.length ykc) := cell_of_row _ _ _ _ _ _ g5.out
  have d1 : W5.cell? ⟨w4.heap.size, 1, none⟩ = some (.int .i64 yseq) := cell_of_row _ _ _ _ _ _ g5.out
  have d2 : W5.cell? ⟨w4.heap.size, 2, none⟩ = some (.bool ygone) := cell_of_row _ _ _ _ _ _ g5.out
  have d3 : W5.cell? ⟨w4.heap.size, 3, none⟩ = some (.slice yvp yval.length yvc) := cell_of_row _ _ _ _ _ _ g5.out
  clear hy hyo hb4 hW3
  go_wp2_with fail
  refine SO.out.mono ?_
  rintro e w6 ⟨rfl, hb6⟩
  have B6 := keep (B5.out.trans (hb6.mono B5.out.size))
  clear hb6
  go_wp2
  go_ret
  exact ⟨rfl, B6.out⟩
end Go.Proofs.Ytlhblbaingojaab
