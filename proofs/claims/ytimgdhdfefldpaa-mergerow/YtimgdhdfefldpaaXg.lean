/- The walk of the document's Version. -/
import Derived.Test.YtimgdhdfefldpaaXa
import Derived.Test.YtimgdhdfefldpaaVj
namespace Go.Proofs.Ytimgdhdfefldpaa
open Go.RowKit
open Sk (Ent)

/-- Is it a version of the key, not above s? -/
def vers (key : List UInt8) (s : Int) (e : Ent) : Bool := decide (e.key = key) && decide (e.seq ≤ s)
theorem find_at {l : List Ent} {p : Ent → Bool} {k : Nat} {e : Ent} (hk : l[k]? = some e) (hp : p e = true) (hn : (l.take k).find? p = none) : l.find? p = some e := by
  obtain ⟨hl, he⟩ := List.getElem?_eq_some_iff.1 hk
  rw [← List.take_append_drop k l, List.find?_append, hn, List.drop_eq_getElem_cons hl, he]
  simp [hp]
theorem find_step {l : List Ent} {p : Ent → Bool} {k : Nat} {e : Ent} (hk : l[k]? = some e) (hp : p e = false) (hn : (l.take k).find? p = none) : (l.take (k + 1)).find? p = none := by
  rw [List.take_add_one, hk, List.find?_append, hn]
  simp [hp]
def verE (l : List Ent) (key : List UInt8) (s : Int) : Option Ent := l.find? (vers key s)
set_option maxHeartbeats 2000000 in
set_option maxRecDepth 100000 in
theorem rversion_any (ao : Option Addr) (N c : Nat) (ys : List EV) (kp : Option Addr) (kc : Nat) (key : List UInt8) (s : Int) (w : World) (hsrc : RSrc entKind w ao N c ys) (hMAY : ∀ y ∈ ys, y.e.key.length ≤ 140737488355328 ∧ y.e.val.length ≤ 140737488355328) (hln : N ≤ 140737488355328) (hs : Src w kp key.length kc key) :
    Calls Try.prog 20 #[.slice ao N c, .slice kp key.length kc, .int .i64 s] w fun e w' => ∃ y : EV, e = .returned (.tuple #[ev y, .bool (verE (ys.map (·.e)) key s).isSome]) ∧ y.e = (verE (ys.map (·.e)) key s).getD zeroE ∧ OwnE w.heap.size w' y ∧ Below w.heap.size w w' := by
  have MAY := keep hMAY
  have SRC := keep hsrc
  have HS := keep hs
  have HN := keep hsrc.len
  have FULL : Hid ((ys.map (·.e)).take N = ys.map (·.e)) := List.take_of_length_le (by rw [List.length_map]; have := hsrc.len; omega)
  obtain ⟨W1, hW1⟩ : ∃ W1, w.alloc (.cells #[.slice none 0 0, .int .i64 0, .bool false, .slice none 0 0] 36) = W1 := ⟨_, rfl⟩
  have b1 : Hid (Below w.heap.size w W1) := by rw [← hW1]; exact (Below.refl _ _).alloc (Nat.le_refl _) _
  have g1 : Hid (W1.heap[w.heap.size]? = some (.cells #[.slice none 0 0, .int .i64 0, .bool false, .slice none 0 0] 36)) := by rw [← hW1]; exact heap_alloc_new w _
  have gl : Hid (w.heap.size < W1.heap.size) := by rw [← hW1]; show _ < _; simp
  clear hsrc hMAY hs
  go_enter Try.func20, Try.ntmps20
  go_wp2
  clear hW1
  go_loopw [8] (fun i wr => ∃ k : Nat, k ≤ N ∧ i = .int .i64 (k : Int) ∧ Hid (Below W1.heap.size W1 wr ∧ ((ys.map (·.e)).take k).find? (vers key s) = none)) (fun i _ => N - (intOf i).toNat)
  case atStart => exact ⟨0, Nat.zero_le _, rfl, Below.refl _ _, rfl⟩
  case round =>
    obtain ⟨k, hk, rfl, hI⟩ := hrel
    have HB := keep (b1.out.trans (hI.out.1.mono b1.out.size))
    by_cases hkn : k < N
    · obtain ⟨b, off, rfl, _, _⟩ := SRC.out.form entKind_ok (by omega)
      obtain ⟨y, hy⟩ : ∃ y, ys[k]? = some y := ⟨ys[k]'(by rw [HN.out]; exact hkn), List.getElem?_eq_getElem _⟩
      obtain ⟨p0, p1, p2, p3⟩ := ent_cells (SRC.out.below entKind_ok HB.out) hy
      have hyh := (SRC.out.below entKind_ok HB.out).held y (List.mem_of_getElem? hy)
      have hym := MAY.out y (List.mem_of_getElem? hy)
      have HY : Hid ((ys.map (·.e))[k]? = some y.e) := by show _ = _; rw [List.getElem?_map, hy]; rfl
      have v1 := fun n => conv_src (hyh.1.below (below_drewN (Below.refl _ wr) n))
      have v2 := fun n => conv_src ((HS.out.below HB.out).below (below_drewN (Below.refl _ wr) n))
      have CP : Hid (∀ n, _) := fun n => rcopy_any y (wr.drewN n) (by omega) (by omega) (entKind_ok.below hyh (below_drewN (Below.refl _ wr) n))
      obtain ⟨xkp, xkc, xvp, xvc, ⟨xkey, xseq, xgone, xval⟩⟩ := y
      unfold ev at CP
      simp only at p0 p1 p2 p3 CP HY v1 v2
      clear hy hyh hym
      have j0 : (0 : Int) ≤ (k : Int) := by omega
      have ll : (k : Int) < (N : Int) := by omega
      by_cases hq : xkey = key
      · by_cases hq2 : xseq ≤ s
        · have FA : Hid (verE (ys.map (·.e)) key s = some ⟨xkey, xseq, xgone, xval⟩) := (find_at HY.out (show vers key s ⟨xkey, xseq, xgone, xval⟩ = true from by unfold vers; simp [hq, hq2]) hI.out.2)
          have f1 : (xkey == key) = true := by simpa using hq
          clear hq
          go_wp2_with fail
          go_quiet (fail)
          go_wp2_with fail
          refine (CP.out _).mono ?_
          rintro e w5 ⟨y, rfl, hye, hyo, hb5⟩
          have bD := keep (hI.out.1.trans ((below_drewN (Below.refl _ wr) _).mono hI.out.1.size) |>.trans (hb5.mono hI.out.1.size))
          obtain ⟨ykp, ykc, yvp, yvc, ⟨ykey, yseq, ygone, yval⟩⟩ := y
          have G5 : Hid (w5.heap[w.heap.size]? = some (.cells #[.slice none 0 0, .int .i64 0, .bool false, .slice none 0 0] 36)) := (bD.out.block _ gl.out).trans g1.out
          have BL5 := keep (b1.out.trans (bD.out.mono b1.out.size))
          have HYE := keep hye
          have O5 := keep (hyo.base HB.out.size)
          have t0 : w5.cell? ⟨w.heap.size, 0, none⟩ = some (.slice none 0 0) := cell_of_row _ _ _ _ _ _ G5.out
          have t1 : w5.cell? ⟨w.heap.size, 1, none⟩ = some (.int .i64 0) := cell_of_row _ _ _ _ _ _ G5.out
          have t2 : w5.cell? ⟨w.heap.size, 2, none⟩ = some (.bool false) := cell_of_row _ _ _ _ _ _ G5.out
          have t3 : w5.cell? ⟨w.heap.size, 3, none⟩ = some (.slice none 0 0) := cell_of_row _ _ _ _ _ _ G5.out
          have f0 : w5.frozen? ⟨w.heap.size, 0, none⟩ = false := by simp [World.frozen?, G5.out]
          have f1 : w5.frozen? ⟨w.heap.size, 1, none⟩ = false := by simp [World.frozen?, G5.out]
          have f2 : w5.frozen? ⟨w.heap.size, 2, none⟩ = false := by simp [World.frozen?, G5.out]
          have f3 : w5.frozen? ⟨w.heap.size, 3, none⟩ = false := by simp [World.frozen?, G5.out]
          simp only
          clear hye hyo hb5 CP p0 p1 p2 p3
          go_wp2
          have far : ∀ {v : Value} {n : Nat} {xs : List Value}, w5.ownsRow w.heap.size 5 1 v n xs → ∀ g, v.ownBlock = some g → g ≠ w.heap.size := fun {v n xs} h g hg e => by
            obtain ⟨cur, hc⟩ := own_tag h hg
            rw [e, G5.out] at hc
            cases hc
          refine ⟨rfl, .tuple #[.agg #[.slice ykp ykey.length ykc, .int .i64 yseq, .bool ygone, .slice yvp yval.length yvc], .bool true], ?_, ⟨ykp, ykc, yvp, yvc, ⟨ykey, yseq, ygone, yval⟩⟩, ?_, ?_, ?_, ?_⟩
          · have s0 : (w5.setCell ⟨w.heap.size, 0, none⟩ (.slice ykp ykey.length ykc)).cell? ⟨w.heap.size, 0, none⟩ = some (.slice ykp ykey.length ykc) := World.cell?_setCell_same' _ _ _ (by simp [go_sem, t0])
            have s1 : ((w5.setCell ⟨w.heap.size, 0, none⟩ (.slice ykp ykey.length ykc)).setCell ⟨w.heap.size, 1, none⟩ (.int .i64 yseq)).cell? ⟨w.heap.size, 1, none⟩ = some (.int .i64 yseq) := World.cell?_setCell_same' _ _ _ (by simp [go_sem, t1])
            have s2 : (((w5.setCell ⟨w.heap.size, 0, none⟩ (.slice ykp ykey.length ykc)).setCell ⟨w.heap.size, 1, none⟩ (.int .i64 yseq)).setCell ⟨w.heap.size, 2, none⟩ (.bool ygone)).cell? ⟨w.heap.size, 2, none⟩ = some (.bool ygone) := World.cell?_setCell_same' _ _ _ (by simp [go_sem, t2])
            have s3 : ((((w5.setCell ⟨w.heap.size, 0, none⟩ (.slice ykp ykey.length ykc)).setCell ⟨w.heap.size, 1, none⟩ (.int .i64 yseq)).setCell ⟨w.heap.size, 2, none⟩ (.bool ygone)).setCell ⟨w.heap.size, 3, none⟩ (.slice yvp yval.length yvc)).cell? ⟨w.heap.size, 3, none⟩ = some (.slice yvp yval.length yvc) := World.cell?_setCell_same' _ _ _ (by simp [go_sem, t3])
            simp [results, Try.f20, go_sem, loadCells, loadCellsFrom, s0, s1, s2, s3]
          · rw [FA.out]; rfl
          · rw [FA.out]; exact HYE.out
          · refine ⟨?_, ?_⟩
            · refine own_block O5.out.1 (fun g hg => ?_)
              have h1 := far O5.out.1 g hg
              simp only [set_far _ _ h1]
            · refine own_block O5.out.2 (fun g hg => ?_)
              have h1 := far O5.out.2 g hg
              simp only [set_far _ _ h1]
          · exact ((((BL5.out.setCell (p := ⟨w.heap.size, 0, none⟩) (Nat.le_refl _) _).setCell (p := ⟨w.heap.size, 1, none⟩) (Nat.le_refl _) _).setCell (p := ⟨w.heap.size, 2, none⟩) (Nat.le_refl _) _).setCell (p := ⟨w.heap.size, 3, none⟩) (Nat.le_refl _) _)
        · have FS := keep (find_step HY.out (show vers key s ⟨xkey, xseq, xgone, xval⟩ = false from by unfold vers; simp [hq2]) hI.out.2)
          have f1 : (xkey == key) = true := by simpa using hq
          clear hq
          go_wp2_with fail
          go_quiet (fail)
          go_wp2
          go_roundw
          case rel => exact ⟨k + 1, by omega, by go_num, hI.out.1.trans ((below_drewN (Below.refl _ wr) _).mono hI.out.1.size), FS.out⟩
          case measure => simp [intOf]; omega
      · have FS := keep (find_step HY.out (show vers key s ⟨xkey, xseq, xgone, xval⟩ = false from by unfold vers; simp [hq]) hI.out.2)
        have f1 : (xkey == key) = false := by simpa using hq
        clear hq
        go_wp2_with fail
        go_quiet (fail)
        go_wp2
        go_roundw
        case rel => exact ⟨k + 1, by omega, by go_num, hI.out.1.trans ((below_drewN (Below.refl _ wr) _).mono hI.out.1.size), FS.out⟩
        case measure => simp [intOf]; omega
    · obtain rfl : k = N := by omega
      have ll : ¬ (k : Int) < (k : Int) := by omega
      have G5 : Hid (wr.heap[w.heap.size]? = some (.cells #[.slice none 0 0, .int .i64 0, .bool false, .slice none 0 0] 36)) := (hI.out.1.block _ gl.out).trans g1.out
      have FN : Hid (verE (ys.map (·.e)) key s = none) := by rw [← FULL.out]; exact hI.out.2
      have t0 : wr.cell? ⟨w.heap.size, 0, none⟩ = some (.slice none 0 0) := cell_of_row _ _ _ _ _ _ G5.out
      have t1 : wr.cell? ⟨w.heap.size, 1, none⟩ = some (.int .i64 0) := cell_of_row _ _ _ _ _ _ G5.out
      have t2 : wr.cell? ⟨w.heap.size, 2, none⟩ = some (.bool false) := cell_of_row _ _ _ _ _ _ G5.out
      have t3 : wr.cell? ⟨w.heap.size, 3, none⟩ = some (.slice none 0 0) := cell_of_row _ _ _ _ _ _ G5.out
      have f0 : wr.frozen? ⟨w.heap.size, 0, none⟩ = false := by simp [World.frozen?, G5.out]
      have f1 : wr.frozen? ⟨w.heap.size, 1, none⟩ = false := by simp [World.frozen?, G5.out]
      have f2 : wr.frozen? ⟨w.heap.size, 2, none⟩ = false := by simp [World.frozen?, G5.out]
      have f3 : wr.frozen? ⟨w.heap.size, 3, none⟩ = false := by simp [World.frozen?, G5.out]
      go_wp2
      refine ⟨rfl, .tuple #[ev evZ, .bool false], ?_, evZ, ?_, ?_, ⟨World.ownsRow_nil _ _ _ _, World.ownsRow_nil _ _ _ _⟩, ?_⟩
      · have s0 : (wr.setCell ⟨w.heap.size, 0, none⟩ (.slice none 0 0)).cell? ⟨w.heap.size, 0, none⟩ = some (.slice none 0 0) := World.cell?_setCell_same' _ _ _ (by simp [go_sem, t0])
        have s1 : ((wr.setCell ⟨w.heap.size, 0, none⟩ (.slice none 0 0)).setCell ⟨w.heap.size, 1, none⟩ (.int .i64 0)).cell? ⟨w.heap.size, 1, none⟩ = some (.int .i64 0) := World.cell?_setCell_same' _ _ _ (by simp [go_sem, t1])
        have s2 : (((wr.setCell ⟨w.heap.size, 0, none⟩ (.slice none 0 0)).setCell ⟨w.heap.size, 1, none⟩ (.int .i64 0)).setCell ⟨w.heap.size, 2, none⟩ (.bool false)).cell? ⟨w.heap.size, 2, none⟩ = some (.bool false) := World.cell?_setCell_same' _ _ _ (by simp [go_sem, t2])
        have s3 : ((((wr.setCell ⟨w.heap.size, 0, none⟩ (.slice none 0 0)).setCell ⟨w.heap.size, 1, none⟩ (.int .i64 0)).setCell ⟨w.heap.size, 2, none⟩ (.bool false)).setCell ⟨w.heap.size, 3, none⟩ (.slice none 0 0)).cell? ⟨w.heap.size, 3, none⟩ = some (.slice none 0 0) := World.cell?_setCell_same' _ _ _ (by simp [go_sem, t3])
        simp [results, Try.f20, go_sem, loadCells, loadCellsFrom, s0, s1, s2, s3, ev, evZ]
      · rw [FN.out]; rfl
      · rw [FN.out]; rfl
      · exact ((((HB.out.setCell (p := ⟨w.heap.size, 0, none⟩) (Nat.le_refl _) _).setCell (p := ⟨w.heap.size, 1, none⟩) (Nat.le_refl _) _).setCell (p := ⟨w.heap.size, 2, none⟩) (Nat.le_refl _) _).setCell (p := ⟨w.heap.size, 3, none⟩) (Nat.le_refl _) _)
end Go.Proofs.Ytimgdhdfefldpaa
