/- The walk of Get on a table whose pieces were asked. -/
import Derived.Test.YtjblicgbdecbcaaZQa
namespace Go.Proofs.Ytjblicgbdecbcaa
open Go.RowKit
open Sk (Ent)

theorem verE_app (a b : List Ent) (key : List UInt8) (s : Int) : verE (a ++ b) key s = (verE a key s).or (verE b key s) := by
  unfold verE
  rw [List.find?_append]
theorem entsD_snoc (ds : List DE) (d : DE) : entsD (ds ++ [d]) = entsD ds ++ d.ys.map (·.e) := by simp [entsD]
/-- What Get tells of a table. -/
def gotT (ds : List DE) (Fl key : List UInt8) (s : Int) : Option Ent := if Bl.has Fl key then verE (entsD ds) key s else none
set_option maxHeartbeats 4000000 in
set_option maxRecDepth 100000 in
theorem get_done (tb : Nat) (ds : List DE) (Fl : List UInt8) (kp : Option Addr) (kc : Nat) (key : List UInt8) (s : Int) (w : World) (hT : TDone w tb ds Fl) (hl : ds.length ≤ 64) (hF : Fl.length ≤ 140737488355328) (hK : key.length + 1 ≤ 140737488355328) (hMAY : ∀ d ∈ ds, d.ys.length ≤ 64 ∧ ∀ y ∈ d.ys, y.e.key.length ≤ 64 ∧ y.e.val.length ≤ 1024) (hs : Src w kp key.length kc key) :
    Calls Try.prog 10 #[.pointer (some ⟨tb, 0, none⟩), .slice kp key.length kc, .int .i64 s] w fun e w' => ∃ y : EV, e = .returned (.tuple #[ev y, .bool (gotT ds Fl key s).isSome]) ∧ y.e = (gotT ds Fl key s).getD zeroE ∧ OwnE w.heap.size w' y ∧ Below w.heap.size w w' := by
  obtain ⟨pa, pc, fa, fc, h1, h2, h3⟩ := hT.tab
  have TD := keep hT
  have HS := keep hs
  have MAY := keep hMAY
  have PR := keep h2
  obtain ⟨W1, hW1⟩ : ∃ W1, w.alloc (.cells #[.slice none 0 0, .int .i64 0, .bool false, .slice none 0 0] 32) = W1 := ⟨_, rfl⟩
  have b1 : Hid (Below w.heap.size w W1) := by rw [← hW1]; exact (Below.refl _ _).alloc (Nat.le_refl _) _
  have g1 : Hid (W1.heap[w.heap.size]? = some (.cells #[.slice none 0 0, .int .i64 0, .bool false, .slice none 0 0] 32)) := by rw [← hW1]; exact heap_alloc_new w _
  have gl : Hid (w.heap.size < W1.heap.size) := by rw [← hW1]; show _ < _; simp
  have c0 : W1.cell? ⟨tb, 0, none⟩ = some (.slice pa ds.length pc) := below_cell b1.out (cell_of_row _ _ _ _ _ _ h1)
  have c1 : W1.cell? ⟨tb, 1, none⟩ = some (.slice fa Fl.length fc) := below_cell b1.out (cell_of_row _ _ _ _ _ _ h1)
  have HAS := keep (has_any fa Fl.length fc Fl kp key.length kc key W1 hF hK (h3.below b1.out) (hs.below b1.out))
  have GT : Hid (gotT ds Fl key s = if Bl.has Fl key then verE (entsD ds) key s else none) := rfl
  obtain ⟨N, hN⟩ : ∃ N, ds.length = N := ⟨_, rfl⟩
  have HN := keep hN
  rw [hN] at c0 PR hl
  obtain ⟨L, hL⟩ : ∃ L, key.length = L := ⟨_, rfl⟩
  have HKL := keep hL
  rw [hL] at HAS HS ⊢
  obtain ⟨FL, hFL⟩ : ∃ FL, Fl.length = FL := ⟨_, rfl⟩
  rw [hFL] at c1 HAS
  clear hT hs hMAY h1 h2 h3 hN hL hFL hF hK
  cases hh : Bl.has Fl key with
  | false =>
    rw [hh] at HAS
    have FN : Hid (gotT ds Fl key s = none) := by show _ = _; rw [GT.out, hh]; rfl
    clear hh
    go_enter Try.func10, Try.ntmps10
    go_wp2_with fail
    refine HAS.out.mono ?_
    rintro e wr ⟨rfl, hbr⟩
    have HB := keep (b1.out.trans (hbr.mono b1.out.size))
    have G5 : Hid (wr.heap[w.heap.size]? = some (.cells #[.slice none 0 0, .int .i64 0, .bool false, .slice none 0 0] 32)) := (hbr.block _ gl.out).trans g1.out
    clear hbr
    have t0 : wr.cell? ⟨w.heap.size, 0, none⟩ = some (.slice none 0 0) := cell_of_row _ _ _ _ _ _ G5.out
    have t1 : wr.cell? ⟨w.heap.size, 1, none⟩ = some (.int .i64 0) := cell_of_row _ _ _ _ _ _ G5.out
    have t2 : wr.cell? ⟨w.heap.size, 2, none⟩ = some (.bool false) := cell_of_row _ _ _ _ _ _ G5.out
    have t3 : wr.cell? ⟨w.heap.size, 3, none⟩ = some (.slice none 0 0) := cell_of_row _ _ _ _ _ _ G5.out
    have f0 : wr.frozen? ⟨w.heap.size, 0, none⟩ = false := by simp [World.frozen?, G5.out]
    have f1 : wr.frozen? ⟨w.heap.size, 1, none⟩ = false := by simp [World.frozen?, G5.out]
    have f2 : wr.frozen? ⟨w.heap.size, 2, none⟩ = false := by simp [World.frozen?, G5.out]
    have f3 : wr.frozen? ⟨w.heap.size, 3, none⟩ = false := by simp [World.frozen?, G5.out]
    go_wp2
    refine ⟨rfl, .tuple #[ev evZ, .bool false], ?_, evZ, ?_, ?_, ⟨World.ownsRow_nil _ _ _ _, World.ownsRow_nil _ _ _ _⟩, ?_⟩
    · have s0 : (wr.setCell ⟨w.heap.size, 0, none⟩ (.slice none 0 0)).cell? ⟨w.heap.size, 0, none⟩ = some (.slice none 0 0) := World.cell?_setCell_same' _ _ _ (by simp [go_sem, t0])
      have s1 : ((wr.setCell ⟨w.heap.size, 0, none⟩ (.slice none 0 0)).setCell ⟨w.heap.size, 1, none⟩ (.int .i64 0)).cell? ⟨w.heap.size, 1, none⟩ = some (.int .i64 0) := World.cell?_setCell_same' _ _ _ (by simp [go_sem, t1])
      have s2 : (((wr.setCell ⟨w.heap.size, 0, none⟩ (.slice none 0 0)).setCell ⟨w.heap.size, 1, none⟩ (.int .i64 0)).setCell ⟨w.heap.size, 2, none⟩ (.bool false)).cell? ⟨w.heap.size, 2, none⟩ = some (.bool false) := World.cell?_setCell_same' _ _ _ (by simp [go_sem, t2])
      have s3 : ((((wr.setCell ⟨w.heap.size, 0, none⟩ (.slice none 0 0)).setCell ⟨w.heap.size, 1, none⟩ (.int .i64 0)).setCell ⟨w.heap.size, 2, none⟩ (.bool false)).setCell ⟨w.heap.size, 3, none⟩ (.slice none 0 0)).cell? ⟨w.heap.size, 3, none⟩ = some (.slice none 0 0) := World.cell?_setCell_same' _ _ _ (by simp [go_sem, t3])
      simp [results, Try.f10, go_sem, loadCells, loadCellsFrom, s0, s1, s2, s3, ev, evZ]
    · rw [FN.out]; rfl
    · rw [FN.out]; rfl
    · exact ((((HB.out.setCell (p := ⟨w.heap.size, 0, none⟩) (Nat.le_refl _) _).setCell (p := ⟨w.heap.size, 1, none⟩) (Nat.le_refl _) _).setCell (p := ⟨w.heap.size, 2, none⟩) (Nat.le_refl _) _).setCell (p := ⟨w.heap.size, 3, none⟩) (Nat.le_refl _) _)
  | true =>
    rw [hh] at HAS
    have GV : Hid (gotT ds Fl key s = verE (entsD ds) key s) := by show _ = _; rw [GT.out, hh]; rfl
    clear hh
    go_enter Try.func10, Try.ntmps10
    go_wp2_with fail
    refine HAS.out.mono ?_
    rintro e w2 ⟨rfl, hb2⟩
    have b2 := keep hb2
    have c2 : w2.cell? ⟨tb, 0, none⟩ = some (.slice pa N pc) := below_cell hb2 c0
    clear hb2 hW1 c0 c1
    go_wp2
    go_loopw [29] (fun i wr => ∃ k : Nat, k ≤ N ∧ i = .int .i64 (k : Int) ∧ Hid (Below W1.heap.size W1 wr ∧ verE (entsD (ds.take k)) key s = none)) (fun i _ => N - (intOf i).toNat)
    case atStart => exact ⟨0, Nat.zero_le _, rfl, b2.out, rfl⟩
    case round =>
      clear c2
      obtain ⟨k, hk, rfl, hI⟩ := hrel
      have HB := keep (b1.out.trans (hI.out.1.mono b1.out.size))
      by_cases hkn : k < N
      · obtain ⟨pb, po, rfl, _, _⟩ := PR.out.form ptrKind_ok (by omega)
        obtain ⟨d, hd⟩ : ∃ d, ds[k]? = some d := ⟨ds[k]'(by rw [HN.out]; exact hkn), List.getElem?_eq_getElem _⟩
        have p0 : wr.cell? ⟨pb, po + k, none⟩ = some (.pointer (some ⟨d.blk, 0, none⟩)) := ptr_cell (PR.out.below ptrKind_ok HB.out) (i := k) (by rw [List.getElem?_map, hd]; rfl)
        have PD := keep ((TD.out.each d (List.mem_of_getElem? hd)).below HB.out)
        have hdm := MAY.out d (List.mem_of_getElem? hd)
        have TK : Hid (entsD (ds.take (k + 1)) = entsD (ds.take k) ++ d.ys.map (·.e)) := by
          show _ = _
          rw [List.take_add_one, hd]
          exact entsD_snoc _ _
        have SP : Hid (verE (d.ys.map (·.e)) key s = none → verE (entsD (ds.take (k + 1))) key s = none) := fun h => by rw [TK.out, verE_app, hI.out.2, h]; rfl
        have FND : Hid (∀ x, verE (d.ys.map (·.e)) key s = some x → verE (entsD ds) key s = some x) := fun x h => by
          have e2 : entsD ds = entsD (ds.take (k + 1)) ++ entsD (ds.drop (k + 1)) := by
            have h2 : entsD (ds.take (k + 1) ++ ds.drop (k + 1)) = entsD (ds.take (k + 1)) ++ entsD (ds.drop (k + 1)) := by unfold entsD; rw [List.flatMap_append]
            rwa [List.take_append_drop] at h2
          rw [e2, verE_app, TK.out, verE_app, hI.out.2, h]
          rfl
        have LI := keep (list_again d.blk d.ea d.ys.length d.ec wr PD.out.row)
        have FI : Hid (∀ w', Below wr.heap.size wr w' → _) := fun w' hb => find_any d.ea d.ys.length d.ec d.ys kp kc key s w' (PD.out.ents.below entKind_ok hb) (fun y hy => by have := hdm.2 y hy; omega) (by have := hdm.1; omega) (by rw [HKL.out]; exact (HS.out.below HB.out).below hb)
        have j0 : (0 : Int) ≤ (k : Int) := by omega
        have ll : (k : Int) < (N : Int) := by omega
        rw [HKL.out] at FI
        clear hd hdm
        cases hv : verE (d.ys.map (·.e)) key s with
        | none =>
          rw [hv] at FI
          have NX := keep (SP.out hv)
          simp only [Option.isSome_none] at FI
          clear hv
          go_wp2_with fail
          refine LI.out.mono ?_
          rintro e w4 ⟨rfl, hb4⟩
          have b4 := keep hb4
          clear hb4
          go_wp2_with fail
          refine (FI.out w4 b4.out).mono ?_
          rintro e w5 ⟨y, rfl, _, _, hb5⟩
          have b5 := keep (b4.out.trans (hb5.mono b4.out.size))
          clear hb5
          unfold ev
          go_wp2
          go_roundw
          case rel => exact ⟨k + 1, by omega, by first | rfl | go_num, hI.out.1.trans ((b5.out.alloc b5.out.size _).mono hI.out.1.size), NX.out⟩
          case measure => simp [intOf]; omega
        | some x =>
          rw [hv] at FI
          have FA : Hid (gotT ds Fl key s = some x) := by show _ = _; rw [GV.out]; exact FND.out x hv
          simp only [Option.isSome_some, Option.getD_some] at FI
          clear hv
          go_wp2_with fail
          refine LI.out.mono ?_
          rintro e w4 ⟨rfl, hb4⟩
          have b4 := keep hb4
          clear hb4
          go_wp2_with fail
          refine (FI.out w4 b4.out).mono ?_
          rintro e w6 ⟨y, rfl, hye, hyo, hb6⟩
          obtain ⟨ykp, ykc, yvp, yvc, ⟨ykey, yseq, ygone, yval⟩⟩ := y
          obtain ⟨w5, hw5⟩ : ∃ w5, w6.alloc (.cells #[.slice ykp ykey.length ykc, .int .i64 yseq, .bool ygone, .slice yvp yval.length yvc] 32) = w5 := ⟨_, rfl⟩
          have b65 : Hid (Below w6.heap.size w6 w5) := by rw [← hw5]; exact (Below.refl _ _).alloc (Nat.le_refl _) _
          have g65 : Hid (w5.heap[w6.heap.size]? = some (.cells #[.slice ykp ykey.length ykc, .int .i64 yseq, .bool ygone, .slice yvp yval.length yvc] 32)) := by rw [← hw5]; exact heap_alloc_new w6 _
          have bD := keep (hI.out.1.trans ((b4.out.trans ((hb6.trans (b65.out.mono hb6.size)).mono b4.out.size)).mono hI.out.1.size))
          have G5 : Hid (w5.heap[w.heap.size]? = some (.cells #[.slice none 0 0, .int .i64 0, .bool false, .slice none 0 0] 32)) := (bD.out.block _ gl.out).trans g1.out
          have BL5 := keep (b1.out.trans (bD.out.mono b1.out.size))
          have HYE := keep hye
          have O5 : Hid (OwnE w.heap.size w5 ⟨ykp, ykc, yvp, yvc, ⟨ykey, yseq, ygone, yval⟩⟩) := by
            have o := hyo.base (Nat.le_trans HB.out.size b4.out.size)
            exact ⟨own_block o.1 (fun g hg => b65.out.block g (own_size o.1 hg)), own_block o.2 (fun g hg => b65.out.block g (own_size o.2 hg))⟩
          have t0 : w5.cell? ⟨w.heap.size, 0, none⟩ = some (.slice none 0 0) := cell_of_row _ _ _ _ _ _ G5.out
          have t1 : w5.cell? ⟨w.heap.size, 1, none⟩ = some (.int .i64 0) := cell_of_row _ _ _ _ _ _ G5.out
          have t2 : w5.cell? ⟨w.heap.size, 2, none⟩ = some (.bool false) := cell_of_row _ _ _ _ _ _ G5.out
          have t3 : w5.cell? ⟨w.heap.size, 3, none⟩ = some (.slice none 0 0) := cell_of_row _ _ _ _ _ _ G5.out
          have f0 : w5.frozen? ⟨w.heap.size, 0, none⟩ = false := by simp [World.frozen?, G5.out]
          have f1 : w5.frozen? ⟨w.heap.size, 1, none⟩ = false := by simp [World.frozen?, G5.out]
          have f2 : w5.frozen? ⟨w.heap.size, 2, none⟩ = false := by simp [World.frozen?, G5.out]
          have f3 : w5.frozen? ⟨w.heap.size, 3, none⟩ = false := by simp [World.frozen?, G5.out]
          have r0 : w5.cell? ⟨w6.heap.size, 0, none⟩ = some (.slice ykp ykey.length ykc) := cell_of_row _ _ _ _ _ _ g65.out
          have r1 : w5.cell? ⟨w6.heap.size, 1, none⟩ = some (.int .i64 yseq) := cell_of_row _ _ _ _ _ _ g65.out
          have r2 : w5.cell? ⟨w6.heap.size, 2, none⟩ = some (.bool ygone) := cell_of_row _ _ _ _ _ _ g65.out
          have r3 : w5.cell? ⟨w6.heap.size, 3, none⟩ = some (.slice yvp yval.length yvc) := cell_of_row _ _ _ _ _ _ g65.out
          unfold ev
          simp only
          clear hye hyo hb6
          go_wp2
          have far : ∀ {v : Value} {n : Nat} {xs : List Value}, w5.ownsRow w.heap.size 5 1 v n xs → ∀ g, v.ownBlock = some g → g ≠ w.heap.size := fun {v n xs} h g hg e => by
            obtain ⟨cur, hc⟩ := own_tag h hg
            rw [e, G5.out] at hc
            cases hc
          refine ⟨rfl, .tuple #[.agg #[.slice ykp ykey.length ykc, .int .i64 yseq, .bool ygone, .slice yvp yval.length yvc], .bool true], ?_, ⟨ykp, ykc, yvp, yvc, ⟨ykey, yseq, ygone, yval⟩⟩, ?_, ?_, ?_, ?_⟩
          · have s0 : (w5.setCell ⟨w.heap.size, 0, none⟩ (.slice ykp ykey.length ykc)).cell? ⟨w.heap.size, 0, none⟩ = some (.slice ykp ykey.length ykc) := World.cell?_setCell_same' _ _ _ (by simp [go_sem, t0])
            have s1 : ((w5.setCell ⟨w.heap.size, 0, none⟩ (.slice ykp ykey.length ykc)).setCell ⟨w.heap.size, 1, none⟩ (.int .i64 yseq)).cell? ⟨w.heap.size, 1, none⟩ = some (.int .i64 yseq) := World.cell?_setCell_same' _ _ _ (by simp [go_sem, t1])
            have s2 : (((w5.setCell ⟨w.heap.size, 0, none⟩ (.slice ykp ykey.length ykc)).setCell ⟨w.heap.size, 1, none⟩ (.int .i64 yseq)).setCell ⟨w.heap.size, 2, none⟩ (.bool ygone)).cell? ⟨w.heap.size, 2, none⟩ = some (.bool ygone) := World.cell?_setCell_same' _ _ _ (by simp [go_sem, t2])
            have s3 : ((((w5.setCell ⟨w.heap.size, 0, none⟩ (.slice ykp ykey.length ykc)).setCell ⟨w.heap.size, 1, none⟩ (.int .i64 yseq)).setCell ⟨w.heap.size, 2, none⟩ (.bool ygone)).setCell ⟨w.heap.size, 3, none⟩ (.slice yvp yval.length yvc)).cell? ⟨w.heap.size, 3, none⟩ = some (.slice yvp yval.length yvc) := World.cell?_setCell_same' _ _ _ (by simp [go_sem, t3])
            simp [results, Try.f10, go_sem, loadCells, loadCellsFrom, s0, s1, s2, s3]
          · rw [FA.out]; rfl
          · rw [FA.out]; exact HYE.out
          · refine ⟨?_, ?_⟩
            · refine own_block O5.out.1 (fun g hg => ?_)
              have h1 := far O5.out.1 g hg
              simp only [set_far _ _ h1]
            · refine own_block O5.out.2 (fun g hg => ?_)
              have h1 := far O5.out.2 g hg
              simp only [set_far _ _ h1]
          · exact ((((BL5.out.setCell (p := ⟨w.heap.size, 0, none⟩) (Nat.le_refl _) _).setCell (p := ⟨w.heap.size, 1, none⟩) (Nat.le_refl _) _).setCell (p := ⟨w.heap.size, 2, none⟩) (Nat.le_refl _) _).setCell (p := ⟨w.heap.size, 3, none⟩) (Nat.le_refl _) _)
      · obtain rfl : k = N := by omega
        have ll : ¬ (k : Int) < (k : Int) := by omega
        have G5 : Hid (wr.heap[w.heap.size]? = some (.cells #[.slice none 0 0, .int .i64 0, .bool false, .slice none 0 0] 32)) := (hI.out.1.block _ gl.out).trans g1.out
        have FN : Hid (gotT ds Fl key s = none) := by
          have h1 := hI.out.2
          rw [List.take_of_length_le (by rw [HN.out]; exact Nat.le_refl _)] at h1
          show _ = _
          rw [GV.out]
          exact h1
        have t0 : wr.cell? ⟨w.heap.size, 0, none⟩ = some (.slice none 0 0) := cell_of_row _ _ _ _ _ _ G5.out
        have t1 : wr.cell? ⟨w.heap.size, 1, none⟩ = some (.int .i64 0) := cell_of_row _ _ _ _ _ _ G5.out
        have t2 : wr.cell? ⟨w.heap.size, 2, none⟩ = some (.bool false) := cell_of_row _ _ _ _ _ _ G5.out
        have t3 : wr.cell? ⟨w.heap.size, 3, none⟩ = some (.slice none 0 0) := cell_of_row _ _ _ _ _ _ G5.out
        have f0 : wr.frozen? ⟨w.heap.size, 0, none⟩ = false := by simp [World.frozen?, G5.out]
        have f1 : wr.frozen? ⟨w.heap.size, 1, none⟩ = false := by simp [World.frozen?, G5.out]
        have f2 : wr.frozen? ⟨w.heap.size, 2, none⟩ = false := by simp [World.frozen?, G5.out]
        have f3 : wr.frozen? ⟨w.heap.size, 3, none⟩ = false := by simp [World.frozen?, G5.out]
        go_wp2
        refine ⟨rfl, .tuple #[ev evZ, .bool false], ?_, evZ, ?_, ?_, ⟨World.ownsRow_nil _ _ _ _, World.ownsRow_nil _ _ _ _⟩, ?_⟩
        · have s0 : (wr.setCell ⟨w.heap.size, 0, none⟩ (.slice none 0 0)).cell? ⟨w.heap.size, 0, none⟩ = some (.slice none 0 0) := World.cell?_setCell_same' _ _ _ (by simp [go_sem, t0])
          have s1 : ((wr.setCell ⟨w.heap.size, 0, none⟩ (.slice none 0 0)).setCell ⟨w.heap.size, 1, none⟩ (.int .i64 0)).cell? ⟨w.heap.size, 1, none⟩ = some (.int .i64 0) := World.cell?_setCell_same' _ _ _ (by simp [go_sem, t1])
          have s2 : (((wr.setCell ⟨w.heap.size, 0, none⟩ (.slice none 0 0)).setCell ⟨w.heap.size, 1, none⟩ (.int .i64 0)).setCell ⟨w.heap.size, 2, none⟩ (.bool false)).cell? ⟨w.heap.size, 2, none⟩ = some (.bool false) := World.cell?_setCell_same' _ _ _ (by simp [go_sem, t2])
          have s3 : ((((wr.setCell ⟨w.heap.size, 0, none⟩ (.slice none 0 0)).setCell ⟨w.heap.size, 1, none⟩ (.int .i64 0)).setCell ⟨w.heap.size, 2, none⟩ (.bool false)).setCell ⟨w.heap.size, 3, none⟩ (.slice none 0 0)).cell? ⟨w.heap.size, 3, none⟩ = some (.slice none 0 0) := World.cell?_setCell_same' _ _ _ (by simp [go_sem, t3])
          simp [results, Try.f10, go_sem, loadCells, loadCellsFrom, s0, s1, s2, s3, ev, evZ]
        · rw [FN.out]; rfl
        · rw [FN.out]; rfl
        · exact ((((HB.out.setCell (p := ⟨w.heap.size, 0, none⟩) (Nat.le_refl _) _).setCell (p := ⟨w.heap.size, 1, none⟩) (Nat.le_refl _) _).setCell (p := ⟨w.heap.size, 2, none⟩) (Nat.le_refl _) _).setCell (p := ⟨w.heap.size, 3, none⟩) (Nat.le_refl _) _)
end Go.Proofs.Ytjblicgbdecbcaa
