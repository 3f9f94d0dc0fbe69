/- The walk of Decode. -/
import Derived.Test.YthaiodajfmbeaaaGreatHx
namespace Go.Proofs.YthaiodajfmbeaaaGreat
open Go.RowKit
open Ed (Nt)

theorem src_lt {w : World} {ad : Addr} {m c : Nat} {l : List UInt8} (h : Src w (some ad) m c l) (hm : 0 < m) : ad.block < w.heap.size := by
  have hl := h.len
  have h1 := h.cells ad rfl 0 _ (bv_at l 0 (by omega))
  have := World.block_lt_of_cell? w _ h1
  rwa [add_block] at this
set_option maxHeartbeats 1000000 in
set_option maxRecDepth 100000 in
theorem equalX (ao : Option Addr) (m c : Nat) (l : List UInt8) (ao2 : Option Addr) (m2 c2 : Nat) (l2 : List UInt8) (w : World) (hs : Src w ao m c l) (hs2 : Src w ao2 m2 c2 l2) :
    Calls Tryz.prog 15 #[.slice ao m c, .slice ao2 m2 c2] w fun e w' => e = .returned (.bool (decide (l = l2))) ∧ w' = w := by
  have h1 := conv_src hs
  have h2 := conv_src hs2
  clear hs hs2
  go_enter Tryz.func15, Tryz.ntmps15
  go_wp2
  go_ret
  exact ⟨by rw [← list_beq]; rfl, rfl⟩
/-- Decode's answer. -/
def DecA (l : List UInt8) (w : World) (e : Ending) (w' : World) : Prop :=
  (∃ y : VV, e = .returned (.tuple #[y.val, .int .i64 (if Ed.isVer l then 0 else 2)]) ∧ VV.held w' y ∧ y.v = (if Ed.isVer l then Ed.rdV l else zeroV.v)) ∧ Below w.heap.size w w'
theorem DecA.no {l : List UInt8} {w w' : World} (h : Ed.isVer l = false) (hb : Below w.heap.size w w') : DecA l w (.returned (.tuple #[.agg #[.int .i64 0, .int .i64 0, .int .i64 0, .int .i64 0, .slice none 0 0], .int .i64 2])) w' :=
  ⟨⟨zeroV, by rw [h]; rfl, zeroV_held _, by rw [h]; rfl⟩, hb⟩

set_option maxHeartbeats 3000000 in
set_option maxRecDepth 100000 in
theorem decode_any (ao : Option Addr) (m c : Nat) (l : List UInt8) (w : World) (hs : Src w ao m c l) (hlt : ∀ ad, ao = some ad → ad.block < w.heap.size) (hn : m ≤ 140737488355328) :
    Calls Tryz.prog 5 #[.slice ao m c] w fun e w' => DecA l w e w' := by
  obtain ⟨W1, hW1⟩ : ∃ W1, w.alloc (.cells #[.int .i64 0, .int .i64 0, .int .i64 0, .int .i64 0, .slice none 0 0] 26) = W1 := ⟨_, rfl⟩
  have b1 : Hid (Below w.heap.size w W1) := by rw [← hW1]; exact (Below.refl _ _).alloc (Nat.le_refl _) _
  have g1 : Hid (W1.heap[w.heap.size]? = some (.cells #[.int .i64 0, .int .i64 0, .int .i64 0, .int .i64 0, .slice none 0 0] 26)) := by rw [← hW1]; exact heap_alloc_new w _
  have HS := keep hs
  have hml := hs.len
  have RX : Hid (Calls Tryz.prog 13 #[.slice ao m c] W1 fun e w' => ∃ x : VV, e = .returned x.val ∧ x.v = Ed.rdV l ∧ VV.held w' x ∧ Firm W1.heap.size w' x ∧ Below W1.heap.size W1 w') := by
    have h1 := hs.below b1.out
    rw [← hml] at h1 ⊢
    exact read_any ao c l W1 h1 (fun ad h => Nat.lt_of_lt_of_le (hlt ad h) b1.out.size) (by omega)
  obtain ⟨V, hV⟩ : ∃ V, Ed.rdV l = V := ⟨_, rfl⟩
  rw [hV] at RX
  have HV := keep hV
  clear hs hlt hml hV
  go_enter Tryz.func5, Tryz.ntmps5
  go_wp2_with fail
  refine RX.out.mono ?_
  rintro e w2 ⟨x, rfl, hxv, hxh, hxf, hb2⟩
  have XF := keep hxf
  have B2 := keep (b1.out.trans (hb2.mono b1.out.size))
  have G2 : Hid (w2.heap[w.heap.size]? = some (.cells #[.int .i64 0, .int .i64 0, .int .i64 0, .int .i64 0, .slice none 0 0] 26)) := (hb2.block _ (Array.getElem?_eq_some_iff.1 g1.out).1).trans g1.out
  have XH := keep hxh
  have XV := keep hxv
  obtain ⟨xp, xn, xc, xgen, xnext, xlog, xseq, xes⟩ := x
  unfold VV.val
  simp only
  obtain ⟨W3, hW3⟩ : ∃ W3, w2.alloc (.cells #[.int .i64 xgen, .int .i64 xnext, .int .i64 xlog, .int .i64 xseq, .slice xp xn xc] 26) = W3 := ⟨_, rfl⟩
  have b3 : Hid (Below w2.heap.size w2 W3) := by rw [← hW3]; exact (Below.refl _ _).alloc (Nat.le_refl _) _
  have g3 : Hid (W3.heap[w2.heap.size]? = some (.cells #[.int .i64 xgen, .int .i64 xnext, .int .i64 xlog, .int .i64 xseq, .slice xp xn xc] 26)) := by rw [← hW3]; exact heap_alloc_new w2 _
  have B3 := keep (B2.out.trans (b3.out.mono B2.out.size))
  have EN := keep (encode_any ⟨xp, xn, xc, xgen, xnext, xlog, xseq, xes⟩ W3 (XH.out.below b3.out))
  rw [XV.out] at EN
  unfold EncA VV.val at EN
  simp only at EN
  have y0 : W3.cell? ⟨w2.heap.size, 0, none⟩ = some (.int .i64 xgen) := cell_of_row _ _ _ _ _ _ g3.out
  have y1 : W3.cell? ⟨w2.heap.size, 1, none⟩ = some (.int .i64 xnext) := cell_of_row _ _ _ _ _ _ g3.out
  have y2 : W3.cell? ⟨w2.heap.size, 2, none⟩ = some (.int .i64 xlog) := cell_of_row _ _ _ _ _ _ g3.out
  have y3 : W3.cell? ⟨w2.heap.size, 3, none⟩ = some (.int .i64 xseq) := cell_of_row _ _ _ _ _ _ g3.out
  have y4 : W3.cell? ⟨w2.heap.size, 4, none⟩ = some (.slice xp xn xc) := cell_of_row _ _ _ _ _ _ g3.out
  clear hxv hxh hxf hb2 RX
  cases hck : Ed.chk V with
  | false =>
    have e1 : chkN V = 1 := by unfold chkN; rw [hck]; rfl
    have NV : Ed.isVer l = false := by unfold Ed.isVer; rw [HV.out, hck]; rfl
    have NO := keep (fun w' => DecA.no (w := w) (w' := w') NV)
    rw [e1] at EN
    clear e1 NV hck
    go_wp2_with fail
    refine EN.out.mono ?_
    rintro e w4 ⟨a4, m4, c4, l4, rfl, hs4, hl4, hb4⟩
    have BZ := keep (B3.out.trans (hb4.mono B3.out.size))
    have GZ : Hid (w4.heap[w.heap.size]? = some (.cells #[.int .i64 0, .int .i64 0, .int .i64 0, .int .i64 0, .slice none 0 0] 26)) := by
      have h1 := (b3.out.block _ (Array.getElem?_eq_some_iff.1 G2.out).1).trans G2.out
      exact (hb4.block _ (Array.getElem?_eq_some_iff.1 h1).1).trans h1
    clear hs4 hl4 hb4 EN hW3 y0 y1 y2 y3 y4
    have z0 : w4.cell? ⟨w.heap.size, 0, none⟩ = some (.int .i64 0) := cell_of_row _ _ _ _ _ _ GZ.out
    have f0 : w4.frozen? ⟨w.heap.size, 0, none⟩ = false := by simp [World.frozen?, GZ.out]
    have z1 : w4.cell? ⟨w.heap.size, 1, none⟩ = some (.int .i64 0) := cell_of_row _ _ _ _ _ _ GZ.out
    have f1 : w4.frozen? ⟨w.heap.size, 1, none⟩ = false := by simp [World.frozen?, GZ.out]
    have z2 : w4.cell? ⟨w.heap.size, 2, none⟩ = some (.int .i64 0) := cell_of_row _ _ _ _ _ _ GZ.out
    have f2 : w4.frozen? ⟨w.heap.size, 2, none⟩ = false := by simp [World.frozen?, GZ.out]
    have z3 : w4.cell? ⟨w.heap.size, 3, none⟩ = some (.int .i64 0) := cell_of_row _ _ _ _ _ _ GZ.out
    have f3 : w4.frozen? ⟨w.heap.size, 3, none⟩ = false := by simp [World.frozen?, GZ.out]
    have z4 : w4.cell? ⟨w.heap.size, 4, none⟩ = some (.slice none 0 0) := cell_of_row _ _ _ _ _ _ GZ.out
    have f4 : w4.frozen? ⟨w.heap.size, 4, none⟩ = false := by simp [World.frozen?, GZ.out]
    go_wp2
    refine ⟨rfl, .tuple #[.agg #[.int .i64 0, .int .i64 0, .int .i64 0, .int .i64 0, .slice none 0 0], .int .i64 2], ?_, ?_⟩
    · have r0 : (w4.setCell ⟨w.heap.size, 0, none⟩ (.int .i64 0)).cell? ⟨w.heap.size, 0, none⟩ = some (.int .i64 0) := World.cell?_setCell_same' _ _ _ (by simp [go_sem, z0])
      have r1 : ((w4.setCell ⟨w.heap.size, 0, none⟩ (.int .i64 0)).setCell ⟨w.heap.size, 1, none⟩ (.int .i64 0)).cell? ⟨w.heap.size, 1, none⟩ = some (.int .i64 0) := World.cell?_setCell_same' _ _ _ (by simp [go_sem, z1])
      have r2 : (((w4.setCell ⟨w.heap.size, 0, none⟩ (.int .i64 0)).setCell ⟨w.heap.size, 1, none⟩ (.int .i64 0)).setCell ⟨w.heap.size, 2, none⟩ (.int .i64 0)).cell? ⟨w.heap.size, 2, none⟩ = some (.int .i64 0) := World.cell?_setCell_same' _ _ _ (by simp [go_sem, z2])
      have r3 : ((((w4.setCell ⟨w.heap.size, 0, none⟩ (.int .i64 0)).setCell ⟨w.heap.size, 1, none⟩ (.int .i64 0)).setCell ⟨w.heap.size, 2, none⟩ (.int .i64 0)).setCell ⟨w.heap.size, 3, none⟩ (.int .i64 0)).cell? ⟨w.heap.size, 3, none⟩ = some (.int .i64 0) := World.cell?_setCell_same' _ _ _ (by simp [go_sem, z3])
      have r4 : (((((w4.setCell ⟨w.heap.size, 0, none⟩ (.int .i64 0)).setCell ⟨w.heap.size, 1, none⟩ (.int .i64 0)).setCell ⟨w.heap.size, 2, none⟩ (.int .i64 0)).setCell ⟨w.heap.size, 3, none⟩ (.int .i64 0)).setCell ⟨w.heap.size, 4, none⟩ (.slice none 0 0)).cell? ⟨w.heap.size, 4, none⟩ = some (.slice none 0 0) := World.cell?_setCell_same' _ _ _ (by simp [go_sem, z4])
      simp [results, Tryz.f5, go_sem, loadCells, loadCellsFrom, r0, r1, r2, r3, r4]
    · exact NO.out _ (((((BZ.out.setCell (p := ⟨w.heap.size, 0, none⟩) (Nat.le_refl _) _).setCell (p := ⟨w.heap.size, 1, none⟩) (Nat.le_refl _) _).setCell (p := ⟨w.heap.size, 2, none⟩) (Nat.le_refl _) _).setCell (p := ⟨w.heap.size, 3, none⟩) (Nat.le_refl _) _).setCell (p := ⟨w.heap.size, 4, none⟩) (Nat.le_refl _) _)
  | true =>
    have e1 : chkN V = 0 := by unfold chkN; rw [hck]; rfl
    rw [e1, hck, if_pos rfl] at EN
    have HCK := keep hck
    clear e1 hck
    go_wp2_with fail
    refine EN.out.mono ?_
    rintro e w4 ⟨a4, m4, c4, l4, rfl, hs4, hl4, hb4⟩
    have BZ := keep (B3.out.trans (hb4.mono B3.out.size))
    have GZ : Hid (w4.heap[w.heap.size]? = some (.cells #[.int .i64 0, .int .i64 0, .int .i64 0, .int .i64 0, .slice none 0 0] 26)) := by
      have h1 := (b3.out.block _ (Array.getElem?_eq_some_iff.1 G2.out).1).trans G2.out
      exact (hb4.block _ (Array.getElem?_eq_some_iff.1 h1).1).trans h1
    have a0 := belowE hb4 y0
    have a1 := belowE hb4 y1
    have a2 := belowE hb4 y2
    have a3 := belowE hb4 y3
    have a4' := belowE hb4 y4
    have EQ := keep (equalX a4 m4 c4 l4 ao m c l w4 hs4 (HS.out.below BZ.out))
    have XF4 := keep ((XF.out.below b3.out).below hb4)
    have IV : Hid (Ed.isVer l = decide (l4 = l)) := by show _ = _; unfold Ed.isVer; rw [HV.out, HCK.out, hl4]; rfl
    clear hs4 hl4 hb4 EN hW3 y0 y1 y2 y3 y4
    by_cases he : l4 = l
    · rw [decide_eq_true he] at EQ IV
      clear he
      go_wp2_with fail
      refine EQ.out.mono ?_
      rintro e w5 ⟨rfl, rfl⟩
      clear EQ
      have z0 : w5.cell? ⟨w.heap.size, 0, none⟩ = some (.int .i64 0) := cell_of_row _ _ _ _ _ _ GZ.out
      have f0 : w5.frozen? ⟨w.heap.size, 0, none⟩ = false := by simp [World.frozen?, GZ.out]
      have z1 : w5.cell? ⟨w.heap.size, 1, none⟩ = some (.int .i64 0) := cell_of_row _ _ _ _ _ _ GZ.out
      have f1 : w5.frozen? ⟨w.heap.size, 1, none⟩ = false := by simp [World.frozen?, GZ.out]
      have z2 : w5.cell? ⟨w.heap.size, 2, none⟩ = some (.int .i64 0) := cell_of_row _ _ _ _ _ _ GZ.out
      have f2 : w5.frozen? ⟨w.heap.size, 2, none⟩ = false := by simp [World.frozen?, GZ.out]
      have z3 : w5.cell? ⟨w.heap.size, 3, none⟩ = some (.int .i64 0) := cell_of_row _ _ _ _ _ _ GZ.out
      have f3 : w5.frozen? ⟨w.heap.size, 3, none⟩ = false := by simp [World.frozen?, GZ.out]
      have z4 : w5.cell? ⟨w.heap.size, 4, none⟩ = some (.slice none 0 0) := cell_of_row _ _ _ _ _ _ GZ.out
      have f4 : w5.frozen? ⟨w.heap.size, 4, none⟩ = false := by simp [World.frozen?, GZ.out]
      go_wp2
      refine ⟨rfl, .tuple #[.agg #[.int .i64 xgen, .int .i64 xnext, .int .i64 xlog, .int .i64 xseq, .slice xp xn xc], .int .i64 0], ?_, ?_⟩
      · have r0 : (w5.setCell ⟨w.heap.size, 0, none⟩ (.int .i64 xgen)).cell? ⟨w.heap.size, 0, none⟩ = some (.int .i64 xgen) := World.cell?_setCell_same' _ _ _ (by simp [go_sem, z0])
        have r1 : ((w5.setCell ⟨w.heap.size, 0, none⟩ (.int .i64 xgen)).setCell ⟨w.heap.size, 1, none⟩ (.int .i64 xnext)).cell? ⟨w.heap.size, 1, none⟩ = some (.int .i64 xnext) := World.cell?_setCell_same' _ _ _ (by simp [go_sem, z1])
        have r2 : (((w5.setCell ⟨w.heap.size, 0, none⟩ (.int .i64 xgen)).setCell ⟨w.heap.size, 1, none⟩ (.int .i64 xnext)).setCell ⟨w.heap.size, 2, none⟩ (.int .i64 xlog)).cell? ⟨w.heap.size, 2, none⟩ = some (.int .i64 xlog) := World.cell?_setCell_same' _ _ _ (by simp [go_sem, z2])
        have r3 : ((((w5.setCell ⟨w.heap.size, 0, none⟩ (.int .i64 xgen)).setCell ⟨w.heap.size, 1, none⟩ (.int .i64 xnext)).setCell ⟨w.heap.size, 2, none⟩ (.int .i64 xlog)).setCell ⟨w.heap.size, 3, none⟩ (.int .i64 xseq)).cell? ⟨w.heap.size, 3, none⟩ = some (.int .i64 xseq) := World.cell?_setCell_same' _ _ _ (by simp [go_sem, z3])
        have r4 : (((((w5.setCell ⟨w.heap.size, 0, none⟩ (.int .i64 xgen)).setCell ⟨w.heap.size, 1, none⟩ (.int .i64 xnext)).setCell ⟨w.heap.size, 2, none⟩ (.int .i64 xlog)).setCell ⟨w.heap.size, 3, none⟩ (.int .i64 xseq)).setCell ⟨w.heap.size, 4, none⟩ (.slice xp xn xc)).cell? ⟨w.heap.size, 4, none⟩ = some (.slice xp xn xc) := World.cell?_setCell_same' _ _ _ (by simp [go_sem, z4])
        simp [results, Tryz.f5, go_sem, loadCells, loadCellsFrom, r0, r1, r2, r3, r4]
      · have FJ := XF4.out.five GZ.out (by decide) (by decide) (.int .i64 xgen) (.int .i64 xnext) (.int .i64 xlog) (.int .i64 xseq) (.slice xp xn xc)
        exact ⟨⟨⟨xp, xn, xc, xgen, xnext, xlog, xseq, xes⟩, by rw [IV.out]; rfl, FJ.held, by rw [IV.out, if_pos rfl, HV.out]; exact XV.out⟩, (((((BZ.out.setCell (p := ⟨w.heap.size, 0, none⟩) (Nat.le_refl _) _).setCell (p := ⟨w.heap.size, 1, none⟩) (Nat.le_refl _) _).setCell (p := ⟨w.heap.size, 2, none⟩) (Nat.le_refl _) _).setCell (p := ⟨w.heap.size, 3, none⟩) (Nat.le_refl _) _).setCell (p := ⟨w.heap.size, 4, none⟩) (Nat.le_refl _) _)⟩
    · rw [decide_eq_false he] at EQ IV
      have NO := keep (fun w' => DecA.no (w := w) (w' := w') IV.out)
      clear he
      go_wp2_with fail
      refine EQ.out.mono ?_
      rintro e w5 ⟨rfl, rfl⟩
      clear EQ a0 a1 a2 a3 a4'
      have z0 : w5.cell? ⟨w.heap.size, 0, none⟩ = some (.int .i64 0) := cell_of_row _ _ _ _ _ _ GZ.out
      have f0 : w5.frozen? ⟨w.heap.size, 0, none⟩ = false := by simp [World.frozen?, GZ.out]
      have z1 : w5.cell? ⟨w.heap.size, 1, none⟩ = some (.int .i64 0) := cell_of_row _ _ _ _ _ _ GZ.out
      have f1 : w5.frozen? ⟨w.heap.size, 1, none⟩ = false := by simp [World.frozen?, GZ.out]
      have z2 : w5.cell? ⟨w.heap.size, 2, none⟩ = some (.int .i64 0) := cell_of_row _ _ _ _ _ _ GZ.out
      have f2 : w5.frozen? ⟨w.heap.size, 2, none⟩ = false := by simp [World.frozen?, GZ.out]
      have z3 : w5.cell? ⟨w.heap.size, 3, none⟩ = some (.int .i64 0) := cell_of_row _ _ _ _ _ _ GZ.out
      have f3 : w5.frozen? ⟨w.heap.size, 3, none⟩ = false := by simp [World.frozen?, GZ.out]
      have z4 : w5.cell? ⟨w.heap.size, 4, none⟩ = some (.slice none 0 0) := cell_of_row _ _ _ _ _ _ GZ.out
      have f4 : w5.frozen? ⟨w.heap.size, 4, none⟩ = false := by simp [World.frozen?, GZ.out]
      go_wp2
      refine ⟨rfl, .tuple #[.agg #[.int .i64 0, .int .i64 0, .int .i64 0, .int .i64 0, .slice none 0 0], .int .i64 2], ?_, ?_⟩
      · have r0 : (w5.setCell ⟨w.heap.size, 0, none⟩ (.int .i64 0)).cell? ⟨w.heap.size, 0, none⟩ = some (.int .i64 0) := World.cell?_setCell_same' _ _ _ (by simp [go_sem, z0])
        have r1 : ((w5.setCell ⟨w.heap.size, 0, none⟩ (.int .i64 0)).setCell ⟨w.heap.size, 1, none⟩ (.int .i64 0)).cell? ⟨w.heap.size, 1, none⟩ = some (.int .i64 0) := World.cell?_setCell_same' _ _ _ (by simp [go_sem, z1])
        have r2 : (((w5.setCell ⟨w.heap.size, 0, none⟩ (.int .i64 0)).setCell ⟨w.heap.size, 1, none⟩ (.int .i64 0)).setCell ⟨w.heap.size, 2, none⟩ (.int .i64 0)).cell? ⟨w.heap.size, 2, none⟩ = some (.int .i64 0) := World.cell?_setCell_same' _ _ _ (by simp [go_sem, z2])
        have r3 : ((((w5.setCell ⟨w.heap.size, 0, none⟩ (.int .i64 0)).setCell ⟨w.heap.size, 1, none⟩ (.int .i64 0)).setCell ⟨w.heap.size, 2, none⟩ (.int .i64 0)).setCell ⟨w.heap.size, 3, none⟩ (.int .i64 0)).cell? ⟨w.heap.size, 3, none⟩ = some (.int .i64 0) := World.cell?_setCell_same' _ _ _ (by simp [go_sem, z3])
        have r4 : (((((w5.setCell ⟨w.heap.size, 0, none⟩ (.int .i64 0)).setCell ⟨w.heap.size, 1, none⟩ (.int .i64 0)).setCell ⟨w.heap.size, 2, none⟩ (.int .i64 0)).setCell ⟨w.heap.size, 3, none⟩ (.int .i64 0)).setCell ⟨w.heap.size, 4, none⟩ (.slice none 0 0)).cell? ⟨w.heap.size, 4, none⟩ = some (.slice none 0 0) := World.cell?_setCell_same' _ _ _ (by simp [go_sem, z4])
        simp [results, Tryz.f5, go_sem, loadCells, loadCellsFrom, r0, r1, r2, r3, r4]
      · exact NO.out _ (((((BZ.out.setCell (p := ⟨w.heap.size, 0, none⟩) (Nat.le_refl _) _).setCell (p := ⟨w.heap.size, 1, none⟩) (Nat.le_refl _) _).setCell (p := ⟨w.heap.size, 2, none⟩) (Nat.le_refl _) _).setCell (p := ⟨w.heap.size, 3, none⟩) (Nat.le_refl _) _).setCell (p := ⟨w.heap.size, 4, none⟩) (Nat.le_refl _) _)
end Go.Proofs.YthaiodajfmbeaaaGreat
