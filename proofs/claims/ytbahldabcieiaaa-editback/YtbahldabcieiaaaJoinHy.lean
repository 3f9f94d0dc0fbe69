/- The walk of Decode. -/
/- The walk of the document's Less. -/
/- The walk of the document's Copy of a note. -/
/- The walk of the document's Same of versions that are the same. -/
/- The walk of the laws' theirs. -/
/- EditBack's walk. -/
import Derived.Test.YtbahldabcieiaaaHx
import Derived.Test.YtbahldabcieiaaaL
import Derived.Test.YtbahldabcieiaaaKl
import Derived.Deep.QuietTactic
import Derived.BigQuiet
import Derived.WalkSmall
import Derived.Test.YtbahldabcieiaaaH8
import Derived.Test.YtbahldabcieiaaaHl
import Derived.Test.YtbahldabcieiaaaHi
import Derived.Test.YtbahldabcieiaaaHo
namespace Go.Proofs.Ytbahldabcieiaaa
open Go.RowKit
open Ed (Nt)

theorem src_lt {w : World} {ad : Addr} {m c : Nat} {l : List UInt8} (h : Src w (some ad) m c l) (hm : 0 < m) : ad.block < w.heap.size := by
  have hl := h.len
  have h1 := h.cells ad rfl 0 _ (bv_at l 0 (by omega))
  have := World.block_lt_of_cell? w _ h1
  rwa [add_block] at this
set_option maxHeartbeats 1000000 in
set_option maxRecDepth 100000 in
theorem equalX (ao : Option Addr) (m c : Nat) (l : List UInt8) (ao2 : Option Addr) (m2 c2 : Nat) (l2 : List UInt8) (w : World) (hs : Src w ao m c l) (hs2 : Src w ao2 m2 c2 l2) :
    Calls Try.prog 36 #[.slice ao m c, .slice ao2 m2 c2] w fun e w' => e = .returned (.bool (decide (l = l2))) ∧ w' = w := by
  have h1 := conv_src hs
  have h2 := conv_src hs2
  clear hs hs2
  go_enter Try.func36, Try.ntmps36
  go_wp2
  go_ret
  exact ⟨by rw [← list_beq]; rfl, rfl⟩
/-- Decode's answer. -/
def DecA (l : List UInt8) (w : World) (e : Ending) (w' : World) : Prop :=
  (∃ y : VV, e = .returned (.tuple #[y.val, .int .i64 (if Ed.isVer l then 0 else 2)]) ∧ VV.held w' y ∧ y.v = (if Ed.isVer l then Ed.rdV l else zeroV.v)) ∧ Below w.heap.size w w'
theorem DecA.no {l : List UInt8} {w w' : World} (h : Ed.isVer l = false) (hb : Below w.heap.size w w') : DecA l w (.returned (.tuple #[.agg #[.int .i64 0, .int .i64 0, .int .i64 0, .int .i64 0, .slice none 0 0], .int .i64 2])) w' :=
  ⟨⟨zeroV, by rw [h]; rfl, zeroV_held _, by rw [h]; rfl⟩, hb⟩

set_option maxHeartbeats 3000000 in
set_option maxRecDepth 100000 in
theorem decode_any (ao : Option Addr) (m c : Nat) (l : List UInt8) (w : World) (hs : Src w ao m c l) (hlt : ∀ ad, ao = some ad → ad.block < w.heap.size) (hn : m ≤ 140737488355328) :
    Calls Try.prog 19 #[.slice ao m c] w fun e w' => DecA l w e w' := by
  obtain ⟨W1, hW1⟩ : ∃ W1, w.alloc (.cells #[.int .i64 0, .int .i64 0, .int .i64 0, .int .i64 0, .slice none 0 0] 30) = W1 := ⟨_, rfl⟩
  have b1 : Hid (Below w.heap.size w W1) := by rw [← hW1]; exact (Below.refl _ _).alloc (Nat.le_refl _) _
  have g1 : Hid (W1.heap[w.heap.size]? = some (.cells #[.int .i64 0, .int .i64 0, .int .i64 0, .int .i64 0, .slice none 0 0] 30)) := by rw [← hW1]; exact heap_alloc_new w _
  have HS := keep hs
  have hml := hs.len
  have RX : Hid (Calls Try.prog 35 #[.slice ao m c] W1 fun e w' => ∃ x : VV, e = .returned x.val ∧ x.v = Ed.rdV l ∧ VV.held w' x ∧ Firm W1.heap.size w' x ∧ Below W1.heap.size W1 w') := by
    have h1 := hs.below b1.out
    rw [← hml] at h1 ⊢
    exact read_any ao c l W1 h1 (fun ad h => Nat.lt_of_lt_of_le (hlt ad h) b1.out.size) (by omega)
  obtain ⟨V, hV⟩ : ∃ V, Ed.rdV l = V := ⟨_, rfl⟩
  rw [hV] at RX
  have HV := keep hV
  clear hs hlt hml hV
  go_enter Try.func19, Try.ntmps19
  go_wp2_with fail
  refine RX.out.mono ?_
  rintro e w2 ⟨x, rfl, hxv, hxh, hxf, hb2⟩
  have XF := keep hxf
  have B2 := keep (b1.out.trans (hb2.mono b1.out.size))
  have G2 : Hid (w2.heap[w.heap.size]? = some (.cells #[.int .i64 0, .int .i64 0, .int .i64 0, .int .i64 0, .slice none 0 0] 30)) := (hb2.block _ (Array.getElem?_eq_some_iff.1 g1.out).1).trans g1.out
  have XH := keep hxh
  have XV := keep hxv
  obtain ⟨xp, xn, xc, xgen, xnext, xlog, xseq, xes⟩ := x
  unfold VV.val
  simp only
  obtain ⟨W3, hW3⟩ : ∃ W3, w2.alloc (.cells #[.int .i64 xgen, .int .i64 xnext, .int .i64 xlog, .int .i64 xseq, .slice xp xn xc] 30) = W3 := ⟨_, rfl⟩
  have b3 : Hid (Below w2.heap.size w2 W3) := by rw [← hW3]; exact (Below.refl _ _).alloc (Nat.le_refl _) _
  have g3 : Hid (W3.heap[w2.heap.size]? = some (.cells #[.int .i64 xgen, .int .i64 xnext, .int .i64 xlog, .int .i64 xseq, .slice xp xn xc] 30)) := by rw [← hW3]; exact heap_alloc_new w2 _
  have B3 := keep (B2.out.trans (b3.out.mono B2.out.size))
  have EN := keep (encode_any ⟨xp, xn, xc, xgen, xnext, xlog, xseq, xes⟩ W3 (XH.out.below b3.out))
  rw [XV.out] at EN
  unfold EncA VV.val at EN
  simp only at EN
  have y0 : W3.cell? ⟨w2.heap.size, 0, none⟩ = some (.int .i64 xgen) := cell_of_row _ _ _ _ _ _ g3.out
  have y1 : W3.cell? ⟨w2.heap.size, 1, none⟩ = some (.int .i64 xnext) := cell_of_row _ _ _ _ _ _ g3.out
  have y2 : W3.cell? ⟨w2.heap.size, 2, none⟩ = some (.int .i64 xlog) := cell_of_row _ _ _ _ _ _ g3.out
  have y3 : W3.cell? ⟨w2.heap.size, 3, none⟩ = some (.int .i64 xseq) := cell_of_row _ _ _ _ _ _ g3.out
  have y4 : W3.cell? ⟨w2.heap.size, 4, none⟩ = some (.slice xp xn xc) := cell_of_row _ _ _ _ _ _ g3.out
  clear hxv hxh hxf hb2 RX
  cases hck : Ed.chk V with
  | false =>
    have e1 : chkN V = 1 := by unfold chkN; rw [hck]; rfl
    have NV : Ed.isVer l = false := by unfold Ed.isVer; rw [HV.out, hck]; rfl
    have NO := keep (fun w' => DecA.no (w := w) (w' := w') NV)
    rw [e1] at EN
    clear e1 NV hck
    go_wp2_with fail
    refine EN.out.mono ?_
    rintro e w4 ⟨a4, m4, c4, l4, rfl, hs4, hl4, hb4⟩
    have BZ := keep (B3.out.trans (hb4.mono B3.out.size))
    have GZ : Hid (w4.heap[w.heap.size]? = some (.cells #[.int .i64 0, .int .i64 0, .int .i64 0, .int .i64 0, .slice none 0 0] 30)) := by
      have h1 := (b3.out.block _ (Array.getElem?_eq_some_iff.1 G2.out).1).trans G2.out
      exact (hb4.block _ (Array.getElem?_eq_some_iff.1 h1).1).trans h1
    clear hs4 hl4 hb4 EN hW3 y0 y1 y2 y3 y4
    have z0 : w4.cell? ⟨w.heap.size, 0, none⟩ = some (.int .i64 0) := cell_of_row _ _ _ _ _ _ GZ.out
    have f0 : w4.frozen? ⟨w.heap.size, 0, none⟩ = false := by simp [World.frozen?, GZ.out]
    have z1 : w4.cell? ⟨w.heap.size, 1, none⟩ = some (.int .i64 0) := cell_of_row _ _ _ _ _ _ GZ.out
    have f1 : w4.frozen? ⟨w.heap.size, 1, none⟩ = false := by simp [World.frozen?, GZ.out]
    have z2 : w4.cell? ⟨w.heap.size, 2, none⟩ = some (.int .i64 0) := cell_of_row _ _ _ _ _ _ GZ.out
    have f2 : w4.frozen? ⟨w.heap.size, 2, none⟩ = false := by simp [World.frozen?, GZ.out]
    have z3 : w4.cell? ⟨w.heap.size, 3, none⟩ = some (.int .i64 0) := cell_of_row _ _ _ _ _ _ GZ.out
    have f3 : w4.frozen? ⟨w.heap.size, 3, none⟩ = false := by simp [World.frozen?, GZ.out]
    have z4 : w4.cell? ⟨w.heap.size, 4, none⟩ = some (.slice none 0 0) := cell_of_row _ _ _ _ _ _ GZ.out
    have f4 : w4.frozen? ⟨w.heap.size, 4, none⟩ = false := by simp [World.frozen?, GZ.out]
    go_wp2
    refine ⟨rfl, .tuple #[.agg #[.int .i64 0, .int .i64 0, .int .i64 0, .int .i64 0, .slice none 0 0], .int .i64 2], ?_, ?_⟩
    · have r0 : (w4.setCell ⟨w.heap.size, 0, none⟩ (.int .i64 0)).cell? ⟨w.heap.size, 0, none⟩ = some (.int .i64 0) := World.cell?_setCell_same' _ _ _ (by simp [go_sem, z0])
      have r1 : ((w4.setCell ⟨w.heap.size, 0, none⟩ (.int .i64 0)).setCell ⟨w.heap.size, 1, none⟩ (.int .i64 0)).cell? ⟨w.heap.size, 1, none⟩ = some (.int .i64 0) := World.cell?_setCell_same' _ _ _ (by simp [go_sem, z1])
      have r2 : (((w4.setCell ⟨w.heap.size, 0, none⟩ (.int .i64 0)).setCell ⟨w.heap.size, 1, none⟩ (.int .i64 0)).setCell ⟨w.heap.size, 2, none⟩ (.int .i64 0)).cell? ⟨w.heap.size, 2, none⟩ = some (.int .i64 0) := World.cell?_setCell_same' _ _ _ (by simp [go_sem, z2])
      have r3 : ((((w4.setCell ⟨w.heap.size, 0, none⟩ (.int .i64 0)).setCell ⟨w.heap.size, 1, none⟩ (.int .i64 0)).setCell ⟨w.heap.size, 2, none⟩ (.int .i64 0)).setCell ⟨w.heap.size, 3, none⟩ (.int .i64 0)).cell? ⟨w.heap.size, 3, none⟩ = some (.int .i64 0) := World.cell?_setCell_same' _ _ _ (by simp [go_sem, z3])
      have r4 : (((((w4.setCell ⟨w.heap.size, 0, none⟩ (.int .i64 0)).setCell ⟨w.heap.size, 1, none⟩ (.int .i64 0)).setCell ⟨w.heap.size, 2, none⟩ (.int .i64 0)).setCell ⟨w.heap.size, 3, none⟩ (.int .i64 0)).setCell ⟨w.heap.size, 4, none⟩ (.slice none 0 0)).cell? ⟨w.heap.size, 4, none⟩ = some (.slice none 0 0) := World.cell?_setCell_same' _ _ _ (by simp [go_sem, z4])
      simp [results, Try.f19, go_sem, loadCells, loadCellsFrom, r0, r1, r2, r3, r4]
    · exact NO.out _ (((((BZ.out.setCell (p := ⟨w.heap.size, 0, none⟩) (Nat.le_refl _) _).setCell (p := ⟨w.heap.size, 1, none⟩) (Nat.le_refl _) _).setCell (p := ⟨w.heap.size, 2, none⟩) (Nat.le_refl _) _).setCell (p := ⟨w.heap.size, 3, none⟩) (Nat.le_refl _) _).setCell (p := ⟨w.heap.size, 4, none⟩) (Nat.le_refl _) _)
  | true =>
    have e1 : chkN V = 0 := by unfold chkN; rw [hck]; rfl
    rw [e1, hck, if_pos rfl] at EN
    have HCK := keep hck
    clear e1 hck
    go_wp2_with fail
    refine EN.out.mono ?_
    rintro e w4 ⟨a4, m4, c4, l4, rfl, hs4, hl4, hb4⟩
    have BZ := keep (B3.out.trans (hb4.mono B3.out.size))
    have GZ : Hid (w4.heap[w.heap.size]? = some (.cells #[.int .i64 0, .int .i64 0, .int .i64 0, .int .i64 0, .slice none 0 0] 30)) := by
      have h1 := (b3.out.block _ (Array.getElem?_eq_some_iff.1 G2.out).1).trans G2.out
      exact (hb4.block _ (Array.getElem?_eq_some_iff.1 h1).1).trans h1
    have a0 := belowE hb4 y0
    have a1 := belowE hb4 y1
    have a2 := belowE hb4 y2
    have a3 := belowE hb4 y3
    have a4' := belowE hb4 y4
    have EQ := keep (equalX a4 m4 c4 l4 ao m c l w4 hs4 (HS.out.below BZ.out))
    have XF4 := keep ((XF.out.below b3.out).below hb4)
    have IV : Hid (Ed.isVer l = decide (l4 = l)) := by show _ = _; unfold Ed.isVer; rw [HV.out, HCK.out, hl4]; rfl
    clear hs4 hl4 hb4 EN hW3 y0 y1 y2 y3 y4
    by_cases he : l4 = l
    · rw [decide_eq_true he] at EQ IV
      clear he
      go_wp2_with fail
      refine EQ.out.mono ?_
      rintro e w5 ⟨rfl, rfl⟩
      clear EQ
      have z0 : w5.cell? ⟨w.heap.size, 0, none⟩ = some (.int .i64 0) := cell_of_row _ _ _ _ _ _ GZ.out
      have f0 : w5.frozen? ⟨w.heap.size, 0, none⟩ = false := by simp [World.frozen?, GZ.out]
      have z1 : w5.cell? ⟨w.heap.size, 1, none⟩ = some (.int .i64 0) := cell_of_row _ _ _ _ _ _ GZ.out
      have f1 : w5.frozen? ⟨w.heap.size, 1, none⟩ = false := by simp [World.frozen?, GZ.out]
      have z2 : w5.cell? ⟨w.heap.size, 2, none⟩ = some (.int .i64 0) := cell_of_row _ _ _ _ _ _ GZ.out
      have f2 : w5.frozen? ⟨w.heap.size, 2, none⟩ = false := by simp [World.frozen?, GZ.out]
      have z3 : w5.cell? ⟨w.heap.size, 3, none⟩ = some (.int .i64 0) := cell_of_row _ _ _ _ _ _ GZ.out
      have f3 : w5.frozen? ⟨w.heap.size, 3, none⟩ = false := by simp [World.frozen?, GZ.out]
      have z4 : w5.cell? ⟨w.heap.size, 4, none⟩ = some (.slice none 0 0) := cell_of_row _ _ _ _ _ _ GZ.out
      have f4 : w5.frozen? ⟨w.heap.size, 4, none⟩ = false := by simp [World.frozen?, GZ.out]
      go_wp2
      refine ⟨rfl, .tuple #[.agg #[.int .i64 xgen, .int .i64 xnext, .int .i64 xlog, .int .i64 xseq, .slice xp xn xc], .int .i64 0], ?_, ?_⟩
      · have r0 : (w5.setCell ⟨w.heap.size, 0, none⟩ (.int .i64 xgen)).cell? ⟨w.heap.size, 0, none⟩ = some (.int .i64 xgen) := World.cell?_setCell_same' _ _ _ (by simp [go_sem, z0])
        have r1 : ((w5.setCell ⟨w.heap.size, 0, none⟩ (.int .i64 xgen)).setCell ⟨w.heap.size, 1, none⟩ (.int .i64 xnext)).cell? ⟨w.heap.size, 1, none⟩ = some (.int .i64 xnext) := World.cell?_setCell_same' _ _ _ (by simp [go_sem, z1])
        have r2 : (((w5.setCell ⟨w.heap.size, 0, none⟩ (.int .i64 xgen)).setCell ⟨w.heap.size, 1, none⟩ (.int .i64 xnext)).setCell ⟨w.heap.size, 2, none⟩ (.int .i64 xlog)).cell? ⟨w.heap.size, 2, none⟩ = some (.int .i64 xlog) := World.cell?_setCell_same' _ _ _ (by simp [go_sem, z2])
        have r3 : ((((w5.setCell ⟨w.heap.size, 0, none⟩ (.int .i64 xgen)).setCell ⟨w.heap.size, 1, none⟩ (.int .i64 xnext)).setCell ⟨w.heap.size, 2, none⟩ (.int .i64 xlog)).setCell ⟨w.heap.size, 3, none⟩ (.int .i64 xseq)).cell? ⟨w.heap.size, 3, none⟩ = some (.int .i64 xseq) := World.cell?_setCell_same' _ _ _ (by simp [go_sem, z3])
        have r4 : (((((w5.setCell ⟨w.heap.size, 0, none⟩ (.int .i64 xgen)).setCell ⟨w.heap.size, 1, none⟩ (.int .i64 xnext)).setCell ⟨w.heap.size, 2, none⟩ (.int .i64 xlog)).setCell ⟨w.heap.size, 3, none⟩ (.int .i64 xseq)).setCell ⟨w.heap.size, 4, none⟩ (.slice xp xn xc)).cell? ⟨w.heap.size, 4, none⟩ = some (.slice xp xn xc) := World.cell?_setCell_same' _ _ _ (by simp [go_sem, z4])
        simp [results, Try.f19, go_sem, loadCells, loadCellsFrom, r0, r1, r2, r3, r4]
      · have FJ := XF4.out.five GZ.out (by decide) (by decide) (.int .i64 xgen) (.int .i64 xnext) (.int .i64 xlog) (.int .i64 xseq) (.slice xp xn xc)
        exact ⟨⟨⟨xp, xn, xc, xgen, xnext, xlog, xseq, xes⟩, by rw [IV.out]; rfl, FJ.held, by rw [IV.out, if_pos rfl, HV.out]; exact XV.out⟩, (((((BZ.out.setCell (p := ⟨w.heap.size, 0, none⟩) (Nat.le_refl _) _).setCell (p := ⟨w.heap.size, 1, none⟩) (Nat.le_refl _) _).setCell (p := ⟨w.heap.size, 2, none⟩) (Nat.le_refl _) _).setCell (p := ⟨w.heap.size, 3, none⟩) (Nat.le_refl _) _).setCell (p := ⟨w.heap.size, 4, none⟩) (Nat.le_refl _) _)⟩
    · rw [decide_eq_false he] at EQ IV
      have NO := keep (fun w' => DecA.no (w := w) (w' := w') IV.out)
      clear he
      go_wp2_with fail
      refine EQ.out.mono ?_
      rintro e w5 ⟨rfl, rfl⟩
      clear EQ a0 a1 a2 a3 a4'
      have z0 : w5.cell? ⟨w.heap.size, 0, none⟩ = some (.int .i64 0) := cell_of_row _ _ _ _ _ _ GZ.out
      have f0 : w5.frozen? ⟨w.heap.size, 0, none⟩ = false := by simp [World.frozen?, GZ.out]
      have z1 : w5.cell? ⟨w.heap.size, 1, none⟩ = some (.int .i64 0) := cell_of_row _ _ _ _ _ _ GZ.out
      have f1 : w5.frozen? ⟨w.heap.size, 1, none⟩ = false := by simp [World.frozen?, GZ.out]
      have z2 : w5.cell? ⟨w.heap.size, 2, none⟩ = some (.int .i64 0) := cell_of_row _ _ _ _ _ _ GZ.out
      have f2 : w5.frozen? ⟨w.heap.size, 2, none⟩ = false := by simp [World.frozen?, GZ.out]
      have z3 : w5.cell? ⟨w.heap.size, 3, none⟩ = some (.int .i64 0) := cell_of_row _ _ _ _ _ _ GZ.out
      have f3 : w5.frozen? ⟨w.heap.size, 3, none⟩ = false := by simp [World.frozen?, GZ.out]
      have z4 : w5.cell? ⟨w.heap.size, 4, none⟩ = some (.slice none 0 0) := cell_of_row _ _ _ _ _ _ GZ.out
      have f4 : w5.frozen? ⟨w.heap.size, 4, none⟩ = false := by simp [World.frozen?, GZ.out]
      go_wp2
      refine ⟨rfl, .tuple #[.agg #[.int .i64 0, .int .i64 0, .int .i64 0, .int .i64 0, .slice none 0 0], .int .i64 2], ?_, ?_⟩
      · have r0 : (w5.setCell ⟨w.heap.size, 0, none⟩ (.int .i64 0)).cell? ⟨w.heap.size, 0, none⟩ = some (.int .i64 0) := World.cell?_setCell_same' _ _ _ (by simp [go_sem, z0])
        have r1 : ((w5.setCell ⟨w.heap.size, 0, none⟩ (.int .i64 0)).setCell ⟨w.heap.size, 1, none⟩ (.int .i64 0)).cell? ⟨w.heap.size, 1, none⟩ = some (.int .i64 0) := World.cell?_setCell_same' _ _ _ (by simp [go_sem, z1])
        have r2 : (((w5.setCell ⟨w.heap.size, 0, none⟩ (.int .i64 0)).setCell ⟨w.heap.size, 1, none⟩ (.int .i64 0)).setCell ⟨w.heap.size, 2, none⟩ (.int .i64 0)).cell? ⟨w.heap.size, 2, none⟩ = some (.int .i64 0) := World.cell?_setCell_same' _ _ _ (by simp [go_sem, z2])
        have r3 : ((((w5.setCell ⟨w.heap.size, 0, none⟩ (.int .i64 0)).setCell ⟨w.heap.size, 1, none⟩ (.int .i64 0)).setCell ⟨w.heap.size, 2, none⟩ (.int .i64 0)).setCell ⟨w.heap.size, 3, none⟩ (.int .i64 0)).cell? ⟨w.heap.size, 3, none⟩ = some (.int .i64 0) := World.cell?_setCell_same' _ _ _ (by simp [go_sem, z3])
        have r4 : (((((w5.setCell ⟨w.heap.size, 0, none⟩ (.int .i64 0)).setCell ⟨w.heap.size, 1, none⟩ (.int .i64 0)).setCell ⟨w.heap.size, 2, none⟩ (.int .i64 0)).setCell ⟨w.heap.size, 3, none⟩ (.int .i64 0)).setCell ⟨w.heap.size, 4, none⟩ (.slice none 0 0)).cell? ⟨w.heap.size, 4, none⟩ = some (.slice none 0 0) := World.cell?_setCell_same' _ _ _ (by simp [go_sem, z4])
        simp [results, Try.f19, go_sem, loadCells, loadCellsFrom, r0, r1, r2, r3, r4]
      · exact NO.out _ (((((BZ.out.setCell (p := ⟨w.heap.size, 0, none⟩) (Nat.le_refl _) _).setCell (p := ⟨w.heap.size, 1, none⟩) (Nat.le_refl _) _).setCell (p := ⟨w.heap.size, 2, none⟩) (Nat.le_refl _) _).setCell (p := ⟨w.heap.size, 3, none⟩) (Nat.le_refl _) _).setCell (p := ⟨w.heap.size, 4, none⟩) (Nat.le_refl _) _)
end Go.Proofs.Ytbahldabcieiaaa
namespace Go.Proofs.Ytbahldabcieiaaa
open Go.RowKit

theorem less_drop {l l2 : List UInt8} {k : Nat} (h1 : k < l.length) (h2 : k < l2.length) : less (l.drop k) (l2.drop k) = (decide ((fn l k).toNat < (fn l2 k).toNat) || (decide (fn l k = fn l2 k) && less (l.drop (k + 1)) (l2.drop (k + 1)))) := by
  rw [List.drop_eq_getElem_cons h1, List.drop_eq_getElem_cons h2]
  have e1 : fn l k = l[k] := by simp [fn, List.getD, h1]
  have e2 : fn l2 k = l2[k] := by simp [fn, List.getD, h2]
  rw [e1, e2]
  simp only [less]
  congr 1

set_option maxHeartbeats 1000000 in
set_option maxRecDepth 100000 in
theorem refLess_any (ao : Option Addr) (m c : Nat) (l : List UInt8) (ao2 : Option Addr) (m2 c2 : Nat) (l2 : List UInt8) (w : World) (hm : m ≤ 140737488355328) (hm2 : m2 ≤ 140737488355328) (hs : Src w ao m c l) (hs2 : Src w ao2 m2 c2 l2) :
    Calls Try.prog 32 #[.slice ao m c, .slice ao2 m2 c2] w fun e w' => e = .returned (.bool (less l l2)) ∧ Below w.heap.size w w' := by
  have hl1 := hs.len
  have hl2 := hs2.len
  have HS := keep hs
  have HS2 := keep hs2
  clear hs hs2
  go_enter Try.func32, Try.ntmps32
  go_wp2
  go_loopw [5] (fun i wr => ∃ t : Nat, t ≤ m ∧ t ≤ m2 ∧ i = .int .i64 (t : Int) ∧ Hid (less l l2 = less (l.drop t) (l2.drop t)) ∧ Hid (Below w.heap.size w wr)) (fun i _ => m - (intOf i).toNat)
  case atStart => exact ⟨0, Nat.zero_le _, Nat.zero_le _, rfl, rfl, Below.refl _ _⟩
  case round =>
    obtain ⟨t, ht, ht2, rfl, hd, hb⟩ := hrel
    by_cases h : t < m ∧ t < m2
    · obtain ⟨h1, h2⟩ := h
      have hlt := keep (less_drop (l := l) (l2 := l2) (k := t) (by omega) (by omega))
      obtain ⟨b, off, rfl, hbw, hby⟩ := HS.out.form (by omega)
      obtain ⟨b2, off2, rfl, hbw2, hby2⟩ := HS2.out.form (by omega)
      have hcell : wr.cell? ⟨b, off + t, none⟩ = some (.int .u8 ((fn l t).toNat : Int)) := by
        rw [hb.out.cell (p := ⟨b, off + t, none⟩) hbw]; exact hby t h1
      have hcell2 : wr.cell? ⟨b2, off2 + t, none⟩ = some (.int .u8 ((fn l2 t).toNat : Int)) := by
        rw [hb.out.cell (p := ⟨b2, off2 + t, none⟩) hbw2]; exact hby2 t h2
      clear hby hby2
      have i0 : (0 : Int) ≤ (t : Int) := by omega
      have i1 : (t : Int) < (m : Int) := by omega
      have i2 : (t : Int) < (m2 : Int) := by omega
      obtain ⟨y, hy⟩ : ∃ y, fn l t = y := ⟨_, rfl⟩
      obtain ⟨z, hz⟩ : ∃ z, fn l2 t = z := ⟨_, rfl⟩
      rw [hy, hz] at hlt
      rw [hy] at hcell
      rw [hz] at hcell2
      clear hy hz
      by_cases hyz : y = z
      · subst hyz
        go_wp2_with fail
        go_quiet (fail)
        go_wp2
        go_roundw
        case rel => exact ⟨t + 1, by omega, by omega, by go_num, keep (by rw [hd.out, hlt.out]; simp), below_drewN hb.out nq⟩
        case measure => simp [intOf]; omega
      · have hne : ¬ ((y.toNat : Int) = (z.toNat : Int)) := fun e => hyz (UInt8.toNat_inj.1 (by omega))
        have hv0 : less l l2 = decide (y.toNat < z.toNat) := by
          rw [hd.out, hlt.out]
          simp [hyz]
        have hv := keep hv0
        clear hv0
        go_wp2_with fail
        go_quiet (fail)
        obtain ⟨ws, hws⟩ : ∃ ws, ws = wr.drewN nq := ⟨_, rfl⟩
        rw [← hws]
        have hb' : Hid (Below w.heap.size w ws) := by rw [hws]; exact below_drewN hb.out nq
        have hc' : ws.cell? ⟨b, off + t, none⟩ = some (.int .u8 (y.toNat : Int)) := by rw [hws]; exact hcell
        have hc2' : ws.cell? ⟨b2, off2 + t, none⟩ = some (.int .u8 (z.toNat : Int)) := by rw [hws]; exact hcell2
        clear hb hcell hcell2 hws
        go_wp2_with fail
        go_quiet (fail)
        go_wp2
        go_ret
        exact ⟨by rw [hv.out]; simp, below_drewN hb'.out _⟩
    · have hv : Hid (less l l2 = decide (m < m2)) := by
        rw [hd.out]
        rcases Nat.lt_or_ge t m with h1 | h1
        · have h2 : t = m2 := by omega
          rw [List.drop_eq_nil_of_le (show l2.length ≤ t by omega)]
          rw [decide_eq_false (by omega)]
          cases l.drop t <;> rfl
        · have h2 : t = m := by omega
          rw [List.drop_eq_nil_of_le (show l.length ≤ t by omega)]
          by_cases h3 : m < m2
          · rw [decide_eq_true (by omega), List.drop_eq_getElem_cons (by omega)]; rfl
          · rw [decide_eq_false (by omega), List.drop_eq_nil_of_le (by omega)]; rfl
      by_cases h1 : t < m
      · have i1 : (t : Int) < (m : Int) := by omega
        have i2 : ¬ ((t : Int) < (m2 : Int)) := by omega
        go_wp2
        go_ret
        exact ⟨by rw [hv.out]; rfl, hb.out⟩
      · have i1 : ¬ ((t : Int) < (m : Int)) := by omega
        go_wp2
        go_ret
        exact ⟨by rw [hv.out]; rfl, hb.out⟩
end Go.Proofs.Ytbahldabcieiaaa
namespace Go.Proofs.Ytbahldabcieiaaa
open Go.RowKit
open Ed (Nt)

theorem below_cell {w w' : World} (h : Below w.heap.size w w') {p : Addr} {v : Value} (hc : w.cell? p = some v) : w'.cell? p = some v := by rw [h.cell (World.block_lt_of_cell? w _ hc)]; exact hc
theorem set_far {w : World} {g b : Nat} (i : Nat) (v : Value) (h : g ≠ b) : (w.setCell ⟨b, i, none⟩ v).heap[g]? = w.heap[g]? := Below.heap_setCell w ⟨b, i, none⟩ v g h
theorem own_emptyS {w : World} {B t k : Nat} (h : B ≤ w.heap.size) : (w.alloc (.cells #[] t)).ownsRow B t k (.slice (some ⟨w.heap.size, 0, none⟩) 0 0) 0 [] :=
  ⟨by simp, .inr ⟨_, _, _, rfl, h, heap_alloc_new w _, Nat.le_refl _, Nat.zero_le _, by simp, by simp⟩⟩
theorem own_slice {w : World} {B t k n : Nat} {v : Value} {xs : List Value} (h : w.ownsRow B t k v n xs) : ∃ ao c, v = .slice ao n c := by
  rcases h.2 with ⟨rfl, rfl⟩ | ⟨g, cap, cur, rfl, _⟩
  · exact ⟨_, _, rfl⟩
  · exact ⟨_, _, rfl⟩
set_option maxHeartbeats 2000000 in
set_option maxRecDepth 100000 in
theorem rmcopy_any (x : MV) (w : World) (hk : x.m.first.length ≤ 140737488355328) (hv : x.m.last.length ≤ 140737488355328) (hh : metaKind.held w x) : Calls Try.prog 28 #[mv x] w fun e w' => ∃ y : MV, e = .returned (mv y) ∧ y.m = x.m ∧ OwnM w.heap.size w' y ∧ Below w.heap.size w w' := by
  obtain ⟨i0, hi, hz0, hz1, hz2⟩ := info_parts info5
  obtain ⟨kp, kc, vp, vc, num, level, count, key, val⟩ := x
  have HK : Hid (Src w kp key.length kc key) := hh.1
  have HV : Hid (Src w vp val.length vc val) := hh.2
  simp only at hk hv
  clear hh
  unfold mv
  simp only
  obtain ⟨K, hK⟩ : ∃ K, key.length = K := ⟨_, rfl⟩
  obtain ⟨V, hV⟩ : ∃ V, val.length = V := ⟨_, rfl⟩
  have HKK := keep hK
  have HVV := keep hV
  rw [hK] at HK hk ⊢
  rw [hV] at HV hv ⊢
  clear hK hV
  obtain ⟨W1, hW1⟩ : ∃ W1, (w.alloc (.cells #[.int .i64 num, .int .i64 level, .int .i64 count, .slice kp K kc, .slice vp V vc] 61)).alloc (.cells #[.int .i64 0, .int .i64 0, .int .i64 0, .slice none 0 0, .slice none 0 0] 61) = W1 := ⟨_, rfl⟩
  have b1 : Hid (Below w.heap.size w W1) := by rw [← hW1]; exact ((Below.refl _ _).alloc (Nat.le_refl _) _).alloc (by simp) _
  have s1 : Hid (W1.heap.size = w.heap.size + 2) := by rw [← hW1]; show _ = _; simp
  have g0 : Hid (W1.heap[w.heap.size]? = some (.cells #[.int .i64 num, .int .i64 level, .int .i64 count, .slice kp K kc, .slice vp V vc] 61)) := by
    rw [← hW1]; exact (Below.heap_alloc _ _ _ (by simp)).trans (heap_alloc_new w _)
  have g1 : Hid (W1.heap[w.heap.size + 1]? = some (.cells #[.int .i64 0, .int .i64 0, .int .i64 0, .slice none 0 0, .slice none 0 0] 61)) := by
    have := heap_alloc_new (w.alloc (.cells #[.int .i64 num, .int .i64 level, .int .i64 count, .slice kp K kc, .slice vp V vc] 61)) (.cells #[.int .i64 0, .int .i64 0, .int .i64 0, .slice none 0 0, .slice none 0 0] 61)
    rw [World.size_alloc] at this
    rw [← hW1]; exact this
  have c0 : W1.cell? ⟨w.heap.size, 3, none⟩ = some (.slice kp K kc) := cell_of_row _ _ _ _ _ _ g0.out
  have f0 : W1.frozen? ⟨w.heap.size, 3, none⟩ = false := by simp [World.frozen?, g0.out]
  have q0 : (W1.alloc (.cells #[] 5)).cell? ⟨w.heap.size, 3, none⟩ = some (.slice kp K kc) := below_cell ((Below.refl _ _).alloc (Nat.le_refl _) _) c0
  have KA : Hid (∀ w2 a2 k2, Below W1.heap.size W1 w2 → w2.heap[w.heap.size]? = some (.cells #[.int .i64 num, .int .i64 level, .int .i64 count, .slice kp K kc, .slice vp V vc] 61) ∧ w2.heap[w.heap.size + 1]? = some (.cells #[.int .i64 0, .int .i64 0, .int .i64 0, .slice none 0 0, .slice none 0 0] 61) ∧ (w2.setCell ⟨w.heap.size, 3, none⟩ (.slice a2 K k2)).heap[w.heap.size]? = some (.cells #[.int .i64 num, .int .i64 level, .int .i64 count, .slice a2 K k2, .slice vp V vc] 61)) := fun w2 a2 k2 hb => by
    have h := (hb.block _ (by rw [s1.out]; omega)).trans g0.out
    exact ⟨h, (hb.block _ (by rw [s1.out]; omega)).trans g1.out, (set_row h 3 (.slice a2 K k2)).trans (by simp)⟩
  go_enter Try.func28, Try.ntmps28
  go_wp2_with (first
    | (at_builtin; refine wpList_append_src rfl _ _ 26 rfl w.heap.size i0 _ Try.underlying26 hi hz0 hz1 hz2 rfl _ 0 [] rfl (own_emptyS b3.out.size) _ V vc val rfl (HV.out.below (b3.out.trans (((Below.refl _ _).alloc (Nat.le_refl _) _).mono b3.out.size))) (by omega) (le_alloc b3.out.size _) ?_; intro v4 w4 ho4 hg4; have O4 := keep ho4; have b34 := keep (((Below.refl _ W3).alloc (Nat.le_refl _) _).grown hg4 (le_alloc (Nat.le_refl _) _) (fun j hj => by cases hj; exact Nat.le_refl _)); rw [Nat.zero_add, List.nil_append] at O4; clear ho4 hg4; obtain ⟨a4, k4, rfl⟩ := own_slice O4.out; have g4 := keep ((b34.out.block _ (Nat.lt_of_lt_of_le (by omega) s3.out)).trans g3.out); have g41 := keep ((b34.out.block _ (Nat.lt_of_lt_of_le (Nat.lt_succ_self _) s3.out)).trans g31.out); have f43 : w4.frozen? ⟨w.heap.size, 4, none⟩ = false := (by simp [World.frozen?, g4.out]); have c43 : w4.cell? ⟨w.heap.size, 4, none⟩ = some (.slice vp V vc) := cell_of_row _ _ _ _ _ _ g4.out; obtain ⟨W5, hW5⟩ : ∃ W5, w4.setCell ⟨w.heap.size, 4, none⟩ (.slice a4 V k4) = W5 := ⟨_, rfl⟩; have g5 : Hid (W5.heap[w.heap.size]? = some (.cells #[.int .i64 num, .int .i64 level, .int .i64 count, .slice a2 K k2, .slice a4 V k4] 61)) := (by rw [← hW5]; exact (set_row g4.out 4 (.slice a4 V k4)).trans (by simp)); have g51 : Hid (W5.heap[w.heap.size + 1]? = some (.cells #[.int .i64 0, .int .i64 0, .int .i64 0, .slice none 0 0, .slice none 0 0] 61)) := (by rw [← hW5]; exact (set_far 4 _ (by omega)).trans g41.out); have h50 : W5.cell? ⟨w.heap.size, 0, none⟩ = some (.int .i64 num) := cell_of_row _ _ _ _ _ _ g5.out; have h51 : W5.cell? ⟨w.heap.size, 1, none⟩ = some (.int .i64 level) := cell_of_row _ _ _ _ _ _ g5.out; have h52 : W5.cell? ⟨w.heap.size, 2, none⟩ = some (.int .i64 count) := cell_of_row _ _ _ _ _ _ g5.out; have h53 : W5.cell? ⟨w.heap.size, 3, none⟩ = some (.slice a2 K k2) := cell_of_row _ _ _ _ _ _ g5.out; have h54 : W5.cell? ⟨w.heap.size, 4, none⟩ = some (.slice a4 V k4) := cell_of_row _ _ _ _ _ _ g5.out; have d0 : W5.cell? ⟨w.heap.size + 1, 0, none⟩ = some (.int .i64 0) := cell_of_row _ _ _ _ _ _ g51.out; have d1 : W5.cell? ⟨w.heap.size + 1, 1, none⟩ = some (.int .i64 0) := cell_of_row _ _ _ _ _ _ g51.out; have d2 : W5.cell? ⟨w.heap.size + 1, 2, none⟩ = some (.int .i64 0) := cell_of_row _ _ _ _ _ _ g51.out; have d3 : W5.cell? ⟨w.heap.size + 1, 3, none⟩ = some (.slice none 0 0) := cell_of_row _ _ _ _ _ _ g51.out; have d4 : W5.cell? ⟨w.heap.size + 1, 4, none⟩ = some (.slice none 0 0) := cell_of_row _ _ _ _ _ _ g51.out; have e0 : W5.frozen? ⟨w.heap.size + 1, 0, none⟩ = false := (by simp [World.frozen?, g51.out]); have e1 : W5.frozen? ⟨w.heap.size + 1, 1, none⟩ = false := (by simp [World.frozen?, g51.out]); have e2 : W5.frozen? ⟨w.heap.size + 1, 2, none⟩ = false := (by simp [World.frozen?, g51.out]); have e3 : W5.frozen? ⟨w.heap.size + 1, 3, none⟩ = false := (by simp [World.frozen?, g51.out]); have e4 : W5.frozen? ⟨w.heap.size + 1, 4, none⟩ = false := (by simp [World.frozen?, g51.out]))
    | (at_builtin; refine wpList_append_src rfl _ _ 26 rfl w.heap.size i0 _ Try.underlying26 hi hz0 hz1 hz2 rfl _ 0 [] rfl (own_emptyS b1.out.size) _ K kc key rfl (HK.out.below (b1.out.trans (((Below.refl _ _).alloc (Nat.le_refl _) _).mono b1.out.size))) (by omega) (le_alloc b1.out.size _) ?_; intro v2 w2 ho2 hg2; have O2 := keep ho2; have b12 := keep (((Below.refl _ W1).alloc (Nat.le_refl _) _).grown hg2 (le_alloc (Nat.le_refl _) _) (fun j hj => by cases hj; exact Nat.le_refl _)); rw [Nat.zero_add, List.nil_append] at O2; clear ho2 hg2; obtain ⟨a2, k2, rfl⟩ := own_slice O2.out; have G2 := keep (KA.out w2 a2 k2 b12.out); obtain ⟨W3, hW3⟩ : ∃ W3, w2.setCell ⟨w.heap.size, 3, none⟩ (.slice a2 K k2) = W3 := ⟨_, rfl⟩; have g3 : Hid (W3.heap[w.heap.size]? = some (.cells #[.int .i64 num, .int .i64 level, .int .i64 count, .slice a2 K k2, .slice vp V vc] 61)) := (by rw [← hW3]; exact G2.out.2.2); have b3 : Hid (Below w.heap.size w W3) := (by rw [← hW3]; exact (b1.out.trans (b12.out.mono b1.out.size)).setCell (p := ⟨w.heap.size, 3, none⟩) (Nat.le_refl _) _); have f20 : w2.frozen? ⟨w.heap.size, 3, none⟩ = false := (by simp [World.frozen?, G2.out.1]); have c20 : w2.cell? ⟨w.heap.size, 3, none⟩ = some (.slice kp K kc) := cell_of_row _ _ _ _ _ _ G2.out.1; have s3 : Hid (w.heap.size + 2 ≤ W3.heap.size) := (by rw [← hW3]; have := b12.out.size; rw [s1.out] at this; exact (show w.heap.size + 2 ≤ (w2.setCell ⟨w.heap.size, 3, none⟩ (.slice a2 K k2)).heap.size from by simpa using this)); have g31 : Hid (W3.heap[w.heap.size + 1]? = some (.cells #[.int .i64 0, .int .i64 0, .int .i64 0, .slice none 0 0, .slice none 0 0] 61)) := (by rw [← hW3]; exact (set_far 3 _ (by omega)).trans G2.out.2.1); have q3 : (W3.alloc (.cells #[] 5)).cell? ⟨w.heap.size, 4, none⟩ = some (.slice vp V vc) := below_cell ((Below.refl _ _).alloc (Nat.le_refl _) _) (cell_of_row _ _ _ _ _ _ g3.out)))
  have far : ∀ {v : Value} {n : Nat} {xs : List Value}, w4.ownsRow w.heap.size 5 1 v n xs → ∀ g, v.ownBlock = some g → g ≠ w.heap.size ∧ g ≠ w.heap.size + 1 := fun {v n xs} h g hg => by
    obtain ⟨cur, hc⟩ := own_tag h hg
    refine ⟨fun e => ?_, fun e => ?_⟩
    · rw [e, g4.out] at hc; cases hc
    · rw [e, g41.out] at hc; cases hc
  have far2 : ∀ g, (Value.slice a2 K k2).ownBlock = some g → g ≠ w.heap.size := fun g hg => by
    obtain ⟨cur, hc⟩ := own_tag O2.out hg
    intro e
    rw [e, G2.out.1] at hc; cases hc
  have O2' := keep (own_block (w' := w4) O2.out (fun g hg => (b34.out.block g (by rw [← hW3]; simpa using own_size O2.out hg)).trans (by rw [← hW3]; exact set_far 3 _ (far2 g hg))))
  refine ⟨rfl, .agg #[.int .i64 num, .int .i64 level, .int .i64 count, .slice a2 K k2, .slice a4 V k4], ?_, ⟨a2, k2, a4, k4, ⟨num, level, count, key, val⟩⟩, ?_, rfl, ⟨?_, ?_⟩, ?_⟩
  · clear hW1 hW3 hW5
    have r0 : (W5.setCell ⟨w.heap.size + 1, 0, none⟩ (.int .i64 num)).cell? ⟨w.heap.size + 1, 0, none⟩ = some (.int .i64 num) := World.cell?_setCell_same' _ _ _ (by simp [go_sem, d0])
    have r1 : ((W5.setCell ⟨w.heap.size + 1, 0, none⟩ (.int .i64 num)).setCell ⟨w.heap.size + 1, 1, none⟩ (.int .i64 level)).cell? ⟨w.heap.size + 1, 1, none⟩ = some (.int .i64 level) := World.cell?_setCell_same' _ _ _ (by simp [go_sem, d1])
    have r2 : (((W5.setCell ⟨w.heap.size + 1, 0, none⟩ (.int .i64 num)).setCell ⟨w.heap.size + 1, 1, none⟩ (.int .i64 level)).setCell ⟨w.heap.size + 1, 2, none⟩ (.int .i64 count)).cell? ⟨w.heap.size + 1, 2, none⟩ = some (.int .i64 count) := World.cell?_setCell_same' _ _ _ (by simp [go_sem, d2])
    have r3 : ((((W5.setCell ⟨w.heap.size + 1, 0, none⟩ (.int .i64 num)).setCell ⟨w.heap.size + 1, 1, none⟩ (.int .i64 level)).setCell ⟨w.heap.size + 1, 2, none⟩ (.int .i64 count)).setCell ⟨w.heap.size + 1, 3, none⟩ (.slice a2 K k2)).cell? ⟨w.heap.size + 1, 3, none⟩ = some (.slice a2 K k2) := World.cell?_setCell_same' _ _ _ (by simp [go_sem, d3])
    have r4 : (((((W5.setCell ⟨w.heap.size + 1, 0, none⟩ (.int .i64 num)).setCell ⟨w.heap.size + 1, 1, none⟩ (.int .i64 level)).setCell ⟨w.heap.size + 1, 2, none⟩ (.int .i64 count)).setCell ⟨w.heap.size + 1, 3, none⟩ (.slice a2 K k2)).setCell ⟨w.heap.size + 1, 4, none⟩ (.slice a4 V k4)).cell? ⟨w.heap.size + 1, 4, none⟩ = some (.slice a4 V k4) := World.cell?_setCell_same' _ _ _ (by simp [go_sem, d4])
    simp [results, Try.f28, go_sem, loadCells, loadCellsFrom, r0, r1, r2, r3, r4]
  · show _ = Ending.returned (Value.agg #[.int .i64 num, .int .i64 level, .int .i64 count, .slice a2 key.length k2, .slice a4 val.length k4])
    rw [HKK.out, HVV.out]
  · show World.ownsRow _ _ _ _ (.slice a2 key.length k2) key.length (bv key)
    rw [HKK.out]
    refine own_block O2'.out (fun g hg => ?_)
    obtain ⟨h1, h2⟩ := far O2'.out g hg
    rw [← hW5]
    simp only [set_far _ _ h1, set_far _ _ h2]
  · show World.ownsRow _ _ _ _ (.slice a4 val.length k4) val.length (bv val)
    rw [HVV.out]
    refine own_block O4.out (fun g hg => ?_)
    obtain ⟨h1, h2⟩ := far O4.out g hg
    rw [← hW5]
    simp only [set_far _ _ h1, set_far _ _ h2]
  · have h5 : Below w.heap.size w W5 := by rw [← hW5]; exact (b3.out.trans (b34.out.mono b3.out.size)).setCell (p := ⟨w.heap.size, 4, none⟩) (Nat.le_refl _) _
    exact (((((h5.setCell (p := ⟨w.heap.size + 1, 0, none⟩) (Nat.le_succ _) _).setCell (p := ⟨w.heap.size + 1, 1, none⟩) (Nat.le_succ _) _).setCell (p := ⟨w.heap.size + 1, 2, none⟩) (Nat.le_succ _) _).setCell (p := ⟨w.heap.size + 1, 3, none⟩) (Nat.le_succ _) _).setCell (p := ⟨w.heap.size + 1, 4, none⟩) (Nat.le_succ _) _)
end Go.Proofs.Ytbahldabcieiaaa
namespace Go.Proofs.Ytbahldabcieiaaa
open Go.RowKit
open Ed (Nt)

set_option maxHeartbeats 2000000 in
set_option maxRecDepth 100000 in
theorem rsame_yes (x y : VV) (w : World) (hx : VV.held w x) (hy : VV.held w y) (he : x.v = y.v) (hn : x.n ≤ 1000000000) :
    Calls Try.prog 10 #[x.val, y.val] w fun e w' => e = .returned (.bool true) ∧ Below w.heap.size w w' := by
  obtain ⟨p, n, c, gen, next, log, seq, es⟩ := x
  obtain ⟨p2, n2, c2, gen2, next2, log2, seq2, es2⟩ := y
  have SX : Hid (RSrc metaKind w p n c es) := hx
  have SY : Hid (RSrc metaKind w p2 n2 c2 es2) := hy
  have h0 : gen = gen2 := congrArg Ed.Ver.gen he
  have h1 : next = next2 := congrArg Ed.Ver.next he
  have h2 : log = log2 := congrArg Ed.Ver.log he
  have h3 : seq = seq2 := congrArg Ed.Ver.seq he
  have h4 : es.map (·.m) = es2.map (·.m) := congrArg Ed.Ver.tabs he
  have hl : n = n2 := by
    have := congrArg List.length h4
    rw [List.length_map, List.length_map, SX.out.len, SY.out.len] at this
    exact this
  subst h0 h1 h2 h3 hl
  simp only at hn
  unfold VV.val
  simp only
  obtain ⟨W1, hW1⟩ : ∃ W1, (w.alloc (.cells #[.int .i64 gen, .int .i64 next, .int .i64 log, .int .i64 seq, .slice p n c] 24)).alloc (.cells #[.int .i64 gen, .int .i64 next, .int .i64 log, .int .i64 seq, .slice p2 n c2] 24) = W1 := ⟨_, rfl⟩
  have b1 : Hid (Below w.heap.size w W1) := by rw [← hW1]; exact ((Below.refl _ _).alloc (Nat.le_refl _) _).alloc (by simp) _
  have g0 : Hid (W1.heap[w.heap.size]? = some (.cells #[.int .i64 gen, .int .i64 next, .int .i64 log, .int .i64 seq, .slice p n c] 24)) := by
    rw [← hW1]; exact (Below.heap_alloc _ _ _ (by simp)).trans (heap_alloc_new w _)
  have g1 : Hid (W1.heap[w.heap.size + 1]? = some (.cells #[.int .i64 gen, .int .i64 next, .int .i64 log, .int .i64 seq, .slice p2 n c2] 24)) := by
    have := heap_alloc_new (w.alloc (.cells #[.int .i64 gen, .int .i64 next, .int .i64 log, .int .i64 seq, .slice p n c] 24)) (.cells #[.int .i64 gen, .int .i64 next, .int .i64 log, .int .i64 seq, .slice p2 n c2] 24)
    rw [World.size_alloc] at this
    rw [← hW1]; exact this
  have x0 : W1.cell? ⟨w.heap.size, 0, none⟩ = some (.int .i64 gen) := cell_of_row _ _ _ _ _ _ g0.out
  have x1 : W1.cell? ⟨w.heap.size, 1, none⟩ = some (.int .i64 next) := cell_of_row _ _ _ _ _ _ g0.out
  have x2 : W1.cell? ⟨w.heap.size, 2, none⟩ = some (.int .i64 log) := cell_of_row _ _ _ _ _ _ g0.out
  have x3 : W1.cell? ⟨w.heap.size, 3, none⟩ = some (.int .i64 seq) := cell_of_row _ _ _ _ _ _ g0.out
  have x4 : W1.cell? ⟨w.heap.size, 4, none⟩ = some (.slice p n c) := cell_of_row _ _ _ _ _ _ g0.out
  have y0 : W1.cell? ⟨w.heap.size + 1, 0, none⟩ = some (.int .i64 gen) := cell_of_row _ _ _ _ _ _ g1.out
  have y1 : W1.cell? ⟨w.heap.size + 1, 1, none⟩ = some (.int .i64 next) := cell_of_row _ _ _ _ _ _ g1.out
  have y2 : W1.cell? ⟨w.heap.size + 1, 2, none⟩ = some (.int .i64 log) := cell_of_row _ _ _ _ _ _ g1.out
  have y3 : W1.cell? ⟨w.heap.size + 1, 3, none⟩ = some (.int .i64 seq) := cell_of_row _ _ _ _ _ _ g1.out
  have y4 : W1.cell? ⟨w.heap.size + 1, 4, none⟩ = some (.slice p2 n c2) := cell_of_row _ _ _ _ _ _ g1.out
  have SM := keep (sameMetas_yes p n c es p2 c2 es2 W1 (SX.out.below metaKind_ok b1.out) (SY.out.below metaKind_ok b1.out) h4 (by omega))
  clear hx hy he h4
  go_enter Try.func10, Try.ntmps10
  go_wp2_with fail
  refine SM.out.mono ?_
  rintro e w2 ⟨rfl, hb2⟩
  have B2 := keep (b1.out.trans (hb2.mono b1.out.size))
  clear hb2 SM
  go_wp2
  go_ret
  exact ⟨rfl, B2.out⟩
end Go.Proofs.Ytbahldabcieiaaa
namespace Go.Proofs.Ytbahldabcieiaaa
open Go.RowKit
open Ed (Nt)

set_option maxHeartbeats 8000000 in
set_option maxRecDepth 100000 in
theorem theirs_any (x : VV) (w : World) (hx : VV.held w x) (hn : x.n ≤ 1954687338268) :
    Calls Try.prog 11 #[x.val] w fun e w' => ∃ y : VV, e = .returned y.val ∧ VV.held w' y ∧ y.v = x.v ∧ y.n = x.n ∧ y.es = x.es ∧ Below w.heap.size w w' := by
  obtain ⟨p, n, c, gen, next, log, seq, es⟩ := x
  have SX : Hid (RSrc metaKind w p n c es) := hx
  simp only at hn
  unfold VV.val
  simp only
  obtain ⟨W1, hW1⟩ : ∃ W1, (w.alloc (.cells #[.int .i64 gen, .int .i64 next, .int .i64 log, .int .i64 seq, .slice p n c] 30)).alloc (.cells #[.int .i64 0, .int .i64 0, .int .i64 0, .int .i64 0, .slice none 0 0] 24) = W1 := ⟨_, rfl⟩
  have b1 : Hid (Below w.heap.size w W1) := by rw [← hW1]; exact ((Below.refl _ _).alloc (Nat.le_refl _) _).alloc (by simp) _
  have s1 : Hid (W1.heap.size = w.heap.size + 2) := by rw [← hW1]; show _ = _; simp
  have g0 : Hid (W1.heap[w.heap.size]? = some (.cells #[.int .i64 gen, .int .i64 next, .int .i64 log, .int .i64 seq, .slice p n c] 30)) := by
    rw [← hW1]; exact (Below.heap_alloc _ _ _ (by simp)).trans (heap_alloc_new w _)
  have g1 : Hid (W1.heap[w.heap.size + 1]? = some (.cells #[.int .i64 0, .int .i64 0, .int .i64 0, .int .i64 0, .slice none 0 0] 24)) := by
    have := heap_alloc_new (w.alloc (.cells #[.int .i64 gen, .int .i64 next, .int .i64 log, .int .i64 seq, .slice p n c] 30)) (.cells #[.int .i64 0, .int .i64 0, .int .i64 0, .int .i64 0, .slice none 0 0] 24)
    rw [World.size_alloc] at this
    rw [← hW1]; exact this
  have CV : Hid (∀ w' : World, w'.heap[w.heap.size]? = some (.cells #[.int .i64 gen, .int .i64 next, .int .i64 log, .int .i64 seq, .slice p n c] 30) → w'.cell? ⟨w.heap.size, 0, none⟩ = some (.int .i64 gen) ∧ w'.cell? ⟨w.heap.size, 1, none⟩ = some (.int .i64 next) ∧ w'.cell? ⟨w.heap.size, 2, none⟩ = some (.int .i64 log) ∧ w'.cell? ⟨w.heap.size, 3, none⟩ = some (.int .i64 seq) ∧ w'.cell? ⟨w.heap.size, 4, none⟩ = some (.slice p n c)) := fun w' h => ⟨cell_of_row _ _ _ _ _ _ h, cell_of_row _ _ _ _ _ _ h, cell_of_row _ _ _ _ _ _ h, cell_of_row _ _ _ _ _ _ h, cell_of_row _ _ _ _ _ _ h⟩
  have CM := keep (notesN_any p n c es W1.drew (SX.out.below metaKind_ok b1.out.drew) hn)
  clear hx
  go_enter Try.func11, Try.ntmps11
  go_wp2_with fail
  refine wp_region_held_drew (S := fun w' => Below w.heap.size w w' ∧ w'.heap[w.heap.size]? = some (.cells #[.int .i64 gen, .int .i64 next, .int .i64 log, .int .i64 seq, .slice p n c] 30)) (by kernel_rfl) (⟨b1.out.drew, g0.out⟩) (fun hHeld => ?_)
  refine takeH (i := 0) 3 (v := .pointer (some ⟨w.heap.size, 0, none⟩)) rfl rfl (by kernel_rfl) (by kernel_rfl) (by kernel_rfl) (fun _ _ _ h => h) (Or.inl ⟨by rfl, ?_⟩) (by assumption) ?_
  · intro w' hSw'
    go_simp
  simp only [Act.put, List.setIfInBounds_toArray, List.set_cons_zero, List.set_cons_succ]
  refine takeH (i := 1) 4 (v := .int .i64 gen) rfl rfl (by kernel_rfl) (by kernel_rfl) (by kernel_rfl) (fun _ _ _ h => h) (Or.inl ⟨by rfl, ?_⟩) (by assumption) ?_
  · intro w' hSw'
    obtain ⟨d0, d1, d2, d3, d4⟩ := CV.out w' hSw'.2
    go_simp
  simp only [Act.put, List.setIfInBounds_toArray, List.set_cons_zero, List.set_cons_succ]
  refine takeH (i := 2) 5 (v := .pointer (some ⟨w.heap.size, 1, none⟩)) rfl rfl (by kernel_rfl) (by kernel_rfl) (by kernel_rfl) (fun _ _ _ h => h) (Or.inl ⟨by rfl, ?_⟩) (by assumption) ?_
  · intro w' hSw'
    go_simp
  simp only [Act.put, List.setIfInBounds_toArray, List.set_cons_zero, List.set_cons_succ]
  refine takeH (i := 3) 6 (v := .int .i64 next) rfl rfl (by kernel_rfl) (by kernel_rfl) (by kernel_rfl) (fun _ _ _ h => h) (Or.inl ⟨by rfl, ?_⟩) (by assumption) ?_
  · intro w' hSw'
    obtain ⟨d0, d1, d2, d3, d4⟩ := CV.out w' hSw'.2
    go_simp
  simp only [Act.put, List.setIfInBounds_toArray, List.set_cons_zero, List.set_cons_succ]
  refine takeH (i := 4) 7 (v := .pointer (some ⟨w.heap.size, 2, none⟩)) rfl rfl (by kernel_rfl) (by kernel_rfl) (by kernel_rfl) (fun _ _ _ h => h) (Or.inl ⟨by rfl, ?_⟩) (by assumption) ?_
  · intro w' hSw'
    go_simp
  simp only [Act.put, List.setIfInBounds_toArray, List.set_cons_zero, List.set_cons_succ]
  refine takeH (i := 5) 8 (v := .int .i64 log) rfl rfl (by kernel_rfl) (by kernel_rfl) (by kernel_rfl) (fun _ _ _ h => h) (Or.inl ⟨by rfl, ?_⟩) (by assumption) ?_
  · intro w' hSw'
    obtain ⟨d0, d1, d2, d3, d4⟩ := CV.out w' hSw'.2
    go_simp
  simp only [Act.put, List.setIfInBounds_toArray, List.set_cons_zero, List.set_cons_succ]
  refine takeH (i := 6) 9 (v := .pointer (some ⟨w.heap.size, 3, none⟩)) rfl rfl (by kernel_rfl) (by kernel_rfl) (by kernel_rfl) (fun _ _ _ h => h) (Or.inl ⟨by rfl, ?_⟩) (by assumption) ?_
  · intro w' hSw'
    go_simp
  simp only [Act.put, List.setIfInBounds_toArray, List.set_cons_zero, List.set_cons_succ]
  refine takeH (i := 7) 10 (v := .int .i64 seq) rfl rfl (by kernel_rfl) (by kernel_rfl) (by kernel_rfl) (fun _ _ _ h => h) (Or.inl ⟨by rfl, ?_⟩) (by assumption) ?_
  · intro w' hSw'
    obtain ⟨d0, d1, d2, d3, d4⟩ := CV.out w' hSw'.2
    go_simp
  simp only [Act.put, List.setIfInBounds_toArray, List.set_cons_zero, List.set_cons_succ]
  refine takeH (i := 8) 11 (v := .pointer (some ⟨w.heap.size, 4, none⟩)) rfl rfl (by kernel_rfl) (by kernel_rfl) (by kernel_rfl) (fun _ _ _ h => h) (Or.inl ⟨by rfl, ?_⟩) (by assumption) ?_
  · intro w' hSw'
    go_simp
  simp only [Act.put, List.setIfInBounds_toArray, List.set_cons_zero, List.set_cons_succ]
  refine takeH (i := 9) 12 (v := .slice p n c) rfl rfl (by kernel_rfl) (by kernel_rfl) (by kernel_rfl) (fun _ _ _ h => h) (Or.inl ⟨by rfl, ?_⟩) (by assumption) ?_
  · intro w' hSw'
    obtain ⟨d0, d1, d2, d3, d4⟩ := CV.out w' hSw'.2
    go_simp
  simp only [Act.put, List.setIfInBounds_toArray, List.set_cons_zero, List.set_cons_succ]
  refine wpAnyH_ready (rs := [10]) (by kernel_rfl) (by simp) ?_
  refine AllReadyH.cons rfl (fun K hK => ?_) AllReadyH.nil
  go_simp
  refine (CM.out).mono ?_
  rintro e w5 ⟨v5, rfl, ho5, hb5⟩
  have O5 := keep ho5
  have L5 : Hid (Below W1.heap.size W1 w5) := ((Below.refl _ _).drew).trans (hb5.mono (Nat.le_refl _))
  have B5 := keep (b1.out.trans (L5.out.mono b1.out.size))
  obtain ⟨q5, c5, rfl, _, _⟩ := RSrc.own metaKind_ok ho5 (fun y hy => metaKind_ok.below (SX.out.held y hy) B5.out)
  have G5 : Hid (w5.heap[w.heap.size]? = some (.cells #[.int .i64 gen, .int .i64 next, .int .i64 log, .int .i64 seq, .slice p n c] 30)) := (L5.out.block _ (by rw [s1.out]; omega)).trans g0.out
  have R5 : Hid (w5.heap[w.heap.size + 1]? = some (.cells #[.int .i64 0, .int .i64 0, .int .i64 0, .int .i64 0, .slice none 0 0] 24)) := (L5.out.block _ (by rw [s1.out]; omega)).trans g1.out
  clear ho5 hb5
  go_wp2_with fail
  refine hK.out _ _ (⟨B5.out, G5.out⟩) (fun hH2 => ?_)
  clear hK K
  refine takeH (i := 11) 14 (v := .agg #[.int .i64 gen, .int .i64 next, .int .i64 log, .int .i64 seq, .slice q5 n c5]) rfl rfl (by kernel_rfl) (by kernel_rfl) (by kernel_rfl) (fun _ _ _ h => h) (Or.inl ⟨by rfl, ?_⟩) (by assumption) ?_
  · intro w' hSw'
    go_simp
  simp only [Act.put, List.setIfInBounds_toArray, List.set_cons_zero, List.set_cons_succ]
  have z0 : w5.cell? ⟨w.heap.size + 1, 0, none⟩ = some (.int .i64 0) := cell_of_row _ _ _ _ _ _ R5.out
  have z1 : w5.cell? ⟨w.heap.size + 1, 1, none⟩ = some (.int .i64 0) := cell_of_row _ _ _ _ _ _ R5.out
  have z2 : w5.cell? ⟨w.heap.size + 1, 2, none⟩ = some (.int .i64 0) := cell_of_row _ _ _ _ _ _ R5.out
  have z3 : w5.cell? ⟨w.heap.size + 1, 3, none⟩ = some (.int .i64 0) := cell_of_row _ _ _ _ _ _ R5.out
  have z4 : w5.cell? ⟨w.heap.size + 1, 4, none⟩ = some (.slice none 0 0) := cell_of_row _ _ _ _ _ _ R5.out
  have f0 : w5.frozen? ⟨w.heap.size + 1, 0, none⟩ = false := by simp [World.frozen?, R5.out]
  have f1 : w5.frozen? ⟨w.heap.size + 1, 1, none⟩ = false := by simp [World.frozen?, R5.out]
  have f2 : w5.frozen? ⟨w.heap.size + 1, 2, none⟩ = false := by simp [World.frozen?, R5.out]
  have f3 : w5.frozen? ⟨w.heap.size + 1, 3, none⟩ = false := by simp [World.frozen?, R5.out]
  have f4 : w5.frozen? ⟨w.heap.size + 1, 4, none⟩ = false := by simp [World.frozen?, R5.out]
  have BF : Hid (Below w.heap.size w (((((w5.setCell ⟨w.heap.size + 1, 0, none⟩ (.int .i64 gen)).setCell ⟨w.heap.size + 1, 1, none⟩ (.int .i64 next)).setCell ⟨w.heap.size + 1, 2, none⟩ (.int .i64 log)).setCell ⟨w.heap.size + 1, 3, none⟩ (.int .i64 seq)).setCell ⟨w.heap.size + 1, 4, none⟩ (.slice q5 n c5))) := (((((B5.out.setCell (p := ⟨w.heap.size + 1, 0, none⟩) (Nat.le_succ _) _).setCell (p := ⟨w.heap.size + 1, 1, none⟩) (Nat.le_succ _) _).setCell (p := ⟨w.heap.size + 1, 2, none⟩) (Nat.le_succ _) _).setCell (p := ⟨w.heap.size + 1, 3, none⟩) (Nat.le_succ _) _).setCell (p := ⟨w.heap.size + 1, 4, none⟩) (Nat.le_succ _) _)
  have GF : Hid ((((((w5.setCell ⟨w.heap.size + 1, 0, none⟩ (.int .i64 gen)).setCell ⟨w.heap.size + 1, 1, none⟩ (.int .i64 next)).setCell ⟨w.heap.size + 1, 2, none⟩ (.int .i64 log)).setCell ⟨w.heap.size + 1, 3, none⟩ (.int .i64 seq)).setCell ⟨w.heap.size + 1, 4, none⟩ (.slice q5 n c5)).heap[w.heap.size]? = some (.cells #[.int .i64 gen, .int .i64 next, .int .i64 log, .int .i64 seq, .slice p n c] 30)) := by show _ = _; rw [set_farM _ _ (by omega), set_farM _ _ (by omega), set_farM _ _ (by omega), set_farM _ _ (by omega), set_farM _ _ (by omega)]; exact G5.out
  refine wpAnyH_ready (rs := [12]) (by kernel_rfl) (by simp) ?_
  refine AllReadyH.cons rfl (fun K hK => ?_) AllReadyH.nil
  go_simp
  refine hK.out _ _ (⟨BF.out, GF.out⟩) (fun hA3 => ?_)
  clear hK K
  refine wpAnyH_done (by kernel_rfl) ?_ _
  go_wp2
  refine ⟨rfl, .agg #[.int .i64 gen, .int .i64 next, .int .i64 log, .int .i64 seq, .slice q5 n c5], ?_, ⟨q5, n, c5, gen, next, log, seq, es⟩, rfl, ?_, rfl, rfl, rfl, BF.out⟩
  · clear hW1
    have r0 : (w5.setCell ⟨w.heap.size + 1, 0, none⟩ (.int .i64 gen)).cell? ⟨w.heap.size + 1, 0, none⟩ = some (.int .i64 gen) := World.cell?_setCell_same' _ _ _ (by simp [go_sem, z0])
    have r1 : ((w5.setCell ⟨w.heap.size + 1, 0, none⟩ (.int .i64 gen)).setCell ⟨w.heap.size + 1, 1, none⟩ (.int .i64 next)).cell? ⟨w.heap.size + 1, 1, none⟩ = some (.int .i64 next) := World.cell?_setCell_same' _ _ _ (by simp [go_sem, z1])
    have r2 : (((w5.setCell ⟨w.heap.size + 1, 0, none⟩ (.int .i64 gen)).setCell ⟨w.heap.size + 1, 1, none⟩ (.int .i64 next)).setCell ⟨w.heap.size + 1, 2, none⟩ (.int .i64 log)).cell? ⟨w.heap.size + 1, 2, none⟩ = some (.int .i64 log) := World.cell?_setCell_same' _ _ _ (by simp [go_sem, z2])
    have r3 : ((((w5.setCell ⟨w.heap.size + 1, 0, none⟩ (.int .i64 gen)).setCell ⟨w.heap.size + 1, 1, none⟩ (.int .i64 next)).setCell ⟨w.heap.size + 1, 2, none⟩ (.int .i64 log)).setCell ⟨w.heap.size + 1, 3, none⟩ (.int .i64 seq)).cell? ⟨w.heap.size + 1, 3, none⟩ = some (.int .i64 seq) := World.cell?_setCell_same' _ _ _ (by simp [go_sem, z3])
    have r4 : (((((w5.setCell ⟨w.heap.size + 1, 0, none⟩ (.int .i64 gen)).setCell ⟨w.heap.size + 1, 1, none⟩ (.int .i64 next)).setCell ⟨w.heap.size + 1, 2, none⟩ (.int .i64 log)).setCell ⟨w.heap.size + 1, 3, none⟩ (.int .i64 seq)).setCell ⟨w.heap.size + 1, 4, none⟩ (.slice q5 n c5)).cell? ⟨w.heap.size + 1, 4, none⟩ = some (.slice q5 n c5) := World.cell?_setCell_same' _ _ _ (by simp [go_sem, z4])
    simp [results, Try.f11, go_sem, loadCells, loadCellsFrom, r0, r1, r2, r3, r4]
  · have OF : World.ownsRow (((((w5.setCell ⟨w.heap.size + 1, 0, none⟩ (.int .i64 gen)).setCell ⟨w.heap.size + 1, 1, none⟩ (.int .i64 next)).setCell ⟨w.heap.size + 1, 2, none⟩ (.int .i64 log)).setCell ⟨w.heap.size + 1, 3, none⟩ (.int .i64 seq)).setCell ⟨w.heap.size + 1, 4, none⟩ (.slice q5 n c5)) w.heap.size 61 5 (.slice q5 n c5) n (rv metaKind es) := by
      have o := own_base (B' := w.heap.size) O5.out (fun g hg => Nat.le_trans b1.out.size (O5.out.lt g hg).1)
      refine own_block o (fun g hg => ?_)
      have hlt : w.heap.size + 2 ≤ g := by have := (O5.out.lt g hg).1; have h2 : W1.drew.heap.size = w.heap.size + 2 := s1.out; omega
      rw [set_farM _ _ (by omega), set_farM _ _ (by omega), set_farM _ _ (by omega), set_farM _ _ (by omega), set_farM _ _ (by omega)]
    obtain ⟨qf, cf, ef, hsf, _⟩ := RSrc.own metaKind_ok OF (fun y hy => metaKind_ok.below (SX.out.held y hy) BF.out)
    injection ef with e1 e2 e3
    subst e1
    subst e3
    exact hsf
end Go.Proofs.Ytbahldabcieiaaa
namespace Go.Proofs.Ytbahldabcieiaaa
open Go.RowKit
open Ed (Nt)

theorem and_mask (n : Int) (k : Nat) (hk : k < 4611686018427387904) : ∃ q : Nat, q ≤ k ∧ bits .and .i64 n (k : Int) = (q : Int) := by
  have hb : (BitVec.ofInt 64 (k : Int)).toNat = k := ofInt_u64 k (by omega)
  have h : ((BitVec.ofInt 64 n) &&& (BitVec.ofInt 64 (k : Int))).toNat ≤ k := by
    rw [BitVec.toNat_and, hb]
    exact Nat.and_le_right
  refine ⟨((BitVec.ofInt 64 n) &&& (BitVec.ofInt 64 (k : Int))).toNat, h, ?_⟩
  show IntKind.i64.wrap (((BitVec.ofInt 64 n) &&& (BitVec.ofInt 64 (k : Int))).toNat : Int) = _
  exact wrap_small _ (by omega) (by omega)
theorem ver_len {v : Ed.Ver} (h : Ed.chk v = true) : 0 < (Ed.verB v).length ∧ (Ed.verB v).length ≤ 1000000 := by
  obtain ⟨_, _, _, _, hno⟩ := Ed.chk_parts h
  have h1 := Ed.notes_len hno
  have h2 := Ed.notesB_len (l := v.tabs) (fun m hm => Ed.may_keys (Ed.notes_may hno hm).1)
  have h3 := Ed.numsB_len [v.gen, v.next, v.log, v.seq, (v.tabs.length : Int)]
  have h4 : 0 < (Ed.numsB [v.gen, v.next, v.log, v.seq, (v.tabs.length : Int)]).length := by
    have h5 := num_pos (cl v.gen)
    unfold Ed.numsB
    simp only [List.flatMap_cons, List.length_append]
    omega
  unfold Ed.verB
  rw [List.length_append]
  simp only [List.length_cons, List.length_nil] at h3
  omega
set_option maxHeartbeats 3000000 in
set_option maxRecDepth 100000 in
theorem back_walk (x : VV) (at_ : Int) (w : World) (hx : VV.held w x) (hnear : Near x.n x.es) :
    Calls Try.prog 4 #[x.val, .int .i64 at_] w fun e w' => e = .returned (.bool true) ∧ Below w.heap.size w w' := by
  obtain ⟨i0, hi, hz0, hz1, hz2⟩ := info_parts info5
  obtain ⟨p, n, c, gen, next, log, seq, es⟩ := x
  have SX : Hid (RSrc metaKind w p n c es) := hx
  have NR : Hid (n ≤ 1954687338268) := hnear.1
  have HL : Hid (es.length = n) := hx.len
  clear hnear hx
  unfold VV.val
  simp only
  obtain ⟨W1, hW1⟩ : ∃ W1, w.alloc (.cells #[.int .i64 gen, .int .i64 next, .int .i64 log, .int .i64 seq, .slice p n c] 24) = W1 := ⟨_, rfl⟩
  have b1 : Hid (Below w.heap.size w W1) := by rw [← hW1]; exact (Below.refl _ _).alloc (Nat.le_refl _) _
  have g1 : Hid (W1.heap[w.heap.size]? = some (.cells #[.int .i64 gen, .int .i64 next, .int .i64 log, .int .i64 seq, .slice p n c] 24)) := by rw [← hW1]; exact heap_alloc_new w _
  have CX : Hid (∀ w', Below W1.heap.size W1 w' → w'.cell? ⟨w.heap.size, 0, none⟩ = some (.int .i64 gen) ∧ w'.cell? ⟨w.heap.size, 1, none⟩ = some (.int .i64 next) ∧ w'.cell? ⟨w.heap.size, 2, none⟩ = some (.int .i64 log) ∧ w'.cell? ⟨w.heap.size, 3, none⟩ = some (.int .i64 seq) ∧ w'.cell? ⟨w.heap.size, 4, none⟩ = some (.slice p n c)) := fun w' hb => ⟨belowE hb (cell_of_row _ _ _ _ _ _ g1.out), belowE hb (cell_of_row _ _ _ _ _ _ g1.out), belowE hb (cell_of_row _ _ _ _ _ _ g1.out), belowE hb (cell_of_row _ _ _ _ _ _ g1.out), belowE hb (cell_of_row _ _ _ _ _ _ g1.out)⟩
  have AW := keep (awake_any W1)
  have MI : Hid (∀ w', Below W1.heap.size W1 w' → _) := fun w' hb => mine_any ⟨p, n, c, gen, next, log, seq, es⟩ w' (SX.out.below metaKind_ok (b1.out.trans (hb.mono b1.out.size))) NR.out
  unfold VV.val at MI
  simp only at MI
  obtain ⟨V, hV⟩ : ∃ V : Ed.Ver, VV.v ⟨p, n, c, gen, next, log, seq, es⟩ = V := ⟨_, rfl⟩
  have HV := keep hV
  rw [hV] at MI
  clear hV
  go_enter Try.func4, Try.ntmps4
  go_wp2_with fail
  refine AW.out.mono ?_
  rintro e w2 ⟨rfl, hb2⟩
  have L2 := keep hb2
  obtain ⟨c0, c1, c2, c3, c4⟩ := CX.out w2 hb2
  clear hb2 AW hW1
  go_wp2_with fail
  refine (MI.out w2 L2.out).mono ?_
  rintro e w3 ⟨y, rfl, hy, hyv, hyn, hye, hb3⟩
  have L3 := keep (L2.out.trans (hb3.mono L2.out.size))
  have EN := keep (encode_any y w3 hy)
  rw [hyv] at EN
  obtain ⟨yp, yn, yc, ygen, ynext, ylog, yseq, yes⟩ := y
  have E1 : n = yn := hyn.symm
  subst E1
  unfold EncA VV.val at EN
  simp only at EN
  simp only
  clear hy hyv hyn hye hb3 c0 c1 c2 c3 c4
  cases hck : Ed.chk V with
  | false =>
    have e1 : chkN V = 1 := by unfold chkN; rw [hck]; rfl
    rw [e1] at EN
    clear e1 hck
    go_wp2_with fail
    refine EN.out.mono ?_
    rintro e w4 ⟨a4, m4, d4, l4, rfl, hs4, hl4, hb4⟩
    have B4 := keep (b1.out.trans ((L3.out.trans (hb4.mono L3.out.size)).mono b1.out.size))
    clear hs4 hl4 hb4 EN
    go_wp2
    go_ret
    exact ⟨rfl, B4.out⟩
  | true =>
    have e1 : chkN V = 0 := by unfold chkN; rw [hck]; rfl
    rw [e1, hck, if_pos rfl] at EN
    have HCK := keep hck
    clear e1 hck
    go_wp2_with fail
    refine EN.out.mono ?_
    rintro e w4 ⟨a4, N, d4, l4, rfl, hs4, rfl, hb4⟩
    have L4 := keep (L3.out.trans (hb4.mono L3.out.size))
    have B4 := keep (b1.out.trans (L4.out.mono b1.out.size))
    obtain ⟨vl0, vl1⟩ := ver_len HCK.out
    have hNl := hs4.len
    rw [hNl] at vl0 vl1
    have S4 := keep hs4
    have HN := keep hNl
    cases a4 with
    | none => have := (hs4.nil rfl).1; omega
    | some ad =>
    have LT : Hid (ad.block < w4.heap.size) := src_lt hs4 vl0
    have hcap := hs4.cap
    have IV := Ed.isVer_put HCK.out
    have D1 := keep (decode_any (some ad) N d4 (Ed.verB V) w4 hs4 (fun a h => by cases h; exact LT.out) (by omega))
    unfold DecA at D1
    rw [IV.1, IV.2, if_pos rfl, if_pos rfl] at D1
    have n0 : ((N : Int) == 0) = false := by simp; omega
    have nn0 : ¬ N = 0 := by omega
    clear hs4 hb4 EN hNl IV
    go_wp2_with fail
    refine D1.out.mono ?_
    rintro e w5 ⟨⟨z, rfl, hz, hzv⟩, hb5⟩
    have HZ := keep hz
    have HZV := keep hzv
    have L5 := keep (L4.out.trans (hb5.mono L4.out.size))
    have Q5 := keep hb5
    obtain ⟨zp, zn, zc, zgen, znext, zlog, zseq, zes⟩ := z
    unfold VV.val
    simp only
    obtain ⟨W6, hW6⟩ : ∃ W6, w5.alloc (.cells #[.int .i64 zgen, .int .i64 znext, .int .i64 zlog, .int .i64 zseq, .slice zp zn zc] 30) = W6 := ⟨_, rfl⟩
    have b6 : Hid (Below w5.heap.size w5 W6) := by rw [← hW6]; exact (Below.refl _ _).alloc (Nat.le_refl _) _
    have g6 : Hid (W6.heap[w5.heap.size]? = some (.cells #[.int .i64 zgen, .int .i64 znext, .int .i64 zlog, .int .i64 zseq, .slice zp zn zc] 30)) := by rw [← hW6]; exact heap_alloc_new w5 _
    have L6 := keep (L5.out.trans (b6.out.mono L5.out.size))
    have Q6 := keep (Q5.out.trans (b6.out.mono Q5.out.size))
    have S6 := keep (S4.out.below Q6.out)
    obtain ⟨q, hq, hqe⟩ := and_mask at_ 1048575 (by decide)
    have hqe' : bits .and .i64 at_ 1048575 = (q : Int) := hqe
    obtain ⟨k, hk⟩ : ∃ k, q % N = k := ⟨_, rfl⟩
    have hkN : k < N := by rw [← hk]; exact Nat.mod_lt _ (by omega)
    have hmod : (q : Int).tmod (N : Int) = (k : Int) := by rw [Int.tmod_eq_emod_of_nonneg (by omega), ← hk]; rfl
    have hmod2 : (q : Int) % (N : Int) = (k : Int) := by rw [← hk]; rfl
    have D2 := keep (decode_any (some ad) k d4 ((Ed.verB V).take k) W6 (S6.out.head k (by omega)) (fun a h => by cases h; exact Nat.lt_of_lt_of_le LT.out Q6.out.size) (by omega))
    unfold DecA at D2
    rw [Ed.isVer_cut HCK.out (by rw [HN.out]; exact hkN), if_neg (by decide), if_neg (by decide)] at D2
    have j0 : (0 : Int) ≤ (k : Int) := by omega
    have j1 : (k : Int) ≤ (N : Int) := by omega
    have j2 : (k : Int) ≤ (d4 : Int) := by omega
    have j3 : (k : Int) < (N : Int) := by omega
    have j4 : ¬ (N : Int) = 0 := by omega
    clear hz hzv hb5 D1 hqe hk hq
    go_wp2_with fail
    refine D2.out.mono ?_
    rintro e w7 ⟨⟨u, rfl, hu, huv⟩, hb7⟩
    have L7 := keep (L6.out.trans (hb7.mono L6.out.size))
    have R7 := keep hb7
    have S7 := keep (S6.out.below hb7)
    obtain ⟨up, un, uc, ugen, unext, ulog, useq, ues⟩ := u
    unfold VV.val
    simp only
    obtain ⟨W8, hW8⟩ : ∃ W8, w7.alloc (.cells #[.int .i64 ugen, .int .i64 unext, .int .i64 ulog, .int .i64 useq, .slice up un uc] 30) = W8 := ⟨_, rfl⟩
    have b8 : Hid (Below w7.heap.size w7 W8) := by rw [← hW8]; exact (Below.refl _ _).alloc (Nat.le_refl _) _
    have L8 := keep (L7.out.trans (b8.out.mono L7.out.size))
    have R8 := keep (R7.out.trans (b8.out.mono R7.out.size))
    have S8 := keep (S7.out.below b8.out)
    clear hu huv hb7 D2 hW6 hqe' hmod hmod2
    go_wp2_with (first
      | (at_builtin; go_loud (refine wpList_append_src rfl _ _ 26 rfl W8.heap.size i0 _ Try.underlying26 hi hz0 hz1 hz2 rfl _ N (Ed.verB V) rfl (by exact O4.out.alloc _) _ 1 1 [0] rfl (Src.built _ 0) (by omega) (le_alloc b4.out.size _) ?_); intro v5 w10 ho5 hg5; have O5 := keep ho5; have b5 := keep ((b4.out.alloc b4.out.size _).grown hg5 (le_alloc b4.out.size _) (fun j hj => (O4.out.lt j hj).1)); clear ho5 hg5)
      | (at_builtin; go_loud (refine wpList_append_src rfl _ _ 26 rfl W8.heap.size i0 _ Try.underlying26 hi hz0 hz1 hz2 rfl _ 0 [] rfl (own_emptyS (t := 5) (k := 1) (Nat.le_refl _)) _ N d4 (Ed.verB V) rfl (S8.out.below ((Below.refl _ _).alloc (Nat.le_refl _) _)) (by omega) (le_alloc (Nat.le_refl _) _) ?_); intro v4 w9 ho4 hg4; have O4 := keep ho4; have b4 := keep (((Below.refl _ W8).alloc (Nat.le_refl _) _).grown hg4 (le_alloc (Nat.le_refl _) _) (fun j hj => by cases hj; exact Nat.le_refl _)); rw [Nat.zero_add, List.nil_append] at O4; clear ho4 hg4))
    obtain ⟨a5, k5, rfl, hs5, _⟩ := Src.of_own O5.out
    have L10 := keep (L8.out.trans (b5.out.mono L8.out.size))
    have R10 := keep (R8.out.trans (b5.out.mono R8.out.size))
    have D3 := keep (decode_any a5 (N + 1) k5 (Ed.verB V ++ [0]) w10 hs5 (fun a h => by cases h; exact src_lt hs5 (by omega)) (by omega))
    unfold DecA at D3
    rw [Ed.isVer_more HCK.out (by decide), if_neg (by decide), if_neg (by decide)] at D3
    clear hs5
    refine D3.out.mono ?_
    rintro e w11 ⟨⟨t, rfl, ht, htv⟩, hb11⟩
    have L11 := keep (L10.out.trans (hb11.mono L10.out.size))
    have R11 := keep (R10.out.trans (hb11.mono R10.out.size))
    obtain ⟨tp, tn, tc, tgen, tnext, tlog, tseq, tes⟩ := t
    unfold VV.val
    simp only
    obtain ⟨Wc, hWc⟩ : ∃ Wc, w11.alloc (.cells #[.int .i64 tgen, .int .i64 tnext, .int .i64 tlog, .int .i64 tseq, .slice tp tn tc] 30) = Wc := ⟨_, rfl⟩
    have bc : Hid (Below w11.heap.size w11 Wc) := by rw [← hWc]; exact (Below.refl _ _).alloc (Nat.le_refl _) _
    have Lc := keep (L11.out.trans (bc.out.mono L11.out.size))
    have Rc := keep (R11.out.trans (bc.out.mono R11.out.size))
    have Bc := keep (b1.out.trans (Lc.out.mono b1.out.size))
    obtain ⟨E1, hE1⟩ : ∃ E1, w5.heap.size = E1 := ⟨_, rfl⟩
    rw [hE1] at g6
    have CZ8 : Hid (∀ w', Below Wc.heap.size Wc w' → w'.cell? ⟨E1, 0, none⟩ = some (.int .i64 zgen) ∧ w'.cell? ⟨E1, 1, none⟩ = some (.int .i64 znext) ∧ w'.cell? ⟨E1, 2, none⟩ = some (.int .i64 zlog) ∧ w'.cell? ⟨E1, 3, none⟩ = some (.int .i64 zseq) ∧ w'.cell? ⟨E1, 4, none⟩ = some (.slice zp zn zc)) := fun w' hb => by
      have h := Rc.out.trans (hb.mono Rc.out.size)
      exact ⟨belowE h (cell_of_row _ _ _ _ _ _ g6.out), belowE h (cell_of_row _ _ _ _ _ _ g6.out), belowE h (cell_of_row _ _ _ _ _ _ g6.out), belowE h (cell_of_row _ _ _ _ _ _ g6.out), belowE h (cell_of_row _ _ _ _ _ _ g6.out)⟩
    have CX8 : Hid (∀ w', Below Wc.heap.size Wc w' → _) := fun w' hb => CX.out w' (Lc.out.trans (hb.mono Lc.out.size))
    have TL : Hid (zn ≤ 1000000) := by
      have h1 := congrArg (fun v => v.tabs.length) HZV.out
      have h2 : zes.length = zn := RSrc.len HZ.out
      have h3 : zes.length = V.tabs.length := by rw [← List.length_map (f := (·.m))]; exact h1
      have h4 := Ed.notes_len (Ed.chk_parts HCK.out).2.2.2.2
      show _ ≤ _
      omega
    have TH : Hid (∀ w', Below Wc.heap.size Wc w' → Calls Try.prog 11 #[.agg #[.int .i64 zgen, .int .i64 znext, .int .i64 zlog, .int .i64 zseq, .slice zp zn zc]] w' fun e w'' => ∃ sp sn sc sgen snext slog sseq ses, e = .returned (.agg #[.int .i64 sgen, .int .i64 snext, .int .i64 slog, .int .i64 sseq, .slice sp sn sc]) ∧ VV.held w'' ⟨sp, sn, sc, sgen, snext, slog, sseq, ses⟩ ∧ VV.v ⟨sp, sn, sc, sgen, snext, slog, sseq, ses⟩ = V ∧ sn = zn ∧ Below Wc.heap.size Wc w'') := fun w' hb => by
      refine (theirs_any ⟨zp, zn, zc, zgen, znext, zlog, zseq, zes⟩ w' (((HZ.out.below b6.out).below Rc.out).below hb) (Nat.le_trans TL.out (by decide))).mono ?_
      rintro e w'' ⟨y, rfl, hy, hyv, hyn, _, hb'⟩
      obtain ⟨sp, sn, sc, sgen, snext, slog, sseq, ses⟩ := y
      exact ⟨sp, sn, sc, sgen, snext, slog, sseq, ses, rfl, hy, hyv.trans HZV.out, hyn, hb.trans (hb'.mono hb.size)⟩
    have SM : Hid (∀ sp sn sc sgen snext slog sseq ses w', VV.held w' ⟨sp, sn, sc, sgen, snext, slog, sseq, ses⟩ → VV.v ⟨sp, sn, sc, sgen, snext, slog, sseq, ses⟩ = V → sn = zn → Below Wc.heap.size Wc w' → Calls Try.prog 10 #[.agg #[.int .i64 sgen, .int .i64 snext, .int .i64 slog, .int .i64 sseq, .slice sp sn sc], .agg #[.int .i64 gen, .int .i64 next, .int .i64 log, .int .i64 seq, .slice p n c]] w' fun e w'' => e = .returned (.bool true) ∧ Below Wc.heap.size Wc w'') := fun sp sn sc sgen snext slog sseq ses w' ht htv hsn hb => by
      refine (rsame_yes ⟨sp, sn, sc, sgen, snext, slog, sseq, ses⟩ ⟨p, n, c, gen, next, log, seq, es⟩ w' ht (SX.out.below metaKind_ok (Bc.out.trans (hb.mono Bc.out.size))) (htv.trans HV.out.symm) (by show sn ≤ _; have := TL.out; omega)).mono ?_
      rintro e w'' ⟨rfl, hb'⟩
      exact ⟨rfl, hb.trans (hb'.mono hb.size)⟩
    clear ht htv hb11 D3
    go_wp2_with fail
    refine wp_region_held_drew (S := fun w' => Below Wc.heap.size Wc w') (by kernel_rfl) ((Below.refl _ _).drew) (fun hZ => ?_)
    refine takeH (i := 0) 58 (v := .bool true) rfl rfl (by kernel_rfl) (by kernel_rfl) (by kernel_rfl) (fun _ _ _ h => h) (Or.inl ⟨by rfl, ?_⟩) (by assumption) ?_
    · intro w' hSw'
      go_simp
    simp only [Act.put, List.setIfInBounds_toArray, List.set_cons_zero, List.set_cons_succ]
    refine takeH (i := 1) 59 (v := .bool true) rfl rfl (by kernel_rfl) (by kernel_rfl) (by kernel_rfl) (fun _ _ _ h => h) (Or.inl ⟨by rfl, ?_⟩) (by assumption) ?_
    · intro w' hSw'
      go_simp
    simp only [Act.put, List.setIfInBounds_toArray, List.set_cons_zero, List.set_cons_succ]
    refine takeH (i := 2) 60 (v := .int .i64 0) rfl rfl (by kernel_rfl) (by kernel_rfl) (by kernel_rfl) (fun _ _ _ h => h) (Or.inl ⟨by rfl, ?_⟩) (by assumption) ?_
    · intro w' hSw'
      go_simp
    simp only [Act.put, List.setIfInBounds_toArray, List.set_cons_zero, List.set_cons_succ]
    refine takeH (i := 3) 61 (v := .bool true) rfl rfl (by kernel_rfl) (by kernel_rfl) (by kernel_rfl) (fun _ _ _ h => h) (Or.inl ⟨by rfl, ?_⟩) (by assumption) ?_
    · intro w' hSw'
      go_simp
    simp only [Act.put, List.setIfInBounds_toArray, List.set_cons_zero, List.set_cons_succ]
    refine takeH (i := 4) 62 (v := .bool true) rfl rfl (by kernel_rfl) (by kernel_rfl) (by kernel_rfl) (fun _ _ _ h => h) (Or.inl ⟨by rfl, ?_⟩) (by assumption) ?_
    · intro w' hSw'
      go_simp
    simp only [Act.put, List.setIfInBounds_toArray, List.set_cons_zero, List.set_cons_succ]
    refine takeH (i := 5) 63 (v := .bool true) rfl rfl (by kernel_rfl) (by kernel_rfl) (by kernel_rfl) (fun _ _ _ h => h) (Or.inl ⟨by rfl, ?_⟩) (by assumption) ?_
    · intro w' hSw'
      go_simp
    simp only [Act.put, List.setIfInBounds_toArray, List.set_cons_zero, List.set_cons_succ]
    refine takeH (i := 6) 64 (v := .agg #[.int .i64 zgen, .int .i64 znext, .int .i64 zlog, .int .i64 zseq, .slice zp zn zc]) rfl rfl (by kernel_rfl) (by kernel_rfl) (by kernel_rfl) (fun _ _ _ h => h) (Or.inl ⟨by rfl, ?_⟩) (by assumption) ?_
    · intro w' hSw'
      obtain ⟨y0, y1, y2, y3, y4⟩ := CZ8.out w' hSw'
      go_simp
    simp only [Act.put, List.setIfInBounds_toArray, List.set_cons_zero, List.set_cons_succ]
    refine takeH (i := 8) 66 (v := .agg #[.int .i64 gen, .int .i64 next, .int .i64 log, .int .i64 seq, .slice p n c]) rfl rfl (by kernel_rfl) (by kernel_rfl) (by kernel_rfl) (fun _ _ _ h => h) (Or.inl ⟨by rfl, ?_⟩) (by assumption) ?_
    · intro w' hSw'
      obtain ⟨y0, y1, y2, y3, y4⟩ := CX8.out w' hSw'
      go_simp
    simp only [Act.put, List.setIfInBounds_toArray, List.set_cons_zero, List.set_cons_succ]
    refine wpAnyH_ready (rs := [7]) (by kernel_rfl) (by simp) ?_
    refine AllReadyH.cons rfl (fun K hK => ?_) AllReadyH.nil
    go_simp
    refine (TH.out _ (Below.refl _ _).drew).mono ?_
    rintro e w13 ⟨sp, sn, sc, sgen, snext, slog, sseq, ses, rfl, ht, htv, hsn, hb⟩
    have b13 := keep hb
    have T13 := keep ht
    have TV13 := keep htv
    have TN13 := keep hsn
    clear hb ht htv hsn
    go_wp2_with fail
    refine hK.out _ _ (b13.out) (fun hZ1 => ?_)
    clear hK K
    refine wpAnyH_ready (rs := [9]) (by kernel_rfl) (by simp) ?_
    refine AllReadyH.cons rfl (fun K hK => ?_) AllReadyH.nil
    go_simp
    refine (SM.out _ _ _ _ _ _ _ _ w13 T13.out TV13.out TN13.out b13.out).mono ?_
    rintro e w14 ⟨rfl, hb⟩
    have b14 := keep hb
    clear hb
    go_wp2_with fail
    refine hK.out _ _ (b14.out) (fun hZ2 => ?_)
    clear hK K
    refine takeH (i := 10) 68 (v := .bool true) rfl rfl (by kernel_rfl) (by kernel_rfl) (by kernel_rfl) (fun _ _ _ h => h) (Or.inl ⟨by rfl, ?_⟩) (by assumption) ?_
    · intro w' hSw'
      go_simp
    simp only [Act.put, List.setIfInBounds_toArray, List.set_cons_zero, List.set_cons_succ]
    refine takeH (i := 11) 69 (v := .bool true) rfl rfl (by kernel_rfl) (by kernel_rfl) (by kernel_rfl) (fun _ _ _ h => h) (Or.inl ⟨by rfl, ?_⟩) (by assumption) ?_
    · intro w' hSw'
      go_simp
    simp only [Act.put, List.setIfInBounds_toArray, List.set_cons_zero, List.set_cons_succ]
    refine takeH (i := 12) 70 (v := .int .i64 2) rfl rfl (by kernel_rfl) (by kernel_rfl) (by kernel_rfl) (fun _ _ _ h => h) (Or.inl ⟨by rfl, ?_⟩) (by assumption) ?_
    · intro w' hSw'
      go_simp
    simp only [Act.put, List.setIfInBounds_toArray, List.set_cons_zero, List.set_cons_succ]
    refine takeH (i := 13) 71 (v := .bool true) rfl rfl (by kernel_rfl) (by kernel_rfl) (by kernel_rfl) (fun _ _ _ h => h) (Or.inl ⟨by rfl, ?_⟩) (by assumption) ?_
    · intro w' hSw'
      go_simp
    simp only [Act.put, List.setIfInBounds_toArray, List.set_cons_zero, List.set_cons_succ]
    refine takeH (i := 14) 72 (v := .bool true) rfl rfl (by kernel_rfl) (by kernel_rfl) (by kernel_rfl) (fun _ _ _ h => h) (Or.inl ⟨by rfl, ?_⟩) (by assumption) ?_
    · intro w' hSw'
      go_simp
    simp only [Act.put, List.setIfInBounds_toArray, List.set_cons_zero, List.set_cons_succ]
    refine takeH (i := 15) 73 (v := .bool true) rfl rfl (by kernel_rfl) (by kernel_rfl) (by kernel_rfl) (fun _ _ _ h => h) (Or.inl ⟨by rfl, ?_⟩) (by assumption) ?_
    · intro w' hSw'
      go_simp
    simp only [Act.put, List.setIfInBounds_toArray, List.set_cons_zero, List.set_cons_succ]
    refine takeH (i := 16) 74 (v := .int .i64 2) rfl rfl (by kernel_rfl) (by kernel_rfl) (by kernel_rfl) (fun _ _ _ h => h) (Or.inl ⟨by rfl, ?_⟩) (by assumption) ?_
    · intro w' hSw'
      go_simp
    simp only [Act.put, List.setIfInBounds_toArray, List.set_cons_zero, List.set_cons_succ]
    refine takeH (i := 17) 75 (v := .bool true) rfl rfl (by kernel_rfl) (by kernel_rfl) (by kernel_rfl) (fun _ _ _ h => h) (Or.inl ⟨by rfl, ?_⟩) (by assumption) ?_
    · intro w' hSw'
      go_simp
    simp only [Act.put, List.setIfInBounds_toArray, List.set_cons_zero, List.set_cons_succ]
    refine takeH (i := 18) 76 (v := .bool true) rfl rfl (by kernel_rfl) (by kernel_rfl) (by kernel_rfl) (fun _ _ _ h => h) (Or.inl ⟨by rfl, ?_⟩) (by assumption) ?_
    · intro w' hSw'
      go_simp
    simp only [Act.put, List.setIfInBounds_toArray, List.set_cons_zero, List.set_cons_succ]
    refine takeH (i := 19) 4 (v := .bool true) rfl rfl (by kernel_rfl) (by kernel_rfl) (by kernel_rfl) (fun _ _ _ h => h) (Or.inl ⟨by rfl, ?_⟩) (by assumption) ?_
    · intro w' hSw'
      go_simp
    simp only [Act.put, List.setIfInBounds_toArray, List.set_cons_zero, List.set_cons_succ]
    refine wpAnyH_done (by kernel_rfl) ?_ _
    have BF := keep (Bc.out.trans (b14.out.mono Bc.out.size))
    go_wp2
    go_ret
    exact ⟨rfl, BF.out⟩
end Go.Proofs.Ytbahldabcieiaaa
