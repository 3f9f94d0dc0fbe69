/- The walk of cat's Load. -/
import Derived.Test.YthnebhddakfadaaGreatDoorJoinFg
import Derived.Test.YthnebhddakfadaaGreatDoorJoinHz
namespace Go.Proofs.YthnebhddakfadaaGreatDoor
open Go.RowKit
open Dk (File Disk)

/-- What "cur" of those bytes stands for. -/
def loadB (d : Disk) (l : List UInt8) : Nat × Ed.Ver := match genOf l with
  | none => (2, zeroVer)
  | some g => match (if isSeg (g : Int) then Dk.look d.files (manN g) else none) with
    | none => (2, zeroVer)
    | some h => match verOf g h.bytes with
      | none => (2, zeroVer)
      | some v => (0, v)
theorem catLoad_some {d : Disk} {f : File} (h : Dk.look d.files curN = some f) : catLoad d = loadB d f.bytes := by
  unfold catLoad loadB
  simp only [h]
  rfl
theorem catLoad_none {d : Disk} (h : Dk.look d.files curN = none) : catLoad d = (0, zeroVer) := by
  unfold catLoad
  simp only [h]
/-- What is answered of a version that is loaded. -/
def LoadA (X : Nat × Ed.Ver) (w : World) (e : Ending) (w' : World) : Prop := (∃ y : VV, e = .returned (.tuple #[y.val, .int .i64 (X.1 : Int)]) ∧ Firm w.heap.size w' y ∧ y.v = X.2) ∧ Below w.heap.size w w'
def GenA (l : List UInt8) (w : World) (e : Ending) (w' : World) : Prop := ((∃ g : Nat, genOf l = some g ∧ e = .returned (.tuple #[.int .i64 (g : Int), .int .i64 0])) ∨ (genOf l = none ∧ e = .returned (.tuple #[.int .i64 0, .int .i64 2]))) ∧ Below w.heap.size w w'
def UnfA (l : List UInt8) (w : World) (e : Ending) (w' : World) : Prop := ((∃ B a1 c1, unf l = some B ∧ e = .returned (.tuple #[.slice a1 B.length c1, .int .i64 0]) ∧ w'.ownsRow w.heap.size 5 1 (.slice a1 B.length c1) B.length (bv B)) ∨ (unf l = none ∧ e = .returned (.tuple #[.slice none 0 0, .int .i64 2]))) ∧ Below w.heap.size w w'
set_option maxHeartbeats 4000000 in
set_option maxRecDepth 100000 in
theorem unframed_any (ao : Option Addr) (m c : Nat) (l : List UInt8) (w : World) (hm : m ≤ 140737488355328) (hs : Src w ao m c l) :
    Calls Tryz.prog 96 #[.slice ao m c] w (UnfA l w) := by
  have TF := keep (takeFrame_any ao m c l (m : Int) w hm hs)
  have hl := hs.len
  have HU : Hid (unf l = match tfr l (m : Int) with | some (b, []) => some b | _ => none) := by
    show _ = _
    unfold unf
    rw [hl]
    rfl
  have LB : Hid (∀ B R, tfr l (m : Int) = some (B, R) → R.length ≤ 140737488355328) := fun B R h => by
    have h1 := congrArg List.length (tfr_some h).1
    rw [List.length_append, hl] at h1
    omega
  obtain ⟨T, hT⟩ : ∃ T, tfr l (m : Int) = T := ⟨_, rfl⟩
  rw [hT] at TF HU LB
  have YES : Hid (∀ B a1 c1 w', T = some (B, []) → w'.ownsRow w.heap.size 5 1 (.slice a1 B.length c1) B.length (bv B) → Below w.heap.size w w' → UnfA l w (.returned (.tuple #[.slice a1 B.length c1, .int .i64 0])) w') := fun B a1 c1 w' h1 h2 h3 => ⟨.inl ⟨B, a1, c1, by rw [HU.out, h1], rfl, h2⟩, h3⟩
  have NO1 : Hid (∀ B r t w', T = some (B, r :: t) → Below w.heap.size w w' → UnfA l w (.returned (.tuple #[.slice none 0 0, .int .i64 2])) w') := fun B r t w' h1 h3 => ⟨.inr ⟨by rw [HU.out, h1], rfl⟩, h3⟩
  have NO2 : Hid (∀ w', T = none → Below w.heap.size w w' → UnfA l w (.returned (.tuple #[.slice none 0 0, .int .i64 2])) w') := fun w' h1 h3 => ⟨.inr ⟨by rw [HU.out, h1], rfl⟩, h3⟩
  clear hs hl hT HU
  go_enter Tryz.func96, Tryz.ntmps96
  go_wp2_with fail
  refine TF.out.mono ?_
  rintro e w1 (⟨B, R, a1, c1, a2, c2, rfl, rfl, ho, hs2, hb⟩ | ⟨rfl, rfl, hb⟩)
  · have B1 := keep hb
    have HO := keep ho
    have L2 := LB.out B R rfl
    cases R with
    | nil =>
      simp only [List.length_nil] at *
      clear hs2 hb ho TF LB
      go_wp2
      go_ret2
      exact YES.out B a1 c1 _ rfl HO.out B1.out
    | cons r t =>
      obtain ⟨q, hq⟩ : ∃ q, (r :: t).length = q := ⟨_, rfl⟩
      have hq0 : (0 : Int) < (q : Int) := by rw [List.length_cons] at hq; omega
      rw [hq]
      clear hs2 hb ho TF LB hq L2
      go_wp2
      go_ret2
      exact NO1.out B r t _ rfl B1.out
  · have B1 := keep hb
    clear hb TF LB
    go_wp2
    go_ret2
    exact NO2.out _ (by first | rfl | trivial) B1.out
set_option maxHeartbeats 4000000 in
set_option maxRecDepth 100000 in
theorem readGen_any (ao : Option Addr) (m c : Nat) (l : List UInt8) (w : World) (hm : m ≤ 140737488355328) (hs : Src w ao m c l) :
    Calls Tryz.prog 95 #[.slice ao m c] w (GenA l w) := by
  have UF := keep (unframed_any ao m c l w hm hs)
  have HU : Hid (genOf l = match unf l with | some b => (match takeNum b with | some (g, []) => some g | _ => none) | none => none) := rfl
  have hl := hs.len
  have LB : Hid (∀ B, unf l = some B → B.length ≤ 140737488355328) := fun B h => by
    unfold unf at h
    split at h
    · rename_i b ht
      cases h
      have h1 := congrArg List.length (tfr_some ht).1
      have h2 := frame_length B
      rw [List.length_append] at h1
      omega
    · cases h
  unfold UnfA at UF
  obtain ⟨T, hT⟩ : ∃ T, unf l = T := ⟨_, rfl⟩
  have YES : Hid (∀ B g w', T = some B → takeNum B = some (g, []) → Below w.heap.size w w' → GenA l w (.returned (.tuple #[.int .i64 (g : Int), .int .i64 0])) w') := fun B g w' h1 h2 h3 => ⟨.inl ⟨g, by rw [HU.out, hT, h1]; simp only; rw [h2], rfl⟩, h3⟩
  have NO1 : Hid (∀ B g r t w', T = some B → takeNum B = some (g, r :: t) → Below w.heap.size w w' → GenA l w (.returned (.tuple #[.int .i64 0, .int .i64 2])) w') := fun B g r t w' h1 h2 h3 => ⟨.inr ⟨by rw [HU.out, hT, h1]; simp only; rw [h2], rfl⟩, h3⟩
  have NO2 : Hid (∀ B w', T = some B → takeNum B = none → Below w.heap.size w w' → GenA l w (.returned (.tuple #[.int .i64 0, .int .i64 2])) w') := fun B w' h1 h2 h3 => ⟨.inr ⟨by rw [HU.out, hT, h1]; simp only; rw [h2], rfl⟩, h3⟩
  have NO3 : Hid (∀ w', T = none → Below w.heap.size w w' → GenA l w (.returned (.tuple #[.int .i64 0, .int .i64 2])) w') := fun w' h1 h3 => ⟨.inr ⟨by rw [HU.out, hT, h1], rfl⟩, h3⟩
  rw [hT] at UF LB
  clear hs hl hT HU
  go_enter Tryz.func95, Tryz.ntmps95
  go_wp2_with fail
  refine UF.out.mono ?_
  rintro e w1 ⟨⟨B, a1, c1, rfl, rfl, ho⟩ | ⟨rfl, rfl⟩, hb⟩
  · have B1 := keep hb
    have hsB : Src w1 a1 B.length c1 B := by
      obtain ⟨ao', c', e', h2, _⟩ := Src.of_own ho
      cases e'
      exact h2
    have TN := keep (takeNum_any a1 B.length c1 B w1 (LB.out B rfl) hsB)
    have LB2 := keep (LB.out B rfl)
    clear hb ho hsB UF LB
    obtain ⟨BL, hBL⟩ : ∃ n, B.length = n := ⟨_, rfl⟩
    rw [hBL] at TN LB2
    try rw [hBL]
    have HBL := keep hBL
    clear hBL
    go_wp2_with fail
    refine TN.out.mono ?_
    rintro e w2 (⟨n, r, v, ht, rfl, hv⟩ | ⟨ht, rfl, hb2⟩)
    · have B2 := keep (B1.out.trans (hv.2.mono B1.out.size))
      obtain ⟨a3, c3, rfl, _, _⟩ := hv.src
      have HT := keep ht
      cases r with
      | nil =>
        simp only [List.length_nil] at *
        clear ht hv TN
        go_wp2
        go_ret2
        exact YES.out B n _ rfl HT.out B2.out
      | cons q t =>
        obtain ⟨z, hz⟩ : ∃ z, (q :: t).length = z := ⟨_, rfl⟩
        have hz0 : (0 : Int) < (z : Int) := by rw [List.length_cons] at hz; omega
        rw [hz]
        clear ht hv TN hz
        go_wp2
        go_ret2
        exact NO1.out B n q t _ rfl HT.out B2.out
    · have B2 := keep (B1.out.trans (hb2.mono B1.out.size))
      have HT := keep ht
      clear ht hb2 TN
      go_wp2
      go_ret2
      exact NO2.out B _ rfl HT.out B2.out
  · have B1 := keep hb
    clear hb UF LB
    go_wp2
    go_ret2
    exact NO3.out _ (by first | rfl | trivial) B1.out
set_option maxHeartbeats 4000000 in
set_option maxRecDepth 100000 in
theorem load_any (S : Nat → Prop) (b : Nat) (d : Disk) (ao : Option Addr) (m c : Nat) (l : List UInt8) (w : World) (hM : Mem S w b d) (hG : Gl w) (hm : m ≤ 140737488355328) (hs : Src w ao m c l) :
    Calls Tryz.prog 47 #[.pointer (some ⟨b, 0, none⟩), .slice ao m c] w (LoadA (loadB d l) w) := by
  obtain ⟨W1, hW1⟩ : ∃ W1, w.alloc (.cells #[.int .i64 0, .int .i64 0, .int .i64 0, .int .i64 0, .slice none 0 0] 50) = W1 := ⟨_, rfl⟩
  have b1 : Hid (Below w.heap.size w W1) := by rw [← hW1]; exact (Below.refl _ _).alloc (Nat.le_refl _) _
  have g1 : Hid (W1.heap[w.heap.size]? = some (.cells #[.int .i64 0, .int .i64 0, .int .i64 0, .int .i64 0, .slice none 0 0] 50)) := by rw [← hW1]; exact heap_alloc_new w _
  have BX : Hid (∀ w', Below W1.heap.size W1 w' → w'.heap[w.heap.size]? = some (.cells #[.int .i64 0, .int .i64 0, .int .i64 0, .int .i64 0, .slice none 0 0] 50) ∧ Below w.heap.size w w' ∧ Gl w' ∧ Mem S w' b d) := fun w' hb => ⟨(hb.block _ (Array.getElem?_eq_some_iff.1 g1.out).1).trans g1.out, b1.out.trans (hb.mono b1.out.size), hG.below (b1.out.trans (hb.mono b1.out.size)), hM.below (b1.out.trans (hb.mono b1.out.size))⟩
  have RG := keep (readGen_any ao m c l W1 hm (hs.below b1.out))
  unfold GenA at RG
  have NO : Hid (∀ w', Below w.heap.size w w' → loadB d l = (2, zeroVer) → LoadA (loadB d l) w (.returned (.tuple #[.agg #[.int .i64 0, .int .i64 0, .int .i64 0, .int .i64 0, .slice none 0 0], .int .i64 2])) w') := fun w' hb he => by
    rw [he]
    exact ⟨⟨zeroV, rfl, zeroV_firm _ _, rfl⟩, hb⟩
  clear hM hG hs
  go_enter Tryz.func47, Tryz.ntmps47
  go_wp2_with fail
  refine RG.out.mono ?_
  rintro e w2 ⟨⟨g, hg, rfl⟩ | ⟨hg, rfl⟩, hb2⟩
  rotate_left
  · have L2 := keep hb2
    have HG := keep hg
    clear hb2 hg RG hW1
    have GB := keep (BX.out w2 L2.out).1
    have BB := keep (BX.out w2 L2.out).2.1
    have EQ : Hid (loadB d l = (2, zeroVer)) := by
      show _ = _
      unfold loadB
      rw [HG.out]
    have z0 : w2.cell? ⟨w.heap.size, 0, none⟩ = some (.int .i64 0) := cell_of_row _ _ _ _ _ _ GB.out
    have z1 : w2.cell? ⟨w.heap.size, 1, none⟩ = some (.int .i64 0) := cell_of_row _ _ _ _ _ _ GB.out
    have z2 : w2.cell? ⟨w.heap.size, 2, none⟩ = some (.int .i64 0) := cell_of_row _ _ _ _ _ _ GB.out
    have z3 : w2.cell? ⟨w.heap.size, 3, none⟩ = some (.int .i64 0) := cell_of_row _ _ _ _ _ _ GB.out
    have z4 : w2.cell? ⟨w.heap.size, 4, none⟩ = some (.slice none 0 0) := cell_of_row _ _ _ _ _ _ GB.out
    have f0 : w2.frozen? ⟨w.heap.size, 0, none⟩ = false := by simp [World.frozen?, GB.out]
    have f1 : w2.frozen? ⟨w.heap.size, 1, none⟩ = false := by simp [World.frozen?, GB.out]
    have f2 : w2.frozen? ⟨w.heap.size, 2, none⟩ = false := by simp [World.frozen?, GB.out]
    have f3 : w2.frozen? ⟨w.heap.size, 3, none⟩ = false := by simp [World.frozen?, GB.out]
    have f4 : w2.frozen? ⟨w.heap.size, 4, none⟩ = false := by simp [World.frozen?, GB.out]
    go_wp2
    refine ⟨rfl, .tuple #[.agg #[.int .i64 0, .int .i64 0, .int .i64 0, .int .i64 0, .slice none 0 0], .int .i64 2], ?_, ?_⟩
    · have r0 : (w2.setCell ⟨w.heap.size, 0, none⟩ (.int .i64 0)).cell? ⟨w.heap.size, 0, none⟩ = some (.int .i64 0) := World.cell?_setCell_same' _ _ _ (by simp [go_sem, z0])
      have r1 : ((w2.setCell ⟨w.heap.size, 0, none⟩ (.int .i64 0)).setCell ⟨w.heap.size, 1, none⟩ (.int .i64 0)).cell? ⟨w.heap.size, 1, none⟩ = some (.int .i64 0) := World.cell?_setCell_same' _ _ _ (by simp [go_sem, z1])
      have r2 : (((w2.setCell ⟨w.heap.size, 0, none⟩ (.int .i64 0)).setCell ⟨w.heap.size, 1, none⟩ (.int .i64 0)).setCell ⟨w.heap.size, 2, none⟩ (.int .i64 0)).cell? ⟨w.heap.size, 2, none⟩ = some (.int .i64 0) := World.cell?_setCell_same' _ _ _ (by simp [go_sem, z2])
      have r3 : ((((w2.setCell ⟨w.heap.size, 0, none⟩ (.int .i64 0)).setCell ⟨w.heap.size, 1, none⟩ (.int .i64 0)).setCell ⟨w.heap.size, 2, none⟩ (.int .i64 0)).setCell ⟨w.heap.size, 3, none⟩ (.int .i64 0)).cell? ⟨w.heap.size, 3, none⟩ = some (.int .i64 0) := World.cell?_setCell_same' _ _ _ (by simp [go_sem, z3])
      have r4 : (((((w2.setCell ⟨w.heap.size, 0, none⟩ (.int .i64 0)).setCell ⟨w.heap.size, 1, none⟩ (.int .i64 0)).setCell ⟨w.heap.size, 2, none⟩ (.int .i64 0)).setCell ⟨w.heap.size, 3, none⟩ (.int .i64 0)).setCell ⟨w.heap.size, 4, none⟩ (.slice none 0 0)).cell? ⟨w.heap.size, 4, none⟩ = some (.slice none 0 0) := World.cell?_setCell_same' _ _ _ (by simp [go_sem, z4])
      simp [results, Tryz.f47, go_sem, loadCells, loadCellsFrom, r0, r1, r2, r3, r4]
    · exact NO.out _ (((((BB.out.setCell (p := ⟨w.heap.size, 0, none⟩) (Nat.le_refl _) _).setCell (p := ⟨w.heap.size, 1, none⟩) (Nat.le_refl _) _).setCell (p := ⟨w.heap.size, 2, none⟩) (Nat.le_refl _) _).setCell (p := ⟨w.heap.size, 3, none⟩) (Nat.le_refl _) _).setCell (p := ⟨w.heap.size, 4, none⟩) (Nat.le_refl _) _) EQ.out
  · have L2 := keep hb2
    have HG := keep hg
    have VN := keep (version_any (g : Int) w2 (BX.out w2 hb2).2.2.1.tab)
    clear hb2 hg RG hW1
    go_wp2_with fail
    refine VN.out.mono ?_
    rintro e w3 ⟨rfl, hb3⟩
    have L3 := keep (L2.out.trans (hb3.mono L2.out.size))
    clear hb3 VN
    cases hseg : isSeg (g : Int) with
    | false =>
      have RA := keep (read_arg S b d [] w3 (BX.out w3 L3.out).2.2.2 rfl)
      have ec : calledL [109, 97, 110, 47] (g : Int) = [] := by unfold calledL; rw [hseg]; rfl
      rw [ec]
      have HS := keep hseg
      clear ec hseg
      go_wp2_with fail
      refine RA.out.mono ?_
      rintro e w4 ⟨rfl, hb4⟩
      have L4 := keep (L3.out.trans (hb4.mono L3.out.size))
      clear hb4 RA
      have GB := keep (BX.out w4 L4.out).1
      have BB := keep (BX.out w4 L4.out).2.1
      have EQ : Hid (loadB d l = (2, zeroVer)) := by
        show _ = _
        unfold loadB
        rw [HG.out]
        simp only
        rw [HS.out]
        rfl
      have z0 : w4.cell? ⟨w.heap.size, 0, none⟩ = some (.int .i64 0) := cell_of_row _ _ _ _ _ _ GB.out
      have z1 : w4.cell? ⟨w.heap.size, 1, none⟩ = some (.int .i64 0) := cell_of_row _ _ _ _ _ _ GB.out
      have z2 : w4.cell? ⟨w.heap.size, 2, none⟩ = some (.int .i64 0) := cell_of_row _ _ _ _ _ _ GB.out
      have z3 : w4.cell? ⟨w.heap.size, 3, none⟩ = some (.int .i64 0) := cell_of_row _ _ _ _ _ _ GB.out
      have z4 : w4.cell? ⟨w.heap.size, 4, none⟩ = some (.slice none 0 0) := cell_of_row _ _ _ _ _ _ GB.out
      have f0 : w4.frozen? ⟨w.heap.size, 0, none⟩ = false := by simp [World.frozen?, GB.out]
      have f1 : w4.frozen? ⟨w.heap.size, 1, none⟩ = false := by simp [World.frozen?, GB.out]
      have f2 : w4.frozen? ⟨w.heap.size, 2, none⟩ = false := by simp [World.frozen?, GB.out]
      have f3 : w4.frozen? ⟨w.heap.size, 3, none⟩ = false := by simp [World.frozen?, GB.out]
      have f4 : w4.frozen? ⟨w.heap.size, 4, none⟩ = false := by simp [World.frozen?, GB.out]
      go_wp2
      refine ⟨rfl, .tuple #[.agg #[.int .i64 0, .int .i64 0, .int .i64 0, .int .i64 0, .slice none 0 0], .int .i64 2], ?_, ?_⟩
      · have r0 : (w4.setCell ⟨w.heap.size, 0, none⟩ (.int .i64 0)).cell? ⟨w.heap.size, 0, none⟩ = some (.int .i64 0) := World.cell?_setCell_same' _ _ _ (by simp [go_sem, z0])
        have r1 : ((w4.setCell ⟨w.heap.size, 0, none⟩ (.int .i64 0)).setCell ⟨w.heap.size, 1, none⟩ (.int .i64 0)).cell? ⟨w.heap.size, 1, none⟩ = some (.int .i64 0) := World.cell?_setCell_same' _ _ _ (by simp [go_sem, z1])
        have r2 : (((w4.setCell ⟨w.heap.size, 0, none⟩ (.int .i64 0)).setCell ⟨w.heap.size, 1, none⟩ (.int .i64 0)).setCell ⟨w.heap.size, 2, none⟩ (.int .i64 0)).cell? ⟨w.heap.size, 2, none⟩ = some (.int .i64 0) := World.cell?_setCell_same' _ _ _ (by simp [go_sem, z2])
        have r3 : ((((w4.setCell ⟨w.heap.size, 0, none⟩ (.int .i64 0)).setCell ⟨w.heap.size, 1, none⟩ (.int .i64 0)).setCell ⟨w.heap.size, 2, none⟩ (.int .i64 0)).setCell ⟨w.heap.size, 3, none⟩ (.int .i64 0)).cell? ⟨w.heap.size, 3, none⟩ = some (.int .i64 0) := World.cell?_setCell_same' _ _ _ (by simp [go_sem, z3])
        have r4 : (((((w4.setCell ⟨w.heap.size, 0, none⟩ (.int .i64 0)).setCell ⟨w.heap.size, 1, none⟩ (.int .i64 0)).setCell ⟨w.heap.size, 2, none⟩ (.int .i64 0)).setCell ⟨w.heap.size, 3, none⟩ (.int .i64 0)).setCell ⟨w.heap.size, 4, none⟩ (.slice none 0 0)).cell? ⟨w.heap.size, 4, none⟩ = some (.slice none 0 0) := World.cell?_setCell_same' _ _ _ (by simp [go_sem, z4])
        simp [results, Tryz.f47, go_sem, loadCells, loadCellsFrom, r0, r1, r2, r3, r4]
      · exact NO.out _ (((((BB.out.setCell (p := ⟨w.heap.size, 0, none⟩) (Nat.le_refl _) _).setCell (p := ⟨w.heap.size, 1, none⟩) (Nat.le_refl _) _).setCell (p := ⟨w.heap.size, 2, none⟩) (Nat.le_refl _) _).setCell (p := ⟨w.heap.size, 3, none⟩) (Nat.le_refl _) _).setCell (p := ⟨w.heap.size, 4, none⟩) (Nat.le_refl _) _) EQ.out
    | true =>
      have ec : calledL [109, 97, 110, 47] (g : Int) = manN (g : Int) := by unfold calledL; rw [hseg]; rfl
      rw [ec]
      have HS := keep hseg
      have hnm := manN_named hseg
      have hnl := manN_len hseg
      have HM := keep (BX.out w3 L3.out).2.2.2
      clear ec hseg
      cases hlk : Dk.look d.files (manN (g : Int)) with
      | none =>
        have RN := keep (read_none S b d (manN (g : Int)) w3 HM.out (by rw [hnl]; unfold maxLen; decide) hnm hlk)
        have HLK := keep hlk
        clear hnm hnl hlk
        obtain ⟨N, hN⟩ : ∃ N, manN (g : Int) = N := ⟨_, rfl⟩
        rw [hN] at RN HLK ⊢
        have HN := keep hN
        clear hN
        go_wp2_with fail
        refine RN.out.mono ?_
        rintro e w4 ⟨rfl, hb4⟩
        have L4 := keep (L3.out.trans (hb4.mono L3.out.size))
        clear hb4 RN
        have GB := keep (BX.out w4 L4.out).1
        have BB := keep (BX.out w4 L4.out).2.1
        have EQ : Hid (loadB d l = (2, zeroVer)) := by
          show _ = _
          unfold loadB
          rw [HG.out]
          simp only
          rw [HS.out, if_pos rfl, HN.out, HLK.out]
        have z0 : w4.cell? ⟨w.heap.size, 0, none⟩ = some (.int .i64 0) := cell_of_row _ _ _ _ _ _ GB.out
        have z1 : w4.cell? ⟨w.heap.size, 1, none⟩ = some (.int .i64 0) := cell_of_row _ _ _ _ _ _ GB.out
        have z2 : w4.cell? ⟨w.heap.size, 2, none⟩ = some (.int .i64 0) := cell_of_row _ _ _ _ _ _ GB.out
        have z3 : w4.cell? ⟨w.heap.size, 3, none⟩ = some (.int .i64 0) := cell_of_row _ _ _ _ _ _ GB.out
        have z4 : w4.cell? ⟨w.heap.size, 4, none⟩ = some (.slice none 0 0) := cell_of_row _ _ _ _ _ _ GB.out
        have f0 : w4.frozen? ⟨w.heap.size, 0, none⟩ = false := by simp [World.frozen?, GB.out]
        have f1 : w4.frozen? ⟨w.heap.size, 1, none⟩ = false := by simp [World.frozen?, GB.out]
        have f2 : w4.frozen? ⟨w.heap.size, 2, none⟩ = false := by simp [World.frozen?, GB.out]
        have f3 : w4.frozen? ⟨w.heap.size, 3, none⟩ = false := by simp [World.frozen?, GB.out]
        have f4 : w4.frozen? ⟨w.heap.size, 4, none⟩ = false := by simp [World.frozen?, GB.out]
        go_wp2
        refine ⟨rfl, .tuple #[.agg #[.int .i64 0, .int .i64 0, .int .i64 0, .int .i64 0, .slice none 0 0], .int .i64 2], ?_, ?_⟩
        · have r0 : (w4.setCell ⟨w.heap.size, 0, none⟩ (.int .i64 0)).cell? ⟨w.heap.size, 0, none⟩ = some (.int .i64 0) := World.cell?_setCell_same' _ _ _ (by simp [go_sem, z0])
          have r1 : ((w4.setCell ⟨w.heap.size, 0, none⟩ (.int .i64 0)).setCell ⟨w.heap.size, 1, none⟩ (.int .i64 0)).cell? ⟨w.heap.size, 1, none⟩ = some (.int .i64 0) := World.cell?_setCell_same' _ _ _ (by simp [go_sem, z1])
          have r2 : (((w4.setCell ⟨w.heap.size, 0, none⟩ (.int .i64 0)).setCell ⟨w.heap.size, 1, none⟩ (.int .i64 0)).setCell ⟨w.heap.size, 2, none⟩ (.int .i64 0)).cell? ⟨w.heap.size, 2, none⟩ = some (.int .i64 0) := World.cell?_setCell_same' _ _ _ (by simp [go_sem, z2])
          have r3 : ((((w4.setCell ⟨w.heap.size, 0, none⟩ (.int .i64 0)).setCell ⟨w.heap.size, 1, none⟩ (.int .i64 0)).setCell ⟨w.heap.size, 2, none⟩ (.int .i64 0)).setCell ⟨w.heap.size, 3, none⟩ (.int .i64 0)).cell? ⟨w.heap.size, 3, none⟩ = some (.int .i64 0) := World.cell?_setCell_same' _ _ _ (by simp [go_sem, z3])
          have r4 : (((((w4.setCell ⟨w.heap.size, 0, none⟩ (.int .i64 0)).setCell ⟨w.heap.size, 1, none⟩ (.int .i64 0)).setCell ⟨w.heap.size, 2, none⟩ (.int .i64 0)).setCell ⟨w.heap.size, 3, none⟩ (.int .i64 0)).setCell ⟨w.heap.size, 4, none⟩ (.slice none 0 0)).cell? ⟨w.heap.size, 4, none⟩ = some (.slice none 0 0) := World.cell?_setCell_same' _ _ _ (by simp [go_sem, z4])
          simp [results, Tryz.f47, go_sem, loadCells, loadCellsFrom, r0, r1, r2, r3, r4]
        · exact NO.out _ (((((BB.out.setCell (p := ⟨w.heap.size, 0, none⟩) (Nat.le_refl _) _).setCell (p := ⟨w.heap.size, 1, none⟩) (Nat.le_refl _) _).setCell (p := ⟨w.heap.size, 2, none⟩) (Nat.le_refl _) _).setCell (p := ⟨w.heap.size, 3, none⟩) (Nat.le_refl _) _).setCell (p := ⟨w.heap.size, 4, none⟩) (Nat.le_refl _) _) EQ.out
      | some f =>
        obtain ⟨fn, sf, fb⟩ := f
        have hfl := file_len HM.out hlk
        have RS := keep (read_some S b d (manN (g : Int)) fn sf fb w3 HM.out (by rw [hnl]; unfold maxLen; decide) hnm hlk hfl)
        have LB : Hid (loadB d l = match verOf (g : Int) fb with | none => (2, zeroVer) | some v => (0, v)) := by
          show _ = _
          unfold loadB
          rw [HG.out]
          simp only
          rw [HS.out, if_pos rfl, hlk]
        have FL := keep hfl
        clear hnm hnl hlk hfl
        obtain ⟨N, hN⟩ : ∃ N, manN (g : Int) = N := ⟨_, rfl⟩
        rw [hN] at RS ⊢
        clear hN
        go_wp2_with fail
        refine RS.out.mono ?_
        rintro e w4 ⟨v4, rfl, hn4⟩
        have L4 := keep (L3.out.trans (hn4.2.mono L3.out.size))
        obtain ⟨a4, c4, rfl, hs4, _⟩ := hn4.src
        have UF := keep (unframed_any a4 fb.length c4 fb w4 FL.out hs4)
        unfold UnfA at UF
        obtain ⟨FBL, hFBL⟩ : ∃ n, fb.length = n := ⟨_, rfl⟩
        rw [hFBL] at UF ⊢
        have HFBL := keep hFBL
        clear hn4 hs4 RS hFBL
        go_wp2_with fail
        refine UF.out.mono ?_
        rintro e w5 ⟨⟨B, a5, c5, hu, rfl, ho5⟩ | ⟨hu, rfl⟩, hb5⟩
        rotate_left
        · have L5 := keep (L4.out.trans (hb5.mono L4.out.size))
          have HU := keep hu
          clear hb5 hu UF
          have GB := keep (BX.out w5 L5.out).1
          have BB := keep (BX.out w5 L5.out).2.1
          have EQ : Hid (loadB d l = (2, zeroVer)) := by
            show _ = _
            rw [LB.out]
            unfold verOf
            rw [HU.out]
          have z0 : w5.cell? ⟨w.heap.size, 0, none⟩ = some (.int .i64 0) := cell_of_row _ _ _ _ _ _ GB.out
          have z1 : w5.cell? ⟨w.heap.size, 1, none⟩ = some (.int .i64 0) := cell_of_row _ _ _ _ _ _ GB.out
          have z2 : w5.cell? ⟨w.heap.size, 2, none⟩ = some (.int .i64 0) := cell_of_row _ _ _ _ _ _ GB.out
          have z3 : w5.cell? ⟨w.heap.size, 3, none⟩ = some (.int .i64 0) := cell_of_row _ _ _ _ _ _ GB.out
          have z4 : w5.cell? ⟨w.heap.size, 4, none⟩ = some (.slice none 0 0) := cell_of_row _ _ _ _ _ _ GB.out
          have f0 : w5.frozen? ⟨w.heap.size, 0, none⟩ = false := by simp [World.frozen?, GB.out]
          have f1 : w5.frozen? ⟨w.heap.size, 1, none⟩ = false := by simp [World.frozen?, GB.out]
          have f2 : w5.frozen? ⟨w.heap.size, 2, none⟩ = false := by simp [World.frozen?, GB.out]
          have f3 : w5.frozen? ⟨w.heap.size, 3, none⟩ = false := by simp [World.frozen?, GB.out]
          have f4 : w5.frozen? ⟨w.heap.size, 4, none⟩ = false := by simp [World.frozen?, GB.out]
          go_wp2
          refine ⟨rfl, .tuple #[.agg #[.int .i64 0, .int .i64 0, .int .i64 0, .int .i64 0, .slice none 0 0], .int .i64 2], ?_, ?_⟩
          · have r0 : (w5.setCell ⟨w.heap.size, 0, none⟩ (.int .i64 0)).cell? ⟨w.heap.size, 0, none⟩ = some (.int .i64 0) := World.cell?_setCell_same' _ _ _ (by simp [go_sem, z0])
            have r1 : ((w5.setCell ⟨w.heap.size, 0, none⟩ (.int .i64 0)).setCell ⟨w.heap.size, 1, none⟩ (.int .i64 0)).cell? ⟨w.heap.size, 1, none⟩ = some (.int .i64 0) := World.cell?_setCell_same' _ _ _ (by simp [go_sem, z1])
            have r2 : (((w5.setCell ⟨w.heap.size, 0, none⟩ (.int .i64 0)).setCell ⟨w.heap.size, 1, none⟩ (.int .i64 0)).setCell ⟨w.heap.size, 2, none⟩ (.int .i64 0)).cell? ⟨w.heap.size, 2, none⟩ = some (.int .i64 0) := World.cell?_setCell_same' _ _ _ (by simp [go_sem, z2])
            have r3 : ((((w5.setCell ⟨w.heap.size, 0, none⟩ (.int .i64 0)).setCell ⟨w.heap.size, 1, none⟩ (.int .i64 0)).setCell ⟨w.heap.size, 2, none⟩ (.int .i64 0)).setCell ⟨w.heap.size, 3, none⟩ (.int .i64 0)).cell? ⟨w.heap.size, 3, none⟩ = some (.int .i64 0) := World.cell?_setCell_same' _ _ _ (by simp [go_sem, z3])
            have r4 : (((((w5.setCell ⟨w.heap.size, 0, none⟩ (.int .i64 0)).setCell ⟨w.heap.size, 1, none⟩ (.int .i64 0)).setCell ⟨w.heap.size, 2, none⟩ (.int .i64 0)).setCell ⟨w.heap.size, 3, none⟩ (.int .i64 0)).setCell ⟨w.heap.size, 4, none⟩ (.slice none 0 0)).cell? ⟨w.heap.size, 4, none⟩ = some (.slice none 0 0) := World.cell?_setCell_same' _ _ _ (by simp [go_sem, z4])
            simp [results, Tryz.f47, go_sem, loadCells, loadCellsFrom, r0, r1, r2, r3, r4]
          · exact NO.out _ (((((BB.out.setCell (p := ⟨w.heap.size, 0, none⟩) (Nat.le_refl _) _).setCell (p := ⟨w.heap.size, 1, none⟩) (Nat.le_refl _) _).setCell (p := ⟨w.heap.size, 2, none⟩) (Nat.le_refl _) _).setCell (p := ⟨w.heap.size, 3, none⟩) (Nat.le_refl _) _).setCell (p := ⟨w.heap.size, 4, none⟩) (Nat.le_refl _) _) EQ.out
        · have L5 := keep (L4.out.trans (hb5.mono L4.out.size))
          have HU := keep hu
          have hsB : Src w5 a5 B.length c5 B := by
            obtain ⟨ao', c', e', h2, _⟩ := Src.of_own ho5
            cases e'
            exact h2
          have HBn : Hid (B.length ≤ 140737488355328) := by
            have h0 := hu
            unfold unf at h0
            split at h0
            · rename_i bb ht
              cases h0
              have h1 := congrArg List.length (tfr_some ht).1
              have h2 := frame_length B
              rw [List.length_append] at h1
              have h3 := FL.out
              show _ ≤ _
              omega
            · cases h0
          have DE := keep (decode_any a5 B.length c5 B w5 hsB (fun ad had => by subst had; rcases ad with ⟨q, o, mm⟩; rcases ho5.2 with ⟨e0, _⟩ | ⟨gq, cap, cur, e0, _, hh, _⟩ <;> cases e0; exact (Array.getElem?_eq_some_iff.1 hh).1) HBn.out)
          have LV : Hid (loadB d l = if Ed.isVer B && decide ((Ed.rdV B).gen = (g : Int)) then (0, Ed.rdV B) else (2, zeroVer)) := by
            show _ = _
            have hv : verOf (g : Int) fb = if Ed.isVer B && decide ((Ed.rdV B).gen = (g : Int)) then some (Ed.rdV B) else none := by
              unfold verOf
              rw [HU.out]
            rw [LB.out, hv]
            by_cases hc : (Ed.isVer B && decide ((Ed.rdV B).gen = (g : Int))) = true
            · rw [if_pos hc, if_pos hc]
            · rw [if_neg hc, if_neg hc]
          unfold DecA at DE
          obtain ⟨BN, hBN⟩ : ∃ n, B.length = n := ⟨_, rfl⟩
          rw [hBN] at DE ⊢
          clear hb5 hu ho5 hsB UF hBN
          go_wp2_with fail
          refine DE.out.mono ?_
          rintro e w6 ⟨⟨y, rfl, hy, hyv⟩, hb6⟩
          have L6 := keep (L5.out.trans (hb6.mono L5.out.size))
          have HY := keep hy
          have HYV := keep hyv
          obtain ⟨yp, yn, yc, ygen, ynext, ylog, yseq, yes⟩ := y
          unfold VV.val
          simp only
          obtain ⟨W7, hW7⟩ : ∃ W7, w6.alloc (.cells #[.int .i64 ygen, .int .i64 ynext, .int .i64 ylog, .int .i64 yseq, .slice yp yn yc] 50) = W7 := ⟨_, rfl⟩
          have b7 : Hid (Below w6.heap.size w6 W7) := by rw [← hW7]; exact (Below.refl _ _).alloc (Nat.le_refl _) _
          have g7 : Hid (W7.heap[w6.heap.size]? = some (.cells #[.int .i64 ygen, .int .i64 ynext, .int .i64 ylog, .int .i64 yseq, .slice yp yn yc] 50)) := by rw [← hW7]; exact heap_alloc_new w6 _
          have L7 := keep (L6.out.trans (b7.out.mono L6.out.size))
          have y0 : W7.cell? ⟨w6.heap.size, 0, none⟩ = some (.int .i64 ygen) := cell_of_row _ _ _ _ _ _ g7.out
          have y1 : W7.cell? ⟨w6.heap.size, 1, none⟩ = some (.int .i64 ynext) := cell_of_row _ _ _ _ _ _ g7.out
          have y2 : W7.cell? ⟨w6.heap.size, 2, none⟩ = some (.int .i64 ylog) := cell_of_row _ _ _ _ _ _ g7.out
          have y3 : W7.cell? ⟨w6.heap.size, 3, none⟩ = some (.int .i64 yseq) := cell_of_row _ _ _ _ _ _ g7.out
          have y4 : W7.cell? ⟨w6.heap.size, 4, none⟩ = some (.slice yp yn yc) := cell_of_row _ _ _ _ _ _ g7.out
          cases hiv : Ed.isVer B with
          | false =>
            rw [hiv] at hyv
            rw [if_neg (by decide)]
            clear hy hyv hb6 DE
            have GB := keep (BX.out W7 L7.out).1
            have BB := keep (BX.out W7 L7.out).2.1
            have EQ : Hid (loadB d l = (2, zeroVer)) := by
              show _ = _
              rw [LV.out, hiv]
              rfl
            have z0 : W7.cell? ⟨w.heap.size, 0, none⟩ = some (.int .i64 0) := cell_of_row _ _ _ _ _ _ GB.out
            have z1 : W7.cell? ⟨w.heap.size, 1, none⟩ = some (.int .i64 0) := cell_of_row _ _ _ _ _ _ GB.out
            have z2 : W7.cell? ⟨w.heap.size, 2, none⟩ = some (.int .i64 0) := cell_of_row _ _ _ _ _ _ GB.out
            have z3 : W7.cell? ⟨w.heap.size, 3, none⟩ = some (.int .i64 0) := cell_of_row _ _ _ _ _ _ GB.out
            have z4 : W7.cell? ⟨w.heap.size, 4, none⟩ = some (.slice none 0 0) := cell_of_row _ _ _ _ _ _ GB.out
            have f0 : W7.frozen? ⟨w.heap.size, 0, none⟩ = false := by simp [World.frozen?, GB.out]
            have f1 : W7.frozen? ⟨w.heap.size, 1, none⟩ = false := by simp [World.frozen?, GB.out]
            have f2 : W7.frozen? ⟨w.heap.size, 2, none⟩ = false := by simp [World.frozen?, GB.out]
            have f3 : W7.frozen? ⟨w.heap.size, 3, none⟩ = false := by simp [World.frozen?, GB.out]
            have f4 : W7.frozen? ⟨w.heap.size, 4, none⟩ = false := by simp [World.frozen?, GB.out]
            go_wp2
            refine ⟨rfl, .tuple #[.agg #[.int .i64 0, .int .i64 0, .int .i64 0, .int .i64 0, .slice none 0 0], .int .i64 2], ?_, ?_⟩
            · have r0 : (W7.setCell ⟨w.heap.size, 0, none⟩ (.int .i64 0)).cell? ⟨w.heap.size, 0, none⟩ = some (.int .i64 0) := World.cell?_setCell_same' _ _ _ (by simp [go_sem, z0])
              have r1 : ((W7.setCell ⟨w.heap.size, 0, none⟩ (.int .i64 0)).setCell ⟨w.heap.size, 1, none⟩ (.int .i64 0)).cell? ⟨w.heap.size, 1, none⟩ = some (.int .i64 0) := World.cell?_setCell_same' _ _ _ (by simp [go_sem, z1])
              have r2 : (((W7.setCell ⟨w.heap.size, 0, none⟩ (.int .i64 0)).setCell ⟨w.heap.size, 1, none⟩ (.int .i64 0)).setCell ⟨w.heap.size, 2, none⟩ (.int .i64 0)).cell? ⟨w.heap.size, 2, none⟩ = some (.int .i64 0) := World.cell?_setCell_same' _ _ _ (by simp [go_sem, z2])
              have r3 : ((((W7.setCell ⟨w.heap.size, 0, none⟩ (.int .i64 0)).setCell ⟨w.heap.size, 1, none⟩ (.int .i64 0)).setCell ⟨w.heap.size, 2, none⟩ (.int .i64 0)).setCell ⟨w.heap.size, 3, none⟩ (.int .i64 0)).cell? ⟨w.heap.size, 3, none⟩ = some (.int .i64 0) := World.cell?_setCell_same' _ _ _ (by simp [go_sem, z3])
              have r4 : (((((W7.setCell ⟨w.heap.size, 0, none⟩ (.int .i64 0)).setCell ⟨w.heap.size, 1, none⟩ (.int .i64 0)).setCell ⟨w.heap.size, 2, none⟩ (.int .i64 0)).setCell ⟨w.heap.size, 3, none⟩ (.int .i64 0)).setCell ⟨w.heap.size, 4, none⟩ (.slice none 0 0)).cell? ⟨w.heap.size, 4, none⟩ = some (.slice none 0 0) := World.cell?_setCell_same' _ _ _ (by simp [go_sem, z4])
              simp [results, Tryz.f47, go_sem, loadCells, loadCellsFrom, r0, r1, r2, r3, r4]
            · exact NO.out _ (((((BB.out.setCell (p := ⟨w.heap.size, 0, none⟩) (Nat.le_refl _) _).setCell (p := ⟨w.heap.size, 1, none⟩) (Nat.le_refl _) _).setCell (p := ⟨w.heap.size, 2, none⟩) (Nat.le_refl _) _).setCell (p := ⟨w.heap.size, 3, none⟩) (Nat.le_refl _) _).setCell (p := ⟨w.heap.size, 4, none⟩) (Nat.le_refl _) _) EQ.out
          | true =>
            rw [hiv, if_pos rfl] at hyv
            have hgen : ygen = (Ed.rdV B).gen := (VV.isV hyv).1
            rw [if_pos rfl]
            by_cases hge : ygen = (g : Int)
            · have LV2 : Hid (loadB d l = (0, Ed.rdV B)) := by
                show _ = _
                rw [LV.out, hiv, ← hgen, decide_eq_true hge]
                rfl
              have HYV2 := keep hyv
              clear hy hyv hb6 DE hgen
              subst hge
              have GB := keep (BX.out W7 L7.out).1
              have BB := keep (BX.out W7 L7.out).2.1
              have z0 : W7.cell? ⟨w.heap.size, 0, none⟩ = some (.int .i64 0) := cell_of_row _ _ _ _ _ _ GB.out
              have z1 : W7.cell? ⟨w.heap.size, 1, none⟩ = some (.int .i64 0) := cell_of_row _ _ _ _ _ _ GB.out
              have z2 : W7.cell? ⟨w.heap.size, 2, none⟩ = some (.int .i64 0) := cell_of_row _ _ _ _ _ _ GB.out
              have z3 : W7.cell? ⟨w.heap.size, 3, none⟩ = some (.int .i64 0) := cell_of_row _ _ _ _ _ _ GB.out
              have z4 : W7.cell? ⟨w.heap.size, 4, none⟩ = some (.slice none 0 0) := cell_of_row _ _ _ _ _ _ GB.out
              have f0 : W7.frozen? ⟨w.heap.size, 0, none⟩ = false := by simp [World.frozen?, GB.out]
              have f1 : W7.frozen? ⟨w.heap.size, 1, none⟩ = false := by simp [World.frozen?, GB.out]
              have f2 : W7.frozen? ⟨w.heap.size, 2, none⟩ = false := by simp [World.frozen?, GB.out]
              have f3 : W7.frozen? ⟨w.heap.size, 3, none⟩ = false := by simp [World.frozen?, GB.out]
              have f4 : W7.frozen? ⟨w.heap.size, 4, none⟩ = false := by simp [World.frozen?, GB.out]
              go_wp2
              refine ⟨rfl, .tuple #[.agg #[.int .i64 (g : Int), .int .i64 ynext, .int .i64 ylog, .int .i64 yseq, .slice yp yn yc], .int .i64 0], ?_, ?_⟩
              · have r0 : (W7.setCell ⟨w.heap.size, 0, none⟩ (.int .i64 (g : Int))).cell? ⟨w.heap.size, 0, none⟩ = some (.int .i64 (g : Int)) := World.cell?_setCell_same' _ _ _ (by simp [go_sem, z0])
                have r1 : ((W7.setCell ⟨w.heap.size, 0, none⟩ (.int .i64 (g : Int))).setCell ⟨w.heap.size, 1, none⟩ (.int .i64 ynext)).cell? ⟨w.heap.size, 1, none⟩ = some (.int .i64 ynext) := World.cell?_setCell_same' _ _ _ (by simp [go_sem, z1])
                have r2 : (((W7.setCell ⟨w.heap.size, 0, none⟩ (.int .i64 (g : Int))).setCell ⟨w.heap.size, 1, none⟩ (.int .i64 ynext)).setCell ⟨w.heap.size, 2, none⟩ (.int .i64 ylog)).cell? ⟨w.heap.size, 2, none⟩ = some (.int .i64 ylog) := World.cell?_setCell_same' _ _ _ (by simp [go_sem, z2])
                have r3 : ((((W7.setCell ⟨w.heap.size, 0, none⟩ (.int .i64 (g : Int))).setCell ⟨w.heap.size, 1, none⟩ (.int .i64 ynext)).setCell ⟨w.heap.size, 2, none⟩ (.int .i64 ylog)).setCell ⟨w.heap.size, 3, none⟩ (.int .i64 yseq)).cell? ⟨w.heap.size, 3, none⟩ = some (.int .i64 yseq) := World.cell?_setCell_same' _ _ _ (by simp [go_sem, z3])
                have r4 : (((((W7.setCell ⟨w.heap.size, 0, none⟩ (.int .i64 (g : Int))).setCell ⟨w.heap.size, 1, none⟩ (.int .i64 ynext)).setCell ⟨w.heap.size, 2, none⟩ (.int .i64 ylog)).setCell ⟨w.heap.size, 3, none⟩ (.int .i64 yseq)).setCell ⟨w.heap.size, 4, none⟩ (.slice yp yn yc)).cell? ⟨w.heap.size, 4, none⟩ = some (.slice yp yn yc) := World.cell?_setCell_same' _ _ _ (by simp [go_sem, z4])
                simp [results, Tryz.f47, go_sem, loadCells, loadCellsFrom, r0, r1, r2, r3, r4]
              · rw [LV2.out]
                refine ⟨⟨⟨yp, yn, yc, (g : Int), ynext, ylog, yseq, yes⟩, rfl, ?_, HYV2.out⟩, (((((BB.out.setCell (p := ⟨w.heap.size, 0, none⟩) (Nat.le_refl _) _).setCell (p := ⟨w.heap.size, 1, none⟩) (Nat.le_refl _) _).setCell (p := ⟨w.heap.size, 2, none⟩) (Nat.le_refl _) _).setCell (p := ⟨w.heap.size, 3, none⟩) (Nat.le_refl _) _).setCell (p := ⟨w.heap.size, 4, none⟩) (Nat.le_refl _) _)⟩
                exact ((HY.out.below b7.out).base ((BX.out w5 L5.out).2.1.size)).five GB.out (by decide) (by decide) _ _ _ _ _
            · have hge1 : (ygen == (g : Int)) = false := by rw [beq_eq_false_iff_ne]; exact hge
              have LV2 : Hid (loadB d l = (2, zeroVer)) := by
                show _ = _
                rw [LV.out, hiv, ← hgen, decide_eq_false hge]
                rfl
              clear hy hyv hb6 DE hgen
              have GB := keep (BX.out W7 L7.out).1
              have BB := keep (BX.out W7 L7.out).2.1
              have EQ : Hid (loadB d l = (2, zeroVer)) := by
                exact LV2.out
              have z0 : W7.cell? ⟨w.heap.size, 0, none⟩ = some (.int .i64 0) := cell_of_row _ _ _ _ _ _ GB.out
              have z1 : W7.cell? ⟨w.heap.size, 1, none⟩ = some (.int .i64 0) := cell_of_row _ _ _ _ _ _ GB.out
              have z2 : W7.cell? ⟨w.heap.size, 2, none⟩ = some (.int .i64 0) := cell_of_row _ _ _ _ _ _ GB.out
              have z3 : W7.cell? ⟨w.heap.size, 3, none⟩ = some (.int .i64 0) := cell_of_row _ _ _ _ _ _ GB.out
              have z4 : W7.cell? ⟨w.heap.size, 4, none⟩ = some (.slice none 0 0) := cell_of_row _ _ _ _ _ _ GB.out
              have f0 : W7.frozen? ⟨w.heap.size, 0, none⟩ = false := by simp [World.frozen?, GB.out]
              have f1 : W7.frozen? ⟨w.heap.size, 1, none⟩ = false := by simp [World.frozen?, GB.out]
              have f2 : W7.frozen? ⟨w.heap.size, 2, none⟩ = false := by simp [World.frozen?, GB.out]
              have f3 : W7.frozen? ⟨w.heap.size, 3, none⟩ = false := by simp [World.frozen?, GB.out]
              have f4 : W7.frozen? ⟨w.heap.size, 4, none⟩ = false := by simp [World.frozen?, GB.out]
              go_wp2
              refine ⟨rfl, .tuple #[.agg #[.int .i64 0, .int .i64 0, .int .i64 0, .int .i64 0, .slice none 0 0], .int .i64 2], ?_, ?_⟩
              · have r0 : (W7.setCell ⟨w.heap.size, 0, none⟩ (.int .i64 0)).cell? ⟨w.heap.size, 0, none⟩ = some (.int .i64 0) := World.cell?_setCell_same' _ _ _ (by simp [go_sem, z0])
                have r1 : ((W7.setCell ⟨w.heap.size, 0, none⟩ (.int .i64 0)).setCell ⟨w.heap.size, 1, none⟩ (.int .i64 0)).cell? ⟨w.heap.size, 1, none⟩ = some (.int .i64 0) := World.cell?_setCell_same' _ _ _ (by simp [go_sem, z1])
                have r2 : (((W7.setCell ⟨w.heap.size, 0, none⟩ (.int .i64 0)).setCell ⟨w.heap.size, 1, none⟩ (.int .i64 0)).setCell ⟨w.heap.size, 2, none⟩ (.int .i64 0)).cell? ⟨w.heap.size, 2, none⟩ = some (.int .i64 0) := World.cell?_setCell_same' _ _ _ (by simp [go_sem, z2])
                have r3 : ((((W7.setCell ⟨w.heap.size, 0, none⟩ (.int .i64 0)).setCell ⟨w.heap.size, 1, none⟩ (.int .i64 0)).setCell ⟨w.heap.size, 2, none⟩ (.int .i64 0)).setCell ⟨w.heap.size, 3, none⟩ (.int .i64 0)).cell? ⟨w.heap.size, 3, none⟩ = some (.int .i64 0) := World.cell?_setCell_same' _ _ _ (by simp [go_sem, z3])
                have r4 : (((((W7.setCell ⟨w.heap.size, 0, none⟩ (.int .i64 0)).setCell ⟨w.heap.size, 1, none⟩ (.int .i64 0)).setCell ⟨w.heap.size, 2, none⟩ (.int .i64 0)).setCell ⟨w.heap.size, 3, none⟩ (.int .i64 0)).setCell ⟨w.heap.size, 4, none⟩ (.slice none 0 0)).cell? ⟨w.heap.size, 4, none⟩ = some (.slice none 0 0) := World.cell?_setCell_same' _ _ _ (by simp [go_sem, z4])
                simp [results, Tryz.f47, go_sem, loadCells, loadCellsFrom, r0, r1, r2, r3, r4]
              · exact NO.out _ (((((BB.out.setCell (p := ⟨w.heap.size, 0, none⟩) (Nat.le_refl _) _).setCell (p := ⟨w.heap.size, 1, none⟩) (Nat.le_refl _) _).setCell (p := ⟨w.heap.size, 2, none⟩) (Nat.le_refl _) _).setCell (p := ⟨w.heap.size, 3, none⟩) (Nat.le_refl _) _).setCell (p := ⟨w.heap.size, 4, none⟩) (Nat.le_refl _) _) EQ.out
set_option maxHeartbeats 4000000 in
set_option maxRecDepth 100000 in
theorem catload_any (S : Nat → Prop) (b : Nat) (d : Disk) (w : World) (hM : Mem S w b d) (hG : Gl w) :
    Calls Tryz.prog 19 #[.pointer (some ⟨b, 0, none⟩)] w (LoadA (catLoad d) w) := by
  cases hlk : Dk.look d.files curN with
  | none =>
    rw [catLoad_none hlk]
    refine (cload_none S b d w hM hlk).mono ?_
    rintro e w' ⟨rfl, hb⟩
    exact ⟨⟨zeroV, rfl, zeroV_firm _ _, rfl⟩, hb⟩
  | some f =>
    rw [catLoad_some hlk]
    obtain ⟨fn, sf, fb⟩ := f
    simp only
    obtain ⟨W1, hW1⟩ : ∃ W1, w.alloc (.cells #[.int .i64 0, .int .i64 0, .int .i64 0, .int .i64 0, .slice none 0 0] 50) = W1 := ⟨_, rfl⟩
    have b1 : Hid (Below w.heap.size w W1) := by rw [← hW1]; exact (Below.refl _ _).alloc (Nat.le_refl _) _
    have g1 : Hid (W1.heap[w.heap.size]? = some (.cells #[.int .i64 0, .int .i64 0, .int .i64 0, .int .i64 0, .slice none 0 0] 50)) := by rw [← hW1]; exact heap_alloc_new w _
    have FL := keep (file_len hM hlk)
    have RS := keep (read_some S b d [99, 117, 114] fn sf fb W1 (hM.below b1.out) (by unfold maxLen; decide) rfl hlk FL.out)
    have BX : Hid (∀ w', Below W1.heap.size W1 w' → w'.heap[w.heap.size]? = some (.cells #[.int .i64 0, .int .i64 0, .int .i64 0, .int .i64 0, .slice none 0 0] 50) ∧ Below w.heap.size w w' ∧ Gl w' ∧ Mem S w' b d) := fun w' hb => ⟨(hb.block _ (Array.getElem?_eq_some_iff.1 g1.out).1).trans g1.out, b1.out.trans (hb.mono b1.out.size), hG.below (b1.out.trans (hb.mono b1.out.size)), hM.below (b1.out.trans (hb.mono b1.out.size))⟩
    obtain ⟨X, hX⟩ : ∃ X, loadB d fb = X := ⟨_, rfl⟩
    have HX := keep hX
    rw [hX]
    clear hM hG hlk hX
    go_enter Tryz.func19, Tryz.ntmps19
    go_wp2_with fail
    refine RS.out.mono ?_
    rintro e w2 ⟨v2, rfl, hn2⟩
    have L2 := keep hn2.2
    obtain ⟨a2, c2, rfl, hs2, _⟩ := hn2.src
    have LO := keep (load_any S b d a2 fb.length c2 fb w2 (BX.out w2 hn2.2).2.2.2 (BX.out w2 hn2.2).2.2.1 FL.out hs2)
    rw [HX.out] at LO
    unfold LoadA at LO
    obtain ⟨FBL, hFBL⟩ : ∃ n, fb.length = n := ⟨_, rfl⟩
    rw [hFBL] at LO ⊢
    clear hn2 hs2 RS hFBL hW1
    go_wp2_with fail
    refine LO.out.mono ?_
    rintro e w3 ⟨⟨y, rfl, hy, hyv⟩, hb3⟩
    have L3 := keep (L2.out.trans (hb3.mono L2.out.size))
    have GB := keep (BX.out w3 L3.out).1
    have BB := keep (BX.out w3 L3.out).2.1
    have HY := keep hy
    have HYV := keep hyv
    obtain ⟨yp, yn, yc, ygen, ynext, ylog, yseq, yes⟩ := y
    unfold VV.val
    simp only
    clear hy hyv hb3 LO
    have z0 : w3.cell? ⟨w.heap.size, 0, none⟩ = some (.int .i64 0) := cell_of_row _ _ _ _ _ _ GB.out
    have z1 : w3.cell? ⟨w.heap.size, 1, none⟩ = some (.int .i64 0) := cell_of_row _ _ _ _ _ _ GB.out
    have z2 : w3.cell? ⟨w.heap.size, 2, none⟩ = some (.int .i64 0) := cell_of_row _ _ _ _ _ _ GB.out
    have z3 : w3.cell? ⟨w.heap.size, 3, none⟩ = some (.int .i64 0) := cell_of_row _ _ _ _ _ _ GB.out
    have z4 : w3.cell? ⟨w.heap.size, 4, none⟩ = some (.slice none 0 0) := cell_of_row _ _ _ _ _ _ GB.out
    have f0 : w3.frozen? ⟨w.heap.size, 0, none⟩ = false := by simp [World.frozen?, GB.out]
    have f1 : w3.frozen? ⟨w.heap.size, 1, none⟩ = false := by simp [World.frozen?, GB.out]
    have f2 : w3.frozen? ⟨w.heap.size, 2, none⟩ = false := by simp [World.frozen?, GB.out]
    have f3 : w3.frozen? ⟨w.heap.size, 3, none⟩ = false := by simp [World.frozen?, GB.out]
    have f4 : w3.frozen? ⟨w.heap.size, 4, none⟩ = false := by simp [World.frozen?, GB.out]
    go_wp2
    refine ⟨rfl, .tuple #[.agg #[.int .i64 ygen, .int .i64 ynext, .int .i64 ylog, .int .i64 yseq, .slice yp yn yc], .int .i64 (X.1 : Int)], ?_, ?_⟩
    · have r0 : (w3.setCell ⟨w.heap.size, 0, none⟩ (.int .i64 ygen)).cell? ⟨w.heap.size, 0, none⟩ = some (.int .i64 ygen) := World.cell?_setCell_same' _ _ _ (by simp [go_sem, z0])
      have r1 : ((w3.setCell ⟨w.heap.size, 0, none⟩ (.int .i64 ygen)).setCell ⟨w.heap.size, 1, none⟩ (.int .i64 ynext)).cell? ⟨w.heap.size, 1, none⟩ = some (.int .i64 ynext) := World.cell?_setCell_same' _ _ _ (by simp [go_sem, z1])
      have r2 : (((w3.setCell ⟨w.heap.size, 0, none⟩ (.int .i64 ygen)).setCell ⟨w.heap.size, 1, none⟩ (.int .i64 ynext)).setCell ⟨w.heap.size, 2, none⟩ (.int .i64 ylog)).cell? ⟨w.heap.size, 2, none⟩ = some (.int .i64 ylog) := World.cell?_setCell_same' _ _ _ (by simp [go_sem, z2])
      have r3 : ((((w3.setCell ⟨w.heap.size, 0, none⟩ (.int .i64 ygen)).setCell ⟨w.heap.size, 1, none⟩ (.int .i64 ynext)).setCell ⟨w.heap.size, 2, none⟩ (.int .i64 ylog)).setCell ⟨w.heap.size, 3, none⟩ (.int .i64 yseq)).cell? ⟨w.heap.size, 3, none⟩ = some (.int .i64 yseq) := World.cell?_setCell_same' _ _ _ (by simp [go_sem, z3])
      have r4 : (((((w3.setCell ⟨w.heap.size, 0, none⟩ (.int .i64 ygen)).setCell ⟨w.heap.size, 1, none⟩ (.int .i64 ynext)).setCell ⟨w.heap.size, 2, none⟩ (.int .i64 ylog)).setCell ⟨w.heap.size, 3, none⟩ (.int .i64 yseq)).setCell ⟨w.heap.size, 4, none⟩ (.slice yp yn yc)).cell? ⟨w.heap.size, 4, none⟩ = some (.slice yp yn yc) := World.cell?_setCell_same' _ _ _ (by simp [go_sem, z4])
      simp [results, Tryz.f19, go_sem, loadCells, loadCellsFrom, r0, r1, r2, r3, r4]
    · refine ⟨⟨⟨yp, yn, yc, ygen, ynext, ylog, yseq, yes⟩, rfl, ?_, HYV.out⟩, (((((BB.out.setCell (p := ⟨w.heap.size, 0, none⟩) (Nat.le_refl _) _).setCell (p := ⟨w.heap.size, 1, none⟩) (Nat.le_refl _) _).setCell (p := ⟨w.heap.size, 2, none⟩) (Nat.le_refl _) _).setCell (p := ⟨w.heap.size, 3, none⟩) (Nat.le_refl _) _).setCell (p := ⟨w.heap.size, 4, none⟩) (Nat.le_refl _) _)⟩
      exact (HY.out.base (BX.out w2 L2.out).2.1.size).five GB.out (by decide) (by decide) _ _ _ _ _
end Go.Proofs.YthnebhddakfadaaGreatDoor
