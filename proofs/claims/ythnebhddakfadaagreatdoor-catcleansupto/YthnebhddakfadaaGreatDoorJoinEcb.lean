/- The walk of wal's Name; a segment's name over plain numbers. -/
/- The walks of cat's Load and isNone on a disk without a version; of edit's Check of the version of noughts. -/
/- The walks of strings.Cut at one sign, cat's called and names. -/
import Derived.Test.YthnebhddakfadaaGreatDoorPw
import Derived.Test.YthnebhddakfadaaGreatDoorJoinMe
import Derived.Lib.ItoaLen
import Derived.Test.YthnebhddakfadaaGreatDoorJoinNn
import Derived.Test.YthnebhddakfadaaGreatDoorPq
import Derived.Shelf.RegionOpen
namespace Go.Proofs.YthnebhddakfadaaGreatDoor
open Go.RowKit

theorem grow_bel (w : World) (k : Nat) (os : Array Obj) : Below w.heap.size w (Go.Sort.grow (w.drewN k) os) :=
  ⟨rfl, rfl, rfl, by show w.heap.size ≤ (w.heap ++ os).size; simp, fun i hi => by
    show (w.heap ++ os)[i]? = _
    rw [Array.getElem?_append_left hi]⟩
/-- The library's table stands as it was laid. -/
def Tab (w : World) : Prop := Lib.TabIs Tryz.prog w "internal/strconv.uint64pow10" .u64 Lib.pow10Tab
theorem nDigits_le : ∀ (k u : Nat), u < 10 ^ (k + 1) → Lib.nDigits u ≤ k + 1
  | 0, u, h => by rw [Lib.nDigits_small (by omega)]; omega
  | k + 1, u, h => by
    by_cases h1 : u < 10
    · rw [Lib.nDigits_small h1]; omega
    · rw [Lib.nDigits_big h1]
      have := nDigits_le k (u / 10) (by rw [Nat.pow_succ] at h; omega)
      omega
/-- May a number be a segment's? -/
def isSeg (n : Int) : Bool := decide (0 ≤ n) && decide (n ≤ 1099511627776)
/-- Its file's name. -/
def segName (n : Int) : List UInt8 := if isSeg n then [119, 97, 108, 47] ++ Lib.repeatL [48] (13 - (Lib.itoa n).length) ++ Lib.itoa n else []
theorem itoa_len {n : Int} (h : isSeg n = true) : 1 ≤ (Lib.itoa n).length ∧ (Lib.itoa n).length ≤ 13 := by
  simp only [isSeg, Bool.and_eq_true, decide_eq_true_eq] at h
  unfold Lib.itoa
  rw [if_neg (by omega), Lib.decDigits_length]
  exact ⟨Lib.nDigits_pos _, nDigits_le 12 _ (by have e : (10 : Nat) ^ (12 + 1) = 10000000000000 := rfl; omega)⟩
theorem segName_len {n : Int} (h : isSeg n = true) : (segName n).length = 17 := by
  have := itoa_len h
  unfold segName
  rw [if_pos h, List.length_append, List.length_append, Lib.repeatL_length]
  simp
  omega
theorem segName_none {n : Int} (h : isSeg n = false) : segName n = [] := by unfold segName; rw [h]; rfl

set_option maxHeartbeats 1000000 in
set_option maxRecDepth 100000 in
theorem name_any (n : Int) (w : World) (ht : Tab w) :
    Calls Tryz.prog 63 #[.int .i64 n] w fun e w' => e = .returned (.string ⟨(segName n).toArray⟩) ∧ Below w.heap.size w w' := by
  have HT := keep ht
  clear ht
  by_cases h0 : n < 0
  · rw [segName_none (by simp only [isSeg]; rw [decide_eq_false (show ¬ 0 ≤ n by omega)]; rfl)]
    go_enter Tryz.func63, Tryz.ntmps63
    go_wp2_with fail
    go_ret
    exact ⟨rfl, Below.refl _ _⟩
  by_cases h1 : 1099511627776 < n
  · rw [segName_none (by simp only [isSeg]; rw [decide_eq_false (show ¬ n ≤ 1099511627776 by omega), Bool.and_false])]
    go_enter Tryz.func63, Tryz.ntmps63
    go_wp2_with fail
    go_ret
    exact ⟨rfl, Below.refl _ _⟩
  have hs : isSeg n = true := by simp [isSeg]; omega
  have hl := itoa_len hs
  go_enter Tryz.func63, Tryz.ntmps63
  go_wp2_with fail
  refine (Any.strconv_Itoa lay_itoa n (by omega) (by omega) w HT.out).mono ?_
  rintro e w1 ⟨rfl, k, os, hw1⟩
  have B1 : Hid (Below w.heap.size w w1) := by rw [hw1]; exact grow_bel w k os
  clear hw1
  obtain ⟨L, hL⟩ : ∃ L, Lib.itoa n = L := ⟨_, rfl⟩
  rw [hL] at hl ⊢
  have HL := keep hL
  have HS := keep hs
  obtain ⟨j, hj⟩ : ∃ j, j = 13 - L.length := ⟨_, rfl⟩
  have hw : IntKind.i64.wrap (13 - (L.length : Int)) = (j : Int) := by rw [wrap_small _ (by omega) (by omega)]; omega
  have HJ := keep hj
  have RP := keep (Any.strings_Repeat lay_rep lay_rep_x ⟨#[48]⟩ j w1 (by omega) (by show 1 * j ≤ _; omega))
  clear hL hs hj
  go_wp2_with fail
  refine RP.out.mono ?_
  rintro e w2 ⟨rfl, hb2⟩
  have B2 := keep (B1.out.trans (hb2.mono B1.out.size))
  clear hb2 RP
  obtain ⟨Z, hZ⟩ : ∃ Z, Lib.repeatL [48] j = Z := ⟨_, rfl⟩
  have hzl : Z.length = j := by rw [← hZ, Lib.repeatL_length]; simp
  have HZ := keep hZ
  rw [show (Lib.repeatL (ByteArray.mk #[48]).data.toList j) = Z from hZ]
  have n1 : ¬ 9223372036854775807 < 4 + Z.length := by have := HJ.out; omega
  have n2 : ¬ 9223372036854775807 < 4 + Z.length + L.length := by have := HJ.out; omega
  clear hZ
  go_wp2
  go_ret
  refine ⟨?_, B2.out⟩
  unfold segName
  rw [if_pos HS.out, HL.out, ← HJ.out, HZ.out]
  have e : ((⟨#[119, 97, 108, 47]⟩ : ByteArray) ++ (⟨Z.toArray⟩ : ByteArray) ++ (⟨L.toArray⟩ : ByteArray)) = ⟨([119, 97, 108, 47] ++ Z ++ L).toArray⟩ := by
    apply ByteArray.ext
    simp [ByteArray.data_append]
  rw [e]
  rfl
theorem Tab.below {w w' : World} (h : Tab w) (hb : Below w.heap.size w w') (_ : 0 < w.heap.size) : Tab w' := by
  have hg : Tryz.prog.globalNamed "internal/strconv.uint64pow10" = some 3 := by kernel_rfl
  unfold Tab Lib.TabIs at h ⊢
  rw [← h]
  simp only [World.var?, hg, Option.bind_some] at h ⊢
  cases hx : w.heap[3]? with
  | none => rw [hx] at h; cases h
  | some o => rw [hb.block 3 (Array.getElem?_eq_some_iff.1 hx).1, hx]
end Go.Proofs.YthnebhddakfadaaGreatDoor
namespace Go.Proofs.YthnebhddakfadaaGreatDoor
open Go.RowKit
open Dk (File Disk)

def verZ : Value := .agg #[.int .i64 0, .int .i64 0, .int .i64 0, .int .i64 0, .slice none 0 0]
set_option maxHeartbeats 1000000 in
set_option maxRecDepth 100000 in
theorem cload_none (S : Nat → Prop) (b : Nat) (d : Disk) (w : World) (h : Mem S w b d) (hx : Dk.look d.files [99, 117, 114] = none) :
    Calls Tryz.prog 19 #[.pointer (some ⟨b, 0, none⟩)] w fun e w' => e = .returned (.tuple #[verZ, .int .i64 0]) ∧ Below w.heap.size w w' := by
  have HR := keep (fun w' hb => read_none S b d [99, 117, 114] w' (h.below hb) (by unfold maxLen; decide) rfl hx)
  clear h hx
  unfold verZ
  obtain ⟨W1, hW1⟩ : ∃ W1, w.alloc (.cells #[.int .i64 0, .int .i64 0, .int .i64 0, .int .i64 0, .slice none 0 0] 50) = W1 := ⟨_, rfl⟩
  have b1 : Hid (Below w.heap.size w W1) := by rw [← hW1]; exact (Below.refl _ _).alloc (Nat.le_refl _) _
  have g1 : Hid (W1.heap[w.heap.size]? = some (.cells #[.int .i64 0, .int .i64 0, .int .i64 0, .int .i64 0, .slice none 0 0] 50)) := by rw [← hW1]; exact heap_alloc_new w _
  have s1 : Hid (w.heap.size < W1.heap.size) := by rw [← hW1]; simp; trivial
  go_enter Tryz.func19, Tryz.ntmps19
  go_wp2_with fail
  refine (HR.out _ b1.out).mono ?_
  rintro e w2 ⟨rfl, hb2⟩
  have B2 := keep (b1.out.trans (hb2.mono b1.out.size))
  have G2 := keep ((hb2.block _ s1.out).trans g1.out)
  clear hW1 hb2
  have z0 : w2.cell? ⟨w.heap.size, 0, none⟩ = some (.int .i64 0) := cell_of_row _ _ _ _ _ _ G2.out
  have z1 : w2.cell? ⟨w.heap.size, 1, none⟩ = some (.int .i64 0) := cell_of_row _ _ _ _ _ _ G2.out
  have z2 : w2.cell? ⟨w.heap.size, 2, none⟩ = some (.int .i64 0) := cell_of_row _ _ _ _ _ _ G2.out
  have z3 : w2.cell? ⟨w.heap.size, 3, none⟩ = some (.int .i64 0) := cell_of_row _ _ _ _ _ _ G2.out
  have z4 : w2.cell? ⟨w.heap.size, 4, none⟩ = some (.slice none 0 0) := cell_of_row _ _ _ _ _ _ G2.out
  have f0 : w2.frozen? ⟨w.heap.size, 0, none⟩ = false := by simp [World.frozen?, G2.out]
  have f1 : w2.frozen? ⟨w.heap.size, 1, none⟩ = false := by simp [World.frozen?, G2.out]
  have f2 : w2.frozen? ⟨w.heap.size, 2, none⟩ = false := by simp [World.frozen?, G2.out]
  have f3 : w2.frozen? ⟨w.heap.size, 3, none⟩ = false := by simp [World.frozen?, G2.out]
  have f4 : w2.frozen? ⟨w.heap.size, 4, none⟩ = false := by simp [World.frozen?, G2.out]
  go_wp2
  refine ⟨rfl, .tuple #[.agg #[.int .i64 0, .int .i64 0, .int .i64 0, .int .i64 0, .slice none 0 0], .int .i64 0], ?_, rfl, ?_⟩
  · have r0 : (w2.setCell ⟨w.heap.size, 0, none⟩ (.int .i64 0)).cell? ⟨w.heap.size, 0, none⟩ = some (.int .i64 0) := World.cell?_setCell_same' _ _ _ (by simp [go_sem, z0])
    have r1 : ((w2.setCell ⟨w.heap.size, 0, none⟩ (.int .i64 0)).setCell ⟨w.heap.size, 1, none⟩ (.int .i64 0)).cell? ⟨w.heap.size, 1, none⟩ = some (.int .i64 0) := World.cell?_setCell_same' _ _ _ (by simp [go_sem, z1])
    have r2 : (((w2.setCell ⟨w.heap.size, 0, none⟩ (.int .i64 0)).setCell ⟨w.heap.size, 1, none⟩ (.int .i64 0)).setCell ⟨w.heap.size, 2, none⟩ (.int .i64 0)).cell? ⟨w.heap.size, 2, none⟩ = some (.int .i64 0) := World.cell?_setCell_same' _ _ _ (by simp [go_sem, z2])
    have r3 : ((((w2.setCell ⟨w.heap.size, 0, none⟩ (.int .i64 0)).setCell ⟨w.heap.size, 1, none⟩ (.int .i64 0)).setCell ⟨w.heap.size, 2, none⟩ (.int .i64 0)).setCell ⟨w.heap.size, 3, none⟩ (.int .i64 0)).cell? ⟨w.heap.size, 3, none⟩ = some (.int .i64 0) := World.cell?_setCell_same' _ _ _ (by simp [go_sem, z3])
    have r4 : (((((w2.setCell ⟨w.heap.size, 0, none⟩ (.int .i64 0)).setCell ⟨w.heap.size, 1, none⟩ (.int .i64 0)).setCell ⟨w.heap.size, 2, none⟩ (.int .i64 0)).setCell ⟨w.heap.size, 3, none⟩ (.int .i64 0)).setCell ⟨w.heap.size, 4, none⟩ (.slice none 0 0)).cell? ⟨w.heap.size, 4, none⟩ = some (.slice none 0 0) := World.cell?_setCell_same' _ _ _ (by simp [go_sem, z4])
    simp [results, Tryz.f19, go_sem, loadCells, loadCellsFrom, r0, r1, r2, r3, r4]
  · exact (((((B2.out.setCell (p := ⟨w.heap.size, 0, none⟩) (Nat.le_refl _) _).setCell (p := ⟨w.heap.size, 1, none⟩) (Nat.le_refl _) _).setCell (p := ⟨w.heap.size, 2, none⟩) (Nat.le_refl _) _).setCell (p := ⟨w.heap.size, 3, none⟩) (Nat.le_refl _) _).setCell (p := ⟨w.heap.size, 4, none⟩) (Nat.le_refl _) _)
set_option maxHeartbeats 1000000 in
set_option maxRecDepth 100000 in
theorem cnone_none (S : Nat → Prop) (b : Nat) (d : Disk) (w : World) (h : Mem S w b d) (hx : Dk.look d.files [99, 117, 114, 126] = none) :
    Calls Tryz.prog 49 #[.pointer (some ⟨b, 0, none⟩)] w fun e w' => e = .returned (.bool false) ∧ Below w.heap.size w w' := by
  have HR := keep (read_none S b d [99, 117, 114, 126] w h (by unfold maxLen; decide) rfl hx)
  clear h hx
  go_enter Tryz.func49, Tryz.ntmps49
  go_wp2_with fail
  refine HR.out.mono ?_
  rintro e w1 ⟨rfl, hb1⟩
  have B1 := keep hb1
  clear hb1
  go_wp2
  go_ret
  exact ⟨rfl, B1.out⟩
end Go.Proofs.YthnebhddakfadaaGreatDoor
namespace Go.Proofs.YthnebhddakfadaaGreatDoor
open Go.RowKit
open Dk (File Disk)

set_option maxHeartbeats 1000000 in
set_option maxRecDepth 100000 in
theorem sindex_any (S : List UInt8) (w : World) (h : ([47] == S) = false) :
    Calls Tryz.prog 172 #[.string ⟨S.toArray⟩, .string ⟨#[47]⟩] w fun e w' => e = .returned (.int .i64 (Lib.indexByte S 47)) ∧ w' = w := by
  go_enter Tryz.func172, Tryz.ntmps172
  go_wp2
  rw [run_callFunc_extern Tryz.func207 (by kernel_rfl) (by kernel_rfl) (by kernel_rfl) (e := Extern.BytealgIndexByte.indexByte) (by kernel_rfl), Lib.run_indexByteString]
  simp only [Result.andThen]
  rw [Oper.upon_value]
  go_wp2
  go_ret
  exact ⟨rfl, rfl⟩
set_option maxHeartbeats 1000000 in
set_option maxRecDepth 100000 in
theorem scut_wal (D : List UInt8) (hD : D.length = 13) (w : World) :
    Calls Tryz.prog 136 #[.string ⟨([119, 97, 108, 47] ++ D).toArray⟩, .string ⟨#[47]⟩] w fun e w' => e = .returned (.tuple #[.string ⟨#[119, 97, 108]⟩, .string ⟨D.toArray⟩, .bool true]) ∧ Below w.heap.size w w' := by
  have SI := keep (sindex_any ([119, 97, 108, 47] ++ D) w (by simp))
  have hi : Lib.indexByte ([119, 97, 108, 47] ++ D) 47 = 3 := by simp [Lib.indexByte]
  rw [hi] at SI
  obtain ⟨S, hS⟩ : ∃ S, [119, 97, 108, 47] ++ D = S := ⟨_, rfl⟩
  have hl : S.length = 17 := by rw [← hS]; simp [hD]
  rw [hS] at SI ⊢
  clear hi
  go_enter Tryz.func136, Tryz.ntmps136
  go_wp2_with fail
  refine SI.out.mono ?_
  rintro e w1 ⟨rfl, rfl⟩
  go_wp2
  go_region
  all_goals go_wp2
  go_ret3
  refine ⟨?_, (Below.refl _ _).drew⟩
  have e3 : (⟨S.toArray⟩ : ByteArray).extract 0 3 = ⟨#[119, 97, 108]⟩ := by
    rw [← hS]
    apply ByteArray.ext
    rw [ByteArray.data_extract]
    apply Array.ext'
    simp
  have e4 : (⟨S.toArray⟩ : ByteArray).extract 4 17 = ⟨D.toArray⟩ := by
    rw [← hS]
    apply ByteArray.ext
    rw [ByteArray.data_extract]
    apply Array.ext'
    simp
    try exact List.take_of_length_le (by omega)
  show Ending.returned (.tuple #[.string ((⟨S.toArray⟩ : ByteArray).extract 0 3), .string ((⟨S.toArray⟩ : ByteArray).extract 4 17), .bool true]) = _
  rw [e3, e4]
set_option maxHeartbeats 1000000 in
set_option maxRecDepth 100000 in
theorem cut_wal (D : List UInt8) (hD : D.length = 13) (w : World) :
    Calls Tryz.prog 92 #[.string ⟨([119, 97, 108, 47] ++ D).toArray⟩, .string ⟨#[47]⟩] w fun e w' => e = .returned (.tuple #[.string ⟨#[119, 97, 108]⟩, .string ⟨D.toArray⟩, .bool true]) ∧ Below w.heap.size w w' := by
  have SC := keep (scut_wal D hD w)
  obtain ⟨S, hS⟩ : ∃ S, [119, 97, 108, 47] ++ D = S := ⟨_, rfl⟩
  rw [hS] at SC ⊢
  go_enter Tryz.func92, Tryz.ntmps92
  go_wp2_with fail
  refine SC.out.mono ?_
  rintro e w1 ⟨rfl, hb1⟩
  have B1 := keep hb1
  clear hb1
  go_wp2
  go_ret3
  exact ⟨rfl, B1.out⟩
/-- The digits of a number's file. -/
def digs (n : Int) : List UInt8 := Lib.repeatL [48] (13 - (Lib.itoa n).length) ++ Lib.itoa n
theorem digs_len {n : Int} (h : isSeg n = true) : (digs n).length = 13 := by
  have := itoa_len h
  unfold digs
  rw [List.length_append, Lib.repeatL_length]
  simp
  omega
theorem seg_digs {n : Int} (h : isSeg n = true) : segName n = [119, 97, 108, 47] ++ digs n := by
  unfold segName digs
  rw [if_pos h, List.append_assoc]
theorem str_join (x y : List UInt8) : ((⟨x.toArray⟩ : ByteArray) ++ (⟨y.toArray⟩ : ByteArray)) = ⟨(x ++ y).toArray⟩ := by
  apply ByteArray.ext
  simp [ByteArray.data_append]
set_option maxHeartbeats 1000000 in
set_option maxRecDepth 100000 in
theorem called_yes (fo : List UInt8) (n : Int) (w : World) (ht : Tab w) (h : isSeg n = true) (hf : fo.length ≤ 100) :
    Calls Tryz.prog 44 #[.string ⟨fo.toArray⟩, .int .i64 n] w fun e w' => e = .returned (.string ⟨(fo ++ digs n).toArray⟩) ∧ Below w.heap.size w w' := by
  have NA := keep (name_any n w ht)
  rw [seg_digs h] at NA
  have hD := digs_len h
  have CW := keep (cut_wal (digs n) hD)
  obtain ⟨D, hDD⟩ : ∃ D, digs n = D := ⟨_, rfl⟩
  rw [hDD] at NA CW hD ⊢
  obtain ⟨S, hS⟩ : ∃ S, [119, 97, 108, 47] ++ D = S := ⟨_, rfl⟩
  rw [hS] at NA CW
  have n1 : ¬ 9223372036854775807 < fo.length + D.length := by omega
  clear hDD hS ht h
  go_enter Tryz.func44, Tryz.ntmps44
  go_wp2_with fail
  refine NA.out.mono ?_
  rintro e w1 ⟨rfl, hb1⟩
  have B1 := keep hb1
  clear hb1
  go_wp2_with fail
  refine (CW.out w1).mono ?_
  rintro e w2 ⟨rfl, hb2⟩
  have B2 := keep (B1.out.trans (hb2.mono B1.out.size))
  clear hb2
  go_wp2
  go_ret
  refine ⟨?_, B2.out⟩
  rw [← str_join]
  rfl
end Go.Proofs.YthnebhddakfadaaGreatDoor
