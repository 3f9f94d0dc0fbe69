/- The walks of cat's Load and isNone on a disk without a version; of edit's Check of the version of noughts. -/
/- The walks of strings.Cut at one sign, cat's called and names. -/
/- The walks of cat's names, remove and Clean on a disk without files. -/
import Derived.Test.YtogphpejdnhnjaaGreatDoorNn
import Derived.Test.YtogphpejdnhnjaaGreatDoorWn
import Derived.Test.YtogphpejdnhnjaaGreatDoorPq
import Derived.Shelf.RegionOpen
namespace Go.Proofs.YtogphpejdnhnjaaGreatDoor
open Go.RowKit
open Dk (File Disk)

def verZ : Value := .agg #[.int .i64 0, .int .i64 0, .int .i64 0, .int .i64 0, .slice none 0 0]
set_option maxHeartbeats 1000000 in
set_option maxRecDepth 100000 in
theorem cload_none (S : Nat → Prop) (b : Nat) (d : Disk) (w : World) (h : Mem S w b d) (hx : Dk.look d.files [99, 117, 114] = none) :
    Calls Tryz.prog 32 #[.pointer (some ⟨b, 0, none⟩)] w fun e w' => e = .returned (.tuple #[verZ, .int .i64 0]) ∧ Below w.heap.size w w' := by
  have HR := keep (fun w' hb => read_none S b d [99, 117, 114] w' (h.below hb) (by unfold maxLen; decide) rfl hx)
  clear h hx
  unfold verZ
  obtain ⟨W1, hW1⟩ : ∃ W1, w.alloc (.cells #[.int .i64 0, .int .i64 0, .int .i64 0, .int .i64 0, .slice none 0 0] 93) = W1 := ⟨_, rfl⟩
  have b1 : Hid (Below w.heap.size w W1) := by rw [← hW1]; exact (Below.refl _ _).alloc (Nat.le_refl _) _
  have g1 : Hid (W1.heap[w.heap.size]? = some (.cells #[.int .i64 0, .int .i64 0, .int .i64 0, .int .i64 0, .slice none 0 0] 93)) := by rw [← hW1]; exact heap_alloc_new w _
  have s1 : Hid (w.heap.size < W1.heap.size) := by rw [← hW1]; simp; trivial
  go_enter Tryz.func32, Tryz.ntmps32
  go_wp2_with fail
  refine (HR.out _ b1.out).mono ?_
  rintro e w2 ⟨rfl, hb2⟩
  have B2 := keep (b1.out.trans (hb2.mono b1.out.size))
  have G2 := keep ((hb2.block _ s1.out).trans g1.out)
  clear hW1 hb2
  have z0 : w2.cell? ⟨w.heap.size, 0, none⟩ = some (.int .i64 0) := cell_of_row _ _ _ _ _ _ G2.out
  have z1 : w2.cell? ⟨w.heap.size, 1, none⟩ = some (.int .i64 0) := cell_of_row _ _ _ _ _ _ G2.out
  have z2 : w2.cell? ⟨w.heap.size, 2, none⟩ = some (.int .i64 0) := cell_of_row _ _ _ _ _ _ G2.out
  have z3 : w2.cell? ⟨w.heap.size, 3, none⟩ = some (.int .i64 0) := cell_of_row _ _ _ _ _ _ G2.out
  have z4 : w2.cell? ⟨w.heap.size, 4, none⟩ = some (.slice none 0 0) := cell_of_row _ _ _ _ _ _ G2.out
  have f0 : w2.frozen? ⟨w.heap.size, 0, none⟩ = false := by simp [World.frozen?, G2.out]
  have f1 : w2.frozen? ⟨w.heap.size, 1, none⟩ = false := by simp [World.frozen?, G2.out]
  have f2 : w2.frozen? ⟨w.heap.size, 2, none⟩ = false := by simp [World.frozen?, G2.out]
  have f3 : w2.frozen? ⟨w.heap.size, 3, none⟩ = false := by simp [World.frozen?, G2.out]
  have f4 : w2.frozen? ⟨w.heap.size, 4, none⟩ = false := by simp [World.frozen?, G2.out]
  go_wp2
  refine ⟨rfl, .tuple #[.agg #[.int .i64 0, .int .i64 0, .int .i64 0, .int .i64 0, .slice none 0 0], .int .i64 0], ?_, rfl, ?_⟩
  · have r0 : (w2.setCell ⟨w.heap.size, 0, none⟩ (.int .i64 0)).cell? ⟨w.heap.size, 0, none⟩ = some (.int .i64 0) := World.cell?_setCell_same' _ _ _ (by simp [go_sem, z0])
    have r1 : ((w2.setCell ⟨w.heap.size, 0, none⟩ (.int .i64 0)).setCell ⟨w.heap.size, 1, none⟩ (.int .i64 0)).cell? ⟨w.heap.size, 1, none⟩ = some (.int .i64 0) := World.cell?_setCell_same' _ _ _ (by simp [go_sem, z1])
    have r2 : (((w2.setCell ⟨w.heap.size, 0, none⟩ (.int .i64 0)).setCell ⟨w.heap.size, 1, none⟩ (.int .i64 0)).setCell ⟨w.heap.size, 2, none⟩ (.int .i64 0)).cell? ⟨w.heap.size, 2, none⟩ = some (.int .i64 0) := World.cell?_setCell_same' _ _ _ (by simp [go_sem, z2])
    have r3 : ((((w2.setCell ⟨w.heap.size, 0, none⟩ (.int .i64 0)).setCell ⟨w.heap.size, 1, none⟩ (.int .i64 0)).setCell ⟨w.heap.size, 2, none⟩ (.int .i64 0)).setCell ⟨w.heap.size, 3, none⟩ (.int .i64 0)).cell? ⟨w.heap.size, 3, none⟩ = some (.int .i64 0) := World.cell?_setCell_same' _ _ _ (by simp [go_sem, z3])
    have r4 : (((((w2.setCell ⟨w.heap.size, 0, none⟩ (.int .i64 0)).setCell ⟨w.heap.size, 1, none⟩ (.int .i64 0)).setCell ⟨w.heap.size, 2, none⟩ (.int .i64 0)).setCell ⟨w.heap.size, 3, none⟩ (.int .i64 0)).setCell ⟨w.heap.size, 4, none⟩ (.slice none 0 0)).cell? ⟨w.heap.size, 4, none⟩ = some (.slice none 0 0) := World.cell?_setCell_same' _ _ _ (by simp [go_sem, z4])
    simp [results, Tryz.f32, go_sem, loadCells, loadCellsFrom, r0, r1, r2, r3, r4]
  · exact (((((B2.out.setCell (p := ⟨w.heap.size, 0, none⟩) (Nat.le_refl _) _).setCell (p := ⟨w.heap.size, 1, none⟩) (Nat.le_refl _) _).setCell (p := ⟨w.heap.size, 2, none⟩) (Nat.le_refl _) _).setCell (p := ⟨w.heap.size, 3, none⟩) (Nat.le_refl _) _).setCell (p := ⟨w.heap.size, 4, none⟩) (Nat.le_refl _) _)
set_option maxHeartbeats 1000000 in
set_option maxRecDepth 100000 in
theorem cnone_none (S : Nat → Prop) (b : Nat) (d : Disk) (w : World) (h : Mem S w b d) (hx : Dk.look d.files [99, 117, 114, 126] = none) :
    Calls Tryz.prog 71 #[.pointer (some ⟨b, 0, none⟩)] w fun e w' => e = .returned (.bool false) ∧ Below w.heap.size w w' := by
  have HR := keep (read_none S b d [99, 117, 114, 126] w h (by unfold maxLen; decide) rfl hx)
  clear h hx
  go_enter Tryz.func71, Tryz.ntmps71
  go_wp2_with fail
  refine HR.out.mono ?_
  rintro e w1 ⟨rfl, hb1⟩
  have B1 := keep hb1
  clear hb1
  go_wp2
  go_ret
  exact ⟨rfl, B1.out⟩
set_option maxHeartbeats 1000000 in
set_option maxRecDepth 100000 in
theorem twice_none (c : Nat) (w : World) :
    Calls Tryz.prog 195 #[.slice none 0 c] w fun e w' => e = .returned (.bool false) ∧ Below w.heap.size w w' := by
  go_enter Tryz.func195, Tryz.ntmps195
  go_wp2_with fail
  refine wp_loop_rounds 1 ?_
  rw [rounds_succ]
  go_wp2_with fail
  refine (sh_slices_Sort_int_none none 0 w).mono ?_
  rintro e w' ⟨rfl, rfl⟩
  go_wp2
  go_ret
  exact ⟨rfl, Below.refl _ _⟩
set_option maxHeartbeats 1000000 in
set_option maxRecDepth 100000 in
theorem sorted_none (c : Nat) (f : Value) (w : World) :
    Calls Tryz.prog 193 #[.slice none 0 c, f] w fun e w' => e = .returned (.bool true) ∧ Below w.heap.size w w' := by
  go_enter Tryz.func193, Tryz.ntmps193
  go_wp2_with fail
  refine wp_loop_rounds 1 ?_
  rw [rounds_succ]
  go_wp2
  go_ret
  exact ⟨rfl, Below.refl _ _⟩
set_option maxHeartbeats 1000000 in
set_option maxRecDepth 100000 in
theorem mayNotes_none (n : Int) (w : World) :
    Calls Tryz.prog 134 #[.slice none 0 0, .int .i64 n] w fun e w' => e = .returned (.bool true) ∧ Below w.heap.size w w' := by
  go_enter Tryz.func134, Tryz.ntmps134
  go_wp2_with fail
  refine (sorted_none 0 _ w).mono ?_
  rintro e w1 ⟨rfl, hb1⟩
  have B1 := keep hb1
  clear hb1
  go_wp2_with fail
  refine (twice_none 0 w1).mono ?_
  rintro e w2 ⟨rfl, hb2⟩
  have B2 := keep (B1.out.trans (hb2.mono B1.out.size))
  clear hb2
  go_wp2_with fail
  refine wp_loop_rounds 1 ?_
  rw [rounds_succ]
  go_wp2
  go_ret
  exact ⟨rfl, B2.out⟩
set_option maxHeartbeats 1000000 in
set_option maxRecDepth 100000 in
theorem check_none (w : World) :
    Calls Tryz.prog 72 #[verZ] w fun e w' => e = .returned (.int .i64 0) ∧ Below w.heap.size w w' := by
  have MN := keep (mayNotes_none 0)
  unfold verZ
  go_enter Tryz.func72, Tryz.ntmps72
  go_wp2_with (first | (go_at_call 134; go_fit (MN.out _); rintro e w1 ⟨rfl, hb1⟩; have B1 := keep (((Below.refl _ w).alloc (Nat.le_refl _) _).trans (hb1.mono (by simp))); clear hb1) | go_in)
  go_ret
  exact ⟨rfl, B1.out⟩
end Go.Proofs.YtogphpejdnhnjaaGreatDoor
namespace Go.Proofs.YtogphpejdnhnjaaGreatDoor
open Go.RowKit
open Dk (File Disk)

set_option maxHeartbeats 1000000 in
set_option maxRecDepth 100000 in
theorem sindex_any (S : List UInt8) (w : World) (h : ([47] == S) = false) :
    Calls Tryz.prog 279 #[.string ⟨S.toArray⟩, .string ⟨#[47]⟩] w fun e w' => e = .returned (.int .i64 (Lib.indexByte S 47)) ∧ w' = w := by
  go_enter Tryz.func279, Tryz.ntmps279
  go_wp2
  rw [run_callFunc_extern Tryz.func308 (by kernel_rfl) (by kernel_rfl) (by kernel_rfl) (e := Extern.BytealgIndexByte.indexByte) (by kernel_rfl), Lib.run_indexByteString]
  simp only [Result.andThen]
  rw [Oper.upon_value]
  go_wp2
  go_ret
  exact ⟨rfl, rfl⟩
set_option maxHeartbeats 1000000 in
set_option maxRecDepth 100000 in
theorem scut_wal (D : List UInt8) (hD : D.length = 13) (w : World) :
    Calls Tryz.prog 203 #[.string ⟨([119, 97, 108, 47] ++ D).toArray⟩, .string ⟨#[47]⟩] w fun e w' => e = .returned (.tuple #[.string ⟨#[119, 97, 108]⟩, .string ⟨D.toArray⟩, .bool true]) ∧ Below w.heap.size w w' := by
  have SI := keep (sindex_any ([119, 97, 108, 47] ++ D) w (by simp))
  have hi : Lib.indexByte ([119, 97, 108, 47] ++ D) 47 = 3 := by simp [Lib.indexByte]
  rw [hi] at SI
  obtain ⟨S, hS⟩ : ∃ S, [119, 97, 108, 47] ++ D = S := ⟨_, rfl⟩
  have hl : S.length = 17 := by rw [← hS]; simp [hD]
  rw [hS] at SI ⊢
  clear hi
  go_enter Tryz.func203, Tryz.ntmps203
  go_wp2_with fail
  refine SI.out.mono ?_
  rintro e w1 ⟨rfl, rfl⟩
  go_wp2
  go_region
  all_goals go_wp2
  go_ret3
  refine ⟨?_, (Below.refl _ _).drew⟩
  have e3 : (⟨S.toArray⟩ : ByteArray).extract 0 3 = ⟨#[119, 97, 108]⟩ := by
    rw [← hS]
    apply ByteArray.ext
    rw [ByteArray.data_extract]
    apply Array.ext'
    simp
  have e4 : (⟨S.toArray⟩ : ByteArray).extract 4 17 = ⟨D.toArray⟩ := by
    rw [← hS]
    apply ByteArray.ext
    rw [ByteArray.data_extract]
    apply Array.ext'
    simp
    try exact List.take_of_length_le (by omega)
  show Ending.returned (.tuple #[.string ((⟨S.toArray⟩ : ByteArray).extract 0 3), .string ((⟨S.toArray⟩ : ByteArray).extract 4 17), .bool true]) = _
  rw [e3, e4]
set_option maxHeartbeats 1000000 in
set_option maxRecDepth 100000 in
theorem cut_wal (D : List UInt8) (hD : D.length = 13) (w : World) :
    Calls Tryz.prog 137 #[.string ⟨([119, 97, 108, 47] ++ D).toArray⟩, .string ⟨#[47]⟩] w fun e w' => e = .returned (.tuple #[.string ⟨#[119, 97, 108]⟩, .string ⟨D.toArray⟩, .bool true]) ∧ Below w.heap.size w w' := by
  have SC := keep (scut_wal D hD w)
  obtain ⟨S, hS⟩ : ∃ S, [119, 97, 108, 47] ++ D = S := ⟨_, rfl⟩
  rw [hS] at SC ⊢
  go_enter Tryz.func137, Tryz.ntmps137
  go_wp2_with fail
  refine SC.out.mono ?_
  rintro e w1 ⟨rfl, hb1⟩
  have B1 := keep hb1
  clear hb1
  go_wp2
  go_ret3
  exact ⟨rfl, B1.out⟩
/-- The digits of a number's file. -/
def digs (n : Int) : List UInt8 := Lib.repeatL [48] (13 - (Lib.itoa n).length) ++ Lib.itoa n
theorem digs_len {n : Int} (h : isSeg n = true) : (digs n).length = 13 := by
  have := itoa_len h
  unfold digs
  rw [List.length_append, Lib.repeatL_length]
  simp
  omega
theorem seg_digs {n : Int} (h : isSeg n = true) : segName n = [119, 97, 108, 47] ++ digs n := by
  unfold segName digs
  rw [if_pos h, List.append_assoc]
theorem str_join (x y : List UInt8) : ((⟨x.toArray⟩ : ByteArray) ++ (⟨y.toArray⟩ : ByteArray)) = ⟨(x ++ y).toArray⟩ := by
  apply ByteArray.ext
  simp [ByteArray.data_append]
set_option maxHeartbeats 1000000 in
set_option maxRecDepth 100000 in
theorem called_yes (fo : List UInt8) (n : Int) (w : World) (ht : Tab w) (h : isSeg n = true) (hf : fo.length ≤ 100) :
    Calls Tryz.prog 142 #[.string ⟨fo.toArray⟩, .int .i64 n] w fun e w' => e = .returned (.string ⟨(fo ++ digs n).toArray⟩) ∧ Below w.heap.size w w' := by
  have NA := keep (name_any n w ht)
  rw [seg_digs h] at NA
  have hD := digs_len h
  have CW := keep (cut_wal (digs n) hD)
  obtain ⟨D, hDD⟩ : ∃ D, digs n = D := ⟨_, rfl⟩
  rw [hDD] at NA CW hD ⊢
  obtain ⟨S, hS⟩ : ∃ S, [119, 97, 108, 47] ++ D = S := ⟨_, rfl⟩
  rw [hS] at NA CW
  have n1 : ¬ 9223372036854775807 < fo.length + D.length := by omega
  clear hDD hS ht h
  go_enter Tryz.func142, Tryz.ntmps142
  go_wp2_with fail
  refine NA.out.mono ?_
  rintro e w1 ⟨rfl, hb1⟩
  have B1 := keep hb1
  clear hb1
  go_wp2_with fail
  refine (CW.out w1).mono ?_
  rintro e w2 ⟨rfl, hb2⟩
  have B2 := keep (B1.out.trans (hb2.mono B1.out.size))
  clear hb2
  go_wp2
  go_ret
  refine ⟨?_, B2.out⟩
  rw [← str_join]
  rfl
end Go.Proofs.YtogphpejdnhnjaaGreatDoor
namespace Go.Proofs.YtogphpejdnhnjaaGreatDoor
open Go.RowKit Go.Sort
open Dk (File Disk)

set_option maxHeartbeats 1000000 in
set_option maxRecDepth 100000 in
theorem version_yes (n : Int) (w : World) (ht : Tab w) (h : isSeg n = true) :
    Calls Tryz.prog 80 #[.int .i64 n] w fun e w' => e = .returned (.string ⟨([109, 97, 110, 47] ++ digs n).toArray⟩) ∧ Below w.heap.size w w' := by
  have CA := keep (called_yes [109, 97, 110, 47] n w ht h (by decide))
  go_enter Tryz.func80, Tryz.ntmps80
  go_wp2_with fail
  refine CA.out.mono ?_
  rintro e w1 ⟨rfl, hb1⟩
  have B1 := keep hb1
  clear hb1 CA
  go_wp2
  go_ret
  exact ⟨rfl, B1.out⟩
/-- A row of one text, sorted. -/
theorem sortS_one (s : List UInt8) (g : Nat) (w : World) (hb : w.heap[g]? = some (.cells #[.string ⟨s.toArray⟩] 9 (0, 0))) :
    Calls Tryz.prog 135 #[.slice (some ⟨g, 0, none⟩) 1 1] w fun e w' => e = .returned (.tuple #[]) ∧ w.grownBy w' (some g) := by
  have hlt : g < w.heap.size := (Array.getElem?_eq_some_iff.1 hb).1
  have hH := Go.holds_of_block (w := w) (g := g) (ss := [s]) hb rfl
  refine (AnyM.slices_Sort_string lay_sort g 0 1 [s] w hH hlt (by simp)).mono ?_
  rintro e w' ⟨rfl, q, os, rfl⟩
  exact ⟨rfl, Go.grownBy_sorted _⟩
set_option maxHeartbeats 1000000 in
set_option maxRecDepth 100000 in
theorem names_none (w : World) (ht : Tab w) (hw : 0 < w.heap.size) :
    Calls Tryz.prog 73 #[verZ] w fun e w' => ∃ g, e = .returned (.slice (some ⟨g, 0, none⟩) 1 1) ∧ Below w.heap.size w w' := by
  obtain ⟨W1, hW1⟩ : ∃ W1, w.alloc (.cells #[.int .i64 0, .int .i64 0, .int .i64 0, .int .i64 0, .slice none 0 0] 93) = W1 := ⟨_, rfl⟩
  have b1 : Hid (Below w.heap.size w W1) := by rw [← hW1]; exact (Below.refl _ _).alloc (Nat.le_refl _) _
  have g1 : Hid (W1.heap[w.heap.size]? = some (.cells #[.int .i64 0, .int .i64 0, .int .i64 0, .int .i64 0, .slice none 0 0] 93)) := by rw [← hW1]; exact heap_alloc_new w _
  have s1 : Hid (w.heap.size < W1.heap.size) := by rw [← hW1]; simp; trivial
  have VY := keep (version_yes 0 W1 (ht.below b1.out hw) rfl)
  have x0 : W1.cell? ⟨w.heap.size, 0, none⟩ = some (.int .i64 0) := cell_of_row _ _ _ _ _ _ g1.out
  obtain ⟨S, hS⟩ : ∃ S, [109, 97, 110, 47] ++ digs 0 = S := ⟨_, rfl⟩
  rw [hS] at VY
  clear hS ht
  unfold verZ
  go_enter Tryz.func73, Tryz.ntmps73
  go_wp2_with fail
  refine VY.out.mono ?_
  rintro e w2 ⟨rfl, hb2⟩
  have B2 := keep (b1.out.trans (hb2.mono b1.out.size))
  have G2 := keep ((hb2.block _ s1.out).trans g1.out)
  have B3 := keep (B2.out.alloc B2.out.size (.cells #[.string ⟨S.toArray⟩] 9))
  have N3 := keep (heap_alloc_new w2 (.cells #[.string ⟨S.toArray⟩] 9))
  have G3 := keep (((Below.refl w2.heap.size w2).alloc (Nat.le_refl _) (.cells #[.string ⟨S.toArray⟩] 9)).block w.heap.size (Nat.lt_of_lt_of_le s1.out hb2.size) |>.trans G2.out)
  have y4 : (w2.alloc (.cells #[.string ⟨S.toArray⟩] 9)).cell? ⟨w.heap.size, 4, none⟩ = some (.slice none 0 0) := cell_of_row _ _ _ _ _ _ G3.out
  have SO := keep (sortS_one S w2.heap.size _ N3.out)
  clear hb2 VY hW1 x0 g1 s1
  go_wp2_with fail
  refine wp_loop_rounds 1 ?_
  rw [rounds_succ]
  go_wp2_with fail
  refine SO.out.mono ?_
  rintro e w4 ⟨rfl, hg4⟩
  have B4 := keep (B3.out.grown hg4 B3.out.size (fun j hj => by cases hj; exact B2.out.size))
  clear hg4
  go_wp2
  go_ret
  exact ⟨_, rfl, B4.out⟩
set_option maxHeartbeats 1000000 in
set_option maxRecDepth 100000 in
theorem remove_none (S : Nat → Prop) (b : Nat) (d : Disk) (f : Value) (w : World) (h : Mem S w b d) (hd : d.files = []) :
    Calls Tryz.prog 74 #[.pointer (some ⟨b, 0, none⟩), f] w fun e w' => e = .returned (.int .i64 0) ∧ Below w.heap.size w w' := by
  obtain ⟨m, l, left, hM⟩ := h
  have NM := keep (names_mem S b m l left d w hM)
  rw [hd] at NM
  clear hM hd
  go_enter Tryz.func74, Tryz.ntmps74
  go_wp2_with fail
  refine NM.out.mono ?_
  rintro e w1 ⟨ao, c, rfl, _, _, hb1⟩
  have B1 := keep hb1
  clear hb1 NM
  go_wp2_with fail
  refine wp_loop_rounds 1 ?_
  rw [rounds_succ]
  go_wp2
  go_ret
  exact ⟨rfl, B1.out⟩
set_option maxHeartbeats 1000000 in
set_option maxRecDepth 100000 in
theorem clean_none (S : Nat → Prop) (b : Nat) (d : Disk) (w : World) (h : Mem S w b d) (hd : d.files = []) (ht : Tab w) (hw : 0 < w.heap.size) :
    Calls Tryz.prog 33 #[.pointer (some ⟨b, 0, none⟩), verZ] w fun e w' => e = .returned (.int .i64 0) ∧ Below w.heap.size w w' := by
  obtain ⟨W1, hW1⟩ : ∃ W1, w.alloc (.cells #[.int .i64 0, .int .i64 0, .int .i64 0, .int .i64 0, .slice none 0 0] 93) = W1 := ⟨_, rfl⟩
  have b1 : Hid (Below w.heap.size w W1) := by rw [← hW1]; exact (Below.refl _ _).alloc (Nat.le_refl _) _
  have g1 : Hid (W1.heap[w.heap.size]? = some (.cells #[.int .i64 0, .int .i64 0, .int .i64 0, .int .i64 0, .slice none 0 0] 93)) := by rw [← hW1]; exact heap_alloc_new w _
  have s1 : Hid (w.heap.size < W1.heap.size) := by rw [← hW1]; simp; trivial
  have HM : Hid (∀ w', Below w.heap.size w w' → Mem S w' b d) := fun w' hb => h.below hb
  have HT : Hid (∀ w', Below w.heap.size w w' → Tab w') := fun w' hb => ht.below hb hw
  have HF := keep hd
  have CN := keep (cnone_none S b d W1 (HM.out _ b1.out) (by rw [hd]; rfl))
  clear h hd ht
  unfold verZ
  go_enter Tryz.func33, Tryz.ntmps33
  go_wp2_with fail
  refine CN.out.mono ?_
  rintro e w2 ⟨rfl, hb2⟩
  have B2 := keep (b1.out.trans (hb2.mono b1.out.size))
  have G2 := keep ((hb2.block _ s1.out).trans g1.out)
  have x0 : w2.cell? ⟨w.heap.size, 0, none⟩ = some (.int .i64 0) := cell_of_row _ _ _ _ _ _ G2.out
  have x1 : w2.cell? ⟨w.heap.size, 1, none⟩ = some (.int .i64 0) := cell_of_row _ _ _ _ _ _ G2.out
  have x2 : w2.cell? ⟨w.heap.size, 2, none⟩ = some (.int .i64 0) := cell_of_row _ _ _ _ _ _ G2.out
  have x3 : w2.cell? ⟨w.heap.size, 3, none⟩ = some (.int .i64 0) := cell_of_row _ _ _ _ _ _ G2.out
  have x4 : w2.cell? ⟨w.heap.size, 4, none⟩ = some (.slice none 0 0) := cell_of_row _ _ _ _ _ _ G2.out
  have CK := keep (check_none w2)
  unfold verZ at CK
  clear hb2 CN
  go_wp2_with fail
  refine CK.out.mono ?_
  rintro e w3 ⟨rfl, hb3⟩
  have B3 := keep (B2.out.trans (hb3.mono B2.out.size))
  have G3 := keep ((hb3.block _ (Array.getElem?_eq_some_iff.1 G2.out).1).trans G2.out)
  have NN := keep (names_none w3 (HT.out _ B3.out) (Nat.lt_of_lt_of_le hw B3.out.size))
  unfold verZ at NN
  clear x0 x1 x2 x3 x4
  have x0 : w3.cell? ⟨w.heap.size, 0, none⟩ = some (.int .i64 0) := cell_of_row _ _ _ _ _ _ G3.out
  have x1 : w3.cell? ⟨w.heap.size, 1, none⟩ = some (.int .i64 0) := cell_of_row _ _ _ _ _ _ G3.out
  have x2 : w3.cell? ⟨w.heap.size, 2, none⟩ = some (.int .i64 0) := cell_of_row _ _ _ _ _ _ G3.out
  have x3 : w3.cell? ⟨w.heap.size, 3, none⟩ = some (.int .i64 0) := cell_of_row _ _ _ _ _ _ G3.out
  have x4 : w3.cell? ⟨w.heap.size, 4, none⟩ = some (.slice none 0 0) := cell_of_row _ _ _ _ _ _ G3.out
  clear hb3 CK hW1
  go_wp2_with fail
  refine NN.out.mono ?_
  rintro e w4 ⟨g, rfl, hb4⟩
  have B4 := keep (B3.out.trans (hb4.mono B3.out.size))
  clear hb4 NN x0 x1 x2 x3 x4
  go_wp2_with fail
  refine (remove_none S b d _ _ (HM.out _ (B4.out.alloc B4.out.size _)) HF.out).mono ?_
  rintro e w5 ⟨rfl, hb5⟩
  have B5 := keep ((B4.out.alloc B4.out.size _).trans (hb5.mono (B4.out.alloc B4.out.size _).size))
  clear hb5
  go_wp2
  go_ret
  exact ⟨rfl, B5.out⟩
end Go.Proofs.YtogphpejdnhnjaaGreatDoor
