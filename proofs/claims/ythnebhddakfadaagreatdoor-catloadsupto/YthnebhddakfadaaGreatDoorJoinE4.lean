/- The walk of disk's Rename: no room, or the cut. -/
/- The walk of disk's Rename: it is done, onto another file. -/
/- The walk of disk's Rename: it is done, onto no other file. -/
/- Disk's Rename, all its cases. -/
import Derived.Test.YthnebhddakfadaaGreatDoorJoinOz
import Derived.Deep.QuietTactic
import Derived.BigQuiet
namespace Go.Proofs.YthnebhddakfadaaGreatDoor
open Go.RowKit
open Dk (File Disk)

set_option maxHeartbeats 1000000 in
set_option maxRecDepth 100000 in
theorem rename_over_full (S : Nat → Prop) (b : Nat) (d : Disk) (n n2 nm : List UInt8) (sf : Nat) (fb : List UInt8) (nm2 : List UInt8) (sf2 : Nat) (fb2 : List UInt8) (w : World) (h : Mem S w b d) (hn : n.length ≤ 100) (hn2 : n2.length ≤ 100) (hz : ahead d.dark [n, n2] = 0) (hx : Dk.look d.files n = some ⟨nm, sf, fb⟩) (hne : ¬ n2 = n) (hx2 : Dk.look d.files n2 = some ⟨nm2, sf2, fb2⟩) (hfull : ((d.cap : Int) - (Dk.used d.files : Int)) + (16 + (n.length : Int) + (fb.length : Int)) + (16 + (n2.length : Int) + (fb2.length : Int)) < (16 + (n2.length : Int) + (fb.length : Int))) :
    Calls Tryz.prog 57 #[.pointer (some ⟨b, 0, none⟩), .string ⟨n.toArray⟩, .string ⟨n2.toArray⟩] w fun e w' => e = .returned (.int .i64 4) ∧ Below w.heap.size w w' := by
  obtain ⟨m, l, left, h⟩ := h
  have HM := keep h
  clear h
  have HZ := keep hz
  have HX := keep hx
  clear hz hx
  have HX2 := keep hx2
  clear hx2
  have hfbl : ∀ {nm : List UInt8} {sf : Nat} {fb : List UInt8} {n : List UInt8}, Dk.look d.files n = some ⟨nm, sf, fb⟩ → fb.length ≤ 1099511627776 := fun {nm sf fb n} hx => by
    have h1 := used_mem (Dk.look_some hx).1
    have h2 := HM.out.good.room
    have h3 := HM.out.capb
    simp only [Dk.cost] at h1
    omega
  have l1 := hfbl HX.out
  have l2 := hfbl HX2.out
  clear hfbl
  obtain ⟨F, hF, F0, F1⟩ : ∃ F : Int, (d.cap : Int) - (Dk.used d.files : Int) = F ∧ 0 ≤ F ∧ F ≤ 1099511627776 := ⟨_, rfl, by have := HM.out.good.room; omega, by have := HM.out.capb; omega⟩
  have HF := keep hF
  rw [hF] at hfull
  have HU := keep hfull
  clear hfull
  clear hF
  have HNE := keep hne
  clear hne
  go_enter Tryz.func57, Tryz.ntmps57
  go_wp2_with fail
  have hm1 := HM.out.below ((Below.refl _ w).alloc (Nat.le_refl _) (.cells #[.string ⟨n.toArray⟩, .string ⟨n2.toArray⟩] 9))
  refine (ready_box b m _ left d.dark _ _ 2 2 [n, n2] _ hm1.box (two_names w n n2 9) (by omega)).mono ?_
  rintro e w2 ⟨rfl, hb2⟩
  have hb3 := keep (((Below.refl _ w).alloc (Nat.le_refl _) (.cells #[.string ⟨n.toArray⟩, .string ⟨n2.toArray⟩] 9)).trans (hb2.mono (by simp)))
  clear hb2 hm1
  rw [HZ.out]
  have hm2 := HM.out.below hb3.out
  have c02 := hm2.box.c0
  obtain ⟨ao, c, hl, ho, hs, hin⟩ := look_there hm2.map hm2.rel (by unfold maxLen; omega) HX.out
  have HL := keep hl
  have HO := keep ho
  have HIN := keep hin
  have HM2 := keep hm2
  clear hl ho hs hin
  have bA : Below w2.heap.size w2 (w2.alloc (.cells #[.int .i64 (sf : Int), .slice ao fb.length c] 95)) := (Below.refl _ _).alloc (Nat.le_refl _) _
  obtain ⟨wA, hwA⟩ : ∃ wA, w2.alloc (.cells #[.int .i64 (sf : Int), .slice ao fb.length c] 95) = wA := ⟨_, rfl⟩
  have kf1 : wA.cell? ⟨w2.heap.size, 1, none⟩ = some (.slice ao fb.length c) := by rw [← hwA]; exact cell_of_row _ _ _ _ _ _ (heap_alloc_new w2 _)
  have kf0 : wA.cell? ⟨w2.heap.size, 0, none⟩ = some (.int .i64 (sf : Int)) := by rw [← hwA]; exact cell_of_row _ _ _ _ _ _ (heap_alloc_new w2 _)
  rw [hwA] at bA
  have HBA := keep bA
  have cA1 := (hm2.below bA).box.c1
  rw [HF.out] at cA1
  have cA0 := (hm2.below bA).box.c0
  clear bA hm2
  go_wp2_with (first | (at_lookup; refine wpList_look rfl _ _ _ _ rfl _ _ _ rfl rfl HL.out ?_) | fail)
  clear hwA
  go_quiet (first | (go_at_call 70; refine Calls.quiet_of_same (cost_any n ao fb.length c _ (by omega) (by omega))))
  obtain ⟨wB, hwB⟩ : ∃ ws, ws = wA.drewN nq := ⟨_, rfl⟩
  rw [← hwB]
  have bB := keep (show Below w2.heap.size w2 wB by rw [hwB]; exact HBA.out.trans (below_drewN _ _ _))
  have eB : Below wA.heap.size wA wB := by rw [hwB]; exact below_drewN _ _ _
  have kB1 := below_cell eB kf1
  have kB0 := below_cell eB kf0
  have cB0 := below_cell eB cA0
  have cB1 := below_cell eB cA1
  have sB : w2.heap.size < wB.heap.size := World.block_lt_of_cell? wB _ kB1
  have mB := HM2.out.below bB.out
  obtain ⟨ao2, c2, hl2, ho2, hs2, hin2⟩ := look_there mB.map mB.rel (by unfold maxLen; omega) HX2.out
  have HL2 := keep hl2
  clear hl2 ho2 hs2 hin2
  clear kf0 kf1 cA0 cA1 hwB eB mB c02
  have bC : Below wB.heap.size wB (wB.alloc (.cells #[.int .i64 (sf2 : Int), .slice ao2 fb2.length c2] 95)) := (Below.refl _ _).alloc (Nat.le_refl _) _
  obtain ⟨wC, hwC⟩ : ∃ wC, wB.alloc (.cells #[.int .i64 (sf2 : Int), .slice ao2 fb2.length c2] 95) = wC := ⟨_, rfl⟩
  have kC : wC.cell? ⟨wB.heap.size, 1, none⟩ = some (.slice ao2 fb2.length c2) := by rw [← hwC]; exact cell_of_row _ _ _ _ _ _ (heap_alloc_new wB _)
  rw [hwC] at bC
  have HBC := keep (show Below w2.heap.size w2 wC from bB.out.trans (bC.mono bB.out.size))
  have kC1 := below_cell bC kB1
  have kC0 := below_cell bC kB0
  have cC0 := below_cell bC cB0
  have cC1 := below_cell bC cB1
  have hsn : (n2 == n) = false := by simpa using HNE.out
  clear bC kB0 kB1
  go_wp2_with (first | (at_lookup; refine wpList_look rfl _ _ _ _ rfl _ _ _ rfl rfl HL2.out ?_) | fail)
  clear hwC
  refine (cost_any n2 ao2 fb2.length c2 _ (by omega) (by omega)).mono ?_
  rintro e w9 ⟨rfl, rfl⟩
  go_wp2_with fail
  refine (cost_any n2 ao fb.length c _ (by omega) (by omega)).mono ?_
  rintro e w9 ⟨rfl, rfl⟩
  have hcmp := HU.out
  go_wp2
  go_ret
  exact ⟨rfl, hb3.out.trans (HBC.out.mono hb3.out.size)⟩
set_option maxHeartbeats 1000000 in
set_option maxRecDepth 100000 in
theorem rename_new_full (S : Nat → Prop) (b : Nat) (d : Disk) (n n2 nm : List UInt8) (sf : Nat) (fb : List UInt8) (w : World) (h : Mem S w b d) (hn : n.length ≤ 100) (hn2 : n2.length ≤ 100) (hz : ahead d.dark [n, n2] = 0) (hx : Dk.look d.files n = some ⟨nm, sf, fb⟩) (hne : ¬ n2 = n) (hx2 : Dk.look d.files n2 = none) (hfull : ((d.cap : Int) - (Dk.used d.files : Int)) + (16 + (n.length : Int) + (fb.length : Int)) < (16 + (n2.length : Int) + (fb.length : Int))) :
    Calls Tryz.prog 57 #[.pointer (some ⟨b, 0, none⟩), .string ⟨n.toArray⟩, .string ⟨n2.toArray⟩] w fun e w' => e = .returned (.int .i64 4) ∧ Below w.heap.size w w' := by
  obtain ⟨m, l, left, h⟩ := h
  have HM := keep h
  clear h
  have HZ := keep hz
  have HX := keep hx
  clear hz hx
  have HX2 := keep hx2
  clear hx2
  have hfbl : ∀ {nm : List UInt8} {sf : Nat} {fb : List UInt8} {n : List UInt8}, Dk.look d.files n = some ⟨nm, sf, fb⟩ → fb.length ≤ 1099511627776 := fun {nm sf fb n} hx => by
    have h1 := used_mem (Dk.look_some hx).1
    have h2 := HM.out.good.room
    have h3 := HM.out.capb
    simp only [Dk.cost] at h1
    omega
  have l1 := hfbl HX.out
  clear hfbl
  obtain ⟨F, hF, F0, F1⟩ : ∃ F : Int, (d.cap : Int) - (Dk.used d.files : Int) = F ∧ 0 ≤ F ∧ F ≤ 1099511627776 := ⟨_, rfl, by have := HM.out.good.room; omega, by have := HM.out.capb; omega⟩
  have HF := keep hF
  rw [hF] at hfull
  have HU := keep hfull
  clear hfull
  clear hF
  have HNE := keep hne
  clear hne
  go_enter Tryz.func57, Tryz.ntmps57
  go_wp2_with fail
  have hm1 := HM.out.below ((Below.refl _ w).alloc (Nat.le_refl _) (.cells #[.string ⟨n.toArray⟩, .string ⟨n2.toArray⟩] 9))
  refine (ready_box b m _ left d.dark _ _ 2 2 [n, n2] _ hm1.box (two_names w n n2 9) (by omega)).mono ?_
  rintro e w2 ⟨rfl, hb2⟩
  have hb3 := keep (((Below.refl _ w).alloc (Nat.le_refl _) (.cells #[.string ⟨n.toArray⟩, .string ⟨n2.toArray⟩] 9)).trans (hb2.mono (by simp)))
  clear hb2 hm1
  rw [HZ.out]
  have hm2 := HM.out.below hb3.out
  have c02 := hm2.box.c0
  obtain ⟨ao, c, hl, ho, hs, hin⟩ := look_there hm2.map hm2.rel (by unfold maxLen; omega) HX.out
  have HL := keep hl
  have HO := keep ho
  have HIN := keep hin
  have HM2 := keep hm2
  clear hl ho hs hin
  have bA : Below w2.heap.size w2 (w2.alloc (.cells #[.int .i64 (sf : Int), .slice ao fb.length c] 95)) := (Below.refl _ _).alloc (Nat.le_refl _) _
  obtain ⟨wA, hwA⟩ : ∃ wA, w2.alloc (.cells #[.int .i64 (sf : Int), .slice ao fb.length c] 95) = wA := ⟨_, rfl⟩
  have kf1 : wA.cell? ⟨w2.heap.size, 1, none⟩ = some (.slice ao fb.length c) := by rw [← hwA]; exact cell_of_row _ _ _ _ _ _ (heap_alloc_new w2 _)
  have kf0 : wA.cell? ⟨w2.heap.size, 0, none⟩ = some (.int .i64 (sf : Int)) := by rw [← hwA]; exact cell_of_row _ _ _ _ _ _ (heap_alloc_new w2 _)
  rw [hwA] at bA
  have HBA := keep bA
  have cA1 := (hm2.below bA).box.c1
  rw [HF.out] at cA1
  have cA0 := (hm2.below bA).box.c0
  clear bA hm2
  go_wp2_with (first | (at_lookup; refine wpList_look rfl _ _ _ _ rfl _ _ _ rfl rfl HL.out ?_) | fail)
  clear hwA
  go_quiet (first | (go_at_call 70; refine Calls.quiet_of_same (cost_any n ao fb.length c _ (by omega) (by omega))))
  obtain ⟨wB, hwB⟩ : ∃ ws, ws = wA.drewN nq := ⟨_, rfl⟩
  rw [← hwB]
  have bB := keep (show Below w2.heap.size w2 wB by rw [hwB]; exact HBA.out.trans (below_drewN _ _ _))
  have eB : Below wA.heap.size wA wB := by rw [hwB]; exact below_drewN _ _ _
  have kB1 := below_cell eB kf1
  have kB0 := below_cell eB kf0
  have cB0 := below_cell eB cA0
  have cB1 := below_cell eB cA1
  have sB : w2.heap.size < wB.heap.size := World.block_lt_of_cell? wB _ kB1
  have mB := HM2.out.below bB.out
  have HL2 := keep (look_absent mB.map mB.rel (by unfold maxLen; omega) HX2.out)
  clear kf0 kf1 cA0 cA1 hwB eB mB c02
  have bC : Below wB.heap.size wB (wB.alloc (.cells #[.int .i64 0, .slice none 0 0] 95)) := (Below.refl _ _).alloc (Nat.le_refl _) _
  obtain ⟨wC, hwC⟩ : ∃ wC, wB.alloc (.cells #[.int .i64 0, .slice none 0 0] 95) = wC := ⟨_, rfl⟩
  have kO : ∀ o : Obj, (wB.alloc o).cell? ⟨w2.heap.size, 1, none⟩ = some (.slice ao fb.length c) := fun o => below_cell ((Below.refl _ _).alloc (Nat.le_refl _) o) kB1
  rw [hwC] at bC
  have HBC := keep (show Below w2.heap.size w2 wC from bB.out.trans (bC.mono bB.out.size))
  have kC1 := below_cell bC kB1
  have kC0 := below_cell bC kB0
  have cC0 := below_cell bC cB0
  have cC1 := below_cell bC cB1
  have hsn : (n2 == n) = false := by simpa using HNE.out
  clear bC kB0 kB1
  have HWC := keep hwC
  clear hwC
  go_wp2_with (first | (at_lookup; refine wpList_look rfl _ _ _ _ rfl _ _ _ rfl rfl HL2.out ?_) | fail)
  rw [HWC.out]
  clear kO HWC
  refine (cost_any n2 ao fb.length c _ (by omega) (by omega)).mono ?_
  rintro e w9 ⟨rfl, rfl⟩
  have hcmp := HU.out
  go_wp2
  go_ret
  exact ⟨rfl, hb3.out.trans (HBC.out.mono hb3.out.size)⟩
set_option maxHeartbeats 1000000 in
set_option maxRecDepth 100000 in
theorem rename_over_cut (S : Nat → Prop) (b : Nat) (d : Disk) (n n2 nm : List UInt8) (sf : Nat) (fb : List UInt8) (nm2 : List UInt8) (sf2 : Nat) (fb2 : List UInt8) (w : World) (h : Mem S w b d) (hn : n.length ≤ 100) (hn2 : n2.length ≤ 100) (hz : ahead d.dark [n, n2] = 0) (hd : d.dark = false) (ho0 : d.done ≤ 4611686018427387904) (hx : Dk.look d.files n = some ⟨nm, sf, fb⟩) (hne : ¬ n2 = n) (hx2 : Dk.look d.files n2 = some ⟨nm2, sf2, fb2⟩) (hroom : ¬ ((d.cap : Int) - (Dk.used d.files : Int)) + (16 + (n.length : Int) + (fb.length : Int)) + (16 + (n2.length : Int) + (fb2.length : Int)) < (16 + (n2.length : Int) + (fb.length : Int))) (ht : (Dk.tick d).1 = false) :
    Calls Tryz.prog 57 #[.pointer (some ⟨b, 0, none⟩), .string ⟨n.toArray⟩, .string ⟨n2.toArray⟩] w fun e w' => RawPost S w b (5, (Dk.tick d).2) e w' := by
  obtain ⟨m, l, left, h⟩ := h
  have HM := keep h
  clear h
  have HZ := keep hz
  have HX := keep hx
  clear hz hx
  have HD := keep hd
  have HT := keep ht
  clear hd ht
  have HX2 := keep hx2
  clear hx2
  have hfbl : ∀ {nm : List UInt8} {sf : Nat} {fb : List UInt8} {n : List UInt8}, Dk.look d.files n = some ⟨nm, sf, fb⟩ → fb.length ≤ 1099511627776 := fun {nm sf fb n} hx => by
    have h1 := used_mem (Dk.look_some hx).1
    have h2 := HM.out.good.room
    have h3 := HM.out.capb
    simp only [Dk.cost] at h1
    omega
  have l1 := hfbl HX.out
  have l2 := hfbl HX2.out
  clear hfbl
  obtain ⟨F, hF, F0, F1⟩ : ∃ F : Int, (d.cap : Int) - (Dk.used d.files : Int) = F ∧ 0 ≤ F ∧ F ≤ 1099511627776 := ⟨_, rfl, by have := HM.out.good.room; omega, by have := HM.out.capb; omega⟩
  have HF := keep hF
  rw [hF] at hroom
  have HU := keep hroom
  clear hroom
  clear hF
  have HNE := keep hne
  clear hne
  go_enter Tryz.func57, Tryz.ntmps57
  go_wp2_with fail
  have hm1 := HM.out.below ((Below.refl _ w).alloc (Nat.le_refl _) (.cells #[.string ⟨n.toArray⟩, .string ⟨n2.toArray⟩] 9))
  refine (ready_box b m _ left d.dark _ _ 2 2 [n, n2] _ hm1.box (two_names w n n2 9) (by omega)).mono ?_
  rintro e w2 ⟨rfl, hb2⟩
  have hb3 := keep (((Below.refl _ w).alloc (Nat.le_refl _) (.cells #[.string ⟨n.toArray⟩, .string ⟨n2.toArray⟩] 9)).trans (hb2.mono (by simp)))
  clear hb2 hm1
  rw [HZ.out]
  have hm2 := HM.out.below hb3.out
  have c02 := hm2.box.c0
  obtain ⟨ao, c, hl, ho, hs, hin⟩ := look_there hm2.map hm2.rel (by unfold maxLen; omega) HX.out
  have HL := keep hl
  have HO := keep ho
  have HIN := keep hin
  have HM2 := keep hm2
  clear hl ho hs hin
  have bA : Below w2.heap.size w2 (w2.alloc (.cells #[.int .i64 (sf : Int), .slice ao fb.length c] 95)) := (Below.refl _ _).alloc (Nat.le_refl _) _
  obtain ⟨wA, hwA⟩ : ∃ wA, w2.alloc (.cells #[.int .i64 (sf : Int), .slice ao fb.length c] 95) = wA := ⟨_, rfl⟩
  have kf1 : wA.cell? ⟨w2.heap.size, 1, none⟩ = some (.slice ao fb.length c) := by rw [← hwA]; exact cell_of_row _ _ _ _ _ _ (heap_alloc_new w2 _)
  have kf0 : wA.cell? ⟨w2.heap.size, 0, none⟩ = some (.int .i64 (sf : Int)) := by rw [← hwA]; exact cell_of_row _ _ _ _ _ _ (heap_alloc_new w2 _)
  rw [hwA] at bA
  have HBA := keep bA
  have cA1 := (hm2.below bA).box.c1
  rw [HF.out] at cA1
  have cA0 := (hm2.below bA).box.c0
  clear bA hm2
  go_wp2_with (first | (at_lookup; refine wpList_look rfl _ _ _ _ rfl _ _ _ rfl rfl HL.out ?_) | fail)
  clear hwA
  go_quiet (first | (go_at_call 70; refine Calls.quiet_of_same (cost_any n ao fb.length c _ (by omega) (by omega))))
  obtain ⟨wB, hwB⟩ : ∃ ws, ws = wA.drewN nq := ⟨_, rfl⟩
  rw [← hwB]
  have bB := keep (show Below w2.heap.size w2 wB by rw [hwB]; exact HBA.out.trans (below_drewN _ _ _))
  have eB : Below wA.heap.size wA wB := by rw [hwB]; exact below_drewN _ _ _
  have kB1 := below_cell eB kf1
  have kB0 := below_cell eB kf0
  have cB0 := below_cell eB cA0
  have cB1 := below_cell eB cA1
  have sB : w2.heap.size < wB.heap.size := World.block_lt_of_cell? wB _ kB1
  have mB := HM2.out.below bB.out
  obtain ⟨ao2, c2, hl2, ho2, hs2, hin2⟩ := look_there mB.map mB.rel (by unfold maxLen; omega) HX2.out
  have HL2 := keep hl2
  clear hl2 ho2 hs2 hin2
  clear kf0 kf1 cA0 cA1 hwB eB mB c02
  have bC : Below wB.heap.size wB (wB.alloc (.cells #[.int .i64 (sf2 : Int), .slice ao2 fb2.length c2] 95)) := (Below.refl _ _).alloc (Nat.le_refl _) _
  obtain ⟨wC, hwC⟩ : ∃ wC, wB.alloc (.cells #[.int .i64 (sf2 : Int), .slice ao2 fb2.length c2] 95) = wC := ⟨_, rfl⟩
  have kC : wC.cell? ⟨wB.heap.size, 1, none⟩ = some (.slice ao2 fb2.length c2) := by rw [← hwC]; exact cell_of_row _ _ _ _ _ _ (heap_alloc_new wB _)
  rw [hwC] at bC
  have HBC := keep (show Below w2.heap.size w2 wC from bB.out.trans (bC.mono bB.out.size))
  have kC1 := below_cell bC kB1
  have kC0 := below_cell bC kB0
  have cC0 := below_cell bC cB0
  have cC1 := below_cell bC cB1
  have hsn : (n2 == n) = false := by simpa using HNE.out
  clear bC kB0 kB1
  go_wp2_with (first | (at_lookup; refine wpList_look rfl _ _ _ _ rfl _ _ _ rfl rfl HL2.out ?_) | fail)
  clear hwC
  refine (cost_any n2 ao2 fb2.length c2 _ (by omega) (by omega)).mono ?_
  rintro e w9 ⟨rfl, rfl⟩
  go_wp2_with fail
  refine (cost_any n2 ao fb.length c _ (by omega) (by omega)).mono ?_
  rintro e w9 ⟨rfl, rfl⟩
  have hcmp := HU.out
  go_wp2_with fail
  clear hcmp
  refine (count_mem S b m l left d _ (HM2.out.below HBC.out) HD.out ho0).mono ?_
  rintro e w3 ⟨left', rfl, hm3, hk3⟩
  rw [HT.out]
  have hk4 := keep ((Kept.of_below (U := Go.Proofs.YthnebhddakfadaaGreatDoor.mine S b) (hb3.out.trans (HBC.out.mono hb3.out.size))).trans (hk3.wide (fun g _ e => .inr e)))
  have hm4 := keep hm3
  clear hm3 hk3
  go_wp2
  go_ret
  exact ⟨rfl, MemAt.grow HM.out.box.lt HM.out.out hm4.out.lt hm4.out hk4.out (Kept.refl _ _)⟩
set_option maxHeartbeats 1000000 in
set_option maxRecDepth 100000 in
theorem rename_new_cut (S : Nat → Prop) (b : Nat) (d : Disk) (n n2 nm : List UInt8) (sf : Nat) (fb : List UInt8) (w : World) (h : Mem S w b d) (hn : n.length ≤ 100) (hn2 : n2.length ≤ 100) (hz : ahead d.dark [n, n2] = 0) (hd : d.dark = false) (ho0 : d.done ≤ 4611686018427387904) (hx : Dk.look d.files n = some ⟨nm, sf, fb⟩) (hne : ¬ n2 = n) (hx2 : Dk.look d.files n2 = none) (hroom : ¬ ((d.cap : Int) - (Dk.used d.files : Int)) + (16 + (n.length : Int) + (fb.length : Int)) < (16 + (n2.length : Int) + (fb.length : Int))) (ht : (Dk.tick d).1 = false) :
    Calls Tryz.prog 57 #[.pointer (some ⟨b, 0, none⟩), .string ⟨n.toArray⟩, .string ⟨n2.toArray⟩] w fun e w' => RawPost S w b (5, (Dk.tick d).2) e w' := by
  obtain ⟨m, l, left, h⟩ := h
  have HM := keep h
  clear h
  have HZ := keep hz
  have HX := keep hx
  clear hz hx
  have HD := keep hd
  have HT := keep ht
  clear hd ht
  have HX2 := keep hx2
  clear hx2
  have hfbl : ∀ {nm : List UInt8} {sf : Nat} {fb : List UInt8} {n : List UInt8}, Dk.look d.files n = some ⟨nm, sf, fb⟩ → fb.length ≤ 1099511627776 := fun {nm sf fb n} hx => by
    have h1 := used_mem (Dk.look_some hx).1
    have h2 := HM.out.good.room
    have h3 := HM.out.capb
    simp only [Dk.cost] at h1
    omega
  have l1 := hfbl HX.out
  clear hfbl
  obtain ⟨F, hF, F0, F1⟩ : ∃ F : Int, (d.cap : Int) - (Dk.used d.files : Int) = F ∧ 0 ≤ F ∧ F ≤ 1099511627776 := ⟨_, rfl, by have := HM.out.good.room; omega, by have := HM.out.capb; omega⟩
  have HF := keep hF
  rw [hF] at hroom
  have HU := keep hroom
  clear hroom
  clear hF
  have HNE := keep hne
  clear hne
  go_enter Tryz.func57, Tryz.ntmps57
  go_wp2_with fail
  have hm1 := HM.out.below ((Below.refl _ w).alloc (Nat.le_refl _) (.cells #[.string ⟨n.toArray⟩, .string ⟨n2.toArray⟩] 9))
  refine (ready_box b m _ left d.dark _ _ 2 2 [n, n2] _ hm1.box (two_names w n n2 9) (by omega)).mono ?_
  rintro e w2 ⟨rfl, hb2⟩
  have hb3 := keep (((Below.refl _ w).alloc (Nat.le_refl _) (.cells #[.string ⟨n.toArray⟩, .string ⟨n2.toArray⟩] 9)).trans (hb2.mono (by simp)))
  clear hb2 hm1
  rw [HZ.out]
  have hm2 := HM.out.below hb3.out
  have c02 := hm2.box.c0
  obtain ⟨ao, c, hl, ho, hs, hin⟩ := look_there hm2.map hm2.rel (by unfold maxLen; omega) HX.out
  have HL := keep hl
  have HO := keep ho
  have HIN := keep hin
  have HM2 := keep hm2
  clear hl ho hs hin
  have bA : Below w2.heap.size w2 (w2.alloc (.cells #[.int .i64 (sf : Int), .slice ao fb.length c] 95)) := (Below.refl _ _).alloc (Nat.le_refl _) _
  obtain ⟨wA, hwA⟩ : ∃ wA, w2.alloc (.cells #[.int .i64 (sf : Int), .slice ao fb.length c] 95) = wA := ⟨_, rfl⟩
  have kf1 : wA.cell? ⟨w2.heap.size, 1, none⟩ = some (.slice ao fb.length c) := by rw [← hwA]; exact cell_of_row _ _ _ _ _ _ (heap_alloc_new w2 _)
  have kf0 : wA.cell? ⟨w2.heap.size, 0, none⟩ = some (.int .i64 (sf : Int)) := by rw [← hwA]; exact cell_of_row _ _ _ _ _ _ (heap_alloc_new w2 _)
  rw [hwA] at bA
  have HBA := keep bA
  have cA1 := (hm2.below bA).box.c1
  rw [HF.out] at cA1
  have cA0 := (hm2.below bA).box.c0
  clear bA hm2
  go_wp2_with (first | (at_lookup; refine wpList_look rfl _ _ _ _ rfl _ _ _ rfl rfl HL.out ?_) | fail)
  clear hwA
  go_quiet (first | (go_at_call 70; refine Calls.quiet_of_same (cost_any n ao fb.length c _ (by omega) (by omega))))
  obtain ⟨wB, hwB⟩ : ∃ ws, ws = wA.drewN nq := ⟨_, rfl⟩
  rw [← hwB]
  have bB := keep (show Below w2.heap.size w2 wB by rw [hwB]; exact HBA.out.trans (below_drewN _ _ _))
  have eB : Below wA.heap.size wA wB := by rw [hwB]; exact below_drewN _ _ _
  have kB1 := below_cell eB kf1
  have kB0 := below_cell eB kf0
  have cB0 := below_cell eB cA0
  have cB1 := below_cell eB cA1
  have sB : w2.heap.size < wB.heap.size := World.block_lt_of_cell? wB _ kB1
  have mB := HM2.out.below bB.out
  have HL2 := keep (look_absent mB.map mB.rel (by unfold maxLen; omega) HX2.out)
  clear kf0 kf1 cA0 cA1 hwB eB mB c02
  have bC : Below wB.heap.size wB (wB.alloc (.cells #[.int .i64 0, .slice none 0 0] 95)) := (Below.refl _ _).alloc (Nat.le_refl _) _
  obtain ⟨wC, hwC⟩ : ∃ wC, wB.alloc (.cells #[.int .i64 0, .slice none 0 0] 95) = wC := ⟨_, rfl⟩
  have kO : ∀ o : Obj, (wB.alloc o).cell? ⟨w2.heap.size, 1, none⟩ = some (.slice ao fb.length c) := fun o => below_cell ((Below.refl _ _).alloc (Nat.le_refl _) o) kB1
  rw [hwC] at bC
  have HBC := keep (show Below w2.heap.size w2 wC from bB.out.trans (bC.mono bB.out.size))
  have kC1 := below_cell bC kB1
  have kC0 := below_cell bC kB0
  have cC0 := below_cell bC cB0
  have cC1 := below_cell bC cB1
  have hsn : (n2 == n) = false := by simpa using HNE.out
  clear bC kB0 kB1
  have HWC := keep hwC
  clear hwC
  go_wp2_with (first | (at_lookup; refine wpList_look rfl _ _ _ _ rfl _ _ _ rfl rfl HL2.out ?_) | fail)
  rw [HWC.out]
  clear kO HWC
  refine (cost_any n2 ao fb.length c _ (by omega) (by omega)).mono ?_
  rintro e w9 ⟨rfl, rfl⟩
  have hcmp := HU.out
  go_wp2_with fail
  clear hcmp
  refine (count_mem S b m l left d _ (HM2.out.below HBC.out) HD.out ho0).mono ?_
  rintro e w3 ⟨left', rfl, hm3, hk3⟩
  rw [HT.out]
  have hk4 := keep ((Kept.of_below (U := Go.Proofs.YthnebhddakfadaaGreatDoor.mine S b) (hb3.out.trans (HBC.out.mono hb3.out.size))).trans (hk3.wide (fun g _ e => .inr e)))
  have hm4 := keep hm3
  clear hm3 hk3
  go_wp2
  go_ret
  exact ⟨rfl, MemAt.grow HM.out.box.lt HM.out.out hm4.out.lt hm4.out hk4.out (Kept.refl _ _)⟩
set_option maxHeartbeats 1000000 in
set_option maxRecDepth 100000 in
theorem rename_same_cut (S : Nat → Prop) (b : Nat) (d : Disk) (n nm : List UInt8) (sf : Nat) (fb : List UInt8) (w : World) (h : Mem S w b d) (hn : n.length ≤ 100) (hz : ahead d.dark [n, n] = 0) (hd : d.dark = false) (ho0 : d.done ≤ 4611686018427387904) (hx : Dk.look d.files n = some ⟨nm, sf, fb⟩) (ht : (Dk.tick d).1 = false) :
    Calls Tryz.prog 57 #[.pointer (some ⟨b, 0, none⟩), .string ⟨n.toArray⟩, .string ⟨n.toArray⟩] w fun e w' => RawPost S w b (5, (Dk.tick d).2) e w' := by
  obtain ⟨m, l, left, h⟩ := h
  have HM := keep h
  clear h
  have HZ := keep hz
  have HX := keep hx
  clear hz hx
  have HD := keep hd
  have HT := keep ht
  clear hd ht
  have hfbl : ∀ {nm : List UInt8} {sf : Nat} {fb : List UInt8} {n : List UInt8}, Dk.look d.files n = some ⟨nm, sf, fb⟩ → fb.length ≤ 1099511627776 := fun {nm sf fb n} hx => by
    have h1 := used_mem (Dk.look_some hx).1
    have h2 := HM.out.good.room
    have h3 := HM.out.capb
    simp only [Dk.cost] at h1
    omega
  have l1 := hfbl HX.out
  clear hfbl
  obtain ⟨F, hF, F0, F1⟩ : ∃ F : Int, (d.cap : Int) - (Dk.used d.files : Int) = F ∧ 0 ≤ F ∧ F ≤ 1099511627776 := ⟨_, rfl, by have := HM.out.good.room; omega, by have := HM.out.capb; omega⟩
  have HF := keep hF
  clear hF
  go_enter Tryz.func57, Tryz.ntmps57
  go_wp2_with fail
  have hm1 := HM.out.below ((Below.refl _ w).alloc (Nat.le_refl _) (.cells #[.string ⟨n.toArray⟩, .string ⟨n.toArray⟩] 9))
  refine (ready_box b m _ left d.dark _ _ 2 2 [n, n] _ hm1.box (two_names w n n 9) (by omega)).mono ?_
  rintro e w2 ⟨rfl, hb2⟩
  have hb3 := keep (((Below.refl _ w).alloc (Nat.le_refl _) (.cells #[.string ⟨n.toArray⟩, .string ⟨n.toArray⟩] 9)).trans (hb2.mono (by simp)))
  clear hb2 hm1
  rw [HZ.out]
  have hm2 := HM.out.below hb3.out
  have c02 := hm2.box.c0
  obtain ⟨ao, c, hl, ho, hs, hin⟩ := look_there hm2.map hm2.rel (by unfold maxLen; omega) HX.out
  have HL := keep hl
  have HO := keep ho
  have HIN := keep hin
  have HM2 := keep hm2
  clear hl ho hs hin
  have bA : Below w2.heap.size w2 (w2.alloc (.cells #[.int .i64 (sf : Int), .slice ao fb.length c] 95)) := (Below.refl _ _).alloc (Nat.le_refl _) _
  obtain ⟨wA, hwA⟩ : ∃ wA, w2.alloc (.cells #[.int .i64 (sf : Int), .slice ao fb.length c] 95) = wA := ⟨_, rfl⟩
  have kf1 : wA.cell? ⟨w2.heap.size, 1, none⟩ = some (.slice ao fb.length c) := by rw [← hwA]; exact cell_of_row _ _ _ _ _ _ (heap_alloc_new w2 _)
  have kf0 : wA.cell? ⟨w2.heap.size, 0, none⟩ = some (.int .i64 (sf : Int)) := by rw [← hwA]; exact cell_of_row _ _ _ _ _ _ (heap_alloc_new w2 _)
  rw [hwA] at bA
  have HBA := keep bA
  have cA1 := (hm2.below bA).box.c1
  rw [HF.out] at cA1
  have cA0 := (hm2.below bA).box.c0
  clear bA hm2
  go_wp2_with (first | (at_lookup; refine wpList_look rfl _ _ _ _ rfl _ _ _ rfl rfl HL.out ?_) | fail)
  clear hwA
  go_quiet (first | (go_at_call 70; refine Calls.quiet_of_same (cost_any n ao fb.length c _ (by omega) (by omega))))
  obtain ⟨wB, hwB⟩ : ∃ ws, ws = wA.drewN nq := ⟨_, rfl⟩
  rw [← hwB]
  have bB := keep (show Below w2.heap.size w2 wB by rw [hwB]; exact HBA.out.trans (below_drewN _ _ _))
  have eB : Below wA.heap.size wA wB := by rw [hwB]; exact below_drewN _ _ _
  have kB1 := below_cell eB kf1
  have kB0 := below_cell eB kf0
  have cB0 := below_cell eB cA0
  have cB1 := below_cell eB cA1
  have sB : w2.heap.size < wB.heap.size := World.block_lt_of_cell? wB _ kB1
  have mB := HM2.out.below bB.out
  obtain ⟨ao2, c2, hl2, ho2, hs2, hin2⟩ := look_there mB.map mB.rel (by unfold maxLen; omega) HX.out
  have HL2 := keep hl2
  clear hl2 ho2 hs2 hin2
  clear kf0 kf1 cA0 cA1 hwB eB mB c02
  have bC : Below wB.heap.size wB (wB.alloc (.cells #[.int .i64 (sf : Int), .slice ao2 fb.length c2] 95)) := (Below.refl _ _).alloc (Nat.le_refl _) _
  obtain ⟨wC, hwC⟩ : ∃ wC, wB.alloc (.cells #[.int .i64 (sf : Int), .slice ao2 fb.length c2] 95) = wC := ⟨_, rfl⟩
  rw [hwC] at bC
  have HBC := keep (show Below w2.heap.size w2 wC from bB.out.trans (bC.mono bB.out.size))
  have kC1 := below_cell bC kB1
  have kC0 := below_cell bC kB0
  have cC0 := below_cell bC cB0
  have cC1 := below_cell bC cB1
  clear bC kB0 kB1
  go_wp2_with (first | (at_lookup; refine wpList_look rfl _ _ _ _ rfl _ _ _ rfl rfl HL2.out ?_) | fail)
  clear hwC
  refine (cost_any n ao fb.length c _ (by omega) (by omega)).mono ?_
  rintro e w9 ⟨rfl, rfl⟩
  have hcmp : ¬ F + (16 + (n.length : Int) + (fb.length : Int)) < (16 + (n.length : Int) + (fb.length : Int)) := by omega
  go_wp2_with fail
  clear hcmp
  refine (count_mem S b m l left d _ (HM2.out.below HBC.out) HD.out ho0).mono ?_
  rintro e w3 ⟨left', rfl, hm3, hk3⟩
  rw [HT.out]
  have hk4 := keep ((Kept.of_below (U := Go.Proofs.YthnebhddakfadaaGreatDoor.mine S b) (hb3.out.trans (HBC.out.mono hb3.out.size))).trans (hk3.wide (fun g _ e => .inr e)))
  have hm4 := keep hm3
  clear hm3 hk3
  go_wp2
  go_ret
  exact ⟨rfl, MemAt.grow HM.out.box.lt HM.out.out hm4.out.lt hm4.out hk4.out (Kept.refl _ _)⟩
end Go.Proofs.YthnebhddakfadaaGreatDoor
namespace Go.Proofs.YthnebhddakfadaaGreatDoor
open Go.RowKit
open Dk (File Disk)

/-- A file called otherwise. -/
theorem MemAt.moved {S : Nat → Prop} {w w' : World} {b m : Nat} {l : List Named} {left : Int} {d : Disk} {n n2 : List UInt8} {v : Value} {f : File} {fs : List File} (h : MemAt S w b m l left d) (hmap : MapIs Tryz.prog 9 w' m (lay (strike l n) n2 v)) (hfit : Fits w' v f) (hname : f.name = n2) (hfs : fs = Dk.put (Dk.drop d.files n) f)
    (hkeep : ∀ x ∈ l, x.1 ≠ n → x.1 ≠ n2 → ∀ g, arr x.2 = some g → w'.heap[g]? = w.heap[g]?) (hbox : Box w' b m ((d.cap : Int) - (Dk.used fs : Int)) left d.dark (d.done : Int))
    (hv : ∀ g, arr v = some g → S g ∧ g ≠ m ∧ ∀ y ∈ l, y.1 ≠ n → y.1 ≠ n2 → arr y.2 ≠ some g) (hsz : w.heap.size ≤ w'.heap.size) (hg : Dk.Good { d with files := fs }) : MemAt S w' b m (lay (strike l n) n2 v) left { d with files := fs } := by
  refine ⟨hg, h.capb, hbox, hmap, ?_, (h.foot.strike n).lay (strike_up n h.map.1) (fun _ e => e) (fun g hgv => ⟨(hv g hgv).1, (hv g hgv).2.1, fun y hy hne => (hv g hgv).2.2 y (strike_mem hy).1 (strike_mem hy).2 hne⟩), h.out, fun g hgs => Nat.lt_of_lt_of_le (h.lt g hgs) hsz, h.lefts, h.range⟩
  subst hname
  show Rel w' Nobody (lay (strike l n) f.name v) fs
  rw [hfs]
  have h1 : Rel w Nobody (strike l n) (Dk.drop d.files n) := Rel.strike n h.rel
  exact Rel.lay hfit (strike_up n h.map.1) (h1.turn (fun _ e => e.elim) (fun x hx hne g hgx => hkeep x (strike_mem hx).1 (strike_mem hx).2 hne g hgx))
set_option maxHeartbeats 1000000 in
set_option maxRecDepth 100000 in
theorem rename_over_go (S : Nat → Prop) (b : Nat) (d : Disk) (n n2 nm : List UInt8) (sf : Nat) (fb : List UInt8) (nm2 : List UInt8) (sf2 : Nat) (fb2 : List UInt8) (w : World) (h : Mem S w b d) (hn : n.length ≤ 100) (hn2 : n2.length ≤ 100) (hz : ahead d.dark [n, n2] = 0) (hd : d.dark = false) (ho0 : d.done ≤ 4611686018427387904) (hx : Dk.look d.files n = some ⟨nm, sf, fb⟩) (hne : ¬ n2 = n) (hx2 : Dk.look d.files n2 = some ⟨nm2, sf2, fb2⟩) (hroom : ¬ ((d.cap : Int) - (Dk.used d.files : Int)) + (16 + (n.length : Int) + (fb.length : Int)) + (16 + (n2.length : Int) + (fb2.length : Int)) < (16 + (n2.length : Int) + (fb.length : Int))) (ht : (Dk.tick d).1 = true) :
    Calls Tryz.prog 57 #[.pointer (some ⟨b, 0, none⟩), .string ⟨n.toArray⟩, .string ⟨n2.toArray⟩] w fun e w' => RawPost S w b (0, { (Dk.tick d).2 with files := Dk.put (Dk.drop d.files n) ⟨n2, sf, fb⟩ }) e w' := by
  obtain ⟨m, l, left, h⟩ := h
  have HM := keep h
  clear h
  have HZ := keep hz
  have HX := keep hx
  clear hz hx
  have HD := keep hd
  have HT := keep ht
  clear hd ht
  have HX2 := keep hx2
  clear hx2
  have hfbl : ∀ {nm : List UInt8} {sf : Nat} {fb : List UInt8} {n : List UInt8}, Dk.look d.files n = some ⟨nm, sf, fb⟩ → fb.length ≤ 1099511627776 := fun {nm sf fb n} hx => by
    have h1 := used_mem (Dk.look_some hx).1
    have h2 := HM.out.good.room
    have h3 := HM.out.capb
    simp only [Dk.cost] at h1
    omega
  have l1 := hfbl HX.out
  have l2 := hfbl HX2.out
  clear hfbl
  obtain ⟨F, hF, F0, F1⟩ : ∃ F : Int, (d.cap : Int) - (Dk.used d.files : Int) = F ∧ 0 ≤ F ∧ F ≤ 1099511627776 := ⟨_, rfl, by have := HM.out.good.room; omega, by have := HM.out.capb; omega⟩
  have HF := keep hF
  rw [hF] at hroom
  have HU := keep hroom
  clear hroom
  clear hF
  have HNE := keep hne
  clear hne
  go_enter Tryz.func57, Tryz.ntmps57
  go_wp2_with fail
  have hm1 := HM.out.below ((Below.refl _ w).alloc (Nat.le_refl _) (.cells #[.string ⟨n.toArray⟩, .string ⟨n2.toArray⟩] 9))
  refine (ready_box b m _ left d.dark _ _ 2 2 [n, n2] _ hm1.box (two_names w n n2 9) (by omega)).mono ?_
  rintro e w2 ⟨rfl, hb2⟩
  have hb3 := keep (((Below.refl _ w).alloc (Nat.le_refl _) (.cells #[.string ⟨n.toArray⟩, .string ⟨n2.toArray⟩] 9)).trans (hb2.mono (by simp)))
  clear hb2 hm1
  rw [HZ.out]
  have hm2 := HM.out.below hb3.out
  have c02 := hm2.box.c0
  obtain ⟨ao, c, hl, ho, hs, hin⟩ := look_there hm2.map hm2.rel (by unfold maxLen; omega) HX.out
  have HL := keep hl
  have HO := keep ho
  have HIN := keep hin
  have HM2 := keep hm2
  clear hl ho hs hin
  have bA : Below w2.heap.size w2 (w2.alloc (.cells #[.int .i64 (sf : Int), .slice ao fb.length c] 95)) := (Below.refl _ _).alloc (Nat.le_refl _) _
  obtain ⟨wA, hwA⟩ : ∃ wA, w2.alloc (.cells #[.int .i64 (sf : Int), .slice ao fb.length c] 95) = wA := ⟨_, rfl⟩
  have kf1 : wA.cell? ⟨w2.heap.size, 1, none⟩ = some (.slice ao fb.length c) := by rw [← hwA]; exact cell_of_row _ _ _ _ _ _ (heap_alloc_new w2 _)
  have kf0 : wA.cell? ⟨w2.heap.size, 0, none⟩ = some (.int .i64 (sf : Int)) := by rw [← hwA]; exact cell_of_row _ _ _ _ _ _ (heap_alloc_new w2 _)
  rw [hwA] at bA
  have HBA := keep bA
  have cA1 := (hm2.below bA).box.c1
  rw [HF.out] at cA1
  have cA0 := (hm2.below bA).box.c0
  clear bA hm2
  go_wp2_with (first | (at_lookup; refine wpList_look rfl _ _ _ _ rfl _ _ _ rfl rfl HL.out ?_) | fail)
  clear hwA
  go_quiet (first | (go_at_call 70; refine Calls.quiet_of_same (cost_any n ao fb.length c _ (by omega) (by omega))))
  obtain ⟨wB, hwB⟩ : ∃ ws, ws = wA.drewN nq := ⟨_, rfl⟩
  rw [← hwB]
  have bB := keep (show Below w2.heap.size w2 wB by rw [hwB]; exact HBA.out.trans (below_drewN _ _ _))
  have eB : Below wA.heap.size wA wB := by rw [hwB]; exact below_drewN _ _ _
  have kB1 := below_cell eB kf1
  have kB0 := below_cell eB kf0
  have cB0 := below_cell eB cA0
  have cB1 := below_cell eB cA1
  have sB : w2.heap.size < wB.heap.size := World.block_lt_of_cell? wB _ kB1
  have mB := HM2.out.below bB.out
  obtain ⟨ao2, c2, hl2, ho2, hs2, hin2⟩ := look_there mB.map mB.rel (by unfold maxLen; omega) HX2.out
  have HL2 := keep hl2
  clear hl2 ho2 hs2 hin2
  clear kf0 kf1 cA0 cA1 hwB eB mB c02
  have bC : Below wB.heap.size wB (wB.alloc (.cells #[.int .i64 (sf2 : Int), .slice ao2 fb2.length c2] 95)) := (Below.refl _ _).alloc (Nat.le_refl _) _
  obtain ⟨wC, hwC⟩ : ∃ wC, wB.alloc (.cells #[.int .i64 (sf2 : Int), .slice ao2 fb2.length c2] 95) = wC := ⟨_, rfl⟩
  have kC : wC.cell? ⟨wB.heap.size, 1, none⟩ = some (.slice ao2 fb2.length c2) := by rw [← hwC]; exact cell_of_row _ _ _ _ _ _ (heap_alloc_new wB _)
  rw [hwC] at bC
  have HBC := keep (show Below w2.heap.size w2 wC from bB.out.trans (bC.mono bB.out.size))
  have kC1 := below_cell bC kB1
  have kC0 := below_cell bC kB0
  have cC0 := below_cell bC cB0
  have cC1 := below_cell bC cB1
  have hsn : (n2 == n) = false := by simpa using HNE.out
  clear bC kB0 kB1
  go_wp2_with (first | (at_lookup; refine wpList_look rfl _ _ _ _ rfl _ _ _ rfl rfl HL2.out ?_) | fail)
  clear hwC
  refine (cost_any n2 ao2 fb2.length c2 _ (by omega) (by omega)).mono ?_
  rintro e w9 ⟨rfl, rfl⟩
  go_wp2_with fail
  refine (cost_any n2 ao fb.length c _ (by omega) (by omega)).mono ?_
  rintro e w9 ⟨rfl, rfl⟩
  have hcmp := HU.out
  go_wp2_with fail
  clear hcmp
  refine (count_mem S b m l left d _ (HM2.out.below HBC.out) HD.out ho0).mono ?_
  rintro e w3 ⟨left', rfl, hm3, hk3⟩
  rw [HT.out]
  have hk4 := keep ((Kept.of_below (U := Go.Proofs.YthnebhddakfadaaGreatDoor.mine S b) (hb3.out.trans (HBC.out.mono hb3.out.size))).trans (hk3.wide (fun g _ e => .inr e)))
  have hm4 := keep hm3
  have hw2 : b < w2.heap.size := Nat.lt_of_lt_of_le HM.out.box.lt hb3.out.size
  have k0 : w3.cell? ⟨w2.heap.size, 0, none⟩ = some (.int .i64 (sf : Int)) := by
    rw [hk3.cell (p := ⟨w2.heap.size, 0, none⟩) (World.block_lt_of_cell? _ _ kC0) (fun e => by have : w2.heap.size = b := e; omega)]; exact kC0
  have k1 : w3.cell? ⟨w2.heap.size, 1, none⟩ = some (.slice ao fb.length c) := by
    rw [hk3.cell (p := ⟨w2.heap.size, 1, none⟩) (World.block_lt_of_cell? _ _ kC1) (fun e => by have : w2.heap.size = b := e; omega)]; exact kC1
  have c03 := hm3.box.c0
  have hfew := keep hm3.few
  have ho3 : Hid (w3.ownsRow 0 5 1 (.slice ao fb.length c) fb.length (bv fb)) := own_block HO.out (fun g hg => by
    have hS := (HM.out.foot.arrs _ HIN.out g hg).1
    have hlt := (HM2.out.lt g hS)
    rw [hk3.block g (Nat.lt_of_lt_of_le hlt HBC.out.size) (fun e => HM.out.out (by rw [← (show g = b from e)]; exact hS)), HBC.out.block g hlt])
  clear hm3 hk3 kC0 kC1 cC0 cC1 cB0 cB1
  go_wp2_with (at_delete; refine wpList_strike rfl _ _ _ _ rfl 95 Tryz.underlying9 Tryz.underlying85 m l n rfl rfl hm4.out.map (by unfold maxLen; omega) ?_; intro w5 hmap5 hg5; have hmap6 := keep hmap5; have hg6 := keep hg5; clear hmap5 hg5)
  have hbm : ¬ b = m := fun e => hm4.out.out (by rw [e]; exact hm4.out.foot.mine)
  have hbox5 := hm4.out.box.same (w' := w5) (hg6.out.block b hm4.out.box.lt (fun e => hbm (Option.some.inj e)))
  have hne5 : some w2.heap.size ≠ some m := fun e => by
    have h1 := HM2.out.lt m HM2.out.foot.mine
    have := Option.some.inj e
    omega
  have k05 := hg6.out.cell k0 hne5
  have k15 := hg6.out.cell k1 hne5
  have c05 := hbox5.c0
  have hfew5 : Hid ((strike l n).length < maxLen) := by
    have h1 := hfew.out.1
    have h2 : ∀ (l : List Named), (strike l n).length ≤ l.length := fun l => by
      induction l with
      | nil => exact Nat.le_refl _
      | cons x t ih => simp only [strike]; split <;> simp <;> omega
    exact Nat.lt_of_le_of_lt (h2 l) h1
  have HB5 := keep hbox5
  clear k0 k1 c03 hbox5
  obtain ⟨w6, hrun6, hmap7, hg7⟩ := (hmap6.out.same (w' := w5.drew) rfl).store Tryz.underlying9 Tryz.underlying85 n2 (by unfold maxLen; omega) hfew5.out (.agg #[.int .i64 (sf : Int), .slice ao fb.length c])
  have hmap8 := keep hmap7
  have hg8 : Hid (w5.grownBy w6 (some m)) := ⟨hg7.os, hg7.tape, hg7.output, hg7.size, hg7.block⟩
  have HB6 := keep (HB5.out.same (w' := w6) (hg8.out.block b HB5.out.lt (fun e => hbm (Option.some.inj e))))
  have k16 := hg8.out.cell k15 hne5
  have c16 := HB6.out.c1
  have f6 := HB6.out.warm
  have hwr : IntKind.i64.wrap (F + (16 + (n.length : Int) + (fb.length : Int)) + (16 + (n2.length : Int) + (fb2.length : Int)) - (16 + (n2.length : Int) + (fb.length : Int))) = F + (16 + (n.length : Int) + (fb.length : Int)) + (16 + (n2.length : Int) + (fb2.length : Int)) - (16 + (n2.length : Int) + (fb.length : Int)) := wrap_small _ (by omega) (by omega)
  have fin : Hid (RawPost S w b (0, { (Dk.tick d).2 with files := Dk.put (Dk.drop d.files n) ⟨n2, sf, fb⟩ }) (.returned (.int .i64 0)) (w6.setCell ⟨b, 1, none⟩ (.int .i64 (F + (16 + (n.length : Int) + (fb.length : Int)) + (16 + (n2.length : Int) + (fb2.length : Int)) - (16 + (n2.length : Int) + (fb.length : Int)))))) := by
    have hM := hm4.out
    have hfl : (Dk.tick d).2.files = d.files := (Dk.tick_files d).1
    have hcp : (Dk.tick d).2.cap = d.cap := (Dk.tick_files d).2
    have hF2 := HF.out
    have hgood : Dk.Good { (Dk.tick d).2 with files := Dk.put (Dk.drop d.files n) ⟨n2, sf, fb⟩ } := by
      have h1 := Dk.raw_good 2 n n2 [] HM.out.good
      have hok : Dk.okay 2 n n2 [] = true := by
        have := HZ.out
        unfold ahead at this
        simp only [List.all_cons, List.all_nil, Bool.and_true] at this
        show (Dk.named n && Dk.named n2) = true
        cases hh : (Dk.named n && Dk.named n2) with
        | true => rfl
        | false => rw [hh] at this; simp at this
      have hU2 := HU.out
      have hp : Dk.planOf d.cap d.files 2 n n2 [] = .inr (Dk.put (Dk.drop d.files n) ⟨n2, sf, fb⟩) := by
        exact Dk.rename_room HX.out (by rw [Dk.wants_over HX2.out HNE.out]; omega)
      rw [Dk.raw_do hok HD.out hp, Dk.write_go HT.out] at h1
      exact h1
    have hblk : ∀ g, g ≠ b → (w6.setCell ⟨b, 1, none⟩ (.int .i64 (F + (16 + (n.length : Int) + (fb.length : Int)) + (16 + (n2.length : Int) + (fb2.length : Int)) - (16 + (n2.length : Int) + (fb.length : Int))))).heap[g]? = w6.heap[g]? := fun g hg => Below.heap_setCell w6 ⟨b, 1, none⟩ _ g hg
    have hto : ∀ g, S g → g ≠ m → (w6.setCell ⟨b, 1, none⟩ (.int .i64 (F + (16 + (n.length : Int) + (fb.length : Int)) + (16 + (n2.length : Int) + (fb2.length : Int)) - (16 + (n2.length : Int) + (fb.length : Int))))).heap[g]? = w3.heap[g]? := fun g hs hm => (hblk g (fun e => hM.out (by rw [← e]; exact hs))).trans ((hg8.out.block g (Nat.lt_of_lt_of_le (hM.lt g hs) hg6.out.size) (fun e => hm (Option.some.inj e))).trans (hg6.out.block g (hM.lt g hs) (fun e => hm (Option.some.inj e))))
    have ent := HM.out.foot.arrs _ HIN.out
    have hmv := hM.moved (n := n) (n2 := n2) (v := filev (sf : Int) (.slice ao fb.length c)) (f := ⟨n2, sf, fb⟩) (fs := Dk.put (Dk.drop d.files n) ⟨n2, sf, fb⟩) (w' := (w6.setCell ⟨b, 1, none⟩ (.int .i64 (F + (16 + (n.length : Int) + (fb.length : Int)) + (16 + (n2.length : Int) + (fb2.length : Int)) - (16 + (n2.length : Int) + (fb.length : Int)))))) (hmap8.out.same (hblk m (fun e => hbm e.symm)))
      ⟨_, rfl, own_block ho3.out (fun g hg => hto g (ent g hg).1 (ent g hg).2)⟩ rfl (by rw [hfl])
      (fun x hx _ _ g hg => hto g (hM.foot.arrs x hx g hg).1 (hM.foot.arrs x hx g hg).2)
      (by
        have e1 : ((Dk.tick d).2.cap : Int) - (Dk.used (Dk.put (Dk.drop d.files n) ⟨n2, sf, fb⟩) : Int) = F + (16 + (n.length : Int) + (fb.length : Int)) + (16 + (n2.length : Int) + (fb2.length : Int)) - (16 + (n2.length : Int) + (fb.length : Int)) := by
          rw [hcp]
          have u1 := Dk.used_drop HM.out.good.rising HX.out
          have u2 := Dk.used_put_old (l := Dk.drop d.files n) (f := ⟨n2, sf, fb⟩) (g := ⟨nm2, sf2, fb2⟩) (Dk.drop_rising _ HM.out.good.rising) (by rw [show (⟨n2, sf, fb⟩ : File).name = n2 from rfl, Dk.look_drop (fun e => HNE.out e.symm)]; exact HX2.out)
          have u3 : nm = n := (Dk.look_some HX.out).2
          have u4 : nm2 = n2 := (Dk.look_some HX2.out).2
          subst u3 u4
          simp only [Dk.cost] at u1 u2
          omega
        rw [e1]
        exact HB6.out.set1 _)
      (fun g hg => ⟨(ent g hg).1, (ent g hg).2, fun y hy hne _ e => HM.out.foot.apart _ HIN.out y hy (fun e => hne e.symm) g hg e⟩)
      (by show w3.heap.size ≤ (w6.setCell _ _).heap.size; simp only [World.setCell, Array.size_modify]; exact Nat.le_trans hg6.out.size hg8.out.size) hgood
    refine ⟨rfl, MemAt.grow HM.out.box.lt HM.out.out hmv.lt hmv hk4.out ?_⟩
    exact ((((Kept.refl _ _).grown hg6.out (fun k e => .inl (.inl (by cases e; exact hM.foot.mine)))).grown hg8.out (fun k e => .inl (.inl (by cases e; exact hM.foot.mine)))).setCell (p := ⟨b, 1, none⟩) (.inl (.inr rfl)) _)
  clear hmap7 hg7
  go_wp2_with fail
  go_region
  all_goals go_wp2_with fail
  refine (cost_any n2 ao fb.length c _ (by omega) (by omega)).mono ?_
  rintro e w9 ⟨rfl, rfl⟩
  all_goals go_wp2
  all_goals go_ret
  all_goals (first | exact fin.out | exact fin.out.drew)
end Go.Proofs.YthnebhddakfadaaGreatDoor
namespace Go.Proofs.YthnebhddakfadaaGreatDoor
open Go.RowKit
open Dk (File Disk)

set_option maxHeartbeats 1000000 in
set_option maxRecDepth 100000 in
theorem rename_new_go (S : Nat → Prop) (b : Nat) (d : Disk) (n n2 nm : List UInt8) (sf : Nat) (fb : List UInt8) (w : World) (h : Mem S w b d) (hn : n.length ≤ 100) (hn2 : n2.length ≤ 100) (hz : ahead d.dark [n, n2] = 0) (hd : d.dark = false) (ho0 : d.done ≤ 4611686018427387904) (hx : Dk.look d.files n = some ⟨nm, sf, fb⟩) (hne : ¬ n2 = n) (hx2 : Dk.look d.files n2 = none) (hroom : ¬ ((d.cap : Int) - (Dk.used d.files : Int)) + (16 + (n.length : Int) + (fb.length : Int)) < (16 + (n2.length : Int) + (fb.length : Int))) (ht : (Dk.tick d).1 = true) :
    Calls Tryz.prog 57 #[.pointer (some ⟨b, 0, none⟩), .string ⟨n.toArray⟩, .string ⟨n2.toArray⟩] w fun e w' => RawPost S w b (0, { (Dk.tick d).2 with files := Dk.put (Dk.drop d.files n) ⟨n2, sf, fb⟩ }) e w' := by
  obtain ⟨m, l, left, h⟩ := h
  have HM := keep h
  clear h
  have HZ := keep hz
  have HX := keep hx
  clear hz hx
  have HD := keep hd
  have HT := keep ht
  clear hd ht
  have HX2 := keep hx2
  clear hx2
  have hfbl : ∀ {nm : List UInt8} {sf : Nat} {fb : List UInt8} {n : List UInt8}, Dk.look d.files n = some ⟨nm, sf, fb⟩ → fb.length ≤ 1099511627776 := fun {nm sf fb n} hx => by
    have h1 := used_mem (Dk.look_some hx).1
    have h2 := HM.out.good.room
    have h3 := HM.out.capb
    simp only [Dk.cost] at h1
    omega
  have l1 := hfbl HX.out
  clear hfbl
  obtain ⟨F, hF, F0, F1⟩ : ∃ F : Int, (d.cap : Int) - (Dk.used d.files : Int) = F ∧ 0 ≤ F ∧ F ≤ 1099511627776 := ⟨_, rfl, by have := HM.out.good.room; omega, by have := HM.out.capb; omega⟩
  have HF := keep hF
  rw [hF] at hroom
  have HU := keep hroom
  clear hroom
  clear hF
  have HNE := keep hne
  clear hne
  go_enter Tryz.func57, Tryz.ntmps57
  go_wp2_with fail
  have hm1 := HM.out.below ((Below.refl _ w).alloc (Nat.le_refl _) (.cells #[.string ⟨n.toArray⟩, .string ⟨n2.toArray⟩] 9))
  refine (ready_box b m _ left d.dark _ _ 2 2 [n, n2] _ hm1.box (two_names w n n2 9) (by omega)).mono ?_
  rintro e w2 ⟨rfl, hb2⟩
  have hb3 := keep (((Below.refl _ w).alloc (Nat.le_refl _) (.cells #[.string ⟨n.toArray⟩, .string ⟨n2.toArray⟩] 9)).trans (hb2.mono (by simp)))
  clear hb2 hm1
  rw [HZ.out]
  have hm2 := HM.out.below hb3.out
  have c02 := hm2.box.c0
  obtain ⟨ao, c, hl, ho, hs, hin⟩ := look_there hm2.map hm2.rel (by unfold maxLen; omega) HX.out
  have HL := keep hl
  have HO := keep ho
  have HIN := keep hin
  have HM2 := keep hm2
  clear hl ho hs hin
  have bA : Below w2.heap.size w2 (w2.alloc (.cells #[.int .i64 (sf : Int), .slice ao fb.length c] 95)) := (Below.refl _ _).alloc (Nat.le_refl _) _
  obtain ⟨wA, hwA⟩ : ∃ wA, w2.alloc (.cells #[.int .i64 (sf : Int), .slice ao fb.length c] 95) = wA := ⟨_, rfl⟩
  have kf1 : wA.cell? ⟨w2.heap.size, 1, none⟩ = some (.slice ao fb.length c) := by rw [← hwA]; exact cell_of_row _ _ _ _ _ _ (heap_alloc_new w2 _)
  have kf0 : wA.cell? ⟨w2.heap.size, 0, none⟩ = some (.int .i64 (sf : Int)) := by rw [← hwA]; exact cell_of_row _ _ _ _ _ _ (heap_alloc_new w2 _)
  rw [hwA] at bA
  have HBA := keep bA
  have cA1 := (hm2.below bA).box.c1
  rw [HF.out] at cA1
  have cA0 := (hm2.below bA).box.c0
  clear bA hm2
  go_wp2_with (first | (at_lookup; refine wpList_look rfl _ _ _ _ rfl _ _ _ rfl rfl HL.out ?_) | fail)
  clear hwA
  go_quiet (first | (go_at_call 70; refine Calls.quiet_of_same (cost_any n ao fb.length c _ (by omega) (by omega))))
  obtain ⟨wB, hwB⟩ : ∃ ws, ws = wA.drewN nq := ⟨_, rfl⟩
  rw [← hwB]
  have bB := keep (show Below w2.heap.size w2 wB by rw [hwB]; exact HBA.out.trans (below_drewN _ _ _))
  have eB : Below wA.heap.size wA wB := by rw [hwB]; exact below_drewN _ _ _
  have kB1 := below_cell eB kf1
  have kB0 := below_cell eB kf0
  have cB0 := below_cell eB cA0
  have cB1 := below_cell eB cA1
  have sB : w2.heap.size < wB.heap.size := World.block_lt_of_cell? wB _ kB1
  have mB := HM2.out.below bB.out
  have HL2 := keep (look_absent mB.map mB.rel (by unfold maxLen; omega) HX2.out)
  clear kf0 kf1 cA0 cA1 hwB eB mB c02
  have bC : Below wB.heap.size wB (wB.alloc (.cells #[.int .i64 0, .slice none 0 0] 95)) := (Below.refl _ _).alloc (Nat.le_refl _) _
  obtain ⟨wC, hwC⟩ : ∃ wC, wB.alloc (.cells #[.int .i64 0, .slice none 0 0] 95) = wC := ⟨_, rfl⟩
  have kO : ∀ o : Obj, (wB.alloc o).cell? ⟨w2.heap.size, 1, none⟩ = some (.slice ao fb.length c) := fun o => below_cell ((Below.refl _ _).alloc (Nat.le_refl _) o) kB1
  rw [hwC] at bC
  have HBC := keep (show Below w2.heap.size w2 wC from bB.out.trans (bC.mono bB.out.size))
  have kC1 := below_cell bC kB1
  have kC0 := below_cell bC kB0
  have cC0 := below_cell bC cB0
  have cC1 := below_cell bC cB1
  have hsn : (n2 == n) = false := by simpa using HNE.out
  clear bC kB0 kB1
  have HWC := keep hwC
  clear hwC
  go_wp2_with (first | (at_lookup; refine wpList_look rfl _ _ _ _ rfl _ _ _ rfl rfl HL2.out ?_) | fail)
  rw [HWC.out]
  clear kO HWC
  refine (cost_any n2 ao fb.length c _ (by omega) (by omega)).mono ?_
  rintro e w9 ⟨rfl, rfl⟩
  have hcmp := HU.out
  go_wp2_with fail
  clear hcmp
  refine (count_mem S b m l left d _ (HM2.out.below HBC.out) HD.out ho0).mono ?_
  rintro e w3 ⟨left', rfl, hm3, hk3⟩
  rw [HT.out]
  have hk4 := keep ((Kept.of_below (U := Go.Proofs.YthnebhddakfadaaGreatDoor.mine S b) (hb3.out.trans (HBC.out.mono hb3.out.size))).trans (hk3.wide (fun g _ e => .inr e)))
  have hm4 := keep hm3
  have hw2 : b < w2.heap.size := Nat.lt_of_lt_of_le HM.out.box.lt hb3.out.size
  have k0 : w3.cell? ⟨w2.heap.size, 0, none⟩ = some (.int .i64 (sf : Int)) := by
    rw [hk3.cell (p := ⟨w2.heap.size, 0, none⟩) (World.block_lt_of_cell? _ _ kC0) (fun e => by have : w2.heap.size = b := e; omega)]; exact kC0
  have k1 : w3.cell? ⟨w2.heap.size, 1, none⟩ = some (.slice ao fb.length c) := by
    rw [hk3.cell (p := ⟨w2.heap.size, 1, none⟩) (World.block_lt_of_cell? _ _ kC1) (fun e => by have : w2.heap.size = b := e; omega)]; exact kC1
  have c03 := hm3.box.c0
  have hfew := keep hm3.few
  have ho3 : Hid (w3.ownsRow 0 5 1 (.slice ao fb.length c) fb.length (bv fb)) := own_block HO.out (fun g hg => by
    have hS := (HM.out.foot.arrs _ HIN.out g hg).1
    have hlt := (HM2.out.lt g hS)
    rw [hk3.block g (Nat.lt_of_lt_of_le hlt HBC.out.size) (fun e => HM.out.out (by rw [← (show g = b from e)]; exact hS)), HBC.out.block g hlt])
  clear hm3 hk3 kC0 kC1 cC0 cC1 cB0 cB1
  go_wp2_with (at_delete; refine wpList_strike rfl _ _ _ _ rfl 95 Tryz.underlying9 Tryz.underlying85 m l n rfl rfl hm4.out.map (by unfold maxLen; omega) ?_; intro w5 hmap5 hg5; have hmap6 := keep hmap5; have hg6 := keep hg5; clear hmap5 hg5)
  have hbm : ¬ b = m := fun e => hm4.out.out (by rw [e]; exact hm4.out.foot.mine)
  have hbox5 := hm4.out.box.same (w' := w5) (hg6.out.block b hm4.out.box.lt (fun e => hbm (Option.some.inj e)))
  have hne5 : some w2.heap.size ≠ some m := fun e => by
    have h1 := HM2.out.lt m HM2.out.foot.mine
    have := Option.some.inj e
    omega
  have k05 := hg6.out.cell k0 hne5
  have k15 := hg6.out.cell k1 hne5
  have c05 := hbox5.c0
  have hfew5 : Hid ((strike l n).length < maxLen) := by
    have h1 := hfew.out.1
    have h2 : ∀ (l : List Named), (strike l n).length ≤ l.length := fun l => by
      induction l with
      | nil => exact Nat.le_refl _
      | cons x t ih => simp only [strike]; split <;> simp <;> omega
    exact Nat.lt_of_le_of_lt (h2 l) h1
  have HB5 := keep hbox5
  clear k0 k1 c03 hbox5
  obtain ⟨w6, hrun6, hmap7, hg7⟩ := (hmap6.out.same (w' := w5.drew) rfl).store Tryz.underlying9 Tryz.underlying85 n2 (by unfold maxLen; omega) hfew5.out (.agg #[.int .i64 (sf : Int), .slice ao fb.length c])
  have hmap8 := keep hmap7
  have hg8 : Hid (w5.grownBy w6 (some m)) := ⟨hg7.os, hg7.tape, hg7.output, hg7.size, hg7.block⟩
  have HB6 := keep (HB5.out.same (w' := w6) (hg8.out.block b HB5.out.lt (fun e => hbm (Option.some.inj e))))
  have k16 := hg8.out.cell k15 hne5
  have c16 := HB6.out.c1
  have f6 := HB6.out.warm
  have hwr : IntKind.i64.wrap (F + (16 + (n.length : Int) + (fb.length : Int)) - (16 + (n2.length : Int) + (fb.length : Int))) = F + (16 + (n.length : Int) + (fb.length : Int)) - (16 + (n2.length : Int) + (fb.length : Int)) := wrap_small _ (by omega) (by omega)
  have fin : Hid (RawPost S w b (0, { (Dk.tick d).2 with files := Dk.put (Dk.drop d.files n) ⟨n2, sf, fb⟩ }) (.returned (.int .i64 0)) (w6.setCell ⟨b, 1, none⟩ (.int .i64 (F + (16 + (n.length : Int) + (fb.length : Int)) - (16 + (n2.length : Int) + (fb.length : Int)))))) := by
    have hM := hm4.out
    have hfl : (Dk.tick d).2.files = d.files := (Dk.tick_files d).1
    have hcp : (Dk.tick d).2.cap = d.cap := (Dk.tick_files d).2
    have hF2 := HF.out
    have hgood : Dk.Good { (Dk.tick d).2 with files := Dk.put (Dk.drop d.files n) ⟨n2, sf, fb⟩ } := by
      have h1 := Dk.raw_good 2 n n2 [] HM.out.good
      have hok : Dk.okay 2 n n2 [] = true := by
        have := HZ.out
        unfold ahead at this
        simp only [List.all_cons, List.all_nil, Bool.and_true] at this
        show (Dk.named n && Dk.named n2) = true
        cases hh : (Dk.named n && Dk.named n2) with
        | true => rfl
        | false => rw [hh] at this; simp at this
      have hU2 := HU.out
      have hp : Dk.planOf d.cap d.files 2 n n2 [] = .inr (Dk.put (Dk.drop d.files n) ⟨n2, sf, fb⟩) := by
        exact Dk.rename_room HX.out (by rw [Dk.wants_new HX2.out]; omega)
      rw [Dk.raw_do hok HD.out hp, Dk.write_go HT.out] at h1
      exact h1
    have hblk : ∀ g, g ≠ b → (w6.setCell ⟨b, 1, none⟩ (.int .i64 (F + (16 + (n.length : Int) + (fb.length : Int)) - (16 + (n2.length : Int) + (fb.length : Int))))).heap[g]? = w6.heap[g]? := fun g hg => Below.heap_setCell w6 ⟨b, 1, none⟩ _ g hg
    have hto : ∀ g, S g → g ≠ m → (w6.setCell ⟨b, 1, none⟩ (.int .i64 (F + (16 + (n.length : Int) + (fb.length : Int)) - (16 + (n2.length : Int) + (fb.length : Int))))).heap[g]? = w3.heap[g]? := fun g hs hm => (hblk g (fun e => hM.out (by rw [← e]; exact hs))).trans ((hg8.out.block g (Nat.lt_of_lt_of_le (hM.lt g hs) hg6.out.size) (fun e => hm (Option.some.inj e))).trans (hg6.out.block g (hM.lt g hs) (fun e => hm (Option.some.inj e))))
    have ent := HM.out.foot.arrs _ HIN.out
    have hmv := hM.moved (n := n) (n2 := n2) (v := filev (sf : Int) (.slice ao fb.length c)) (f := ⟨n2, sf, fb⟩) (fs := Dk.put (Dk.drop d.files n) ⟨n2, sf, fb⟩) (w' := (w6.setCell ⟨b, 1, none⟩ (.int .i64 (F + (16 + (n.length : Int) + (fb.length : Int)) - (16 + (n2.length : Int) + (fb.length : Int)))))) (hmap8.out.same (hblk m (fun e => hbm e.symm)))
      ⟨_, rfl, own_block ho3.out (fun g hg => hto g (ent g hg).1 (ent g hg).2)⟩ rfl (by rw [hfl])
      (fun x hx _ _ g hg => hto g (hM.foot.arrs x hx g hg).1 (hM.foot.arrs x hx g hg).2)
      (by
        have e1 : ((Dk.tick d).2.cap : Int) - (Dk.used (Dk.put (Dk.drop d.files n) ⟨n2, sf, fb⟩) : Int) = F + (16 + (n.length : Int) + (fb.length : Int)) - (16 + (n2.length : Int) + (fb.length : Int)) := by
          rw [hcp]
          have u1 := Dk.used_drop HM.out.good.rising HX.out
          have u2 := Dk.used_put_new (l := Dk.drop d.files n) (f := ⟨n2, sf, fb⟩) (by rw [show (⟨n2, sf, fb⟩ : File).name = n2 from rfl, Dk.look_drop (fun e => HNE.out e.symm)]; exact HX2.out)
          have u3 : nm = n := (Dk.look_some HX.out).2
          subst u3
          simp only [Dk.cost] at u1 u2
          omega
        rw [e1]
        exact HB6.out.set1 _)
      (fun g hg => ⟨(ent g hg).1, (ent g hg).2, fun y hy hne _ e => HM.out.foot.apart _ HIN.out y hy (fun e => hne e.symm) g hg e⟩)
      (by show w3.heap.size ≤ (w6.setCell _ _).heap.size; simp only [World.setCell, Array.size_modify]; exact Nat.le_trans hg6.out.size hg8.out.size) hgood
    refine ⟨rfl, MemAt.grow HM.out.box.lt HM.out.out hmv.lt hmv hk4.out ?_⟩
    exact ((((Kept.refl _ _).grown hg6.out (fun k e => .inl (.inl (by cases e; exact hM.foot.mine)))).grown hg8.out (fun k e => .inl (.inl (by cases e; exact hM.foot.mine)))).setCell (p := ⟨b, 1, none⟩) (.inl (.inr rfl)) _)
  clear hmap7 hg7
  go_wp2_with fail
  go_region
  all_goals go_wp2_with fail
  refine (cost_any n2 ao fb.length c _ (by omega) (by omega)).mono ?_
  rintro e w9 ⟨rfl, rfl⟩
  all_goals go_wp2
  all_goals go_ret
  all_goals (first | exact fin.out | exact fin.out.drew)
set_option maxHeartbeats 1000000 in
set_option maxRecDepth 100000 in
theorem rename_same_go (S : Nat → Prop) (b : Nat) (d : Disk) (n nm : List UInt8) (sf : Nat) (fb : List UInt8) (w : World) (h : Mem S w b d) (hn : n.length ≤ 100) (hz : ahead d.dark [n, n] = 0) (hd : d.dark = false) (ho0 : d.done ≤ 4611686018427387904) (hx : Dk.look d.files n = some ⟨nm, sf, fb⟩) (ht : (Dk.tick d).1 = true) :
    Calls Tryz.prog 57 #[.pointer (some ⟨b, 0, none⟩), .string ⟨n.toArray⟩, .string ⟨n.toArray⟩] w fun e w' => RawPost S w b (0, { (Dk.tick d).2 with files := Dk.put (Dk.drop d.files n) ⟨n, sf, fb⟩ }) e w' := by
  obtain ⟨m, l, left, h⟩ := h
  have HM := keep h
  clear h
  have HZ := keep hz
  have HX := keep hx
  clear hz hx
  have HD := keep hd
  have HT := keep ht
  clear hd ht
  have hfbl : ∀ {nm : List UInt8} {sf : Nat} {fb : List UInt8} {n : List UInt8}, Dk.look d.files n = some ⟨nm, sf, fb⟩ → fb.length ≤ 1099511627776 := fun {nm sf fb n} hx => by
    have h1 := used_mem (Dk.look_some hx).1
    have h2 := HM.out.good.room
    have h3 := HM.out.capb
    simp only [Dk.cost] at h1
    omega
  have l1 := hfbl HX.out
  clear hfbl
  obtain ⟨F, hF, F0, F1⟩ : ∃ F : Int, (d.cap : Int) - (Dk.used d.files : Int) = F ∧ 0 ≤ F ∧ F ≤ 1099511627776 := ⟨_, rfl, by have := HM.out.good.room; omega, by have := HM.out.capb; omega⟩
  have HF := keep hF
  clear hF
  go_enter Tryz.func57, Tryz.ntmps57
  go_wp2_with fail
  have hm1 := HM.out.below ((Below.refl _ w).alloc (Nat.le_refl _) (.cells #[.string ⟨n.toArray⟩, .string ⟨n.toArray⟩] 9))
  refine (ready_box b m _ left d.dark _ _ 2 2 [n, n] _ hm1.box (two_names w n n 9) (by omega)).mono ?_
  rintro e w2 ⟨rfl, hb2⟩
  have hb3 := keep (((Below.refl _ w).alloc (Nat.le_refl _) (.cells #[.string ⟨n.toArray⟩, .string ⟨n.toArray⟩] 9)).trans (hb2.mono (by simp)))
  clear hb2 hm1
  rw [HZ.out]
  have hm2 := HM.out.below hb3.out
  have c02 := hm2.box.c0
  obtain ⟨ao, c, hl, ho, hs, hin⟩ := look_there hm2.map hm2.rel (by unfold maxLen; omega) HX.out
  have HL := keep hl
  have HO := keep ho
  have HIN := keep hin
  have HM2 := keep hm2
  clear hl ho hs hin
  have bA : Below w2.heap.size w2 (w2.alloc (.cells #[.int .i64 (sf : Int), .slice ao fb.length c] 95)) := (Below.refl _ _).alloc (Nat.le_refl _) _
  obtain ⟨wA, hwA⟩ : ∃ wA, w2.alloc (.cells #[.int .i64 (sf : Int), .slice ao fb.length c] 95) = wA := ⟨_, rfl⟩
  have kf1 : wA.cell? ⟨w2.heap.size, 1, none⟩ = some (.slice ao fb.length c) := by rw [← hwA]; exact cell_of_row _ _ _ _ _ _ (heap_alloc_new w2 _)
  have kf0 : wA.cell? ⟨w2.heap.size, 0, none⟩ = some (.int .i64 (sf : Int)) := by rw [← hwA]; exact cell_of_row _ _ _ _ _ _ (heap_alloc_new w2 _)
  rw [hwA] at bA
  have HBA := keep bA
  have cA1 := (hm2.below bA).box.c1
  rw [HF.out] at cA1
  have cA0 := (hm2.below bA).box.c0
  clear bA hm2
  go_wp2_with (first | (at_lookup; refine wpList_look rfl _ _ _ _ rfl _ _ _ rfl rfl HL.out ?_) | fail)
  clear hwA
  go_quiet (first | (go_at_call 70; refine Calls.quiet_of_same (cost_any n ao fb.length c _ (by omega) (by omega))))
  obtain ⟨wB, hwB⟩ : ∃ ws, ws = wA.drewN nq := ⟨_, rfl⟩
  rw [← hwB]
  have bB := keep (show Below w2.heap.size w2 wB by rw [hwB]; exact HBA.out.trans (below_drewN _ _ _))
  have eB : Below wA.heap.size wA wB := by rw [hwB]; exact below_drewN _ _ _
  have kB1 := below_cell eB kf1
  have kB0 := below_cell eB kf0
  have cB0 := below_cell eB cA0
  have cB1 := below_cell eB cA1
  have sB : w2.heap.size < wB.heap.size := World.block_lt_of_cell? wB _ kB1
  have mB := HM2.out.below bB.out
  obtain ⟨ao2, c2, hl2, ho2, hs2, hin2⟩ := look_there mB.map mB.rel (by unfold maxLen; omega) HX.out
  have HL2 := keep hl2
  clear hl2 ho2 hs2 hin2
  clear kf0 kf1 cA0 cA1 hwB eB mB c02
  have bC : Below wB.heap.size wB (wB.alloc (.cells #[.int .i64 (sf : Int), .slice ao2 fb.length c2] 95)) := (Below.refl _ _).alloc (Nat.le_refl _) _
  obtain ⟨wC, hwC⟩ : ∃ wC, wB.alloc (.cells #[.int .i64 (sf : Int), .slice ao2 fb.length c2] 95) = wC := ⟨_, rfl⟩
  rw [hwC] at bC
  have HBC := keep (show Below w2.heap.size w2 wC from bB.out.trans (bC.mono bB.out.size))
  have kC1 := below_cell bC kB1
  have kC0 := below_cell bC kB0
  have cC0 := below_cell bC cB0
  have cC1 := below_cell bC cB1
  clear bC kB0 kB1
  go_wp2_with (first | (at_lookup; refine wpList_look rfl _ _ _ _ rfl _ _ _ rfl rfl HL2.out ?_) | fail)
  clear hwC
  refine (cost_any n ao fb.length c _ (by omega) (by omega)).mono ?_
  rintro e w9 ⟨rfl, rfl⟩
  have hcmp : ¬ F + (16 + (n.length : Int) + (fb.length : Int)) < (16 + (n.length : Int) + (fb.length : Int)) := by omega
  go_wp2_with fail
  clear hcmp
  refine (count_mem S b m l left d _ (HM2.out.below HBC.out) HD.out ho0).mono ?_
  rintro e w3 ⟨left', rfl, hm3, hk3⟩
  rw [HT.out]
  have hk4 := keep ((Kept.of_below (U := Go.Proofs.YthnebhddakfadaaGreatDoor.mine S b) (hb3.out.trans (HBC.out.mono hb3.out.size))).trans (hk3.wide (fun g _ e => .inr e)))
  have hm4 := keep hm3
  have hw2 : b < w2.heap.size := Nat.lt_of_lt_of_le HM.out.box.lt hb3.out.size
  have k0 : w3.cell? ⟨w2.heap.size, 0, none⟩ = some (.int .i64 (sf : Int)) := by
    rw [hk3.cell (p := ⟨w2.heap.size, 0, none⟩) (World.block_lt_of_cell? _ _ kC0) (fun e => by have : w2.heap.size = b := e; omega)]; exact kC0
  have k1 : w3.cell? ⟨w2.heap.size, 1, none⟩ = some (.slice ao fb.length c) := by
    rw [hk3.cell (p := ⟨w2.heap.size, 1, none⟩) (World.block_lt_of_cell? _ _ kC1) (fun e => by have : w2.heap.size = b := e; omega)]; exact kC1
  have c03 := hm3.box.c0
  have hfew := keep hm3.few
  have ho3 : Hid (w3.ownsRow 0 5 1 (.slice ao fb.length c) fb.length (bv fb)) := own_block HO.out (fun g hg => by
    have hS := (HM.out.foot.arrs _ HIN.out g hg).1
    have hlt := (HM2.out.lt g hS)
    rw [hk3.block g (Nat.lt_of_lt_of_le hlt HBC.out.size) (fun e => HM.out.out (by rw [← (show g = b from e)]; exact hS)), HBC.out.block g hlt])
  clear hm3 hk3 kC0 kC1 cC0 cC1 cB0 cB1
  go_wp2_with (at_delete; refine wpList_strike rfl _ _ _ _ rfl 95 Tryz.underlying9 Tryz.underlying85 m l n rfl rfl hm4.out.map (by unfold maxLen; omega) ?_; intro w5 hmap5 hg5; have hmap6 := keep hmap5; have hg6 := keep hg5; clear hmap5 hg5)
  have hbm : ¬ b = m := fun e => hm4.out.out (by rw [e]; exact hm4.out.foot.mine)
  have hbox5 := hm4.out.box.same (w' := w5) (hg6.out.block b hm4.out.box.lt (fun e => hbm (Option.some.inj e)))
  have hne5 : some w2.heap.size ≠ some m := fun e => by
    have h1 := HM2.out.lt m HM2.out.foot.mine
    have := Option.some.inj e
    omega
  have k05 := hg6.out.cell k0 hne5
  have k15 := hg6.out.cell k1 hne5
  have c05 := hbox5.c0
  have hfew5 : Hid ((strike l n).length < maxLen) := by
    have h1 := hfew.out.1
    have h2 : ∀ (l : List Named), (strike l n).length ≤ l.length := fun l => by
      induction l with
      | nil => exact Nat.le_refl _
      | cons x t ih => simp only [strike]; split <;> simp <;> omega
    exact Nat.lt_of_le_of_lt (h2 l) h1
  have HB5 := keep hbox5
  clear k0 k1 c03 hbox5
  obtain ⟨w6, hrun6, hmap7, hg7⟩ := (hmap6.out.same (w' := w5.drew) rfl).store Tryz.underlying9 Tryz.underlying85 n (by unfold maxLen; omega) hfew5.out (.agg #[.int .i64 (sf : Int), .slice ao fb.length c])
  have hmap8 := keep hmap7
  have hg8 : Hid (w5.grownBy w6 (some m)) := ⟨hg7.os, hg7.tape, hg7.output, hg7.size, hg7.block⟩
  have HB6 := keep (HB5.out.same (w' := w6) (hg8.out.block b HB5.out.lt (fun e => hbm (Option.some.inj e))))
  have k16 := hg8.out.cell k15 hne5
  have c16 := HB6.out.c1
  have f6 := HB6.out.warm
  have hwr : IntKind.i64.wrap (F + (16 + (n.length : Int) + (fb.length : Int)) - (16 + (n.length : Int) + (fb.length : Int))) = F + (16 + (n.length : Int) + (fb.length : Int)) - (16 + (n.length : Int) + (fb.length : Int)) := wrap_small _ (by omega) (by omega)
  have fin : Hid (RawPost S w b (0, { (Dk.tick d).2 with files := Dk.put (Dk.drop d.files n) ⟨n, sf, fb⟩ }) (.returned (.int .i64 0)) (w6.setCell ⟨b, 1, none⟩ (.int .i64 (F)))) := by
    have hM := hm4.out
    have hfl : (Dk.tick d).2.files = d.files := (Dk.tick_files d).1
    have hcp : (Dk.tick d).2.cap = d.cap := (Dk.tick_files d).2
    have hF2 := HF.out
    have hgood : Dk.Good { (Dk.tick d).2 with files := Dk.put (Dk.drop d.files n) ⟨n, sf, fb⟩ } := by
      have h1 := Dk.raw_good 2 n n [] HM.out.good
      have hok : Dk.okay 2 n n [] = true := by
        have := HZ.out
        unfold ahead at this
        simp only [List.all_cons, List.all_nil, Bool.and_true] at this
        show (Dk.named n && Dk.named n) = true
        cases hh : (Dk.named n && Dk.named n) with
        | true => rfl
        | false => rw [hh] at this; simp at this
      have hp : Dk.planOf d.cap d.files 2 n n [] = .inr (Dk.put (Dk.drop d.files n) ⟨n, sf, fb⟩) := by
        exact Dk.rename_room HX.out (by rw [Dk.wants_same]; omega)
      rw [Dk.raw_do hok HD.out hp, Dk.write_go HT.out] at h1
      exact h1
    have hblk : ∀ g, g ≠ b → (w6.setCell ⟨b, 1, none⟩ (.int .i64 (F))).heap[g]? = w6.heap[g]? := fun g hg => Below.heap_setCell w6 ⟨b, 1, none⟩ _ g hg
    have hto : ∀ g, S g → g ≠ m → (w6.setCell ⟨b, 1, none⟩ (.int .i64 (F))).heap[g]? = w3.heap[g]? := fun g hs hm => (hblk g (fun e => hM.out (by rw [← e]; exact hs))).trans ((hg8.out.block g (Nat.lt_of_lt_of_le (hM.lt g hs) hg6.out.size) (fun e => hm (Option.some.inj e))).trans (hg6.out.block g (hM.lt g hs) (fun e => hm (Option.some.inj e))))
    have ent := HM.out.foot.arrs _ HIN.out
    have hmv := hM.moved (n := n) (n2 := n) (v := filev (sf : Int) (.slice ao fb.length c)) (f := ⟨n, sf, fb⟩) (fs := Dk.put (Dk.drop d.files n) ⟨n, sf, fb⟩) (w' := (w6.setCell ⟨b, 1, none⟩ (.int .i64 (F)))) (hmap8.out.same (hblk m (fun e => hbm e.symm)))
      ⟨_, rfl, own_block ho3.out (fun g hg => hto g (ent g hg).1 (ent g hg).2)⟩ rfl (by rw [hfl])
      (fun x hx _ _ g hg => hto g (hM.foot.arrs x hx g hg).1 (hM.foot.arrs x hx g hg).2)
      (by
        have e1 : ((Dk.tick d).2.cap : Int) - (Dk.used (Dk.put (Dk.drop d.files n) ⟨n, sf, fb⟩) : Int) = F := by
          rw [hcp]
          have u1 := Dk.used_drop HM.out.good.rising HX.out
          have u2 := Dk.used_put_new (l := Dk.drop d.files n) (f := ⟨n, sf, fb⟩) (Dk.look_dropped _ _)
          have u3 : nm = n := (Dk.look_some HX.out).2
          subst u3
          simp only [Dk.cost] at u1 u2
          omega
        rw [e1]
        exact HB6.out.set1 _)
      (fun g hg => ⟨(ent g hg).1, (ent g hg).2, fun y hy hne _ e => HM.out.foot.apart _ HIN.out y hy (fun e => hne e.symm) g hg e⟩)
      (by show w3.heap.size ≤ (w6.setCell _ _).heap.size; simp only [World.setCell, Array.size_modify]; exact Nat.le_trans hg6.out.size hg8.out.size) hgood
    refine ⟨rfl, MemAt.grow HM.out.box.lt HM.out.out hmv.lt hmv hk4.out ?_⟩
    exact ((((Kept.refl _ _).grown hg6.out (fun k e => .inl (.inl (by cases e; exact hM.foot.mine)))).grown hg8.out (fun k e => .inl (.inl (by cases e; exact hM.foot.mine)))).setCell (p := ⟨b, 1, none⟩) (.inl (.inr rfl)) _)
  clear hmap7 hg7
  go_wp2_with fail
  go_region
  all_goals go_wp2_with fail
  refine (cost_any n ao fb.length c _ (by omega) (by omega)).mono ?_
  rintro e w9 ⟨rfl, rfl⟩
  all_goals go_wp2
  all_goals go_ret
  all_goals (first | exact fin.out | exact fin.out.drew)
end Go.Proofs.YthnebhddakfadaaGreatDoor
namespace Go.Proofs.YthnebhddakfadaaGreatDoor
open Go.RowKit
open Dk (File Disk)

theorem ahead2_arg {off : Bool} {n n2 : List UInt8} (h : (Dk.named n && Dk.named n2) = false) : ahead off [n, n2] = 1 := by
  unfold ahead
  simp only [List.all_cons, List.all_nil, Bool.and_true]
  rw [h]; rfl
theorem ahead2_ok {off : Bool} {n n2 : List UInt8} (h : (Dk.named n && Dk.named n2) = true) : ahead off [n, n2] = if off then 5 else 0 := by
  unfold ahead
  simp only [List.all_cons, List.all_nil, Bool.and_true]
  rw [h]; rfl
theorem rename_raw (S : Nat → Prop) (b : Nat) (d : Disk) (n n2 : List UInt8) (w : World) (h : Mem S w b d) (ho : d.done ≤ 4611686018427387904) (y : List UInt8) :
    Calls Tryz.prog 57 #[.pointer (some ⟨b, 0, none⟩), .string ⟨n.toArray⟩, .string ⟨n2.toArray⟩] w fun e w' => RawPost S w b (Dk.raw d 2 n n2 y) e w' := by
  have stay : ∀ w', Below w.heap.size w w' → Mem (more S w w') w' b d ∧ Kept (Go.Proofs.YthnebhddakfadaaGreatDoor.mine S b) w w' := fun w' hb => by
    obtain ⟨m, l, left, h⟩ := h
    exact h.stay hb
  cases hna : (Dk.named n && Dk.named n2) with
  | false =>
    rw [Dk.raw_arg (by exact hna)]
    refine (rename_ahead S b d n n2 w h 1 (ahead2_arg hna) rfl).mono ?_
    rintro e w' ⟨rfl, hb⟩
    exact ⟨rfl, stay w' hb⟩
  | true =>
    have hok : Dk.okay 2 n n2 y = true := hna
    have h1 : Dk.named n = true := by cases hh : Dk.named n with | true => rfl | false => rw [hh] at hna; cases hna
    have h2 : Dk.named n2 = true := by rw [h1] at hna; exact hna
    have l1 := (named_true h1).2.1
    have l2 := (named_true h2).2.1
    cases hd : d.dark with
    | true =>
      rw [Dk.raw_dark hok hd]
      refine (rename_ahead S b d n n2 w h 5 (by rw [hd]; exact ahead2_ok hna) rfl).mono ?_
      rintro e w' ⟨rfl, hb⟩
      exact ⟨rfl, stay w' hb⟩
    | false =>
      have hz : ahead d.dark [n, n2] = 0 := by rw [hd]; exact ahead2_ok hna
      cases hx : Dk.look d.files n with
      | none =>
        rw [Dk.raw_own (e := 3) hok hd (by simp only [Dk.planOf, Dk.planRename, hx])]
        refine (rename_none S b d n n2 w h (by unfold maxLen; omega) hz hx).mono ?_
        rintro e w' ⟨rfl, hb⟩
        exact ⟨rfl, stay w' hb⟩
      | some f =>
        obtain ⟨nm, sf, fb⟩ := f
        by_cases hne : n2 = n
        · subst hne
          have hgr := h.good.room
          rw [Dk.raw_do hok hd (Dk.rename_room hx (by rw [Dk.wants_same]; omega))]
          cases ht : (Dk.tick d).1 with
          | false => rw [Dk.write_cut ht]; exact rename_same_cut S b d n2 nm sf fb w h l1 hz hd ho hx ht
          | true => rw [Dk.write_go ht]; exact rename_same_go S b d n2 nm sf fb w h l1 hz hd ho hx ht
        · cases hx2 : Dk.look d.files n2 with
          | none =>
            by_cases hf : ((d.cap : Int) - (Dk.used d.files : Int)) + (16 + (n.length : Int) + (fb.length : Int)) < (16 + (n2.length : Int) + (fb.length : Int))
            · rw [Dk.raw_own hok hd (Dk.rename_full hx (by rw [Dk.wants_new hx2]; omega))]
              refine (rename_new_full S b d n n2 nm sf fb w h l1 l2 hz hx hne hx2 hf).mono ?_
              rintro e w' ⟨rfl, hb⟩
              exact ⟨rfl, stay w' hb⟩
            · rw [Dk.raw_do hok hd (Dk.rename_room hx (by rw [Dk.wants_new hx2]; omega))]
              cases ht : (Dk.tick d).1 with
              | false => rw [Dk.write_cut ht]; exact rename_new_cut S b d n n2 nm sf fb w h l1 l2 hz hd ho hx hne hx2 hf ht
              | true => rw [Dk.write_go ht]; exact rename_new_go S b d n n2 nm sf fb w h l1 l2 hz hd ho hx hne hx2 hf ht
          | some g =>
            obtain ⟨nm2, sf2, fb2⟩ := g
            by_cases hf : ((d.cap : Int) - (Dk.used d.files : Int)) + (16 + (n.length : Int) + (fb.length : Int)) + (16 + (n2.length : Int) + (fb2.length : Int)) < (16 + (n2.length : Int) + (fb.length : Int))
            · rw [Dk.raw_own hok hd (Dk.rename_full hx (by rw [Dk.wants_over hx2 hne]; omega))]
              refine (rename_over_full S b d n n2 nm sf fb nm2 sf2 fb2 w h l1 l2 hz hx hne hx2 hf).mono ?_
              rintro e w' ⟨rfl, hb⟩
              exact ⟨rfl, stay w' hb⟩
            · rw [Dk.raw_do hok hd (Dk.rename_room hx (by rw [Dk.wants_over hx2 hne]; omega))]
              cases ht : (Dk.tick d).1 with
              | false => rw [Dk.write_cut ht]; exact rename_over_cut S b d n n2 nm sf fb nm2 sf2 fb2 w h l1 l2 hz hd ho hx hne hx2 hf ht
              | true => rw [Dk.write_go ht]; exact rename_over_go S b d n n2 nm sf fb nm2 sf2 fb2 w h l1 l2 hz hd ho hx hne hx2 hf ht
end Go.Proofs.YthnebhddakfadaaGreatDoor
