/- The walk of disk's Rename: no room, or the cut. -/
import Derived.Test.YtipkacaekbckhaaE0
import Derived.Deep.QuietTactic
import Derived.BigQuiet
namespace Go.Proofs.Ytipkacaekbckhaa
open Go.RowKit
open Dk (File Disk)

set_option maxHeartbeats 1000000 in
set_option maxRecDepth 100000 in
theorem rename_over_full (S : Nat → Prop) (b : Nat) (d : Disk) (n n2 nm : List UInt8) (sf : Nat) (fb : List UInt8) (nm2 : List UInt8) (sf2 : Nat) (fb2 : List UInt8) (w : World) (h : Mem S w b d) (hn : n.length ≤ 100) (hn2 : n2.length ≤ 100) (hz : ahead d.dark [n, n2] = 0) (hx : Dk.look d.files n = some ⟨nm, sf, fb⟩) (hne : ¬ n2 = n) (hx2 : Dk.look d.files n2 = some ⟨nm2, sf2, fb2⟩) (hfull : ((d.cap : Int) - (Dk.used d.files : Int)) + (16 + (n.length : Int) + (fb.length : Int)) + (16 + (n2.length : Int) + (fb2.length : Int)) < (16 + (n2.length : Int) + (fb.length : Int))) :
    Calls Try.prog 26 #[.pointer (some ⟨b, 0, none⟩), .string ⟨n.toArray⟩, .string ⟨n2.toArray⟩] w fun e w' => e = .returned (.int .i64 4) ∧ Below w.heap.size w w' := by
  obtain ⟨m, l, left, h⟩ := h
  have HM := keep h
  clear h
  have HZ := keep hz
  have HX := keep hx
  clear hz hx
  have HX2 := keep hx2
  clear hx2
  have hfbl : ∀ {nm : List UInt8} {sf : Nat} {fb : List UInt8} {n : List UInt8}, Dk.look d.files n = some ⟨nm, sf, fb⟩ → fb.length ≤ 1099511627776 := fun {nm sf fb n} hx => by
    have h1 := used_mem (Dk.look_some hx).1
    have h2 := HM.out.good.room
    have h3 := HM.out.capb
    simp only [Dk.cost] at h1
    omega
  have l1 := hfbl HX.out
  have l2 := hfbl HX2.out
  clear hfbl
  obtain ⟨F, hF, F0, F1⟩ : ∃ F : Int, (d.cap : Int) - (Dk.used d.files : Int) = F ∧ 0 ≤ F ∧ F ≤ 1099511627776 := ⟨_, rfl, by have := HM.out.good.room; omega, by have := HM.out.capb; omega⟩
  have HF := keep hF
  rw [hF] at hfull
  have HU := keep hfull
  clear hfull
  clear hF
  have HNE := keep hne
  clear hne
  go_enter Try.func26, Try.ntmps26
  go_wp2_with fail
  have hm1 := HM.out.below ((Below.refl _ w).alloc (Nat.le_refl _) (.cells #[.string ⟨n.toArray⟩, .string ⟨n2.toArray⟩] 9))
  refine (ready_box b m _ left d.dark _ _ 2 2 [n, n2] _ hm1.box (two_names w n n2 9) (by omega)).mono ?_
  rintro e w2 ⟨rfl, hb2⟩
  have hb3 := keep (((Below.refl _ w).alloc (Nat.le_refl _) (.cells #[.string ⟨n.toArray⟩, .string ⟨n2.toArray⟩] 9)).trans (hb2.mono (by simp)))
  clear hb2 hm1
  rw [HZ.out]
  have hm2 := HM.out.below hb3.out
  have c02 := hm2.box.c0
  obtain ⟨ao, c, hl, ho, hs, hin⟩ := look_there hm2.map hm2.rel (by unfold maxLen; omega) HX.out
  have HL := keep hl
  have HO := keep ho
  have HIN := keep hin
  have HM2 := keep hm2
  clear hl ho hs hin
  have bA : Below w2.heap.size w2 (w2.alloc (.cells #[.int .i64 (sf : Int), .slice ao fb.length c] 79)) := (Below.refl _ _).alloc (Nat.le_refl _) _
  obtain ⟨wA, hwA⟩ : ∃ wA, w2.alloc (.cells #[.int .i64 (sf : Int), .slice ao fb.length c] 79) = wA := ⟨_, rfl⟩
  have kf1 : wA.cell? ⟨w2.heap.size, 1, none⟩ = some (.slice ao fb.length c) := by rw [← hwA]; exact cell_of_row _ _ _ _ _ _ (heap_alloc_new w2 _)
  have kf0 : wA.cell? ⟨w2.heap.size, 0, none⟩ = some (.int .i64 (sf : Int)) := by rw [← hwA]; exact cell_of_row _ _ _ _ _ _ (heap_alloc_new w2 _)
  rw [hwA] at bA
  have HBA := keep bA
  have cA1 := (hm2.below bA).box.c1
  rw [HF.out] at cA1
  have cA0 := (hm2.below bA).box.c0
  clear bA hm2
  go_wp2_with (first | (at_lookup; refine wpList_look rfl _ _ _ _ rfl _ _ _ rfl rfl HL.out ?_) | fail)
  clear hwA
  go_quiet (first | (go_at_call 37; refine Calls.quiet_of_same (cost_any n ao fb.length c _ (by omega) (by omega))))
  obtain ⟨wB, hwB⟩ : ∃ ws, ws = wA.drewN nq := ⟨_, rfl⟩
  rw [← hwB]
  have bB := keep (show Below w2.heap.size w2 wB by rw [hwB]; exact HBA.out.trans (below_drewN _ _ _))
  have eB : Below wA.heap.size wA wB := by rw [hwB]; exact below_drewN _ _ _
  have kB1 := below_cell eB kf1
  have kB0 := below_cell eB kf0
  have cB0 := below_cell eB cA0
  have cB1 := below_cell eB cA1
  have sB : w2.heap.size < wB.heap.size := World.block_lt_of_cell? wB _ kB1
  have mB := HM2.out.below bB.out
  obtain ⟨ao2, c2, hl2, ho2, hs2, hin2⟩ := look_there mB.map mB.rel (by unfold maxLen; omega) HX2.out
  have HL2 := keep hl2
  clear hl2 ho2 hs2 hin2
  clear kf0 kf1 cA0 cA1 hwB eB mB c02
  have bC : Below wB.heap.size wB (wB.alloc (.cells #[.int .i64 (sf2 : Int), .slice ao2 fb2.length c2] 79)) := (Below.refl _ _).alloc (Nat.le_refl _) _
  obtain ⟨wC, hwC⟩ : ∃ wC, wB.alloc (.cells #[.int .i64 (sf2 : Int), .slice ao2 fb2.length c2] 79) = wC := ⟨_, rfl⟩
  have kC : wC.cell? ⟨wB.heap.size, 1, none⟩ = some (.slice ao2 fb2.length c2) := by rw [← hwC]; exact cell_of_row _ _ _ _ _ _ (heap_alloc_new wB _)
  rw [hwC] at bC
  have HBC := keep (show Below w2.heap.size w2 wC from bB.out.trans (bC.mono bB.out.size))
  have kC1 := below_cell bC kB1
  have kC0 := below_cell bC kB0
  have cC0 := below_cell bC cB0
  have cC1 := below_cell bC cB1
  have hsn : (n2 == n) = false := by simpa using HNE.out
  clear bC kB0 kB1
  go_wp2_with (first | (at_lookup; refine wpList_look rfl _ _ _ _ rfl _ _ _ rfl rfl HL2.out ?_) | fail)
  clear hwC
  refine (cost_any n2 ao2 fb2.length c2 _ (by omega) (by omega)).mono ?_
  rintro e w9 ⟨rfl, rfl⟩
  go_wp2_with fail
  refine (cost_any n2 ao fb.length c _ (by omega) (by omega)).mono ?_
  rintro e w9 ⟨rfl, rfl⟩
  have hcmp := HU.out
  go_wp2
  go_ret
  exact ⟨rfl, hb3.out.trans (HBC.out.mono hb3.out.size)⟩
set_option maxHeartbeats 1000000 in
set_option maxRecDepth 100000 in
theorem rename_new_full (S : Nat → Prop) (b : Nat) (d : Disk) (n n2 nm : List UInt8) (sf : Nat) (fb : List UInt8) (w : World) (h : Mem S w b d) (hn : n.length ≤ 100) (hn2 : n2.length ≤ 100) (hz : ahead d.dark [n, n2] = 0) (hx : Dk.look d.files n = some ⟨nm, sf, fb⟩) (hne : ¬ n2 = n) (hx2 : Dk.look d.files n2 = none) (hfull : ((d.cap : Int) - (Dk.used d.files : Int)) + (16 + (n.length : Int) + (fb.length : Int)) < (16 + (n2.length : Int) + (fb.length : Int))) :
    Calls Try.prog 26 #[.pointer (some ⟨b, 0, none⟩), .string ⟨n.toArray⟩, .string ⟨n2.toArray⟩] w fun e w' => e = .returned (.int .i64 4) ∧ Below w.heap.size w w' := by
  obtain ⟨m, l, left, h⟩ := h
  have HM := keep h
  clear h
  have HZ := keep hz
  have HX := keep hx
  clear hz hx
  have HX2 := keep hx2
  clear hx2
  have hfbl : ∀ {nm : List UInt8} {sf : Nat} {fb : List UInt8} {n : List UInt8}, Dk.look d.files n = some ⟨nm, sf, fb⟩ → fb.length ≤ 1099511627776 := fun {nm sf fb n} hx => by
    have h1 := used_mem (Dk.look_some hx).1
    have h2 := HM.out.good.room
    have h3 := HM.out.capb
    simp only [Dk.cost] at h1
    omega
  have l1 := hfbl HX.out
  clear hfbl
  obtain ⟨F, hF, F0, F1⟩ : ∃ F : Int, (d.cap : Int) - (Dk.used d.files : Int) = F ∧ 0 ≤ F ∧ F ≤ 1099511627776 := ⟨_, rfl, by have := HM.out.good.room; omega, by have := HM.out.capb; omega⟩
  have HF := keep hF
  rw [hF] at hfull
  have HU := keep hfull
  clear hfull
  clear hF
  have HNE := keep hne
  clear hne
  go_enter Try.func26, Try.ntmps26
  go_wp2_with fail
  have hm1 := HM.out.below ((Below.refl _ w).alloc (Nat.le_refl _) (.cells #[.string ⟨n.toArray⟩, .string ⟨n2.toArray⟩] 9))
  refine (ready_box b m _ left d.dark _ _ 2 2 [n, n2] _ hm1.box (two_names w n n2 9) (by omega)).mono ?_
  rintro e w2 ⟨rfl, hb2⟩
  have hb3 := keep (((Below.refl _ w).alloc (Nat.le_refl _) (.cells #[.string ⟨n.toArray⟩, .string ⟨n2.toArray⟩] 9)).trans (hb2.mono (by simp)))
  clear hb2 hm1
  rw [HZ.out]
  have hm2 := HM.out.below hb3.out
  have c02 := hm2.box.c0
  obtain ⟨ao, c, hl, ho, hs, hin⟩ := look_there hm2.map hm2.rel (by unfold maxLen; omega) HX.out
  have HL := keep hl
  have HO := keep ho
  have HIN := keep hin
  have HM2 := keep hm2
  clear hl ho hs hin
  have bA : Below w2.heap.size w2 (w2.alloc (.cells #[.int .i64 (sf : Int), .slice ao fb.length c] 79)) := (Below.refl _ _).alloc (Nat.le_refl _) _
  obtain ⟨wA, hwA⟩ : ∃ wA, w2.alloc (.cells #[.int .i64 (sf : Int), .slice ao fb.length c] 79) = wA := ⟨_, rfl⟩
  have kf1 : wA.cell? ⟨w2.heap.size, 1, none⟩ = some (.slice ao fb.length c) := by rw [← hwA]; exact cell_of_row _ _ _ _ _ _ (heap_alloc_new w2 _)
  have kf0 : wA.cell? ⟨w2.heap.size, 0, none⟩ = some (.int .i64 (sf : Int)) := by rw [← hwA]; exact cell_of_row _ _ _ _ _ _ (heap_alloc_new w2 _)
  rw [hwA] at bA
  have HBA := keep bA
  have cA1 := (hm2.below bA).box.c1
  rw [HF.out] at cA1
  have cA0 := (hm2.below bA).box.c0
  clear bA hm2
  go_wp2_with (first | (at_lookup; refine wpList_look rfl _ _ _ _ rfl _ _ _ rfl rfl HL.out ?_) | fail)
  clear hwA
  go_quiet (first | (go_at_call 37; refine Calls.quiet_of_same (cost_any n ao fb.length c _ (by omega) (by omega))))
  obtain ⟨wB, hwB⟩ : ∃ ws, ws = wA.drewN nq := ⟨_, rfl⟩
  rw [← hwB]
  have bB := keep (show Below w2.heap.size w2 wB by rw [hwB]; exact HBA.out.trans (below_drewN _ _ _))
  have eB : Below wA.heap.size wA wB := by rw [hwB]; exact below_drewN _ _ _
  have kB1 := below_cell eB kf1
  have kB0 := below_cell eB kf0
  have cB0 := below_cell eB cA0
  have cB1 := below_cell eB cA1
  have sB : w2.heap.size < wB.heap.size := World.block_lt_of_cell? wB _ kB1
  have mB := HM2.out.below bB.out
  have HL2 := keep (look_absent mB.map mB.rel (by unfold maxLen; omega) HX2.out)
  clear kf0 kf1 cA0 cA1 hwB eB mB c02
  have bC : Below wB.heap.size wB (wB.alloc (.cells #[.int .i64 0, .slice none 0 0] 79)) := (Below.refl _ _).alloc (Nat.le_refl _) _
  obtain ⟨wC, hwC⟩ : ∃ wC, wB.alloc (.cells #[.int .i64 0, .slice none 0 0] 79) = wC := ⟨_, rfl⟩
  have kO : ∀ o : Obj, (wB.alloc o).cell? ⟨w2.heap.size, 1, none⟩ = some (.slice ao fb.length c) := fun o => below_cell ((Below.refl _ _).alloc (Nat.le_refl _) o) kB1
  rw [hwC] at bC
  have HBC := keep (show Below w2.heap.size w2 wC from bB.out.trans (bC.mono bB.out.size))
  have kC1 := below_cell bC kB1
  have kC0 := below_cell bC kB0
  have cC0 := below_cell bC cB0
  have cC1 := below_cell bC cB1
  have hsn : (n2 == n) = false := by simpa using HNE.out
  clear bC kB0 kB1
  have HWC := keep hwC
  clear hwC
  go_wp2_with (first | (at_lookup; refine wpList_look rfl _ _ _ _ rfl _ _ _ rfl rfl HL2.out ?_) | fail)
  rw [HWC.out]
  clear kO HWC
  refine (cost_any n2 ao fb.length c _ (by omega) (by omega)).mono ?_
  rintro e w9 ⟨rfl, rfl⟩
  have hcmp := HU.out
  go_wp2
  go_ret
  exact ⟨rfl, hb3.out.trans (HBC.out.mono hb3.out.size)⟩
set_option maxHeartbeats 1000000 in
set_option maxRecDepth 100000 in
theorem rename_over_cut (S : Nat → Prop) (b : Nat) (d : Disk) (n n2 nm : List UInt8) (sf : Nat) (fb : List UInt8) (nm2 : List UInt8) (sf2 : Nat) (fb2 : List UInt8) (w : World) (h : Mem S w b d) (hn : n.length ≤ 100) (hn2 : n2.length ≤ 100) (hz : ahead d.dark [n, n2] = 0) (hd : d.dark = false) (ho0 : d.done ≤ 4611686018427387904) (hx : Dk.look d.files n = some ⟨nm, sf, fb⟩) (hne : ¬ n2 = n) (hx2 : Dk.look d.files n2 = some ⟨nm2, sf2, fb2⟩) (hroom : ¬ ((d.cap : Int) - (Dk.used d.files : Int)) + (16 + (n.length : Int) + (fb.length : Int)) + (16 + (n2.length : Int) + (fb2.length : Int)) < (16 + (n2.length : Int) + (fb.length : Int))) (ht : (Dk.tick d).1 = false) :
    Calls Try.prog 26 #[.pointer (some ⟨b, 0, none⟩), .string ⟨n.toArray⟩, .string ⟨n2.toArray⟩] w fun e w' => RawPost S w b (5, (Dk.tick d).2) e w' := by
  obtain ⟨m, l, left, h⟩ := h
  have HM := keep h
  clear h
  have HZ := keep hz
  have HX := keep hx
  clear hz hx
  have HD := keep hd
  have HT := keep ht
  clear hd ht
  have HX2 := keep hx2
  clear hx2
  have hfbl : ∀ {nm : List UInt8} {sf : Nat} {fb : List UInt8} {n : List UInt8}, Dk.look d.files n = some ⟨nm, sf, fb⟩ → fb.length ≤ 1099511627776 := fun {nm sf fb n} hx => by
    have h1 := used_mem (Dk.look_some hx).1
    have h2 := HM.out.good.room
    have h3 := HM.out.capb
    simp only [Dk.cost] at h1
    omega
  have l1 := hfbl HX.out
  have l2 := hfbl HX2.out
  clear hfbl
  obtain ⟨F, hF, F0, F1⟩ : ∃ F : Int, (d.cap : Int) - (Dk.used d.files : Int) = F ∧ 0 ≤ F ∧ F ≤ 1099511627776 := ⟨_, rfl, by have := HM.out.good.room; omega, by have := HM.out.capb; omega⟩
  have HF := keep hF
  rw [hF] at hroom
  have HU := keep hroom
  clear hroom
  clear hF
  have HNE := keep hne
  clear hne
  go_enter Try.func26, Try.ntmps26
  go_wp2_with fail
  have hm1 := HM.out.below ((Below.refl _ w).alloc (Nat.le_refl _) (.cells #[.string ⟨n.toArray⟩, .string ⟨n2.toArray⟩] 9))
  refine (ready_box b m _ left d.dark _ _ 2 2 [n, n2] _ hm1.box (two_names w n n2 9) (by omega)).mono ?_
  rintro e w2 ⟨rfl, hb2⟩
  have hb3 := keep (((Below.refl _ w).alloc (Nat.le_refl _) (.cells #[.string ⟨n.toArray⟩, .string ⟨n2.toArray⟩] 9)).trans (hb2.mono (by simp)))
  clear hb2 hm1
  rw [HZ.out]
  have hm2 := HM.out.below hb3.out
  have c02 := hm2.box.c0
  obtain ⟨ao, c, hl, ho, hs, hin⟩ := look_there hm2.map hm2.rel (by unfold maxLen; omega) HX.out
  have HL := keep hl
  have HO := keep ho
  have HIN := keep hin
  have HM2 := keep hm2
  clear hl ho hs hin
  have bA : Below w2.heap.size w2 (w2.alloc (.cells #[.int .i64 (sf : Int), .slice ao fb.length c] 79)) := (Below.refl _ _).alloc (Nat.le_refl _) _
  obtain ⟨wA, hwA⟩ : ∃ wA, w2.alloc (.cells #[.int .i64 (sf : Int), .slice ao fb.length c] 79) = wA := ⟨_, rfl⟩
  have kf1 : wA.cell? ⟨w2.heap.size, 1, none⟩ = some (.slice ao fb.length c) := by rw [← hwA]; exact cell_of_row _ _ _ _ _ _ (heap_alloc_new w2 _)
  have kf0 : wA.cell? ⟨w2.heap.size, 0, none⟩ = some (.int .i64 (sf : Int)) := by rw [← hwA]; exact cell_of_row _ _ _ _ _ _ (heap_alloc_new w2 _)
  rw [hwA] at bA
  have HBA := keep bA
  have cA1 := (hm2.below bA).box.c1
  rw [HF.out] at cA1
  have cA0 := (hm2.below bA).box.c0
  clear bA hm2
  go_wp2_with (first | (at_lookup; refine wpList_look rfl _ _ _ _ rfl _ _ _ rfl rfl HL.out ?_) | fail)
  clear hwA
  go_quiet (first | (go_at_call 37; refine Calls.quiet_of_same (cost_any n ao fb.length c _ (by omega) (by omega))))
  obtain ⟨wB, hwB⟩ : ∃ ws, ws = wA.drewN nq := ⟨_, rfl⟩
  rw [← hwB]
  have bB := keep (show Below w2.heap.size w2 wB by rw [hwB]; exact HBA.out.trans (below_drewN _ _ _))
  have eB : Below wA.heap.size wA wB := by rw [hwB]; exact below_drewN _ _ _
  have kB1 := below_cell eB kf1
  have kB0 := below_cell eB kf0
  have cB0 := below_cell eB cA0
  have cB1 := below_cell eB cA1
  have sB : w2.heap.size < wB.heap.size := World.block_lt_of_cell? wB _ kB1
  have mB := HM2.out.below bB.out
  obtain ⟨ao2, c2, hl2, ho2, hs2, hin2⟩ := look_there mB.map mB.rel (by unfold maxLen; omega) HX2.out
  have HL2 := keep hl2
  clear hl2 ho2 hs2 hin2
  clear kf0 kf1 cA0 cA1 hwB eB mB c02
  have bC : Below wB.heap.size wB (wB.alloc (.cells #[.int .i64 (sf2 : Int), .slice ao2 fb2.length c2] 79)) := (Below.refl _ _).alloc (Nat.le_refl _) _
  obtain ⟨wC, hwC⟩ : ∃ wC, wB.alloc (.cells #[.int .i64 (sf2 : Int), .slice ao2 fb2.length c2] 79) = wC := ⟨_, rfl⟩
  have kC : wC.cell? ⟨wB.heap.size, 1, none⟩ = some (.slice ao2 fb2.length c2) := by rw [← hwC]; exact cell_of_row _ _ _ _ _ _ (heap_alloc_new wB _)
  rw [hwC] at bC
  have HBC := keep (show Below w2.heap.size w2 wC from bB.out.trans (bC.mono bB.out.size))
  have kC1 := below_cell bC kB1
  have kC0 := below_cell bC kB0
  have cC0 := below_cell bC cB0
  have cC1 := below_cell bC cB1
  have hsn : (n2 == n) = false := by simpa using HNE.out
  clear bC kB0 kB1
  go_wp2_with (first | (at_lookup; refine wpList_look rfl _ _ _ _ rfl _ _ _ rfl rfl HL2.out ?_) | fail)
  clear hwC
  refine (cost_any n2 ao2 fb2.length c2 _ (by omega) (by omega)).mono ?_
  rintro e w9 ⟨rfl, rfl⟩
  go_wp2_with fail
  refine (cost_any n2 ao fb.length c _ (by omega) (by omega)).mono ?_
  rintro e w9 ⟨rfl, rfl⟩
  have hcmp := HU.out
  go_wp2_with fail
  clear hcmp
  refine (count_mem S b m l left d _ (HM2.out.below HBC.out) HD.out ho0).mono ?_
  rintro e w3 ⟨left', rfl, hm3, hk3⟩
  rw [HT.out]
  have hk4 := keep ((Kept.of_below (U := Go.Proofs.Ytipkacaekbckhaa.mine S b) (hb3.out.trans (HBC.out.mono hb3.out.size))).trans (hk3.wide (fun g _ e => .inr e)))
  have hm4 := keep hm3
  clear hm3 hk3
  go_wp2
  go_ret
  exact ⟨rfl, MemAt.grow HM.out.box.lt HM.out.out hm4.out.lt hm4.out hk4.out (Kept.refl _ _)⟩
set_option maxHeartbeats 1000000 in
set_option maxRecDepth 100000 in
theorem rename_new_cut (S : Nat → Prop) (b : Nat) (d : Disk) (n n2 nm : List UInt8) (sf : Nat) (fb : List UInt8) (w : World) (h : Mem S w b d) (hn : n.length ≤ 100) (hn2 : n2.length ≤ 100) (hz : ahead d.dark [n, n2] = 0) (hd : d.dark = false) (ho0 : d.done ≤ 4611686018427387904) (hx : Dk.look d.files n = some ⟨nm, sf, fb⟩) (hne : ¬ n2 = n) (hx2 : Dk.look d.files n2 = none) (hroom : ¬ ((d.cap : Int) - (Dk.used d.files : Int)) + (16 + (n.length : Int) + (fb.length : Int)) < (16 + (n2.length : Int) + (fb.length : Int))) (ht : (Dk.tick d).1 = false) :
    Calls Try.prog 26 #[.pointer (some ⟨b, 0, none⟩), .string ⟨n.toArray⟩, .string ⟨n2.toArray⟩] w fun e w' => RawPost S w b (5, (Dk.tick d).2) e w' := by
  obtain ⟨m, l, left, h⟩ := h
  have HM := keep h
  clear h
  have HZ := keep hz
  have HX := keep hx
  clear hz hx
  have HD := keep hd
  have HT := keep ht
  clear hd ht
  have HX2 := keep hx2
  clear hx2
  have hfbl : ∀ {nm : List UInt8} {sf : Nat} {fb : List UInt8} {n : List UInt8}, Dk.look d.files n = some ⟨nm, sf, fb⟩ → fb.length ≤ 1099511627776 := fun {nm sf fb n} hx => by
    have h1 := used_mem (Dk.look_some hx).1
    have h2 := HM.out.good.room
    have h3 := HM.out.capb
    simp only [Dk.cost] at h1
    omega
  have l1 := hfbl HX.out
  clear hfbl
  obtain ⟨F, hF, F0, F1⟩ : ∃ F : Int, (d.cap : Int) - (Dk.used d.files : Int) = F ∧ 0 ≤ F ∧ F ≤ 1099511627776 := ⟨_, rfl, by have := HM.out.good.room; omega, by have := HM.out.capb; omega⟩
  have HF := keep hF
  rw [hF] at hroom
  have HU := keep hroom
  clear hroom
  clear hF
  have HNE := keep hne
  clear hne
  go_enter Try.func26, Try.ntmps26
  go_wp2_with fail
  have hm1 := HM.out.below ((Below.refl _ w).alloc (Nat.le_refl _) (.cells #[.string ⟨n.toArray⟩, .string ⟨n2.toArray⟩] 9))
  refine (ready_box b m _ left d.dark _ _ 2 2 [n, n2] _ hm1.box (two_names w n n2 9) (by omega)).mono ?_
  rintro e w2 ⟨rfl, hb2⟩
  have hb3 := keep (((Below.refl _ w).alloc (Nat.le_refl _) (.cells #[.string ⟨n.toArray⟩, .string ⟨n2.toArray⟩] 9)).trans (hb2.mono (by simp)))
  clear hb2 hm1
  rw [HZ.out]
  have hm2 := HM.out.below hb3.out
  have c02 := hm2.box.c0
  obtain ⟨ao, c, hl, ho, hs, hin⟩ := look_there hm2.map hm2.rel (by unfold maxLen; omega) HX.out
  have HL := keep hl
  have HO := keep ho
  have HIN := keep hin
  have HM2 := keep hm2
  clear hl ho hs hin
  have bA : Below w2.heap.size w2 (w2.alloc (.cells #[.int .i64 (sf : Int), .slice ao fb.length c] 79)) := (Below.refl _ _).alloc (Nat.le_refl _) _
  obtain ⟨wA, hwA⟩ : ∃ wA, w2.alloc (.cells #[.int .i64 (sf : Int), .slice ao fb.length c] 79) = wA := ⟨_, rfl⟩
  have kf1 : wA.cell? ⟨w2.heap.size, 1, none⟩ = some (.slice ao fb.length c) := by rw [← hwA]; exact cell_of_row _ _ _ _ _ _ (heap_alloc_new w2 _)
  have kf0 : wA.cell? ⟨w2.heap.size, 0, none⟩ = some (.int .i64 (sf : Int)) := by rw [← hwA]; exact cell_of_row _ _ _ _ _ _ (heap_alloc_new w2 _)
  rw [hwA] at bA
  have HBA := keep bA
  have cA1 := (hm2.below bA).box.c1
  rw [HF.out] at cA1
  have cA0 := (hm2.below bA).box.c0
  clear bA hm2
  go_wp2_with (first | (at_lookup; refine wpList_look rfl _ _ _ _ rfl _ _ _ rfl rfl HL.out ?_) | fail)
  clear hwA
  go_quiet (first | (go_at_call 37; refine Calls.quiet_of_same (cost_any n ao fb.length c _ (by omega) (by omega))))
  obtain ⟨wB, hwB⟩ : ∃ ws, ws = wA.drewN nq := ⟨_, rfl⟩
  rw [← hwB]
  have bB := keep (show Below w2.heap.size w2 wB by rw [hwB]; exact HBA.out.trans (below_drewN _ _ _))
  have eB : Below wA.heap.size wA wB := by rw [hwB]; exact below_drewN _ _ _
  have kB1 := below_cell eB kf1
  have kB0 := below_cell eB kf0
  have cB0 := below_cell eB cA0
  have cB1 := below_cell eB cA1
  have sB : w2.heap.size < wB.heap.size := World.block_lt_of_cell? wB _ kB1
  have mB := HM2.out.below bB.out
  have HL2 := keep (look_absent mB.map mB.rel (by unfold maxLen; omega) HX2.out)
  clear kf0 kf1 cA0 cA1 hwB eB mB c02
  have bC : Below wB.heap.size wB (wB.alloc (.cells #[.int .i64 0, .slice none 0 0] 79)) := (Below.refl _ _).alloc (Nat.le_refl _) _
  obtain ⟨wC, hwC⟩ : ∃ wC, wB.alloc (.cells #[.int .i64 0, .slice none 0 0] 79) = wC := ⟨_, rfl⟩
  have kO : ∀ o : Obj, (wB.alloc o).cell? ⟨w2.heap.size, 1, none⟩ = some (.slice ao fb.length c) := fun o => below_cell ((Below.refl _ _).alloc (Nat.le_refl _) o) kB1
  rw [hwC] at bC
  have HBC := keep (show Below w2.heap.size w2 wC from bB.out.trans (bC.mono bB.out.size))
  have kC1 := below_cell bC kB1
  have kC0 := below_cell bC kB0
  have cC0 := below_cell bC cB0
  have cC1 := below_cell bC cB1
  have hsn : (n2 == n) = false := by simpa using HNE.out
  clear bC kB0 kB1
  have HWC := keep hwC
  clear hwC
  go_wp2_with (first | (at_lookup; refine wpList_look rfl _ _ _ _ rfl _ _ _ rfl rfl HL2.out ?_) | fail)
  rw [HWC.out]
  clear kO HWC
  refine (cost_any n2 ao fb.length c _ (by omega) (by omega)).mono ?_
  rintro e w9 ⟨rfl, rfl⟩
  have hcmp := HU.out
  go_wp2_with fail
  clear hcmp
  refine (count_mem S b m l left d _ (HM2.out.below HBC.out) HD.out ho0).mono ?_
  rintro e w3 ⟨left', rfl, hm3, hk3⟩
  rw [HT.out]
  have hk4 := keep ((Kept.of_below (U := Go.Proofs.Ytipkacaekbckhaa.mine S b) (hb3.out.trans (HBC.out.mono hb3.out.size))).trans (hk3.wide (fun g _ e => .inr e)))
  have hm4 := keep hm3
  clear hm3 hk3
  go_wp2
  go_ret
  exact ⟨rfl, MemAt.grow HM.out.box.lt HM.out.out hm4.out.lt hm4.out hk4.out (Kept.refl _ _)⟩
set_option maxHeartbeats 1000000 in
set_option maxRecDepth 100000 in
theorem rename_same_cut (S : Nat → Prop) (b : Nat) (d : Disk) (n nm : List UInt8) (sf : Nat) (fb : List UInt8) (w : World) (h : Mem S w b d) (hn : n.length ≤ 100) (hz : ahead d.dark [n, n] = 0) (hd : d.dark = false) (ho0 : d.done ≤ 4611686018427387904) (hx : Dk.look d.files n = some ⟨nm, sf, fb⟩) (ht : (Dk.tick d).1 = false) :
    Calls Try.prog 26 #[.pointer (some ⟨b, 0, none⟩), .string ⟨n.toArray⟩, .string ⟨n.toArray⟩] w fun e w' => RawPost S w b (5, (Dk.tick d).2) e w' := by
  obtain ⟨m, l, left, h⟩ := h
  have HM := keep h
  clear h
  have HZ := keep hz
  have HX := keep hx
  clear hz hx
  have HD := keep hd
  have HT := keep ht
  clear hd ht
  have hfbl : ∀ {nm : List UInt8} {sf : Nat} {fb : List UInt8} {n : List UInt8}, Dk.look d.files n = some ⟨nm, sf, fb⟩ → fb.length ≤ 1099511627776 := fun {nm sf fb n} hx => by
    have h1 := used_mem (Dk.look_some hx).1
    have h2 := HM.out.good.room
    have h3 := HM.out.capb
    simp only [Dk.cost] at h1
    omega
  have l1 := hfbl HX.out
  clear hfbl
  obtain ⟨F, hF, F0, F1⟩ : ∃ F : Int, (d.cap : Int) - (Dk.used d.files : Int) = F ∧ 0 ≤ F ∧ F ≤ 1099511627776 := ⟨_, rfl, by have := HM.out.good.room; omega, by have := HM.out.capb; omega⟩
  have HF := keep hF
  clear hF
  go_enter Try.func26, Try.ntmps26
  go_wp2_with fail
  have hm1 := HM.out.below ((Below.refl _ w).alloc (Nat.le_refl _) (.cells #[.string ⟨n.toArray⟩, .string ⟨n.toArray⟩] 9))
  refine (ready_box b m _ left d.dark _ _ 2 2 [n, n] _ hm1.box (two_names w n n 9) (by omega)).mono ?_
  rintro e w2 ⟨rfl, hb2⟩
  have hb3 := keep (((Below.refl _ w).alloc (Nat.le_refl _) (.cells #[.string ⟨n.toArray⟩, .string ⟨n.toArray⟩] 9)).trans (hb2.mono (by simp)))
  clear hb2 hm1
  rw [HZ.out]
  have hm2 := HM.out.below hb3.out
  have c02 := hm2.box.c0
  obtain ⟨ao, c, hl, ho, hs, hin⟩ := look_there hm2.map hm2.rel (by unfold maxLen; omega) HX.out
  have HL := keep hl
  have HO := keep ho
  have HIN := keep hin
  have HM2 := keep hm2
  clear hl ho hs hin
  have bA : Below w2.heap.size w2 (w2.alloc (.cells #[.int .i64 (sf : Int), .slice ao fb.length c] 79)) := (Below.refl _ _).alloc (Nat.le_refl _) _
  obtain ⟨wA, hwA⟩ : ∃ wA, w2.alloc (.cells #[.int .i64 (sf : Int), .slice ao fb.length c] 79) = wA := ⟨_, rfl⟩
  have kf1 : wA.cell? ⟨w2.heap.size, 1, none⟩ = some (.slice ao fb.length c) := by rw [← hwA]; exact cell_of_row _ _ _ _ _ _ (heap_alloc_new w2 _)
  have kf0 : wA.cell? ⟨w2.heap.size, 0, none⟩ = some (.int .i64 (sf : Int)) := by rw [← hwA]; exact cell_of_row _ _ _ _ _ _ (heap_alloc_new w2 _)
  rw [hwA] at bA
  have HBA := keep bA
  have cA1 := (hm2.below bA).box.c1
  rw [HF.out] at cA1
  have cA0 := (hm2.below bA).box.c0
  clear bA hm2
  go_wp2_with (first | (at_lookup; refine wpList_look rfl _ _ _ _ rfl _ _ _ rfl rfl HL.out ?_) | fail)
  clear hwA
  go_quiet (first | (go_at_call 37; refine Calls.quiet_of_same (cost_any n ao fb.length c _ (by omega) (by omega))))
  obtain ⟨wB, hwB⟩ : ∃ ws, ws = wA.drewN nq := ⟨_, rfl⟩
  rw [← hwB]
  have bB := keep (show Below w2.heap.size w2 wB by rw [hwB]; exact HBA.out.trans (below_drewN _ _ _))
  have eB : Below wA.heap.size wA wB := by rw [hwB]; exact below_drewN _ _ _
  have kB1 := below_cell eB kf1
  have kB0 := below_cell eB kf0
  have cB0 := below_cell eB cA0
  have cB1 := below_cell eB cA1
  have sB : w2.heap.size < wB.heap.size := World.block_lt_of_cell? wB _ kB1
  have mB := HM2.out.below bB.out
  obtain ⟨ao2, c2, hl2, ho2, hs2, hin2⟩ := look_there mB.map mB.rel (by unfold maxLen; omega) HX.out
  have HL2 := keep hl2
  clear hl2 ho2 hs2 hin2
  clear kf0 kf1 cA0 cA1 hwB eB mB c02
  have bC : Below wB.heap.size wB (wB.alloc (.cells #[.int .i64 (sf : Int), .slice ao2 fb.length c2] 79)) := (Below.refl _ _).alloc (Nat.le_refl _) _
  obtain ⟨wC, hwC⟩ : ∃ wC, wB.alloc (.cells #[.int .i64 (sf : Int), .slice ao2 fb.length c2] 79) = wC := ⟨_, rfl⟩
  rw [hwC] at bC
  have HBC := keep (show Below w2.heap.size w2 wC from bB.out.trans (bC.mono bB.out.size))
  have kC1 := below_cell bC kB1
  have kC0 := below_cell bC kB0
  have cC0 := below_cell bC cB0
  have cC1 := below_cell bC cB1
  clear bC kB0 kB1
  go_wp2_with (first | (at_lookup; refine wpList_look rfl _ _ _ _ rfl _ _ _ rfl rfl HL2.out ?_) | fail)
  clear hwC
  refine (cost_any n ao fb.length c _ (by omega) (by omega)).mono ?_
  rintro e w9 ⟨rfl, rfl⟩
  have hcmp : ¬ F + (16 + (n.length : Int) + (fb.length : Int)) < (16 + (n.length : Int) + (fb.length : Int)) := by omega
  go_wp2_with fail
  clear hcmp
  refine (count_mem S b m l left d _ (HM2.out.below HBC.out) HD.out ho0).mono ?_
  rintro e w3 ⟨left', rfl, hm3, hk3⟩
  rw [HT.out]
  have hk4 := keep ((Kept.of_below (U := Go.Proofs.Ytipkacaekbckhaa.mine S b) (hb3.out.trans (HBC.out.mono hb3.out.size))).trans (hk3.wide (fun g _ e => .inr e)))
  have hm4 := keep hm3
  clear hm3 hk3
  go_wp2
  go_ret
  exact ⟨rfl, MemAt.grow HM.out.box.lt HM.out.out hm4.out.lt hm4.out hk4.out (Kept.refl _ _)⟩
end Go.Proofs.Ytipkacaekbckhaa
