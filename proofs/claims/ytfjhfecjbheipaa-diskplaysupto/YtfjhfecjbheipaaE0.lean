/- The walk of disk's Rename. -/
import Derived.Test.YtfjhfecjbheipaaD9
namespace Go.Proofs.Ytfjhfecjbheipaa
open Go.RowKit
open Dk (File Disk)

theorem below_drewN (B : Nat) (w : World) (n : Nat) : Below B w (w.drewN n) := ⟨rfl, rfl, rfl, Nat.le_refl _, fun _ _ => rfl⟩
theorem below_cell {w w' : World} (h : Below w.heap.size w w') {p : Addr} {v : Value} (hc : w.cell? p = some v) : w'.cell? p = some v := by rw [h.cell (World.block_lt_of_cell? w _ hc)]; exact hc
set_option maxHeartbeats 1000000 in
set_option maxRecDepth 100000 in
theorem rename_ahead (S : Nat → Prop) (b : Nat) (d : Disk) (n n2 : List UInt8) (w : World) (h : Mem S w b d) (z : Int) (hz : ahead d.dark [n, n2] = z) (h0 : (z == 0) = false) :
    Calls Try.prog 32 #[.pointer (some ⟨b, 0, none⟩), .string ⟨n.toArray⟩, .string ⟨n2.toArray⟩] w fun e w' => e = .returned (.int .i64 z) ∧ Below w.heap.size w w' := by
  obtain ⟨m, l, left, h⟩ := h
  have HM := keep h
  clear h
  have HZ := keep hz
  clear hz
  go_enter Try.func32, Try.ntmps32
  go_wp2_with fail
  have hm1 := HM.out.below ((Below.refl _ w).alloc (Nat.le_refl _) (.cells #[.string ⟨n.toArray⟩, .string ⟨n2.toArray⟩] 9))
  refine (ready_box b m _ left d.dark _ _ 2 2 [n, n2] _ hm1.box (two_names w n n2 9) (by omega)).mono ?_
  rintro e w2 ⟨rfl, hb2⟩
  have hb3 := keep (((Below.refl _ w).alloc (Nat.le_refl _) (.cells #[.string ⟨n.toArray⟩, .string ⟨n2.toArray⟩] 9)).trans (hb2.mono (by simp)))
  clear hb2 hm1
  rw [HZ.out]
  go_wp2
  go_ret
  exact ⟨rfl, hb3.out⟩
set_option maxHeartbeats 1000000 in
set_option maxRecDepth 100000 in
theorem rename_none (S : Nat → Prop) (b : Nat) (d : Disk) (n n2 : List UInt8) (w : World) (h : Mem S w b d) (hn : n.length ≤ maxLen) (hz : ahead d.dark [n, n2] = 0) (hx : Dk.look d.files n = none) :
    Calls Try.prog 32 #[.pointer (some ⟨b, 0, none⟩), .string ⟨n.toArray⟩, .string ⟨n2.toArray⟩] w fun e w' => e = .returned (.int .i64 3) ∧ Below w.heap.size w w' := by
  obtain ⟨m, l, left, h⟩ := h
  have HM := keep h
  clear h
  have HZ := keep hz
  have HX := keep hx
  clear hz hx
  go_enter Try.func32, Try.ntmps32
  go_wp2_with fail
  have hm1 := HM.out.below ((Below.refl _ w).alloc (Nat.le_refl _) (.cells #[.string ⟨n.toArray⟩, .string ⟨n2.toArray⟩] 9))
  refine (ready_box b m _ left d.dark _ _ 2 2 [n, n2] _ hm1.box (two_names w n n2 9) (by omega)).mono ?_
  rintro e w2 ⟨rfl, hb2⟩
  have hb3 := keep (((Below.refl _ w).alloc (Nat.le_refl _) (.cells #[.string ⟨n.toArray⟩, .string ⟨n2.toArray⟩] 9)).trans (hb2.mono (by simp)))
  clear hb2 hm1
  rw [HZ.out]
  have hm2 := HM.out.below hb3.out
  have c02 := hm2.box.c0
  have HL := keep (look_absent hm2.map hm2.rel hn HX.out)
  clear hm2
  go_wp2_with (at_lookup; refine wpList_look rfl _ _ _ _ rfl _ _ _ rfl rfl HL.out ?_)
  go_ret
  exact ⟨rfl, by first | exact hb3.out | exact hb3.out.alloc hb3.out.size _⟩
end Go.Proofs.Ytfjhfecjbheipaa
