/- The walk of wal's Add: the power is off; no room. -/
import Derived.Test.YtohnfogdalnilaaGreatDoorWd
import Derived.ControlIn
import Derived.Deep.RegionHeld3
namespace Go.Proofs.YtohnfogdalnilaaGreatDoor
open Go.RowKit Go.Shelf
open Dk (File Disk)

set_option maxHeartbeats 2000000 in
set_option maxRecDepth 100000 in
theorem add_dark (S : Nat → Prop) (b : Nat) (d : Disk) (n : Int) (ao : Option Addr) (m c : Nat) (w : World) (ht : Tab w) (hw : 0 < w.heap.size) (h : isSeg n = true) (hm : m ≤ 1048576) (hM : Mem S w b d) (hd : d.dark = true) :
    Calls Tryz.prog 20 #[.pointer (some ⟨b, 0, none⟩), .int .i64 n, .slice ao m c] w fun e w' => e = .returned (.int .i64 5) ∧ Below w.heap.size w w' := by
  obtain ⟨W1, hW1⟩ : ∃ W1, (w.alloc (.cells #[.pointer (some ⟨b, 0, none⟩)] 28)).alloc (.cells #[.int .i64 0] 49) = W1 := ⟨_, rfl⟩
  have b1 : Hid (Below w.heap.size w W1) := by rw [← hW1]; exact ((Below.refl _ _).alloc (Nat.le_refl _) _).alloc (by simp) _
  have s1 : Hid (W1.heap.size = w.heap.size + 2) := by rw [← hW1]; show _ = _; simp
  have g0 : Hid (W1.heap[w.heap.size]? = some (.cells #[.pointer (some ⟨b, 0, none⟩)] 28)) := by
    rw [← hW1]; exact (Below.heap_alloc _ _ _ (by simp)).trans (heap_alloc_new w _)
  have g1 : Hid (W1.heap[w.heap.size + 1]? = some (.cells #[.int .i64 0] 49)) := by
    have := heap_alloc_new (w.alloc (.cells #[.pointer (some ⟨b, 0, none⟩)] 28)) (.cells #[.int .i64 0] 49)
    rw [World.size_alloc] at this
    rw [← hW1]; exact this
  have hN := keep (name_any n W1 (ht.below b1.out hw))
  have hne := segName_ne h
  have hnd := keep (segName_named h)
  have hnl := keep (segName_len h)
  obtain ⟨N, hNN⟩ : ∃ N, segName n = N := ⟨_, rfl⟩
  rw [hNN] at hN hne hnd hnl
  clear ht h
  rw [← callsIn_wide (n := 8)]
  refine callsIn_of_wp_marks Tryz.func20 rfl trivial ?_ rfl
  simp only [Tryz.ntmps20, List.size_toArray, List.length_cons, List.length_nil, Nat.reduceAdd, Nat.reduceSub, Array.replicate_succ, Array.replicate_zero, List.push_toArray, List.append_toArray, List.nil_append, List.cons_append]
  gi_wp2_with fail
  refine ⟨trivial, ?_⟩
  refine (callsIn_wide.2 hN.out).mono ?_
  rintro e w2 ⟨rfl, hb⟩
  obtain ⟨W3, hW3⟩ : ∃ W3, w2.alloc (.cells #[.string ⟨N.toArray⟩] 9) = W3 := ⟨_, rfl⟩
  have b3 : Hid (Below W1.heap.size W1 W3) := by rw [← hW3]; exact hb.alloc hb.size _
  have q0 := keep ((b3.out.block w.heap.size (by rw [s1.out]; omega)).trans g0.out)
  have q1 := keep ((b3.out.block (w.heap.size + 1) (by rw [s1.out]; omega)).trans g1.out)
  have q2 : Hid (W3.heap[w2.heap.size]? = some (.cells #[.string ⟨N.toArray⟩] 9)) := by rw [← hW3]; exact heap_alloc_new w2 _
  have c0 : W3.cell? ⟨w.heap.size, 0, none⟩ = some (.pointer (some ⟨b, 0, none⟩)) := cell_of_row _ _ _ _ _ _ q0.out
  have c1 : W3.cell? ⟨w.heap.size + 1, 0, none⟩ = some (.int .i64 0) := cell_of_row _ _ _ _ _ _ q1.out
  have c2 : W3.cell? ⟨w2.heap.size, 0, none⟩ = some (.string ⟨N.toArray⟩) := cell_of_row _ _ _ _ _ _ q2.out
  have f1 : W3.frozen? ⟨w.heap.size + 1, 0, none⟩ = false := by simp [World.frozen?, q1.out]
  have B3 := keep (b1.out.trans (b3.out.mono b1.out.size))
  have sz3 : Hid (w.heap.size + 2 ≤ w2.heap.size ∧ w2.heap.size < W3.heap.size) := ⟨by have := hb.size; rw [s1.out] at this; exact this, (Array.getElem?_eq_some_iff.1 q2.out).1⟩
  clear hb hN
  have HM3 := keep (hM.below B3.out)
  have KC : Hid (∀ w', Below W3.heap.size W3 w' → Below w.heap.size w w' ∧ Mem S w' b d ∧ w'.cell? ⟨w.heap.size, 0, none⟩ = some (.pointer (some ⟨b, 0, none⟩)) ∧ w'.cell? ⟨w.heap.size + 1, 0, none⟩ = some (.int .i64 0) ∧ w'.cell? ⟨w2.heap.size, 0, none⟩ = some (.string ⟨N.toArray⟩) ∧ w'.frozen? ⟨w.heap.size + 1, 0, none⟩ = false) := fun w' hb' => ⟨B3.out.trans (hb'.mono B3.out.size), HM3.out.below hb', below_cell hb' c0, below_cell hb' c1, below_cell hb' c2, by
    have := (hb'.block (w.heap.size + 1) (by have := sz3.out; omega)).trans q1.out
    simp [World.frozen?, this]⟩
  clear hW1 hM
  have hm1 : ¬ (1048576 : Int) < (m : Int) := by omega
  gi_wp2_with fail
  refine ⟨trivial, ?_⟩
  refine (callsIn_wide.2 (isNone_mem S b d N W3 HM3.out hnd.out)).mono ?_
  rintro e w4 ⟨rfl, hb4⟩
  have B4 := keep hb4
  obtain ⟨_, x4, x40, x41, x42, x43⟩ := KC.out w4 B4.out
  have M4 := keep x4
  clear hb4 x4 c0 c1 c2 f1
  gi_wp2_with fail
  refine ⟨trivial, ?_⟩
  refine (callsIn_wide.2 (off_mem S b d w4 M4.out)).mono ?_
  rintro e w5 ⟨rfl, hb5⟩
  have B5 := keep (B4.out.trans (hb5.mono B4.out.size))
  obtain ⟨bel5, x5, x50, x51, x52, x53⟩ := KC.out w5 B5.out
  have M5 := keep x5
  have BL5 := keep bel5
  clear hb5 x5 bel5 x40 x41 x42 x43 M4
  rw [hd]
  gi_wp2
  have hc5 : (w5.setCell ⟨w.heap.size + 1, 0, none⟩ (.int .i64 5)).cell? ⟨w.heap.size + 1, 0, none⟩ = some (.int .i64 5) := World.cell?_setCell_same' _ _ _ (by rw [x51]; rfl)
  refine ⟨.int .i64 5, ?_, rfl, BL5.out.setCell (p := ⟨w.heap.size + 1, 0, none⟩) (by simp) _⟩
  simp [results, Tryz.f20, go_sem, hc5]
set_option maxHeartbeats 2000000 in
set_option maxRecDepth 100000 in
theorem add_full (S : Nat → Prop) (b : Nat) (d : Disk) (n : Int) (ao : Option Addr) (m c : Nat) (w : World) (ht : Tab w) (hw : 0 < w.heap.size) (h : isSeg n = true) (hm : m ≤ 1048576) (hM : Mem S w b d) (body : List UInt8) (hs : ∀ w', Below w.heap.size w w' → Src w' ao m c body) (hd : d.dark = false) (hf : (d.cap : Int) - (Dk.used d.files : Int) < (roomOf d (segName n) (frame body).length : Int)) :
    Calls Tryz.prog 20 #[.pointer (some ⟨b, 0, none⟩), .int .i64 n, .slice ao m c] w fun e w' => e = .returned (.int .i64 4) ∧ Below w.heap.size w w' := by
  obtain ⟨W1, hW1⟩ : ∃ W1, (w.alloc (.cells #[.pointer (some ⟨b, 0, none⟩)] 28)).alloc (.cells #[.int .i64 0] 49) = W1 := ⟨_, rfl⟩
  have b1 : Hid (Below w.heap.size w W1) := by rw [← hW1]; exact ((Below.refl _ _).alloc (Nat.le_refl _) _).alloc (by simp) _
  have s1 : Hid (W1.heap.size = w.heap.size + 2) := by rw [← hW1]; show _ = _; simp
  have g0 : Hid (W1.heap[w.heap.size]? = some (.cells #[.pointer (some ⟨b, 0, none⟩)] 28)) := by
    rw [← hW1]; exact (Below.heap_alloc _ _ _ (by simp)).trans (heap_alloc_new w _)
  have g1 : Hid (W1.heap[w.heap.size + 1]? = some (.cells #[.int .i64 0] 49)) := by
    have := heap_alloc_new (w.alloc (.cells #[.pointer (some ⟨b, 0, none⟩)] 28)) (.cells #[.int .i64 0] 49)
    rw [World.size_alloc] at this
    rw [← hW1]; exact this
  have hN := keep (name_any n W1 (ht.below b1.out hw))
  have hne := segName_ne h
  have hnd := keep (segName_named h)
  have hnl := keep (segName_len h)
  obtain ⟨N, hNN⟩ : ∃ N, segName n = N := ⟨_, rfl⟩
  rw [hNN] at hN hne hnd hnl hf
  clear ht h
  rw [← callsIn_wide (n := 8)]
  refine callsIn_of_wp_marks Tryz.func20 rfl trivial ?_ rfl
  simp only [Tryz.ntmps20, List.size_toArray, List.length_cons, List.length_nil, Nat.reduceAdd, Nat.reduceSub, Array.replicate_succ, Array.replicate_zero, List.push_toArray, List.append_toArray, List.nil_append, List.cons_append]
  gi_wp2_with fail
  refine ⟨trivial, ?_⟩
  refine (callsIn_wide.2 hN.out).mono ?_
  rintro e w2 ⟨rfl, hb⟩
  obtain ⟨W3, hW3⟩ : ∃ W3, w2.alloc (.cells #[.string ⟨N.toArray⟩] 9) = W3 := ⟨_, rfl⟩
  have b3 : Hid (Below W1.heap.size W1 W3) := by rw [← hW3]; exact hb.alloc hb.size _
  have q0 := keep ((b3.out.block w.heap.size (by rw [s1.out]; omega)).trans g0.out)
  have q1 := keep ((b3.out.block (w.heap.size + 1) (by rw [s1.out]; omega)).trans g1.out)
  have q2 : Hid (W3.heap[w2.heap.size]? = some (.cells #[.string ⟨N.toArray⟩] 9)) := by rw [← hW3]; exact heap_alloc_new w2 _
  have c0 : W3.cell? ⟨w.heap.size, 0, none⟩ = some (.pointer (some ⟨b, 0, none⟩)) := cell_of_row _ _ _ _ _ _ q0.out
  have c1 : W3.cell? ⟨w.heap.size + 1, 0, none⟩ = some (.int .i64 0) := cell_of_row _ _ _ _ _ _ q1.out
  have c2 : W3.cell? ⟨w2.heap.size, 0, none⟩ = some (.string ⟨N.toArray⟩) := cell_of_row _ _ _ _ _ _ q2.out
  have f1 : W3.frozen? ⟨w.heap.size + 1, 0, none⟩ = false := by simp [World.frozen?, q1.out]
  have B3 := keep (b1.out.trans (b3.out.mono b1.out.size))
  have sz3 : Hid (w.heap.size + 2 ≤ w2.heap.size ∧ w2.heap.size < W3.heap.size) := ⟨by have := hb.size; rw [s1.out] at this; exact this, (Array.getElem?_eq_some_iff.1 q2.out).1⟩
  clear hb hN
  have HS := keep hs
  have HBL : Hid (body.length ≤ 1048576) := by have := (hs w (Below.refl _ _)).len; show _ ≤ _; omega
  clear hs
  have HM3 := keep (hM.below B3.out)
  have KC : Hid (∀ w', Below W3.heap.size W3 w' → Below w.heap.size w w' ∧ Mem S w' b d ∧ w'.cell? ⟨w.heap.size, 0, none⟩ = some (.pointer (some ⟨b, 0, none⟩)) ∧ w'.cell? ⟨w.heap.size + 1, 0, none⟩ = some (.int .i64 0) ∧ w'.cell? ⟨w2.heap.size, 0, none⟩ = some (.string ⟨N.toArray⟩) ∧ w'.frozen? ⟨w.heap.size + 1, 0, none⟩ = false) := fun w' hb' => ⟨B3.out.trans (hb'.mono B3.out.size), HM3.out.below hb', below_cell hb' c0, below_cell hb' c1, below_cell hb' c2, by
    have := (hb'.block (w.heap.size + 1) (by have := sz3.out; omega)).trans q1.out
    simp [World.frozen?, this]⟩
  clear hW1 hM
  have hm1 : ¬ (1048576 : Int) < (m : Int) := by omega
  gi_wp2_with fail
  refine ⟨trivial, ?_⟩
  refine (callsIn_wide.2 (isNone_mem S b d N W3 HM3.out hnd.out)).mono ?_
  rintro e w4 ⟨rfl, hb4⟩
  have B4 := keep hb4
  obtain ⟨_, x4, x40, x41, x42, x43⟩ := KC.out w4 B4.out
  have M4 := keep x4
  clear hb4 x4 c0 c1 c2 f1
  gi_wp2_with fail
  refine ⟨trivial, ?_⟩
  refine (callsIn_wide.2 (off_mem S b d w4 M4.out)).mono ?_
  rintro e w5 ⟨rfl, hb5⟩
  have B5 := keep (B4.out.trans (hb5.mono B4.out.size))
  obtain ⟨bel5, x5, x50, x51, x52, x53⟩ := KC.out w5 B5.out
  have M5 := keep x5
  have BL5 := keep bel5
  clear hb5 x5 bel5 x40 x41 x42 x43 M4
  rw [hd]
  gi_wp2_with fail
  refine ⟨trivial, ?_⟩
  have PF := putFrame_any none 0 0 [] ao m c body w5 (by omega) (src_nil w5) (HS.out w5 BL5.out)
  refine (callsIn_wide.2 PF).mono ?_
  rintro e w6 ⟨v6, rfl, hv6⟩
  simp only [Nat.zero_add, List.nil_append] at hv6
  have NV := keep hv6
  obtain ⟨a6, k6, rfl, hs6, hk6⟩ := hv6.src
  have B6 := keep (B5.out.trans (hv6.2.mono B5.out.size))
  obtain ⟨bel6, x6, x60, x61, x62, x63⟩ := KC.out w6 B6.out
  have M6 := keep x6
  have BL6 := keep bel6
  clear hv6 x6 bel6 x50 x51 x52 x53 M5 PF hs6
  gi_wp2_with fail
  have FM : Hid (∀ w', Below W3.heap.size W3 w' → Calls Tryz.prog 52 #[.pointer (some ⟨b, 0, none⟩)] w' fun e w'' => e = .returned (.int .i64 ((d.cap : Int) - (Dk.used d.files : Int))) ∧ Below W3.heap.size W3 w'') := fun w' hb' => by
    refine (free_mem S b d w' (KC.out w' hb').2.1).mono ?_
    rintro e w'' ⟨rfl, hb''⟩
    exact ⟨rfl, hb'.trans (hb''.mono hb'.size)⟩
  have hfl : (frame body).length ≤ 1048589 := by
    have h1 := frame_length body
    have h2 := num_le body.length (by have := HBL.out; omega)
    have h3 := HBL.out
    omega
  have RM : Hid (∀ w', Below W3.heap.size W3 w' → Calls Tryz.prog 53 #[.pointer (some ⟨b, 0, none⟩), .string ⟨N.toArray⟩, .slice a6 (frame body).length k6] w' fun e w'' => e = .returned (.int .i64 (roomOf d N (frame body).length : Int)) ∧ Below W3.heap.size W3 w'') := fun w' hb' => by
    refine (room_mem S b d N a6 (frame body).length k6 w' (KC.out w' hb').2.1 (by rw [hnl.out]; omega) (by omega)).mono ?_
    rintro e w'' ⟨rfl, hb''⟩
    exact ⟨rfl, hb'.trans (hb''.mono hb'.size)⟩
  have KS : Hid (∀ w', Below W3.heap.size W3 w' → w'.cell? ⟨w.heap.size, 0, none⟩ = some (.pointer (some ⟨b, 0, none⟩)) ∧ w'.cell? ⟨w2.heap.size, 0, none⟩ = some (.string ⟨N.toArray⟩)) := fun w' hb' => ⟨(KC.out w' hb').2.2.1, (KC.out w' hb').2.2.2.2.1⟩
  obtain ⟨L6, hL6⟩ : ∃ L6, (frame body).length = L6 := ⟨_, rfl⟩
  rw [hL6] at RM hfl NV hf ⊢
  have HL6 := keep hL6
  clear hL6
  rw [wpIn_wide]
  go_region_held3 (fun w' => w'.cell? ⟨w.heap.size, 0, none⟩ = some (.pointer (some ⟨b, 0, none⟩)) ∧ w'.cell? ⟨w2.heap.size, 0, none⟩ = some (.string ⟨N.toArray⟩))
    (first | exact KS.out _ B6.out | exact KS.out _ B6.out.drew | exact KS.out _ b7.out | exact KS.out _ b7.out.drew | exact KS.out _ b8.out | exact KS.out _ b8.out.drew)
    (first
      | (go_at_call 52; refine (FM.out _ (by first | exact B6.out | exact B6.out.drew)).mono ?_; rintro e w7 ⟨rfl, hb7⟩; have b7 := keep hb7; clear hb7)
      | (go_at_call 53; refine (RM.out _ (by first | exact b7.out | exact b7.out.drew)).mono ?_; rintro e w8 ⟨rfl, hb8⟩; have b8 := keep hb8; clear hb8))
  obtain ⟨bel8, x8, x80, x81, x82, x83⟩ := KC.out w8 b8.out
  have M8 := keep x8
  have BL8 := keep bel8
  clear x8 bel8 x60 x61 x62 x63 M6
  gi_wp2
  have hc5 : (w8.setCell ⟨w.heap.size + 1, 0, none⟩ (.int .i64 4)).cell? ⟨w.heap.size + 1, 0, none⟩ = some (.int .i64 4) := World.cell?_setCell_same' _ _ _ (by rw [x81]; rfl)
  refine ⟨.int .i64 4, ?_, rfl, BL8.out.setCell (p := ⟨w.heap.size + 1, 0, none⟩) (by simp) _⟩
  simp [results, Tryz.f20, go_sem, hc5]
end Go.Proofs.YtohnfogdalnilaaGreatDoor
