/- The walk of HashPaths. -/
import Derived.Test.YtelebhcaljepaaaDoorQq
namespace Go.Proofs.YtelebhcaljepaaaDoor
open Go.RowKit

set_option maxHeartbeats 4000000 in
set_option maxRecDepth 100000 in
theorem hashPaths_walk (ao : Option Addr) (m c : Nat) (es : List ByteE) (i : Int) (w : World) (hL : Ld w) (hs : RSrc byteKind w ao m c es) (hm : m ≤ 5864062014634) (hg : ∀ e ∈ es, e.bytes.length ≤ 140737488351232) :
    Calls Tryd.prog 6 #[.slice ao m c, .int .i64 i] w fun e w' => e = .returned (.bool true) ∧ Below w.heap.size w w' := by
  have HLd := keep hL
  have HS := keep hs
  have HG := keep hg
  have HSL := keep hs.len
  have AW := keep (awake_any w hL)
  have LV : Hid (∀ w', Below w.heap.size w w' → Calls Tryd.prog 25 #[.slice ao m c] w' (RowR w' (leavesL es))) := fun w' h => leaves_any ao m c es w' (hs.below byteKind_ok h) (fun e he => by have := HG.out e he; omega) (by omega)
  have hlen := leaves_len es
  have H32 := keep (leaves_32 es)
  have HSH := keep (leaves_short es)
  have LAT := keep (fun k hk => leaves_at (es := es) (k := k) hk)
  rw [hs.len] at hlen
  obtain ⟨h, hh⟩ : ∃ h, leavesL es = h := ⟨_, rfl⟩
  rw [hh] at LV H32 HSH LAT hlen
  obtain ⟨H, hH⟩ : ∃ H, h.length = H := ⟨_, rfl⟩
  have HHL := keep hH
  rw [hH] at hlen LAT
  clear hL hs hg hh
  by_cases h0 : H = 0
  · go_enter Tryd.func6, Tryd.ntmps6
    go_wp2_with fail
    refine AW.out.mono ?_
    rintro e w1 ⟨rfl, hb1⟩
    have B1 := keep hb1
    clear hb1 AW
    go_wp2_with fail
    refine (LV.out w1 B1.out).mono ?_
    rintro e w2 ⟨v2, rfl, ho2, hb2⟩
    have B2 := keep (B1.out.trans (hb2.mono B1.out.size))
    rw [hH, h0] at ho2
    obtain ⟨a2, c2, rfl⟩ := own_is ho2
    clear ho2 hb2 LV h0 hH
    go_wp2
    go_ret
    exact ⟨rfl, B2.out⟩
  · obtain ⟨q, k, hq, hq1, hkm, hk⟩ := place_of i H (by omega)
    obtain ⟨x, hx1, hx2⟩ := LAT.out k hk
    have n0 : ((H : Int) == 0) = false := by simp; omega
    have n1 : ¬ (H : Int) = 0 := by omega
    have n2 : (H : Int) ≠ 0 := n1
    go_enter Tryd.func6, Tryd.ntmps6
    go_wp2_with fail
    refine AW.out.mono ?_
    rintro e w1 ⟨rfl, hb1⟩
    have B1 := keep hb1
    clear hb1 AW
    go_wp2_with fail
    refine (LV.out w1 B1.out).mono ?_
    rintro e w2 ⟨v2, rfl, ho2, hb2⟩
    have B2 := keep (B1.out.trans (hb2.mono B1.out.size))
    rw [hH] at ho2
    obtain ⟨a2, c2, rfl, hr2, _⟩ := RSrc.own strKind_ok ho2 (fun _ _ => trivial)
    have R2 := keep hr2
    clear ho2 hb2 LV hr2 hH
    obtain ⟨hb, hoff, ha2, _, hcell⟩ := strs_at R2.out (by omega)
    subst ha2
    have CY2 := keep (hcell k _ hx2)
    obtain ⟨ab, aoff, haa, _, hacell⟩ := slices_at HS.out (by rw [← HSL.out]; have := (List.getElem?_eq_some_iff.1 hx1).1; omega)
    subst haa
    have CXw := keep (hacell k x hx1)
    have XB := keep (HG.out x (List.mem_of_getElem? hx1))
    have XS := keep (HS.out.held x (List.mem_of_getElem? hx1))
    have PC := keep (path_check H32.out hx2 (by rw [HHL.out]; omega))
    rw [HHL.out] at PC
    have NC : Hid (∀ y ps r, checkP y (H : Int) (H : Int) ps r = 8) := fun y ps r => by
      unfold checkP
      have : inRange (H : Int) (H : Int) = false := by unfold inRange; simp
      rw [this]
      rfl
    have PA := keep (path_any H h HHL.out k hk (some ⟨hb, hoff, none⟩) c2 w2 (HLd.out.below B2.out) R2.out HSH.out (by omega))
    have PB : Hid (∀ w', Below w2.heap.size w2 w' → Calls Tryd.prog 16 #[.slice (some ⟨hb, hoff, none⟩) H c2, .int .i64 (H : Int)] w' fun e w'' => e = .returned (.tuple #[.slice none 0 0, .int .i64 8]) ∧ Below w'.heap.size w' w'') := fun w' _ => path_bad H (H : Int) _ c2 w' (.inr (by omega))
    obtain ⟨Y, hY⟩ : ∃ Y, leafL x.bytes = Y := ⟨_, rfl⟩
    obtain ⟨R, hR⟩ : ∃ R, rootL h = R := ⟨_, rfl⟩
    have LF0 : Hid (∀ w', Below w.heap.size w w' → Calls Tryd.prog 10 #[.slice x.ptr x.bytes.length x.cap] w' fun e w'' => e = .returned (.string ⟨Y.toArray⟩) ∧ Below w'.heap.size w' w'') := fun w' hb => by rw [← hY]; exact leaf_any x.ptr x.bytes.length x.cap x.bytes w' (by have := XB.out; omega) (HLd.out.below hb) (Src.below XS.out hb)
    have RO0 : Hid (∀ w', Below w2.heap.size w2 w' → Calls Tryd.prog 14 #[.slice (some ⟨hb, hoff, none⟩) H c2] w' fun e w'' => e = .returned (.string ⟨R.toArray⟩) ∧ Below w'.heap.size w' w'') := fun w' hb => by rw [← hR]; exact root_any H h HHL.out _ c2 w' (HLd.out.below (B2.out.trans (hb.mono B2.out.size))) (R2.out.below strKind_ok hb) HSH.out (by omega)
    rw [hY] at PC CY2
    rw [hR] at PC
    obtain ⟨xp, xc, xb⟩ := x
    obtain ⟨xl, hxl⟩ : ∃ xl, xb.length = xl := ⟨_, rfl⟩
    simp only at CXw LF0
    rw [hxl] at CXw LF0
    clear hcell hacell hx1 hx2 hY hR hxl XS XB LAT
    go_wp2_with fail
    refine PA.out.mono ?_
    rintro e w3 ⟨v3, rfl, ho3, hb3⟩
    have b3 := keep hb3
    have hPL : (pathL h k).length ≤ 40 := pathL_len (by rw [HHL.out]; exact hk) (by rw [HHL.out]; omega)
    obtain ⟨pp, pc, rfl, hr3, _⟩ := RSrc.own strKind_ok ho3 (fun _ _ => trivial)
    obtain ⟨P, hP⟩ : ∃ P, (pathL h k).length = P := ⟨_, rfl⟩
    rw [hP] at hr3 hPL ⊢
    have R3 := keep hr3
    clear ho3 hb3 hr3 hP PA
    go_wp2_with fail
    refine (PB.out w3 b3.out).mono ?_
    rintro e w4 ⟨rfl, hb4⟩
    have b4 := keep (b3.out.trans (hb4.mono b3.out.size))
    have R4 := keep (R3.out.below strKind_ok hb4)
    have B4 := keep (B2.out.trans (b4.out.mono B2.out.size))
    clear hb4 PB R3
    have CX := keep (below_cell B4.out CXw.out)
    have CY := keep (below_cell b4.out CY2.out)
    have LF : Hid (∀ w', Below w4.heap.size w4 w' → Calls Tryd.prog 10 #[.slice xp xl xc] w' fun e w'' => e = .returned (.string ⟨Y.toArray⟩) ∧ Below w'.heap.size w' w'') := fun w' hb => LF0.out w' (B4.out.trans (hb.mono B4.out.size))
    have RO : Hid (∀ w', Below w4.heap.size w4 w' → Calls Tryd.prog 14 #[.slice (some ⟨hb, hoff, none⟩) H c2] w' fun e w'' => e = .returned (.string ⟨R.toArray⟩) ∧ Below w'.heap.size w' w'') := fun w' hb => RO0.out w' (b4.out.trans (hb.mono b4.out.size))
    have CK : Hid (∀ w', Below w4.heap.size w4 w' → Calls Tryd.prog 21 #[.string ⟨Y.toArray⟩, .int .i64 (k : Int), .int .i64 (H : Int), .slice pp P pc, .string ⟨R.toArray⟩] w' fun e w'' => e = .returned (.int .i64 0) ∧ Below w'.heap.size w' w'') := fun w' hb => by rw [← PC.out]; exact checkPath_any Y k H pp P pc (pathL h k) R w' (HLd.out.below (B4.out.trans (hb.mono B4.out.size))) (R4.out.below strKind_ok hb) (by omega)
    have CN : Hid (∀ w', Below w4.heap.size w4 w' → Calls Tryd.prog 21 #[.string ⟨Y.toArray⟩, .int .i64 (H : Int), .int .i64 (H : Int), .slice pp P pc, .string ⟨R.toArray⟩] w' fun e w'' => e = .returned (.int .i64 8) ∧ Below w'.heap.size w' w'') := fun w' hb => by rw [← NC.out Y (pathL h k) R]; exact checkPath_any Y H H pp P pc (pathL h k) R w' (HLd.out.below (B4.out.trans (hb.mono B4.out.size))) (R4.out.below strKind_ok hb) (by omega)
    have k0 : (0 : Int) ≤ (k : Int) := by omega
    have k1 : (k : Int) < (H : Int) := by omega
    have k2 : (k : Int) < (m : Int) := by omega
    clear hq hkm n0 n1 n2 LF0 RO0 CXw CY2
    go_wp2_with fail
    refine wp_region_held_drew (S := fun w' => Below w4.heap.size w4 w') (by kernel_rfl) ((Below.refl w4.heap.size w4).drew) (fun hZ => ?_)
    refine takeH (i := 0) 37 (v := .bool true) rfl rfl (by kernel_rfl) (by kernel_rfl) (by kernel_rfl) (fun _ _ _ h => h) (Or.inl ⟨by rfl, ?_⟩) (by assumption) ?_
    · intro w' hSw'
      go_simp
    simp only [Act.put, List.setIfInBounds_toArray, List.set_cons_zero, List.set_cons_succ]
    refine takeH (i := 1) 38 (v := .bool true) rfl rfl (by kernel_rfl) (by kernel_rfl) (by kernel_rfl) (fun _ _ _ h => h) (Or.inl ⟨by rfl, ?_⟩) (by assumption) ?_
    · intro w' hSw'
      go_simp
    simp only [Act.put, List.setIfInBounds_toArray, List.set_cons_zero, List.set_cons_succ]
    refine takeH (i := 2) 39 (v := .int .i64 0) rfl rfl (by kernel_rfl) (by kernel_rfl) (by kernel_rfl) (fun _ _ _ h => h) (Or.inl ⟨by rfl, ?_⟩) (by assumption) ?_
    · intro w' hSw'
      go_simp
    simp only [Act.put, List.setIfInBounds_toArray, List.set_cons_zero, List.set_cons_succ]
    refine takeH (i := 3) 40 (v := .bool true) rfl rfl (by kernel_rfl) (by kernel_rfl) (by kernel_rfl) (fun _ _ _ h => h) (Or.inl ⟨by rfl, ?_⟩) (by assumption) ?_
    · intro w' hSw'
      go_simp
    simp only [Act.put, List.setIfInBounds_toArray, List.set_cons_zero, List.set_cons_succ]
    refine takeH (i := 4) 41 (v := .bool true) rfl rfl (by kernel_rfl) (by kernel_rfl) (by kernel_rfl) (fun _ _ _ h => h) (Or.inl ⟨by rfl, ?_⟩) (by assumption) ?_
    · intro w' hSw'
      go_simp
    simp only [Act.put, List.setIfInBounds_toArray, List.set_cons_zero, List.set_cons_succ]
    refine takeH (i := 5) 42 (v := .bool true) rfl rfl (by kernel_rfl) (by kernel_rfl) (by kernel_rfl) (fun _ _ _ h => h) (Or.inl ⟨by rfl, ?_⟩) (by assumption) ?_
    · intro w' hSw'
      go_simp
    simp only [Act.put, List.setIfInBounds_toArray, List.set_cons_zero, List.set_cons_succ]
    refine takeH (i := 6) 43 (v := .int .i64 8) rfl rfl (by kernel_rfl) (by kernel_rfl) (by kernel_rfl) (fun _ _ _ h => h) (Or.inl ⟨by rfl, ?_⟩) (by assumption) ?_
    · intro w' hSw'
      go_simp
    simp only [Act.put, List.setIfInBounds_toArray, List.set_cons_zero, List.set_cons_succ]
    refine takeH (i := 7) 44 (v := .bool true) rfl rfl (by kernel_rfl) (by kernel_rfl) (by kernel_rfl) (fun _ _ _ h => h) (Or.inl ⟨by rfl, ?_⟩) (by assumption) ?_
    · intro w' hSw'
      go_simp
    simp only [Act.put, List.setIfInBounds_toArray, List.set_cons_zero, List.set_cons_succ]
    refine takeH (i := 8) 45 (v := .bool true) rfl rfl (by kernel_rfl) (by kernel_rfl) (by kernel_rfl) (fun _ _ _ h => h) (Or.inl ⟨by rfl, ?_⟩) (by assumption) ?_
    · intro w' hSw'
      go_simp
    simp only [Act.put, List.setIfInBounds_toArray, List.set_cons_zero, List.set_cons_succ]
    refine takeH (i := 9) 46 (v := .bool true) rfl rfl (by kernel_rfl) (by kernel_rfl) (by kernel_rfl) (fun _ _ _ h => h) (Or.inl ⟨by rfl, ?_⟩) (by assumption) ?_
    · intro w' hSw'
      go_simp
    simp only [Act.put, List.setIfInBounds_toArray, List.set_cons_zero, List.set_cons_succ]
    refine takeH (i := 10) 47 (v := .slice (some ⟨ab, aoff, none⟩) m c) rfl rfl (by kernel_rfl) (by kernel_rfl) (by kernel_rfl) (fun _ _ _ h => h) (Or.inl ⟨by rfl, ?_⟩) (by assumption) ?_
    · intro w' hSw'
      go_simp
    simp only [Act.put, List.setIfInBounds_toArray, List.set_cons_zero, List.set_cons_succ]
    refine takeH (i := 11) 48 (v := .int .i64 (k : Int)) rfl rfl (by kernel_rfl) (by kernel_rfl) (by kernel_rfl) (fun _ _ _ h => h) (Or.inl ⟨by rfl, ?_⟩) (by assumption) ?_
    · intro w' hSw'
      go_simp
    simp only [Act.put, List.setIfInBounds_toArray, List.set_cons_zero, List.set_cons_succ]
    refine takeH (i := 12) 49 (v := .pointer (some ⟨ab, aoff + k, none⟩)) rfl rfl (by kernel_rfl) (by kernel_rfl) (by kernel_rfl) (fun _ _ _ h => h) (Or.inl ⟨by rfl, ?_⟩) (by assumption) ?_
    · intro w' hSw'
      go_simp
    simp only [Act.put, List.setIfInBounds_toArray, List.set_cons_zero, List.set_cons_succ]
    refine takeH (i := 13) 50 (v := .slice xp xl xc) rfl rfl (by kernel_rfl) (by kernel_rfl) (by kernel_rfl) (fun _ _ _ h => h) (Or.inl ⟨by rfl, ?_⟩) (by assumption) ?_
    · intro w' hSw'
      have z0 := below_cell hSw' CX.out
      go_simp
    simp only [Act.put, List.setIfInBounds_toArray, List.set_cons_zero, List.set_cons_succ]
    refine takeH (i := 15) 52 (v := .int .i64 (k : Int)) rfl rfl (by kernel_rfl) (by kernel_rfl) (by kernel_rfl) (fun _ _ _ h => h) (Or.inl ⟨by rfl, ?_⟩) (by assumption) ?_
    · intro w' hSw'
      go_simp
    simp only [Act.put, List.setIfInBounds_toArray, List.set_cons_zero, List.set_cons_succ]
    refine takeH (i := 16) 53 (v := .slice (some ⟨hb, hoff, none⟩) H c2) rfl rfl (by kernel_rfl) (by kernel_rfl) (by kernel_rfl) (fun _ _ _ h => h) (Or.inl ⟨by rfl, ?_⟩) (by assumption) ?_
    · intro w' hSw'
      go_simp
    simp only [Act.put, List.setIfInBounds_toArray, List.set_cons_zero, List.set_cons_succ]
    refine takeH (i := 17) 54 (v := .int .i64 (H : Int)) rfl rfl (by kernel_rfl) (by kernel_rfl) (by kernel_rfl) (fun _ _ _ h => h) (Or.inl ⟨by rfl, ?_⟩) (by assumption) ?_
    · intro w' hSw'
      go_simp
    simp only [Act.put, List.setIfInBounds_toArray, List.set_cons_zero, List.set_cons_succ]
    refine takeH (i := 18) 55 (v := .slice pp P pc) rfl rfl (by kernel_rfl) (by kernel_rfl) (by kernel_rfl) (fun _ _ _ h => h) (Or.inl ⟨by rfl, ?_⟩) (by assumption) ?_
    · intro w' hSw'
      go_simp
    simp only [Act.put, List.setIfInBounds_toArray, List.set_cons_zero, List.set_cons_succ]
    refine takeH (i := 19) 56 (v := .slice (some ⟨hb, hoff, none⟩) H c2) rfl rfl (by kernel_rfl) (by kernel_rfl) (by kernel_rfl) (fun _ _ _ h => h) (Or.inl ⟨by rfl, ?_⟩) (by assumption) ?_
    · intro w' hSw'
      go_simp
    simp only [Act.put, List.setIfInBounds_toArray, List.set_cons_zero, List.set_cons_succ]
    refine wpAnyH_ready (rs := [14]) (by kernel_rfl) (by simp) ?_
    refine AllReadyH.cons rfl (fun K hK => ?_) AllReadyH.nil
    go_simp
    refine (LF.out _ (Below.refl w4.heap.size w4).drew).mono ?_
    rintro e w5 ⟨rfl, hb5⟩
    have b5 : Hid (Below w4.heap.size w4 w5) := (Below.refl w4.heap.size w4).drew.trans (hb5.mono (Below.refl w4.heap.size w4).drew.size)
    clear hb5
    go_wp2_with fail
    refine hK.out _ _ (b5.out) (fun hZ1 => ?_)
    clear hK K
    refine wpAnyH_ready (rs := [20]) (by kernel_rfl) (by simp) ?_
    refine AllReadyH.cons rfl (fun K hK => ?_) AllReadyH.nil
    go_simp
    refine (RO.out w5 b5.out).mono ?_
    rintro e w6 ⟨rfl, hb6⟩
    have b6 : Hid (Below w4.heap.size w4 w6) := b5.out.trans (hb6.mono b5.out.size)
    clear hb6
    go_wp2_with fail
    refine hK.out _ _ (b6.out) (fun hZ2 => ?_)
    clear hK K
    refine wpAnyH_ready (rs := [21]) (by kernel_rfl) (by simp) ?_
    refine AllReadyH.cons rfl (fun K hK => ?_) AllReadyH.nil
    go_simp
    refine (CK.out w6 b6.out).mono ?_
    rintro e w7 ⟨rfl, hb7⟩
    have b7 : Hid (Below w4.heap.size w4 w7) := b6.out.trans (hb7.mono b6.out.size)
    clear hb7
    go_wp2_with fail
    refine hK.out _ _ (b7.out) (fun hZ3 => ?_)
    clear hK K
    refine takeH (i := 0x16) 59 (v := .bool true) rfl rfl (by kernel_rfl) (by kernel_rfl) (by kernel_rfl) (fun _ _ _ h => h) (Or.inl ⟨by rfl, ?_⟩) (by assumption) ?_
    · intro w' hSw'
      go_simp
    simp only [Act.put, List.setIfInBounds_toArray, List.set_cons_zero, List.set_cons_succ]
    refine takeH (i := 23) 60 (v := .bool true) rfl rfl (by kernel_rfl) (by kernel_rfl) (by kernel_rfl) (fun _ _ _ h => h) (Or.inl ⟨by rfl, ?_⟩) (by assumption) ?_
    · intro w' hSw'
      go_simp
    simp only [Act.put, List.setIfInBounds_toArray, List.set_cons_zero, List.set_cons_succ]
    refine takeH (i := 24) 61 (v := .bool true) rfl rfl (by kernel_rfl) (by kernel_rfl) (by kernel_rfl) (fun _ _ _ h => h) (Or.inl ⟨by rfl, ?_⟩) (by assumption) ?_
    · intro w' hSw'
      go_simp
    simp only [Act.put, List.setIfInBounds_toArray, List.set_cons_zero, List.set_cons_succ]
    refine takeH (i := 25) 62 (v := .slice (some ⟨hb, hoff, none⟩) H c2) rfl rfl (by kernel_rfl) (by kernel_rfl) (by kernel_rfl) (fun _ _ _ h => h) (Or.inl ⟨by rfl, ?_⟩) (by assumption) ?_
    · intro w' hSw'
      go_simp
    simp only [Act.put, List.setIfInBounds_toArray, List.set_cons_zero, List.set_cons_succ]
    refine takeH (i := 26) 63 (v := .int .i64 (k : Int)) rfl rfl (by kernel_rfl) (by kernel_rfl) (by kernel_rfl) (fun _ _ _ h => h) (Or.inl ⟨by rfl, ?_⟩) (by assumption) ?_
    · intro w' hSw'
      go_simp
    simp only [Act.put, List.setIfInBounds_toArray, List.set_cons_zero, List.set_cons_succ]
    refine takeH (i := 27) 64 (v := .pointer (some ⟨hb, hoff + k, none⟩)) rfl rfl (by kernel_rfl) (by kernel_rfl) (by kernel_rfl) (fun _ _ _ h => h) (Or.inl ⟨by rfl, ?_⟩) (by assumption) ?_
    · intro w' hSw'
      go_simp
    simp only [Act.put, List.setIfInBounds_toArray, List.set_cons_zero, List.set_cons_succ]
    refine takeH (i := 28) 65 (v := .string ⟨Y.toArray⟩) rfl rfl (by kernel_rfl) (by kernel_rfl) (by kernel_rfl) (fun _ _ _ h => h) (Or.inl ⟨by rfl, ?_⟩) (by assumption) ?_
    · intro w' hSw'
      have z0 := below_cell hSw' CY.out
      go_simp
    simp only [Act.put, List.setIfInBounds_toArray, List.set_cons_zero, List.set_cons_succ]
    refine takeH (i := 29) 66 (v := .slice (some ⟨hb, hoff, none⟩) H c2) rfl rfl (by kernel_rfl) (by kernel_rfl) (by kernel_rfl) (fun _ _ _ h => h) (Or.inl ⟨by rfl, ?_⟩) (by assumption) ?_
    · intro w' hSw'
      go_simp
    simp only [Act.put, List.setIfInBounds_toArray, List.set_cons_zero, List.set_cons_succ]
    refine takeH (i := 30) 67 (v := .int .i64 (H : Int)) rfl rfl (by kernel_rfl) (by kernel_rfl) (by kernel_rfl) (fun _ _ _ h => h) (Or.inl ⟨by rfl, ?_⟩) (by assumption) ?_
    · intro w' hSw'
      go_simp
    simp only [Act.put, List.setIfInBounds_toArray, List.set_cons_zero, List.set_cons_succ]
    refine takeH (i := 31) 68 (v := .slice (some ⟨hb, hoff, none⟩) H c2) rfl rfl (by kernel_rfl) (by kernel_rfl) (by kernel_rfl) (fun _ _ _ h => h) (Or.inl ⟨by rfl, ?_⟩) (by assumption) ?_
    · intro w' hSw'
      go_simp
    simp only [Act.put, List.setIfInBounds_toArray, List.set_cons_zero, List.set_cons_succ]
    refine takeH (i := 32) 69 (v := .int .i64 (H : Int)) rfl rfl (by kernel_rfl) (by kernel_rfl) (by kernel_rfl) (fun _ _ _ h => h) (Or.inl ⟨by rfl, ?_⟩) (by assumption) ?_
    · intro w' hSw'
      go_simp
    simp only [Act.put, List.setIfInBounds_toArray, List.set_cons_zero, List.set_cons_succ]
    refine takeH (i := 33) 70 (v := .slice pp P pc) rfl rfl (by kernel_rfl) (by kernel_rfl) (by kernel_rfl) (fun _ _ _ h => h) (Or.inl ⟨by rfl, ?_⟩) (by assumption) ?_
    · intro w' hSw'
      go_simp
    simp only [Act.put, List.setIfInBounds_toArray, List.set_cons_zero, List.set_cons_succ]
    refine takeH (i := 34) 71 (v := .slice (some ⟨hb, hoff, none⟩) H c2) rfl rfl (by kernel_rfl) (by kernel_rfl) (by kernel_rfl) (fun _ _ _ h => h) (Or.inl ⟨by rfl, ?_⟩) (by assumption) ?_
    · intro w' hSw'
      go_simp
    simp only [Act.put, List.setIfInBounds_toArray, List.set_cons_zero, List.set_cons_succ]
    refine wpAnyH_ready (rs := [35]) (by kernel_rfl) (by simp) ?_
    refine AllReadyH.cons rfl (fun K hK => ?_) AllReadyH.nil
    go_simp
    refine (RO.out w7 b7.out).mono ?_
    rintro e w8 ⟨rfl, hb8⟩
    have b8 : Hid (Below w4.heap.size w4 w8) := b7.out.trans (hb8.mono b7.out.size)
    clear hb8
    go_wp2_with fail
    refine hK.out _ _ (b8.out) (fun hZ4 => ?_)
    clear hK K
    refine wpAnyH_ready (rs := [36]) (by kernel_rfl) (by simp) ?_
    refine AllReadyH.cons rfl (fun K hK => ?_) AllReadyH.nil
    go_simp
    refine (CN.out w8 b8.out).mono ?_
    rintro e w9 ⟨rfl, hb9⟩
    have b9 : Hid (Below w4.heap.size w4 w9) := b8.out.trans (hb9.mono b8.out.size)
    clear hb9
    go_wp2_with fail
    refine hK.out _ _ (b9.out) (fun hZ5 => ?_)
    clear hK K
    refine takeH (i := 37) 74 (v := .bool true) rfl rfl (by kernel_rfl) (by kernel_rfl) (by kernel_rfl) (fun _ _ _ h => h) (Or.inl ⟨by rfl, ?_⟩) (by assumption) ?_
    · intro w' hSw'
      go_simp
    simp only [Act.put, List.setIfInBounds_toArray, List.set_cons_zero, List.set_cons_succ]
    refine takeH (i := 38) 75 (v := .bool true) rfl rfl (by kernel_rfl) (by kernel_rfl) (by kernel_rfl) (fun _ _ _ h => h) (Or.inl ⟨by rfl, ?_⟩) (by assumption) ?_
    · intro w' hSw'
      go_simp
    simp only [Act.put, List.setIfInBounds_toArray, List.set_cons_zero, List.set_cons_succ]
    refine takeH (i := 39) 4 (v := .bool true) rfl rfl (by kernel_rfl) (by kernel_rfl) (by kernel_rfl) (fun _ _ _ h => h) (Or.inl ⟨by rfl, ?_⟩) (by assumption) ?_
    · intro w' hSw'
      go_simp
    simp only [Act.put, List.setIfInBounds_toArray, List.set_cons_zero, List.set_cons_succ]
    refine wpAnyH_done (by kernel_rfl) ?_ _
    go_wp2
    go_ret
    exact ⟨rfl, B4.out.trans (b9.out.mono B4.out.size)⟩
end Go.Proofs.YtelebhcaljepaaaDoor
