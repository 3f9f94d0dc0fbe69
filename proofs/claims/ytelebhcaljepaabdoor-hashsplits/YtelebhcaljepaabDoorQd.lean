/- The walk of HashSplits. -/
import Derived.Test.YtelebhcaljepaabDoorQq
namespace Go.Proofs.YtelebhcaljepaabDoor
open Go.RowKit

set_option maxHeartbeats 4000000 in
set_option maxRecDepth 100000 in
theorem hashSplits_walk (ao : Option Addr) (m c : Nat) (es : List ByteE) (w : World) (hL : Ld w) (hs : RSrc byteKind w ao m c es) (hm : m ≤ 5864062014634) (hg : ∀ e ∈ es, e.bytes.length ≤ 140737488351232) :
    Calls Tryd.prog 4 #[.slice ao m c] w fun e w' => e = .returned (.bool true) ∧ Below w.heap.size w w' := by
  have HLd := keep hL
  have HG := keep hg
  have AW := keep (awake_any w hL)
  have LV : Hid (∀ w', Below w.heap.size w w' → Calls Tryd.prog 10 #[.slice ao m c] w' (RowR w' (leavesL es))) := fun w' h => leaves_any ao m c es w' (hs.below byteKind_ok h) (fun e he => by have := HG.out e he; omega) (by omega)
  have hlen := leaves_len es
  have HSH := keep (leaves_short es)
  rw [hs.len] at hlen
  obtain ⟨h, hh⟩ : ∃ h, leavesL es = h := ⟨_, rfl⟩
  rw [hh] at LV HSH hlen
  obtain ⟨H, hH⟩ : ∃ H, h.length = H := ⟨_, rfl⟩
  have HHL := keep hH
  rw [hH] at hlen
  clear hL hs hg hh
  by_cases h0 : H = 0
  · subst h0
    go_enter Tryd.func4, Tryd.ntmps4
    go_wp2_with fail
    refine AW.out.mono ?_
    rintro e w1 ⟨rfl, hb1⟩
    have B1 := keep hb1
    clear hb1 AW
    go_wp2_with fail
    refine (LV.out w1 B1.out).mono ?_
    rintro e w2 ⟨v2, rfl, ho2, hb2⟩
    have B2 := keep (B1.out.trans (hb2.mono B1.out.size))
    rw [hH] at ho2
    obtain ⟨a2, c2, rfl, hr2, _⟩ := RSrc.own strKind_ok ho2 (fun _ _ => trivial)
    have R2 := keep hr2
    clear ho2 hb2 LV hr2 hH
    go_wp2_with fail
    refine wp_region_held_drew (S := fun w' => Below w2.heap.size w2 w') (by kernel_rfl) ((Below.refl w2.heap.size w2).drew) (fun hZ => ?_)
    refine takeH (i := 0) 12 (v := .bool true) rfl rfl (by kernel_rfl) (by kernel_rfl) (by kernel_rfl) (fun _ _ _ h => h) (Or.inl ⟨by rfl, ?_⟩) (by assumption) ?_
    · intro w' hSw'
      go_simp
    simp only [Act.put, List.setIfInBounds_toArray, List.set_cons_zero, List.set_cons_succ]
    refine takeH (i := 1) 13 (v := .bool true) rfl rfl (by kernel_rfl) (by kernel_rfl) (by kernel_rfl) (fun _ _ _ h => h) (Or.inl ⟨by rfl, ?_⟩) (by assumption) ?_
    · intro w' hSw'
      go_simp
    simp only [Act.put, List.setIfInBounds_toArray, List.set_cons_zero, List.set_cons_succ]
    refine takeH (i := 2) 14 (v := .slice a2 0 c2) rfl rfl (by kernel_rfl) (by kernel_rfl) (by kernel_rfl) (fun _ _ _ h => h) (Or.inl ⟨by rfl, ?_⟩) (by assumption) ?_
    · intro w' hSw'
      go_simp
    simp only [Act.put, List.setIfInBounds_toArray, List.set_cons_zero, List.set_cons_succ]
    refine takeH (i := 3) 15 (v := .int .i64 0) rfl rfl (by kernel_rfl) (by kernel_rfl) (by kernel_rfl) (fun _ _ _ h => h) (Or.inl ⟨by rfl, ?_⟩) (by assumption) ?_
    · intro w' hSw'
      go_simp
    simp only [Act.put, List.setIfInBounds_toArray, List.set_cons_zero, List.set_cons_succ]
    refine takeH (i := 4) 16 (v := .bool true) rfl rfl (by kernel_rfl) (by kernel_rfl) (by kernel_rfl) (fun _ _ _ h => h) (Or.inl ⟨by rfl, ?_⟩) (by assumption) ?_
    · intro w' hSw'
      go_simp
    simp only [Act.put, List.setIfInBounds_toArray, List.set_cons_zero, List.set_cons_succ]
    refine takeH (i := 5) 17 (v := .bool true) rfl rfl (by kernel_rfl) (by kernel_rfl) (by kernel_rfl) (fun _ _ _ h => h) (Or.inl ⟨by rfl, ?_⟩) (by assumption) ?_
    · intro w' hSw'
      go_simp
    simp only [Act.put, List.setIfInBounds_toArray, List.set_cons_zero, List.set_cons_succ]
    refine takeH (i := 6) 18 (v := undef) rfl rfl (by kernel_rfl) (by kernel_rfl) (by kernel_rfl) (fun _ _ _ h => h) (Or.inr ⟨by rfl, rfl⟩) (by assumption) ?_
    simp only [Act.put, List.setIfInBounds_toArray, List.set_cons_zero, List.set_cons_succ]
    refine takeH (i := 7) 19 (v := undef) rfl rfl (by kernel_rfl) (by kernel_rfl) (by kernel_rfl) (fun _ _ _ h => h) (Or.inr ⟨by rfl, rfl⟩) (by assumption) ?_
    simp only [Act.put, List.setIfInBounds_toArray, List.set_cons_zero, List.set_cons_succ]
    refine takeH (i := 8) 20 (v := undef) rfl rfl (by kernel_rfl) (by kernel_rfl) (by kernel_rfl) (fun _ _ _ h => h) (Or.inr ⟨by rfl, rfl⟩) (by assumption) ?_
    simp only [Act.put, List.setIfInBounds_toArray, List.set_cons_zero, List.set_cons_succ]
    refine takeH (i := 9) 21 (v := undef) rfl rfl (by kernel_rfl) (by kernel_rfl) (by kernel_rfl) (fun _ _ _ h => h) (Or.inr ⟨by rfl, rfl⟩) (by assumption) ?_
    simp only [Act.put, List.setIfInBounds_toArray, List.set_cons_zero, List.set_cons_succ]
    refine takeH (i := 10) 0x16 (v := undef) rfl rfl (by kernel_rfl) (by kernel_rfl) (by kernel_rfl) (fun _ _ _ h => h) (Or.inr ⟨by rfl, rfl⟩) (by assumption) ?_
    simp only [Act.put, List.setIfInBounds_toArray, List.set_cons_zero, List.set_cons_succ]
    refine takeH (i := 11) 23 (v := undef) rfl rfl (by kernel_rfl) (by kernel_rfl) (by kernel_rfl) (fun _ _ _ h => h) (Or.inr ⟨by rfl, rfl⟩) (by assumption) ?_
    simp only [Act.put, List.setIfInBounds_toArray, List.set_cons_zero, List.set_cons_succ]
    refine takeH (i := 12) 24 (v := .bool true) rfl rfl (by kernel_rfl) (by kernel_rfl) (by kernel_rfl) (fun _ _ _ h => h) (Or.inl ⟨by rfl, ?_⟩) (by assumption) ?_
    · intro w' hSw'
      go_simp
    simp only [Act.put, List.setIfInBounds_toArray, List.set_cons_zero, List.set_cons_succ]
    refine takeH (i := 13) 25 (v := .bool true) rfl rfl (by kernel_rfl) (by kernel_rfl) (by kernel_rfl) (fun _ _ _ h => h) (Or.inl ⟨by rfl, ?_⟩) (by assumption) ?_
    · intro w' hSw'
      go_simp
    simp only [Act.put, List.setIfInBounds_toArray, List.set_cons_zero, List.set_cons_succ]
    refine takeH (i := 14) 2 (v := .bool true) rfl rfl (by kernel_rfl) (by kernel_rfl) (by kernel_rfl) (fun _ _ _ h => h) (Or.inl ⟨by rfl, ?_⟩) (by assumption) ?_
    · intro w' hSw'
      go_simp
    simp only [Act.put, List.setIfInBounds_toArray, List.set_cons_zero, List.set_cons_succ]
    refine wpAnyH_done (by kernel_rfl) ?_ _
    go_wp2
    go_ret
    exact ⟨rfl, B2.out.drew⟩
  by_cases h1 : H = 1
  · subst h1
    obtain ⟨Y, hY⟩ : ∃ Y, h = [Y] := by
      match h, HHL.out with
      | [a], _ => exact ⟨a, rfl⟩
    subst hY
    go_enter Tryd.func4, Tryd.ntmps4
    go_wp2_with fail
    refine AW.out.mono ?_
    rintro e w1 ⟨rfl, hb1⟩
    have B1 := keep hb1
    clear hb1 AW
    go_wp2_with fail
    refine (LV.out w1 B1.out).mono ?_
    rintro e w2 ⟨v2, rfl, ho2, hb2⟩
    have B2 := keep (B1.out.trans (hb2.mono B1.out.size))
    rw [hH] at ho2
    obtain ⟨a2, c2, rfl, hr2, _⟩ := RSrc.own strKind_ok ho2 (fun _ _ => trivial)
    have R2 := keep hr2
    clear ho2 hb2 LV hr2 hH
    obtain ⟨hb, hoff, ha2, _, hcell⟩ := strs_at R2.out (by decide)
    subst ha2
    have CY := keep (hcell 0 Y rfl)
    rw [Nat.add_zero] at CY
    have RO : Hid (∀ w', Below w2.heap.size w2 w' → Calls Tryd.prog 11 #[.slice (some ⟨hb, hoff, none⟩) 1 c2] w' fun e w'' => e = .returned (.string ⟨Y.toArray⟩) ∧ Below w'.heap.size w' w'') := fun w' hb => by
      have := root_any 1 [Y] rfl _ c2 w' (HLd.out.below (B2.out.trans (hb.mono B2.out.size))) (R2.out.below strKind_ok hb) HSH.out (by decide)
      rw [show rootL [Y] = Y from Mt.root_one _ _ _] at this
      exact this
    clear hcell
    go_wp2_with fail
    refine wp_region_held_drew (S := fun w' => Below w2.heap.size w2 w') (by kernel_rfl) ((Below.refl w2.heap.size w2).drew) (fun hZ => ?_)
    refine takeH (i := 0) 12 (v := .bool true) rfl rfl (by kernel_rfl) (by kernel_rfl) (by kernel_rfl) (fun _ _ _ h => h) (Or.inl ⟨by rfl, ?_⟩) (by assumption) ?_
    · intro w' hSw'
      go_simp
    simp only [Act.put, List.setIfInBounds_toArray, List.set_cons_zero, List.set_cons_succ]
    refine takeH (i := 1) 13 (v := .bool true) rfl rfl (by kernel_rfl) (by kernel_rfl) (by kernel_rfl) (fun _ _ _ h => h) (Or.inl ⟨by rfl, ?_⟩) (by assumption) ?_
    · intro w' hSw'
      go_simp
    simp only [Act.put, List.setIfInBounds_toArray, List.set_cons_zero, List.set_cons_succ]
    refine takeH (i := 2) 14 (v := .slice (some ⟨hb, hoff, none⟩) 1 c2) rfl rfl (by kernel_rfl) (by kernel_rfl) (by kernel_rfl) (fun _ _ _ h => h) (Or.inl ⟨by rfl, ?_⟩) (by assumption) ?_
    · intro w' hSw'
      go_simp
    simp only [Act.put, List.setIfInBounds_toArray, List.set_cons_zero, List.set_cons_succ]
    refine takeH (i := 3) 15 (v := .int .i64 1) rfl rfl (by kernel_rfl) (by kernel_rfl) (by kernel_rfl) (fun _ _ _ h => h) (Or.inl ⟨by rfl, ?_⟩) (by assumption) ?_
    · intro w' hSw'
      go_simp
    simp only [Act.put, List.setIfInBounds_toArray, List.set_cons_zero, List.set_cons_succ]
    refine takeH (i := 4) 16 (v := .bool false) rfl rfl (by kernel_rfl) (by kernel_rfl) (by kernel_rfl) (fun _ _ _ h => h) (Or.inl ⟨by rfl, ?_⟩) (by assumption) ?_
    · intro w' hSw'
      go_simp
    simp only [Act.put, List.setIfInBounds_toArray, List.set_cons_zero, List.set_cons_succ]
    refine takeH (i := 5) 17 (v := .bool false) rfl rfl (by kernel_rfl) (by kernel_rfl) (by kernel_rfl) (fun _ _ _ h => h) (Or.inl ⟨by rfl, ?_⟩) (by assumption) ?_
    · intro w' hSw'
      go_simp
    simp only [Act.put, List.setIfInBounds_toArray, List.set_cons_zero, List.set_cons_succ]
    refine takeH (i := 6) 18 (v := .slice (some ⟨hb, hoff, none⟩) 1 c2) rfl rfl (by kernel_rfl) (by kernel_rfl) (by kernel_rfl) (fun _ _ _ h => h) (Or.inl ⟨by rfl, ?_⟩) (by assumption) ?_
    · intro w' hSw'
      go_simp
    simp only [Act.put, List.setIfInBounds_toArray, List.set_cons_zero, List.set_cons_succ]
    refine takeH (i := 8) 20 (v := .slice (some ⟨hb, hoff, none⟩) 1 c2) rfl rfl (by kernel_rfl) (by kernel_rfl) (by kernel_rfl) (fun _ _ _ h => h) (Or.inl ⟨by rfl, ?_⟩) (by assumption) ?_
    · intro w' hSw'
      go_simp
    simp only [Act.put, List.setIfInBounds_toArray, List.set_cons_zero, List.set_cons_succ]
    refine takeH (i := 9) 21 (v := .pointer (some ⟨hb, hoff, none⟩)) rfl rfl (by kernel_rfl) (by kernel_rfl) (by kernel_rfl) (fun _ _ _ h => h) (Or.inl ⟨by rfl, ?_⟩) (by assumption) ?_
    · intro w' hSw'
      go_simp
    simp only [Act.put, List.setIfInBounds_toArray, List.set_cons_zero, List.set_cons_succ]
    refine takeH (i := 10) 0x16 (v := .string ⟨Y.toArray⟩) rfl rfl (by kernel_rfl) (by kernel_rfl) (by kernel_rfl) (fun _ _ _ h => h) (Or.inl ⟨by rfl, ?_⟩) (by assumption) ?_
    · intro w' hSw'
      have z0 := below_cell hSw' CY.out
      go_simp
    simp only [Act.put, List.setIfInBounds_toArray, List.set_cons_zero, List.set_cons_succ]
    refine wpAnyH_ready (rs := [7]) (by kernel_rfl) (by simp) ?_
    refine AllReadyH.cons rfl (fun K hK => ?_) AllReadyH.nil
    go_simp
    refine (RO.out _ (Below.refl w2.heap.size w2).drew).mono ?_
    rintro e w5 ⟨rfl, hb5⟩
    have b5 : Hid (Below w2.heap.size w2 w5) := (Below.refl w2.heap.size w2).drew.trans (hb5.mono (Nat.le_refl _))
    clear hb5
    go_wp2_with fail
    refine hK.out _ _ (b5.out) (fun hZ1 => ?_)
    clear hK K
    refine takeH (i := 11) 23 (v := .bool true) rfl rfl (by kernel_rfl) (by kernel_rfl) (by kernel_rfl) (fun _ _ _ h => h) (Or.inl ⟨by rfl, ?_⟩) (by assumption) ?_
    · intro w' hSw'
      go_simp
    simp only [Act.put, List.setIfInBounds_toArray, List.set_cons_zero, List.set_cons_succ]
    refine takeH (i := 12) 24 (v := .bool true) rfl rfl (by kernel_rfl) (by kernel_rfl) (by kernel_rfl) (fun _ _ _ h => h) (Or.inl ⟨by rfl, ?_⟩) (by assumption) ?_
    · intro w' hSw'
      go_simp
    simp only [Act.put, List.setIfInBounds_toArray, List.set_cons_zero, List.set_cons_succ]
    refine takeH (i := 13) 25 (v := .bool true) rfl rfl (by kernel_rfl) (by kernel_rfl) (by kernel_rfl) (fun _ _ _ h => h) (Or.inl ⟨by rfl, ?_⟩) (by assumption) ?_
    · intro w' hSw'
      go_simp
    simp only [Act.put, List.setIfInBounds_toArray, List.set_cons_zero, List.set_cons_succ]
    refine takeH (i := 14) 2 (v := .bool true) rfl rfl (by kernel_rfl) (by kernel_rfl) (by kernel_rfl) (fun _ _ _ h => h) (Or.inl ⟨by rfl, ?_⟩) (by assumption) ?_
    · intro w' hSw'
      go_simp
    simp only [Act.put, List.setIfInBounds_toArray, List.set_cons_zero, List.set_cons_succ]
    refine wpAnyH_done (by kernel_rfl) ?_ _
    go_wp2
    go_ret
    exact ⟨rfl, B2.out.trans (b5.out.mono B2.out.size)⟩
  have h2 : 2 ≤ H := by omega
  have g2 : ¬ (H : Int) < 2 := by omega
  go_enter Tryd.func4, Tryd.ntmps4
  go_wp2_with fail
  refine AW.out.mono ?_
  rintro e w1 ⟨rfl, hb1⟩
  have B1 := keep hb1
  clear hb1 AW
  go_wp2_with fail
  refine (LV.out w1 B1.out).mono ?_
  rintro e w2 ⟨v2, rfl, ho2, hb2⟩
  have B2 := keep (B1.out.trans (hb2.mono B1.out.size))
  rw [hH] at ho2
  obtain ⟨a2, c2, rfl, hr2, _⟩ := RSrc.own strKind_ok ho2 (fun _ _ => trivial)
  have R2 := keep hr2
  clear ho2 hb2 LV hr2 hH
  obtain ⟨hb, hoff, ha2, _, _⟩ := strs_at R2.out (by omega)
  subst ha2
  have hcap2 := R2.out.cap
  have hlt0 := Mt.cut_lt h2
  have hpo0 := Mt.cut_pos H
  have hRR : rootL h = nodeL (rootL (h.take (Mt.cut H))) (rootL (h.drop (Mt.cut H))) := by unfold rootL; rw [Mt.root_two nodeL nilL (l := h) (by rw [HHL.out]; exact h2), HHL.out]
  have RO : Hid (∀ w', Below w2.heap.size w2 w' → Calls Tryd.prog 11 #[.slice (some ⟨hb, hoff, none⟩) H c2] w' fun e w'' => e = .returned (.string ⟨(rootL h).toArray⟩) ∧ Below w'.heap.size w' w'') := fun w' hb => root_any H h HHL.out _ c2 w' (HLd.out.below (B2.out.trans (hb.mono B2.out.size))) (R2.out.below strKind_ok hb) HSH.out (by omega)
  have RA : Hid (∀ w', Below w2.heap.size w2 w' → Calls Tryd.prog 11 #[.slice (some ⟨hb, hoff, none⟩) (Mt.cut H) c2] w' fun e w'' => e = .returned (.string ⟨(rootL (h.take (Mt.cut H))).toArray⟩) ∧ Below w'.heap.size w' w'') := fun w' hb => root_any (Mt.cut H) (h.take (Mt.cut H)) (by rw [List.length_take, HHL.out]; omega) _ c2 w' (HLd.out.below (B2.out.trans (hb.mono B2.out.size))) ((R2.out.below strKind_ok hb).head strKind_ok (Mt.cut H) (by omega)) (fun e he => HSH.out e (List.mem_of_mem_take he)) (by omega)
  have RB : Hid (∀ w', Below w2.heap.size w2 w' → Calls Tryd.prog 11 #[.slice (some ⟨hb, hoff + Mt.cut H, none⟩) (H - Mt.cut H) (c2 - Mt.cut H)] w' fun e w'' => e = .returned (.string ⟨(rootL (h.drop (Mt.cut H))).toArray⟩) ∧ Below w'.heap.size w' w'') := fun w' hb => root_any (H - Mt.cut H) (h.drop (Mt.cut H)) (by rw [List.length_drop, HHL.out]) _ (c2 - Mt.cut H) w' (HLd.out.below (B2.out.trans (hb.mono B2.out.size))) (strs_tail (R2.out.below strKind_ok hb) (Mt.cut H) (by omega)) (fun e he => HSH.out e (List.mem_of_mem_drop he)) (by omega)
  have L1 := rootL_len (es := h.take (Mt.cut H)) (fun e he => HSH.out e (List.mem_of_mem_take he))
  have L2 := rootL_len (es := h.drop (Mt.cut H)) (fun e he => HSH.out e (List.mem_of_mem_drop he))
  rw [hRR] at RO
  obtain ⟨X, hX⟩ : ∃ X, rootL (h.take (Mt.cut H)) = X := ⟨_, rfl⟩
  obtain ⟨Y, hY⟩ : ∃ Y, rootL (h.drop (Mt.cut H)) = Y := ⟨_, rfl⟩
  rw [hX] at RA RO L1
  rw [hY] at RB RO L2
  have NO : Hid (∀ w', Below w2.heap.size w2 w' → Calls Tryd.prog 12 #[.string ⟨X.toArray⟩, .string ⟨Y.toArray⟩] w' fun e w'' => e = .returned (.string ⟨(nodeL X Y).toArray⟩) ∧ Below w'.heap.size w' w'') := fun w' hb => node_any X Y w' (by omega) (HLd.out.below (B2.out.trans (hb.mono B2.out.size)))
  obtain ⟨Z, hZZ⟩ : ∃ Z, nodeL X Y = Z := ⟨_, rfl⟩
  rw [hZZ] at RO NO
  obtain ⟨k, hk⟩ : ∃ k, Mt.cut H = k := ⟨_, rfl⟩
  have CUT : Hid (∀ t j, t = 2 ^ j → t < H → H ≤ 2 * t → t = k) := fun t j h1 h2 h3 => by rw [← hk]; exact (Mt.cut_is h1 h2 h3).symm
  rw [hk] at RA RB hlt0 hpo0
  have k0 : (0 : Int) ≤ (k : Int) := by omega
  have kH : (k : Int) ≤ (H : Int) := by omega
  have k1 : (k : Int) ≤ (c2 : Int) := by omega
  have k3 : (H : Int) ≤ (c2 : Int) := by omega
  have k5 : ¬ c2 = k := by omega
  have e1 : (H : Int) - (k : Int) = ((H - k : Nat) : Int) := by omega
  have e2 : (c2 : Int) - (k : Int) = ((c2 - k : Nat) : Int) := by omega
  clear hX hY hZZ hk hRR L1 L2
  go_wp2
  go_loopw [5] (fun i wr => ∃ t : Nat, i = .int .i64 (t : Int) ∧ Hid (∃ j, t = 2 ^ j) ∧ 1 ≤ t ∧ t < H ∧ Hid (wr = w2)) (fun i _ => H - (intOf i).toNat)
  case atStart => exact ⟨1, rfl, ⟨0, rfl⟩, by omega, by omega, rfl⟩
  case round =>
    obtain ⟨t, rfl, hj, ht1, htH, hwr⟩ := hrel
    have hwr2 := hwr.out
    subst hwr2
    clear hwr
    by_cases hc : 2 * t < H
    · have cc : 2 * (t : Int) < (H : Int) := by omega
      go_wp2
      go_roundw
      case rel =>
        obtain ⟨j, rfl⟩ := hj.out
        exact ⟨2 * 2 ^ j, by go_num, ⟨j + 1, by rw [Nat.pow_succ]; omega⟩, by omega, by omega, by first | rfl | trivial⟩
      case measure => simp [intOf]; omega
    · have cc : ¬ 2 * (t : Int) < (H : Int) := by omega
      obtain ⟨j, hj2⟩ := hj.out
      have htk := CUT.out t j hj2 htH (by omega)
      clear hj hj2
      subst htk
      clear CUT
      go_wp2_with fail
      refine wp_region_held_drew (S := fun w' => Below wr.heap.size wr w') (by kernel_rfl) ((Below.refl wr.heap.size wr).drew) (fun hZ => ?_)
      refine takeH (i := 0) 33 (v := .bool true) rfl rfl (by kernel_rfl) (by kernel_rfl) (by kernel_rfl) (fun _ _ _ h => h) (Or.inl ⟨by rfl, ?_⟩) (by assumption) ?_
      · intro w' hSw'
        go_simp
      simp only [Act.put, List.setIfInBounds_toArray, List.set_cons_zero, List.set_cons_succ]
      refine takeH (i := 1) 34 (v := .bool true) rfl rfl (by kernel_rfl) (by kernel_rfl) (by kernel_rfl) (fun _ _ _ h => h) (Or.inl ⟨by rfl, ?_⟩) (by assumption) ?_
      · intro w' hSw'
        go_simp
      simp only [Act.put, List.setIfInBounds_toArray, List.set_cons_zero, List.set_cons_succ]
      refine takeH (i := 2) 35 (v := .slice (some ⟨hb, hoff, none⟩) H c2) rfl rfl (by kernel_rfl) (by kernel_rfl) (by kernel_rfl) (fun _ _ _ h => h) (Or.inl ⟨by rfl, ?_⟩) (by assumption) ?_
      · intro w' hSw'
        go_simp
      simp only [Act.put, List.setIfInBounds_toArray, List.set_cons_zero, List.set_cons_succ]
      refine takeH (i := 4) 37 (v := .slice (some ⟨hb, hoff, none⟩) H c2) rfl rfl (by kernel_rfl) (by kernel_rfl) (by kernel_rfl) (fun _ _ _ h => h) (Or.inl ⟨by rfl, ?_⟩) (by assumption) ?_
      · intro w' hSw'
        go_simp
      simp only [Act.put, List.setIfInBounds_toArray, List.set_cons_zero, List.set_cons_succ]
      refine takeH (i := 5) 38 (v := .int .i64 (t : Int)) rfl rfl (by kernel_rfl) (by kernel_rfl) (by kernel_rfl) (fun _ _ _ h => h) (Or.inl ⟨by rfl, ?_⟩) (by assumption) ?_
      · intro w' hSw'
        go_simp
      simp only [Act.put, List.setIfInBounds_toArray, List.set_cons_zero, List.set_cons_succ]
      refine takeH (i := 6) 39 (v := .slice (some ⟨hb, hoff, none⟩) t c2) rfl rfl (by kernel_rfl) (by kernel_rfl) (by kernel_rfl) (fun _ _ _ h => h) (Or.inl ⟨by rfl, ?_⟩) (by assumption) ?_
      · intro w' hSw'
        go_simp
      simp only [Act.put, List.setIfInBounds_toArray, List.set_cons_zero, List.set_cons_succ]
      refine takeH (i := 8) 41 (v := .slice (some ⟨hb, hoff, none⟩) H c2) rfl rfl (by kernel_rfl) (by kernel_rfl) (by kernel_rfl) (fun _ _ _ h => h) (Or.inl ⟨by rfl, ?_⟩) (by assumption) ?_
      · intro w' hSw'
        go_simp
      simp only [Act.put, List.setIfInBounds_toArray, List.set_cons_zero, List.set_cons_succ]
      refine takeH (i := 9) 42 (v := .int .i64 (t : Int)) rfl rfl (by kernel_rfl) (by kernel_rfl) (by kernel_rfl) (fun _ _ _ h => h) (Or.inl ⟨by rfl, ?_⟩) (by assumption) ?_
      · intro w' hSw'
        go_simp
      simp only [Act.put, List.setIfInBounds_toArray, List.set_cons_zero, List.set_cons_succ]
      refine takeH (i := 10) 43 (v := .slice (some ⟨hb, hoff + t, none⟩) (H - t) (c2 - t)) rfl rfl (by kernel_rfl) (by kernel_rfl) (by kernel_rfl) (fun _ _ _ h => h) (Or.inl ⟨by rfl, ?_⟩) (by assumption) ?_
      · intro w' hSw'
        go_simp
      simp only [Act.put, List.setIfInBounds_toArray, List.set_cons_zero, List.set_cons_succ]
      refine wpAnyH_ready (rs := [3]) (by kernel_rfl) (by simp) ?_
      refine AllReadyH.cons rfl (fun K hK => ?_) AllReadyH.nil
      go_simp
      refine (RO.out _ (Below.refl wr.heap.size wr).drew).mono ?_
      rintro e w5 ⟨rfl, hb5⟩
      have b5 : Hid (Below wr.heap.size wr w5) := (Below.refl wr.heap.size wr).drew.trans (hb5.mono (Below.refl wr.heap.size wr).drew.size)
      clear hb5
      go_wp2_with fail
      refine hK.out _ _ (b5.out) (fun hZ1 => ?_)
      clear hK K
      refine wpAnyH_ready (rs := [7]) (by kernel_rfl) (by simp) ?_
      refine AllReadyH.cons rfl (fun K hK => ?_) AllReadyH.nil
      go_simp
      refine (RA.out w5 b5.out).mono ?_
      rintro e w6 ⟨rfl, hb6⟩
      have b6 : Hid (Below wr.heap.size wr w6) := b5.out.trans (hb6.mono b5.out.size)
      clear hb6
      go_wp2_with fail
      refine hK.out _ _ (b6.out) (fun hZ2 => ?_)
      clear hK K
      refine wpAnyH_ready (rs := [11]) (by kernel_rfl) (by simp) ?_
      refine AllReadyH.cons rfl (fun K hK => ?_) AllReadyH.nil
      go_simp
      refine (RB.out w6 b6.out).mono ?_
      rintro e w7 ⟨rfl, hb7⟩
      have b7 : Hid (Below wr.heap.size wr w7) := b6.out.trans (hb7.mono b6.out.size)
      clear hb7
      go_wp2_with fail
      refine hK.out _ _ (b7.out) (fun hZ3 => ?_)
      clear hK K
      refine wpAnyH_ready (rs := [12]) (by kernel_rfl) (by simp) ?_
      refine AllReadyH.cons rfl (fun K hK => ?_) AllReadyH.nil
      go_simp
      refine (NO.out w7 b7.out).mono ?_
      rintro e w8 ⟨rfl, hb8⟩
      have b8 : Hid (Below wr.heap.size wr w8) := b7.out.trans (hb8.mono b7.out.size)
      clear hb8
      go_wp2_with fail
      refine hK.out _ _ (b8.out) (fun hZ4 => ?_)
      clear hK K
      refine takeH (i := 13) 46 (v := .bool true) rfl rfl (by kernel_rfl) (by kernel_rfl) (by kernel_rfl) (fun _ _ _ h => h) (Or.inl ⟨by rfl, ?_⟩) (by assumption) ?_
      · intro w' hSw'
        go_simp
      simp only [Act.put, List.setIfInBounds_toArray, List.set_cons_zero, List.set_cons_succ]
      refine takeH (i := 14) 47 (v := .bool true) rfl rfl (by kernel_rfl) (by kernel_rfl) (by kernel_rfl) (fun _ _ _ h => h) (Or.inl ⟨by rfl, ?_⟩) (by assumption) ?_
      · intro w' hSw'
        go_simp
      simp only [Act.put, List.setIfInBounds_toArray, List.set_cons_zero, List.set_cons_succ]
      refine takeH (i := 15) 2 (v := .bool true) rfl rfl (by kernel_rfl) (by kernel_rfl) (by kernel_rfl) (fun _ _ _ h => h) (Or.inl ⟨by rfl, ?_⟩) (by assumption) ?_
      · intro w' hSw'
        go_simp
      simp only [Act.put, List.setIfInBounds_toArray, List.set_cons_zero, List.set_cons_succ]
      refine wpAnyH_done (by kernel_rfl) ?_ _
      go_wp2
      go_ret
      exact ⟨rfl, B2.out.trans (b8.out.mono B2.out.size)⟩
end Go.Proofs.YtelebhcaljepaabDoor
