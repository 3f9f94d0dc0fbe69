/- The walks of the document's sub and Proof. -/
import Derived.Test.YtelebhcaljepaaaDoorKc
namespace Go.Proofs.YtelebhcaljepaaaDoor
open Go.RowKit

set_option maxHeartbeats 2000000 in
set_option maxRecDepth 100000 in
theorem rsub_any : ∀ (n : Nat) (es : List (List UInt8)), es.length = n → ∀ (m : Nat) (own : Bool), 1 ≤ m → m ≤ n → ∀ (ao : Option Addr) (c : Nat) (w : World), RSrc strKind w ao n c es → (∀ e ∈ es, e.length ≤ 1099511627776) → n ≤ 1099511627776 →
    Calls Tryd.prog 36 #[.int .i64 (m : Int), .slice ao n c, .bool own] w (RowR w (subL m es own)) := by
  intro n
  induction n using Nat.strongRecOn with
  | _ n ih =>
    intro es hes m own hm1 hmn ao c w hs hl hn
    obtain ⟨i0, hi0, hz0, hz1, hz2⟩ := info_partsS infoS
    have IH := keep ih
    have HS := keep hs
    have HL := keep hl
    have hcap := hs.cap
    clear ih hl
    obtain ⟨b, off, rfl, hbw, hcell⟩ := strs_at hs (by omega)
    clear hcell hbw hs
    by_cases hm : m = n
    · subst hm
      have hR : subL m es own = if own then [] else [rootL es] := Mt.sub_all nodeL nilL hes.symm own
      rw [hR]
      clear hR
      cases own with
      | true =>
        rw [if_pos rfl]
        go_enter Tryd.func36, Tryd.ntmps36
        go_wp2
        go_ret
        exact ⟨_, rfl, World.ownsRow_nil _ _ _ _, Below.refl _ _⟩
      | false =>
        rw [if_neg (by decide)]
        have RA := keep (rroot_any m es hes _ c w HS.out HL.out hn)
        obtain ⟨Y, hY⟩ : ∃ Y, rootL es = Y := ⟨_, rfl⟩
        rw [hY] at RA ⊢
        clear hY
        go_enter Tryd.func36, Tryd.ntmps36
        go_wp2_with fail
        refine RA.out.mono ?_
        rintro e w1 ⟨rfl, hb1⟩
        have b1 := keep hb1
        clear hb1
        go_wp2
        go_ret
        exact ⟨_, rfl, own_one b1.out.size, b1.out.alloc b1.out.size _⟩
    have hmlt : m < n := by omega
    have mn : ¬ (m : Int) = (n : Int) := by omega
    have h2 : 2 ≤ n := by omega
    have hlt := Mt.cut_lt h2
    have hpo := Mt.cut_pos n
    have CU := keep (rcut_any n w h2 (by omega))
    have LEFT : Hid (m ≤ Mt.cut n → subL m es own = subL m (es.take (Mt.cut n)) own ++ [rootL (es.drop (Mt.cut n))]) := fun h => by
      have := Mt.sub_left nodeL nilL (l := es) (m := m) (by omega) hm1 own (by rw [hes]; exact h)
      rw [hes] at this
      exact this
    have RIGHT : Hid (¬ m ≤ Mt.cut n → subL m es own = subL (m - Mt.cut n) (es.drop (Mt.cut n)) false ++ [rootL (es.take (Mt.cut n))]) := fun h => by
      have := Mt.sub_right nodeL nilL (l := es) (m := m) (by omega) hm1 own (by rw [hes]; exact h)
      rw [hes] at this
      exact this
    obtain ⟨k, hk⟩ : ∃ k, Mt.cut n = k := ⟨_, rfl⟩
    rw [hk] at hlt hpo CU LEFT RIGHT
    have RA : Hid (∀ w', Below w.heap.size w w' → Calls Tryd.prog 15 #[.slice (some ⟨b, off, none⟩) k c] w' fun e w'' => e = .returned (.string ⟨(rootL (es.take k)).toArray⟩) ∧ Below w'.heap.size w' w'') := fun w' hb => rroot_any k (es.take k) (by rw [List.length_take]; omega) _ c w' ((HS.out.below strKind_ok hb).head strKind_ok k (by omega)) (fun e he => HL.out e (List.mem_of_mem_take he)) (by omega)
    have RB : Hid (∀ w', Below w.heap.size w w' → Calls Tryd.prog 15 #[.slice (some ⟨b, off + k, none⟩) (n - k) (c - k)] w' fun e w'' => e = .returned (.string ⟨(rootL (es.drop k)).toArray⟩) ∧ Below w'.heap.size w' w'') := fun w' hb => rroot_any (n - k) (es.drop k) (by rw [List.length_drop]; omega) _ (c - k) w' (strs_tail (HS.out.below strKind_ok hb) k (by omega)) (fun e he => HL.out e (List.mem_of_mem_drop he)) (by omega)
    have k0 : (0 : Int) ≤ (k : Int) := by omega
    have k1 : (k : Int) ≤ (n : Int) := by omega
    have k2 : (k : Int) ≤ (c : Int) := by omega
    have k3 : (n : Int) ≤ (c : Int) := by omega
    have k4 : ¬ k = 0 := by omega
    have k5 : ¬ c = k := by omega
    have e1 : (n : Int) - (k : Int) = ((n - k : Nat) : Int) := by omega
    have e2 : (c : Int) - (k : Int) = ((c - k : Nat) : Int) := by omega
    by_cases hik : m ≤ k
    · have hp := LEFT.out hik
      rw [hp]
      have PL : Hid ((subL m (es.take k) own).length ≤ 41) := subL_len (by omega) (by rw [List.length_take]; omega) (by rw [List.length_take]; omega)
      have ik : (m : Int) ≤ (k : Int) := by omega
      clear hp LEFT RIGHT hk
      obtain ⟨P, hP⟩ : ∃ P, subL m (es.take k) own = P := ⟨_, rfl⟩
      rw [hP] at PL ⊢
      have HP := keep hP
      clear hP
      have PA : Hid (∀ w', Below w.heap.size w w' → Calls Tryd.prog 36 #[.int .i64 (m : Int), .slice (some ⟨b, off, none⟩) k c, .bool own] w' (RowR w' P)) := fun w' hb => by rw [← HP.out]; exact IH.out k hlt (es.take k) (by rw [List.length_take]; omega) m own hm1 hik _ c w' ((HS.out.below strKind_ok hb).head strKind_ok k (by omega)) (fun e he => HL.out e (List.mem_of_mem_take he)) (by omega)
      obtain ⟨Y, hY⟩ : ∃ Y, rootL (es.drop k) = Y := ⟨_, rfl⟩
      rw [hY] at RB ⊢
      clear hY
      obtain ⟨M, hM⟩ : ∃ M, P.length = M := ⟨_, rfl⟩
      have HM := keep hM
      rw [hM] at PL
      have hpl := PL.out
      clear hM
      go_enter Tryd.func36, Tryd.ntmps36
      go_wp2_with fail
      refine CU.out.mono ?_
      rintro e w1 ⟨rfl, hb1⟩
      have b1 := keep hb1
      clear hb1 CU
      go_wp2_with fail
      refine wp_region_held_drew (S := fun w' => Below w.heap.size w w') (by kernel_rfl) (b1.out.drew) (fun hZ => ?_)
      refine takeH (i := 0) 0x16 (v := .int .i64 (m : Int)) rfl rfl (by kernel_rfl) (by kernel_rfl) (by kernel_rfl) (fun _ _ _ h => h) (Or.inl ⟨by rfl, ?_⟩) (by assumption) ?_
      · intro w' hSw'
        go_simp
      simp only [Act.put, List.setIfInBounds_toArray, List.set_cons_zero, List.set_cons_succ]
      refine takeH (i := 1) 23 (v := .slice (some ⟨b, off, none⟩) n c) rfl rfl (by kernel_rfl) (by kernel_rfl) (by kernel_rfl) (fun _ _ _ h => h) (Or.inl ⟨by rfl, ?_⟩) (by assumption) ?_
      · intro w' hSw'
        go_simp
      simp only [Act.put, List.setIfInBounds_toArray, List.set_cons_zero, List.set_cons_succ]
      refine takeH (i := 2) 24 (v := .int .i64 (k : Int)) rfl rfl (by kernel_rfl) (by kernel_rfl) (by kernel_rfl) (fun _ _ _ h => h) (Or.inl ⟨by rfl, ?_⟩) (by assumption) ?_
      · intro w' hSw'
        go_simp
      simp only [Act.put, List.setIfInBounds_toArray, List.set_cons_zero, List.set_cons_succ]
      refine takeH (i := 3) 25 (v := .slice (some ⟨b, off, none⟩) k c) rfl rfl (by kernel_rfl) (by kernel_rfl) (by kernel_rfl) (fun _ _ _ h => h) (Or.inl ⟨by rfl, ?_⟩) (by assumption) ?_
      · intro w' hSw'
        go_simp
      simp only [Act.put, List.setIfInBounds_toArray, List.set_cons_zero, List.set_cons_succ]
      refine takeH (i := 4) 26 (v := .bool own) rfl rfl (by kernel_rfl) (by kernel_rfl) (by kernel_rfl) (fun _ _ _ h => h) (Or.inl ⟨by rfl, ?_⟩) (by assumption) ?_
      · intro w' hSw'
        go_simp
      simp only [Act.put, List.setIfInBounds_toArray, List.set_cons_zero, List.set_cons_succ]
      refine takeH (i := 6) 28 (v := .slice (some ⟨b, off, none⟩) n c) rfl rfl (by kernel_rfl) (by kernel_rfl) (by kernel_rfl) (fun _ _ _ h => h) (Or.inl ⟨by rfl, ?_⟩) (by assumption) ?_
      · intro w' hSw'
        go_simp
      simp only [Act.put, List.setIfInBounds_toArray, List.set_cons_zero, List.set_cons_succ]
      refine takeH (i := 7) 29 (v := .int .i64 (k : Int)) rfl rfl (by kernel_rfl) (by kernel_rfl) (by kernel_rfl) (fun _ _ _ h => h) (Or.inl ⟨by rfl, ?_⟩) (by assumption) ?_
      · intro w' hSw'
        go_simp
      simp only [Act.put, List.setIfInBounds_toArray, List.set_cons_zero, List.set_cons_succ]
      refine takeH (i := 8) 30 (v := .slice (some ⟨b, off + k, none⟩) (n - k) (c - k)) rfl rfl (by kernel_rfl) (by kernel_rfl) (by kernel_rfl) (fun _ _ _ h => h) (Or.inl ⟨by rfl, ?_⟩) (by assumption) ?_
      · intro w' hSw'
        go_simp
      simp only [Act.put, List.setIfInBounds_toArray, List.set_cons_zero, List.set_cons_succ]
      refine wpAnyH_ready (rs := [5]) (by kernel_rfl) (by simp) ?_
      refine AllReadyH.cons rfl (fun K hK => ?_) AllReadyH.nil
      go_simp
      refine (PA.out _ b1.out.drew).mono ?_
      rintro e w2 ⟨v, rfl, ho, hb2⟩
      have b2 := keep (b1.out.drew.trans (hb2.mono b1.out.size))
      have O2 := keep (own_low ho b1.out.size)
      obtain ⟨vp, vc, hv⟩ := own_is ho
      subst hv
      rw [HM.out] at O2 ⊢
      clear ho hb2
      go_wp2_with fail
      refine hK.out _ _ (b2.out) (fun hZ1 => ?_)
      clear hK K
      refine wpAnyH_ready (rs := [9]) (by kernel_rfl) (by simp) ?_
      refine AllReadyH.cons rfl (fun K hK => ?_) AllReadyH.nil
      go_simp
      refine (RB.out w2 b2.out).mono ?_
      rintro e w3 ⟨rfl, hb3⟩
      have b3 := keep (b2.out.trans (hb3.mono b2.out.size))
      have O3 := keep (own_next O2.out hb3)
      clear hb3
      go_wp2_with fail
      refine hK.out _ _ (b3.out) (fun hZ2 => ?_)
      clear hK K
      have rc := keep (rec_cells (k := strKind) w3 9 Y)
      have b4 := keep (b3.out.alloc b3.out.size (.cells #[.string ⟨Y.toArray⟩] 9))
      have O4 : Hid ((w3.alloc (.cells #[.string ⟨Y.toArray⟩] 9)).ownsRow w.heap.size 9 1 (.slice vp M vc) M (rv strKind P)) := own_next O3.out ((Below.refl _ _).alloc (Nat.le_refl _) _)
      refine wpAnyH_ready (rs := [10]) (by kernel_rfl) (by simp) ?_
      refine AllReadyH.cons rfl (fun K hK => ?_) AllReadyH.nil
      go_simp
      refine hK.out _ _ (b4.out) (fun hA1 => ?_)
      clear hK K
      refine wpAnyH_ready (rs := [11]) (by kernel_rfl) (by simp) ?_
      refine AllReadyH.cons rfl (fun K hK => ?_) AllReadyH.nil
      refine step_append_recS strKind_ok rfl _ _ 22 9 rfl w.heap.size i0 _ 16 Tryd.underlying22 hi0 hz0 hz1 hz2 rfl (.slice vp M vc) M P rfl O4.out ⟨w3.heap.size, 0, none⟩ 1 Y rfl rc.out (by unfold maxLen; omega) (by omega) b4.out.size ?_
      intro v7 w7 ho7 hg7
      refine (show K (Act.put _ (some 33) v7) w7 from ?_)
      simp only [Act.put, List.setIfInBounds_toArray, List.set_cons_zero, List.set_cons_succ]
      have O7 := keep ho7
      have b7 := keep (b4.out.grown hg7 b4.out.size (fun j hj => (O4.out.lt j hj).1))
      clear ho7 hg7
      refine hK.out _ _ (b7.out) (fun hA2 => ?_)
      clear hK K
      refine takeH (i := 12) 6 (v := v7) rfl rfl (by kernel_rfl) (by kernel_rfl) (by kernel_rfl) (fun _ _ _ h => h) (Or.inl ⟨by rfl, ?_⟩) (by assumption) ?_
      · intro w' hSw'
        go_simp
      simp only [Act.put, List.setIfInBounds_toArray, List.set_cons_zero, List.set_cons_succ]
      refine wpAnyH_done (by kernel_rfl) ?_ _
      go_wp2
      go_ret
      exact ⟨v7, rfl, by rw [List.length_append, HM.out]; exact O7.out, b7.out⟩
    · have hp := RIGHT.out hik
      rw [hp]
      have PL : Hid ((subL (m - k) (es.drop k) false).length ≤ 41) := subL_len (by omega) (by rw [List.length_drop]; omega) (by rw [List.length_drop]; omega)
      have ik : ¬ (m : Int) ≤ (k : Int) := by omega
      have e3 : (m : Int) - (k : Int) = ((m - k : Nat) : Int) := by omega
      clear hp LEFT RIGHT hk
      obtain ⟨P, hP⟩ : ∃ P, subL (m - k) (es.drop k) false = P := ⟨_, rfl⟩
      rw [hP] at PL ⊢
      have HP := keep hP
      clear hP
      have PA : Hid (∀ w', Below w.heap.size w w' → Calls Tryd.prog 36 #[.int .i64 ((m - k : Nat) : Int), .slice (some ⟨b, off + k, none⟩) (n - k) (c - k), .bool false] w' (RowR w' P)) := fun w' hb => by rw [← HP.out]; exact IH.out (n - k) (by omega) (es.drop k) (by rw [List.length_drop]; omega) (m - k) false (by omega) (by omega) _ (c - k) w' (strs_tail (HS.out.below strKind_ok hb) k (by omega)) (fun e he => HL.out e (List.mem_of_mem_drop he)) (by omega)
      obtain ⟨Y, hY⟩ : ∃ Y, rootL (es.take k) = Y := ⟨_, rfl⟩
      rw [hY] at RA ⊢
      clear hY
      obtain ⟨M, hM⟩ : ∃ M, P.length = M := ⟨_, rfl⟩
      have HM := keep hM
      rw [hM] at PL
      have hpl := PL.out
      clear hM
      go_enter Tryd.func36, Tryd.ntmps36
      go_wp2_with fail
      refine CU.out.mono ?_
      rintro e w1 ⟨rfl, hb1⟩
      have b1 := keep hb1
      clear hb1 CU
      go_wp2_with fail
      refine wp_region_held_drew (S := fun w' => Below w.heap.size w w') (by kernel_rfl) (b1.out.drew) (fun hZ => ?_)
      refine takeH (i := 0) 34 (v := .int .i64 (m : Int)) rfl rfl (by kernel_rfl) (by kernel_rfl) (by kernel_rfl) (fun _ _ _ h => h) (Or.inl ⟨by rfl, ?_⟩) (by assumption) ?_
      · intro w' hSw'
        go_simp
      simp only [Act.put, List.setIfInBounds_toArray, List.set_cons_zero, List.set_cons_succ]
      refine takeH (i := 1) 35 (v := .int .i64 (k : Int)) rfl rfl (by kernel_rfl) (by kernel_rfl) (by kernel_rfl) (fun _ _ _ h => h) (Or.inl ⟨by rfl, ?_⟩) (by assumption) ?_
      · intro w' hSw'
        go_simp
      simp only [Act.put, List.setIfInBounds_toArray, List.set_cons_zero, List.set_cons_succ]
      refine takeH (i := 2) 36 (v := .int .i64 ((m - k : Nat) : Int)) rfl rfl (by kernel_rfl) (by kernel_rfl) (by kernel_rfl) (fun _ _ _ h => h) (Or.inl ⟨by rfl, ?_⟩) (by assumption) ?_
      · intro w' hSw'
        go_simp
        exact wrap_small _ (by omega) (by omega)
      simp only [Act.put, List.setIfInBounds_toArray, List.set_cons_zero, List.set_cons_succ]
      refine takeH (i := 3) 37 (v := .slice (some ⟨b, off, none⟩) n c) rfl rfl (by kernel_rfl) (by kernel_rfl) (by kernel_rfl) (fun _ _ _ h => h) (Or.inl ⟨by rfl, ?_⟩) (by assumption) ?_
      · intro w' hSw'
        go_simp
      simp only [Act.put, List.setIfInBounds_toArray, List.set_cons_zero, List.set_cons_succ]
      refine takeH (i := 4) 38 (v := .int .i64 (k : Int)) rfl rfl (by kernel_rfl) (by kernel_rfl) (by kernel_rfl) (fun _ _ _ h => h) (Or.inl ⟨by rfl, ?_⟩) (by assumption) ?_
      · intro w' hSw'
        go_simp
      simp only [Act.put, List.setIfInBounds_toArray, List.set_cons_zero, List.set_cons_succ]
      refine takeH (i := 5) 39 (v := .slice (some ⟨b, off + k, none⟩) (n - k) (c - k)) rfl rfl (by kernel_rfl) (by kernel_rfl) (by kernel_rfl) (fun _ _ _ h => h) (Or.inl ⟨by rfl, ?_⟩) (by assumption) ?_
      · intro w' hSw'
        go_simp
      simp only [Act.put, List.setIfInBounds_toArray, List.set_cons_zero, List.set_cons_succ]
      refine takeH (i := 7) 41 (v := .slice (some ⟨b, off, none⟩) n c) rfl rfl (by kernel_rfl) (by kernel_rfl) (by kernel_rfl) (fun _ _ _ h => h) (Or.inl ⟨by rfl, ?_⟩) (by assumption) ?_
      · intro w' hSw'
        go_simp
      simp only [Act.put, List.setIfInBounds_toArray, List.set_cons_zero, List.set_cons_succ]
      refine takeH (i := 8) 42 (v := .int .i64 (k : Int)) rfl rfl (by kernel_rfl) (by kernel_rfl) (by kernel_rfl) (fun _ _ _ h => h) (Or.inl ⟨by rfl, ?_⟩) (by assumption) ?_
      · intro w' hSw'
        go_simp
      simp only [Act.put, List.setIfInBounds_toArray, List.set_cons_zero, List.set_cons_succ]
      refine takeH (i := 9) 43 (v := .slice (some ⟨b, off, none⟩) k c) rfl rfl (by kernel_rfl) (by kernel_rfl) (by kernel_rfl) (fun _ _ _ h => h) (Or.inl ⟨by rfl, ?_⟩) (by assumption) ?_
      · intro w' hSw'
        go_simp
      simp only [Act.put, List.setIfInBounds_toArray, List.set_cons_zero, List.set_cons_succ]
      refine wpAnyH_ready (rs := [6]) (by kernel_rfl) (by simp) ?_
      refine AllReadyH.cons rfl (fun K hK => ?_) AllReadyH.nil
      go_simp
      refine (PA.out _ b1.out.drew).mono ?_
      rintro e w2 ⟨v, rfl, ho, hb2⟩
      have b2 := keep (b1.out.drew.trans (hb2.mono b1.out.size))
      have O2 := keep (own_low ho b1.out.size)
      obtain ⟨vp, vc, hv⟩ := own_is ho
      subst hv
      rw [HM.out] at O2 ⊢
      clear ho hb2
      go_wp2_with fail
      refine hK.out _ _ (b2.out) (fun hZ1 => ?_)
      clear hK K
      refine wpAnyH_ready (rs := [10]) (by kernel_rfl) (by simp) ?_
      refine AllReadyH.cons rfl (fun K hK => ?_) AllReadyH.nil
      go_simp
      refine (RA.out w2 b2.out).mono ?_
      rintro e w3 ⟨rfl, hb3⟩
      have b3 := keep (b2.out.trans (hb3.mono b2.out.size))
      have O3 := keep (own_next O2.out hb3)
      clear hb3
      go_wp2_with fail
      refine hK.out _ _ (b3.out) (fun hZ2 => ?_)
      clear hK K
      have rc := keep (rec_cells (k := strKind) w3 9 Y)
      have b4 := keep (b3.out.alloc b3.out.size (.cells #[.string ⟨Y.toArray⟩] 9))
      have O4 : Hid ((w3.alloc (.cells #[.string ⟨Y.toArray⟩] 9)).ownsRow w.heap.size 9 1 (.slice vp M vc) M (rv strKind P)) := own_next O3.out ((Below.refl _ _).alloc (Nat.le_refl _) _)
      refine wpAnyH_ready (rs := [11]) (by kernel_rfl) (by simp) ?_
      refine AllReadyH.cons rfl (fun K hK => ?_) AllReadyH.nil
      go_simp
      refine hK.out _ _ (b4.out) (fun hA1 => ?_)
      clear hK K
      refine wpAnyH_ready (rs := [12]) (by kernel_rfl) (by simp) ?_
      refine AllReadyH.cons rfl (fun K hK => ?_) AllReadyH.nil
      refine step_append_recS strKind_ok rfl _ _ 22 9 rfl w.heap.size i0 _ 16 Tryd.underlying22 hi0 hz0 hz1 hz2 rfl (.slice vp M vc) M P rfl O4.out ⟨w3.heap.size, 0, none⟩ 1 Y rfl rc.out (by unfold maxLen; omega) (by omega) b4.out.size ?_
      intro v7 w7 ho7 hg7
      refine (show K (Act.put _ (some 46) v7) w7 from ?_)
      simp only [Act.put, List.setIfInBounds_toArray, List.set_cons_zero, List.set_cons_succ]
      have O7 := keep ho7
      have b7 := keep (b4.out.grown hg7 b4.out.size (fun j hj => (O4.out.lt j hj).1))
      clear ho7 hg7
      refine hK.out _ _ (b7.out) (fun hA2 => ?_)
      clear hK K
      refine takeH (i := 13) 6 (v := v7) rfl rfl (by kernel_rfl) (by kernel_rfl) (by kernel_rfl) (fun _ _ _ h => h) (Or.inl ⟨by rfl, ?_⟩) (by assumption) ?_
      · intro w' hSw'
        go_simp
      simp only [Act.put, List.setIfInBounds_toArray, List.set_cons_zero, List.set_cons_succ]
      refine wpAnyH_done (by kernel_rfl) ?_ _
      go_wp2
      go_ret
      exact ⟨v7, rfl, by rw [List.length_append, HM.out]; exact O7.out, b7.out⟩
set_option maxHeartbeats 2000000 in
set_option maxRecDepth 100000 in
theorem rproof_any (es : List (List UInt8)) (m : Nat) (hm1 : 1 ≤ m) (hmn : m ≤ es.length) (ao : Option Addr) (c : Nat) (w : World) (hs : RSrc strKind w ao es.length c es) (hl : ∀ e ∈ es, e.length ≤ 1099511627776) (hn : es.length ≤ 1099511627776) :
    Calls Tryd.prog 19 #[.slice ao es.length c, .int .i64 (m : Int)] w (RowA w (proofL es m)) := by
  have SU := keep (rsub_any es.length es rfl m true hm1 hmn ao c w hs hl hn)
  obtain ⟨n, hN⟩ : ∃ n, es.length = n := ⟨_, rfl⟩
  rw [hN] at SU hmn ⊢
  have m1 : ¬ (m : Int) < 1 := by omega
  have m2 : ¬ (n : Int) < (m : Int) := by omega
  clear hs hN
  go_enter Tryd.func19, Tryd.ntmps19
  go_wp2_with fail
  refine SU.out.mono ?_
  rintro e w1 ⟨v, rfl, ho, hb⟩
  have O1 := keep ho
  have B1 := keep hb
  clear ho hb SU
  go_wp2
  go_ret2
  exact ⟨v, rfl, O1.out, B1.out⟩
set_option maxHeartbeats 2000000 in
set_option maxRecDepth 100000 in
theorem rproof_bad (n : Nat) (m : Int) (ao : Option Addr) (c : Nat) (w : World) (hm : m < 1 ∨ (n : Int) < m) :
    Calls Tryd.prog 19 #[.slice ao n c, .int .i64 m] w fun e w' => e = .returned (.tuple #[.slice none 0 0, .int .i64 8]) ∧ Below w.heap.size w w' := by
  go_enter Tryd.func19, Tryd.ntmps19
  by_cases h : m < 1
  · go_wp2
    go_ret2
    exact ⟨rfl, Below.refl _ _⟩
  · have h1 : (n : Int) < m := by omega
    go_wp2
    go_ret2
    exact ⟨rfl, Below.refl _ _⟩
end Go.Proofs.YtelebhcaljepaaaDoor
