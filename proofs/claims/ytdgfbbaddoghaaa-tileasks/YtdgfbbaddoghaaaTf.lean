/- The walks of the document's path, proof, PathNodes, ProofNodes. -/
import Derived.Test.YtdgfbbaddoghaaaTc
import Derived.Test.YtdgfbbaddoghaaaTl
import Derived.Test.YtdgfbbaddoghaaaTw
namespace Go.Proofs.Ytdgfbbaddoghaaa
open Go.RowKit
open Mt (Pos)

theorem infoQQ : (Try.prog.info? 27).map (fun i => (i.zero, i.size, i.bytes)) = some (some (.slice none 0 0), 1, 24) := by kernel_rfl
theorem al_left {a d : Nat} (h2 : 2 ≤ d) (h : Mt.rf d ∣ a) : Mt.rf (Mt.cut d) ∣ a := by
  have := Mt.lv_pos h2
  exact Nat.dvd_trans (Nat.pow_dvd_pow 2 (by rw [Mt.cut_lv]; omega)) h
theorem al_right {a b : Nat} (h2 : 2 ≤ b - a) (h : Mt.rf (b - a) ∣ a) : Mt.rf (b - (a + Mt.cut (b - a))) ∣ a + Mt.cut (b - a) := by
  have := Mt.lv_pos h2
  have hr : Mt.rf (b - a - Mt.cut (b - a)) ∣ Mt.cut (b - a) := Nat.pow_dvd_pow 2 (Mt.cut_rest h2)
  have hc : Mt.cut (b - a) ∣ Mt.rf (b - a) := Nat.pow_dvd_pow 2 (by omega)
  rw [show b - (a + Mt.cut (b - a)) = b - a - Mt.cut (b - a) by omega]
  exact Nat.dvd_add (Nat.dvd_trans hr (Nat.dvd_trans hc h)) hr
set_option maxHeartbeats 1000000 in
set_option maxRecDepth 100000 in
theorem rpath_any (i : Nat) : ∀ (d a b : Nat), b - a = d → a ≤ i → i < b → b ≤ 1099511627776 → Mt.rf d ∣ a → ∀ w : World,
    Calls Try.prog 23 #[.int .i64 (i : Int), .int .i64 (a : Int), .int .i64 (b : Int)] w (RowsR 48 27 w (wayN (Mt.way Mt.leafE i a b).1)) := by
  obtain ⟨i0, hi0, hz0, hz1, hz2⟩ := info_partsS infoQQ
  intro d
  induction d using Nat.strongRecOn with
  | _ d ih =>
    intro a b hd ha hb hbm hal w
    subst hd
    have IH := keep ih
    clear ih
    cases hee : Mt.leafE a b with
    | true =>
      have h1 : b - a = 1 := by unfold Mt.leafE at hee; simpa using hee
      have e1 : (b : Int) - (a : Int) = 1 := by omega
      rw [Mt.way_end hee]
      clear hee h1 hal IH hbm
      go_enter Try.func23, Try.ntmps23
      go_wp2
      go_ret
      exact ⟨_, rfl, RowsV.nil, Below.refl _ _⟩
    | false =>
      have h1 : ¬ b - a = 1 := by unfold Mt.leafE at hee; simpa using hee
      have h2 : 2 ≤ b - a := by omega
      have hlt := Mt.cut_lt h2
      have hpo := Mt.cut_pos (b - a)
      have AL := al_left h2 hal
      have AR := al_right h2 hal
      have CU := keep (rcut_any (b - a) w h2 (by omega))
      have WI := Mt.way_in (E := Mt.leafE) (i := i) (fun a h1 h2 => Mt.leafE_one a h1 h2) (b - a) a b rfl ha hb
      have HWL := Nat.le_trans WI.2.2.2 (lv_40 (n := b - a) (by omega))
      by_cases hi : i < a + Mt.cut (b - a)
      · have hw := Mt.way_left (E := Mt.leafE) hee h2 hi
        have RC := keep (fun w1 => IH.out (Mt.cut (b - a)) hlt a (a + Mt.cut (b - a)) (by omega) ha hi (by omega) AL w1)
        have SC := keep (fun w1 => rsure_any (a + Mt.cut (b - a)) b w1 (by omega) hbm AR)
        rw [hw] at HWL ⊢
        simp only at HWL ⊢
        rw [wayN_snoc]
        rw [List.length_append] at HWL
        simp only [List.length_cons, List.length_nil] at HWL
        obtain ⟨k, hk⟩ : ∃ k, Mt.cut (b - a) = k := ⟨_, rfl⟩
        rw [hk] at hlt hpo CU hi RC SC HWL ⊢
        obtain ⟨K, hK⟩ : ∃ K, a + k = K := ⟨_, rfl⟩
        have eK : (a : Int) + (k : Int) = (K : Int) := by omega
        rw [hK] at hi RC SC HWL ⊢
        obtain ⟨L, hL⟩ : ∃ L, (Mt.way Mt.leafE i a K).1 = L := ⟨_, rfl⟩
        rw [hL] at RC HWL ⊢
        obtain ⟨C, hC⟩ : ∃ C, Mt.cov K b = C := ⟨_, rfl⟩
        rw [hC] at SC ⊢
        obtain ⟨D, hD⟩ : ∃ D, b - a = D := ⟨_, rfl⟩
        rw [hD] at CU h1 hlt
        have e1 : (b : Int) - (a : Int) = (D : Int) := by omega
        have e3 : ((D : Int) == 1) = false := by simp; omega
        have e4 : ¬ (D : Int) = 1 := by omega
        have iK : (i : Int) < (K : Int) := by omega
        have K1 : (K : Int) ≤ 1099511627776 := by omega
        have D1 : (D : Int) ≤ 1099511627776 := by omega
        have PL : Hid ((wayN L).length + 1 ≤ 1000) := by show _ ≤ _; rw [wayN_len]; omega
        clear hee hw hi hk hK hL hC hD AL AR WI HWL hal h1 h2 hlt hpo IH hbm ha hb
        go_enter Try.func23, Try.ntmps23
        go_wp2_with fail
        refine CU.out.mono ?_
        rintro e w1 ⟨rfl, hb1⟩
        have B1 := keep hb1
        clear hb1
        go_wp2_with fail
        refine (RC.out w1).mono ?_
        rintro e w2 ⟨v2, rfl, hr2, hb2⟩
        have R2 := keep hr2
        have B2 := keep hb2
        obtain ⟨p2, c2, _, e5, _, _, _⟩ := hr2.src
        subst e5
        clear hr2 hb2
        go_wp2_with fail
        refine (SC.out w2).mono ?_
        rintro e w3 ⟨v3, rfl, ho3, hb3⟩
        obtain ⟨p3, c3, rfl⟩ := own_is ho3
        have O3 := keep (PosR.held ho3)
        have B3 := keep hb3
        clear ho3 hb3
        have b12 := keep (B1.out.trans (B2.out.mono B1.out.size))
        have b13 := keep (b12.out.trans (B3.out.mono b12.out.size))
        have c4 : Hid ((w3.alloc (.cells #[.slice p3 C.length c3] 27)).cell? (Addr.add ⟨w3.heap.size, 0, none⟩ 0) = some (.slice p3 C.length c3)) := cell_of_row _ _ _ _ _ _ (heap_alloc_new w3 _)
        go_wp2_with (at_builtin; go_loud (refine wpList_append_row rfl _ _ 37 48 27 (by decide) rfl w.heap.size i0 Try.underlying37 hi0 hz0 hz1 hz2 w3 _ (wayN L) rfl ((R2.out.next B3.out).low B1.out.size) ⟨p3, c3, C⟩ O3.out ((Below.refl _ _).alloc (Nat.le_refl _) _) _ rfl c4.out PL.out (le_alloc b13.out.size _) ?_); intro v7 w7 hr7 hb7; have R7 := keep hr7; have B7 := keep hb7; clear hr7 hb7)
        obtain ⟨p7, c7, _, e7, _, _, _⟩ := R7.out.src
        subst e7
        go_wp2
        go_ret
        exact ⟨_, rfl, R7.out, (b13.out.alloc b13.out.size _).trans B7.out⟩
      · have hw := Mt.way_right (E := Mt.leafE) hee h2 hi
        have RC := keep (fun w1 => IH.out (b - (a + Mt.cut (b - a))) (by omega) (a + Mt.cut (b - a)) b rfl (by omega) hb hbm AR w1)
        have SC := keep (fun w1 => rsure_any a (a + Mt.cut (b - a)) w1 (by omega) (by omega) (by rw [show a + Mt.cut (b - a) - a = Mt.cut (b - a) by omega]; exact AL))
        rw [hw] at HWL ⊢
        simp only at HWL ⊢
        rw [wayN_snoc]
        rw [List.length_append] at HWL
        simp only [List.length_cons, List.length_nil] at HWL
        obtain ⟨k, hk⟩ : ∃ k, Mt.cut (b - a) = k := ⟨_, rfl⟩
        rw [hk] at hlt hpo CU hi RC SC HWL ⊢
        obtain ⟨K, hK⟩ : ∃ K, a + k = K := ⟨_, rfl⟩
        have eK : (a : Int) + (k : Int) = (K : Int) := by omega
        rw [hK] at hi RC SC HWL ⊢
        obtain ⟨L, hL⟩ : ∃ L, (Mt.way Mt.leafE i K b).1 = L := ⟨_, rfl⟩
        rw [hL] at RC HWL ⊢
        obtain ⟨C, hC⟩ : ∃ C, Mt.cov a K = C := ⟨_, rfl⟩
        rw [hC] at SC ⊢
        obtain ⟨D, hD⟩ : ∃ D, b - a = D := ⟨_, rfl⟩
        rw [hD] at CU h1 hlt
        have e1 : (b : Int) - (a : Int) = (D : Int) := by omega
        have e3 : ((D : Int) == 1) = false := by simp; omega
        have e4 : ¬ (D : Int) = 1 := by omega
        have iK : ¬ (i : Int) < (K : Int) := by omega
        have K1 : (K : Int) ≤ 1099511627776 := by omega
        have D1 : (D : Int) ≤ 1099511627776 := by omega
        have PL : Hid ((wayN L).length + 1 ≤ 1000) := by show _ ≤ _; rw [wayN_len]; omega
        clear hee hw hi hk hK hL hC hD AL AR WI HWL hal h1 h2 hlt hpo IH hbm ha hb
        go_enter Try.func23, Try.ntmps23
        go_wp2_with fail
        refine CU.out.mono ?_
        rintro e w1 ⟨rfl, hb1⟩
        have B1 := keep hb1
        clear hb1
        go_wp2_with fail
        refine (RC.out w1).mono ?_
        rintro e w2 ⟨v2, rfl, hr2, hb2⟩
        have R2 := keep hr2
        have B2 := keep hb2
        obtain ⟨p2, c2, _, e5, _, _, _⟩ := hr2.src
        subst e5
        clear hr2 hb2
        go_wp2_with fail
        refine (SC.out w2).mono ?_
        rintro e w3 ⟨v3, rfl, ho3, hb3⟩
        obtain ⟨p3, c3, rfl⟩ := own_is ho3
        have O3 := keep (PosR.held ho3)
        have B3 := keep hb3
        clear ho3 hb3
        have b12 := keep (B1.out.trans (B2.out.mono B1.out.size))
        have b13 := keep (b12.out.trans (B3.out.mono b12.out.size))
        have c4 : Hid ((w3.alloc (.cells #[.slice p3 C.length c3] 27)).cell? (Addr.add ⟨w3.heap.size, 0, none⟩ 0) = some (.slice p3 C.length c3)) := cell_of_row _ _ _ _ _ _ (heap_alloc_new w3 _)
        go_wp2_with (at_builtin; go_loud (refine wpList_append_row rfl _ _ 37 48 27 (by decide) rfl w.heap.size i0 Try.underlying37 hi0 hz0 hz1 hz2 w3 _ (wayN L) rfl ((R2.out.next B3.out).low B1.out.size) ⟨p3, c3, C⟩ O3.out ((Below.refl _ _).alloc (Nat.le_refl _) _) _ rfl c4.out PL.out (le_alloc b13.out.size _) ?_); intro v7 w7 hr7 hb7; have R7 := keep hr7; have B7 := keep hb7; clear hr7 hb7)
        obtain ⟨p7, c7, _, e7, _, _, _⟩ := R7.out.src
        subst e7
        go_wp2
        go_ret
        exact ⟨_, rfl, R7.out, (b13.out.alloc b13.out.size _).trans B7.out⟩
set_option maxHeartbeats 1000000 in
set_option maxRecDepth 100000 in
theorem rproof_any (m : Nat) (hm1 : 1 ≤ m) : ∀ (d a b : Nat), b - a = d → a ≤ m - 1 → m ≤ b → b ≤ 1099511627776 → Mt.rf d ∣ a → ∀ (own : Bool) (w : World),
    Calls Try.prog 26 #[.int .i64 (m : Int), .int .i64 (a : Int), .int .i64 (b : Int), .bool own] w (RowsR 48 27 w (subN m own a b)) := by
  obtain ⟨i0, hi0, hz0, hz1, hz2⟩ := info_partsS infoQQ
  intro d
  induction d using Nat.strongRecOn with
  | _ d ih =>
    intro a b hd ha hb hbm hal own w
    subst hd
    have IH := keep ih
    clear ih
    cases hee : Mt.endE m a b with
    | true =>
      have h1 : b = m := by unfold Mt.endE at hee; simpa using hee
      subst h1
      have HS := sub_end (m := b) own hee
      cases own with
      | true =>
        rw [HS.1 rfl]
        clear hee hal IH hbm HS hb
        go_enter Try.func26, Try.ntmps26
        go_wp2
        go_ret
        exact ⟨_, rfl, RowsV.nil, Below.refl _ _⟩
      | false =>
        rw [HS.2 rfl]
        have SC := keep (rsure_any a b w (by omega) hbm hal)
        obtain ⟨C, hC⟩ : ∃ C, Mt.cov a b = C := ⟨_, rfl⟩
        rw [hC] at SC ⊢
        clear hee hal IH hbm HS hb ha hC hm1
        go_enter Try.func26, Try.ntmps26
        go_wp2_with fail
        refine SC.out.mono ?_
        rintro e w3 ⟨v3, rfl, ho3, hb3⟩
        obtain ⟨p3, c3, rfl⟩ := own_is ho3
        have O3 := keep (PosR.held ho3)
        have B3 := keep hb3
        clear ho3 hb3
        have R7 : Hid (RowsV 48 27 (w3.alloc (.cells #[.slice p3 C.length c3] 27)) w.heap.size (.slice (some ⟨w3.heap.size, 0, none⟩) 1 1) [C]) :=
          ⟨[⟨p3, c3, C⟩], rfl, own_one B3.out.size, fun x hx => by rw [List.mem_singleton.1 hx]; exact (rowKind_ok 48).below O3.out ((Below.refl _ _).alloc (Nat.le_refl _) _)⟩
        have B7 := keep (B3.out.alloc B3.out.size (.cells #[.slice p3 C.length c3] 27))
        go_wp2
        go_ret
        exact ⟨_, rfl, R7.out, B7.out⟩
    | false =>
      have h1 : ¬ b = m := by unfold Mt.endE at hee; simpa using hee
      have h2 : 2 ≤ b - a := by omega
      have hlt := Mt.cut_lt h2
      have hpo := Mt.cut_pos (b - a)
      have AL := al_left h2 hal
      have AR := al_right h2 hal
      have CU := keep (rcut_any (b - a) w h2 (by omega))
      have HWL := sub_len41 (m := m) hm1 ha (by omega) hbm own
      by_cases hi : m - 1 < a + Mt.cut (b - a)
      · have hw := sub_left hee h2 hi own
        have RC := keep (fun w1 => IH.out (Mt.cut (b - a)) hlt a (a + Mt.cut (b - a)) (by omega) ha (by omega) (by omega) AL own w1)
        have SC := keep (fun w1 => rsure_any (a + Mt.cut (b - a)) b w1 (by omega) hbm AR)
        rw [hw] at HWL ⊢
        rw [List.length_append] at HWL
        simp only [List.length_cons, List.length_nil] at HWL
        obtain ⟨k, hk⟩ : ∃ k, Mt.cut (b - a) = k := ⟨_, rfl⟩
        rw [hk] at hlt hpo CU hi RC SC HWL ⊢
        obtain ⟨K, hK⟩ : ∃ K, a + k = K := ⟨_, rfl⟩
        have eK : (a : Int) + (k : Int) = (K : Int) := by omega
        rw [hK] at hi RC SC HWL ⊢
        obtain ⟨L, hL⟩ : ∃ L, subN m own a K = L := ⟨_, rfl⟩
        rw [hL] at RC HWL ⊢
        obtain ⟨C, hC⟩ : ∃ C, Mt.cov K b = C := ⟨_, rfl⟩
        rw [hC] at SC ⊢
        obtain ⟨D, hD⟩ : ∃ D, b - a = D := ⟨_, rfl⟩
        rw [hD] at CU hlt
        have e1 : (b : Int) - (a : Int) = (D : Int) := by omega
        have e3 : ((m : Int) == (b : Int)) = false := by simp; omega
        have e4 : ¬ (m : Int) = (b : Int) := by omega
        have iK : (m : Int) ≤ (K : Int) := by omega
        have K1 : (K : Int) ≤ 1099511627776 := by omega
        have D1 : (D : Int) ≤ 1099511627776 := by omega
        have PL : Hid ((L).length + 1 ≤ 1000) := by show _ ≤ _; omega
        clear hee hw hi hk hK hL hC hD AL AR HWL hal h1 h2 hlt hpo IH hbm ha hb hm1
        go_enter Try.func26, Try.ntmps26
        go_wp2_with fail
        refine CU.out.mono ?_
        rintro e w1 ⟨rfl, hb1⟩
        have B1 := keep hb1
        clear hb1
        go_wp2_with fail
        refine (RC.out w1).mono ?_
        rintro e w2 ⟨v2, rfl, hr2, hb2⟩
        have R2 := keep hr2
        have B2 := keep hb2
        obtain ⟨p2, c2, _, e5, _, _, _⟩ := hr2.src
        subst e5
        clear hr2 hb2
        go_wp2_with fail
        refine (SC.out w2).mono ?_
        rintro e w3 ⟨v3, rfl, ho3, hb3⟩
        obtain ⟨p3, c3, rfl⟩ := own_is ho3
        have O3 := keep (PosR.held ho3)
        have B3 := keep hb3
        clear ho3 hb3
        have b12 := keep (B1.out.trans (B2.out.mono B1.out.size))
        have b13 := keep (b12.out.trans (B3.out.mono b12.out.size))
        have c4 : Hid ((w3.alloc (.cells #[.slice p3 C.length c3] 27)).cell? (Addr.add ⟨w3.heap.size, 0, none⟩ 0) = some (.slice p3 C.length c3)) := cell_of_row _ _ _ _ _ _ (heap_alloc_new w3 _)
        go_wp2_with (at_builtin; go_loud (refine wpList_append_row rfl _ _ 37 48 27 (by decide) rfl w.heap.size i0 Try.underlying37 hi0 hz0 hz1 hz2 w3 _ (L) rfl ((R2.out.next B3.out).low B1.out.size) ⟨p3, c3, C⟩ O3.out ((Below.refl _ _).alloc (Nat.le_refl _) _) _ rfl c4.out PL.out (le_alloc b13.out.size _) ?_); intro v7 w7 hr7 hb7; have R7 := keep hr7; have B7 := keep hb7; clear hr7 hb7)
        obtain ⟨p7, c7, _, e7, _, _, _⟩ := R7.out.src
        subst e7
        go_wp2
        go_ret
        exact ⟨_, rfl, R7.out, (b13.out.alloc b13.out.size _).trans B7.out⟩
      · have hw := sub_right hm1 (by omega) hee h2 hi own
        have RC := keep (fun w1 => IH.out (b - (a + Mt.cut (b - a))) (by omega) (a + Mt.cut (b - a)) b rfl (by omega) hb hbm AR false w1)
        have SC := keep (fun w1 => rsure_any a (a + Mt.cut (b - a)) w1 (by omega) (by omega) (by rw [show a + Mt.cut (b - a) - a = Mt.cut (b - a) by omega]; exact AL))
        rw [hw] at HWL ⊢
        rw [List.length_append] at HWL
        simp only [List.length_cons, List.length_nil] at HWL
        obtain ⟨k, hk⟩ : ∃ k, Mt.cut (b - a) = k := ⟨_, rfl⟩
        rw [hk] at hlt hpo CU hi RC SC HWL ⊢
        obtain ⟨K, hK⟩ : ∃ K, a + k = K := ⟨_, rfl⟩
        have eK : (a : Int) + (k : Int) = (K : Int) := by omega
        rw [hK] at hi RC SC HWL ⊢
        obtain ⟨L, hL⟩ : ∃ L, subN m false K b = L := ⟨_, rfl⟩
        rw [hL] at RC HWL ⊢
        obtain ⟨C, hC⟩ : ∃ C, Mt.cov a K = C := ⟨_, rfl⟩
        rw [hC] at SC ⊢
        obtain ⟨D, hD⟩ : ∃ D, b - a = D := ⟨_, rfl⟩
        rw [hD] at CU hlt
        have e1 : (b : Int) - (a : Int) = (D : Int) := by omega
        have e3 : ((m : Int) == (b : Int)) = false := by simp; omega
        have e4 : ¬ (m : Int) = (b : Int) := by omega
        have iK : ¬ (m : Int) ≤ (K : Int) := by omega
        have K1 : (K : Int) ≤ 1099511627776 := by omega
        have D1 : (D : Int) ≤ 1099511627776 := by omega
        have PL : Hid ((L).length + 1 ≤ 1000) := by show _ ≤ _; omega
        clear hee hw hi hk hK hL hC hD AL AR HWL hal h1 h2 hlt hpo IH hbm ha hb hm1
        go_enter Try.func26, Try.ntmps26
        go_wp2_with fail
        refine CU.out.mono ?_
        rintro e w1 ⟨rfl, hb1⟩
        have B1 := keep hb1
        clear hb1
        go_wp2_with fail
        refine (RC.out w1).mono ?_
        rintro e w2 ⟨v2, rfl, hr2, hb2⟩
        have R2 := keep hr2
        have B2 := keep hb2
        obtain ⟨p2, c2, _, e5, _, _, _⟩ := hr2.src
        subst e5
        clear hr2 hb2
        go_wp2_with fail
        refine (SC.out w2).mono ?_
        rintro e w3 ⟨v3, rfl, ho3, hb3⟩
        obtain ⟨p3, c3, rfl⟩ := own_is ho3
        have O3 := keep (PosR.held ho3)
        have B3 := keep hb3
        clear ho3 hb3
        have b12 := keep (B1.out.trans (B2.out.mono B1.out.size))
        have b13 := keep (b12.out.trans (B3.out.mono b12.out.size))
        have c4 : Hid ((w3.alloc (.cells #[.slice p3 C.length c3] 27)).cell? (Addr.add ⟨w3.heap.size, 0, none⟩ 0) = some (.slice p3 C.length c3)) := cell_of_row _ _ _ _ _ _ (heap_alloc_new w3 _)
        go_wp2_with (at_builtin; go_loud (refine wpList_append_row rfl _ _ 37 48 27 (by decide) rfl w.heap.size i0 Try.underlying37 hi0 hz0 hz1 hz2 w3 _ (L) rfl ((R2.out.next B3.out).low B1.out.size) ⟨p3, c3, C⟩ O3.out ((Below.refl _ _).alloc (Nat.le_refl _) _) _ rfl c4.out PL.out (le_alloc b13.out.size _) ?_); intro v7 w7 hr7 hb7; have R7 := keep hr7; have B7 := keep hb7; clear hr7 hb7)
        obtain ⟨p7, c7, _, e7, _, _, _⟩ := R7.out.src
        subst e7
        go_wp2
        go_ret
        exact ⟨_, rfl, R7.out, (b13.out.alloc b13.out.size _).trans B7.out⟩
end Go.Proofs.Ytdgfbbaddoghaaa
