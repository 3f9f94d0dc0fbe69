/- The walk of CheckProof. -/
import Derived.Test.YtelebhcaljepaabDoorPl
namespace Go.Proofs.YtelebhcaljepaabDoor
open Go.RowKit

theorem one_text (w : World) (n : List UInt8) : RSrc strKind (w.alloc (.cells #[.string ⟨n.toArray⟩] 9)) (some ⟨w.heap.size, 0, none⟩) 1 1 [n] := by
  have h : (w.alloc (.cells #[.string ⟨n.toArray⟩] 9)).ownsRow w.heap.size 9 1 (.slice (some ⟨w.heap.size, 0, none⟩) 1 1) 1 (rv strKind [n]) :=
    ⟨by simp [rv, strKind], .inr ⟨_, _, _, rfl, Nat.le_refl _, heap_alloc_new w _, Nat.le_refl _, by decide, by simp, by simp [rv, strKind]⟩⟩
  obtain ⟨ao, c, e, hr, _⟩ := RSrc.own strKind_ok h (fun _ _ => trivial)
  obtain ⟨e1, _, e3⟩ := Value.slice.inj e
  subst e1
  subst e3
  exact hr
set_option maxHeartbeats 4000000 in
set_option maxRecDepth 100000 in
theorem checkProof_any (m n : Int) (pp : Option Addr) (q pc : Nat) (ps : List (List UInt8)) (old rt : List UInt8) (w : World) (hL : Ld w) (hp : RSrc strKind w pp q pc ps) (hq : q ≤ 8796093022000) :
    Calls Tryd.prog 17 #[.int .i64 m, .int .i64 n, .slice pp q pc, .string ⟨old.toArray⟩, .string ⟨rt.toArray⟩] w fun e w' => e = .returned (.int .i64 (checkF m n ps old rt)) ∧ Below w.heap.size w w' := by
  have HLd := keep hL
  have HP := keep hp
  have HPL := keep hp.len
  clear hp hL
  cases hr : inRangeF m n with
  | false =>
    have hA : checkF m n ps old rt = 8 := by unfold checkF; rw [hr]; rfl
    rw [hA]
    unfold inRangeF at hr
    clear hA
    by_cases h1 : m < 1
    · clear hr
      go_enter Tryd.func17, Tryd.ntmps17
      go_wp2
      go_ret
      exact ⟨rfl, Below.refl _ _⟩
    by_cases h2 : n < m
    · clear hr
      go_enter Tryd.func17, Tryd.ntmps17
      go_wp2
      go_ret
      exact ⟨rfl, Below.refl _ _⟩
    have h3 : 1099511627776 < n := by
      rw [decide_eq_true (show 1 ≤ m by omega), decide_eq_true (show m ≤ n by omega)] at hr
      have := of_decide_eq_false hr
      omega
    clear hr
    go_enter Tryd.func17, Tryd.ntmps17
    go_wp2
    go_ret
    exact ⟨rfl, Below.refl _ _⟩
  | true =>
    have hr2 := hr
    unfold inRangeF at hr2
    simp only [Bool.and_eq_true, decide_eq_true_eq] at hr2
    obtain ⟨r1, r2, r3⟩ := hr2
    obtain ⟨M, rfl⟩ : ∃ M : Nat, m = (M : Int) := ⟨m.toNat, by omega⟩
    obtain ⟨N, rfl⟩ : ∃ N : Nat, n = (N : Int) := ⟨n.toNat, by omega⟩
    have hA : Hid (checkF (M : Int) (N : Int) ps old rt = if bothOk M N ps old rt then 0 else 9) := by show _ = _; unfold checkF; rw [hr, if_pos rfl, Int.toNat_natCast, Int.toNat_natCast, proofOk_both (by omega) (by omega)]
    have TE := keep (toEnd_any M N w (by omega) (by omega) (by omega))
    have WI := Mt.way_in (E := Mt.endE M) (i := M - 1) (fun a h1 h2 => Mt.endE_one (by omega) a h1 h2) N 0 N (by omega) (Nat.zero_le _) (by omega)
    have RL := keep (Nat.le_trans WI.2.2.2 (Mt.lv_le (n := N) (j := 40) (by omega)))
    have q1 : ¬ (M : Int) < 1 := by omega
    have q2 : ¬ (N : Int) < (M : Int) := by omega
    have q3 : ¬ (1099511627776 : Int) < (N : Int) := by omega
    have NO : Hid (∀ w', bothOk M N ps old rt = false → Below w.heap.size w w' → Ending.returned (.int .i64 9) = .returned (.int .i64 (checkF (M : Int) (N : Int) ps old rt)) ∧ Below w.heap.size w w') := fun w' h hb => ⟨by rw [hA.out, h]; rfl, hb⟩
    have YES : Hid (∀ w', bothOk M N ps old rt = true → Below w.heap.size w w' → Ending.returned (.int .i64 0) = .returned (.int .i64 (checkF (M : Int) (N : Int) ps old rt)) ∧ Below w.heap.size w w') := fun w' h hb => ⟨by rw [hA.out, h]; rfl, hb⟩
    obtain ⟨V, hV⟩ : ∃ V, checkF (M : Int) (N : Int) ps old rt = V := ⟨_, rfl⟩
    rw [hV] at NO YES ⊢
    clear hV
    unfold bothOk fullP at NO YES
    obtain ⟨⟨R, en⟩, hR⟩ : ∃ R, Mt.way (Mt.endE M) (M - 1) 0 N = R := ⟨_, rfl⟩
    rw [hR] at TE RL NO YES
    simp only at TE RL NO YES
    clear hr r1 r2 r3 hA hR WI
    by_cases hen : en = 0
    · subst hen
      simp only [if_true] at NO YES
      go_enter Tryd.func17, Tryd.ntmps17
      go_wp2_with fail
      refine TE.out.mono ?_
      rintro e w1 ⟨v, rfl, hA⟩
      obtain ⟨rp, rc, rfl, hrs⟩ := hA.src
      have B1 := keep hA.2
      have RS := keep hrs
      clear hA hrs TE
      obtain ⟨L, hLL⟩ : ∃ L, R.length = L := ⟨_, rfl⟩
      rw [hLL] at RS RL NO YES ⊢
      have hL40 := RL.out
      obtain ⟨W2, hW2⟩ : ∃ Wn, w1.alloc (.cells #[.string ⟨old.toArray⟩] 9) = Wn := ⟨_, rfl⟩
      have b2 : Hid (Below w1.heap.size w1 W2) := by rw [← hW2]; exact (Below.refl _ _).alloc (Nat.le_refl _) _
      have s2 : W2.heap.size = w1.heap.size + 1 := by rw [← hW2, alloc_size]
      have x2 : Hid (RSrc strKind W2 (some ⟨w1.heap.size, 0, none⟩) 1 1 [old]) := by rw [← hW2]; exact one_text w1 old
      obtain ⟨W3, hW3⟩ : ∃ Wn, W2.alloc (.cells #[.slice (some ⟨w1.heap.size, 0, none⟩) 1 1, .slice pp q pc] 22) = Wn := ⟨_, rfl⟩
      have b3 : Hid (Below W2.heap.size W2 W3) := by rw [← hW3]; exact (Below.refl _ _).alloc (Nat.le_refl _) _
      have k0 : W3.cell? ⟨w1.heap.size + 1, 0, none⟩ = some (.slice (some ⟨w1.heap.size, 0, none⟩) 1 1) := by rw [← s2, ← hW3]; exact cell_of_row _ _ _ _ _ _ (heap_alloc_new W2 _)
      have k1 : W3.cell? ⟨w1.heap.size + 1, 1, none⟩ = some (.slice pp q pc) := by rw [← s2, ← hW3]; exact cell_of_row _ _ _ _ _ _ (heap_alloc_new W2 _)
      have B2 := keep (B1.out.trans (b2.out.mono B1.out.size))
      have B3 := keep (B2.out.trans (b3.out.mono B2.out.size))
      have CC := keep (concatS_two (w1.heap.size + 1) _ 1 1 [old] pp q pc ps W3 (by omega) (by omega) k0 k1 (x2.out.below strKind_ok b3.out) (HP.out.below strKind_ok B3.out))
      have RS3 := keep ((RS.out.below sideKind_ok b2.out).below sideKind_ok b3.out)
      clear k0 k1
      go_wp2_with fail
      refine CC.out.mono ?_
      rintro e w4 ⟨v4, rfl, ho4, hb4⟩
      obtain ⟨fp, fc, rfl, hf4, _⟩ := RSrc.own strKind_ok ho4 (fun _ _ => trivial)
      have B4 := keep (B3.out.trans (hb4.mono B3.out.size))
      have RS4 := keep (RS3.out.below sideKind_ok hb4)
      have FS := keep hf4
      clear ho4 hb4 hf4 CC hW2 hW3 s2 RS3 RS
      obtain ⟨fq, hfq⟩ : ∃ fq, 1 + q = fq := ⟨_, rfl⟩
      have hfq2 : fq ≤ 8796093022001 := by omega
      have FL : Hid (([old] ++ ps).length = fq) := by show _ = _; rw [← hfq, List.length_append, HPL.out]; rfl
      rw [hfq] at FS ⊢
      rw [show old :: ps = [old] ++ ps from rfl] at NO YES
      have FPN : Hid ([old] ++ ps ≠ []) := by intro h; cases h
      obtain ⟨FP, hFP⟩ : ∃ FP, [old] ++ ps = FP := ⟨_, rfl⟩
      rw [hFP] at FS NO YES FL FPN
      clear hFP hfq
      have fcap := FS.out.cap
      have AH := keep (areHashes_any fp fq fc FP w4 FS.out (by omega))
      have hNO := NO.out
      have hYES := YES.out
      rw [FL.out] at hNO hYES
      have NO2 := keep hNO
      have YES2 := keep hYES
      clear hNO hYES NO YES
      have l1 : (1 : Int) + (L : Int) = ((1 + L : Nat) : Int) := by omega
      have l2 : (0 : Int) ≤ ((1 + L : Nat) : Int) := by omega
      have l3 : ((1 + L : Nat) : Int) ≤ 1000 := by omega
      obtain ⟨L1, hL1⟩ : ∃ L1, 1 + L = L1 := ⟨_, rfl⟩
      rw [hL1] at l1 l2 l3 NO2 YES2
      by_cases hlq : fq = L1
      · rw [decide_eq_true hlq, Bool.true_and] at NO2 YES2
        subst hlq
        cases hw1 : wholeL FP with
        | false =>
          rw [hw1] at AH NO2
          clear hw1
          go_wp2_with fail
          refine AH.out.mono ?_
          rintro e w5 ⟨rfl, hb5⟩
          have B5 := keep (B4.out.trans (hb5.mono B4.out.size))
          clear hb5 AH
          go_wp2
          go_ret
          exact NO2.out _ (by first | rfl | trivial) B5.out
        | true =>
          have WMEM := keep (wholeL_mem hw1)
          rw [hw1, Bool.true_and] at NO2 YES2
          rw [hw1] at AH
          have HW1 := keep hw1
          clear hw1
          match FP, FL, FS, HW1, WMEM, NO2, YES2 with
          | [], FL, _, _, _, _, _ =>
            have := FL.out
            simp at this
            omega
          | x :: tl, FL, FS, HW1, WMEM, NO2, YES2 =>
            simp only [List.headD_cons, List.tail_cons] at NO2 YES2
            have x32 := WMEM.out x (by simp)
            have tw : wholeL tl = true := by have := HW1.out; unfold wholeL at this ⊢; simp at this ⊢; exact this.2
            have tln : tl.length + 1 = fq := by have := FL.out; simpa using this
            obtain ⟨b, off, rfl, _, hcell⟩ := strs_at FS.out (by omega)
            have c0 := hcell 0 x rfl
            rw [Nat.add_zero] at c0
            have C0 := keep c0
            have CB : Hid (∀ w', Below w4.heap.size w4 w' → ∀ ta T tc, T = L → RSrc strKind w' ta T tc tl → Calls Tryd.prog 33 #[.string ⟨x.toArray⟩, .slice rp L rc, .slice ta T tc] w' fun e w'' => e = .returned (.tuple #[.string ⟨(Mt.both nodeL (x, x) R tl).1.toArray⟩, .string ⟨(Mt.both nodeL (x, x) R tl).2.toArray⟩]) ∧ Below w'.heap.size w' w'') := fun w' hb ta T tc hT h => by subst hT; exact climbBoth_any x rp T rc R ta tc tl w' (HLd.out.below (B4.out.trans (hb.mono B4.out.size))) (RS4.out.below sideKind_ok hb) h (by omega) x32 tw
            obtain ⟨⟨X1, X2⟩, hX⟩ : ∃ X, Mt.both nodeL (x, x) R tl = X := ⟨_, rfl⟩
            simp only [hX] at CB NO2 YES2
            have NO3 := keep NO2.out
            have YES3 := keep YES2.out
            have TS : Hid (RSrc strKind w4 (some ⟨b, off + 1, none⟩) (fq - 1) (fc - 1) tl) := strs_tail FS.out 1 (by omega)
            have f1 : (1 : Int) ≤ (fq : Int) := by omega
            have f2 : (fq : Int) ≤ (fc : Int) := by omega
            have f0 : (0 : Int) < (fq : Int) := by omega
            have fz : ¬ fq = 0 := by omega
            have e1 : (fq : Int) - 1 = ((fq - 1 : Nat) : Int) := by omega
            have e2 : (fc : Int) - 1 = ((fc - 1 : Nat) : Int) := by omega
            clear hcell c0 hX x32 tw
            go_wp2_with fail
            refine AH.out.mono ?_
            rintro e w5 ⟨rfl, hb5⟩
            have B5 := keep (B4.out.trans (hb5.mono B4.out.size))
            have b5 := keep hb5
            clear hb5 AH
            have C5 := keep (below_cell b5.out C0.out)
            by_cases hc1 : fc = 1
            · have fq1 : fq = 1 := by omega
              have hL0 : L = 0 := by omega
              have ht0 : tl = [] := List.length_eq_zero_iff.1 (by omega)
              have TS0 : Hid (∀ w', RSrc strKind w' (some ⟨b, off, none⟩) 0 0 tl) := fun w' => by rw [ht0]; exact RSrc.empty (fun e => by cases e)
              clear e1 e2 f0 f1 f2 fz TS
              subst hL0
              subst hc1
              subst fq1
              clear l1 l2 l3
              go_wp2_with fail
              refine wp_region_held_drew (S := fun w' => Below w4.heap.size w4 w') (by kernel_rfl) (b5.out.drew) (fun hZ => ?_)
              refine takeH (i := 0) 51 (v := .slice (some ⟨b, off, none⟩) 1 1) rfl rfl (by kernel_rfl) (by kernel_rfl) (by kernel_rfl) (fun _ _ _ h => h) (Or.inl ⟨by rfl, ?_⟩) (by assumption) ?_
              · intro w' hSw'
                go_simp
              simp only [Act.put, List.setIfInBounds_toArray, List.set_cons_zero, List.set_cons_succ]
              refine takeH (i := 1) 52 (v := .pointer (some ⟨b, off, none⟩)) rfl rfl (by kernel_rfl) (by kernel_rfl) (by kernel_rfl) (fun _ _ _ h => h) (Or.inl ⟨by rfl, ?_⟩) (by assumption) ?_
              · intro w' hSw'
                go_simp
              simp only [Act.put, List.setIfInBounds_toArray, List.set_cons_zero, List.set_cons_succ]
              refine takeH (i := 2) 53 (v := .string ⟨x.toArray⟩) rfl rfl (by kernel_rfl) (by kernel_rfl) (by kernel_rfl) (fun _ _ _ h => h) (Or.inl ⟨by rfl, ?_⟩) (by assumption) ?_
              · intro w' hSw'
                have z0 := below_cell hSw' C0.out
                go_simp
              simp only [Act.put, List.setIfInBounds_toArray, List.set_cons_zero, List.set_cons_succ]
              refine takeH (i := 3) 54 (v := .slice rp 0 rc) rfl rfl (by kernel_rfl) (by kernel_rfl) (by kernel_rfl) (fun _ _ _ h => h) (Or.inl ⟨by rfl, ?_⟩) (by assumption) ?_
              · intro w' hSw'
                go_simp
              simp only [Act.put, List.setIfInBounds_toArray, List.set_cons_zero, List.set_cons_succ]
              refine takeH (i := 4) 55 (v := .slice (some ⟨b, off, none⟩) 1 1) rfl rfl (by kernel_rfl) (by kernel_rfl) (by kernel_rfl) (fun _ _ _ h => h) (Or.inl ⟨by rfl, ?_⟩) (by assumption) ?_
              · intro w' hSw'
                go_simp
              simp only [Act.put, List.setIfInBounds_toArray, List.set_cons_zero, List.set_cons_succ]
              refine takeH (i := 5) 56 (v := .slice (some ⟨b, off, none⟩) 0 0) rfl rfl (by kernel_rfl) (by kernel_rfl) (by kernel_rfl) (fun _ _ _ h => h) (Or.inl ⟨by rfl, ?_⟩) (by assumption) ?_
              · intro w' hSw'
                go_simp
              simp only [Act.put, List.setIfInBounds_toArray, List.set_cons_zero, List.set_cons_succ]
              refine wpAnyH_ready (rs := [6]) (by kernel_rfl) (by simp) ?_
              refine AllReadyH.cons rfl (fun K hK => ?_) AllReadyH.nil
              go_simp
              refine (CB.out _ b5.out.drew (some ⟨b, off, none⟩) 0 0 rfl (TS0.out _)).mono ?_
              rintro e w6 ⟨rfl, hb6⟩
              have B6 := keep (B5.out.drew.trans (hb6.mono B5.out.drew.size))
              have b6 := keep (b5.out.drew.trans (hb6.mono b5.out.drew.size))
              clear hb6
              go_wp2_with fail
              refine hK.out _ _ (b6.out) (fun hZ1 => ?_)
              clear hK K
              refine takeH (i := 7) 50 (v := .tuple #[.string ⟨X1.toArray⟩, .string ⟨X2.toArray⟩]) rfl rfl (by kernel_rfl) (by kernel_rfl) (by kernel_rfl) (fun _ _ _ h => h) (Or.inl ⟨by rfl, ?_⟩) (by assumption) ?_
              · intro w' hSw'
                go_simp
              simp only [Act.put, List.setIfInBounds_toArray, List.set_cons_zero, List.set_cons_succ]
              refine takeH (i := 8) 58 (v := .string ⟨X1.toArray⟩) rfl rfl (by kernel_rfl) (by kernel_rfl) (by kernel_rfl) (fun _ _ _ h => h) (Or.inl ⟨by rfl, ?_⟩) (by assumption) ?_
              · intro w' hSw'
                go_simp
              simp only [Act.put, List.setIfInBounds_toArray, List.set_cons_zero, List.set_cons_succ]
              refine takeH (i := 9) 59 (v := .string ⟨X2.toArray⟩) rfl rfl (by kernel_rfl) (by kernel_rfl) (by kernel_rfl) (fun _ _ _ h => h) (Or.inl ⟨by rfl, ?_⟩) (by assumption) ?_
              · intro w' hSw'
                go_simp
              simp only [Act.put, List.setIfInBounds_toArray, List.set_cons_zero, List.set_cons_succ]
              refine takeH (i := 10) 13 (v := .string ⟨X1.toArray⟩) rfl rfl (by kernel_rfl) (by kernel_rfl) (by kernel_rfl) (fun _ _ _ h => h) (Or.inl ⟨by rfl, ?_⟩) (by assumption) ?_
              · intro w' hSw'
                go_simp
              simp only [Act.put, List.setIfInBounds_toArray, List.set_cons_zero, List.set_cons_succ]
              refine takeH (i := 11) 14 (v := .string ⟨X2.toArray⟩) rfl rfl (by kernel_rfl) (by kernel_rfl) (by kernel_rfl) (fun _ _ _ h => h) (Or.inl ⟨by rfl, ?_⟩) (by assumption) ?_
              · intro w' hSw'
                go_simp
              simp only [Act.put, List.setIfInBounds_toArray, List.set_cons_zero, List.set_cons_succ]
              refine wpAnyH_done (by kernel_rfl) ?_ _
              by_cases h1 : X1 = old
              · rw [decide_eq_true h1, Bool.true_and] at NO3 YES3
                subst h1
                by_cases h2 : X2 = rt
                · rw [decide_eq_true h2] at YES3
                  subst h2
                  go_wp2
                  go_ret
                  exact YES3.out _ (by first | rfl | trivial) B6.out
                · have hne : (X2 == rt) = false := by simpa using h2
                  rw [decide_eq_false h2] at NO3
                  clear h2
                  go_wp2
                  go_ret
                  exact NO3.out _ (by first | rfl | trivial) B6.out
              · have hne : (X1 == old) = false := by simpa using h1
                rw [decide_eq_false h1, Bool.false_and] at NO3
                clear h1
                go_wp2
                go_ret
                exact NO3.out _ (by first | rfl | trivial) B6.out
            · have hc2 : ¬ fc = 1 := hc1
              go_wp2_with fail
              refine wp_region_held_drew (S := fun w' => Below w4.heap.size w4 w') (by kernel_rfl) (b5.out.drew) (fun hZ => ?_)
              refine takeH (i := 0) 51 (v := .slice (some ⟨b, off, none⟩) fq fc) rfl rfl (by kernel_rfl) (by kernel_rfl) (by kernel_rfl) (fun _ _ _ h => h) (Or.inl ⟨by rfl, ?_⟩) (by assumption) ?_
              · intro w' hSw'
                go_simp
              simp only [Act.put, List.setIfInBounds_toArray, List.set_cons_zero, List.set_cons_succ]
              refine takeH (i := 1) 52 (v := .pointer (some ⟨b, off, none⟩)) rfl rfl (by kernel_rfl) (by kernel_rfl) (by kernel_rfl) (fun _ _ _ h => h) (Or.inl ⟨by rfl, ?_⟩) (by assumption) ?_
              · intro w' hSw'
                go_simp
              simp only [Act.put, List.setIfInBounds_toArray, List.set_cons_zero, List.set_cons_succ]
              refine takeH (i := 2) 53 (v := .string ⟨x.toArray⟩) rfl rfl (by kernel_rfl) (by kernel_rfl) (by kernel_rfl) (fun _ _ _ h => h) (Or.inl ⟨by rfl, ?_⟩) (by assumption) ?_
              · intro w' hSw'
                have z0 := below_cell hSw' C0.out
                go_simp
              simp only [Act.put, List.setIfInBounds_toArray, List.set_cons_zero, List.set_cons_succ]
              refine takeH (i := 3) 54 (v := .slice rp L rc) rfl rfl (by kernel_rfl) (by kernel_rfl) (by kernel_rfl) (fun _ _ _ h => h) (Or.inl ⟨by rfl, ?_⟩) (by assumption) ?_
              · intro w' hSw'
                go_simp
              simp only [Act.put, List.setIfInBounds_toArray, List.set_cons_zero, List.set_cons_succ]
              refine takeH (i := 4) 55 (v := .slice (some ⟨b, off, none⟩) fq fc) rfl rfl (by kernel_rfl) (by kernel_rfl) (by kernel_rfl) (fun _ _ _ h => h) (Or.inl ⟨by rfl, ?_⟩) (by assumption) ?_
              · intro w' hSw'
                go_simp
              simp only [Act.put, List.setIfInBounds_toArray, List.set_cons_zero, List.set_cons_succ]
              refine takeH (i := 5) 56 (v := .slice (some ⟨b, off + 1, none⟩) (fq - 1) (fc - 1)) rfl rfl (by kernel_rfl) (by kernel_rfl) (by kernel_rfl) (fun _ _ _ h => h) (Or.inl ⟨by rfl, ?_⟩) (by assumption) ?_
              · intro w' hSw'
                go_simp
              simp only [Act.put, List.setIfInBounds_toArray, List.set_cons_zero, List.set_cons_succ]
              refine wpAnyH_ready (rs := [6]) (by kernel_rfl) (by simp) ?_
              refine AllReadyH.cons rfl (fun K hK => ?_) AllReadyH.nil
              go_simp
              refine (CB.out _ b5.out.drew (some ⟨b, off + 1, none⟩) (fq - 1) (fc - 1) (by omega) (TS.out.below strKind_ok b5.out.drew)).mono ?_
              rintro e w6 ⟨rfl, hb6⟩
              have B6 := keep (B5.out.drew.trans (hb6.mono B5.out.drew.size))
              have b6 := keep (b5.out.drew.trans (hb6.mono b5.out.drew.size))
              clear hb6
              go_wp2_with fail
              refine hK.out _ _ (b6.out) (fun hZ1 => ?_)
              clear hK K
              refine takeH (i := 7) 50 (v := .tuple #[.string ⟨X1.toArray⟩, .string ⟨X2.toArray⟩]) rfl rfl (by kernel_rfl) (by kernel_rfl) (by kernel_rfl) (fun _ _ _ h => h) (Or.inl ⟨by rfl, ?_⟩) (by assumption) ?_
              · intro w' hSw'
                go_simp
              simp only [Act.put, List.setIfInBounds_toArray, List.set_cons_zero, List.set_cons_succ]
              refine takeH (i := 8) 58 (v := .string ⟨X1.toArray⟩) rfl rfl (by kernel_rfl) (by kernel_rfl) (by kernel_rfl) (fun _ _ _ h => h) (Or.inl ⟨by rfl, ?_⟩) (by assumption) ?_
              · intro w' hSw'
                go_simp
              simp only [Act.put, List.setIfInBounds_toArray, List.set_cons_zero, List.set_cons_succ]
              refine takeH (i := 9) 59 (v := .string ⟨X2.toArray⟩) rfl rfl (by kernel_rfl) (by kernel_rfl) (by kernel_rfl) (fun _ _ _ h => h) (Or.inl ⟨by rfl, ?_⟩) (by assumption) ?_
              · intro w' hSw'
                go_simp
              simp only [Act.put, List.setIfInBounds_toArray, List.set_cons_zero, List.set_cons_succ]
              refine takeH (i := 10) 13 (v := .string ⟨X1.toArray⟩) rfl rfl (by kernel_rfl) (by kernel_rfl) (by kernel_rfl) (fun _ _ _ h => h) (Or.inl ⟨by rfl, ?_⟩) (by assumption) ?_
              · intro w' hSw'
                go_simp
              simp only [Act.put, List.setIfInBounds_toArray, List.set_cons_zero, List.set_cons_succ]
              refine takeH (i := 11) 14 (v := .string ⟨X2.toArray⟩) rfl rfl (by kernel_rfl) (by kernel_rfl) (by kernel_rfl) (fun _ _ _ h => h) (Or.inl ⟨by rfl, ?_⟩) (by assumption) ?_
              · intro w' hSw'
                go_simp
              simp only [Act.put, List.setIfInBounds_toArray, List.set_cons_zero, List.set_cons_succ]
              refine wpAnyH_done (by kernel_rfl) ?_ _
              by_cases h1 : X1 = old
              · rw [decide_eq_true h1, Bool.true_and] at NO3 YES3
                subst h1
                by_cases h2 : X2 = rt
                · rw [decide_eq_true h2] at YES3
                  subst h2
                  go_wp2
                  go_ret
                  exact YES3.out _ (by first | rfl | trivial) B6.out
                · have hne : (X2 == rt) = false := by simpa using h2
                  rw [decide_eq_false h2] at NO3
                  clear h2
                  go_wp2
                  go_ret
                  exact NO3.out _ (by first | rfl | trivial) B6.out
              · have hne : (X1 == old) = false := by simpa using h1
                rw [decide_eq_false h1, Bool.false_and] at NO3
                clear h1
                go_wp2
                go_ret
                exact NO3.out _ (by first | rfl | trivial) B6.out
      · have lq2 : ¬ (fq : Int) = (L1 : Int) := by omega
        rw [decide_eq_false hlq] at NO2
        go_wp2
        go_ret
        exact NO2.out _ (by first | rfl | trivial) B4.out
    · have en0 : ¬ (en : Int) = 0 := by omega
      simp only [if_neg hen] at NO YES
      clear hen
      go_enter Tryd.func17, Tryd.ntmps17
      go_wp2_with fail
      refine TE.out.mono ?_
      rintro e w4 ⟨v, rfl, hA⟩
      obtain ⟨rp, rc, rfl, hrs⟩ := hA.src
      have B4 := keep hA.2
      have RS4 := keep hrs
      clear hA hrs TE
      obtain ⟨L, hLL⟩ : ∃ L, R.length = L := ⟨_, rfl⟩
      rw [hLL] at RS4 RL NO YES ⊢
      have hL40 := RL.out
      have FS := keep (HP.out.below strKind_ok B4.out)
      have FL := HPL
      have hfq2 : q ≤ 8796093022001 := by omega
      have fcap := FS.out.cap
      have AH := keep (areHashes_any pp q pc ps w4 FS.out (by omega))
      have hNO := NO.out
      have hYES := YES.out
      rw [FL.out] at hNO hYES
      have NO2 := keep hNO
      have YES2 := keep hYES
      clear hNO hYES NO YES
      have l1 : (1 : Int) + (L : Int) = ((1 + L : Nat) : Int) := by omega
      have l2 : (0 : Int) ≤ ((1 + L : Nat) : Int) := by omega
      have l3 : ((1 + L : Nat) : Int) ≤ 1000 := by omega
      obtain ⟨L1, hL1⟩ : ∃ L1, 1 + L = L1 := ⟨_, rfl⟩
      rw [hL1] at l1 l2 l3 NO2 YES2
      by_cases hlq : q = L1
      · rw [decide_eq_true hlq, Bool.true_and] at NO2 YES2
        subst hlq
        cases hw1 : wholeL ps with
        | false =>
          rw [hw1] at AH NO2
          clear hw1
          go_wp2_with fail
          refine AH.out.mono ?_
          rintro e w5 ⟨rfl, hb5⟩
          have B5 := keep (B4.out.trans (hb5.mono B4.out.size))
          clear hb5 AH
          go_wp2
          go_ret
          exact NO2.out _ (by first | rfl | trivial) B5.out
        | true =>
          have WMEM := keep (wholeL_mem hw1)
          rw [hw1, Bool.true_and] at NO2 YES2
          rw [hw1] at AH
          have HW1 := keep hw1
          clear hw1
          match ps, FL, FS, HW1, WMEM, NO2, YES2 with
          | [], FL, _, _, _, _, _ =>
            have := FL.out
            simp at this
            omega
          | x :: tl, FL, FS, HW1, WMEM, NO2, YES2 =>
            simp only [List.headD_cons, List.tail_cons] at NO2 YES2
            have x32 := WMEM.out x (by simp)
            have tw : wholeL tl = true := by have := HW1.out; unfold wholeL at this ⊢; simp at this ⊢; exact this.2
            have tln : tl.length + 1 = q := by have := FL.out; simpa using this
            obtain ⟨b, off, rfl, _, hcell⟩ := strs_at FS.out (by omega)
            have c0 := hcell 0 x rfl
            rw [Nat.add_zero] at c0
            have C0 := keep c0
            have CB : Hid (∀ w', Below w4.heap.size w4 w' → ∀ ta T tc, T = L → RSrc strKind w' ta T tc tl → Calls Tryd.prog 33 #[.string ⟨x.toArray⟩, .slice rp L rc, .slice ta T tc] w' fun e w'' => e = .returned (.tuple #[.string ⟨(Mt.both nodeL (x, x) R tl).1.toArray⟩, .string ⟨(Mt.both nodeL (x, x) R tl).2.toArray⟩]) ∧ Below w'.heap.size w' w'') := fun w' hb ta T tc hT h => by subst hT; exact climbBoth_any x rp T rc R ta tc tl w' (HLd.out.below (B4.out.trans (hb.mono B4.out.size))) (RS4.out.below sideKind_ok hb) h (by omega) x32 tw
            obtain ⟨⟨X1, X2⟩, hX⟩ : ∃ X, Mt.both nodeL (x, x) R tl = X := ⟨_, rfl⟩
            simp only [hX] at CB NO2 YES2
            have NO3 := keep NO2.out
            have YES3 := keep YES2.out
            have TS : Hid (RSrc strKind w4 (some ⟨b, off + 1, none⟩) (q - 1) (pc - 1) tl) := strs_tail FS.out 1 (by omega)
            have f1 : (1 : Int) ≤ (q : Int) := by omega
            have f2 : (q : Int) ≤ (pc : Int) := by omega
            have f0 : (0 : Int) < (q : Int) := by omega
            have fz : ¬ q = 0 := by omega
            have e1 : (q : Int) - 1 = ((q - 1 : Nat) : Int) := by omega
            have e2 : (pc : Int) - 1 = ((pc - 1 : Nat) : Int) := by omega
            clear hcell c0 hX x32 tw
            go_wp2_with fail
            refine AH.out.mono ?_
            rintro e w5 ⟨rfl, hb5⟩
            have B5 := keep (B4.out.trans (hb5.mono B4.out.size))
            have b5 := keep hb5
            clear hb5 AH
            have C5 := keep (below_cell b5.out C0.out)
            by_cases hc1 : pc = 1
            · have fq1 : q = 1 := by omega
              have hL0 : L = 0 := by omega
              have ht0 : tl = [] := List.length_eq_zero_iff.1 (by omega)
              have TS0 : Hid (∀ w', RSrc strKind w' (some ⟨b, off, none⟩) 0 0 tl) := fun w' => by rw [ht0]; exact RSrc.empty (fun e => by cases e)
              clear e1 e2 f0 f1 f2 fz TS
              subst hL0
              subst hc1
              subst fq1
              clear l1 l2 l3
              go_wp2_with fail
              refine wp_region_held_drew (S := fun w' => Below w4.heap.size w4 w') (by kernel_rfl) (b5.out.drew) (fun hZ => ?_)
              refine takeH (i := 0) 51 (v := .slice (some ⟨b, off, none⟩) 1 1) rfl rfl (by kernel_rfl) (by kernel_rfl) (by kernel_rfl) (fun _ _ _ h => h) (Or.inl ⟨by rfl, ?_⟩) (by assumption) ?_
              · intro w' hSw'
                go_simp
              simp only [Act.put, List.setIfInBounds_toArray, List.set_cons_zero, List.set_cons_succ]
              refine takeH (i := 1) 52 (v := .pointer (some ⟨b, off, none⟩)) rfl rfl (by kernel_rfl) (by kernel_rfl) (by kernel_rfl) (fun _ _ _ h => h) (Or.inl ⟨by rfl, ?_⟩) (by assumption) ?_
              · intro w' hSw'
                go_simp
              simp only [Act.put, List.setIfInBounds_toArray, List.set_cons_zero, List.set_cons_succ]
              refine takeH (i := 2) 53 (v := .string ⟨x.toArray⟩) rfl rfl (by kernel_rfl) (by kernel_rfl) (by kernel_rfl) (fun _ _ _ h => h) (Or.inl ⟨by rfl, ?_⟩) (by assumption) ?_
              · intro w' hSw'
                have z0 := below_cell hSw' C0.out
                go_simp
              simp only [Act.put, List.setIfInBounds_toArray, List.set_cons_zero, List.set_cons_succ]
              refine takeH (i := 3) 54 (v := .slice rp 0 rc) rfl rfl (by kernel_rfl) (by kernel_rfl) (by kernel_rfl) (fun _ _ _ h => h) (Or.inl ⟨by rfl, ?_⟩) (by assumption) ?_
              · intro w' hSw'
                go_simp
              simp only [Act.put, List.setIfInBounds_toArray, List.set_cons_zero, List.set_cons_succ]
              refine takeH (i := 4) 55 (v := .slice (some ⟨b, off, none⟩) 1 1) rfl rfl (by kernel_rfl) (by kernel_rfl) (by kernel_rfl) (fun _ _ _ h => h) (Or.inl ⟨by rfl, ?_⟩) (by assumption) ?_
              · intro w' hSw'
                go_simp
              simp only [Act.put, List.setIfInBounds_toArray, List.set_cons_zero, List.set_cons_succ]
              refine takeH (i := 5) 56 (v := .slice (some ⟨b, off, none⟩) 0 0) rfl rfl (by kernel_rfl) (by kernel_rfl) (by kernel_rfl) (fun _ _ _ h => h) (Or.inl ⟨by rfl, ?_⟩) (by assumption) ?_
              · intro w' hSw'
                go_simp
              simp only [Act.put, List.setIfInBounds_toArray, List.set_cons_zero, List.set_cons_succ]
              refine wpAnyH_ready (rs := [6]) (by kernel_rfl) (by simp) ?_
              refine AllReadyH.cons rfl (fun K hK => ?_) AllReadyH.nil
              go_simp
              refine (CB.out _ b5.out.drew (some ⟨b, off, none⟩) 0 0 rfl (TS0.out _)).mono ?_
              rintro e w6 ⟨rfl, hb6⟩
              have B6 := keep (B5.out.drew.trans (hb6.mono B5.out.drew.size))
              have b6 := keep (b5.out.drew.trans (hb6.mono b5.out.drew.size))
              clear hb6
              go_wp2_with fail
              refine hK.out _ _ (b6.out) (fun hZ1 => ?_)
              clear hK K
              refine takeH (i := 7) 50 (v := .tuple #[.string ⟨X1.toArray⟩, .string ⟨X2.toArray⟩]) rfl rfl (by kernel_rfl) (by kernel_rfl) (by kernel_rfl) (fun _ _ _ h => h) (Or.inl ⟨by rfl, ?_⟩) (by assumption) ?_
              · intro w' hSw'
                go_simp
              simp only [Act.put, List.setIfInBounds_toArray, List.set_cons_zero, List.set_cons_succ]
              refine takeH (i := 8) 58 (v := .string ⟨X1.toArray⟩) rfl rfl (by kernel_rfl) (by kernel_rfl) (by kernel_rfl) (fun _ _ _ h => h) (Or.inl ⟨by rfl, ?_⟩) (by assumption) ?_
              · intro w' hSw'
                go_simp
              simp only [Act.put, List.setIfInBounds_toArray, List.set_cons_zero, List.set_cons_succ]
              refine takeH (i := 9) 59 (v := .string ⟨X2.toArray⟩) rfl rfl (by kernel_rfl) (by kernel_rfl) (by kernel_rfl) (fun _ _ _ h => h) (Or.inl ⟨by rfl, ?_⟩) (by assumption) ?_
              · intro w' hSw'
                go_simp
              simp only [Act.put, List.setIfInBounds_toArray, List.set_cons_zero, List.set_cons_succ]
              refine takeH (i := 10) 13 (v := .string ⟨X1.toArray⟩) rfl rfl (by kernel_rfl) (by kernel_rfl) (by kernel_rfl) (fun _ _ _ h => h) (Or.inl ⟨by rfl, ?_⟩) (by assumption) ?_
              · intro w' hSw'
                go_simp
              simp only [Act.put, List.setIfInBounds_toArray, List.set_cons_zero, List.set_cons_succ]
              refine takeH (i := 11) 14 (v := .string ⟨X2.toArray⟩) rfl rfl (by kernel_rfl) (by kernel_rfl) (by kernel_rfl) (fun _ _ _ h => h) (Or.inl ⟨by rfl, ?_⟩) (by assumption) ?_
              · intro w' hSw'
                go_simp
              simp only [Act.put, List.setIfInBounds_toArray, List.set_cons_zero, List.set_cons_succ]
              refine wpAnyH_done (by kernel_rfl) ?_ _
              by_cases h1 : X1 = old
              · rw [decide_eq_true h1, Bool.true_and] at NO3 YES3
                subst h1
                by_cases h2 : X2 = rt
                · rw [decide_eq_true h2] at YES3
                  subst h2
                  go_wp2
                  go_ret
                  exact YES3.out _ (by first | rfl | trivial) B6.out
                · have hne : (X2 == rt) = false := by simpa using h2
                  rw [decide_eq_false h2] at NO3
                  clear h2
                  go_wp2
                  go_ret
                  exact NO3.out _ (by first | rfl | trivial) B6.out
              · have hne : (X1 == old) = false := by simpa using h1
                rw [decide_eq_false h1, Bool.false_and] at NO3
                clear h1
                go_wp2
                go_ret
                exact NO3.out _ (by first | rfl | trivial) B6.out
            · have hc2 : ¬ pc = 1 := hc1
              go_wp2_with fail
              refine wp_region_held_drew (S := fun w' => Below w4.heap.size w4 w') (by kernel_rfl) (b5.out.drew) (fun hZ => ?_)
              refine takeH (i := 0) 51 (v := .slice (some ⟨b, off, none⟩) q pc) rfl rfl (by kernel_rfl) (by kernel_rfl) (by kernel_rfl) (fun _ _ _ h => h) (Or.inl ⟨by rfl, ?_⟩) (by assumption) ?_
              · intro w' hSw'
                go_simp
              simp only [Act.put, List.setIfInBounds_toArray, List.set_cons_zero, List.set_cons_succ]
              refine takeH (i := 1) 52 (v := .pointer (some ⟨b, off, none⟩)) rfl rfl (by kernel_rfl) (by kernel_rfl) (by kernel_rfl) (fun _ _ _ h => h) (Or.inl ⟨by rfl, ?_⟩) (by assumption) ?_
              · intro w' hSw'
                go_simp
              simp only [Act.put, List.setIfInBounds_toArray, List.set_cons_zero, List.set_cons_succ]
              refine takeH (i := 2) 53 (v := .string ⟨x.toArray⟩) rfl rfl (by kernel_rfl) (by kernel_rfl) (by kernel_rfl) (fun _ _ _ h => h) (Or.inl ⟨by rfl, ?_⟩) (by assumption) ?_
              · intro w' hSw'
                have z0 := below_cell hSw' C0.out
                go_simp
              simp only [Act.put, List.setIfInBounds_toArray, List.set_cons_zero, List.set_cons_succ]
              refine takeH (i := 3) 54 (v := .slice rp L rc) rfl rfl (by kernel_rfl) (by kernel_rfl) (by kernel_rfl) (fun _ _ _ h => h) (Or.inl ⟨by rfl, ?_⟩) (by assumption) ?_
              · intro w' hSw'
                go_simp
              simp only [Act.put, List.setIfInBounds_toArray, List.set_cons_zero, List.set_cons_succ]
              refine takeH (i := 4) 55 (v := .slice (some ⟨b, off, none⟩) q pc) rfl rfl (by kernel_rfl) (by kernel_rfl) (by kernel_rfl) (fun _ _ _ h => h) (Or.inl ⟨by rfl, ?_⟩) (by assumption) ?_
              · intro w' hSw'
                go_simp
              simp only [Act.put, List.setIfInBounds_toArray, List.set_cons_zero, List.set_cons_succ]
              refine takeH (i := 5) 56 (v := .slice (some ⟨b, off + 1, none⟩) (q - 1) (pc - 1)) rfl rfl (by kernel_rfl) (by kernel_rfl) (by kernel_rfl) (fun _ _ _ h => h) (Or.inl ⟨by rfl, ?_⟩) (by assumption) ?_
              · intro w' hSw'
                go_simp
              simp only [Act.put, List.setIfInBounds_toArray, List.set_cons_zero, List.set_cons_succ]
              refine wpAnyH_ready (rs := [6]) (by kernel_rfl) (by simp) ?_
              refine AllReadyH.cons rfl (fun K hK => ?_) AllReadyH.nil
              go_simp
              refine (CB.out _ b5.out.drew (some ⟨b, off + 1, none⟩) (q - 1) (pc - 1) (by omega) (TS.out.below strKind_ok b5.out.drew)).mono ?_
              rintro e w6 ⟨rfl, hb6⟩
              have B6 := keep (B5.out.drew.trans (hb6.mono B5.out.drew.size))
              have b6 := keep (b5.out.drew.trans (hb6.mono b5.out.drew.size))
              clear hb6
              go_wp2_with fail
              refine hK.out _ _ (b6.out) (fun hZ1 => ?_)
              clear hK K
              refine takeH (i := 7) 50 (v := .tuple #[.string ⟨X1.toArray⟩, .string ⟨X2.toArray⟩]) rfl rfl (by kernel_rfl) (by kernel_rfl) (by kernel_rfl) (fun _ _ _ h => h) (Or.inl ⟨by rfl, ?_⟩) (by assumption) ?_
              · intro w' hSw'
                go_simp
              simp only [Act.put, List.setIfInBounds_toArray, List.set_cons_zero, List.set_cons_succ]
              refine takeH (i := 8) 58 (v := .string ⟨X1.toArray⟩) rfl rfl (by kernel_rfl) (by kernel_rfl) (by kernel_rfl) (fun _ _ _ h => h) (Or.inl ⟨by rfl, ?_⟩) (by assumption) ?_
              · intro w' hSw'
                go_simp
              simp only [Act.put, List.setIfInBounds_toArray, List.set_cons_zero, List.set_cons_succ]
              refine takeH (i := 9) 59 (v := .string ⟨X2.toArray⟩) rfl rfl (by kernel_rfl) (by kernel_rfl) (by kernel_rfl) (fun _ _ _ h => h) (Or.inl ⟨by rfl, ?_⟩) (by assumption) ?_
              · intro w' hSw'
                go_simp
              simp only [Act.put, List.setIfInBounds_toArray, List.set_cons_zero, List.set_cons_succ]
              refine takeH (i := 10) 13 (v := .string ⟨X1.toArray⟩) rfl rfl (by kernel_rfl) (by kernel_rfl) (by kernel_rfl) (fun _ _ _ h => h) (Or.inl ⟨by rfl, ?_⟩) (by assumption) ?_
              · intro w' hSw'
                go_simp
              simp only [Act.put, List.setIfInBounds_toArray, List.set_cons_zero, List.set_cons_succ]
              refine takeH (i := 11) 14 (v := .string ⟨X2.toArray⟩) rfl rfl (by kernel_rfl) (by kernel_rfl) (by kernel_rfl) (fun _ _ _ h => h) (Or.inl ⟨by rfl, ?_⟩) (by assumption) ?_
              · intro w' hSw'
                go_simp
              simp only [Act.put, List.setIfInBounds_toArray, List.set_cons_zero, List.set_cons_succ]
              refine wpAnyH_done (by kernel_rfl) ?_ _
              by_cases h1 : X1 = old
              · rw [decide_eq_true h1, Bool.true_and] at NO3 YES3
                subst h1
                by_cases h2 : X2 = rt
                · rw [decide_eq_true h2] at YES3
                  subst h2
                  go_wp2
                  go_ret
                  exact YES3.out _ (by first | rfl | trivial) B6.out
                · have hne : (X2 == rt) = false := by simpa using h2
                  rw [decide_eq_false h2] at NO3
                  clear h2
                  go_wp2
                  go_ret
                  exact NO3.out _ (by first | rfl | trivial) B6.out
              · have hne : (X1 == old) = false := by simpa using h1
                rw [decide_eq_false h1, Bool.false_and] at NO3
                clear h1
                go_wp2
                go_ret
                exact NO3.out _ (by first | rfl | trivial) B6.out
      · have lq2 : ¬ (q : Int) = (L1 : Int) := by omega
        rw [decide_eq_false hlq] at NO2
        go_wp2
        go_ret
        exact NO2.out _ (by first | rfl | trivial) B4.out
end Go.Proofs.YtelebhcaljepaabDoor
