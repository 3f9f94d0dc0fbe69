/- The walk of SkipLevels. -/
import Derived.Test.YtlhblbaingojaaaJoinXs
import Derived.Test.YtlhblbaingojaaaRb
namespace Go.Proofs.Ytlhblbaingojaaa
open Go.RowKit
open Sk (Ent)

/-- Level, whatever is asked. -/
theorem level_src (w0 : World) (l : Nat) (ns : List Nd) (r : Nat) (ys : List EV) (hs : List Int) (z : Int) (w : World) (hT : Twin w0 l ns r ys hs w) (hln : ns.length ≤ 1000000) :
    Calls Try.prog 22 #[.pointer (some ⟨l, 0, none⟩), .int .i64 z] w fun e w' => ∃ a k zs, e = .returned (.slice a (List.length zs) k) ∧ RSrc entKind w' a zs.length k zs ∧ zs.map (·.e) = lev (hts ns) z ∧ Below w.heap.size w w' := by
  by_cases hn : z ≤ 12
  · refine (level_mem l ns z (max z 1 - 1).toNat w hT.one.mem hn (by omega) hln).mono ?_
    rintro e w'' ⟨v, zs, rfl, h1, h2, h3⟩
    obtain ⟨a, k, rfl, h4, _⟩ := RSrc.own entKind_ok h1.row (fun z hz => (h1.each z hz).held)
    refine ⟨a, k, zs, rfl, h4, ?_, h3⟩
    rw [h2, lev_same hT.one.mem.tall (z := z) (by omega)]
    rfl
  · refine (level_high l z w (by omega)).mono ?_
    rintro e w'' ⟨rfl, rfl⟩
    refine ⟨none, 0, [], rfl, RSrc.empty (fun _ => rfl), ?_, Below.refl _ _⟩
    rw [lev_none (fun p hp => ?_)]
    · rfl
    · have := hT.low p hp; omega
/-- A level is a part of the one below it. -/
theorem lev_part (z : Int) : ∀ l : List (Ent × Int), List.Sublist (lev l (z + 1)) (lev l z)
  | [] => List.Sublist.refl _
  | p :: l => by
    have ih := lev_part z l
    unfold lev at ih ⊢
    rw [List.filter_cons, List.filter_cons]
    by_cases h1 : z + 1 ≤ p.2
    · have h2 : z ≤ p.2 := by omega
      simp only [h1, h2, decide_true, if_true, List.map_cons]
      exact ih.cons_cons _
    · by_cases h2 : z ≤ p.2
      · simp only [h1, h2, decide_true, decide_false, if_true, Bool.false_eq_true, if_false, List.map_cons]
        exact ih.cons _
      · simp only [h1, h2, decide_false, Bool.false_eq_true, if_false]
        exact ih
theorem lev_first {ns : List Nd} (h : Tall ns) : lev (hts ns) 1 = ents ns := by
  have := lev_same h (z := 1) (i := 0) (by decide)
  rw [above_all h] at this
  exact this.symm
theorem part_in {A B : List Ent} {k a : Nat} (hs : List.Sublist (A.drop k) (B.drop a)) (hk : k < A.length) : a < B.length := by
  have := hs.length_le
  rw [List.length_drop, List.length_drop] at this
  omega
theorem part_more {A B : List Ent} {k a : Nat} {x y : Ent} (hs : List.Sublist (A.drop k) (B.drop a)) (hx : A[k]? = some x) (hy : B[a]? = some y) :
    (y = x → List.Sublist (A.drop (k + 1)) (B.drop (a + 1))) ∧ (y ≠ x → List.Sublist (A.drop k) (B.drop (a + 1))) := by
  have e1 : A.drop k = x :: A.drop (k + 1) := by
    obtain ⟨h, h'⟩ := List.getElem?_eq_some_iff.1 hx
    rw [List.drop_eq_getElem_cons h, h']
  have e2 : B.drop a = y :: B.drop (a + 1) := by
    obtain ⟨h, h'⟩ := List.getElem?_eq_some_iff.1 hy
    rw [List.drop_eq_getElem_cons h, h']
  rw [e1, e2] at hs
  refine ⟨fun h => ?_, fun h => ?_⟩
  · subst h
    exact List.cons_sublist_cons.1 hs
  · rw [e1]
    cases hs with
    | cons _ h' => exact h'
    | cons_cons _ h' => exact absurd rfl h
set_option maxHeartbeats 4000000 in
set_option maxRecDepth 100000 in
theorem levels_walk (ao : Option Addr) (m c : Nat) (es : List OpS) (n : Int) (w : World) (hs : RSrc opsKind w ao m c es) (hfit : ∀ o ∈ es, o.fits) :
    Calls Try.prog 7 #[.slice ao m c, .int .i64 n] w fun e w' => e = .returned (.bool true) ∧ Below w.heap.size w w' := by
  have H1 := keep hs
  have HF := keep hfit
  have AW := keep (awake_any w)
  clear hs hfit
  obtain ⟨q, hq, hqe⟩ := and_mask n 15 (by decide)
  have hqe' : bits .and .i64 n 15 = (q : Int) := hqe
  clear hqe
  go_enter Try.func7, Try.ntmps7
  go_wp2_with fail
  refine AW.out.mono ?_
  rintro e w1 ⟨rfl, hb1⟩
  have B1 := keep hb1
  clear hb1 AW
  go_wp2_with fail
  refine (filled_any w ao m c es w1 B1.out H1.out HF.out).mono ?_
  rintro e w2 ⟨l, r, ns, ys, hs, rfl, hT, hl⟩
  have TW := keep hT
  have LA := keep (level_src w l ns r ys hs (1 + (q : Int)) w2 hT (by omega))
  clear hT H1 HF
  go_wp2_with fail
  refine LA.out.mono ?_
  rintro e w3 ⟨al, cl, zl, rfl, hr3, he3, hb3⟩
  have T3 := keep (TW.out.below hb3)
  have R3 := keep hr3
  have E3 := keep he3
  have LB := keep (level_src w l ns r ys hs (1 + (q : Int) + 1) w3 T3.out (by omega))
  clear hr3 he3 hb3 LA TW
  go_wp2_with fail
  refine LB.out.mono ?_
  rintro e w4 ⟨ah, ch, zh, rfl, hr4, he4, hb4⟩
  have T4 := keep (T3.out.below hb4)
  have RL := keep (R3.out.below entKind_ok hb4)
  have RH := keep hr4
  have SB : Hid (List.Sublist (zh.map (·.e)) (zl.map (·.e))) := by
    rw [he4, E3.out]
    exact lev_part _ _
  obtain ⟨N1, hN1⟩ : ∃ N1, zl.length = N1 := ⟨_, rfl⟩
  obtain ⟨N2, hN2⟩ : ∃ N2, zh.length = N2 := ⟨_, rfl⟩
  have HN1 := keep hN1
  have HN2 := keep hN2
  have HS1 : Hid (N1 ≤ 1000000000) := by
    have h1 := congrArg List.length E3.out
    rw [List.length_map] at h1
    have h2 := lev_length (hts ns) (1 + (q : Int))
    rw [hts_length] at h2
    show _ ≤ _
    omega
  have HS2 : Hid (N2 ≤ 1000000000) := by
    have h1 := congrArg List.length he4
    rw [List.length_map] at h1
    have h2 := lev_length (hts ns) (1 + (q : Int) + 1)
    rw [hts_length] at h2
    show _ ≤ _
    omega
  clear hr4 he4 hb4 LB T3 R3 E3 hqe'
  rw [hN1] at RL ⊢
  rw [hN2] at RH ⊢
  clear hN1 hN2
  have hS1 := HS1.out
  have hS2 := HS2.out
  go_wp2
  go_loopw [10, 11] (fun at_ i wr => ∃ a k : Nat, a ≤ N1 ∧ k ≤ N2 ∧ at_ = .int .i64 (a : Int) ∧ i = .int .i64 (k : Int) ∧ Hid (List.Sublist ((zh.map (·.e)).drop k) ((zl.map (·.e)).drop a)) ∧ Hid (Below w4.heap.size w4 wr)) (fun _ i _ => N2 - (intOf i).toNat)
  case atStart => exact ⟨0, 0, Nat.zero_le _, Nat.zero_le _, rfl, rfl, SB.out, Below.refl _ _⟩
  case round =>
    obtain ⟨a0, k, ha0, hk, rfl, rfl, hS0, hB0⟩ := hrel
    by_cases hkn : k < N2
    · have llk : (k : Int) < (N2 : Int) := by omega
      go_wp2
      obtain ⟨wa, hwa⟩ : ∃ wa, wa = wr := ⟨_, rfl⟩
      subst hwa
      go_loopw [10] (fun at_ wr => ∃ a : Nat, a ≤ N1 ∧ at_ = .int .i64 (a : Int) ∧ Hid (List.Sublist ((zh.map (·.e)).drop k) ((zl.map (·.e)).drop a)) ∧ Hid (Below w4.heap.size w4 wr)) (fun i _ => N1 - (intOf i).toNat)
      case atStart => exact ⟨a0, ha0, rfl, hS0.out, hB0.out⟩
      case round =>
        clear hS0 hB0
        obtain ⟨a, ha, rfl, hSub, hB⟩ := hrel
        have han : a < N1 := by
          have := part_in hSub.out (by rw [List.length_map, HN2.out]; exact hkn)
          rwa [List.length_map, HN1.out] at this
        have lla : (a : Int) < (N1 : Int) := by omega
        have lla0 : (0 : Int) ≤ (a : Int) := by omega
        have llk0 : (0 : Int) ≤ (k : Int) := by omega
        obtain ⟨b1, o1, rfl, _, _⟩ := RL.out.form entKind_ok (by omega)
        obtain ⟨b2, o2, rfl, _, _⟩ := RH.out.form entKind_ok (by omega)
        obtain ⟨y, hy⟩ : ∃ y, zl[a]? = some y := ⟨zl[a]'(by rw [HN1.out]; exact han), List.getElem?_eq_getElem _⟩
        obtain ⟨x, hx⟩ : ∃ x, zh[k]? = some x := ⟨zh[k]'(by rw [HN2.out]; exact hkn), List.getElem?_eq_getElem _⟩
        obtain ⟨pm, pn⟩ := part_more hSub.out (x := x.e) (y := y.e) (by rw [List.getElem?_map, hx]; rfl) (by rw [List.getElem?_map, hy]; rfl)
        have PM := keep pm
        have PN := keep pn
        clear pm pn
        have CY : Hid (∀ w', Below wr.heap.size wr w' → w'.cell? ⟨b1, o1 + a * 4, none⟩ = some (.slice y.kp y.e.key.length y.kc) ∧ w'.cell? ⟨b1, o1 + a * 4 + 1, none⟩ = some (.int .i64 y.e.seq) ∧ w'.cell? ⟨b1, o1 + a * 4 + 2, none⟩ = some (.bool y.e.gone) ∧ w'.cell? ⟨b1, o1 + a * 4 + 3, none⟩ = some (.slice y.vp y.e.val.length y.vc)) := fun w' hb => ent_cells (RL.out.below entKind_ok (hB.out.trans (hb.mono hB.out.size))) hy
        have CX : Hid (∀ w', Below wr.heap.size wr w' → w'.cell? ⟨b2, o2 + k * 4, none⟩ = some (.slice x.kp x.e.key.length x.kc) ∧ w'.cell? ⟨b2, o2 + k * 4 + 1, none⟩ = some (.int .i64 x.e.seq) ∧ w'.cell? ⟨b2, o2 + k * 4 + 2, none⟩ = some (.bool x.e.gone) ∧ w'.cell? ⟨b2, o2 + k * 4 + 3, none⟩ = some (.slice x.vp x.e.val.length x.vc)) := fun w' hb => ent_cells (RH.out.below entKind_ok (hB.out.trans (hb.mono hB.out.size))) hx
        have SO : Hid (∀ w', Below wr.heap.size wr w' → _) := fun w' hb => sameOne_any y x w' ((RL.out.below entKind_ok (hB.out.trans (hb.mono hB.out.size))).held y (List.mem_of_getElem? hy)) ((RH.out.below entKind_ok (hB.out.trans (hb.mono hB.out.size))).held x (List.mem_of_getElem? hx))
        clear hx hy
        obtain ⟨ykp, ykc, yvp, yvc, ⟨ykey, yseq, ygone, yval⟩⟩ := y
        obtain ⟨xkp, xkc, xvp, xvc, ⟨xkey, xseq, xgone, xval⟩⟩ := x
        unfold ev at SO
        simp only at SO CY CX PM PN
        go_wp2_with fail
        refine wp_region_held_drew (S := fun w' => Below wr.heap.size wr w') (by kernel_rfl) ((Below.refl _ _).drew) (fun hHeld => ?_)
        refine takeH (i := 0) 37 (v := .int .i64 (a : Int)) rfl rfl (by kernel_rfl) (by kernel_rfl) (by kernel_rfl) (fun _ _ _ h => h) (Or.inl ⟨by rfl, ?_⟩) (by assumption) ?_
        · intro w' hSw'
          go_simp
        simp only [Act.put, List.setIfInBounds_toArray, List.set_cons_zero, List.set_cons_succ]
        refine takeH (i := 1) 38 (v := .slice (some ⟨b1, o1, none⟩) N1 cl) rfl rfl (by kernel_rfl) (by kernel_rfl) (by kernel_rfl) (fun _ _ _ h => h) (Or.inl ⟨by rfl, ?_⟩) (by assumption) ?_
        · intro w' hSw'
          go_simp
        simp only [Act.put, List.setIfInBounds_toArray, List.set_cons_zero, List.set_cons_succ]
        refine takeH (i := 2) 39 (v := .int .i64 (N1 : Int)) rfl rfl (by kernel_rfl) (by kernel_rfl) (by kernel_rfl) (fun _ _ _ h => h) (Or.inl ⟨by rfl, ?_⟩) (by assumption) ?_
        · intro w' hSw'
          go_simp
        simp only [Act.put, List.setIfInBounds_toArray, List.set_cons_zero, List.set_cons_succ]
        refine takeH (i := 3) 40 (v := .bool true) rfl rfl (by kernel_rfl) (by kernel_rfl) (by kernel_rfl) (fun _ _ _ h => h) (Or.inl ⟨by rfl, ?_⟩) (by assumption) ?_
        · intro w' hSw'
          go_simp
        simp only [Act.put, List.setIfInBounds_toArray, List.set_cons_zero, List.set_cons_succ]
        refine takeH (i := 4) 41 (v := .bool true) rfl rfl (by kernel_rfl) (by kernel_rfl) (by kernel_rfl) (fun _ _ _ h => h) (Or.inl ⟨by rfl, ?_⟩) (by assumption) ?_
        · intro w' hSw'
          go_simp
        simp only [Act.put, List.setIfInBounds_toArray, List.set_cons_zero, List.set_cons_succ]
        refine takeH (i := 5) 42 (v := .slice (some ⟨b1, o1, none⟩) N1 cl) rfl rfl (by kernel_rfl) (by kernel_rfl) (by kernel_rfl) (fun _ _ _ h => h) (Or.inl ⟨by rfl, ?_⟩) (by assumption) ?_
        · intro w' hSw'
          go_simp
        simp only [Act.put, List.setIfInBounds_toArray, List.set_cons_zero, List.set_cons_succ]
        refine takeH (i := 6) 43 (v := .int .i64 (a : Int)) rfl rfl (by kernel_rfl) (by kernel_rfl) (by kernel_rfl) (fun _ _ _ h => h) (Or.inl ⟨by rfl, ?_⟩) (by assumption) ?_
        · intro w' hSw'
          go_simp
        simp only [Act.put, List.setIfInBounds_toArray, List.set_cons_zero, List.set_cons_succ]
        refine takeH (i := 7) 44 (v := .pointer (some ⟨b1, o1 + a * 4, none⟩)) rfl rfl (by kernel_rfl) (by kernel_rfl) (by kernel_rfl) (fun _ _ _ h => h) (Or.inl ⟨by rfl, ?_⟩) (by assumption) ?_
        · intro w' hSw'
          go_simp
        simp only [Act.put, List.setIfInBounds_toArray, List.set_cons_zero, List.set_cons_succ]
        refine takeH (i := 8) 45 (v := .agg #[.slice ykp ykey.length ykc, .int .i64 yseq, .bool ygone, .slice yvp yval.length yvc]) rfl rfl (by kernel_rfl) (by kernel_rfl) (by kernel_rfl) (fun _ _ _ h => h) (Or.inl ⟨by rfl, ?_⟩) (by assumption) ?_
        · intro w' hSw'
          obtain ⟨d0, d1, d2, d3⟩ := CY.out w' hSw'
          go_simp
        simp only [Act.put, List.setIfInBounds_toArray, List.set_cons_zero, List.set_cons_succ]
        refine takeH (i := 9) 46 (v := .slice (some ⟨b2, o2, none⟩) N2 ch) rfl rfl (by kernel_rfl) (by kernel_rfl) (by kernel_rfl) (fun _ _ _ h => h) (Or.inl ⟨by rfl, ?_⟩) (by assumption) ?_
        · intro w' hSw'
          go_simp
        simp only [Act.put, List.setIfInBounds_toArray, List.set_cons_zero, List.set_cons_succ]
        refine takeH (i := 10) 47 (v := .int .i64 (k : Int)) rfl rfl (by kernel_rfl) (by kernel_rfl) (by kernel_rfl) (fun _ _ _ h => h) (Or.inl ⟨by rfl, ?_⟩) (by assumption) ?_
        · intro w' hSw'
          go_simp
        simp only [Act.put, List.setIfInBounds_toArray, List.set_cons_zero, List.set_cons_succ]
        refine takeH (i := 11) 48 (v := .pointer (some ⟨b2, o2 + k * 4, none⟩)) rfl rfl (by kernel_rfl) (by kernel_rfl) (by kernel_rfl) (fun _ _ _ h => h) (Or.inl ⟨by rfl, ?_⟩) (by assumption) ?_
        · intro w' hSw'
          go_simp
        simp only [Act.put, List.setIfInBounds_toArray, List.set_cons_zero, List.set_cons_succ]
        refine takeH (i := 12) 49 (v := .agg #[.slice xkp xkey.length xkc, .int .i64 xseq, .bool xgone, .slice xvp xval.length xvc]) rfl rfl (by kernel_rfl) (by kernel_rfl) (by kernel_rfl) (fun _ _ _ h => h) (Or.inl ⟨by rfl, ?_⟩) (by assumption) ?_
        · intro w' hSw'
          obtain ⟨d0, d1, d2, d3⟩ := CX.out w' hSw'
          go_simp
        simp only [Act.put, List.setIfInBounds_toArray, List.set_cons_zero, List.set_cons_succ]
        refine wpAnyH_ready (rs := [13]) (by kernel_rfl) (by simp) ?_
        refine AllReadyH.cons rfl (fun K hK => ?_) AllReadyH.nil
        go_simp
        refine (SO.out _ (Below.refl _ _).drew).mono ?_
        rintro e w5 ⟨⟨t, rfl, ht⟩, hb5⟩
        have HT := keep ht
        have b5 := keep hb5
        have bb5 : Hid (Below wr.heap.size wr w5) := ((Below.refl _ _).drew).trans (b5.out.mono (Nat.le_refl _))
        have B5 := keep (hB.out.trans (bb5.out.mono hB.out.size))
        clear ht hb5
        go_wp2_with fail
        refine hK.out _ _ (bb5.out) (fun hHeld2 => ?_)
        clear hK K
        refine takeH (i := 14) 51 (v := .bool (!t)) rfl rfl (by kernel_rfl) (by kernel_rfl) (by kernel_rfl) (fun _ _ _ h => h) (Or.inl ⟨by rfl, ?_⟩) (by assumption) ?_
        · intro w' hSw'
          go_simp
        simp only [Act.put, List.setIfInBounds_toArray, List.set_cons_zero, List.set_cons_succ]
        refine takeH (i := 15) 52 (v := .bool (!t)) rfl rfl (by kernel_rfl) (by kernel_rfl) (by kernel_rfl) (fun _ _ _ h => h) (Or.inl ⟨by rfl, ?_⟩) (by assumption) ?_
        · intro w' hSw'
          go_simp
        simp only [Act.put, List.setIfInBounds_toArray, List.set_cons_zero, List.set_cons_succ]
        refine wpAnyH_done (by kernel_rfl) ?_ _
        by_cases ht : t = true
        · obtain rfl := ht
          have SU := keep (PM.out (HT.out.1 rfl))
          have hne : ¬ (a : Int) = (N1 : Int) := by omega
          clear PM PN CY CX SO hSub HT
          go_wp2
          go_roundw
          case rel => exact ⟨a + 1, k + 1, by omega, by omega, by go_num, by go_num, SU.out, B5.out⟩
          case measure => simp [intOf]; omega
        · have ht' : t = false := by cases t <;> simp_all
          subst ht'
          have SU := keep (PN.out (fun h => by have := HT.out.2 h; cases this))
          clear PM PN CY CX SO hSub HT
          go_wp2
          go_roundw
          case rel => exact ⟨a + 1, by omega, by go_num, SU.out, B5.out⟩
          case measure => simp [intOf]; omega
    · obtain rfl : k = N2 := by omega
      have ll : ¬ (k : Int) < (k : Int) := by omega
      have T5 := keep (T4.out.below hB0.out)
      have L1 := keep (level_src w l ns r ys hs 1 wr T5.out (by omega))
      rw [lev_first T5.out.one.mem.tall] at L1
      go_wp2_with fail
      refine L1.out.mono ?_
      rintro e w5 ⟨a5, c5, z5, rfl, hr5, he5, hb5⟩
      have R5 := keep hr5
      have E5 := keep he5
      have T6 := keep (T5.out.below hb5)
      have AL := keep (all_mem l ns w5 T6.out.one.mem (by omega))
      clear hr5 he5 hb5 L1
      go_wp2_with fail
      refine AL.out.mono ?_
      rintro e w6 ⟨v, z6, rfl, hE, hz, hb6⟩
      obtain ⟨a6, c6, rfl, hR, _⟩ := RSrc.own entKind_ok hE.row (fun z hz => (hE.each z hz).held)
      have T7 := keep (T6.out.below hb6)
      have hl65 : z6.length = z5.length := by
        have h1 := congrArg List.length (E5.out.trans hz.symm)
        rw [List.length_map, List.length_map] at h1
        exact h1.symm
      have hl5 : z5.length ≤ 1000000000 := by
        have h1 := congrArg List.length E5.out
        rw [List.length_map] at h1
        rw [h1, ents, List.length_map]
        omega
      rw [hl65] at hR ⊢
      have SY := keep (same_yes a5 z5.length c5 z5 a6 c6 z6 w6 hl5 (R5.out.below entKind_ok hb6) hR (E5.out.trans hz.symm))
      clear hE hz hb6 hR AL R5 E5 hl65
      obtain ⟨N5, hN5⟩ : ∃ N5, z5.length = N5 := ⟨_, rfl⟩
      rw [hN5] at SY ⊢
      clear hN5 hl5
      go_wp2_with fail
      refine SY.out.mono ?_
      rintro e w7 ⟨rfl, hb7⟩
      have T8 := keep (T7.out.below hb7)
      clear hb7 SY
      have LH := keep (level_high l 13 w7 (by decide))
      go_wp2_with fail
      refine LH.out.mono ?_
      rintro e w8 ⟨rfl, rfl⟩
      go_wp2
      go_ret
      exact ⟨rfl, T8.out.bel⟩
end Go.Proofs.Ytlhblbaingojaaa
