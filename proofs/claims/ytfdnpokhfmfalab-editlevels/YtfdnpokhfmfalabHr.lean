/- EditLevels' walk. -/
import Derived.Test.YtfdnpokhfmfalabHm
import Derived.Test.YtfdnpokhfmfalabHr0
import Derived.Test.YtfdnpokhfmfalabHo
namespace Go.Proofs.Ytfdnpokhfmfalab
open Go.RowKit
open Ed (Nt)

theorem Mets.moreRow {B : Nat} {w w' : World} {v v' : Value} {ys zs : List MV} (h : Mets B w v ys) (hz : ∀ y ∈ zs, OwnM B w y) (ho : w'.ownsRow B 42 5 v' (ys.length + zs.length) (rv metaKind (ys ++ zs))) (hg : w.grownBy w' v.ownBlock) : Mets B w' v' (ys ++ zs) :=
  ⟨by rw [List.length_append]; exact ho, fun z hm => by
    rcases List.mem_append.1 hm with hm | hm
    · exact (h.each z hm).grown h.row hg
    · exact (hz z hm).grown h.row hg⟩
set_option maxHeartbeats 8000000 in
set_option maxRecDepth 100000 in
theorem levels_walk (x : VV) (w : World) (hx : VV.held w x) (hnear : Near x.n x.es) :
    Calls Try.prog 4 #[x.val] w fun e w' => e = .returned (.bool true) ∧ Below w.heap.size w w' := by
  obtain ⟨i0, hi0, hz0, hz1, hz2⟩ := info_partsM infoMeta
  obtain ⟨p, n, c, gen, next, log, seq, es⟩ := x
  have SX : Hid (RSrc metaKind w p n c es) := hx
  have HL : Hid (es.length = n) := hx.len
  have NR : Hid (n ≤ 1954687338268) := hnear.1
  clear hnear
  unfold VV.val
  simp only
  obtain ⟨W1, hW1⟩ : ∃ W1, w.alloc (.cells #[.int .i64 gen, .int .i64 next, .int .i64 log, .int .i64 seq, .slice p n c] 24) = W1 := ⟨_, rfl⟩
  have b1 : Hid (Below w.heap.size w W1) := by rw [← hW1]; exact (Below.refl _ _).alloc (Nat.le_refl _) _
  have g1 : Hid (W1.heap[w.heap.size]? = some (.cells #[.int .i64 gen, .int .i64 next, .int .i64 log, .int .i64 seq, .slice p n c] 24)) := by rw [← hW1]; exact heap_alloc_new w _
  have CX : Hid (∀ w', Below W1.heap.size W1 w' → w'.cell? ⟨w.heap.size, 0, none⟩ = some (.int .i64 gen) ∧ w'.cell? ⟨w.heap.size, 1, none⟩ = some (.int .i64 next) ∧ w'.cell? ⟨w.heap.size, 2, none⟩ = some (.int .i64 log) ∧ w'.cell? ⟨w.heap.size, 3, none⟩ = some (.int .i64 seq) ∧ w'.cell? ⟨w.heap.size, 4, none⟩ = some (.slice p n c)) := fun w' hb => ⟨belowE hb (cell_of_row _ _ _ _ _ _ g1.out), belowE hb (cell_of_row _ _ _ _ _ _ g1.out), belowE hb (cell_of_row _ _ _ _ _ _ g1.out), belowE hb (cell_of_row _ _ _ _ _ _ g1.out), belowE hb (cell_of_row _ _ _ _ _ _ g1.out)⟩
  have AW := keep (awake_any W1)
  go_enter Try.func4, Try.ntmps4
  go_wp2_with fail
  refine AW.out.mono ?_
  rintro e w2 ⟨rfl, hb2⟩
  have L2 := keep hb2
  have B2 := keep (b1.out.trans (hb2.mono b1.out.size))
  obtain ⟨c0, c1, c2, c3, c4⟩ := CX.out w2 hb2
  clear hb2 AW
  have MI : Hid (∀ w', Below W1.heap.size W1 w' → _) := fun w' hb => mine_any ⟨p, n, c, gen, next, log, seq, es⟩ w' (SX.out.below metaKind_ok (b1.out.trans (hb.mono b1.out.size))) NR.out
  unfold VV.val at MI
  simp only at MI
  go_wp2_with fail
  refine (MI.out w2 L2.out).mono ?_
  rintro e w3 ⟨y, rfl, hy, hyv, hyn, hye, hb3⟩
  have L3 := keep (L2.out.trans (hb3.mono L2.out.size))
  have B3 := keep (B2.out.trans (hb3.mono B2.out.size))
  obtain ⟨V, hV⟩ : ∃ V : Ed.Ver, VV.v ⟨p, n, c, gen, next, log, seq, es⟩ = V := ⟨_, rfl⟩
  have EV : Hid (V.next = next ∧ V.tabs = es.map (·.m)) := by subst hV; exact ⟨rfl, rfl⟩
  have HV := keep hV
  rw [hV] at hyv
  have CK := keep (vcheck_any y w3 hy)
  rw [hyv] at CK
  obtain ⟨yp, yn, yc, ygen, ynext, ylog, yseq, yes⟩ := y
  have EN : n = yn := hyn.symm
  subst EN
  unfold VV.val at CK
  simp only at CK
  simp only
  clear hy hyv hyn hye hb3 hV c0 c1 c2 c3 c4
  cases hck : Ed.chk V with
  | false =>
    have e1 : chkN V = 1 := by unfold chkN; rw [hck]; rfl
    rw [e1] at CK
    clear hck e1
    go_wp2_with fail
    refine CK.out.mono ?_
    rintro e w4 ⟨rfl, hb4⟩
    have B4 := keep (B3.out.trans (hb4.mono B3.out.size))
    clear hb4
    go_wp2
    go_ret
    exact ⟨rfl, B4.out⟩
  | true =>
    have e1 : chkN V = 0 := by unfold chkN; rw [hck]; rfl
    rw [e1] at CK
    have NOK : Hid (Ed.notesOk (es.map (·.m)) next = true) := by
      have := (Ed.chk_parts hck).2.2.2.2
      rw [EV.out.2, EV.out.1] at this
      exact this
    clear hck e1
    have hlen := Ed.notes_len NOK.out
    rw [List.length_map, HL.out] at hlen
    have SMALL : Hid (∀ y ∈ es, y.m.first.length ≤ 140737488355328 ∧ y.m.last.length ≤ 140737488355328) := fun y hy => by
      have := Ed.may_keys (Ed.notes_may NOK.out (List.mem_map_of_mem hy)).1
      omega
    have LV : Hid (∀ (z : VV) (q : Int) (w' : World), VV.held w' z → z.n = n → z.es = es → z.v = VV.v ⟨p, n, c, gen, next, log, seq, es⟩ → Calls Try.prog 9 #[z.val, .int .i64 q] w' fun e w'' => ∃ v ys, e = .returned v ∧ Mets w'.heap.size w'' v ys ∧ ys.map (·.m) = Ed.level (es.map (·.m)) q ∧ Below w'.heap.size w' w'') := fun z q w' h1 h2 h3 h4 => by
      have := level_any z q w' h1 (by rw [h2]; omega) (by rw [h3]; exact SMALL.out)
      rw [h4] at this
      exact this
    go_wp2_with fail
    refine CK.out.mono ?_
    rintro e w4 ⟨rfl, hb4⟩
    have L4 := keep (L3.out.trans (hb4.mono L3.out.size))
    have B4 := keep (B3.out.trans (hb4.mono B3.out.size))
    clear hb4 CK hW1
    go_wp2
    go_loopw [4, 5] (fun v i wr => ∃ (k : Nat) (ys : List MV), k ≤ 4 ∧ i = .int .i64 (k : Int) ∧ Hid (Mets w4.heap.size wr v ys ∧ ys.map (·.m) = Ed.upTo (es.map (·.m)) (k : Int) ∧ Below w4.heap.size w4 wr)) (fun _ i _ => 4 - (intOf i).toNat)
    case atStart => exact ⟨0, [], Nat.zero_le _, rfl, Mets.nil _ _, (Ed.upTo_zero NOK.out).symm, Below.refl _ _⟩
    case round =>
      obtain ⟨k, ys, hk, rfl, hI⟩ := hrel
      have LB := keep hI.out.2.2
      have LX := keep (L4.out.trans (LB.out.mono L4.out.size))
      have HB := keep (B4.out.trans (LB.out.mono B4.out.size))
      obtain ⟨c0, c1, c2, c3, c4⟩ := CX.out wr LX.out
      have YL : Hid (ys.length ≤ n) := by
        have h1 := congrArg List.length hI.out.2.1
        rw [List.length_map] at h1
        have h2 := List.length_filter_le (fun m : Nt => decide (m.level < (k : Int))) (es.map (·.m))
        rw [List.length_map, HL.out] at h2
        unfold Ed.upTo at h1
        show _ ≤ _
        omega
      by_cases hkn : k < 4
      · have ll : (k : Int) ≤ 3 := by omega
        go_wp2_with fail
        refine (MI.out wr LX.out).mono ?_
        rintro e w5 ⟨z, rfl, hz, hzv, hzn, hze, hb5⟩
        have L5 := keep hb5
        have LE := keep (LV.out z (k : Int) w5 hz hzn hze hzv)
        obtain ⟨zp, zn, zc, zgen, znext, zlog, zseq, zes⟩ := z
        have EZ : n = zn := hzn.symm
        subst EZ
        unfold VV.val at LE
        simp only at LE
        simp only
        clear hz hzv hzn hze hb5 c0 c1 c2 c3 c4
        go_wp2_with fail
        refine LE.out.mono ?_
        rintro e w6 ⟨v6, zs, rfl, hm6, hv6, hb6⟩
        have L6 := keep (L5.out.trans (hb6.mono L5.out.size))
        have M6 := keep hm6
        have V6 := keep hv6
        have A6 := keep (hI.out.1.below L6.out)
        obtain ⟨q6, c6, rfl, hs6, _⟩ := hm6.src
        have S6 := keep hs6
        have EA6 : Hid (∀ y ∈ zs, OwnM w4.heap.size w6 y) := fun y hy => (M6.out.each y hy).base (Nat.le_trans LB.out.size L5.out.size)
        have hzl : zs.length ≤ n := by
          have h1 := congrArg List.length V6.out
          rw [List.length_map] at h1
          have h2 := List.length_filter_le (fun m : Nt => decide (m.level = (k : Int))) (es.map (·.m))
          rw [List.length_map, HL.out] at h2
          unfold Ed.level at h1
          omega
        have hyl := YL.out
        have B6 := keep (LB.out.trans (L6.out.mono LB.out.size))
        obtain ⟨ZL, hZL⟩ : ∃ ZL, zs.length = ZL := ⟨_, rfl⟩
        obtain ⟨YN, hYN⟩ : ∃ YN, ys.length = YN := ⟨_, rfl⟩
        have HZL := keep hZL
        have HYN := keep hYN
        rw [hZL] at S6 hzl ⊢
        rw [hYN] at hyl
        have AR6 : Hid (w6.ownsRow w4.heap.size 42 5 u4 YN (rv metaKind ys)) := by have := A6.out.row; rw [hYN] at this; exact this
        clear hm6 hv6 hb6 hs6 LE hZL hYN
        go_wp2_with (at_builtin; refine wpList_append_rowsM rfl _ _ 28 42 rfl w4.heap.size i0 _ 5 72 Try.underlying28 hi0 hz0 hz1 hz2 rfl (by decide) _ YN _ rfl AR6.out _ ZL c6 (rv metaKind zs) rfl S6.out.nil (by rw [rv_length metaKind_ok, HZL.out]; rfl) S6.out.cells (rv_one metaKind_ok zs) (by unfold maxLen; omega) (by omega) B6.out.size ?_; intro v7 w7 ho7 hg7; have O7 := keep ho7; have G7 := keep hg7; have B7 := keep (B6.out.grown hg7 B6.out.size (fun j hj => (AR6.out.lt j hj).1)); clear ho7 hg7)
        have M7 : Hid (Mets w4.heap.size w7 v7 (ys ++ zs)) := A6.out.moreRow EA6.out (by rw [rv_append, HZL.out, HYN.out]; exact O7.out) G7.out
        go_roundw
        case rel => exact ⟨k + 1, ys ++ zs, by omega, by go_num, M7.out, by rw [List.map_append, hI.out.2.1, V6.out]; exact (Ed.upTo_succ (k : Int) (Ed.notes_levels NOK.out)).symm, B7.out⟩
        case measure => simp [intOf]; omega
      · obtain rfl : k = 4 := by omega
        have HT : Hid (ys.map (·.m) = es.map (·.m)) := hI.out.2.1.trans (Ed.upTo_four NOK.out)
        have hyn : ys.length = n := by
          have h1 := congrArg List.length HT.out
          rw [List.length_map, List.length_map, HL.out] at h1
          exact h1
        obtain ⟨ap, ac, eap, has, _⟩ := hI.out.1.src
        rw [hyn] at eap has
        have SA := keep has
        subst eap
        have UX : Hid (∀ w', Below wr.heap.size wr w' → Below W1.heap.size W1 w') := fun w' hb => LX.out.trans (hb.mono LX.out.size)
        have UW : Hid (∀ w', Below wr.heap.size wr w' → Below w.heap.size w w') := fun w' hb => HB.out.trans (hb.mono HB.out.size)
        have NT : Hid (∀ w', Below wr.heap.size wr w' → _) := fun w' hb => notesN_any ap n ac ys w' (SA.out.below metaKind_ok hb) NR.out
        have SM : Hid (∀ q5 c5 w', RSrc metaKind w' q5 n c5 ys → Below wr.heap.size wr w' → _) := fun q5 c5 w' h hb => sameMetas_yes q5 n c5 ys p c es w' h (SX.out.below metaKind_ok (UW.out w' hb)) HT.out (by omega)
        have N1 : Hid (Ed.level (es.map (·.m)) (-1) = []) := Ed.level_out NOK.out (.inl (by decide))
        have N4 : Hid (Ed.level (es.map (·.m)) 4 = []) := Ed.level_out NOK.out (.inr (by decide))
        have L1 : Hid (∀ w', Below wr.heap.size wr w' → Calls Try.prog 7 #[.agg #[.int .i64 gen, .int .i64 next, .int .i64 log, .int .i64 seq, .slice p n c]] w' fun e w'' => ∃ zp zc zgen znext zlog zseq, e = .returned (.agg #[.int .i64 zgen, .int .i64 znext, .int .i64 zlog, .int .i64 zseq, .slice zp n zc]) ∧ Below w'.heap.size w' w'' ∧ (∀ w3, Below w''.heap.size w'' w3 → Calls Try.prog 9 #[.agg #[.int .i64 zgen, .int .i64 znext, .int .i64 zlog, .int .i64 zseq, .slice zp n zc], .int .i64 (-1)] w3 fun e w4 => (∃ q d, e = .returned (.slice q 0 d)) ∧ Below w3.heap.size w3 w4) ∧ (∀ w3, Below w''.heap.size w'' w3 → Calls Try.prog 9 #[.agg #[.int .i64 zgen, .int .i64 znext, .int .i64 zlog, .int .i64 zseq, .slice zp n zc], .int .i64 4] w3 fun e w4 => (∃ q d, e = .returned (.slice q 0 d)) ∧ Below w3.heap.size w3 w4)) := fun w' hb => by
          refine (MI.out w' (UX.out w' hb)).mono ?_
          rintro e w5 ⟨z, rfl, hz, hzv, hzn, hze, hb5⟩
          have none : ∀ (q : Int), Ed.level (es.map (·.m)) q = [] → ∀ w3, Below w5.heap.size w5 w3 → Calls Try.prog 9 #[z.val, .int .i64 q] w3 fun e w4 => (∃ q d, e = .returned (.slice q 0 d)) ∧ Below w3.heap.size w3 w4 := fun q hq w3 hb3 => by
            refine (LV.out z q w3 (hz.below hb3) hzn hze hzv).mono ?_
            rintro e w4 ⟨v, ys, rfl, hm, hv, hb4⟩
            obtain ⟨qq, d, rfl, _, _⟩ := hm.src
            rw [hq] at hv
            have : ys = [] := List.map_eq_nil_iff.1 hv
            subst this
            exact ⟨⟨qq, d, rfl⟩, hb4⟩
          have n1 := none (-1) N1.out
          have n4 := none 4 N4.out
          obtain ⟨zp, zn, zc, zgen, znext, zlog, zseq, zes⟩ := z
          have EZ : n = zn := hzn.symm
          subst EZ
          exact ⟨zp, zc, zgen, znext, zlog, zseq, rfl, hb5, n1, n4⟩
        clear hI has c0 c1 c2 c3 c4 hyn
        go_wp2_with fail
        refine wp_region_held_drew (S := fun w' => Below wr.heap.size wr w') (by kernel_rfl) ((Below.refl _ _).drew) (fun hHeld => ?_)
        refine takeH (i := 0) 0x16 (v := .bool true) rfl rfl (by kernel_rfl) (by kernel_rfl) (by kernel_rfl) (fun _ _ _ h => h) (Or.inl ⟨by rfl, ?_⟩) (by assumption) ?_
        · intro w' hSw'
          go_simp
        simp only [Act.put, List.setIfInBounds_toArray, List.set_cons_zero, List.set_cons_succ]
        refine takeH (i := 1) 23 (v := .bool true) rfl rfl (by kernel_rfl) (by kernel_rfl) (by kernel_rfl) (fun _ _ _ h => h) (Or.inl ⟨by rfl, ?_⟩) (by assumption) ?_
        · intro w' hSw'
          go_simp
        simp only [Act.put, List.setIfInBounds_toArray, List.set_cons_zero, List.set_cons_succ]
        refine takeH (i := 2) 24 (v := .slice ap n ac) rfl rfl (by kernel_rfl) (by kernel_rfl) (by kernel_rfl) (fun _ _ _ h => h) (Or.inl ⟨by rfl, ?_⟩) (by assumption) ?_
        · intro w' hSw'
          go_simp
        simp only [Act.put, List.setIfInBounds_toArray, List.set_cons_zero, List.set_cons_succ]
        refine takeH (i := 4) 26 (v := .pointer (some ⟨w.heap.size, 4, none⟩)) rfl rfl (by kernel_rfl) (by kernel_rfl) (by kernel_rfl) (fun _ _ _ h => h) (Or.inl ⟨by rfl, ?_⟩) (by assumption) ?_
        · intro w' hSw'
          go_simp
        simp only [Act.put, List.setIfInBounds_toArray, List.set_cons_zero, List.set_cons_succ]
        refine takeH (i := 5) 27 (v := .slice p n c) rfl rfl (by kernel_rfl) (by kernel_rfl) (by kernel_rfl) (fun _ _ _ h => h) (Or.inl ⟨by rfl, ?_⟩) (by assumption) ?_
        · intro w' hSw'
          obtain ⟨d0, d1, d2, d3, d4⟩ := CX.out w' (UX.out w' hSw')
          go_simp
        simp only [Act.put, List.setIfInBounds_toArray, List.set_cons_zero, List.set_cons_succ]
        refine wpAnyH_ready (rs := [3]) (by kernel_rfl) (by simp) ?_
        refine AllReadyH.cons rfl (fun K hK => ?_) AllReadyH.nil
        go_simp
        refine (NT.out _ (Below.refl _ _).drew).mono ?_
        rintro e w5 ⟨v5, rfl, ho5, hb5⟩
        have b5 : Hid (Below wr.heap.size wr w5) := ((Below.refl _ _).drew).trans (hb5.mono (Nat.le_refl _))
        obtain ⟨q5, c5, rfl, hs5, _⟩ := RSrc.own metaKind_ok ho5 (fun y hy => (SA.out.below metaKind_ok b5.out).held y hy)
        have S5 := keep hs5
        clear ho5 hb5 hs5
        go_wp2_with fail
        refine hK.out _ _ (b5.out) (fun hHeld1 => ?_)
        clear hK K
        refine wpAnyH_ready (rs := [6]) (by kernel_rfl) (by simp) ?_
        refine AllReadyH.cons rfl (fun K hK => ?_) AllReadyH.nil
        go_simp
        refine (SM.out q5 c5 _ S5.out b5.out).mono ?_
        rintro e w6 ⟨rfl, hb6⟩
        have b6 : Hid (Below wr.heap.size wr w6) := b5.out.trans (hb6.mono b5.out.size)
        clear hb6
        go_wp2_with fail
        refine hK.out _ _ (b6.out) (fun hHeld2 => ?_)
        clear hK K
        refine takeH (i := 7) 29 (v := .bool true) rfl rfl (by kernel_rfl) (by kernel_rfl) (by kernel_rfl) (fun _ _ _ h => h) (Or.inl ⟨by rfl, ?_⟩) (by assumption) ?_
        · intro w' hSw'
          go_simp
        simp only [Act.put, List.setIfInBounds_toArray, List.set_cons_zero, List.set_cons_succ]
        refine takeH (i := 8) 30 (v := .bool true) rfl rfl (by kernel_rfl) (by kernel_rfl) (by kernel_rfl) (fun _ _ _ h => h) (Or.inl ⟨by rfl, ?_⟩) (by assumption) ?_
        · intro w' hSw'
          go_simp
        simp only [Act.put, List.setIfInBounds_toArray, List.set_cons_zero, List.set_cons_succ]
        refine takeH (i := 9) 31 (v := .agg #[.int .i64 gen, .int .i64 next, .int .i64 log, .int .i64 seq, .slice p n c]) rfl rfl (by kernel_rfl) (by kernel_rfl) (by kernel_rfl) (fun _ _ _ h => h) (Or.inl ⟨by rfl, ?_⟩) (by assumption) ?_
        · intro w' hSw'
          obtain ⟨d0, d1, d2, d3, d4⟩ := CX.out w' (UX.out w' hSw')
          go_simp
        simp only [Act.put, List.setIfInBounds_toArray, List.set_cons_zero, List.set_cons_succ]
        refine takeH (i := 13) 35 (v := .agg #[.int .i64 gen, .int .i64 next, .int .i64 log, .int .i64 seq, .slice p n c]) rfl rfl (by kernel_rfl) (by kernel_rfl) (by kernel_rfl) (fun _ _ _ h => h) (Or.inl ⟨by rfl, ?_⟩) (by assumption) ?_
        · intro w' hSw'
          obtain ⟨d0, d1, d2, d3, d4⟩ := CX.out w' (UX.out w' hSw')
          go_simp
        simp only [Act.put, List.setIfInBounds_toArray, List.set_cons_zero, List.set_cons_succ]
        refine wpAnyH_ready (rs := [10]) (by kernel_rfl) (by simp) ?_
        refine AllReadyH.cons rfl (fun K hK => ?_) AllReadyH.nil
        go_simp
        refine (L1.out _ b6.out).mono ?_
        rintro e w7 ⟨rp, rc, rgen, rnext, rlog, rseq, rfl, hbm, hl1, hl4⟩
        have b7 := keep (b6.out.trans (hbm.mono b6.out.size))
        have l1r := keep hl1
        have l4r := keep hl4
        clear hbm hl1 hl4
        go_wp2_with fail
        refine hK.out _ _ (b7.out) (fun hHeld3 => ?_)
        clear hK K
        refine wpAnyH_ready (rs := [11]) (by kernel_rfl) (by simp) ?_
        refine AllReadyH.cons rfl (fun K hK => ?_) AllReadyH.nil
        go_simp
        refine (l1r.out _ (Below.refl _ _)).mono ?_
        rintro e w8 ⟨⟨q8, d8, rfl⟩, hb8⟩
        have b8 : Hid (Below wr.heap.size wr w8) := b7.out.trans (hb8.mono b7.out.size)
        clear hb8
        go_wp2_with fail
        refine hK.out _ _ (b8.out) (fun hHeld4 => ?_)
        clear hK K
        refine takeH (i := 12) 34 (v := .int .i64 0) rfl rfl (by kernel_rfl) (by kernel_rfl) (by kernel_rfl) (fun _ _ _ h => h) (Or.inl ⟨by rfl, ?_⟩) (by assumption) ?_
        · intro w' hSw'
          go_simp
        simp only [Act.put, List.setIfInBounds_toArray, List.set_cons_zero, List.set_cons_succ]
        refine wpAnyH_ready (rs := [14]) (by kernel_rfl) (by simp) ?_
        refine AllReadyH.cons rfl (fun K hK => ?_) AllReadyH.nil
        go_simp
        refine (L1.out _ b8.out).mono ?_
        rintro e w10 ⟨sp, sc, sgen, snext, slog, sseq, rfl, hbm, hl1, hl4⟩
        have b10 := keep (b8.out.trans (hbm.mono b8.out.size))
        have l1s := keep hl1
        have l4s := keep hl4
        clear hbm hl1 hl4
        go_wp2_with fail
        refine hK.out _ _ (b10.out) (fun hHeld5 => ?_)
        clear hK K
        refine wpAnyH_ready (rs := [15]) (by kernel_rfl) (by simp) ?_
        refine AllReadyH.cons rfl (fun K hK => ?_) AllReadyH.nil
        go_simp
        refine (l4s.out _ (Below.refl _ _)).mono ?_
        rintro e w9 ⟨⟨q9, d9, rfl⟩, hb9⟩
        have b9 : Hid (Below wr.heap.size wr w9) := b10.out.trans (hb9.mono b10.out.size)
        clear hb9
        go_wp2_with fail
        refine hK.out _ _ (b9.out) (fun hHeld6 => ?_)
        clear hK K
        refine takeH (i := 16) 38 (v := .int .i64 0) rfl rfl (by kernel_rfl) (by kernel_rfl) (by kernel_rfl) (fun _ _ _ h => h) (Or.inl ⟨by rfl, ?_⟩) (by assumption) ?_
        · intro w' hSw'
          go_simp
        simp only [Act.put, List.setIfInBounds_toArray, List.set_cons_zero, List.set_cons_succ]
        refine takeH (i := 17) 39 (v := .int .i64 0) rfl rfl (by kernel_rfl) (by kernel_rfl) (by kernel_rfl) (fun _ _ _ h => h) (Or.inl ⟨by rfl, ?_⟩) (by assumption) ?_
        · intro w' hSw'
          go_simp
          exact wrap_small _ (by decide) (by decide)
        simp only [Act.put, List.setIfInBounds_toArray, List.set_cons_zero, List.set_cons_succ]
        refine takeH (i := 18) 40 (v := .bool true) rfl rfl (by kernel_rfl) (by kernel_rfl) (by kernel_rfl) (fun _ _ _ h => h) (Or.inl ⟨by rfl, ?_⟩) (by assumption) ?_
        · intro w' hSw'
          go_simp
        simp only [Act.put, List.setIfInBounds_toArray, List.set_cons_zero, List.set_cons_succ]
        refine takeH (i := 19) 41 (v := .bool true) rfl rfl (by kernel_rfl) (by kernel_rfl) (by kernel_rfl) (fun _ _ _ h => h) (Or.inl ⟨by rfl, ?_⟩) (by assumption) ?_
        · intro w' hSw'
          go_simp
        simp only [Act.put, List.setIfInBounds_toArray, List.set_cons_zero, List.set_cons_succ]
        refine takeH (i := 20) 2 (v := .bool true) rfl rfl (by kernel_rfl) (by kernel_rfl) (by kernel_rfl) (fun _ _ _ h => h) (Or.inl ⟨by rfl, ?_⟩) (by assumption) ?_
        · intro w' hSw'
          go_simp
        simp only [Act.put, List.setIfInBounds_toArray, List.set_cons_zero, List.set_cons_succ]
        refine wpAnyH_done (by kernel_rfl) ?_ _
        go_wp2
        go_ret
        exact ⟨rfl, UW.out _ b9.out⟩
end Go.Proofs.Ytfdnpokhfmfalab
