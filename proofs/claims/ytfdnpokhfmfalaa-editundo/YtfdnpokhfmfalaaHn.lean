/- EditUndo's walk. -/
import Derived.Test.YtfdnpokhfmfalaaHm
import Derived.Test.YtfdnpokhfmfalaaHn0
namespace Go.Proofs.Ytfdnpokhfmfalaa
open Go.RowKit
open Ed (Nt)

set_option maxHeartbeats 8000000 in
set_option maxRecDepth 100000 in
theorem undo_walk (x : VV) (ap : Option Addr) (an ac : Nat) (ms : List MV) (w : World) (hx : VV.held w x) (ha : RSrc metaKind w ap an ac ms) :
    Calls Try.prog 6 #[x.val, .slice ap an ac] w fun e w' => e = .returned (.bool true) ∧ Below w.heap.size w w' := by
  obtain ⟨j0, ji, jz0, jz1, jz2⟩ := info_partsM infoInt
  obtain ⟨p, n, c, gen, next, log, seq, es⟩ := x
  have SX : Hid (RSrc metaKind w p n c es) := hx
  have SA := keep ha
  have HL : Hid (es.length = n) := hx.len
  have HLA : Hid (ms.length = an) := ha.len
  clear ha
  unfold VV.val
  simp only
  obtain ⟨W1, hW1⟩ : ∃ W1, w.alloc (.cells #[.int .i64 gen, .int .i64 next, .int .i64 log, .int .i64 seq, .slice p n c] 24) = W1 := ⟨_, rfl⟩
  have b1 : Hid (Below w.heap.size w W1) := by rw [← hW1]; exact (Below.refl _ _).alloc (Nat.le_refl _) _
  have g1 : Hid (W1.heap[w.heap.size]? = some (.cells #[.int .i64 gen, .int .i64 next, .int .i64 log, .int .i64 seq, .slice p n c] 24)) := by rw [← hW1]; exact heap_alloc_new w _
  have CX : Hid (∀ w', Below W1.heap.size W1 w' → w'.cell? ⟨w.heap.size, 0, none⟩ = some (.int .i64 gen) ∧ w'.cell? ⟨w.heap.size, 1, none⟩ = some (.int .i64 next) ∧ w'.cell? ⟨w.heap.size, 2, none⟩ = some (.int .i64 log) ∧ w'.cell? ⟨w.heap.size, 3, none⟩ = some (.int .i64 seq) ∧ w'.cell? ⟨w.heap.size, 4, none⟩ = some (.slice p n c)) := fun w' hb => ⟨belowE hb (cell_of_row _ _ _ _ _ _ g1.out), belowE hb (cell_of_row _ _ _ _ _ _ g1.out), belowE hb (cell_of_row _ _ _ _ _ _ g1.out), belowE hb (cell_of_row _ _ _ _ _ _ g1.out), belowE hb (cell_of_row _ _ _ _ _ _ g1.out)⟩
  have AW := keep (awake_any W1)
  go_enter Try.func6, Try.ntmps6
  go_wp2_with fail
  refine AW.out.mono ?_
  rintro e w2 ⟨rfl, hb2⟩
  have L2 := keep hb2
  have B2 := keep (b1.out.trans (hb2.mono b1.out.size))
  obtain ⟨c0, c1, c2, c3, c4⟩ := CX.out w2 hb2
  clear hb2 AW
  by_cases hbig : 200 < n ∨ 200 < an
  · rcases hbig with h | h
    · have q : (200 : Int) < (n : Int) := by omega
      go_wp2
      go_ret
      exact ⟨rfl, B2.out⟩
    · by_cases h1 : 200 < n
      · have q : (200 : Int) < (n : Int) := by omega
        go_wp2
        go_ret
        exact ⟨rfl, B2.out⟩
      · have q : ¬ (200 : Int) < (n : Int) := by omega
        have q2 : (200 : Int) < (an : Int) := by omega
        go_wp2
        go_ret
        exact ⟨rfl, B2.out⟩
  have hn200 : n ≤ 200 := by omega
  have ha200 : an ≤ 200 := by omega
  have q1 : ¬ (200 : Int) < (n : Int) := by omega
  have q2 : ¬ (200 : Int) < (an : Int) := by omega
  clear hbig
  have MI := keep (mine_any ⟨p, n, c, gen, next, log, seq, es⟩ w2 (SX.out.below metaKind_ok B2.out) (show n ≤ 1954687338268 by omega))
  unfold VV.val at MI
  simp only at MI
  go_wp2_with fail
  refine MI.out.mono ?_
  rintro e w3 ⟨y, rfl, hy, hyv, hyn, hye, hb3⟩
  have HY := keep hy
  have HYV := keep hyv
  have L3 := keep (L2.out.trans (hb3.mono L2.out.size))
  have B3 := keep (B2.out.trans (hb3.mono B2.out.size))
  have ME := keep (metas_any ap an ac ms w3 (SA.out.below metaKind_ok B3.out) (by omega))
  obtain ⟨yp, yn, yc, ygen, ynext, ylog, yseq, yes⟩ := y
  have EN : n = yn := hyn.symm
  subst EN
  simp only
  clear hy hyv hyn hye hb3 MI c0 c1 c2 c3 c4
  go_wp2_with fail
  refine ME.out.mono ?_
  rintro e w4 ⟨v4, rfl, ho4, hb4⟩
  have L4 := keep (L3.out.trans (hb4.mono L3.out.size))
  have B4 := keep (B3.out.trans (hb4.mono B3.out.size))
  obtain ⟨p4, c4, rfl, hs4, _⟩ := RSrc.own metaKind_ok ho4 (fun y hy => metaKind_ok.below (SA.out.held y hy) B4.out)
  have AP := keep (apply_any ⟨yp, n, yc, ygen, ynext, ylog, yseq, yes⟩ none 0 0 [] p4 an c4 ms w4 (HY.out.below hb4) (RSrc.empty (fun _ => rfl)) hs4 (by omega) (by omega))
  rw [HYV.out] at AP
  unfold VV.val at AP
  simp only at AP
  clear ho4 hs4 hb4 ME
  obtain ⟨V, hV⟩ : ∃ V : Ed.Ver, VV.v ⟨p, n, c, gen, next, log, seq, es⟩ = V := ⟨_, rfl⟩
  have EV : Hid (V.gen = gen ∧ V.next = next ∧ V.log = log ∧ V.seq = seq ∧ V.tabs = es.map (·.m)) := by subst hV; exact ⟨rfl, rfl, rfl, rfl, rfl⟩
  rw [hV] at AP
  clear hV
  obtain ⟨AD, hAD⟩ : ∃ AD : List Nt, ms.map (·.m) = AD := ⟨_, rfl⟩
  have HAD := keep hAD
  rw [hAD] at AP
  have ADL : Hid (AD.length = an) := by show _ = _; rw [← hAD, List.length_map]; exact HLA.out
  clear hAD
  go_wp2_with fail
  refine AP.out.mono ?_
  rintro e w5 ⟨⟨z, rfl, hz, hzv⟩, hb5⟩
  have HZ := keep hz
  have L5 := keep (L4.out.trans (hb5.mono L4.out.size))
  have B5 := keep (B4.out.trans (hb5.mono B4.out.size))
  cases happ : Ed.applies V [] AD with
  | false =>
    rw [happ] at hzv
    obtain ⟨zp, zn, zc, zgen, znext, zlog, zseq, zes⟩ := z
    unfold VV.val
    simp only [Bool.false_eq_true, if_false]
    clear hz hzv hb5 AP happ
    go_wp2
    go_ret
    exact ⟨rfl, B5.out.alloc B5.out.size _⟩
  | true =>
    rw [happ, if_pos rfl] at hzv
    have HAPP := keep happ
    have hzn : z.n = n + an := by
      have h1 := (VV.isV hzv).2.2.2.2
      have h2 : z.es.length = z.n := RSrc.len hz
      have h3 := congrArg List.length h1
      rw [List.length_map, h2, Ed.after_len, EV.out.2.2.2.2, List.length_map, HL.out, ADL.out] at h3
      exact h3
    obtain ⟨zp, zn, zc, zgen, znext, zlog, zseq, zes⟩ := z
    obtain ⟨e1, e2, e3, e4, _⟩ := VV.isV hzv
    have E1 : zgen = gen + 1 := e1.trans (by show V.gen + 1 = _; rw [EV.out.1])
    have E2 : next = znext := (e2.trans EV.out.2.1).symm
    have E3 : log = zlog := (e3.trans EV.out.2.2.1).symm
    have E4 : seq = zseq := (e4.trans EV.out.2.2.2.1).symm
    have E5 : zn = n + an := hzn
    subst E1 E2 E3 E4 E5
    have HZV := keep hzv
    unfold VV.val
    simp only [if_true]
    clear hz hzv hb5 AP happ hzn e1 e2 e3 e4
    obtain ⟨W6, hW6⟩ : ∃ W6, w5.alloc (.cells #[.int .i64 (gen + 1), .int .i64 next, .int .i64 log, .int .i64 seq, .slice zp (n + an) zc] 32) = W6 := ⟨_, rfl⟩
    have l6 : Hid (Below w5.heap.size w5 W6) := by rw [← hW6]; exact (Below.refl _ _).alloc (Nat.le_refl _) _
    have L6 := keep (L5.out.trans (l6.out.mono L5.out.size))
    have B6 := keep (B5.out.trans (l6.out.mono B5.out.size))
    have g6 : Hid (W6.heap[w5.heap.size]? = some (.cells #[.int .i64 (gen + 1), .int .i64 next, .int .i64 log, .int .i64 seq, .slice zp (n + an) zc] 32)) := by rw [← hW6]; exact heap_alloc_new w5 _
    have CA : Hid (∀ w', Below W6.heap.size W6 w' → w'.cell? ⟨w5.heap.size, 0, none⟩ = some (.int .i64 (gen + 1)) ∧ w'.cell? ⟨w5.heap.size, 1, none⟩ = some (.int .i64 next) ∧ w'.cell? ⟨w5.heap.size, 2, none⟩ = some (.int .i64 log) ∧ w'.cell? ⟨w5.heap.size, 3, none⟩ = some (.int .i64 seq) ∧ w'.cell? ⟨w5.heap.size, 4, none⟩ = some (.slice zp (n + an) zc)) := fun w' hb => ⟨belowE hb (cell_of_row _ _ _ _ _ _ g6.out), belowE hb (cell_of_row _ _ _ _ _ _ g6.out), belowE hb (cell_of_row _ _ _ _ _ _ g6.out), belowE hb (cell_of_row _ _ _ _ _ _ g6.out), belowE hb (cell_of_row _ _ _ _ _ _ g6.out)⟩
    have NUMS : Hid ((Ed.nums AD).length = an) := by show _ = _; unfold Ed.nums; rw [List.length_map]; exact ADL.out
    have FULL : Hid (AD.take an = AD) := List.take_of_length_le (by rw [ADL.out]; exact Nat.le_refl _)
    go_wp2
    go_loopw [8, 9] (fun v i wr => ∃ k : Nat, k ≤ an ∧ i = .int .i64 (k : Int) ∧ Hid (wr.ownsRow W6.heap.size 3 1 v k ((Ed.nums (AD.take k)).map (Value.int .i64)) ∧ Below W6.heap.size W6 wr)) (fun _ i _ => an - (intOf i).toNat)
    case atStart => exact ⟨0, Nat.zero_le _, rfl, World.ownsRow_nil _ _ _ _, Below.refl _ _⟩
    case round =>
      clear hW6 hW1
      obtain ⟨k, hk, rfl, hI⟩ := hrel
      have LB := keep hI.out.2
      have HB := keep (B6.out.trans (LB.out.mono B6.out.size))
      by_cases hkn : k < an
      · obtain ⟨b, off, rfl, _, _⟩ := SA.out.form metaKind_ok (by omega)
        obtain ⟨y, hy⟩ : ∃ y, ms[k]? = some y := ⟨ms[k]'(by rw [HLA.out]; exact hkn), List.getElem?_eq_getElem _⟩
        obtain ⟨p0, p1, p2, p3, p4⟩ := meta_cells (SA.out.below metaKind_ok HB.out) hy
        have HYN : Hid (Ed.nums (AD.take (k + 1)) = Ed.nums (AD.take k) ++ [y.m.num]) := nums_more (by rw [← HAD.out, List.getElem?_map, hy]; rfl)
        clear hy
        obtain ⟨yfp, yfc, ylp, ylc, ⟨ynum, ylevel, ycount, yfirst, ylast⟩⟩ := y
        simp only at p0 HYN
        have ll : (k : Int) < (an : Int) := by omega
        have l0 : (0 : Int) ≤ (k : Int) := by omega
        clear p1 p2 p3 p4
        go_wp2_with (at_builtin; refine wpList_append_own _ rfl _ _ 38 rfl W6.heap.size 3 j0 (.int .i64 0) 1 8 Try.underlying38 ji jz0 jz1 jz2 rfl (by decide) _ k _ rfl (hI.out.1.alloc _) ⟨wr.heap.size, 0, none⟩ 1 1 [.int .i64 ynum] rfl rfl (cell_one_new _ _ _) (by simp [Value.oneCell']) (by unfold maxLen; omega) (by omega) (le_alloc LB.out.size _) ?_; intro v7 w7 ho7 hg7 hn7; have O7 := keep ho7; have B7 := keep ((LB.out.alloc LB.out.size _).grown hg7 (le_alloc LB.out.size _) (fun j hj => (hI.out.1.lt j hj).1)); clear ho7 hg7 hn7)
        go_roundw
        case rel => exact ⟨k + 1, by omega, by go_num, by rw [HYN.out, List.map_append]; exact O7.out, B7.out⟩
        case measure => simp [intOf]; omega
      · obtain rfl : k = an := by omega
        have O1 := keep hI.out.1
        rw [FULL.out, ← rv_int] at O1
        obtain ⟨rp, rc, erp, hrs, _⟩ := RSrc.own inK_ok O1.out (fun _ _ => trivial)
        have RS := keep hrs
        subst erp
        have HZR : Hid (VV.held wr ⟨zp, n + k, zc, gen + 1, next, log, seq, zes⟩) := (HZ.out.below l6.out).below LB.out
        have A2 := keep (apply_any ⟨zp, n + k, zc, gen + 1, next, log, seq, zes⟩ rp k rc (Ed.nums AD) none 0 0 [] wr HZR.out RS.out (RSrc.empty (fun _ => rfl)) (by omega) (by omega))
        rw [HZV.out, List.map_nil] at A2
        unfold VV.val at A2
        simp only at A2
        obtain ⟨d0, d1, d2, d3, d4⟩ := CA.out wr LB.out
        clear hI hrs
        go_wp2_with fail
        refine A2.out.mono ?_
        rintro e w8 ⟨⟨z8, rfl, hz8, hzv8⟩, hb8⟩
        have H8 := keep hz8
        have L8 := keep (LB.out.trans (hb8.mono LB.out.size))
        have B8 := keep (HB.out.trans (hb8.mono HB.out.size))
        clear d0 d1 d2 d3 d4
        cases happ2 : Ed.applies (Ed.after V [] AD) (Ed.nums AD) [] with
        | false =>
          have hg : gen + 1 = 1099511627776 := by have := Ed.undo_most HAPP.out happ2; rw [EV.out.1] at this; exact this
          rw [happ2] at hzv8
          obtain ⟨zp8, zn8, zc8, zgen8, znext8, zlog8, zseq8, zes8⟩ := z8
          unfold VV.val
          simp only [Bool.false_eq_true, if_false]
          have gq : ((gen + 1 : Int) == 1099511627776) = true := beq_iff_eq.2 hg
          obtain ⟨W9, hW9⟩ : ∃ W9, w8.alloc (.cells #[.int .i64 zgen8, .int .i64 znext8, .int .i64 zlog8, .int .i64 zseq8, .slice zp8 zn8 zc8] 32) = W9 := ⟨_, rfl⟩
          have l9 : Hid (Below w8.heap.size w8 W9) := by rw [← hW9]; exact (Below.refl _ _).alloc (Nat.le_refl _) _
          obtain ⟨d0, d1, d2, d3, d4⟩ := CA.out W9 (L8.out.trans (l9.out.mono L8.out.size))
          have B9 := keep (B8.out.trans (l9.out.mono B8.out.size))
          clear hz8 hzv8 hb8 A2 happ2 hg
          go_wp2
          go_ret
          exact ⟨rfl, B9.out⟩
        | true =>
          rw [happ2, if_pos rfl] at hzv8
          have HT : Hid (z8.es.map (·.m) = es.map (·.m)) := by
            have h1 := (VV.isV hzv8).2.2.2.2
            rw [Ed.undo_tabs HAPP.out, EV.out.2.2.2.2] at h1
            exact h1
          have hzn : z8.n = n := by
            have h2 : z8.es.length = z8.n := RSrc.len hz8
            have h3 := congrArg List.length HT.out
            rw [List.length_map, List.length_map, h2, HL.out] at h3
            exact h3
          have hgen : z8.gen = gen + 2 := by
            have h1 := (VV.isV hzv8).1
            have h2 : (Ed.after (Ed.after V [] AD) (Ed.nums AD) []).gen = V.gen + 1 + 1 := rfl
            rw [h1, h2, EV.out.1]
            omega
          have hgb := Ed.isNum_bounds (Ed.chk_parts (Ed.applies_parts HAPP.out).1).1
          rw [EV.out.1] at hgb
          have wg2 : IntKind.i64.wrap (gen + 2) = gen + 2 := wrap_small _ (by omega) (by omega)
          obtain ⟨zp8, zn8, zc8, zgen8, znext8, zlog8, zseq8, zes8⟩ := z8
          have E1 : zgen8 = gen + 2 := hgen
          have E5 : zn8 = n := hzn
          subst E1 E5
          unfold VV.val
          simp only [if_true]
          clear hz8 hzv8 hb8 A2 happ2 hzn hgen hgb
          obtain ⟨W9, hW9⟩ : ∃ W9, w8.alloc (.cells #[.int .i64 (gen + 2), .int .i64 znext8, .int .i64 zlog8, .int .i64 zseq8, .slice zp8 zn8 zc8] 32) = W9 := ⟨_, rfl⟩
          have l9 : Hid (Below w8.heap.size w8 W9) := by rw [← hW9]; exact (Below.refl _ _).alloc (Nat.le_refl _) _
          have L9 := keep (L8.out.trans (l9.out.mono L8.out.size))
          have B9 := keep (B8.out.trans (l9.out.mono B8.out.size))
          have g9 : Hid (W9.heap[w8.heap.size]? = some (.cells #[.int .i64 (gen + 2), .int .i64 znext8, .int .i64 zlog8, .int .i64 zseq8, .slice zp8 zn8 zc8] 32)) := by rw [← hW9]; exact heap_alloc_new w8 _
          have CB : Hid (∀ w', Below W9.heap.size W9 w' → w'.cell? ⟨w8.heap.size, 0, none⟩ = some (.int .i64 (gen + 2)) ∧ w'.cell? ⟨w8.heap.size, 4, none⟩ = some (.slice zp8 zn8 zc8)) := fun w' hb => ⟨belowE hb (cell_of_row _ _ _ _ _ _ g9.out), belowE hb (cell_of_row _ _ _ _ _ _ g9.out)⟩
          have UA : Hid (∀ w', Below W9.heap.size W9 w' → Below W6.heap.size W6 w') := fun w' hb => L9.out.trans (hb.mono L9.out.size)
          have UX : Hid (∀ w', Below W9.heap.size W9 w' → Below W1.heap.size W1 w') := fun w' hb => L6.out.trans ((UA.out w' hb).mono L6.out.size)
          have UW : Hid (∀ w', Below W9.heap.size W9 w' → Below w.heap.size w w') := fun w' hb => B9.out.trans (hb.mono B9.out.size)
          have S8 : Hid (∀ w', Below W9.heap.size W9 w' → RSrc metaKind w' zp8 zn8 zc8 zes8) := fun w' hb => RSrc.below metaKind_ok (RSrc.below metaKind_ok H8.out l9.out) hb
          have NT : Hid (∀ w', Below W9.heap.size W9 w' → _) := fun w' hb => notesN_any zp8 zn8 zc8 zes8 w' (S8.out w' hb) (by omega)
          have SM : Hid (∀ q5 c5 w', RSrc metaKind w' q5 zn8 c5 zes8 → Below W9.heap.size W9 w' → _) := fun q5 c5 w' h hb => sameMetas_yes q5 zn8 c5 zes8 p c es w' h (SX.out.below metaKind_ok (UW.out w' hb)) HT.out (by omega)
          go_wp2_with fail
          refine wp_region_held_drew (S := fun w' => Below W9.heap.size W9 w') (by kernel_rfl) ((Below.refl _ _).drew) (fun hHeld => ?_)
          refine takeH (i := 0) 66 (v := .bool true) rfl rfl (by kernel_rfl) (by kernel_rfl) (by kernel_rfl) (fun _ _ _ h => h) (Or.inl ⟨by rfl, ?_⟩) (by assumption) ?_
          · intro w' hSw'
            go_simp
          simp only [Act.put, List.setIfInBounds_toArray, List.set_cons_zero, List.set_cons_succ]
          refine takeH (i := 1) 67 (v := .bool true) rfl rfl (by kernel_rfl) (by kernel_rfl) (by kernel_rfl) (fun _ _ _ h => h) (Or.inl ⟨by rfl, ?_⟩) (by assumption) ?_
          · intro w' hSw'
            go_simp
          simp only [Act.put, List.setIfInBounds_toArray, List.set_cons_zero, List.set_cons_succ]
          refine takeH (i := 2) 68 (v := .pointer (some ⟨w8.heap.size, 0, none⟩)) rfl rfl (by kernel_rfl) (by kernel_rfl) (by kernel_rfl) (fun _ _ _ h => h) (Or.inl ⟨by rfl, ?_⟩) (by assumption) ?_
          · intro w' hSw'
            go_simp
          simp only [Act.put, List.setIfInBounds_toArray, List.set_cons_zero, List.set_cons_succ]
          refine takeH (i := 3) 69 (v := .int .i64 (gen + 2)) rfl rfl (by kernel_rfl) (by kernel_rfl) (by kernel_rfl) (fun _ _ _ h => h) (Or.inl ⟨by rfl, ?_⟩) (by assumption) ?_
          · intro w' hSw'
            obtain ⟨d0, d4⟩ := CB.out w' hSw'
            go_simp
          simp only [Act.put, List.setIfInBounds_toArray, List.set_cons_zero, List.set_cons_succ]
          refine takeH (i := 4) 70 (v := .pointer (some ⟨w.heap.size, 0, none⟩)) rfl rfl (by kernel_rfl) (by kernel_rfl) (by kernel_rfl) (fun _ _ _ h => h) (Or.inl ⟨by rfl, ?_⟩) (by assumption) ?_
          · intro w' hSw'
            go_simp
          simp only [Act.put, List.setIfInBounds_toArray, List.set_cons_zero, List.set_cons_succ]
          refine takeH (i := 5) 71 (v := .int .i64 gen) rfl rfl (by kernel_rfl) (by kernel_rfl) (by kernel_rfl) (fun _ _ _ h => h) (Or.inl ⟨by rfl, ?_⟩) (by assumption) ?_
          · intro w' hSw'
            obtain ⟨d0, d1, d2, d3, d4⟩ := CX.out w' (UX.out w' hSw')
            go_simp
          simp only [Act.put, List.setIfInBounds_toArray, List.set_cons_zero, List.set_cons_succ]
          refine takeH (i := 6) 72 (v := .int .i64 (gen + 2)) rfl rfl (by kernel_rfl) (by kernel_rfl) (by kernel_rfl) (fun _ _ _ h => h) (Or.inl ⟨by rfl, ?_⟩) (by assumption) ?_
          · intro w' hSw'
            go_simp
          simp only [Act.put, List.setIfInBounds_toArray, List.set_cons_zero, List.set_cons_succ]
          refine takeH (i := 7) 73 (v := .bool true) rfl rfl (by kernel_rfl) (by kernel_rfl) (by kernel_rfl) (fun _ _ _ h => h) (Or.inl ⟨by rfl, ?_⟩) (by assumption) ?_
          · intro w' hSw'
            go_simp
          simp only [Act.put, List.setIfInBounds_toArray, List.set_cons_zero, List.set_cons_succ]
          refine takeH (i := 8) 74 (v := .bool true) rfl rfl (by kernel_rfl) (by kernel_rfl) (by kernel_rfl) (fun _ _ _ h => h) (Or.inl ⟨by rfl, ?_⟩) (by assumption) ?_
          · intro w' hSw'
            go_simp
          simp only [Act.put, List.setIfInBounds_toArray, List.set_cons_zero, List.set_cons_succ]
          refine takeH (i := 9) 75 (v := .bool true) rfl rfl (by kernel_rfl) (by kernel_rfl) (by kernel_rfl) (fun _ _ _ h => h) (Or.inl ⟨by rfl, ?_⟩) (by assumption) ?_
          · intro w' hSw'
            go_simp
          simp only [Act.put, List.setIfInBounds_toArray, List.set_cons_zero, List.set_cons_succ]
          refine takeH (i := 10) 76 (v := .pointer (some ⟨w8.heap.size, 4, none⟩)) rfl rfl (by kernel_rfl) (by kernel_rfl) (by kernel_rfl) (fun _ _ _ h => h) (Or.inl ⟨by rfl, ?_⟩) (by assumption) ?_
          · intro w' hSw'
            go_simp
          simp only [Act.put, List.setIfInBounds_toArray, List.set_cons_zero, List.set_cons_succ]
          refine takeH (i := 11) 77 (v := .slice zp8 zn8 zc8) rfl rfl (by kernel_rfl) (by kernel_rfl) (by kernel_rfl) (fun _ _ _ h => h) (Or.inl ⟨by rfl, ?_⟩) (by assumption) ?_
          · intro w' hSw'
            obtain ⟨d0, d4⟩ := CB.out w' hSw'
            go_simp
          simp only [Act.put, List.setIfInBounds_toArray, List.set_cons_zero, List.set_cons_succ]
          refine takeH (i := 13) 79 (v := .pointer (some ⟨w.heap.size, 4, none⟩)) rfl rfl (by kernel_rfl) (by kernel_rfl) (by kernel_rfl) (fun _ _ _ h => h) (Or.inl ⟨by rfl, ?_⟩) (by assumption) ?_
          · intro w' hSw'
            go_simp
          simp only [Act.put, List.setIfInBounds_toArray, List.set_cons_zero, List.set_cons_succ]
          refine takeH (i := 14) 80 (v := .slice p zn8 c) rfl rfl (by kernel_rfl) (by kernel_rfl) (by kernel_rfl) (fun _ _ _ h => h) (Or.inl ⟨by rfl, ?_⟩) (by assumption) ?_
          · intro w' hSw'
            obtain ⟨d0, d1, d2, d3, d4⟩ := CX.out w' (UX.out w' hSw')
            go_simp
          simp only [Act.put, List.setIfInBounds_toArray, List.set_cons_zero, List.set_cons_succ]
          refine wpAnyH_ready (rs := [12]) (by kernel_rfl) (by simp) ?_
          refine AllReadyH.cons rfl (fun K hK => ?_) AllReadyH.nil
          go_simp
          refine (NT.out _ (Below.refl _ _).drew).mono ?_
          rintro e w6b ⟨v6b, rfl, ho6, hb6⟩
          have b5 : Hid (Below W9.heap.size W9 w6b) := ((Below.refl _ _).drew).trans (hb6.mono (Nat.le_refl _))
          obtain ⟨q5, c5, rfl, hs5, _⟩ := RSrc.own metaKind_ok ho6 (fun y hy => (S8.out w6b b5.out).held y hy)
          have S5 := keep hs5
          clear ho6 hb6 hs5
          go_wp2_with fail
          refine hK.out _ _ (b5.out) (fun hHeld1 => ?_)
          clear hK K
          refine wpAnyH_ready (rs := [15]) (by kernel_rfl) (by simp) ?_
          refine AllReadyH.cons rfl (fun K hK => ?_) AllReadyH.nil
          go_simp
          refine (SM.out q5 c5 _ S5.out b5.out).mono ?_
          rintro e w7b ⟨rfl, hb7⟩
          have b6 : Hid (Below W9.heap.size W9 w7b) := b5.out.trans (hb7.mono b5.out.size)
          clear hb7
          go_wp2_with fail
          refine hK.out _ _ (b6.out) (fun hHeld2 => ?_)
          clear hK K
          refine takeH (i := 16) 82 (v := .bool true) rfl rfl (by kernel_rfl) (by kernel_rfl) (by kernel_rfl) (fun _ _ _ h => h) (Or.inl ⟨by rfl, ?_⟩) (by assumption) ?_
          · intro w' hSw'
            go_simp
          simp only [Act.put, List.setIfInBounds_toArray, List.set_cons_zero, List.set_cons_succ]
          refine takeH (i := 17) 83 (v := .bool true) rfl rfl (by kernel_rfl) (by kernel_rfl) (by kernel_rfl) (fun _ _ _ h => h) (Or.inl ⟨by rfl, ?_⟩) (by assumption) ?_
          · intro w' hSw'
            go_simp
          simp only [Act.put, List.setIfInBounds_toArray, List.set_cons_zero, List.set_cons_succ]
          refine takeH (i := 18) 84 (v := .pointer (some ⟨w5.heap.size, 4, none⟩)) rfl rfl (by kernel_rfl) (by kernel_rfl) (by kernel_rfl) (fun _ _ _ h => h) (Or.inl ⟨by rfl, ?_⟩) (by assumption) ?_
          · intro w' hSw'
            go_simp
          simp only [Act.put, List.setIfInBounds_toArray, List.set_cons_zero, List.set_cons_succ]
          refine takeH (i := 19) 85 (v := .slice zp (zn8 + k) zc) rfl rfl (by kernel_rfl) (by kernel_rfl) (by kernel_rfl) (fun _ _ _ h => h) (Or.inl ⟨by rfl, ?_⟩) (by assumption) ?_
          · intro w' hSw'
            obtain ⟨d0, d1, d2, d3, d4⟩ := CA.out w' (UA.out w' hSw')
            go_simp
          simp only [Act.put, List.setIfInBounds_toArray, List.set_cons_zero, List.set_cons_succ]
          refine takeH (i := 20) 86 (v := .int .i64 ((zn8 + k : Nat) : Int)) rfl rfl (by kernel_rfl) (by kernel_rfl) (by kernel_rfl) (fun _ _ _ h => h) (Or.inl ⟨by rfl, ?_⟩) (by assumption) ?_
          · intro w' hSw'
            go_simp
          simp only [Act.put, List.setIfInBounds_toArray, List.set_cons_zero, List.set_cons_succ]
          refine takeH (i := 21) 87 (v := .pointer (some ⟨w.heap.size, 4, none⟩)) rfl rfl (by kernel_rfl) (by kernel_rfl) (by kernel_rfl) (fun _ _ _ h => h) (Or.inl ⟨by rfl, ?_⟩) (by assumption) ?_
          · intro w' hSw'
            go_simp
          simp only [Act.put, List.setIfInBounds_toArray, List.set_cons_zero, List.set_cons_succ]
          refine takeH (i := 0x16) 88 (v := .slice p zn8 c) rfl rfl (by kernel_rfl) (by kernel_rfl) (by kernel_rfl) (fun _ _ _ h => h) (Or.inl ⟨by rfl, ?_⟩) (by assumption) ?_
          · intro w' hSw'
            obtain ⟨d0, d1, d2, d3, d4⟩ := CX.out w' (UX.out w' hSw')
            go_simp
          simp only [Act.put, List.setIfInBounds_toArray, List.set_cons_zero, List.set_cons_succ]
          refine takeH (i := 23) 89 (v := .int .i64 (zn8 : Int)) rfl rfl (by kernel_rfl) (by kernel_rfl) (by kernel_rfl) (fun _ _ _ h => h) (Or.inl ⟨by rfl, ?_⟩) (by assumption) ?_
          · intro w' hSw'
            go_simp
          simp only [Act.put, List.setIfInBounds_toArray, List.set_cons_zero, List.set_cons_succ]
          refine takeH (i := 24) 90 (v := .slice ap k ac) rfl rfl (by kernel_rfl) (by kernel_rfl) (by kernel_rfl) (fun _ _ _ h => h) (Or.inl ⟨by rfl, ?_⟩) (by assumption) ?_
          · intro w' hSw'
            go_simp
          simp only [Act.put, List.setIfInBounds_toArray, List.set_cons_zero, List.set_cons_succ]
          refine takeH (i := 25) 91 (v := .int .i64 (k : Int)) rfl rfl (by kernel_rfl) (by kernel_rfl) (by kernel_rfl) (fun _ _ _ h => h) (Or.inl ⟨by rfl, ?_⟩) (by assumption) ?_
          · intro w' hSw'
            go_simp
          simp only [Act.put, List.setIfInBounds_toArray, List.set_cons_zero, List.set_cons_succ]
          refine takeH (i := 26) 92 (v := .int .i64 ((zn8 + k : Nat) : Int)) rfl rfl (by kernel_rfl) (by kernel_rfl) (by kernel_rfl) (fun _ _ _ h => h) (Or.inl ⟨by rfl, ?_⟩) (by assumption) ?_
          · intro w' hSw'
            go_simp
            exact wrap_small _ (by omega) (by omega)
          simp only [Act.put, List.setIfInBounds_toArray, List.set_cons_zero, List.set_cons_succ]
          refine takeH (i := 27) 93 (v := .bool true) rfl rfl (by kernel_rfl) (by kernel_rfl) (by kernel_rfl) (fun _ _ _ h => h) (Or.inl ⟨by rfl, ?_⟩) (by assumption) ?_
          · intro w' hSw'
            go_simp
          simp only [Act.put, List.setIfInBounds_toArray, List.set_cons_zero, List.set_cons_succ]
          refine takeH (i := 28) 94 (v := .bool true) rfl rfl (by kernel_rfl) (by kernel_rfl) (by kernel_rfl) (fun _ _ _ h => h) (Or.inl ⟨by rfl, ?_⟩) (by assumption) ?_
          · intro w' hSw'
            go_simp
          simp only [Act.put, List.setIfInBounds_toArray, List.set_cons_zero, List.set_cons_succ]
          refine takeH (i := 29) 4 (v := .bool true) rfl rfl (by kernel_rfl) (by kernel_rfl) (by kernel_rfl) (fun _ _ _ h => h) (Or.inl ⟨by rfl, ?_⟩) (by assumption) ?_
          · intro w' hSw'
            go_simp
          simp only [Act.put, List.setIfInBounds_toArray, List.set_cons_zero, List.set_cons_succ]
          refine wpAnyH_done (by kernel_rfl) ?_ _
          go_wp2
          go_ret
          exact ⟨rfl, UW.out _ b6.out⟩
end Go.Proofs.Ytfdnpokhfmfalaa
