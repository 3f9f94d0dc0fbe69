/- EditApplies' walk. -/
import Derived.Test.YtbahldabcieiaaaRq4
import Derived.Test.YtbahldabcieiaaaRq5
import Derived.Test.YtbahldabcieiaaaHm
import Derived.Test.YtbahldabcieiaaaHo
import Derived.Test.YtbahldabcieiaaaHjt
namespace Go.Proofs.Ytbahldabcieiaaa
open Go.RowKit
open Ed (Nt)

set_option maxHeartbeats 3000000 in
set_option maxRecDepth 100000 in
theorem applies_walk (x : VV) (dp : Option Addr) (dn dc : Nat) (ds : List Int) (ap : Option Addr) (an ac : Nat) (ms : List MV) (kp : Option Addr) (K kc : Nat) (key : List UInt8) (lev : Int) (w : World) (hx : VV.held w x) (hd : RSrc inK w dp dn dc ds) (ha : RSrc metaKind w ap an ac ms) (hkey : Src w kp K kc key) (hnx : Near x.n x.es) (hna : Near an ms) (hK : K ≤ 140737488355328) :
    Calls Try.prog 3 #[x.val, .slice dp dn dc, .slice ap an ac, .slice kp K kc, .int .i64 lev] w fun e w' => e = .returned (.bool true) ∧ Below w.heap.size w w' := by
  obtain ⟨p, n, c, gen, next, log, seq, es⟩ := x
  have SX : Hid (RSrc metaKind w p n c es) := hx
  have SD := keep hd
  have SA := keep ha
  have SK := keep hkey
  have HKB := keep hK
  have HL : Hid (es.length = n) := hx.len
  have HLA : Hid (ms.length = an) := ha.len
  have NX : Hid (∀ y ∈ es, y.m.first.length ≤ 140737488355328 ∧ y.m.last.length ≤ 140737488355328) := hnx.2
  have NA := keep hna.2
  clear ha hd hkey hK hnx hna hx
  unfold VV.val
  simp only
  obtain ⟨W1, hW1⟩ : ∃ W1, w.alloc (.cells #[.int .i64 gen, .int .i64 next, .int .i64 log, .int .i64 seq, .slice p n c] 24) = W1 := ⟨_, rfl⟩
  have b1 : Hid (Below w.heap.size w W1) := by rw [← hW1]; exact (Below.refl _ _).alloc (Nat.le_refl _) _
  have g1 : Hid (W1.heap[w.heap.size]? = some (.cells #[.int .i64 gen, .int .i64 next, .int .i64 log, .int .i64 seq, .slice p n c] 24)) := by rw [← hW1]; exact heap_alloc_new w _
  have CX : Hid (∀ w', Below W1.heap.size W1 w' → w'.cell? ⟨w.heap.size, 0, none⟩ = some (.int .i64 gen) ∧ w'.cell? ⟨w.heap.size, 1, none⟩ = some (.int .i64 next) ∧ w'.cell? ⟨w.heap.size, 2, none⟩ = some (.int .i64 log) ∧ w'.cell? ⟨w.heap.size, 3, none⟩ = some (.int .i64 seq) ∧ w'.cell? ⟨w.heap.size, 4, none⟩ = some (.slice p n c)) := fun w' hb => ⟨belowE hb (cell_of_row _ _ _ _ _ _ g1.out), belowE hb (cell_of_row _ _ _ _ _ _ g1.out), belowE hb (cell_of_row _ _ _ _ _ _ g1.out), belowE hb (cell_of_row _ _ _ _ _ _ g1.out), belowE hb (cell_of_row _ _ _ _ _ _ g1.out)⟩
  have AW := keep (awake_any W1)
  go_enter Try.func3, Try.ntmps3
  go_wp2_with fail
  refine AW.out.mono ?_
  rintro e w2 ⟨rfl, hb2⟩
  have L2 := keep hb2
  have B2 := keep (b1.out.trans (hb2.mono b1.out.size))
  obtain ⟨c0, c1, c2, c3, c4⟩ := CX.out w2 hb2
  clear hb2 AW
  by_cases hb1 : 200 < n
  · have q : (200 : Int) < (n : Int) := by omega
    go_wp2
    go_ret
    exact ⟨rfl, B2.out⟩
  by_cases hb2 : 200 < an
  · have q : ¬ (200 : Int) < (n : Int) := by omega
    have q2 : (200 : Int) < (an : Int) := by omega
    go_wp2
    go_ret
    exact ⟨rfl, B2.out⟩
  by_cases hb3 : 200 < dn
  · have q : ¬ (200 : Int) < (n : Int) := by omega
    have q2 : ¬ (200 : Int) < (an : Int) := by omega
    have q3 : (200 : Int) < (dn : Int) := by omega
    go_wp2
    go_ret
    exact ⟨rfl, B2.out⟩
  have q1 : ¬ (200 : Int) < (n : Int) := by omega
  have q2 : ¬ (200 : Int) < (an : Int) := by omega
  have q3 : ¬ (200 : Int) < (dn : Int) := by omega
  have hn200 : n ≤ 200 := by omega
  have ha200 : an ≤ 200 := by omega
  have hd200 : dn ≤ 200 := by omega
  clear hb1 hb2 hb3
  obtain ⟨V, hV⟩ : ∃ V : Ed.Ver, VV.v ⟨p, n, c, gen, next, log, seq, es⟩ = V := ⟨_, rfl⟩
  have HV := keep hV
  have VT : Hid (V.tabs = es.map (·.m)) := by rw [← hV]; rfl
  have MI : Hid (∀ w', Below W1.heap.size W1 w' → Calls Try.prog 7 #[.agg #[.int .i64 gen, .int .i64 next, .int .i64 log, .int .i64 seq, .slice p n c]] w' fun e w'' => ∃ yp yc ygen ynext ylog yseq, e = .returned (.agg #[.int .i64 ygen, .int .i64 ynext, .int .i64 ylog, .int .i64 yseq, .slice yp n yc]) ∧ VV.held w'' ⟨yp, n, yc, ygen, ynext, ylog, yseq, es⟩ ∧ VV.v ⟨yp, n, yc, ygen, ynext, ylog, yseq, es⟩ = V ∧ Below w'.heap.size w' w'') := fun w' hb => by
    refine (mine_any ⟨p, n, c, gen, next, log, seq, es⟩ w' (SX.out.below metaKind_ok (b1.out.trans (hb.mono b1.out.size))) (show n ≤ 1954687338268 by omega)).mono ?_
    rintro e w'' ⟨y, rfl, hy, hyv, hyn, hye, hb'⟩
    obtain ⟨yp, yn, yc, ygen, ynext, ylog, yseq, yes⟩ := y
    have e1 : yn = n := hyn
    have e2 : yes = es := hye
    subst e1 e2
    exact ⟨yp, yc, ygen, ynext, ylog, yseq, rfl, hy, hyv.trans hV, hb'⟩
  obtain ⟨AD, hAD⟩ : ∃ AD : List Nt, ms.map (·.m) = AD := ⟨_, rfl⟩
  have ADL : Hid (AD.length = an) := by show _ = _; rw [← hAD, List.length_map]; exact HLA.out
  obtain ⟨NE, hNE⟩ : ∃ NE : Int, (if Ed.applies V ds AD then (0 : Int) else 1) = NE := ⟨_, rfl⟩
  obtain ⟨TV, hTV⟩ : ∃ TV : Ed.Ver, (if Ed.applies V ds AD then Ed.after V ds AD else zeroV.v) = TV := ⟨_, rfl⟩
  have TVL : Hid (TV.tabs.length ≤ 1000) := by
    show _ ≤ _
    rw [← hTV]
    split
    · have h1 := (Ed.srt_perm (Ed.kept V.tabs ds ++ AD)).length_eq
      have h2 := List.length_filter_le (fun m : Nt => !ds.contains m.num) V.tabs
      rw [List.length_append, ADL.out] at h1
      rw [VT.out, List.length_map, HL.out] at h2
      have h3 : (Ed.kept V.tabs ds).length ≤ n := by unfold Ed.kept; rw [VT.out]; exact h2
      show (Ed.srt (Ed.kept V.tabs ds ++ AD)).length ≤ 1000
      omega
    · exact Nat.zero_le _
  go_wp2_with fail
  refine (MI.out w2 L2.out).mono ?_
  rintro e w3 ⟨yp, yc, ygen, ynext, ylog, yseq, rfl, hy, hyv, hb3⟩
  have HY := keep hy
  have HYV := keep hyv
  have L3 := keep (L2.out.trans (hb3.mono L2.out.size))
  have B3 := keep (B2.out.trans (hb3.mono B2.out.size))
  have ME := keep (metas_any ap an ac ms w3 (SA.out.below metaKind_ok B3.out) (by omega))
  clear hy hyv hb3 c0 c1 c2 c3 c4
  go_wp2_with fail
  refine ME.out.mono ?_
  rintro e w4 ⟨v4, rfl, ho4, hb4⟩
  have L4 := keep (L3.out.trans (hb4.mono L3.out.size))
  have B4 := keep (B3.out.trans (hb4.mono B3.out.size))
  obtain ⟨p4, c4, rfl, hs4, _⟩ := RSrc.own metaKind_ok ho4 (fun y hy => metaKind_ok.below (SA.out.held y hy) B4.out)
  have AP := keep (apply_any ⟨yp, n, yc, ygen, ynext, ylog, yseq, es⟩ dp dn dc ds p4 an c4 ms w4 (HY.out.below hb4) (SD.out.below inK_ok B4.out) hs4 (by omega) (by omega))
  rw [HYV.out, hAD] at AP
  unfold AppA VV.val at AP
  rw [hNE, hTV] at AP
  simp only at AP
  clear ho4 hs4 hb4 ME
  go_wp2_with fail
  refine AP.out.mono ?_
  rintro e w5 ⟨⟨z, rfl, hz, hzv⟩, hb5⟩
  have HZ := keep hz
  have HZV := keep hzv
  have L5 := keep (L4.out.trans (hb5.mono L4.out.size))
  have B5 := keep (B4.out.trans (hb5.mono B4.out.size))
  obtain ⟨zp, zn, zc, zgen, znext, zlog, zseq, zes⟩ := z
  simp only
  obtain ⟨W6, hW6⟩ : ∃ W6, w5.alloc (.cells #[.int .i64 zgen, .int .i64 znext, .int .i64 zlog, .int .i64 zseq, .slice zp zn zc] 30) = W6 := ⟨_, rfl⟩
  have b6 : Hid (Below w5.heap.size w5 W6) := by rw [← hW6]; exact (Below.refl _ _).alloc (Nat.le_refl _) _
  have g6 : Hid (W6.heap[w5.heap.size]? = some (.cells #[.int .i64 zgen, .int .i64 znext, .int .i64 zlog, .int .i64 zseq, .slice zp zn zc] 30)) := by rw [← hW6]; exact heap_alloc_new w5 _
  have L6 := keep (L5.out.trans (b6.out.mono L5.out.size))
  have B6 := keep (B5.out.trans (b6.out.mono B5.out.size))
  have CZ : Hid (∀ w', Below W6.heap.size W6 w' → w'.cell? ⟨w5.heap.size, 0, none⟩ = some (.int .i64 zgen) ∧ w'.cell? ⟨w5.heap.size, 1, none⟩ = some (.int .i64 znext) ∧ w'.cell? ⟨w5.heap.size, 2, none⟩ = some (.int .i64 zlog) ∧ w'.cell? ⟨w5.heap.size, 3, none⟩ = some (.int .i64 zseq) ∧ w'.cell? ⟨w5.heap.size, 4, none⟩ = some (.slice zp zn zc)) := fun w' hb => ⟨belowE hb (cell_of_row _ _ _ _ _ _ g6.out), belowE hb (cell_of_row _ _ _ _ _ _ g6.out), belowE hb (cell_of_row _ _ _ _ _ _ g6.out), belowE hb (cell_of_row _ _ _ _ _ _ g6.out), belowE hb (cell_of_row _ _ _ _ _ _ g6.out)⟩
  have RA := keep (rapply_any ⟨p, n, c, gen, next, log, seq, es⟩ dp dn dc ds ap an ac ms W6 (SX.out.below metaKind_ok B6.out) (SD.out.below inK_ok B6.out) (SA.out.below metaKind_ok B6.out) (by omega) (by omega) NX.out NA.out)
  rw [hV, hAD] at RA
  unfold AppA VV.val at RA
  rw [hNE, hTV] at RA
  simp only at RA
  obtain ⟨d0, d1, d2, d3, d4⟩ := CX.out W6 L6.out
  clear hz hzv hb5 AP hNE hTV hAD hV
  go_wp2_with fail
  refine RA.out.mono ?_
  rintro e w7 ⟨⟨u, rfl, hu, huv⟩, hb7⟩
  have HU := keep hu
  have HUV := keep huv
  have L7 := keep (L6.out.trans (hb7.mono L6.out.size))
  have B7 := keep (B6.out.trans (hb7.mono B6.out.size))
  have Q7 := keep hb7
  obtain ⟨up, un, uc, ugen, unext, ulog, useq, ues⟩ := u
  simp only
  obtain ⟨W8, hW8⟩ : ∃ W8, w7.alloc (.cells #[.int .i64 ugen, .int .i64 unext, .int .i64 ulog, .int .i64 useq, .slice up un uc] 24) = W8 := ⟨_, rfl⟩
  have b8 : Hid (Below w7.heap.size w7 W8) := by rw [← hW8]; exact (Below.refl _ _).alloc (Nat.le_refl _) _
  have g8 : Hid (W8.heap[w7.heap.size]? = some (.cells #[.int .i64 ugen, .int .i64 unext, .int .i64 ulog, .int .i64 useq, .slice up un uc] 24)) := by rw [← hW8]; exact heap_alloc_new w7 _
  have L8 := keep (L7.out.trans (b8.out.mono L7.out.size))
  have B8 := keep (B7.out.trans (b8.out.mono B7.out.size))
  have Q8 := keep (Q7.out.trans (b8.out.mono Q7.out.size))
  have CU : Hid (∀ w', Below W8.heap.size W8 w' → w'.cell? ⟨w7.heap.size, 0, none⟩ = some (.int .i64 ugen) ∧ w'.cell? ⟨w7.heap.size, 1, none⟩ = some (.int .i64 unext) ∧ w'.cell? ⟨w7.heap.size, 2, none⟩ = some (.int .i64 ulog) ∧ w'.cell? ⟨w7.heap.size, 3, none⟩ = some (.int .i64 useq) ∧ w'.cell? ⟨w7.heap.size, 4, none⟩ = some (.slice up un uc)) := fun w' hb => ⟨belowE hb (cell_of_row _ _ _ _ _ _ g8.out), belowE hb (cell_of_row _ _ _ _ _ _ g8.out), belowE hb (cell_of_row _ _ _ _ _ _ g8.out), belowE hb (cell_of_row _ _ _ _ _ _ g8.out), belowE hb (cell_of_row _ _ _ _ _ _ g8.out)⟩
  have CZ8 : Hid (∀ w', Below W8.heap.size W8 w' → _) := fun w' hb => CZ.out w' (Q8.out.trans (hb.mono Q8.out.size))
  have CX8 : Hid (∀ w', Below W8.heap.size W8 w' → _) := fun w' hb => CX.out w' (L8.out.trans (hb.mono L8.out.size))
  have HZ8 : Hid (∀ w', Below W8.heap.size W8 w' → VV.held w' ⟨zp, zn, zc, zgen, znext, zlog, zseq, zes⟩) := fun w' hb => (((HZ.out.below b6.out).below Q8.out).below hb)
  have HU8 : Hid (∀ w', Below W8.heap.size W8 w' → VV.held w' ⟨up, un, uc, ugen, unext, ulog, useq, ues⟩) := fun w' hb => ((HU.out.below b8.out).below hb)
  have TH : Hid (∀ w', Below W8.heap.size W8 w' → Calls Try.prog 11 #[.agg #[.int .i64 zgen, .int .i64 znext, .int .i64 zlog, .int .i64 zseq, .slice zp zn zc]] w' fun e w'' => ∃ tp tn tc tgen tnext tlog tseq tes, e = .returned (.agg #[.int .i64 tgen, .int .i64 tnext, .int .i64 tlog, .int .i64 tseq, .slice tp tn tc]) ∧ VV.held w'' ⟨tp, tn, tc, tgen, tnext, tlog, tseq, tes⟩ ∧ VV.v ⟨tp, tn, tc, tgen, tnext, tlog, tseq, tes⟩ = TV ∧ Below W8.heap.size W8 w'') := fun w' hb => by
    have hzl : zn ≤ 1954687338268 := by
      have h1 := congrArg (fun v => v.tabs.length) HZV.out
      have h2 : zes.length = zn := (HZ.out).len
      have h3 : zes.length = TV.tabs.length := by rw [← List.length_map (f := (·.m))]; exact h1
      have := TVL.out
      omega
    refine (theirs_any ⟨zp, zn, zc, zgen, znext, zlog, zseq, zes⟩ w' (HZ8.out w' hb) hzl).mono ?_
    rintro e w'' ⟨y, rfl, hy, hyv, _, _, hb'⟩
    obtain ⟨tp, tn, tc, tgen, tnext, tlog, tseq, tes⟩ := y
    exact ⟨tp, tn, tc, tgen, tnext, tlog, tseq, tes, rfl, hy, hyv.trans HZV.out, hb.trans (hb'.mono hb.size)⟩
  have SM : Hid (∀ tp tn tc tgen tnext tlog tseq tes w', VV.held w' ⟨tp, tn, tc, tgen, tnext, tlog, tseq, tes⟩ → VV.v ⟨tp, tn, tc, tgen, tnext, tlog, tseq, tes⟩ = TV → Below W8.heap.size W8 w' → Calls Try.prog 10 #[.agg #[.int .i64 tgen, .int .i64 tnext, .int .i64 tlog, .int .i64 tseq, .slice tp tn tc], .agg #[.int .i64 ugen, .int .i64 unext, .int .i64 ulog, .int .i64 useq, .slice up un uc]] w' fun e w'' => e = .returned (.bool true) ∧ Below W8.heap.size W8 w'') := fun tp tn tc tgen tnext tlog tseq tes w' ht htv hb => by
    have hzl : tn ≤ 1000000000 := by
      have h1 := congrArg (fun v => v.tabs.length) htv
      have h2 : tes.length = tn := RSrc.len ht
      have h3 : tes.length = TV.tabs.length := by rw [← List.length_map (f := (·.m))]; exact h1
      have := TVL.out
      omega
    refine (rsame_yes ⟨tp, tn, tc, tgen, tnext, tlog, tseq, tes⟩ ⟨up, un, uc, ugen, unext, ulog, useq, ues⟩ w' ht (HU8.out w' hb) (htv.trans HUV.out.symm) hzl).mono ?_
    rintro e w'' ⟨rfl, hb'⟩
    exact ⟨rfl, hb.trans (hb'.mono hb.size)⟩
  have MI8 : Hid (∀ w', Below W8.heap.size W8 w' → Calls Try.prog 7 #[.agg #[.int .i64 gen, .int .i64 next, .int .i64 log, .int .i64 seq, .slice p n c]] w' fun e w'' => ∃ yp yc ygen ynext ylog yseq, e = .returned (.agg #[.int .i64 ygen, .int .i64 ynext, .int .i64 ylog, .int .i64 yseq, .slice yp n yc]) ∧ VV.held w'' ⟨yp, n, yc, ygen, ynext, ylog, yseq, es⟩ ∧ VV.v ⟨yp, n, yc, ygen, ynext, ylog, yseq, es⟩ = V ∧ Below W8.heap.size W8 w'') := fun w' hb => by
    refine (MI.out w' (L8.out.trans (hb.mono L8.out.size))).mono ?_
    rintro e w'' ⟨yp, yc, ygen, ynext, ylog, yseq, rfl, hy, hyv, hb'⟩
    exact ⟨yp, yc, ygen, ynext, ylog, yseq, rfl, hy, hyv, hb.trans (hb'.mono hb.size)⟩
  obtain ⟨LN, hLN⟩ : ∃ LN, (Ed.level V.tabs lev).length = LN := ⟨_, rfl⟩
  have hLNb : LN ≤ 200 := by
    rw [← hLN, VT.out]
    unfold Ed.level
    have h1 := List.length_filter_le (fun m : Nt => decide (m.level = lev)) (es.map (·.m))
    rw [List.length_map, HL.out] at h1
    omega
  have LE : Hid (∀ yp yc ygen ynext ylog yseq w', VV.held w' ⟨yp, n, yc, ygen, ynext, ylog, yseq, es⟩ → VV.v ⟨yp, n, yc, ygen, ynext, ylog, yseq, es⟩ = V → Below W8.heap.size W8 w' → Calls Try.prog 14 #[.agg #[.int .i64 ygen, .int .i64 ynext, .int .i64 ylog, .int .i64 yseq, .slice yp n yc], .int .i64 lev] w' fun e w'' => ∃ la lc ls, e = .returned (.slice la LN lc) ∧ RSrc metaKind w'' la LN lc ls ∧ ls.map (·.m) = Ed.level V.tabs lev ∧ Below W8.heap.size W8 w'') := fun yp yc ygen ynext ylog yseq w' hy hyv hb => by
    refine (level_any ⟨yp, n, yc, ygen, ynext, ylog, yseq, es⟩ lev w' hy (show n ≤ 1000000 by omega) NX.out).mono ?_
    rintro e w'' ⟨v, ls, rfl, hM, hl, hb'⟩
    obtain ⟨la, lc, rfl, hs, _⟩ := hM.src
    rw [hyv] at hl
    have e1 : ls.length = LN := by rw [← hLN, ← hl, List.length_map]
    rw [e1] at hs ⊢
    exact ⟨la, lc, ls, rfl, hs, hl, hb.trans (hb'.mono hb.size)⟩
  have NO : Hid (∀ la lc ls w', RSrc metaKind w' la LN lc ls → Below W8.heap.size W8 w' → Calls Try.prog 13 #[.slice la LN lc] w' fun e w'' => ∃ na nc, e = .returned (.slice na LN nc) ∧ RSrc metaKind w'' na LN nc ls ∧ Below W8.heap.size W8 w'') := fun la lc ls w' hl hb => by
    refine (notesN_any la LN lc ls w' hl (by omega)).mono ?_
    rintro e w'' ⟨v, rfl, ho, hb'⟩
    obtain ⟨na, nc, rfl, hs, _⟩ := RSrc.own metaKind_ok ho (fun y hy => metaKind_ok.below (hl.held y hy) hb')
    exact ⟨na, nc, rfl, hs, hb.trans (hb'.mono hb.size)⟩
  have RL : Hid (∀ w', Below W8.heap.size W8 w' → Calls Try.prog 15 #[.agg #[.int .i64 gen, .int .i64 next, .int .i64 log, .int .i64 seq, .slice p n c], .int .i64 lev] w' fun e w'' => ∃ ra rc rs, e = .returned (.slice ra LN rc) ∧ RSrc metaKind w'' ra LN rc rs ∧ rs.map (·.m) = Ed.level V.tabs lev ∧ Below w'.heap.size w' w'') := fun w' hb => by
    refine (rlevel_any ⟨p, n, c, gen, next, log, seq, es⟩ lev w' (SX.out.below metaKind_ok (B8.out.trans (hb.mono B8.out.size))) (show n ≤ 1000000 by omega) NX.out).mono ?_
    rintro e w'' ⟨v, ls, rfl, hM, hl, hb'⟩
    obtain ⟨la, lc, rfl, hs, _⟩ := hM.src
    rw [HV.out] at hl
    have e1 : ls.length = LN := by rw [← hLN, ← hl, List.length_map]
    rw [e1] at hs ⊢
    exact ⟨la, lc, ls, rfl, hs, hl, hb'⟩
  have SL : Hid (∀ na nc ls ra rc rs w', RSrc metaKind w' na LN nc ls → RSrc metaKind w' ra LN rc rs → ls.map (·.m) = rs.map (·.m) → Below W8.heap.size W8 w' → Calls Try.prog 12 #[.slice na LN nc, .slice ra LN rc] w' fun e w'' => e = .returned (.bool true) ∧ Below W8.heap.size W8 w'') := fun na nc ls ra rc rs w' h1 h2 h3 hb => by
    refine (sameMetas_yes na LN nc ls ra rc rs w' h1 h2 h3 (by omega)).mono ?_
    rintro e w'' ⟨rfl, hb'⟩
    exact ⟨rfl, hb.trans (hb'.mono hb.size)⟩
  clear hu huv hb7 RA hLN d0 d1 d2 d3 d4 hW6
  obtain ⟨E1, hE1⟩ : ∃ E1, w5.heap.size = E1 := ⟨_, rfl⟩
  obtain ⟨E2, hE2⟩ : ∃ E2, w7.heap.size = E2 := ⟨_, rfl⟩
  rw [hE1] at CZ8
  rw [hE2] at CU
  go_wp2_with fail
  refine wp_region_held_drew (S := fun w' => Below W8.heap.size W8 w') (by kernel_rfl) ((Below.refl _ _).drew) (fun hZ => ?_)
  refine takeH (i := 0) 51 (v := .bool true) rfl rfl (by kernel_rfl) (by kernel_rfl) (by kernel_rfl) (fun _ _ _ h => h) (Or.inl ⟨by rfl, ?_⟩) (by assumption) ?_
  · intro w' hSw'
    go_simp
  simp only [Act.put, List.setIfInBounds_toArray, List.set_cons_zero, List.set_cons_succ]
  refine takeH (i := 1) 52 (v := .bool false) rfl rfl (by kernel_rfl) (by kernel_rfl) (by kernel_rfl) (fun _ _ _ h => h) (Or.inl ⟨by rfl, ?_⟩) (by assumption) ?_
  · intro w' hSw'
    go_simp
  simp only [Act.put, List.setIfInBounds_toArray, List.set_cons_zero, List.set_cons_succ]
  refine takeH (i := 2) 53 (v := .bool false) rfl rfl (by kernel_rfl) (by kernel_rfl) (by kernel_rfl) (fun _ _ _ h => h) (Or.inl ⟨by rfl, ?_⟩) (by assumption) ?_
  · intro w' hSw'
    go_simp
  simp only [Act.put, List.setIfInBounds_toArray, List.set_cons_zero, List.set_cons_succ]
  refine takeH (i := 3) 54 (v := .int .i64 NE) rfl rfl (by kernel_rfl) (by kernel_rfl) (by kernel_rfl) (fun _ _ _ h => h) (Or.inl ⟨by rfl, ?_⟩) (by assumption) ?_
  · intro w' hSw'
    go_simp
  simp only [Act.put, List.setIfInBounds_toArray, List.set_cons_zero, List.set_cons_succ]
  refine takeH (i := 4) 55 (v := .int .i64 NE) rfl rfl (by kernel_rfl) (by kernel_rfl) (by kernel_rfl) (fun _ _ _ h => h) (Or.inl ⟨by rfl, ?_⟩) (by assumption) ?_
  · intro w' hSw'
    go_simp
  simp only [Act.put, List.setIfInBounds_toArray, List.set_cons_zero, List.set_cons_succ]
  refine takeH (i := 5) 56 (v := .bool false) rfl rfl (by kernel_rfl) (by kernel_rfl) (by kernel_rfl) (fun _ _ _ h => h) (Or.inl ⟨by rfl, ?_⟩) (by assumption) ?_
  · intro w' hSw'
    go_simp
  simp only [Act.put, List.setIfInBounds_toArray, List.set_cons_zero, List.set_cons_succ]
  refine takeH (i := 6) 57 (v := .bool false) rfl rfl (by kernel_rfl) (by kernel_rfl) (by kernel_rfl) (fun _ _ _ h => h) (Or.inl ⟨by rfl, ?_⟩) (by assumption) ?_
  · intro w' hSw'
    go_simp
  simp only [Act.put, List.setIfInBounds_toArray, List.set_cons_zero, List.set_cons_succ]
  refine takeH (i := 7) 58 (v := .bool false) rfl rfl (by kernel_rfl) (by kernel_rfl) (by kernel_rfl) (fun _ _ _ h => h) (Or.inl ⟨by rfl, ?_⟩) (by assumption) ?_
  · intro w' hSw'
    go_simp
  simp only [Act.put, List.setIfInBounds_toArray, List.set_cons_zero, List.set_cons_succ]
  refine takeH (i := 8) 59 (v := .agg #[.int .i64 zgen, .int .i64 znext, .int .i64 zlog, .int .i64 zseq, .slice zp zn zc]) rfl rfl (by kernel_rfl) (by kernel_rfl) (by kernel_rfl) (fun _ _ _ h => h) (Or.inl ⟨by rfl, ?_⟩) (by assumption) ?_
  · intro w' hSw'
    obtain ⟨y0, y1, y2, y3, y4⟩ := CZ8.out w' hSw'
    go_simp
  simp only [Act.put, List.setIfInBounds_toArray, List.set_cons_zero, List.set_cons_succ]
  refine takeH (i := 10) 61 (v := .agg #[.int .i64 ugen, .int .i64 unext, .int .i64 ulog, .int .i64 useq, .slice up un uc]) rfl rfl (by kernel_rfl) (by kernel_rfl) (by kernel_rfl) (fun _ _ _ h => h) (Or.inl ⟨by rfl, ?_⟩) (by assumption) ?_
  · intro w' hSw'
    obtain ⟨y0, y1, y2, y3, y4⟩ := CU.out w' hSw'
    go_simp
  simp only [Act.put, List.setIfInBounds_toArray, List.set_cons_zero, List.set_cons_succ]
  refine wpAnyH_ready (rs := [9]) (by kernel_rfl) (by simp) ?_
  refine AllReadyH.cons rfl (fun K hK => ?_) AllReadyH.nil
  go_simp
  refine (TH.out _ (Below.refl _ _).drew).mono ?_
  rintro e w9 ⟨tp, tn, tc, tgen, tnext, tlog, tseq, tes, rfl, ht, htv, hb⟩
  have b9 := keep hb
  have T9 := keep ht
  have TV9 := keep htv
  clear hb ht htv
  go_wp2_with fail
  refine hK.out _ _ (b9.out) (fun hZ1 => ?_)
  clear hK K
  refine wpAnyH_ready (rs := [11]) (by kernel_rfl) (by simp) ?_
  refine AllReadyH.cons rfl (fun K hK => ?_) AllReadyH.nil
  go_simp
  refine (SM.out _ _ _ _ _ _ _ _ w9 T9.out TV9.out b9.out).mono ?_
  rintro e w10 ⟨rfl, hb⟩
  have b10 := keep hb
  clear hb
  go_wp2_with fail
  refine hK.out _ _ (b10.out) (fun hZ2 => ?_)
  clear hK K
  refine takeH (i := 12) 63 (v := .bool false) rfl rfl (by kernel_rfl) (by kernel_rfl) (by kernel_rfl) (fun _ _ _ h => h) (Or.inl ⟨by rfl, ?_⟩) (by assumption) ?_
  · intro w' hSw'
    go_simp
  simp only [Act.put, List.setIfInBounds_toArray, List.set_cons_zero, List.set_cons_succ]
  refine takeH (i := 13) 64 (v := .bool false) rfl rfl (by kernel_rfl) (by kernel_rfl) (by kernel_rfl) (fun _ _ _ h => h) (Or.inl ⟨by rfl, ?_⟩) (by assumption) ?_
  · intro w' hSw'
    go_simp
  simp only [Act.put, List.setIfInBounds_toArray, List.set_cons_zero, List.set_cons_succ]
  refine takeH (i := 14) 65 (v := .bool false) rfl rfl (by kernel_rfl) (by kernel_rfl) (by kernel_rfl) (fun _ _ _ h => h) (Or.inl ⟨by rfl, ?_⟩) (by assumption) ?_
  · intro w' hSw'
    go_simp
  simp only [Act.put, List.setIfInBounds_toArray, List.set_cons_zero, List.set_cons_succ]
  refine takeH (i := 15) 66 (v := .agg #[.int .i64 gen, .int .i64 next, .int .i64 log, .int .i64 seq, .slice p n c]) rfl rfl (by kernel_rfl) (by kernel_rfl) (by kernel_rfl) (fun _ _ _ h => h) (Or.inl ⟨by rfl, ?_⟩) (by assumption) ?_
  · intro w' hSw'
    obtain ⟨y0, y1, y2, y3, y4⟩ := CX8.out w' hSw'
    go_simp
  simp only [Act.put, List.setIfInBounds_toArray, List.set_cons_zero, List.set_cons_succ]
  refine takeH (i := 17) 68 (v := .int .i64 lev) rfl rfl (by kernel_rfl) (by kernel_rfl) (by kernel_rfl) (fun _ _ _ h => h) (Or.inl ⟨by rfl, ?_⟩) (by assumption) ?_
  · intro w' hSw'
    go_simp
  simp only [Act.put, List.setIfInBounds_toArray, List.set_cons_zero, List.set_cons_succ]
  refine takeH (i := 20) 71 (v := .agg #[.int .i64 gen, .int .i64 next, .int .i64 log, .int .i64 seq, .slice p n c]) rfl rfl (by kernel_rfl) (by kernel_rfl) (by kernel_rfl) (fun _ _ _ h => h) (Or.inl ⟨by rfl, ?_⟩) (by assumption) ?_
  · intro w' hSw'
    obtain ⟨y0, y1, y2, y3, y4⟩ := CX8.out w' hSw'
    go_simp
  simp only [Act.put, List.setIfInBounds_toArray, List.set_cons_zero, List.set_cons_succ]
  refine takeH (i := 21) 72 (v := .int .i64 lev) rfl rfl (by kernel_rfl) (by kernel_rfl) (by kernel_rfl) (fun _ _ _ h => h) (Or.inl ⟨by rfl, ?_⟩) (by assumption) ?_
  · intro w' hSw'
    go_simp
  simp only [Act.put, List.setIfInBounds_toArray, List.set_cons_zero, List.set_cons_succ]
  refine wpAnyH_ready (rs := [16]) (by kernel_rfl) (by simp) ?_
  refine AllReadyH.cons rfl (fun K hK => ?_) AllReadyH.nil
  go_simp
  refine (MI8.out w10 b10.out).mono ?_
  rintro e w11 ⟨yp1, yc1, ygen1, ynext1, ylog1, yseq1, rfl, hy, hyv, hb⟩
  have b11 := keep hb
  have Y11 := keep hy
  have YV11 := keep hyv
  clear hb hy hyv
  go_wp2_with fail
  refine hK.out _ _ (b11.out) (fun hZ3 => ?_)
  clear hK K
  refine wpAnyH_ready (rs := [18]) (by kernel_rfl) (by simp) ?_
  refine AllReadyH.cons rfl (fun K hK => ?_) AllReadyH.nil
  go_simp
  refine (LE.out _ _ _ _ _ _ w11 Y11.out YV11.out b11.out).mono ?_
  rintro e w12 ⟨la, lc, ls, rfl, hl, hlv, hb⟩
  have b12 := keep hb
  have S12 := keep hl
  have V12 := keep hlv
  clear hb hl hlv
  go_wp2_with fail
  refine hK.out _ _ (b12.out) (fun hZ4 => ?_)
  clear hK K
  refine wpAnyH_ready (rs := [19]) (by kernel_rfl) (by simp) ?_
  refine AllReadyH.cons rfl (fun K hK => ?_) AllReadyH.nil
  go_simp
  refine (NO.out la lc ls w12 S12.out b12.out).mono ?_
  rintro e w13 ⟨na, nc, rfl, hs, hb⟩
  have b13 := keep hb
  have S13 := keep hs
  clear hb hs
  go_wp2_with fail
  refine hK.out _ _ (b13.out) (fun hZ5 => ?_)
  clear hK K
  refine wpAnyH_ready (rs := [0x16]) (by kernel_rfl) (by simp) ?_
  refine AllReadyH.cons rfl (fun K hK => ?_) AllReadyH.nil
  go_simp
  refine (RL.out w13 b13.out).mono ?_
  rintro e wl ⟨ra, rc, rs, rfl, hs, hv, hb⟩
  have bl := keep (b13.out.trans (hb.mono b13.out.size))
  have SR := keep hs
  have SN := keep (S13.out.below metaKind_ok hb)
  have VR := keep hv
  clear hb hs hv
  go_wp2_with fail
  refine hK.out _ _ (bl.out) (fun hZ6 => ?_)
  clear hK K
  refine wpAnyH_ready (rs := [23]) (by kernel_rfl) (by simp) ?_
  refine AllReadyH.cons rfl (fun K hK => ?_) AllReadyH.nil
  go_simp
  refine (SL.out na nc ls ra rc rs wl SN.out SR.out (V12.out.trans VR.out.symm) bl.out).mono ?_
  rintro e w14 ⟨rfl, hb⟩
  have b14 := keep hb
  clear hb
  go_wp2_with fail
  refine hK.out _ _ (b14.out) (fun hZ7 => ?_)
  clear hK K
  refine takeH (i := 24) 75 (v := .bool false) rfl rfl (by kernel_rfl) (by kernel_rfl) (by kernel_rfl) (fun _ _ _ h => h) (Or.inl ⟨by rfl, ?_⟩) (by assumption) ?_
  · intro w' hSw'
    go_simp
  simp only [Act.put, List.setIfInBounds_toArray, List.set_cons_zero, List.set_cons_succ]
  refine takeH (i := 25) 76 (v := .bool false) rfl rfl (by kernel_rfl) (by kernel_rfl) (by kernel_rfl) (fun _ _ _ h => h) (Or.inl ⟨by rfl, ?_⟩) (by assumption) ?_
  · intro w' hSw'
    go_simp
  simp only [Act.put, List.setIfInBounds_toArray, List.set_cons_zero, List.set_cons_succ]
  refine wpAnyH_done (by kernel_rfl) ?_ _
  have W14 := keep (B8.out.trans (b14.out.mono B8.out.size))
  have L14 := keep (L8.out.trans (b14.out.mono L8.out.size))
  obtain ⟨FN, hFN⟩ : ∃ FN, (Ed.find V.tabs key).length = FN := ⟨_, rfl⟩
  have hFNb : FN ≤ 200 := by
    rw [← hFN, VT.out]
    unfold Ed.find
    have h1 := List.length_filter_le (fun m : Nt => Ed.spans m key) (es.map (·.m))
    rw [List.length_map, HL.out] at h1
    rw [List.length_map]
    omega
  obtain ⟨k0, k1, k2, k3, k4⟩ := CX.out w14 L14.out
  clear TH SM MI8 LE NO RL SL hE1 hE2 CZ8 CU
  go_wp2_with fail
  refine (MI.out w14 L14.out).mono ?_
  rintro e w15 ⟨yp, yc, ygen, ynext, ylog, yseq, rfl, hy, hyv, hb15⟩
  have L15 := keep (L14.out.trans (hb15.mono L14.out.size))
  have B15 := keep (W14.out.trans (hb15.mono W14.out.size))
  have FA := keep (find_any ⟨yp, n, yc, ygen, ynext, ylog, yseq, es⟩ kp K kc key w15 hy (SK.out.below B15.out) (show n ≤ 1000000 by omega))
  rw [hyv, hFN] at FA
  unfold VV.val at FA
  simp only at FA
  clear hy hyv hb15 k0 k1 k2 k3 k4
  go_wp2_with fail
  refine FA.out.mono ?_
  rintro e w16 ⟨v16, rfl, ho16, hb16⟩
  have L16 := keep (L15.out.trans (hb16.mono L15.out.size))
  have B16 := keep (B15.out.trans (hb16.mono B15.out.size))
  obtain ⟨fa, fc, rfl⟩ := own_sliceM ho16
  have O16 := keep ho16
  have FB := keep (rfind_any ⟨p, n, c, gen, next, log, seq, es⟩ kp K kc key w16 (SX.out.below metaKind_ok B16.out) (SK.out.below B16.out) (show n ≤ 1000000 by omega) HKB.out NX.out)
  rw [HV.out, hFN] at FB
  unfold VV.val at FB
  simp only at FB
  obtain ⟨k0, k1, k2, k3, k4⟩ := CX.out w16 L16.out
  clear ho16 hb16 FA
  go_wp2_with fail
  refine FB.out.mono ?_
  rintro e w17 ⟨v17, rfl, ho17, hb17⟩
  have B17 := keep (B16.out.trans (hb17.mono B16.out.size))
  obtain ⟨ga, gc, rfl⟩ := own_sliceM ho17
  have O17 := keep ho17
  have O16' := keep (own_block (w' := w17) O16.out (fun g hg => hb17.block g (own_size O16.out hg)))
  have HFN := keep hFN
  clear ho17 hb17 FB k0 k1 k2 k3 k4 hFN
  have fb1 : (FN : Int) ≤ 200 := by omega
  go_wp2
  go_loopw [18] (fun i wr => ∃ k : Nat, k ≤ FN ∧ i = .int .i64 (k : Int) ∧ Hid (Below w17.heap.size w17 wr)) (fun i _ => FN - (intOf i).toNat)
  case atStart => exact ⟨0, Nat.zero_le _, rfl, Below.refl _ _⟩
  case round =>
    obtain ⟨k, hk, rfl, hB⟩ := hrel
    by_cases hkn : k < FN
    · obtain ⟨f, hf⟩ : ∃ f, (Ed.find V.tabs key)[k]? = some f := ⟨(Ed.find V.tabs key)[k]'(by rw [HFN.out]; exact hkn), List.getElem?_eq_getElem _⟩
      have P1 := own_block (w' := wr) O16'.out (fun g hg => hB.out.block g (own_size O16'.out hg))
      have P2 := own_block (w' := wr) O17.out (fun g hg => hB.out.block g (own_size O17.out hg))
      obtain ⟨g1, hg1⟩ : ∃ g1, fa = some ⟨g1, 0, none⟩ := by
        rcases P1.2 with ⟨h1, h2⟩ | ⟨g, cap, cur, e, _⟩
        · omega
        · cases e; exact ⟨g, rfl⟩
      obtain ⟨g2, hg2⟩ : ∃ g2, ga = some ⟨g2, 0, none⟩ := by
        rcases P2.2 with ⟨h1, h2⟩ | ⟨g, cap, cur, e, _⟩
        · omega
        · cases e; exact ⟨g, rfl⟩
      subst hg1 hg2
      have cf : wr.cell? ⟨g1, k, none⟩ = some (.int .i64 f) := by
        have := P1.cells rfl k (.int .i64 f) (by rw [List.getElem?_map, hf]; rfl)
        rwa [Addr.add_mid, Nat.zero_add] at this
      have cg : wr.cell? ⟨g2, k, none⟩ = some (.int .i64 f) := by
        have := P2.cells rfl k (.int .i64 f) (by rw [List.getElem?_map, hf]; rfl)
        rwa [Addr.add_mid, Nat.zero_add] at this
      have CF : Hid (∀ w', Below wr.heap.size wr w' → w'.cell? ⟨g1, k, none⟩ = some (.int .i64 f) ∧ w'.cell? ⟨g2, k, none⟩ = some (.int .i64 f)) := fun w' hb => ⟨belowE hb cf, belowE hb cg⟩
      have m0 : (0 : Int) ≤ (k : Int) := by omega
      have m1 : (k : Int) < (FN : Int) := by omega
      clear hf P1 P2 cf cg
      go_wp2_with fail
      refine wp_region_held_drew (S := fun w' => Below wr.heap.size wr w') (by kernel_rfl) ((Below.refl _ _).drew) (fun hZ => ?_)
      refine takeH (i := 0) 95 (v := .slice (some ⟨g1, 0, none⟩) FN fc) rfl rfl (by kernel_rfl) (by kernel_rfl) (by kernel_rfl) (fun _ _ _ h => h) (Or.inl ⟨by rfl, ?_⟩) (by assumption) ?_
      · intro w' hSw'
        go_simp
      simp only [Act.put, List.setIfInBounds_toArray, List.set_cons_zero, List.set_cons_succ]
      refine takeH (i := 1) 96 (v := .int .i64 (k : Int)) rfl rfl (by kernel_rfl) (by kernel_rfl) (by kernel_rfl) (fun _ _ _ h => h) (Or.inl ⟨by rfl, ?_⟩) (by assumption) ?_
      · intro w' hSw'
        go_simp
      simp only [Act.put, List.setIfInBounds_toArray, List.set_cons_zero, List.set_cons_succ]
      refine takeH (i := 2) 97 (v := .pointer (some ⟨g1, k, none⟩)) rfl rfl (by kernel_rfl) (by kernel_rfl) (by kernel_rfl) (fun _ _ _ h => h) (Or.inl ⟨by rfl, ?_⟩) (by assumption) ?_
      · intro w' hSw'
        go_simp
      simp only [Act.put, List.setIfInBounds_toArray, List.set_cons_zero, List.set_cons_succ]
      refine takeH (i := 3) 98 (v := .int .i64 f) rfl rfl (by kernel_rfl) (by kernel_rfl) (by kernel_rfl) (fun _ _ _ h => h) (Or.inl ⟨by rfl, ?_⟩) (by assumption) ?_
      · intro w' hSw'
        obtain ⟨y0, y1⟩ := CF.out w' hSw'
        go_simp
      simp only [Act.put, List.setIfInBounds_toArray, List.set_cons_zero, List.set_cons_succ]
      refine takeH (i := 4) 99 (v := .slice (some ⟨g2, 0, none⟩) FN gc) rfl rfl (by kernel_rfl) (by kernel_rfl) (by kernel_rfl) (fun _ _ _ h => h) (Or.inl ⟨by rfl, ?_⟩) (by assumption) ?_
      · intro w' hSw'
        go_simp
      simp only [Act.put, List.setIfInBounds_toArray, List.set_cons_zero, List.set_cons_succ]
      refine takeH (i := 5) 100 (v := .int .i64 (k : Int)) rfl rfl (by kernel_rfl) (by kernel_rfl) (by kernel_rfl) (fun _ _ _ h => h) (Or.inl ⟨by rfl, ?_⟩) (by assumption) ?_
      · intro w' hSw'
        go_simp
      simp only [Act.put, List.setIfInBounds_toArray, List.set_cons_zero, List.set_cons_succ]
      refine takeH (i := 6) 101 (v := .pointer (some ⟨g2, k, none⟩)) rfl rfl (by kernel_rfl) (by kernel_rfl) (by kernel_rfl) (fun _ _ _ h => h) (Or.inl ⟨by rfl, ?_⟩) (by assumption) ?_
      · intro w' hSw'
        go_simp
      simp only [Act.put, List.setIfInBounds_toArray, List.set_cons_zero, List.set_cons_succ]
      refine takeH (i := 7) 102 (v := .int .i64 f) rfl rfl (by kernel_rfl) (by kernel_rfl) (by kernel_rfl) (fun _ _ _ h => h) (Or.inl ⟨by rfl, ?_⟩) (by assumption) ?_
      · intro w' hSw'
        obtain ⟨y0, y1⟩ := CF.out w' hSw'
        go_simp
      simp only [Act.put, List.setIfInBounds_toArray, List.set_cons_zero, List.set_cons_succ]
      refine takeH (i := 8) 103 (v := .bool false) rfl rfl (by kernel_rfl) (by kernel_rfl) (by kernel_rfl) (fun _ _ _ h => h) (Or.inl ⟨by rfl, ?_⟩) (by assumption) ?_
      · intro w' hSw'
        go_simp
      simp only [Act.put, List.setIfInBounds_toArray, List.set_cons_zero, List.set_cons_succ]
      refine wpAnyH_done (by kernel_rfl) ?_ _
      have BF := keep (hB.out.trans ((Below.refl wr.heap.size wr).drew.mono hB.out.size))
      go_wp2
      go_roundw
      case rel => exact ⟨k + 1, by omega, by go_num, BF.out⟩
      case measure => simp [intOf]; omega
    · obtain rfl : k = FN := by omega
      go_wp2
      go_ret
      exact ⟨rfl, B17.out.trans (hB.out.mono B17.out.size)⟩
end Go.Proofs.Ytbahldabcieiaaa
