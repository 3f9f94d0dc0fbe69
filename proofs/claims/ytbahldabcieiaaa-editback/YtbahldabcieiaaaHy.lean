/- EditBack's walk. -/
import Derived.Test.YtbahldabcieiaaaHz
import Derived.Test.YtbahldabcieiaaaRq1
import Derived.Test.YtbahldabcieiaaaRq5
import Derived.Test.YtbahldabcieiaaaHo
import Derived.Test.YtbahldabcieiaaaHjt
namespace Go.Proofs.Ytbahldabcieiaaa
open Go.RowKit
open Ed (Nt)

theorem and_mask (n : Int) (k : Nat) (hk : k < 4611686018427387904) : ∃ q : Nat, q ≤ k ∧ bits .and .i64 n (k : Int) = (q : Int) := by
  have hb : (BitVec.ofInt 64 (k : Int)).toNat = k := ofInt_u64 k (by omega)
  have h : ((BitVec.ofInt 64 n) &&& (BitVec.ofInt 64 (k : Int))).toNat ≤ k := by
    rw [BitVec.toNat_and, hb]
    exact Nat.and_le_right
  refine ⟨((BitVec.ofInt 64 n) &&& (BitVec.ofInt 64 (k : Int))).toNat, h, ?_⟩
  show IntKind.i64.wrap (((BitVec.ofInt 64 n) &&& (BitVec.ofInt 64 (k : Int))).toNat : Int) = _
  exact wrap_small _ (by omega) (by omega)
theorem ver_len {v : Ed.Ver} (h : Ed.chk v = true) : 0 < (Ed.verB v).length ∧ (Ed.verB v).length ≤ 1000000 := by
  obtain ⟨_, _, _, _, hno⟩ := Ed.chk_parts h
  have h1 := Ed.notes_len hno
  have h2 := Ed.notesB_len (l := v.tabs) (fun m hm => Ed.may_keys (Ed.notes_may hno hm).1)
  have h3 := Ed.numsB_len [v.gen, v.next, v.log, v.seq, (v.tabs.length : Int)]
  have h4 : 0 < (Ed.numsB [v.gen, v.next, v.log, v.seq, (v.tabs.length : Int)]).length := by
    have h5 := num_pos (cl v.gen)
    unfold Ed.numsB
    simp only [List.flatMap_cons, List.length_append]
    omega
  unfold Ed.verB
  rw [List.length_append]
  simp only [List.length_cons, List.length_nil] at h3
  omega
set_option maxHeartbeats 3000000 in
set_option maxRecDepth 100000 in
theorem back_walk (x : VV) (at_ : Int) (w : World) (hx : VV.held w x) (hnear : Near x.n x.es) :
    Calls Try.prog 4 #[x.val, .int .i64 at_] w fun e w' => e = .returned (.bool true) ∧ Below w.heap.size w w' := by
  obtain ⟨i0, hi, hz0, hz1, hz2⟩ := info_parts info5
  obtain ⟨p, n, c, gen, next, log, seq, es⟩ := x
  have SX : Hid (RSrc metaKind w p n c es) := hx
  have NR : Hid (n ≤ 1954687338268) := hnear.1
  have HL : Hid (es.length = n) := hx.len
  clear hnear hx
  unfold VV.val
  simp only
  obtain ⟨W1, hW1⟩ : ∃ W1, w.alloc (.cells #[.int .i64 gen, .int .i64 next, .int .i64 log, .int .i64 seq, .slice p n c] 24) = W1 := ⟨_, rfl⟩
  have b1 : Hid (Below w.heap.size w W1) := by rw [← hW1]; exact (Below.refl _ _).alloc (Nat.le_refl _) _
  have g1 : Hid (W1.heap[w.heap.size]? = some (.cells #[.int .i64 gen, .int .i64 next, .int .i64 log, .int .i64 seq, .slice p n c] 24)) := by rw [← hW1]; exact heap_alloc_new w _
  have CX : Hid (∀ w', Below W1.heap.size W1 w' → w'.cell? ⟨w.heap.size, 0, none⟩ = some (.int .i64 gen) ∧ w'.cell? ⟨w.heap.size, 1, none⟩ = some (.int .i64 next) ∧ w'.cell? ⟨w.heap.size, 2, none⟩ = some (.int .i64 log) ∧ w'.cell? ⟨w.heap.size, 3, none⟩ = some (.int .i64 seq) ∧ w'.cell? ⟨w.heap.size, 4, none⟩ = some (.slice p n c)) := fun w' hb => ⟨belowE hb (cell_of_row _ _ _ _ _ _ g1.out), belowE hb (cell_of_row _ _ _ _ _ _ g1.out), belowE hb (cell_of_row _ _ _ _ _ _ g1.out), belowE hb (cell_of_row _ _ _ _ _ _ g1.out), belowE hb (cell_of_row _ _ _ _ _ _ g1.out)⟩
  have AW := keep (awake_any W1)
  have MI : Hid (∀ w', Below W1.heap.size W1 w' → _) := fun w' hb => mine_any ⟨p, n, c, gen, next, log, seq, es⟩ w' (SX.out.below metaKind_ok (b1.out.trans (hb.mono b1.out.size))) NR.out
  unfold VV.val at MI
  simp only at MI
  obtain ⟨V, hV⟩ : ∃ V : Ed.Ver, VV.v ⟨p, n, c, gen, next, log, seq, es⟩ = V := ⟨_, rfl⟩
  have HV := keep hV
  rw [hV] at MI
  clear hV
  go_enter Try.func4, Try.ntmps4
  go_wp2_with fail
  refine AW.out.mono ?_
  rintro e w2 ⟨rfl, hb2⟩
  have L2 := keep hb2
  obtain ⟨c0, c1, c2, c3, c4⟩ := CX.out w2 hb2
  clear hb2 AW hW1
  go_wp2_with fail
  refine (MI.out w2 L2.out).mono ?_
  rintro e w3 ⟨y, rfl, hy, hyv, hyn, hye, hb3⟩
  have L3 := keep (L2.out.trans (hb3.mono L2.out.size))
  have EN := keep (encode_any y w3 hy)
  rw [hyv] at EN
  obtain ⟨yp, yn, yc, ygen, ynext, ylog, yseq, yes⟩ := y
  have E1 : n = yn := hyn.symm
  subst E1
  unfold EncA VV.val at EN
  simp only at EN
  simp only
  clear hy hyv hyn hye hb3 c0 c1 c2 c3 c4
  cases hck : Ed.chk V with
  | false =>
    have e1 : chkN V = 1 := by unfold chkN; rw [hck]; rfl
    rw [e1] at EN
    clear e1 hck
    go_wp2_with fail
    refine EN.out.mono ?_
    rintro e w4 ⟨a4, m4, d4, l4, rfl, hs4, hl4, hb4⟩
    have B4 := keep (b1.out.trans ((L3.out.trans (hb4.mono L3.out.size)).mono b1.out.size))
    clear hs4 hl4 hb4 EN
    go_wp2
    go_ret
    exact ⟨rfl, B4.out⟩
  | true =>
    have e1 : chkN V = 0 := by unfold chkN; rw [hck]; rfl
    rw [e1, hck, if_pos rfl] at EN
    have HCK := keep hck
    clear e1 hck
    go_wp2_with fail
    refine EN.out.mono ?_
    rintro e w4 ⟨a4, N, d4, l4, rfl, hs4, rfl, hb4⟩
    have L4 := keep (L3.out.trans (hb4.mono L3.out.size))
    have B4 := keep (b1.out.trans (L4.out.mono b1.out.size))
    obtain ⟨vl0, vl1⟩ := ver_len HCK.out
    have hNl := hs4.len
    rw [hNl] at vl0 vl1
    have S4 := keep hs4
    have HN := keep hNl
    cases a4 with
    | none => have := (hs4.nil rfl).1; omega
    | some ad =>
    have LT : Hid (ad.block < w4.heap.size) := src_lt hs4 vl0
    have hcap := hs4.cap
    have IV := Ed.isVer_put HCK.out
    have D1 := keep (decode_any (some ad) N d4 (Ed.verB V) w4 hs4 (fun a h => by cases h; exact LT.out) (by omega))
    unfold DecA at D1
    rw [IV.1, IV.2, if_pos rfl, if_pos rfl] at D1
    have n0 : ((N : Int) == 0) = false := by simp; omega
    have nn0 : ¬ N = 0 := by omega
    clear hs4 hb4 EN hNl IV
    go_wp2_with fail
    refine D1.out.mono ?_
    rintro e w5 ⟨⟨z, rfl, hz, hzv⟩, hb5⟩
    have HZ := keep hz
    have HZV := keep hzv
    have L5 := keep (L4.out.trans (hb5.mono L4.out.size))
    have Q5 := keep hb5
    obtain ⟨zp, zn, zc, zgen, znext, zlog, zseq, zes⟩ := z
    unfold VV.val
    simp only
    obtain ⟨W6, hW6⟩ : ∃ W6, w5.alloc (.cells #[.int .i64 zgen, .int .i64 znext, .int .i64 zlog, .int .i64 zseq, .slice zp zn zc] 30) = W6 := ⟨_, rfl⟩
    have b6 : Hid (Below w5.heap.size w5 W6) := by rw [← hW6]; exact (Below.refl _ _).alloc (Nat.le_refl _) _
    have g6 : Hid (W6.heap[w5.heap.size]? = some (.cells #[.int .i64 zgen, .int .i64 znext, .int .i64 zlog, .int .i64 zseq, .slice zp zn zc] 30)) := by rw [← hW6]; exact heap_alloc_new w5 _
    have L6 := keep (L5.out.trans (b6.out.mono L5.out.size))
    have Q6 := keep (Q5.out.trans (b6.out.mono Q5.out.size))
    have S6 := keep (S4.out.below Q6.out)
    obtain ⟨q, hq, hqe⟩ := and_mask at_ 1048575 (by decide)
    have hqe' : bits .and .i64 at_ 1048575 = (q : Int) := hqe
    obtain ⟨k, hk⟩ : ∃ k, q % N = k := ⟨_, rfl⟩
    have hkN : k < N := by rw [← hk]; exact Nat.mod_lt _ (by omega)
    have hmod : (q : Int).tmod (N : Int) = (k : Int) := by rw [Int.tmod_eq_emod_of_nonneg (by omega), ← hk]; rfl
    have hmod2 : (q : Int) % (N : Int) = (k : Int) := by rw [← hk]; rfl
    have D2 := keep (decode_any (some ad) k d4 ((Ed.verB V).take k) W6 (S6.out.head k (by omega)) (fun a h => by cases h; exact Nat.lt_of_lt_of_le LT.out Q6.out.size) (by omega))
    unfold DecA at D2
    rw [Ed.isVer_cut HCK.out (by rw [HN.out]; exact hkN), if_neg (by decide), if_neg (by decide)] at D2
    have j0 : (0 : Int) ≤ (k : Int) := by omega
    have j1 : (k : Int) ≤ (N : Int) := by omega
    have j2 : (k : Int) ≤ (d4 : Int) := by omega
    have j3 : (k : Int) < (N : Int) := by omega
    have j4 : ¬ (N : Int) = 0 := by omega
    clear hz hzv hb5 D1 hqe hk hq
    go_wp2_with fail
    refine D2.out.mono ?_
    rintro e w7 ⟨⟨u, rfl, hu, huv⟩, hb7⟩
    have L7 := keep (L6.out.trans (hb7.mono L6.out.size))
    have R7 := keep hb7
    have S7 := keep (S6.out.below hb7)
    obtain ⟨up, un, uc, ugen, unext, ulog, useq, ues⟩ := u
    unfold VV.val
    simp only
    obtain ⟨W8, hW8⟩ : ∃ W8, w7.alloc (.cells #[.int .i64 ugen, .int .i64 unext, .int .i64 ulog, .int .i64 useq, .slice up un uc] 30) = W8 := ⟨_, rfl⟩
    have b8 : Hid (Below w7.heap.size w7 W8) := by rw [← hW8]; exact (Below.refl _ _).alloc (Nat.le_refl _) _
    have L8 := keep (L7.out.trans (b8.out.mono L7.out.size))
    have R8 := keep (R7.out.trans (b8.out.mono R7.out.size))
    have S8 := keep (S7.out.below b8.out)
    clear hu huv hb7 D2 hW6 hqe' hmod hmod2
    go_wp2_with (first
      | (at_builtin; go_loud (refine wpList_append_src rfl _ _ 26 rfl W8.heap.size i0 _ Try.underlying26 hi hz0 hz1 hz2 rfl _ N (Ed.verB V) rfl (by exact O4.out.alloc _) _ 1 1 [0] rfl (Src.built _ 0) (by omega) (le_alloc b4.out.size _) ?_); intro v5 w10 ho5 hg5; have O5 := keep ho5; have b5 := keep ((b4.out.alloc b4.out.size _).grown hg5 (le_alloc b4.out.size _) (fun j hj => (O4.out.lt j hj).1)); clear ho5 hg5)
      | (at_builtin; go_loud (refine wpList_append_src rfl _ _ 26 rfl W8.heap.size i0 _ Try.underlying26 hi hz0 hz1 hz2 rfl _ 0 [] rfl (own_emptyS (t := 5) (k := 1) (Nat.le_refl _)) _ N d4 (Ed.verB V) rfl (S8.out.below ((Below.refl _ _).alloc (Nat.le_refl _) _)) (by omega) (le_alloc (Nat.le_refl _) _) ?_); intro v4 w9 ho4 hg4; have O4 := keep ho4; have b4 := keep (((Below.refl _ W8).alloc (Nat.le_refl _) _).grown hg4 (le_alloc (Nat.le_refl _) _) (fun j hj => by cases hj; exact Nat.le_refl _)); rw [Nat.zero_add, List.nil_append] at O4; clear ho4 hg4))
    obtain ⟨a5, k5, rfl, hs5, _⟩ := Src.of_own O5.out
    have L10 := keep (L8.out.trans (b5.out.mono L8.out.size))
    have R10 := keep (R8.out.trans (b5.out.mono R8.out.size))
    have D3 := keep (decode_any a5 (N + 1) k5 (Ed.verB V ++ [0]) w10 hs5 (fun a h => by cases h; exact src_lt hs5 (by omega)) (by omega))
    unfold DecA at D3
    rw [Ed.isVer_more HCK.out (by decide), if_neg (by decide), if_neg (by decide)] at D3
    clear hs5
    refine D3.out.mono ?_
    rintro e w11 ⟨⟨t, rfl, ht, htv⟩, hb11⟩
    have L11 := keep (L10.out.trans (hb11.mono L10.out.size))
    have R11 := keep (R10.out.trans (hb11.mono R10.out.size))
    obtain ⟨tp, tn, tc, tgen, tnext, tlog, tseq, tes⟩ := t
    unfold VV.val
    simp only
    obtain ⟨Wc, hWc⟩ : ∃ Wc, w11.alloc (.cells #[.int .i64 tgen, .int .i64 tnext, .int .i64 tlog, .int .i64 tseq, .slice tp tn tc] 30) = Wc := ⟨_, rfl⟩
    have bc : Hid (Below w11.heap.size w11 Wc) := by rw [← hWc]; exact (Below.refl _ _).alloc (Nat.le_refl _) _
    have Lc := keep (L11.out.trans (bc.out.mono L11.out.size))
    have Rc := keep (R11.out.trans (bc.out.mono R11.out.size))
    have Bc := keep (b1.out.trans (Lc.out.mono b1.out.size))
    obtain ⟨E1, hE1⟩ : ∃ E1, w5.heap.size = E1 := ⟨_, rfl⟩
    rw [hE1] at g6
    have CZ8 : Hid (∀ w', Below Wc.heap.size Wc w' → w'.cell? ⟨E1, 0, none⟩ = some (.int .i64 zgen) ∧ w'.cell? ⟨E1, 1, none⟩ = some (.int .i64 znext) ∧ w'.cell? ⟨E1, 2, none⟩ = some (.int .i64 zlog) ∧ w'.cell? ⟨E1, 3, none⟩ = some (.int .i64 zseq) ∧ w'.cell? ⟨E1, 4, none⟩ = some (.slice zp zn zc)) := fun w' hb => by
      have h := Rc.out.trans (hb.mono Rc.out.size)
      exact ⟨belowE h (cell_of_row _ _ _ _ _ _ g6.out), belowE h (cell_of_row _ _ _ _ _ _ g6.out), belowE h (cell_of_row _ _ _ _ _ _ g6.out), belowE h (cell_of_row _ _ _ _ _ _ g6.out), belowE h (cell_of_row _ _ _ _ _ _ g6.out)⟩
    have CX8 : Hid (∀ w', Below Wc.heap.size Wc w' → _) := fun w' hb => CX.out w' (Lc.out.trans (hb.mono Lc.out.size))
    have TL : Hid (zn ≤ 1000000) := by
      have h1 := congrArg (fun v => v.tabs.length) HZV.out
      have h2 : zes.length = zn := RSrc.len HZ.out
      have h3 : zes.length = V.tabs.length := by rw [← List.length_map (f := (·.m))]; exact h1
      have h4 := Ed.notes_len (Ed.chk_parts HCK.out).2.2.2.2
      show _ ≤ _
      omega
    have TH : Hid (∀ w', Below Wc.heap.size Wc w' → Calls Try.prog 11 #[.agg #[.int .i64 zgen, .int .i64 znext, .int .i64 zlog, .int .i64 zseq, .slice zp zn zc]] w' fun e w'' => ∃ sp sn sc sgen snext slog sseq ses, e = .returned (.agg #[.int .i64 sgen, .int .i64 snext, .int .i64 slog, .int .i64 sseq, .slice sp sn sc]) ∧ VV.held w'' ⟨sp, sn, sc, sgen, snext, slog, sseq, ses⟩ ∧ VV.v ⟨sp, sn, sc, sgen, snext, slog, sseq, ses⟩ = V ∧ sn = zn ∧ Below Wc.heap.size Wc w'') := fun w' hb => by
      refine (theirs_any ⟨zp, zn, zc, zgen, znext, zlog, zseq, zes⟩ w' (((HZ.out.below b6.out).below Rc.out).below hb) (Nat.le_trans TL.out (by decide))).mono ?_
      rintro e w'' ⟨y, rfl, hy, hyv, hyn, _, hb'⟩
      obtain ⟨sp, sn, sc, sgen, snext, slog, sseq, ses⟩ := y
      exact ⟨sp, sn, sc, sgen, snext, slog, sseq, ses, rfl, hy, hyv.trans HZV.out, hyn, hb.trans (hb'.mono hb.size)⟩
    have SM : Hid (∀ sp sn sc sgen snext slog sseq ses w', VV.held w' ⟨sp, sn, sc, sgen, snext, slog, sseq, ses⟩ → VV.v ⟨sp, sn, sc, sgen, snext, slog, sseq, ses⟩ = V → sn = zn → Below Wc.heap.size Wc w' → Calls Try.prog 10 #[.agg #[.int .i64 sgen, .int .i64 snext, .int .i64 slog, .int .i64 sseq, .slice sp sn sc], .agg #[.int .i64 gen, .int .i64 next, .int .i64 log, .int .i64 seq, .slice p n c]] w' fun e w'' => e = .returned (.bool true) ∧ Below Wc.heap.size Wc w'') := fun sp sn sc sgen snext slog sseq ses w' ht htv hsn hb => by
      refine (rsame_yes ⟨sp, sn, sc, sgen, snext, slog, sseq, ses⟩ ⟨p, n, c, gen, next, log, seq, es⟩ w' ht (SX.out.below metaKind_ok (Bc.out.trans (hb.mono Bc.out.size))) (htv.trans HV.out.symm) (by show sn ≤ _; have := TL.out; omega)).mono ?_
      rintro e w'' ⟨rfl, hb'⟩
      exact ⟨rfl, hb.trans (hb'.mono hb.size)⟩
    clear ht htv hb11 D3
    go_wp2_with fail
    refine wp_region_held_drew (S := fun w' => Below Wc.heap.size Wc w') (by kernel_rfl) ((Below.refl _ _).drew) (fun hZ => ?_)
    refine takeH (i := 0) 58 (v := .bool true) rfl rfl (by kernel_rfl) (by kernel_rfl) (by kernel_rfl) (fun _ _ _ h => h) (Or.inl ⟨by rfl, ?_⟩) (by assumption) ?_
    · intro w' hSw'
      go_simp
    simp only [Act.put, List.setIfInBounds_toArray, List.set_cons_zero, List.set_cons_succ]
    refine takeH (i := 1) 59 (v := .bool true) rfl rfl (by kernel_rfl) (by kernel_rfl) (by kernel_rfl) (fun _ _ _ h => h) (Or.inl ⟨by rfl, ?_⟩) (by assumption) ?_
    · intro w' hSw'
      go_simp
    simp only [Act.put, List.setIfInBounds_toArray, List.set_cons_zero, List.set_cons_succ]
    refine takeH (i := 2) 60 (v := .int .i64 0) rfl rfl (by kernel_rfl) (by kernel_rfl) (by kernel_rfl) (fun _ _ _ h => h) (Or.inl ⟨by rfl, ?_⟩) (by assumption) ?_
    · intro w' hSw'
      go_simp
    simp only [Act.put, List.setIfInBounds_toArray, List.set_cons_zero, List.set_cons_succ]
    refine takeH (i := 3) 61 (v := .bool true) rfl rfl (by kernel_rfl) (by kernel_rfl) (by kernel_rfl) (fun _ _ _ h => h) (Or.inl ⟨by rfl, ?_⟩) (by assumption) ?_
    · intro w' hSw'
      go_simp
    simp only [Act.put, List.setIfInBounds_toArray, List.set_cons_zero, List.set_cons_succ]
    refine takeH (i := 4) 62 (v := .bool true) rfl rfl (by kernel_rfl) (by kernel_rfl) (by kernel_rfl) (fun _ _ _ h => h) (Or.inl ⟨by rfl, ?_⟩) (by assumption) ?_
    · intro w' hSw'
      go_simp
    simp only [Act.put, List.setIfInBounds_toArray, List.set_cons_zero, List.set_cons_succ]
    refine takeH (i := 5) 63 (v := .bool true) rfl rfl (by kernel_rfl) (by kernel_rfl) (by kernel_rfl) (fun _ _ _ h => h) (Or.inl ⟨by rfl, ?_⟩) (by assumption) ?_
    · intro w' hSw'
      go_simp
    simp only [Act.put, List.setIfInBounds_toArray, List.set_cons_zero, List.set_cons_succ]
    refine takeH (i := 6) 64 (v := .agg #[.int .i64 zgen, .int .i64 znext, .int .i64 zlog, .int .i64 zseq, .slice zp zn zc]) rfl rfl (by kernel_rfl) (by kernel_rfl) (by kernel_rfl) (fun _ _ _ h => h) (Or.inl ⟨by rfl, ?_⟩) (by assumption) ?_
    · intro w' hSw'
      obtain ⟨y0, y1, y2, y3, y4⟩ := CZ8.out w' hSw'
      go_simp
    simp only [Act.put, List.setIfInBounds_toArray, List.set_cons_zero, List.set_cons_succ]
    refine takeH (i := 8) 66 (v := .agg #[.int .i64 gen, .int .i64 next, .int .i64 log, .int .i64 seq, .slice p n c]) rfl rfl (by kernel_rfl) (by kernel_rfl) (by kernel_rfl) (fun _ _ _ h => h) (Or.inl ⟨by rfl, ?_⟩) (by assumption) ?_
    · intro w' hSw'
      obtain ⟨y0, y1, y2, y3, y4⟩ := CX8.out w' hSw'
      go_simp
    simp only [Act.put, List.setIfInBounds_toArray, List.set_cons_zero, List.set_cons_succ]
    refine wpAnyH_ready (rs := [7]) (by kernel_rfl) (by simp) ?_
    refine AllReadyH.cons rfl (fun K hK => ?_) AllReadyH.nil
    go_simp
    refine (TH.out _ (Below.refl _ _).drew).mono ?_
    rintro e w13 ⟨sp, sn, sc, sgen, snext, slog, sseq, ses, rfl, ht, htv, hsn, hb⟩
    have b13 := keep hb
    have T13 := keep ht
    have TV13 := keep htv
    have TN13 := keep hsn
    clear hb ht htv hsn
    go_wp2_with fail
    refine hK.out _ _ (b13.out) (fun hZ1 => ?_)
    clear hK K
    refine wpAnyH_ready (rs := [9]) (by kernel_rfl) (by simp) ?_
    refine AllReadyH.cons rfl (fun K hK => ?_) AllReadyH.nil
    go_simp
    refine (SM.out _ _ _ _ _ _ _ _ w13 T13.out TV13.out TN13.out b13.out).mono ?_
    rintro e w14 ⟨rfl, hb⟩
    have b14 := keep hb
    clear hb
    go_wp2_with fail
    refine hK.out _ _ (b14.out) (fun hZ2 => ?_)
    clear hK K
    refine takeH (i := 10) 68 (v := .bool true) rfl rfl (by kernel_rfl) (by kernel_rfl) (by kernel_rfl) (fun _ _ _ h => h) (Or.inl ⟨by rfl, ?_⟩) (by assumption) ?_
    · intro w' hSw'
      go_simp
    simp only [Act.put, List.setIfInBounds_toArray, List.set_cons_zero, List.set_cons_succ]
    refine takeH (i := 11) 69 (v := .bool true) rfl rfl (by kernel_rfl) (by kernel_rfl) (by kernel_rfl) (fun _ _ _ h => h) (Or.inl ⟨by rfl, ?_⟩) (by assumption) ?_
    · intro w' hSw'
      go_simp
    simp only [Act.put, List.setIfInBounds_toArray, List.set_cons_zero, List.set_cons_succ]
    refine takeH (i := 12) 70 (v := .int .i64 2) rfl rfl (by kernel_rfl) (by kernel_rfl) (by kernel_rfl) (fun _ _ _ h => h) (Or.inl ⟨by rfl, ?_⟩) (by assumption) ?_
    · intro w' hSw'
      go_simp
    simp only [Act.put, List.setIfInBounds_toArray, List.set_cons_zero, List.set_cons_succ]
    refine takeH (i := 13) 71 (v := .bool true) rfl rfl (by kernel_rfl) (by kernel_rfl) (by kernel_rfl) (fun _ _ _ h => h) (Or.inl ⟨by rfl, ?_⟩) (by assumption) ?_
    · intro w' hSw'
      go_simp
    simp only [Act.put, List.setIfInBounds_toArray, List.set_cons_zero, List.set_cons_succ]
    refine takeH (i := 14) 72 (v := .bool true) rfl rfl (by kernel_rfl) (by kernel_rfl) (by kernel_rfl) (fun _ _ _ h => h) (Or.inl ⟨by rfl, ?_⟩) (by assumption) ?_
    · intro w' hSw'
      go_simp
    simp only [Act.put, List.setIfInBounds_toArray, List.set_cons_zero, List.set_cons_succ]
    refine takeH (i := 15) 73 (v := .bool true) rfl rfl (by kernel_rfl) (by kernel_rfl) (by kernel_rfl) (fun _ _ _ h => h) (Or.inl ⟨by rfl, ?_⟩) (by assumption) ?_
    · intro w' hSw'
      go_simp
    simp only [Act.put, List.setIfInBounds_toArray, List.set_cons_zero, List.set_cons_succ]
    refine takeH (i := 16) 74 (v := .int .i64 2) rfl rfl (by kernel_rfl) (by kernel_rfl) (by kernel_rfl) (fun _ _ _ h => h) (Or.inl ⟨by rfl, ?_⟩) (by assumption) ?_
    · intro w' hSw'
      go_simp
    simp only [Act.put, List.setIfInBounds_toArray, List.set_cons_zero, List.set_cons_succ]
    refine takeH (i := 17) 75 (v := .bool true) rfl rfl (by kernel_rfl) (by kernel_rfl) (by kernel_rfl) (fun _ _ _ h => h) (Or.inl ⟨by rfl, ?_⟩) (by assumption) ?_
    · intro w' hSw'
      go_simp
    simp only [Act.put, List.setIfInBounds_toArray, List.set_cons_zero, List.set_cons_succ]
    refine takeH (i := 18) 76 (v := .bool true) rfl rfl (by kernel_rfl) (by kernel_rfl) (by kernel_rfl) (fun _ _ _ h => h) (Or.inl ⟨by rfl, ?_⟩) (by assumption) ?_
    · intro w' hSw'
      go_simp
    simp only [Act.put, List.setIfInBounds_toArray, List.set_cons_zero, List.set_cons_succ]
    refine takeH (i := 19) 4 (v := .bool true) rfl rfl (by kernel_rfl) (by kernel_rfl) (by kernel_rfl) (fun _ _ _ h => h) (Or.inl ⟨by rfl, ?_⟩) (by assumption) ?_
    · intro w' hSw'
      go_simp
    simp only [Act.put, List.setIfInBounds_toArray, List.set_cons_zero, List.set_cons_succ]
    refine wpAnyH_done (by kernel_rfl) ?_ _
    have BF := keep (Bc.out.trans (b14.out.mono Bc.out.size))
    go_wp2
    go_ret
    exact ⟨rfl, BF.out⟩
end Go.Proofs.Ytbahldabcieiaaa
