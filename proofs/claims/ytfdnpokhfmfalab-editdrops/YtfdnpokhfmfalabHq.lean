/- EditDrops' walk. -/
import Derived.Test.YtfdnpokhfmfalabHm
import Derived.Test.YtfdnpokhfmfalabHq0
import Derived.Test.YtfdnpokhfmfalabHo
namespace Go.Proofs.Ytfdnpokhfmfalab
open Go.RowKit
open Ed (Nt)

set_option maxHeartbeats 8000000 in
set_option maxRecDepth 100000 in
theorem drops_walk (x : VV) (w : World) (hx : VV.held w x) (hnear : Near x.n x.es) :
    Calls Try.prog 3 #[x.val] w fun e w' => e = .returned (.bool true) ∧ Below w.heap.size w w' := by
  obtain ⟨j0, ji, jz0, jz1, jz2⟩ := info_partsM infoInt
  obtain ⟨p, n, c, gen, next, log, seq, es⟩ := x
  have SX : Hid (RSrc metaKind w p n c es) := hx
  have HL : Hid (es.length = n) := hx.len
  have NR : Hid (n ≤ 1954687338268) := hnear.1
  clear hnear
  unfold VV.val
  simp only
  obtain ⟨W1, hW1⟩ : ∃ W1, w.alloc (.cells #[.int .i64 gen, .int .i64 next, .int .i64 log, .int .i64 seq, .slice p n c] 24) = W1 := ⟨_, rfl⟩
  have b1 : Hid (Below w.heap.size w W1) := by rw [← hW1]; exact (Below.refl _ _).alloc (Nat.le_refl _) _
  have g1 : Hid (W1.heap[w.heap.size]? = some (.cells #[.int .i64 gen, .int .i64 next, .int .i64 log, .int .i64 seq, .slice p n c] 24)) := by rw [← hW1]; exact heap_alloc_new w _
  have CX : Hid (∀ w', Below W1.heap.size W1 w' → w'.cell? ⟨w.heap.size, 0, none⟩ = some (.int .i64 gen) ∧ w'.cell? ⟨w.heap.size, 1, none⟩ = some (.int .i64 next) ∧ w'.cell? ⟨w.heap.size, 2, none⟩ = some (.int .i64 log) ∧ w'.cell? ⟨w.heap.size, 3, none⟩ = some (.int .i64 seq) ∧ w'.cell? ⟨w.heap.size, 4, none⟩ = some (.slice p n c)) := fun w' hb => ⟨belowE hb (cell_of_row _ _ _ _ _ _ g1.out), belowE hb (cell_of_row _ _ _ _ _ _ g1.out), belowE hb (cell_of_row _ _ _ _ _ _ g1.out), belowE hb (cell_of_row _ _ _ _ _ _ g1.out), belowE hb (cell_of_row _ _ _ _ _ _ g1.out)⟩
  have AW := keep (awake_any W1)
  go_enter Try.func3, Try.ntmps3
  go_wp2_with fail
  refine AW.out.mono ?_
  rintro e w2 ⟨rfl, hb2⟩
  have L2 := keep hb2
  have B2 := keep (b1.out.trans (hb2.mono b1.out.size))
  obtain ⟨c0, c1, c2, c3, c4⟩ := CX.out w2 hb2
  clear hb2 AW
  have MI : Hid (∀ w', Below W1.heap.size W1 w' → _) := fun w' hb => mine_any ⟨p, n, c, gen, next, log, seq, es⟩ w' (SX.out.below metaKind_ok (b1.out.trans (hb.mono b1.out.size))) NR.out
  unfold VV.val at MI
  simp only at MI
  go_wp2_with fail
  refine (MI.out w2 L2.out).mono ?_
  rintro e w3 ⟨y, rfl, hy, hyv, hyn, hye, hb3⟩
  have HY := keep hy
  have HYV := keep hyv
  have L3 := keep (L2.out.trans (hb3.mono L2.out.size))
  have B3 := keep (B2.out.trans (hb3.mono B2.out.size))
  obtain ⟨V, hV⟩ : ∃ V : Ed.Ver, VV.v ⟨p, n, c, gen, next, log, seq, es⟩ = V := ⟨_, rfl⟩
  have EV : Hid (V.gen = gen ∧ V.next = next ∧ V.log = log ∧ V.seq = seq ∧ V.tabs = es.map (·.m)) := by subst hV; exact ⟨rfl, rfl, rfl, rfl, rfl⟩
  have HV := keep hV
  rw [hV] at hyv
  have CK := keep (vcheck_any y w3 hy)
  rw [hyv] at CK
  obtain ⟨yp, yn, yc, ygen, ynext, ylog, yseq, yes⟩ := y
  have EN : n = yn := hyn.symm
  subst EN
  unfold VV.val at CK
  simp only at CK
  simp only
  clear hy hyv hyn hye hb3 hV c0 c1 c2 c3 c4
  cases hck : Ed.chk V with
  | false =>
    have e1 : chkN V = 1 := by unfold chkN; rw [hck]; rfl
    rw [e1] at CK
    clear hck e1
    go_wp2_with fail
    refine CK.out.mono ?_
    rintro e w4 ⟨rfl, hb4⟩
    have B4 := keep (B3.out.trans (hb4.mono B3.out.size))
    clear hb4
    go_wp2
    go_ret
    exact ⟨rfl, B4.out⟩
  | true =>
    have e1 : chkN V = 0 := by unfold chkN; rw [hck]; rfl
    rw [e1] at CK
    have HCK := keep hck
    clear hck e1
    have hlen := Ed.notes_len (Ed.chk_parts HCK.out).2.2.2.2
    rw [EV.out.2.2.2.2, List.length_map, HL.out] at hlen
    go_wp2_with fail
    refine CK.out.mono ?_
    rintro e w4 ⟨rfl, hb4⟩
    have L4 := keep (L3.out.trans (hb4.mono L3.out.size))
    have B4 := keep (B3.out.trans (hb4.mono B3.out.size))
    obtain ⟨c0, c1, c2, c3, c4⟩ := CX.out w4 L4.out
    clear hb4 CK
    by_cases hg : gen = 1099511627776
    · have q1 : (gen == 1099511627776) = true := beq_iff_eq.2 hg
      have HG := keep hg
      clear hg
      go_wp2
      go_ret
      exact ⟨rfl, B4.out⟩
    · have q1 : (gen == 1099511627776) = false := beq_eq_false_iff_ne.2 hg
      have HG := keep hg
      have YES : Hid (Ed.applies V (Ed.nums V.tabs) [] = true) := Ed.drops_yes HCK.out (by rw [EV.out.1]; exact hg)
      have hgb := Ed.isNum_bounds (Ed.chk_parts HCK.out).1
      rw [EV.out.1] at hgb
      have wg : IntKind.i64.wrap (gen + 1) = gen + 1 := wrap_small _ (by omega) (by omega)
      clear hg hgb hW1
      have NUMS : Hid ((Ed.nums (es.map (·.m))).length = n) := by show _ = _; unfold Ed.nums; rw [List.length_map, List.length_map]; exact HL.out
      have FULL : Hid ((es.map (·.m)).take n = es.map (·.m)) := List.take_of_length_le (by rw [List.length_map, HL.out]; exact Nat.le_refl _)
      go_wp2
      go_loopw [4, 5] (fun v i wr => ∃ k : Nat, k ≤ n ∧ i = .int .i64 (k : Int) ∧ Hid (wr.ownsRow w4.heap.size 3 1 v k ((Ed.nums ((es.map (·.m)).take k)).map (Value.int .i64)) ∧ Below w4.heap.size w4 wr)) (fun _ i _ => n - (intOf i).toNat)
      case atStart => exact ⟨0, Nat.zero_le _, rfl, World.ownsRow_nil _ _ _ _, Below.refl _ _⟩
      case round =>
        clear c0 c1 c2 c3 c4
        obtain ⟨k, hk, rfl, hI⟩ := hrel
        have LB := keep hI.out.2
        have LX := keep (L4.out.trans (LB.out.mono L4.out.size))
        have HB := keep (B4.out.trans (LB.out.mono B4.out.size))
        obtain ⟨c0, c1, c2, c3, c4⟩ := CX.out wr LX.out
        by_cases hkn : k < n
        · obtain ⟨b, off, rfl, _, _⟩ := SX.out.form metaKind_ok (by omega)
          obtain ⟨y, hy⟩ : ∃ y, es[k]? = some y := ⟨es[k]'(by rw [HL.out]; exact hkn), List.getElem?_eq_getElem _⟩
          obtain ⟨p0, p1, p2, p3, p4⟩ := meta_cells (SX.out.below metaKind_ok HB.out) hy
          have HYN : Hid (Ed.nums ((es.map (·.m)).take (k + 1)) = Ed.nums ((es.map (·.m)).take k) ++ [y.m.num]) := nums_more (by rw [List.getElem?_map, hy]; rfl)
          clear hy
          obtain ⟨yfp, yfc, ylp, ylc, ⟨ynum, ylevel, ycount, yfirst, ylast⟩⟩ := y
          simp only at p0 HYN
          have ll : (k : Int) < (n : Int) := by omega
          have l0 : (0 : Int) ≤ (k : Int) := by omega
          clear p1 p2 p3 p4
          go_wp2_with (at_builtin; refine wpList_append_own _ rfl _ _ 32 rfl w4.heap.size 3 j0 (.int .i64 0) 1 8 Try.underlying32 ji jz0 jz1 jz2 rfl (by decide) _ k _ rfl (hI.out.1.alloc _) ⟨wr.heap.size, 0, none⟩ 1 1 [.int .i64 ynum] rfl rfl (cell_one_new _ _ _) (by simp [Value.oneCell']) (by unfold maxLen; omega) (by omega) (le_alloc LB.out.size _) ?_; intro v7 w7 ho7 hg7 hn7; have O7 := keep ho7; have B7 := keep ((LB.out.alloc LB.out.size _).grown hg7 (le_alloc LB.out.size _) (fun j hj => (hI.out.1.lt j hj).1)); clear ho7 hg7 hn7)
          go_roundw
          case rel => exact ⟨k + 1, by omega, by go_num, by rw [HYN.out, List.map_append]; exact O7.out, B7.out⟩
          case measure => simp [intOf]; omega
        · obtain rfl : k = n := by omega
          have O1 := keep hI.out.1
          rw [FULL.out, ← rv_int] at O1
          obtain ⟨rp, rc, erp, hrs, _⟩ := RSrc.own inK_ok O1.out (fun _ _ => trivial)
          have RS := keep hrs
          subst erp
          clear hI hrs
          go_wp2_with fail
          refine (MI.out wr LX.out).mono ?_
          rintro e w5 ⟨z, rfl, hz, hzv, hzn, hze, hb5⟩
          have L5 := keep (LX.out.trans (hb5.mono LX.out.size))
          have B5 := keep (HB.out.trans (hb5.mono HB.out.size))
          have A5 := keep (apply_any z rp k rc (Ed.nums (es.map (·.m))) none 0 0 [] w5 hz (RS.out.below inK_ok hb5) (RSrc.empty (fun _ => rfl)) (by omega) (by omega))
          rw [hzv, HV.out, List.map_nil] at A5
          obtain ⟨zp, zn, zc, zgen, znext, zlog, zseq, zes⟩ := z
          have EZ : k = zn := hzn.symm
          subst EZ
          unfold VV.val at A5
          simp only at A5
          simp only
          clear hz hzv hzn hze hb5 c0 c1 c2 c3 c4
          go_wp2_with fail
          refine A5.out.mono ?_
          rintro e w6 ⟨⟨u, rfl, hu, huv⟩, hb6⟩
          have Y2 := YES.out
          rw [EV.out.2.2.2.2] at Y2
          rw [Y2, if_pos rfl] at huv ⊢
          have HU := keep hu
          have L6 := keep (L5.out.trans (hb6.mono L5.out.size))
          have B6 := keep (B5.out.trans (hb6.mono B5.out.size))
          have TB : Hid (u.es.map (·.m) = []) := by
            have h1 := (VV.isV huv).2.2.2.2
            have h2 := Ed.drops_tabs V
            rw [EV.out.2.2.2.2] at h2
            rw [h2] at h1
            exact h1
          have hun : u.n = 0 := by
            have h2 : u.es.length = u.n := RSrc.len hu
            have h3 := congrArg List.length TB.out
            rw [List.length_map, h2] at h3
            exact h3
          have UV : Hid (u.v.tabs = []) := TB.out
          obtain ⟨up, un, uc, ugen, unext, ulog, useq, ues⟩ := u
          obtain ⟨e1, e2, e3, e4, _⟩ := VV.isV huv
          have E1 : ugen = gen + 1 := e1.trans (by show V.gen + 1 = _; rw [EV.out.1])
          have E2 : next = unext := (e2.trans EV.out.2.1).symm
          have E3 : log = ulog := (e3.trans EV.out.2.2.1).symm
          have E4 : seq = useq := (e4.trans EV.out.2.2.2.1).symm
          have E5 : un = 0 := hun
          subst E1 E2 E3 E4 E5
          unfold VV.val
          simp only
          clear hu huv hb6 hun e1 e2 e3 e4 Y2 A5
          obtain ⟨W7, hW7⟩ : ∃ W7, w6.alloc (.cells #[.int .i64 (gen + 1), .int .i64 next, .int .i64 log, .int .i64 seq, .slice up 0 uc] 30) = W7 := ⟨_, rfl⟩
          have l7 : Hid (Below w6.heap.size w6 W7) := by rw [← hW7]; exact (Below.refl _ _).alloc (Nat.le_refl _) _
          have L7 := keep (L6.out.trans (l7.out.mono L6.out.size))
          have B7 := keep (B6.out.trans (l7.out.mono B6.out.size))
          have g7 : Hid (W7.heap[w6.heap.size]? = some (.cells #[.int .i64 (gen + 1), .int .i64 next, .int .i64 log, .int .i64 seq, .slice up 0 uc] 30)) := by rw [← hW7]; exact heap_alloc_new w6 _
          have CU : Hid (∀ w', Below W7.heap.size W7 w' → w'.cell? ⟨w6.heap.size, 0, none⟩ = some (.int .i64 (gen + 1)) ∧ w'.cell? ⟨w6.heap.size, 1, none⟩ = some (.int .i64 next) ∧ w'.cell? ⟨w6.heap.size, 2, none⟩ = some (.int .i64 log) ∧ w'.cell? ⟨w6.heap.size, 3, none⟩ = some (.int .i64 seq) ∧ w'.cell? ⟨w6.heap.size, 4, none⟩ = some (.slice up 0 uc)) := fun w' hb => ⟨belowE hb (cell_of_row _ _ _ _ _ _ g7.out), belowE hb (cell_of_row _ _ _ _ _ _ g7.out), belowE hb (cell_of_row _ _ _ _ _ _ g7.out), belowE hb (cell_of_row _ _ _ _ _ _ g7.out), belowE hb (cell_of_row _ _ _ _ _ _ g7.out)⟩
          obtain ⟨W8, hW8⟩ : ∃ W8, W7.alloc (.cells #[.int .i64 0] 3) = W8 := ⟨_, rfl⟩
          have l8 : Hid (Below W7.heap.size W7 W8) := by rw [← hW8]; exact (Below.refl _ _).alloc (Nat.le_refl _) _
          have D8 : Hid (RSrc inK W8 (some ⟨W7.heap.size, 0, none⟩) 1 1 [0]) := by rw [← hW8]; exact isrc_new W7 [0] 3
          have A8 := keep (apply_any ⟨up, 0, uc, gen + 1, next, log, seq, ues⟩ (some ⟨W7.heap.size, 0, none⟩) 1 1 [0] none 0 0 [] W8 ((HU.out.below l7.out).below l8.out) D8.out (RSrc.empty (fun _ => rfl)) (by omega) (by omega))
          have NO := keep (Ed.drops_none UV.out)
          unfold VV.val at A8
          simp only at A8
          obtain ⟨d0, d1, d2, d3, d4⟩ := CU.out W7 (Below.refl _ _)
          go_wp2_with fail
          refine A8.out.mono ?_
          rintro e w9 ⟨⟨q, rfl, _, hqv⟩, hb9⟩
          rw [List.map_nil, NO.out, if_neg (by decide)] at hqv ⊢
          have M9 := keep (l8.out.trans (hb9.mono l8.out.size))
          obtain ⟨qp, qn, qc, qgen, qnext, qlog, qseq, qes⟩ := q
          unfold VV.val
          simp only
          clear hqv hb9 A8 hW7 hW8 d0 d1 d2 d3 d4
          obtain ⟨W10, hW10⟩ : ∃ W10, w9.alloc (.cells #[.int .i64 qgen, .int .i64 qnext, .int .i64 qlog, .int .i64 qseq, .slice qp qn qc] 30) = W10 := ⟨_, rfl⟩
          have l10 : Hid (Below w9.heap.size w9 W10) := by rw [← hW10]; exact (Below.refl _ _).alloc (Nat.le_refl _) _
          have M10 := keep (M9.out.trans (l10.out.mono M9.out.size))
          have B10 := keep (B7.out.trans (M10.out.mono B7.out.size))
          obtain ⟨d0, d1, d2, d3, d4⟩ := CU.out W10 M10.out
          obtain ⟨c0, c1, c2, c3, c4⟩ := CX.out W10 (L7.out.trans (M10.out.mono L7.out.size))
          go_wp2
          go_ret
          exact ⟨rfl, B10.out⟩
end Go.Proofs.Ytfdnpokhfmfalab
