/- The walk of the laws' awake. -/
import Derived.Test.YtgdggeacjfhkkaaAv
namespace Go.Proofs.Ytgdggeacjfhkkaa
open Go.RowKit
open Sk (Ent)

set_option maxHeartbeats 8000000 in
set_option maxRecDepth 100000 in
theorem awake_any (w : World) : Calls Try.prog 9 #[] w fun e w' => e = .returned (.bool true) ∧ Below w.heap.size w w' := by
  go_enter Try.func9, Try.ntmps9
  go_wp2_with fail
  refine (awake1_any [97] 5 false w).mono ?_
  rintro e w1 ⟨ya, rfl, hy, hh, hb⟩
  have Ya : Hid (ya.e = Mg.a5) := hy
  have Ha := keep hh
  have Da := keep hb
  clear hy hh hb
  obtain ⟨akp, akc, avp, avc, ⟨akey, aseq, agone, aval⟩⟩ := ya
  unfold ev
  simp only
  go_wp2_with fail
  refine (awake1_any [97] 3 false w1).mono ?_
  rintro e w2 ⟨yb, rfl, hy, hh, hb⟩
  have Yb : Hid (yb.e = Mg.a3) := hy
  have Hb := keep hh
  have Db := keep hb
  clear hy hh hb
  obtain ⟨bkp, bkc, bvp, bvc, ⟨bkey, bseq, bgone, bval⟩⟩ := yb
  unfold ev
  simp only
  go_wp2_with fail
  refine (awake1_any [97] 1 false w2).mono ?_
  rintro e w3 ⟨yc, rfl, hy, hh, hb⟩
  have Yc : Hid (yc.e = Mg.a1) := hy
  have Hc := keep hh
  have Dc := keep hb
  clear hy hh hb
  obtain ⟨ckp, ckc, cvp, cvc, ⟨ckey, cseq, cgone, cval⟩⟩ := yc
  unfold ev
  simp only
  go_wp2_with fail
  refine (awake1_any [98] 4 true w3).mono ?_
  rintro e w4 ⟨yd, rfl, hy, hh, hb⟩
  have Yd : Hid (yd.e = Mg.b4) := hy
  have Hd := keep hh
  have Dd := keep hb
  clear hy hh hb
  obtain ⟨dkp, dkc, dvp, dvc, ⟨dkey, dseq, dgone, dval⟩⟩ := yd
  unfold ev
  simp only
  obtain ⟨W5, hW5⟩ : ∃ W5, w4.alloc (.cells #[.slice akp akey.length akc, .int .i64 aseq, .bool agone, .slice avp aval.length avc, .slice bkp bkey.length bkc, .int .i64 bseq, .bool bgone, .slice bvp bval.length bvc, .slice ckp ckey.length ckc, .int .i64 cseq, .bool cgone, .slice cvp cval.length cvc, .slice dkp dkey.length dkc, .int .i64 dseq, .bool dgone, .slice dvp dval.length dvc] 36) = W5 := ⟨_, rfl⟩
  have b5 : Hid (Below w4.heap.size w4 W5) := by rw [← hW5]; exact (Below.refl _ _).alloc (Nat.le_refl _) _
  have L5 : Hid (RSrc entKind W5 (some ⟨w4.heap.size, 0, none⟩) 4 4 [⟨akp, akc, avp, avc, ⟨akey, aseq, agone, aval⟩⟩, ⟨bkp, bkc, bvp, bvc, ⟨bkey, bseq, bgone, bval⟩⟩, ⟨ckp, ckc, cvp, cvc, ⟨ckey, cseq, cgone, cval⟩⟩, ⟨dkp, dkc, dvp, dvc, ⟨dkey, dseq, dgone, dval⟩⟩]) := by
    rw [← hW5]
    refine ⟨rfl, Nat.le_refl _, (fun e => by cases e), fun ad had j u hu => ?_, fun y hy => ?_⟩
    · cases had
      rw [Addr.add_mid, Nat.zero_add, cell_of_row _ _ _ _ _ _ (heap_alloc_new w4 _)]
      simpa [rv, entKind] using hu
    · have q : Below w4.heap.size w4 (w4.alloc (.cells #[.slice akp akey.length akc, .int .i64 aseq, .bool agone, .slice avp aval.length avc, .slice bkp bkey.length bkc, .int .i64 bseq, .bool bgone, .slice bvp bval.length bvc, .slice ckp ckey.length ckc, .int .i64 cseq, .bool cgone, .slice cvp cval.length cvc, .slice dkp dkey.length dkc, .int .i64 dseq, .bool dgone, .slice dvp dval.length dvc] 36)) := (Below.refl _ _).alloc (Nat.le_refl _) _
      simp only [List.mem_cons, List.not_mem_nil, or_false] at hy
      rcases hy with rfl | rfl | rfl | rfl
      · exact entKind_ok.below (entKind_ok.below (entKind_ok.below (entKind_ok.below Ha.out Db.out) Dc.out) Dd.out) q
      · exact entKind_ok.below (entKind_ok.below (entKind_ok.below Hb.out Dc.out) Dd.out) q
      · exact entKind_ok.below (entKind_ok.below Hc.out Dd.out) q
      · exact entKind_ok.below Hd.out q
  have B5 : Hid (Below w.heap.size w W5) := by
    have q1 := Da.out.trans (Db.out.mono Da.out.size)
    have q2 := q1.trans (Dc.out.mono q1.size)
    have q3 := q2.trans (Dd.out.mono q2.size)
    exact q3.trans (b5.out.mono q3.size)
  have YL : Hid (([⟨akp, akc, avp, avc, ⟨akey, aseq, agone, aval⟩⟩, ⟨bkp, bkc, bvp, bvc, ⟨bkey, bseq, bgone, bval⟩⟩, ⟨ckp, ckc, cvp, cvc, ⟨ckey, cseq, cgone, cval⟩⟩, ⟨dkp, dkc, dvp, dvc, ⟨dkey, dseq, dgone, dval⟩⟩] : List EV).map (·.e) = Mg.awL) := by
    show [_, _, _, _] = _
    rw [show Sk.Ent.mk akey aseq agone aval = Mg.a5 from Ya.out, show Sk.Ent.mk bkey bseq bgone bval = Mg.a3 from Yb.out, show Sk.Ent.mk ckey cseq cgone cval = Mg.a1 from Yc.out, show Sk.Ent.mk dkey dseq dgone dval = Mg.b4 from Yd.out]
    rfl
  obtain ⟨xs, hxs⟩ : ∃ xs : List EV, xs = [⟨akp, akc, avp, avc, ⟨akey, aseq, agone, aval⟩⟩, ⟨bkp, bkc, bvp, bvc, ⟨bkey, bseq, bgone, bval⟩⟩, ⟨ckp, ckc, cvp, cvc, ⟨ckey, cseq, cgone, cval⟩⟩, ⟨dkp, dkc, dvp, dvc, ⟨dkey, dseq, dgone, dval⟩⟩] := ⟨_, rfl⟩
  rw [← hxs] at L5 YL
  clear hxs
  have SM : Hid (∀ y ∈ xs, y.e.key.length ≤ 140737488355328 ∧ y.e.val.length ≤ 140737488355328) := fun y hy => by
    have h1 : y.e ∈ Mg.awL := by rw [← YL.out]; exact List.mem_map.2 ⟨y, hy, rfl⟩
    simp only [Mg.awL, List.mem_cons, List.not_mem_nil, or_false] at h1
    rcases h1 with h | h | h | h <;> rw [h] <;> decide
  have CM : Hid (4 ≤ maxLen) := by show 4 ≤ maxLen; decide
  obtain ⟨W6, hW6⟩ : ∃ W, W5.alloc (.cells #[.int .i64 3] 3) = W := ⟨_, rfl⟩
  have bW6 : Hid (Below W5.heap.size W5 W6) := by rw [← hW6]; exact (Below.refl _ _).alloc (Nat.le_refl _) _
  have zW6 : Hid (RSrc inK W6 (some ⟨W5.heap.size, 0, none⟩) 1 1 [3]) := by
    rw [← hW6]
    refine ⟨rfl, Nat.le_refl _, (fun e => by cases e), fun ad had j u hu => ?_, fun _ _ => trivial⟩
    cases had
    rw [Addr.add_mid, Nat.zero_add, cell_of_row _ _ _ _ _ _ (heap_alloc_new W5 _)]
    simpa [rv, inK] using hu
  have P1 := keep (prune_any (some ⟨w4.heap.size, 0, none⟩) 4 4 xs (some ⟨W5.heap.size, 0, none⟩) 1 1 [3] false W6 (L5.out.below entKind_ok bW6.out) zW6.out (by omega) (by omega) CM.out SM.out)
  go_wp2_with fail
  refine P1.out.mono ?_
  rintro e w7 ⟨v7, ps, rfl, hE, hV, hb⟩
  have E7 := keep hE
  have V7 := keep hV
  have C7 := keep (bW6.out.trans (hb.mono bW6.out.size))
  clear hE hV hb P1 hW6 hW5
  obtain ⟨W8, hW8⟩ : ∃ W, w7.alloc (.cells #[.int .i64 3] 3) = W := ⟨_, rfl⟩
  have bW8 : Hid (Below w7.heap.size w7 W8) := by rw [← hW8]; exact (Below.refl _ _).alloc (Nat.le_refl _) _
  have zW8 : Hid (RSrc inK W8 (some ⟨w7.heap.size, 0, none⟩) 1 1 [3]) := by
    rw [← hW8]
    refine ⟨rfl, Nat.le_refl _, (fun e => by cases e), fun ad had j u hu => ?_, fun _ _ => trivial⟩
    cases had
    rw [Addr.add_mid, Nat.zero_add, cell_of_row _ _ _ _ _ _ (heap_alloc_new w7 _)]
    simpa [rv, inK] using hu
  have C8 := keep (C7.out.trans (bW8.out.mono C7.out.size))
  have P2 := keep (prune_any (some ⟨w4.heap.size, 0, none⟩) 4 4 xs (some ⟨w7.heap.size, 0, none⟩) 1 1 [3] true W8 (L5.out.below entKind_ok C8.out) zW8.out (by omega) (by omega) CM.out SM.out)
  go_wp2_with fail
  refine P2.out.mono ?_
  rintro e w9 ⟨v9, qs, rfl, hE, hV, hb⟩
  have E9 := keep hE
  have V9 := keep hV
  have C9 := keep (C8.out.trans (hb.mono C8.out.size))
  have F9 := keep (bW8.out.trans (hb.mono bW8.out.size))
  clear hE hV hb P2 hW8
  have P3 := keep (visible_any (some ⟨w4.heap.size, 0, none⟩) 4 4 xs 4 w9 (L5.out.below entKind_ok C9.out) (by omega) CM.out SM.out)
  go_wp2_with fail
  refine P3.out.mono ?_
  rintro e wa ⟨va, vs, rfl, hE, hV, hb⟩
  have Ea := keep hE
  have Va := keep hV
  have Fa := keep hb
  have Ca := keep (C9.out.trans (hb.mono C9.out.size))
  clear hE hV hb P3
  have XL : Hid (xs.length = 4) := L5.out.len
  have La := keep (L5.out.below entKind_ok Ca.out)
  obtain ⟨Wb, hWb⟩ : ∃ W, wa.drew.alloc (.cells #[.slice (some ⟨w4.heap.size, 0, none⟩) 2 4, .slice (some ⟨w4.heap.size, 8, none⟩) 2 2, .slice (some ⟨w4.heap.size, 0, none⟩) 4 4] 24) = W := ⟨_, rfl⟩
  have bb : Hid (Below wa.heap.size wa Wb) := by rw [← hWb]; exact (Below.refl _ _).drew.alloc (Nat.le_refl _) _
  have Lb := keep (La.out.below entKind_ok bb.out)
  have lens : Hid ((xs.take 2).length = 2 ∧ (xs.drop 2).length = 2) := by have := XL.out; constructor <;> simp <;> omega
  have Rb : Hid (RSrc listKind Wb (some ⟨wa.heap.size, 0, none⟩) 3 3 [(⟨some ⟨w4.heap.size, 0, none⟩, 4, xs.take 2⟩ : LV), ⟨some ⟨w4.heap.size, 8, none⟩, 2, xs.drop 2⟩, ⟨some ⟨w4.heap.size, 0, none⟩, 4, xs⟩]) := by
    refine ⟨rfl, Nat.le_refl _, (fun e => by cases e), fun ad had j u hu => ?_, fun y hy => ?_⟩
    · cases had
      have hg : Wb.heap[wa.heap.size]? = some (.cells #[.slice (some ⟨w4.heap.size, 0, none⟩) 2 4, .slice (some ⟨w4.heap.size, 8, none⟩) 2 2, .slice (some ⟨w4.heap.size, 0, none⟩) 4 4] 24) := by rw [← hWb]; exact heap_alloc_new wa.drew _
      rw [Addr.add_mid, Nat.zero_add, cell_of_row _ _ _ _ _ _ hg]
      rw [rv_list] at hu
      simp only [List.map_cons, List.map_nil, lens.out.1, lens.out.2, XL.out] at hu
      simpa using hu
    · simp only [List.mem_cons, List.not_mem_nil, or_false] at hy
      rcases hy with rfl | rfl | rfl
      · show RSrc entKind Wb _ (xs.take 2).length 4 (xs.take 2)
        rw [lens.out.1]; exact Lb.out.head entKind_ok 2 (by omega)
      · show RSrc entKind Wb _ (xs.drop 2).length 2 (xs.drop 2)
        rw [lens.out.2]; exact Lb.out.tail entKind_ok 2 (by omega)
      · show RSrc entKind Wb _ xs.length 4 xs
        rw [XL.out]; exact Lb.out
  have FB : Hid ((lents [(⟨some ⟨w4.heap.size, 0, none⟩, 4, xs.take 2⟩ : LV), ⟨some ⟨w4.heap.size, 8, none⟩, 2, xs.drop 2⟩, ⟨some ⟨w4.heap.size, 0, none⟩, 4, xs⟩]).flatten = [[Mg.a5, Mg.a3], [Mg.a1, Mg.b4], Mg.awL].flatten) := by
    show _ = _
    have e1 : lents [(⟨some ⟨w4.heap.size, 0, none⟩, 4, xs.take 2⟩ : LV), ⟨some ⟨w4.heap.size, 8, none⟩, 2, xs.drop 2⟩, ⟨some ⟨w4.heap.size, 0, none⟩, 4, xs⟩] = [(xs.map (·.e)).take 2, (xs.map (·.e)).drop 2, xs.map (·.e)] := by simp [lents]
    rw [e1, YL.out]
    rfl
  have MB := keep (merge_any (some ⟨wa.heap.size, 0, none⟩) 3 3 [(⟨some ⟨w4.heap.size, 0, none⟩, 4, xs.take 2⟩ : LV), ⟨some ⟨w4.heap.size, 8, none⟩, 2, xs.drop 2⟩, ⟨some ⟨w4.heap.size, 0, none⟩, 4, xs⟩] Wb Rb.out (by omega) (fun y hy => by
    have := CM.out
    simp only [List.mem_cons, List.not_mem_nil, or_false] at hy
    unfold maxLen at this ⊢
    rcases hy with rfl | rfl | rfl <;> simp only <;> omega) (by have h1 := lens.out.1; have h2 := lens.out.2; have h3 := XL.out; simp only [List.map_cons, List.map_nil, List.flatten_cons, List.flatten_nil, List.length_append, List.length_nil]; omega) (fun l hl y hy => by
    simp only [List.mem_cons, List.not_mem_nil, or_false] at hl
    rcases hl with rfl | rfl | rfl
    · exact SM.out y (List.mem_of_mem_take hy)
    · exact SM.out y (List.mem_of_mem_drop hy)
    · exact SM.out y hy))
  go_wp2_with fail
  refine wp_region_held_drew (S := fun w' => Below wa.heap.size wa w') (by kernel_rfl) ((Below.refl _ _).drew) (fun hHeld => ?_)
  refine takeH (i := 0) 24 (v := .slice (some ⟨w4.heap.size, 0, none⟩) 4 4) rfl rfl (by kernel_rfl) (by kernel_rfl) (by kernel_rfl) (fun _ _ _ h => h) (Or.inl ⟨by rfl, ?_⟩) (by assumption) ?_
  · intro w' hSw'
    go_simp
  simp only [Act.put, List.setIfInBounds_toArray, List.set_cons_zero, List.set_cons_succ]
  refine takeH (i := 1) 25 (v := .slice (some ⟨w4.heap.size, 0, none⟩) 2 4) rfl rfl (by kernel_rfl) (by kernel_rfl) (by kernel_rfl) (fun _ _ _ h => h) (Or.inl ⟨by rfl, ?_⟩) (by assumption) ?_
  · intro w' hSw'
    go_simp
  simp only [Act.put, List.setIfInBounds_toArray, List.set_cons_zero, List.set_cons_succ]
  refine takeH (i := 2) 26 (v := .slice (some ⟨w4.heap.size, 0, none⟩) 4 4) rfl rfl (by kernel_rfl) (by kernel_rfl) (by kernel_rfl) (fun _ _ _ h => h) (Or.inl ⟨by rfl, ?_⟩) (by assumption) ?_
  · intro w' hSw'
    go_simp
  simp only [Act.put, List.setIfInBounds_toArray, List.set_cons_zero, List.set_cons_succ]
  refine takeH (i := 3) 27 (v := .slice (some ⟨w4.heap.size, 8, none⟩) 2 2) rfl rfl (by kernel_rfl) (by kernel_rfl) (by kernel_rfl) (fun _ _ _ h => h) (Or.inl ⟨by rfl, ?_⟩) (by assumption) ?_
  · intro w' hSw'
    go_simp
  simp only [Act.put, List.setIfInBounds_toArray, List.set_cons_zero, List.set_cons_succ]
  refine takeH (i := 4) 28 (v := .slice (some ⟨w4.heap.size, 0, none⟩) 4 4) rfl rfl (by kernel_rfl) (by kernel_rfl) (by kernel_rfl) (fun _ _ _ h => h) (Or.inl ⟨by rfl, ?_⟩) (by assumption) ?_
  · intro w' hSw'
    go_simp
  simp only [Act.put, List.setIfInBounds_toArray, List.set_cons_zero, List.set_cons_succ]
  refine wpAnyH_ready (rs := [5]) (by kernel_rfl) (by simp) ?_
  refine AllReadyH.cons rfl (fun K hK => ?_) AllReadyH.nil
  go_simp
  refine hK.out _ _ bb.out (fun hA1 => ?_)
  clear hK K
  refine wpAnyH_ready (rs := [6]) (by kernel_rfl) (by simp) ?_
  refine AllReadyH.cons rfl (fun K hK => ?_) AllReadyH.nil
  go_simp
  refine MB.out.mono ?_
  rintro e wc ⟨vc, ms, rfl, hE, hV, _, hb⟩
  have Ec := keep hE
  have Vc := keep hV
  have Fc := keep (bb.out.trans (hb.mono bb.out.size))
  clear hE hV hb
  obtain ⟨ma, mc, emv, _, _⟩ := Ec.out.src
  have ML : Hid (ms.length = 4) := by have := Mg.aw_merge (by rw [← FB.out]; exact Vc.out); rwa [List.length_map] at this
  rw [ML.out] at emv
  rw [emv]
  go_wp2_with fail
  refine hK.out _ _ Fc.out (fun hA2 => ?_)
  clear hK K
  refine takeH (i := 7) 6 (v := .slice ma 4 mc) rfl rfl (by kernel_rfl) (by kernel_rfl) (by kernel_rfl) (fun _ _ _ h => h) (Or.inl ⟨by rfl, ?_⟩) (by assumption) ?_
  · intro w' hSw'
    go_simp
  simp only [Act.put, List.setIfInBounds_toArray, List.set_cons_zero, List.set_cons_succ]
  refine wpAnyH_done (by kernel_rfl) ?_ _
  clear hWb emv
  have Cc := keep (Ca.out.trans (Fc.out.mono Ca.out.size))
  have Ep := keep (((E7.out.below (F9.out)).below Fa.out).below Fc.out)
  have Eq := keep ((E9.out.below Fa.out).below Fc.out)
  have Ev := keep (Ea.out.below Fc.out)
  rw [YL.out] at V7 V9 Va
  have V7b := V7.out
  have V9b := V9.out
  have Vab := Va.out
  rw [Mg.aw_prune] at V7b
  rw [Mg.aw_prune2] at V9b
  rw [Mg.aw_vis] at Vab
  obtain ⟨pa, pc, rfl, hps, _⟩ := Ep.out.src
  obtain ⟨qa, qc, rfl, hqs, _⟩ := Eq.out.src
  obtain ⟨xa, xc, rfl, hvs, _⟩ := Ev.out.src
  have pl : ps.length = 3 := by have := congrArg List.length V7b; simpa using this
  have ql : qs.length = 2 := by have := congrArg List.length V9b; simpa using this
  have vl : vs.length = 1 := by have := congrArg List.length Vab; simpa using this
  rw [pl] at hps ⊢
  rw [ql] at hqs ⊢
  rw [vl] at hvs ⊢
  obtain ⟨pb, po, rfl, _, _⟩ := hps.form entKind_ok (by omega)
  obtain ⟨qb, qo, rfl, _, _⟩ := hqs.form entKind_ok (by omega)
  obtain ⟨xb, xo, rfl, _, _⟩ := hvs.form entKind_ok (by omega)
  obtain ⟨p2, hp2⟩ : ∃ x, ps[2]? = some x := ⟨ps[2]'(by omega), List.getElem?_eq_getElem _⟩
  obtain ⟨q1, hq1⟩ : ∃ x, qs[1]? = some x := ⟨qs[1]'(by omega), List.getElem?_eq_getElem _⟩
  obtain ⟨x0, hx0⟩ : ∃ x, vs[0]? = some x := ⟨vs[0]'(by omega), List.getElem?_eq_getElem _⟩
  have ep : p2.e = Mg.b4 := by have := congrArg (fun l => l[2]?) V7b; simp only [List.getElem?_map, hp2, Option.map_some] at this; simpa using this
  have eq : q1.e = Mg.a3 := by have := congrArg (fun l => l[1]?) V9b; simp only [List.getElem?_map, hq1, Option.map_some] at this; simpa using this
  have ex : x0.e = Mg.a3 := by have := congrArg (fun l => l[0]?) Vab; simp only [List.getElem?_map, hx0, Option.map_some] at this; simpa using this
  have cp := (ent_cells hps hp2).2.2.1
  have cq := (ent_cells hqs hq1).2.1
  have cx := (ent_cells hvs hx0).2.1
  rw [ep] at cp
  rw [eq] at cq
  rw [ex] at cx
  simp only [Mg.b4, Mg.a3, Nat.zero_mul, Nat.add_zero] at cp cq cx
  have SP := keep (split_any (some ⟨w4.heap.size, 0, none⟩) 4 4 xs 2 wc (L5.out.below entKind_ok Cc.out) (by omega) CM.out SM.out)
  clear hps hqs hvs hp2 hq1 hx0 ep eq ex pl ql vl V7b V9b Vab
  go_wp2_with fail
  refine SP.out.mono ?_
  rintro e wd ⟨vd, os, rfl, ho, _, hlo, _, hb⟩
  have ol : os.length = 2 := by have h1 := congrArg List.length hlo; rw [YL.out] at h1; have h2 := Mg.aw_split; unfold lents at h1; rw [List.length_map] at h1; omega
  obtain ⟨oa, oc, rfl, _, _⟩ : ∃ a c, vd = .slice a os.length c ∧ True ∧ True := by obtain ⟨a, c, h⟩ := own_sliceM ho; exact ⟨a, c, h, trivial, trivial⟩
  rw [ol]
  have Bd := keep hb
  clear ho hlo hb ol
  go_wp2
  go_ret
  exact ⟨rfl, B5.out.trans ((Cc.out.trans (Bd.out.mono Cc.out.size)).mono B5.out.size)⟩
end Go.Proofs.Ytgdggeacjfhkkaa
