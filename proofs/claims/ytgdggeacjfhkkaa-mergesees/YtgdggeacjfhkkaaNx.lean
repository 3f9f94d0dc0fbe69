/- The walk of the document's Split. -/
import Derived.Test.YtgdggeacjfhkkaaNv
namespace Go.Proofs.Ytgdggeacjfhkkaa
open Go.RowKit
open Sk (Ent)

theorem SplI.to {w : World} {most : Int} {ls : List LV} {k : Nat} {os : List LV} {v : Value} {S : Nat} {wr w' : World} (h : SplI w most ls k os v S wr) (hb : Below wr.heap.size wr w') : SplI w most ls k os v S w' :=
  ⟨h.num, h.below.trans (hb.mono h.below.size), h.base, Nat.le_trans h.top hb.size, own_block h.row (fun j hj => hb.block j (own_size h.row hj)), fun y hy => ⟨(h.each y hy).1.below hb, (h.each y hy).2⟩, fun y hy => (h.last y hy).below hb, h.val⟩

set_option maxHeartbeats 2500000 in
set_option maxRecDepth 100000 in
theorem rsplit_any (ao : Option Addr) (n c : Nat) (es : List EV) (most : Int) (w : World) (hs : RSrc entKind w ao n c es) (hN : n ≤ 1000000) (hsm : ∀ y ∈ es, y.e.key.length ≤ 140737488355328 ∧ y.e.val.length ≤ 140737488355328) :
    Calls Try.prog 18 #[.slice ao n c, .int .i64 most] w fun e w' => ∃ v os, e = .returned v ∧ w'.ownsRow w.heap.size 24 1 v os.length (rv listKind os) ∧ (∀ y ∈ os, Ents w.heap.size w' (.slice y.p y.es.length y.c) y.es) ∧ lents os = Mg.split (es.map (·.e)) most ∧ os.length ≤ n ∧ Below w.heap.size w w' := by
  obtain ⟨i0, hi0, hz0, hz1, hz2⟩ := info_parts3 infoE
  obtain ⟨j0, hj0, hy0, hy1, hy2⟩ := info_parts3 infoL
  have HLEN := keep hs.len
  have SM := keep hsm
  have PA := keep (rgroups_any ao n c es w hs hN)
  clear hs hsm
  go_enter Try.func18, Try.ntmps18
  go_wp2_with fail
  refine PA.out.mono ?_
  rintro e w2 ⟨v, ls, rfl, ho, hh, hval, hln, hb⟩
  have B2 := keep hb
  obtain ⟨lp, lc, rfl, hsr, _⟩ := RSrc.own listKind_ok ho (fun y hy => (hh y hy).1)
  have SR := keep hsr
  have VL := keep hval
  obtain ⟨N, hNl⟩ : ∃ N, ls.length = N := ⟨_, rfl⟩
  rw [hNl] at SR hln ⊢
  have HN := keep hNl
  have HLN := keep hln
  clear ho hh hval hb hsr PA hNl
  go_wp2
  go_loopw [5, 7] (fun v i wr => ∃ (k : Nat) (os : List LV) (S : Nat), k ≤ N ∧ i = .int .i64 (k : Int) ∧ Hid (SplI w2 most ls k os v S wr)) (fun _ i _ => N - (intOf i).toNat)
  case atStart => exact ⟨0, [], w2.heap.size, Nat.zero_le _, rfl, Nat.le_refl _, Below.refl _ _, Nat.le_refl _, Nat.le_refl _, World.ownsRow_nil _ _ _ _, (fun y h => by cases h), (fun y h => by cases h), by simp [lents]⟩
  case round =>
    obtain ⟨k, os, S, hk, rfl, hI⟩ := hrel
    have HB := keep hI.out.below
    have hon := hI.out.num
    by_cases hkn : k < N
    · obtain ⟨lb, loff, rfl, _, _⟩ := SR.out.form listKind_ok (by omega)
      obtain ⟨y, hy⟩ : ∃ y, ls[k]? = some y := ⟨ls[k]'(by rw [HN.out]; exact hkn), List.getElem?_eq_getElem _⟩
      have HY := keep hy
      have hym := List.mem_of_getElem? hy
      have p0 := list_cell (SR.out.below listKind_ok HB.out) hy
      have YS : Hid (∀ w', Below w2.heap.size w2 w' → RSrc entKind w' y.p y.es.length y.c y.es) := fun w' hb => ((SR.out.below listKind_ok hb).held y hym)
      have YM : Hid (∀ z ∈ y.es, z.e.key.length ≤ 140737488355328 ∧ z.e.val.length ≤ 140737488355328) := fun z hz => SM.out z (part_mem VL.out hym hz)
      have hyn : y.es.length ≤ 1000000 := by
        have h1 : y.es.length ≤ (Mg.parts (fun x y : EV => Mg.oneKey x.e y.e) es).flatten.length := by
          rw [← VL.out]
          exact (List.sublist_flatten_of_mem (List.mem_map.2 ⟨y, hym, rfl⟩)).length_le
        rw [Mg.parts_flat, HLEN.out] at h1
        omega
      have FK : Hid ((lents (ls.take (k + 1))).foldl (Mg.pack most) [] = Mg.pack most (lents os) (y.es.map (·.e))) := by
        show _ = _
        rw [List.take_add_one, hy, hI.out.val]
        simp [lents]
      have OL : Hid (∀ z ∈ os, z.es.length ≤ 1000000) := fun z hz => by
        have h1 : (lents os).flatten.length ≤ es.length := by
          rw [hI.out.val, Mg.packs_flat, List.flatten_nil, List.nil_append]
          have h2 := flat_len (f := id) (fun g => Nat.le_refl _) ls k
          rw [List.map_id, VL.out, Mg.parts_flat] at h2
          exact h2
        have h3 : z.es.length ≤ (lents os).flatten.length := by
          have := (List.sublist_flatten_of_mem (show z.es.map (·.e) ∈ lents os from List.mem_map.2 ⟨z, hz, rfl⟩)).length_le
          rwa [List.length_map] at this
        have := HLEN.out
        omega
      obtain ⟨yp, yc, yes⟩ := y
      simp only at p0 YS YM FK hyn
      have CP : Hid (∀ w', Below w2.heap.size w2 w' → Calls Try.prog 39 #[.slice yp yes.length yc] w' fun e w'' => ∃ za zc us, e = .returned (.slice za us.length zc) ∧ us.length = yes.length ∧ Ents w'.heap.size w'' (.slice za us.length zc) us ∧ us.map (·.e) = yes.map (·.e) ∧ Below w'.heap.size w' w'') := fun w' hb => by
        refine (rcopies_any yp yes.length yc yes w' (YS.out w' hb) hyn YM.out).mono ?_
        rintro e w'' ⟨v, us, rfl, h1, h2, h3⟩
        obtain ⟨za, zc, rfl, _, _⟩ := h1.src
        exact ⟨za, zc, us, rfl, (by have := congrArg List.length h2; simpa using this), h1, h2, h3⟩
      obtain ⟨M, hM⟩ : ∃ M, yes.length = M := ⟨_, rfl⟩
      have HM := keep hM
      rw [hM] at p0 CP hyn
      have ll : (k : Int) < (N : Int) := by omega
      have l0 : (0 : Int) ≤ (k : Int) := by omega
      have hNN := HLN.out
      have CL : Hid (∀ w', Below wr.heap.size wr w' → w'.cell? ⟨lb, loff + k, none⟩ = some (.slice yp M yc)) := fun w' hb => below_cell hb p0
      have hob : os.length ≤ 1000000 := by omega
      clear hy hym hM p0
      have NEW : Hid (os = [] ∨ (∃ pre z, os = pre ++ [z] ∧ most < (z.es.length : Int) + (M : Int)) → lents os ++ [([] : List EV).map (·.e) ++ yes.map (·.e)] = Mg.pack most (lents os) (yes.map (·.e))) := fun h => by
        rcases h with rfl | ⟨pre, z, rfl, h⟩
        · simp [lents, Mg.pack]
        · have e1 : lents (pre ++ [z]) = lents pre ++ [z.es.map (·.e)] := by simp [lents]
          rw [e1, Mg.pack_snoc, if_pos (by rw [List.length_map, List.length_map, HM.out]; exact h)]
          simp
      rcases List.eq_nil_or_concat os with h0 | ⟨pre0, z0, h0⟩
      · have PK := keep (NEW.out (.inl h0))
        obtain ⟨a0, cc0, hv0⟩ := own_sliceM hI.out.row
        obtain ⟨L0, hL0⟩ : ∃ L0, os.length = L0 := ⟨_, rfl⟩
        have HL00 : Hid (L0 = 0) := by show _ = _; rw [← hL0, h0]; rfl
        have hLb : L0 ≤ 1000000 := by omega
        rw [hL0] at hv0
        rw [hv0]
        clear h0
        go_wp2_with fail
        refine wp_region_held_drew (S := fun w' => Below wr.heap.size wr w') (by kernel_rfl) ((Below.refl _ _).drew) (fun hZ => ?_)
        refine takeH (i := 0) 19 (v := .int .i64 (L0 : Int)) rfl rfl (by kernel_rfl) (by kernel_rfl) (by kernel_rfl) (fun _ _ _ h => h) (Or.inl ⟨by rfl, ?_⟩) (by assumption) ?_
        · intro w' hSw'
          go_simp
        simp only [Act.put, List.setIfInBounds_toArray, List.set_cons_zero, List.set_cons_succ]
        refine takeH (i := 1) 20 (v := .bool true) rfl rfl (by kernel_rfl) (by kernel_rfl) (by kernel_rfl) (fun _ _ _ h => h) (Or.inl ⟨by rfl, ?_⟩) (by assumption) ?_
        · intro w' hSw'
          go_simp
          exact HL00.out
        simp only [Act.put, List.setIfInBounds_toArray, List.set_cons_zero, List.set_cons_succ]
        refine takeH (i := 2) 21 (v := .bool true) rfl rfl (by kernel_rfl) (by kernel_rfl) (by kernel_rfl) (fun _ _ _ h => h) (Or.inl ⟨by rfl, ?_⟩) (by assumption) ?_
        · intro w' hSw'
          go_simp
        simp only [Act.put, List.setIfInBounds_toArray, List.set_cons_zero, List.set_cons_succ]
        refine takeH (i := 3) 0x16 (v := undef) rfl rfl (by kernel_rfl) (by kernel_rfl) (by kernel_rfl) (fun _ _ _ h => h) (Or.inr ⟨by rfl, rfl⟩) (by assumption) ?_
        simp only [Act.put, List.setIfInBounds_toArray, List.set_cons_zero, List.set_cons_succ]
        refine takeH (i := 4) 23 (v := undef) rfl rfl (by kernel_rfl) (by kernel_rfl) (by kernel_rfl) (fun _ _ _ h => h) (Or.inr ⟨by rfl, rfl⟩) (by assumption) ?_
        simp only [Act.put, List.setIfInBounds_toArray, List.set_cons_zero, List.set_cons_succ]
        refine takeH (i := 5) 24 (v := undef) rfl rfl (by kernel_rfl) (by kernel_rfl) (by kernel_rfl) (fun _ _ _ h => h) (Or.inr ⟨by rfl, rfl⟩) (by assumption) ?_
        simp only [Act.put, List.setIfInBounds_toArray, List.set_cons_zero, List.set_cons_succ]
        refine takeH (i := 6) 25 (v := undef) rfl rfl (by kernel_rfl) (by kernel_rfl) (by kernel_rfl) (fun _ _ _ h => h) (Or.inr ⟨by rfl, rfl⟩) (by assumption) ?_
        simp only [Act.put, List.setIfInBounds_toArray, List.set_cons_zero, List.set_cons_succ]
        refine takeH (i := 7) 26 (v := undef) rfl rfl (by kernel_rfl) (by kernel_rfl) (by kernel_rfl) (fun _ _ _ h => h) (Or.inr ⟨by rfl, rfl⟩) (by assumption) ?_
        simp only [Act.put, List.setIfInBounds_toArray, List.set_cons_zero, List.set_cons_succ]
        refine takeH (i := 8) 27 (v := undef) rfl rfl (by kernel_rfl) (by kernel_rfl) (by kernel_rfl) (fun _ _ _ h => h) (Or.inr ⟨by rfl, rfl⟩) (by assumption) ?_
        simp only [Act.put, List.setIfInBounds_toArray, List.set_cons_zero, List.set_cons_succ]
        refine takeH (i := 9) 28 (v := undef) rfl rfl (by kernel_rfl) (by kernel_rfl) (by kernel_rfl) (fun _ _ _ h => h) (Or.inr ⟨by rfl, rfl⟩) (by assumption) ?_
        simp only [Act.put, List.setIfInBounds_toArray, List.set_cons_zero, List.set_cons_succ]
        refine takeH (i := 10) 29 (v := undef) rfl rfl (by kernel_rfl) (by kernel_rfl) (by kernel_rfl) (fun _ _ _ h => h) (Or.inr ⟨by rfl, rfl⟩) (by assumption) ?_
        simp only [Act.put, List.setIfInBounds_toArray, List.set_cons_zero, List.set_cons_succ]
        refine takeH (i := 11) 30 (v := undef) rfl rfl (by kernel_rfl) (by kernel_rfl) (by kernel_rfl) (fun _ _ _ h => h) (Or.inr ⟨by rfl, rfl⟩) (by assumption) ?_
        simp only [Act.put, List.setIfInBounds_toArray, List.set_cons_zero, List.set_cons_succ]
        refine takeH (i := 12) 31 (v := undef) rfl rfl (by kernel_rfl) (by kernel_rfl) (by kernel_rfl) (fun _ _ _ h => h) (Or.inr ⟨by rfl, rfl⟩) (by assumption) ?_
        simp only [Act.put, List.setIfInBounds_toArray, List.set_cons_zero, List.set_cons_succ]
        refine takeH (i := 13) 32 (v := undef) rfl rfl (by kernel_rfl) (by kernel_rfl) (by kernel_rfl) (fun _ _ _ h => h) (Or.inr ⟨by rfl, rfl⟩) (by assumption) ?_
        simp only [Act.put, List.setIfInBounds_toArray, List.set_cons_zero, List.set_cons_succ]
        refine takeH (i := 14) 33 (v := undef) rfl rfl (by kernel_rfl) (by kernel_rfl) (by kernel_rfl) (fun _ _ _ h => h) (Or.inr ⟨by rfl, rfl⟩) (by assumption) ?_
        simp only [Act.put, List.setIfInBounds_toArray, List.set_cons_zero, List.set_cons_succ]
        refine takeH (i := 15) 34 (v := undef) rfl rfl (by kernel_rfl) (by kernel_rfl) (by kernel_rfl) (fun _ _ _ h => h) (Or.inr ⟨by rfl, rfl⟩) (by assumption) ?_
        simp only [Act.put, List.setIfInBounds_toArray, List.set_cons_zero, List.set_cons_succ]
        refine takeH (i := 16) 35 (v := undef) rfl rfl (by kernel_rfl) (by kernel_rfl) (by kernel_rfl) (fun _ _ _ h => h) (Or.inr ⟨by rfl, rfl⟩) (by assumption) ?_
        simp only [Act.put, List.setIfInBounds_toArray, List.set_cons_zero, List.set_cons_succ]
        refine takeH (i := 17) 36 (v := .bool true) rfl rfl (by kernel_rfl) (by kernel_rfl) (by kernel_rfl) (fun _ _ _ h => h) (Or.inl ⟨by rfl, ?_⟩) (by assumption) ?_
        · intro w' hSw'
          go_simp
        simp only [Act.put, List.setIfInBounds_toArray, List.set_cons_zero, List.set_cons_succ]
        refine wpAnyH_done (by kernel_rfl) ?_ _
        obtain ⟨wq, hwq⟩ : ∃ wq, wq = wr.drew := ⟨_, rfl⟩
        rw [← hwq]
        have bq : Hid (Below wr.heap.size wr wq) := by rw [hwq]; exact (Below.refl _ _).drew
        have IQ := keep (hI.out.to bq.out)
        clear hwq hI
        rw [hv0] at IQ
        have rc := keep (rec_cells (k := listKind) wq 24 ⟨none, 0, []⟩)
        have O3 := keep (IQ.out.row.alloc (.cells #[.slice none 0 0] 24))
        have BQ := keep IQ.out.below
        go_wp2_with (at_builtin; go_loud (refine wpList_append_rec listKind_ok rfl _ _ 22 24 rfl w2.heap.size j0 _ 24 Try.underlying22 hj0 hy0 hy1 hy2 rfl (.slice a0 L0 cc0) os.length os rfl O3.out _ 1 (⟨none, 0, []⟩ : LV) rfl rc.out (by unfold maxLen; omega) (by omega) (Nat.le_trans BQ.out.size (by rw [World.size_alloc]; omega)) ?_); intro v5 w5 ho5 hg5; have T0 := keep (IQ.out.fresh ho5 hg5); clear ho5 hg5)
        obtain ⟨PL, hPL⟩ : ∃ PL, os.length = PL := ⟨_, rfl⟩
        obtain ⟨NL, hNL⟩ : ∃ NL, NL = PL + 1 := ⟨_, rfl⟩
        obtain ⟨g5, c5, hv5⟩ : ∃ g cap, v5 = .slice (some ⟨g, 0, none⟩) NL cap := by
          rcases T0.out.row.2 with ⟨_, h1⟩ | ⟨g, cap, cur, e, _⟩
          · omega
          · exact ⟨g, cap, by rw [e, hPL, hNL]⟩
        have eN : (L0 : Int) + 1 = (NL : Int) := by omega
        have HPK : Hid (PL ≤ k) := by show _ ≤ _; omega
        rw [hv5, eN]
        obtain ⟨pre, hpre⟩ : ∃ pre, pre = os := ⟨_, rfl⟩
        have HP : Hid (pre.length = PL) := by rw [hpre]; exact hPL
        have HNL := keep hNL
        obtain ⟨zp, zc, zes, S5, ez⟩ : ∃ (zp : Option Addr) (zc : Nat) (zes : List EV) (S5 : Nat), zp = none ∧ zc = 0 ∧ zes = [] ∧ S5 = wq.heap.size := ⟨_, _, _, _, rfl, rfl, rfl, rfl⟩
        obtain ⟨e1, e2, e3, e4⟩ := ez
        have TT := T0
        rw [← e1, ← e2, ← e3, ← e4, ← hpre, hv5] at TT
        rw [← hpre, ← e3] at PK
        rw [← hpre] at FK
        have ZN : Hid (zes.length ≤ 1000000) := by rw [e3]; exact Nat.zero_le _
        clear e1 e2 e3 e4 hpre T0 eN hv5 hPL hNL rc O3 IQ
        have HZ0' : ∃ Z, zes.length = Z := ⟨_, rfl⟩
        obtain ⟨Z, hZ⟩ := HZ0'
        have HZ := keep hZ
        have zn : Z ≤ 1000000 := by rw [← hZ]; exact ZN.out
        clear hZ
        have ZL5 := keep TT.out.last
        have BT := keep TT.out.below
        have hNLb : NL ≤ 1000001 := by have h1 := HNL.out; have h2 := HPK.out; omega
        have SUBN : Hid (IntKind.i64.wrap ((NL : Int) - 1) = (PL : Int)) := by have h1 := HNL.out; show _ = _; rw [wrap_small _ (by omega) (by omega)]; omega
        have q0 : (0 : Int) ≤ (PL : Int) := by omega
        have q1 : (PL : Int) < (NL : Int) := by have h1 := HNL.out; omega
        have ROW : Hid (w5.ownsRow w2.heap.size 24 1 (.slice (some ⟨g5, 0, none⟩) NL c5) NL (rv listKind (pre ++ [⟨zp, zc, zes⟩]))) := by
          have h1 := TT.out.row
          rw [HP.out, ← HNL.out] at h1
          exact h1
        have CELL : Hid (∀ w' : World, w'.ownsRow w2.heap.size 24 1 (.slice (some ⟨g5, 0, none⟩) NL c5) NL (rv listKind (pre ++ [⟨zp, zc, zes⟩])) → w'.cell? ⟨g5, PL, none⟩ = some (.slice zp Z zc) ∧ w'.frozen? ⟨g5, PL, none⟩ = false) := fun w' h1 => by
          obtain ⟨cs, hcs⟩ := own_tag h1 rfl
          refine ⟨?_, by simp [World.frozen?, hcs]⟩
          have := h1.cells rfl PL (.slice zp Z zc) (by rw [rv_list, List.map_append, List.getElem?_append_right (by rw [List.length_map, HP.out]; exact Nat.le_refl _), List.length_map, HP.out, Nat.sub_self, ← HZ.out]; rfl)
          rwa [Addr.add_mid, Nat.zero_add] at this
        have LC : Hid (∀ w', Below w2.heap.size w2 w' → w'.cell? ⟨lb, loff + k, none⟩ = some (.slice yp M yc)) := fun w' hb => by
          have := list_cell (SR.out.below listKind_ok hb) HY.out
          simp only at this
          rwa [HM.out] at this
        have OF : Hid (∀ w6, Below w5.heap.size w5 w6 → w6.cell? ⟨g5, PL, none⟩ = some (.slice zp Z zc) ∧ w6.cell? ⟨lb, loff + k, none⟩ = some (.slice yp M yc)) := fun w6 hb => ⟨(CELL.out w6 (own_block ROW.out (fun j hj => hb.block j (own_size ROW.out hj)))).1, LC.out w6 (BT.out.trans (hb.mono BT.out.size))⟩
        have OFF : Hid (∀ w6, Below w5.heap.size w5 w6 → ∀ w7, w6.grownBy w7 (Value.slice zp Z zc).ownBlock → w7.frozen? ⟨g5, PL, none⟩ = false ∧ w7.cell? ⟨g5, PL, none⟩ = some (.slice zp Z zc) ∧ w7.cell? ⟨lb, loff + k, none⟩ = some (.slice yp M yc)) := fun w6 hb w7 hg => by
          have h1 := own_block (w' := w6) ROW.out (fun j hj => hb.block j (own_size ROW.out hj))
          have h2 := (ZL5.out.below hb).row
          simp only [HZ.out] at h2
          have h3 := own_apartT h1 h2 hg (by decide)
          have B7 : Below w2.heap.size w2 w7 := (BT.out.trans (hb.mono BT.out.size)).grown hg (Nat.le_trans BT.out.size hb.size) (fun j hj => Nat.le_trans TT.out.base (h2.lt j hj).1)
          exact ⟨(CELL.out w7 h3).2, (CELL.out w7 h3).1, LC.out w7 B7⟩
        have zcell := (OF.out w5 (Below.refl _ _)).1
        have lcell := (OF.out w5 (Below.refl _ _)).2
        have CP5 : Hid (∀ w', Below w5.heap.size w5 w' → _) := fun w' hb => CP.out w' (BT.out.trans (hb.mono BT.out.size))
        go_wp2_with fail
        refine wp_region_parted (fun w' => w'.cell? ⟨g5, PL, none⟩ = some (.slice zp Z zc) ∧ w'.cell? ⟨lb, loff + k, none⟩ = some (.slice yp M yc)) 15 _ (by kernel_rfl) rfl rfl rfl (by kernel_rfl) (by kernel_rfl) (by exact ⟨zcell, lcell⟩) (fun hHeld => ?_)
        simp only [List.setIfInBounds_toArray, List.set_cons_succ, List.set_cons_zero, mute]
        refine takeH (i := 0) 42 (v := .slice (some ⟨g5, 0, none⟩) NL c5) rfl rfl (by kernel_rfl) (by kernel_rfl) (by kernel_rfl) (fun _ _ _ h => h) (Or.inl ⟨by rfl, ?_⟩) (by assumption) ?_
        · intro w' hSw'
          go_simp
        simp only [Act.put, List.setIfInBounds_toArray, List.set_cons_zero, List.set_cons_succ]
        refine takeH (i := 1) 43 (v := .int .i64 (NL : Int)) rfl rfl (by kernel_rfl) (by kernel_rfl) (by kernel_rfl) (fun _ _ _ h => h) (Or.inl ⟨by rfl, ?_⟩) (by assumption) ?_
        · intro w' hSw'
          go_simp
        simp only [Act.put, List.setIfInBounds_toArray, List.set_cons_zero, List.set_cons_succ]
        refine takeH (i := 2) 44 (v := .int .i64 (PL : Int)) rfl rfl (by kernel_rfl) (by kernel_rfl) (by kernel_rfl) (fun _ _ _ h => h) (Or.inl ⟨by rfl, ?_⟩) (by assumption) ?_
        · intro w' hSw'
          have q9 := SUBN.out
          go_simp
        simp only [Act.put, List.setIfInBounds_toArray, List.set_cons_zero, List.set_cons_succ]
        refine takeH (i := 3) 45 (v := .slice (some ⟨g5, 0, none⟩) NL c5) rfl rfl (by kernel_rfl) (by kernel_rfl) (by kernel_rfl) (fun _ _ _ h => h) (Or.inl ⟨by rfl, ?_⟩) (by assumption) ?_
        · intro w' hSw'
          go_simp
        simp only [Act.put, List.setIfInBounds_toArray, List.set_cons_zero, List.set_cons_succ]
        refine takeH (i := 4) 46 (v := .int .i64 (NL : Int)) rfl rfl (by kernel_rfl) (by kernel_rfl) (by kernel_rfl) (fun _ _ _ h => h) (Or.inl ⟨by rfl, ?_⟩) (by assumption) ?_
        · intro w' hSw'
          go_simp
        simp only [Act.put, List.setIfInBounds_toArray, List.set_cons_zero, List.set_cons_succ]
        refine takeH (i := 5) 47 (v := .int .i64 (PL : Int)) rfl rfl (by kernel_rfl) (by kernel_rfl) (by kernel_rfl) (fun _ _ _ h => h) (Or.inl ⟨by rfl, ?_⟩) (by assumption) ?_
        · intro w' hSw'
          have q9 := SUBN.out
          go_simp
        simp only [Act.put, List.setIfInBounds_toArray, List.set_cons_zero, List.set_cons_succ]
        refine takeH (i := 6) 48 (v := .pointer (some ⟨g5, PL, none⟩)) rfl rfl (by kernel_rfl) (by kernel_rfl) (by kernel_rfl) (fun _ _ _ h => h) (Or.inl ⟨by rfl, ?_⟩) (by assumption) ?_
        · intro w' hSw'
          go_simp
        simp only [Act.put, List.setIfInBounds_toArray, List.set_cons_zero, List.set_cons_succ]
        refine takeH (i := 7) 49 (v := .slice zp Z zc) rfl rfl (by kernel_rfl) (by kernel_rfl) (by kernel_rfl) (fun _ _ _ h => h) (Or.inl ⟨by rfl, ?_⟩) (by assumption) ?_
        · intro w' hSw'
          obtain ⟨y0, y1⟩ := hSw'
          go_simp
        simp only [Act.put, List.setIfInBounds_toArray, List.set_cons_zero, List.set_cons_succ]
        refine takeH (i := 8) 50 (v := .slice (some ⟨lb, loff, none⟩) N lc) rfl rfl (by kernel_rfl) (by kernel_rfl) (by kernel_rfl) (fun _ _ _ h => h) (Or.inl ⟨by rfl, ?_⟩) (by assumption) ?_
        · intro w' hSw'
          go_simp
        simp only [Act.put, List.setIfInBounds_toArray, List.set_cons_zero, List.set_cons_succ]
        refine takeH (i := 9) 51 (v := .int .i64 (k : Int)) rfl rfl (by kernel_rfl) (by kernel_rfl) (by kernel_rfl) (fun _ _ _ h => h) (Or.inl ⟨by rfl, ?_⟩) (by assumption) ?_
        · intro w' hSw'
          go_simp
        simp only [Act.put, List.setIfInBounds_toArray, List.set_cons_zero, List.set_cons_succ]
        refine takeH (i := 10) 52 (v := .pointer (some ⟨lb, loff + k, none⟩)) rfl rfl (by kernel_rfl) (by kernel_rfl) (by kernel_rfl) (fun _ _ _ h => h) (Or.inl ⟨by rfl, ?_⟩) (by assumption) ?_
        · intro w' hSw'
          go_simp
        simp only [Act.put, List.setIfInBounds_toArray, List.set_cons_zero, List.set_cons_succ]
        refine takeH (i := 11) 53 (v := .slice yp M yc) rfl rfl (by kernel_rfl) (by kernel_rfl) (by kernel_rfl) (fun _ _ _ h => h) (Or.inl ⟨by rfl, ?_⟩) (by assumption) ?_
        · intro w' hSw'
          obtain ⟨y0, y1⟩ := hSw'
          go_simp
        simp only [Act.put, List.setIfInBounds_toArray, List.set_cons_zero, List.set_cons_succ]
        refine wpAnyH_ready (rs := [12]) (by kernel_rfl) (by simp) ?_
        refine AllReadyH.cons rfl (fun K hK => ?_) AllReadyH.nil
        go_simp
        refine (CP5.out w5.drew (Below.refl _ _).drew).mono ?_
        rintro e w6 ⟨za, ac, us, rfl, hul, he6, hu6, hb6⟩
        have UL := keep hul
        have b6 : Hid (Below w5.heap.size w5 w6) := ((Below.refl _ _).drew).trans (hb6.mono (Nat.le_refl _))
        have U6 := keep hu6
        have Z6 := keep (ZL5.out.below b6.out)
        have ZR6 : Hid (w6.ownsRow S5 36 4 (.slice zp Z zc) Z (rv entKind zes)) := by have := Z6.out.row; rwa [HZ.out] at this
        have US6 : Hid (∀ y ∈ us, OwnE S5 w6 y) := fun y hy => (he6.each y hy).base TT.out.top
        obtain ⟨xa, xc, ex, hxs, _⟩ := he6.src
        have XS : Hid (RSrc entKind w6 za us.length ac us) := by cases ex; exact hxs
        clear hul he6 hu6 hb6 ex hxs
        have s6 := OF.out w6 b6.out
        go_wp2_with fail
        refine hK.out _ _ s6 (fun hA1 => ?_)
        clear hK K
        refine wpAnyH_ready (rs := [13]) (by kernel_rfl) (by simp) ?_
        refine AllReadyH.cons rfl (fun K hK => ?_) AllReadyH.nil
        refine step_append_rows rfl _ _ 24 rfl S5 36 i0 _ 4 64 Try.underlying24 hi0 hz0 hz1 hz2 rfl (by decide) (.slice zp Z zc) Z (rv entKind zes) rfl ZR6.out za us.length ac (rv entKind us) rfl XS.out.nil (by rw [rv_length entKind_ok]; rfl) XS.out.cells (rv_one entKind_ok us) (by rw [UL.out]; unfold maxLen; omega) (by rw [UL.out]; omega) (Nat.le_trans TT.out.top b6.out.size) ?_
        intro a7 c7 w7 ho7 hg7
        have HO7 := keep ho7
        have HG7 := keep hg7
        obtain ⟨of7, oc7⟩ := OFF.out w6 b6.out w7 hg7
        clear ho7 hg7
        refine hK.out _ _ oc7 (fun hA2 => ?_)
        clear hK K
        refine takeH (i := 14) 56 (v := .pointer (some ⟨g5, PL, none⟩)) rfl rfl (by kernel_rfl) (by kernel_rfl) (by kernel_rfl) (fun _ _ _ h => h) (Or.inl ⟨by rfl, ?_⟩) (by assumption) ?_
        · intro w' hSw'
          go_simp
        simp only [Act.put, List.setIfInBounds_toArray]
        have oc8 := oc7.1
        refine wpAnyH_ready (rs := [15]) (by kernel_rfl) (by simp) ?_
        refine AllReadyH.cons rfl (fun K hK => ?_) AllReadyH.nil
        go_simp
        refine hK.out _ _ oc7 (fun hA3 => ?_)
        clear hK K
        refine wpAnyH_done (by kernel_rfl) ?_ _
        have FN : Hid (SplI w2 most ls (k + 1) (pre ++ [⟨a7, c7, zes ++ us⟩]) (.slice (some ⟨g5, 0, none⟩) NL c5) S5 (w7.setCell ⟨g5, PL, none⟩ (.slice a7 (Z + us.length) c7))) := SplT.next' HP.out HZ.out HNL.out TT.out b6.out US6.out HO7.out HG7.out most ls k HPK.out (by rw [FK.out, U6.out]; exact PK.out)
        unfold LastQ
        go_simp
        go_wp2
        go_roundw
        case rel => exact ⟨k + 1, _, S5, by omega, by go_num, FN⟩
        case measure => simp [intOf]; omega
      · rw [List.concat_eq_append] at h0
        obtain ⟨P, hP⟩ : ∃ P, pre0.length = P := ⟨_, rfl⟩
        have OLEN : Hid (os.length = P + 1) := by show _ = _; rw [h0, List.length_append, hP]; rfl
        obtain ⟨L0, hL0⟩ : ∃ L0, L0 = P + 1 := ⟨_, rfl⟩
        have HL0 := keep hL0
        obtain ⟨z0p, z0c, z0es⟩ := z0
        obtain ⟨g0, cc0, hv0⟩ : ∃ g cap, u5 = .slice (some ⟨g, 0, none⟩) L0 cap := by
          rcases hI.out.row.2 with ⟨_, h1⟩ | ⟨g, cap, cur, e, _⟩
          · have := OLEN.out; omega
          · exact ⟨g, cap, by rw [e, OLEN.out, hL0]⟩
        have lc0 : wr.cell? ⟨g0, P, none⟩ = some (.slice z0p z0es.length z0c) := by
          have h1 := hI.out.row
          rw [hv0, OLEN.out, h0, ← hL0] at h1
          have := h1.cells rfl P (.slice z0p z0es.length z0c) (by rw [rv_list, List.map_append, List.getElem?_append_right (by rw [List.length_map, hP]; exact Nat.le_refl _), List.length_map, hP, Nat.sub_self]; rfl)
          rwa [Addr.add_mid, Nat.zero_add] at this
        have ZN0 : Hid (z0es.length ≤ 1000000) := OL.out ⟨z0p, z0c, z0es⟩ (by rw [h0]; exact List.mem_append_right _ (List.mem_singleton.2 rfl))
        have H0 := keep h0
        have HPP := keep hP
        obtain ⟨Z0, hZ0⟩ : ∃ Z, z0es.length = Z := ⟨_, rfl⟩
        rw [hZ0] at lc0
        have HZ0 := keep hZ0
        have zn0 : Z0 ≤ 1000000 := by rw [← hZ0]; exact ZN0.out
        have CZ : Hid (∀ w', Below wr.heap.size wr w' → w'.cell? ⟨g0, P, none⟩ = some (.slice z0p Z0 z0c)) := fun w' hb => below_cell hb lc0
        have hLb : L0 ≤ 1000000 := by have := OLEN.out; omega
        have HN0 : Hid (¬ L0 = 0) := by show ¬ _; omega
        have SUBL : Hid (IntKind.i64.wrap ((L0 : Int) - 1) = (P : Int)) := by show _ = _; rw [wrap_small _ (by omega) (by omega)]; omega
        have WR0 : Hid (IntKind.i64.wrap ((Z0 : Int) + (M : Int)) = (Z0 : Int) + (M : Int)) := wrap_small _ (by omega) (by omega)
        have pp1 : (0 : Int) ≤ (P : Int) := by omega
        have pp2 : (P : Int) < (L0 : Int) := by omega
        have hL0o : os.length = L0 := by rw [OLEN.out, hL0]
        clear h0 hP hZ0 lc0 hL0
        by_cases hm : most < (Z0 : Int) + (M : Int)
        · have PK := keep (NEW.out (.inr ⟨pre0, ⟨z0p, z0c, z0es⟩, H0.out, by simp only; rw [HZ0.out]; exact hm⟩))
          have HMO : Hid (most < (Z0 : Int) + (M : Int)) := hm
          rw [hv0]
          clear hm
          go_wp2_with fail
          refine wp_region_held_drew (S := fun w' => Below wr.heap.size wr w') (by kernel_rfl) ((Below.refl _ _).drew) (fun hZ => ?_)
          refine takeH (i := 0) 19 (v := .int .i64 (L0 : Int)) rfl rfl (by kernel_rfl) (by kernel_rfl) (by kernel_rfl) (fun _ _ _ h => h) (Or.inl ⟨by rfl, ?_⟩) (by assumption) ?_
          · intro w' hSw'
            go_simp
          simp only [Act.put, List.setIfInBounds_toArray, List.set_cons_zero, List.set_cons_succ]
          refine takeH (i := 1) 20 (v := .bool false) rfl rfl (by kernel_rfl) (by kernel_rfl) (by kernel_rfl) (fun _ _ _ h => h) (Or.inl ⟨by rfl, ?_⟩) (by assumption) ?_
          · intro w' hSw'
            go_simp
            exact HN0.out
          simp only [Act.put, List.setIfInBounds_toArray, List.set_cons_zero, List.set_cons_succ]
          refine takeH (i := 2) 21 (v := .bool false) rfl rfl (by kernel_rfl) (by kernel_rfl) (by kernel_rfl) (fun _ _ _ h => h) (Or.inl ⟨by rfl, ?_⟩) (by assumption) ?_
          · intro w' hSw'
            go_simp
          simp only [Act.put, List.setIfInBounds_toArray, List.set_cons_zero, List.set_cons_succ]
          refine takeH (i := 3) 0x16 (v := .slice (some ⟨g0, 0, none⟩) L0 cc0) rfl rfl (by kernel_rfl) (by kernel_rfl) (by kernel_rfl) (fun _ _ _ h => h) (Or.inl ⟨by rfl, ?_⟩) (by assumption) ?_
          · intro w' hSw'
            go_simp
          simp only [Act.put, List.setIfInBounds_toArray, List.set_cons_zero, List.set_cons_succ]
          refine takeH (i := 4) 23 (v := .int .i64 (L0 : Int)) rfl rfl (by kernel_rfl) (by kernel_rfl) (by kernel_rfl) (fun _ _ _ h => h) (Or.inl ⟨by rfl, ?_⟩) (by assumption) ?_
          · intro w' hSw'
            go_simp
          simp only [Act.put, List.setIfInBounds_toArray, List.set_cons_zero, List.set_cons_succ]
          refine takeH (i := 5) 24 (v := .int .i64 (P : Int)) rfl rfl (by kernel_rfl) (by kernel_rfl) (by kernel_rfl) (fun _ _ _ h => h) (Or.inl ⟨by rfl, ?_⟩) (by assumption) ?_
          · intro w' hSw'
            have q9 := SUBL.out
            go_simp
          simp only [Act.put, List.setIfInBounds_toArray, List.set_cons_zero, List.set_cons_succ]
          refine takeH (i := 6) 25 (v := .pointer (some ⟨g0, P, none⟩)) rfl rfl (by kernel_rfl) (by kernel_rfl) (by kernel_rfl) (fun _ _ _ h => h) (Or.inl ⟨by rfl, ?_⟩) (by assumption) ?_
          · intro w' hSw'
            go_simp
          simp only [Act.put, List.setIfInBounds_toArray, List.set_cons_zero, List.set_cons_succ]
          refine takeH (i := 7) 26 (v := .slice z0p Z0 z0c) rfl rfl (by kernel_rfl) (by kernel_rfl) (by kernel_rfl) (fun _ _ _ h => h) (Or.inl ⟨by rfl, ?_⟩) (by assumption) ?_
          · intro w' hSw'
            have q7 := CZ.out w' hSw'
            go_simp
          simp only [Act.put, List.setIfInBounds_toArray, List.set_cons_zero, List.set_cons_succ]
          refine takeH (i := 8) 27 (v := .int .i64 (Z0 : Int)) rfl rfl (by kernel_rfl) (by kernel_rfl) (by kernel_rfl) (fun _ _ _ h => h) (Or.inl ⟨by rfl, ?_⟩) (by assumption) ?_
          · intro w' hSw'
            go_simp
          simp only [Act.put, List.setIfInBounds_toArray, List.set_cons_zero, List.set_cons_succ]
          refine takeH (i := 9) 28 (v := .slice (some ⟨lb, loff, none⟩) N lc) rfl rfl (by kernel_rfl) (by kernel_rfl) (by kernel_rfl) (fun _ _ _ h => h) (Or.inl ⟨by rfl, ?_⟩) (by assumption) ?_
          · intro w' hSw'
            go_simp
          simp only [Act.put, List.setIfInBounds_toArray, List.set_cons_zero, List.set_cons_succ]
          refine takeH (i := 10) 29 (v := .int .i64 (k : Int)) rfl rfl (by kernel_rfl) (by kernel_rfl) (by kernel_rfl) (fun _ _ _ h => h) (Or.inl ⟨by rfl, ?_⟩) (by assumption) ?_
          · intro w' hSw'
            go_simp
          simp only [Act.put, List.setIfInBounds_toArray, List.set_cons_zero, List.set_cons_succ]
          refine takeH (i := 11) 30 (v := .pointer (some ⟨lb, loff + k, none⟩)) rfl rfl (by kernel_rfl) (by kernel_rfl) (by kernel_rfl) (fun _ _ _ h => h) (Or.inl ⟨by rfl, ?_⟩) (by assumption) ?_
          · intro w' hSw'
            go_simp
          simp only [Act.put, List.setIfInBounds_toArray, List.set_cons_zero, List.set_cons_succ]
          refine takeH (i := 12) 31 (v := .slice yp M yc) rfl rfl (by kernel_rfl) (by kernel_rfl) (by kernel_rfl) (fun _ _ _ h => h) (Or.inl ⟨by rfl, ?_⟩) (by assumption) ?_
          · intro w' hSw'
            have q7 := CL.out w' hSw'
            go_simp
          simp only [Act.put, List.setIfInBounds_toArray, List.set_cons_zero, List.set_cons_succ]
          refine takeH (i := 13) 32 (v := .int .i64 (M : Int)) rfl rfl (by kernel_rfl) (by kernel_rfl) (by kernel_rfl) (fun _ _ _ h => h) (Or.inl ⟨by rfl, ?_⟩) (by assumption) ?_
          · intro w' hSw'
            go_simp
          simp only [Act.put, List.setIfInBounds_toArray, List.set_cons_zero, List.set_cons_succ]
          refine takeH (i := 14) 33 (v := .int .i64 ((Z0 : Int) + (M : Int))) rfl rfl (by kernel_rfl) (by kernel_rfl) (by kernel_rfl) (fun _ _ _ h => h) (Or.inl ⟨by rfl, ?_⟩) (by assumption) ?_
          · intro w' hSw'
            have q9 := WR0.out
            go_simp
          simp only [Act.put, List.setIfInBounds_toArray, List.set_cons_zero, List.set_cons_succ]
          refine takeH (i := 15) 34 (v := .int .i64 most) rfl rfl (by kernel_rfl) (by kernel_rfl) (by kernel_rfl) (fun _ _ _ h => h) (Or.inl ⟨by rfl, ?_⟩) (by assumption) ?_
          · intro w' hSw'
            go_simp
          simp only [Act.put, List.setIfInBounds_toArray, List.set_cons_zero, List.set_cons_succ]
          refine takeH (i := 16) 35 (v := .bool true) rfl rfl (by kernel_rfl) (by kernel_rfl) (by kernel_rfl) (fun _ _ _ h => h) (Or.inl ⟨by rfl, ?_⟩) (by assumption) ?_
          · intro w' hSw'
            have q9 := HMO.out
            go_simp
          simp only [Act.put, List.setIfInBounds_toArray, List.set_cons_zero, List.set_cons_succ]
          refine takeH (i := 17) 36 (v := .bool true) rfl rfl (by kernel_rfl) (by kernel_rfl) (by kernel_rfl) (fun _ _ _ h => h) (Or.inl ⟨by rfl, ?_⟩) (by assumption) ?_
          · intro w' hSw'
            go_simp
          simp only [Act.put, List.setIfInBounds_toArray, List.set_cons_zero, List.set_cons_succ]
          refine wpAnyH_done (by kernel_rfl) ?_ _
          obtain ⟨wq, hwq⟩ : ∃ wq, wq = wr.drew := ⟨_, rfl⟩
          rw [← hwq]
          have bq : Hid (Below wr.heap.size wr wq) := by rw [hwq]; exact (Below.refl _ _).drew
          have IQ := keep (hI.out.to bq.out)
          clear hwq hI
          rw [hv0] at IQ
          have rc := keep (rec_cells (k := listKind) wq 24 ⟨none, 0, []⟩)
          have O3 := keep (IQ.out.row.alloc (.cells #[.slice none 0 0] 24))
          have BQ := keep IQ.out.below
          go_wp2_with (at_builtin; go_loud (refine wpList_append_rec listKind_ok rfl _ _ 22 24 rfl w2.heap.size j0 _ 24 Try.underlying22 hj0 hy0 hy1 hy2 rfl (.slice (some ⟨g0, 0, none⟩) L0 cc0) os.length os rfl O3.out _ 1 (⟨none, 0, []⟩ : LV) rfl rc.out (by unfold maxLen; omega) (by omega) (Nat.le_trans BQ.out.size (by rw [World.size_alloc]; omega)) ?_); intro v5 w5 ho5 hg5; have T0 := keep (IQ.out.fresh ho5 hg5); clear ho5 hg5)
          obtain ⟨PL, hPL⟩ : ∃ PL, os.length = PL := ⟨_, rfl⟩
          obtain ⟨NL, hNL⟩ : ∃ NL, NL = PL + 1 := ⟨_, rfl⟩
          obtain ⟨g5, c5, hv5⟩ : ∃ g cap, v5 = .slice (some ⟨g, 0, none⟩) NL cap := by
            rcases T0.out.row.2 with ⟨_, h1⟩ | ⟨g, cap, cur, e, _⟩
            · omega
            · exact ⟨g, cap, by rw [e, hPL, hNL]⟩
          have eN : (L0 : Int) + 1 = (NL : Int) := by omega
          have HPK : Hid (PL ≤ k) := by show _ ≤ _; omega
          rw [hv5, eN]
          obtain ⟨pre, hpre⟩ : ∃ pre, pre = os := ⟨_, rfl⟩
          have HP : Hid (pre.length = PL) := by rw [hpre]; exact hPL
          have HNL := keep hNL
          obtain ⟨zp, zc, zes, S5, ez⟩ : ∃ (zp : Option Addr) (zc : Nat) (zes : List EV) (S5 : Nat), zp = none ∧ zc = 0 ∧ zes = [] ∧ S5 = wq.heap.size := ⟨_, _, _, _, rfl, rfl, rfl, rfl⟩
          obtain ⟨e1, e2, e3, e4⟩ := ez
          have TT := T0
          rw [← e1, ← e2, ← e3, ← e4, ← hpre, hv5] at TT
          rw [← hpre, ← e3] at PK
          rw [← hpre] at FK
          have ZN : Hid (zes.length ≤ 1000000) := by rw [e3]; exact Nat.zero_le _
          clear e1 e2 e3 e4 hpre T0 eN hv5 hPL hNL rc O3 IQ
          have HZ0' : ∃ Z, zes.length = Z := ⟨_, rfl⟩
          obtain ⟨Z, hZ⟩ := HZ0'
          have HZ := keep hZ
          have zn : Z ≤ 1000000 := by rw [← hZ]; exact ZN.out
          clear hZ
          have ZL5 := keep TT.out.last
          have BT := keep TT.out.below
          have hNLb : NL ≤ 1000001 := by have h1 := HNL.out; have h2 := HPK.out; omega
          have SUBN : Hid (IntKind.i64.wrap ((NL : Int) - 1) = (PL : Int)) := by have h1 := HNL.out; show _ = _; rw [wrap_small _ (by omega) (by omega)]; omega
          have q0 : (0 : Int) ≤ (PL : Int) := by omega
          have q1 : (PL : Int) < (NL : Int) := by have h1 := HNL.out; omega
          have ROW : Hid (w5.ownsRow w2.heap.size 24 1 (.slice (some ⟨g5, 0, none⟩) NL c5) NL (rv listKind (pre ++ [⟨zp, zc, zes⟩]))) := by
            have h1 := TT.out.row
            rw [HP.out, ← HNL.out] at h1
            exact h1
          have CELL : Hid (∀ w' : World, w'.ownsRow w2.heap.size 24 1 (.slice (some ⟨g5, 0, none⟩) NL c5) NL (rv listKind (pre ++ [⟨zp, zc, zes⟩])) → w'.cell? ⟨g5, PL, none⟩ = some (.slice zp Z zc) ∧ w'.frozen? ⟨g5, PL, none⟩ = false) := fun w' h1 => by
            obtain ⟨cs, hcs⟩ := own_tag h1 rfl
            refine ⟨?_, by simp [World.frozen?, hcs]⟩
            have := h1.cells rfl PL (.slice zp Z zc) (by rw [rv_list, List.map_append, List.getElem?_append_right (by rw [List.length_map, HP.out]; exact Nat.le_refl _), List.length_map, HP.out, Nat.sub_self, ← HZ.out]; rfl)
            rwa [Addr.add_mid, Nat.zero_add] at this
          have LC : Hid (∀ w', Below w2.heap.size w2 w' → w'.cell? ⟨lb, loff + k, none⟩ = some (.slice yp M yc)) := fun w' hb => by
            have := list_cell (SR.out.below listKind_ok hb) HY.out
            simp only at this
            rwa [HM.out] at this
          have OF : Hid (∀ w6, Below w5.heap.size w5 w6 → w6.cell? ⟨g5, PL, none⟩ = some (.slice zp Z zc) ∧ w6.cell? ⟨lb, loff + k, none⟩ = some (.slice yp M yc)) := fun w6 hb => ⟨(CELL.out w6 (own_block ROW.out (fun j hj => hb.block j (own_size ROW.out hj)))).1, LC.out w6 (BT.out.trans (hb.mono BT.out.size))⟩
          have OFF : Hid (∀ w6, Below w5.heap.size w5 w6 → ∀ w7, w6.grownBy w7 (Value.slice zp Z zc).ownBlock → w7.frozen? ⟨g5, PL, none⟩ = false ∧ w7.cell? ⟨g5, PL, none⟩ = some (.slice zp Z zc) ∧ w7.cell? ⟨lb, loff + k, none⟩ = some (.slice yp M yc)) := fun w6 hb w7 hg => by
            have h1 := own_block (w' := w6) ROW.out (fun j hj => hb.block j (own_size ROW.out hj))
            have h2 := (ZL5.out.below hb).row
            simp only [HZ.out] at h2
            have h3 := own_apartT h1 h2 hg (by decide)
            have B7 : Below w2.heap.size w2 w7 := (BT.out.trans (hb.mono BT.out.size)).grown hg (Nat.le_trans BT.out.size hb.size) (fun j hj => Nat.le_trans TT.out.base (h2.lt j hj).1)
            exact ⟨(CELL.out w7 h3).2, (CELL.out w7 h3).1, LC.out w7 B7⟩
          have zcell := (OF.out w5 (Below.refl _ _)).1
          have lcell := (OF.out w5 (Below.refl _ _)).2
          have CP5 : Hid (∀ w', Below w5.heap.size w5 w' → _) := fun w' hb => CP.out w' (BT.out.trans (hb.mono BT.out.size))
          go_wp2_with fail
          refine wp_region_parted (fun w' => w'.cell? ⟨g5, PL, none⟩ = some (.slice zp Z zc) ∧ w'.cell? ⟨lb, loff + k, none⟩ = some (.slice yp M yc)) 15 _ (by kernel_rfl) rfl rfl rfl (by kernel_rfl) (by kernel_rfl) (by exact ⟨zcell, lcell⟩) (fun hHeld => ?_)
          simp only [List.setIfInBounds_toArray, List.set_cons_succ, List.set_cons_zero, mute]
          refine takeH (i := 0) 42 (v := .slice (some ⟨g5, 0, none⟩) NL c5) rfl rfl (by kernel_rfl) (by kernel_rfl) (by kernel_rfl) (fun _ _ _ h => h) (Or.inl ⟨by rfl, ?_⟩) (by assumption) ?_
          · intro w' hSw'
            go_simp
          simp only [Act.put, List.setIfInBounds_toArray, List.set_cons_zero, List.set_cons_succ]
          refine takeH (i := 1) 43 (v := .int .i64 (NL : Int)) rfl rfl (by kernel_rfl) (by kernel_rfl) (by kernel_rfl) (fun _ _ _ h => h) (Or.inl ⟨by rfl, ?_⟩) (by assumption) ?_
          · intro w' hSw'
            go_simp
          simp only [Act.put, List.setIfInBounds_toArray, List.set_cons_zero, List.set_cons_succ]
          refine takeH (i := 2) 44 (v := .int .i64 (PL : Int)) rfl rfl (by kernel_rfl) (by kernel_rfl) (by kernel_rfl) (fun _ _ _ h => h) (Or.inl ⟨by rfl, ?_⟩) (by assumption) ?_
          · intro w' hSw'
            have q9 := SUBN.out
            go_simp
          simp only [Act.put, List.setIfInBounds_toArray, List.set_cons_zero, List.set_cons_succ]
          refine takeH (i := 3) 45 (v := .slice (some ⟨g5, 0, none⟩) NL c5) rfl rfl (by kernel_rfl) (by kernel_rfl) (by kernel_rfl) (fun _ _ _ h => h) (Or.inl ⟨by rfl, ?_⟩) (by assumption) ?_
          · intro w' hSw'
            go_simp
          simp only [Act.put, List.setIfInBounds_toArray, List.set_cons_zero, List.set_cons_succ]
          refine takeH (i := 4) 46 (v := .int .i64 (NL : Int)) rfl rfl (by kernel_rfl) (by kernel_rfl) (by kernel_rfl) (fun _ _ _ h => h) (Or.inl ⟨by rfl, ?_⟩) (by assumption) ?_
          · intro w' hSw'
            go_simp
          simp only [Act.put, List.setIfInBounds_toArray, List.set_cons_zero, List.set_cons_succ]
          refine takeH (i := 5) 47 (v := .int .i64 (PL : Int)) rfl rfl (by kernel_rfl) (by kernel_rfl) (by kernel_rfl) (fun _ _ _ h => h) (Or.inl ⟨by rfl, ?_⟩) (by assumption) ?_
          · intro w' hSw'
            have q9 := SUBN.out
            go_simp
          simp only [Act.put, List.setIfInBounds_toArray, List.set_cons_zero, List.set_cons_succ]
          refine takeH (i := 6) 48 (v := .pointer (some ⟨g5, PL, none⟩)) rfl rfl (by kernel_rfl) (by kernel_rfl) (by kernel_rfl) (fun _ _ _ h => h) (Or.inl ⟨by rfl, ?_⟩) (by assumption) ?_
          · intro w' hSw'
            go_simp
          simp only [Act.put, List.setIfInBounds_toArray, List.set_cons_zero, List.set_cons_succ]
          refine takeH (i := 7) 49 (v := .slice zp Z zc) rfl rfl (by kernel_rfl) (by kernel_rfl) (by kernel_rfl) (fun _ _ _ h => h) (Or.inl ⟨by rfl, ?_⟩) (by assumption) ?_
          · intro w' hSw'
            obtain ⟨y0, y1⟩ := hSw'
            go_simp
          simp only [Act.put, List.setIfInBounds_toArray, List.set_cons_zero, List.set_cons_succ]
          refine takeH (i := 8) 50 (v := .slice (some ⟨lb, loff, none⟩) N lc) rfl rfl (by kernel_rfl) (by kernel_rfl) (by kernel_rfl) (fun _ _ _ h => h) (Or.inl ⟨by rfl, ?_⟩) (by assumption) ?_
          · intro w' hSw'
            go_simp
          simp only [Act.put, List.setIfInBounds_toArray, List.set_cons_zero, List.set_cons_succ]
          refine takeH (i := 9) 51 (v := .int .i64 (k : Int)) rfl rfl (by kernel_rfl) (by kernel_rfl) (by kernel_rfl) (fun _ _ _ h => h) (Or.inl ⟨by rfl, ?_⟩) (by assumption) ?_
          · intro w' hSw'
            go_simp
          simp only [Act.put, List.setIfInBounds_toArray, List.set_cons_zero, List.set_cons_succ]
          refine takeH (i := 10) 52 (v := .pointer (some ⟨lb, loff + k, none⟩)) rfl rfl (by kernel_rfl) (by kernel_rfl) (by kernel_rfl) (fun _ _ _ h => h) (Or.inl ⟨by rfl, ?_⟩) (by assumption) ?_
          · intro w' hSw'
            go_simp
          simp only [Act.put, List.setIfInBounds_toArray, List.set_cons_zero, List.set_cons_succ]
          refine takeH (i := 11) 53 (v := .slice yp M yc) rfl rfl (by kernel_rfl) (by kernel_rfl) (by kernel_rfl) (fun _ _ _ h => h) (Or.inl ⟨by rfl, ?_⟩) (by assumption) ?_
          · intro w' hSw'
            obtain ⟨y0, y1⟩ := hSw'
            go_simp
          simp only [Act.put, List.setIfInBounds_toArray, List.set_cons_zero, List.set_cons_succ]
          refine wpAnyH_ready (rs := [12]) (by kernel_rfl) (by simp) ?_
          refine AllReadyH.cons rfl (fun K hK => ?_) AllReadyH.nil
          go_simp
          refine (CP5.out w5.drew (Below.refl _ _).drew).mono ?_
          rintro e w6 ⟨za, ac, us, rfl, hul, he6, hu6, hb6⟩
          have UL := keep hul
          have b6 : Hid (Below w5.heap.size w5 w6) := ((Below.refl _ _).drew).trans (hb6.mono (Nat.le_refl _))
          have U6 := keep hu6
          have Z6 := keep (ZL5.out.below b6.out)
          have ZR6 : Hid (w6.ownsRow S5 36 4 (.slice zp Z zc) Z (rv entKind zes)) := by have := Z6.out.row; rwa [HZ.out] at this
          have US6 : Hid (∀ y ∈ us, OwnE S5 w6 y) := fun y hy => (he6.each y hy).base TT.out.top
          obtain ⟨xa, xc, ex, hxs, _⟩ := he6.src
          have XS : Hid (RSrc entKind w6 za us.length ac us) := by cases ex; exact hxs
          clear hul he6 hu6 hb6 ex hxs
          have s6 := OF.out w6 b6.out
          go_wp2_with fail
          refine hK.out _ _ s6 (fun hA1 => ?_)
          clear hK K
          refine wpAnyH_ready (rs := [13]) (by kernel_rfl) (by simp) ?_
          refine AllReadyH.cons rfl (fun K hK => ?_) AllReadyH.nil
          refine step_append_rows rfl _ _ 24 rfl S5 36 i0 _ 4 64 Try.underlying24 hi0 hz0 hz1 hz2 rfl (by decide) (.slice zp Z zc) Z (rv entKind zes) rfl ZR6.out za us.length ac (rv entKind us) rfl XS.out.nil (by rw [rv_length entKind_ok]; rfl) XS.out.cells (rv_one entKind_ok us) (by rw [UL.out]; unfold maxLen; omega) (by rw [UL.out]; omega) (Nat.le_trans TT.out.top b6.out.size) ?_
          intro a7 c7 w7 ho7 hg7
          have HO7 := keep ho7
          have HG7 := keep hg7
          obtain ⟨of7, oc7⟩ := OFF.out w6 b6.out w7 hg7
          clear ho7 hg7
          refine hK.out _ _ oc7 (fun hA2 => ?_)
          clear hK K
          refine takeH (i := 14) 56 (v := .pointer (some ⟨g5, PL, none⟩)) rfl rfl (by kernel_rfl) (by kernel_rfl) (by kernel_rfl) (fun _ _ _ h => h) (Or.inl ⟨by rfl, ?_⟩) (by assumption) ?_
          · intro w' hSw'
            go_simp
          simp only [Act.put, List.setIfInBounds_toArray]
          have oc8 := oc7.1
          refine wpAnyH_ready (rs := [15]) (by kernel_rfl) (by simp) ?_
          refine AllReadyH.cons rfl (fun K hK => ?_) AllReadyH.nil
          go_simp
          refine hK.out _ _ oc7 (fun hA3 => ?_)
          clear hK K
          refine wpAnyH_done (by kernel_rfl) ?_ _
          have FN : Hid (SplI w2 most ls (k + 1) (pre ++ [⟨a7, c7, zes ++ us⟩]) (.slice (some ⟨g5, 0, none⟩) NL c5) S5 (w7.setCell ⟨g5, PL, none⟩ (.slice a7 (Z + us.length) c7))) := SplT.next' HP.out HZ.out HNL.out TT.out b6.out US6.out HO7.out HG7.out most ls k HPK.out (by rw [FK.out, U6.out]; exact PK.out)
          unfold LastQ
          go_simp
          go_wp2
          go_roundw
          case rel => exact ⟨k + 1, _, S5, by omega, by go_num, FN⟩
          case measure => simp [intOf]; omega
        · have HMO : Hid (¬ most < (Z0 : Int) + (M : Int)) := hm
          have PK : Hid (lents pre0 ++ [z0es.map (·.e) ++ yes.map (·.e)] = Mg.pack most (lents os) (yes.map (·.e))) := by
            have e1 : lents (pre0 ++ [⟨z0p, z0c, z0es⟩]) = lents pre0 ++ [z0es.map (·.e)] := by simp [lents]
            show _ = _
            rw [H0.out, e1, Mg.pack_snoc, if_neg (by rw [List.length_map, List.length_map, HM.out, HZ0.out]; exact hm)]
          rw [hv0]
          clear hm
          go_wp2_with fail
          refine wp_region_held_drew (S := fun w' => Below wr.heap.size wr w') (by kernel_rfl) ((Below.refl _ _).drew) (fun hZ => ?_)
          refine takeH (i := 0) 19 (v := .int .i64 (L0 : Int)) rfl rfl (by kernel_rfl) (by kernel_rfl) (by kernel_rfl) (fun _ _ _ h => h) (Or.inl ⟨by rfl, ?_⟩) (by assumption) ?_
          · intro w' hSw'
            go_simp
          simp only [Act.put, List.setIfInBounds_toArray, List.set_cons_zero, List.set_cons_succ]
          refine takeH (i := 1) 20 (v := .bool false) rfl rfl (by kernel_rfl) (by kernel_rfl) (by kernel_rfl) (fun _ _ _ h => h) (Or.inl ⟨by rfl, ?_⟩) (by assumption) ?_
          · intro w' hSw'
            go_simp
            exact HN0.out
          simp only [Act.put, List.setIfInBounds_toArray, List.set_cons_zero, List.set_cons_succ]
          refine takeH (i := 2) 21 (v := .bool false) rfl rfl (by kernel_rfl) (by kernel_rfl) (by kernel_rfl) (fun _ _ _ h => h) (Or.inl ⟨by rfl, ?_⟩) (by assumption) ?_
          · intro w' hSw'
            go_simp
          simp only [Act.put, List.setIfInBounds_toArray, List.set_cons_zero, List.set_cons_succ]
          refine takeH (i := 3) 0x16 (v := .slice (some ⟨g0, 0, none⟩) L0 cc0) rfl rfl (by kernel_rfl) (by kernel_rfl) (by kernel_rfl) (fun _ _ _ h => h) (Or.inl ⟨by rfl, ?_⟩) (by assumption) ?_
          · intro w' hSw'
            go_simp
          simp only [Act.put, List.setIfInBounds_toArray, List.set_cons_zero, List.set_cons_succ]
          refine takeH (i := 4) 23 (v := .int .i64 (L0 : Int)) rfl rfl (by kernel_rfl) (by kernel_rfl) (by kernel_rfl) (fun _ _ _ h => h) (Or.inl ⟨by rfl, ?_⟩) (by assumption) ?_
          · intro w' hSw'
            go_simp
          simp only [Act.put, List.setIfInBounds_toArray, List.set_cons_zero, List.set_cons_succ]
          refine takeH (i := 5) 24 (v := .int .i64 (P : Int)) rfl rfl (by kernel_rfl) (by kernel_rfl) (by kernel_rfl) (fun _ _ _ h => h) (Or.inl ⟨by rfl, ?_⟩) (by assumption) ?_
          · intro w' hSw'
            have q9 := SUBL.out
            go_simp
          simp only [Act.put, List.setIfInBounds_toArray, List.set_cons_zero, List.set_cons_succ]
          refine takeH (i := 6) 25 (v := .pointer (some ⟨g0, P, none⟩)) rfl rfl (by kernel_rfl) (by kernel_rfl) (by kernel_rfl) (fun _ _ _ h => h) (Or.inl ⟨by rfl, ?_⟩) (by assumption) ?_
          · intro w' hSw'
            go_simp
          simp only [Act.put, List.setIfInBounds_toArray, List.set_cons_zero, List.set_cons_succ]
          refine takeH (i := 7) 26 (v := .slice z0p Z0 z0c) rfl rfl (by kernel_rfl) (by kernel_rfl) (by kernel_rfl) (fun _ _ _ h => h) (Or.inl ⟨by rfl, ?_⟩) (by assumption) ?_
          · intro w' hSw'
            have q7 := CZ.out w' hSw'
            go_simp
          simp only [Act.put, List.setIfInBounds_toArray, List.set_cons_zero, List.set_cons_succ]
          refine takeH (i := 8) 27 (v := .int .i64 (Z0 : Int)) rfl rfl (by kernel_rfl) (by kernel_rfl) (by kernel_rfl) (fun _ _ _ h => h) (Or.inl ⟨by rfl, ?_⟩) (by assumption) ?_
          · intro w' hSw'
            go_simp
          simp only [Act.put, List.setIfInBounds_toArray, List.set_cons_zero, List.set_cons_succ]
          refine takeH (i := 9) 28 (v := .slice (some ⟨lb, loff, none⟩) N lc) rfl rfl (by kernel_rfl) (by kernel_rfl) (by kernel_rfl) (fun _ _ _ h => h) (Or.inl ⟨by rfl, ?_⟩) (by assumption) ?_
          · intro w' hSw'
            go_simp
          simp only [Act.put, List.setIfInBounds_toArray, List.set_cons_zero, List.set_cons_succ]
          refine takeH (i := 10) 29 (v := .int .i64 (k : Int)) rfl rfl (by kernel_rfl) (by kernel_rfl) (by kernel_rfl) (fun _ _ _ h => h) (Or.inl ⟨by rfl, ?_⟩) (by assumption) ?_
          · intro w' hSw'
            go_simp
          simp only [Act.put, List.setIfInBounds_toArray, List.set_cons_zero, List.set_cons_succ]
          refine takeH (i := 11) 30 (v := .pointer (some ⟨lb, loff + k, none⟩)) rfl rfl (by kernel_rfl) (by kernel_rfl) (by kernel_rfl) (fun _ _ _ h => h) (Or.inl ⟨by rfl, ?_⟩) (by assumption) ?_
          · intro w' hSw'
            go_simp
          simp only [Act.put, List.setIfInBounds_toArray, List.set_cons_zero, List.set_cons_succ]
          refine takeH (i := 12) 31 (v := .slice yp M yc) rfl rfl (by kernel_rfl) (by kernel_rfl) (by kernel_rfl) (fun _ _ _ h => h) (Or.inl ⟨by rfl, ?_⟩) (by assumption) ?_
          · intro w' hSw'
            have q7 := CL.out w' hSw'
            go_simp
          simp only [Act.put, List.setIfInBounds_toArray, List.set_cons_zero, List.set_cons_succ]
          refine takeH (i := 13) 32 (v := .int .i64 (M : Int)) rfl rfl (by kernel_rfl) (by kernel_rfl) (by kernel_rfl) (fun _ _ _ h => h) (Or.inl ⟨by rfl, ?_⟩) (by assumption) ?_
          · intro w' hSw'
            go_simp
          simp only [Act.put, List.setIfInBounds_toArray, List.set_cons_zero, List.set_cons_succ]
          refine takeH (i := 14) 33 (v := .int .i64 ((Z0 : Int) + (M : Int))) rfl rfl (by kernel_rfl) (by kernel_rfl) (by kernel_rfl) (fun _ _ _ h => h) (Or.inl ⟨by rfl, ?_⟩) (by assumption) ?_
          · intro w' hSw'
            have q9 := WR0.out
            go_simp
          simp only [Act.put, List.setIfInBounds_toArray, List.set_cons_zero, List.set_cons_succ]
          refine takeH (i := 15) 34 (v := .int .i64 most) rfl rfl (by kernel_rfl) (by kernel_rfl) (by kernel_rfl) (fun _ _ _ h => h) (Or.inl ⟨by rfl, ?_⟩) (by assumption) ?_
          · intro w' hSw'
            go_simp
          simp only [Act.put, List.setIfInBounds_toArray, List.set_cons_zero, List.set_cons_succ]
          refine takeH (i := 16) 35 (v := .bool false) rfl rfl (by kernel_rfl) (by kernel_rfl) (by kernel_rfl) (fun _ _ _ h => h) (Or.inl ⟨by rfl, ?_⟩) (by assumption) ?_
          · intro w' hSw'
            have q9 := HMO.out
            go_simp
          simp only [Act.put, List.setIfInBounds_toArray, List.set_cons_zero, List.set_cons_succ]
          refine takeH (i := 17) 36 (v := .bool false) rfl rfl (by kernel_rfl) (by kernel_rfl) (by kernel_rfl) (fun _ _ _ h => h) (Or.inl ⟨by rfl, ?_⟩) (by assumption) ?_
          · intro w' hSw'
            go_simp
          simp only [Act.put, List.setIfInBounds_toArray, List.set_cons_zero, List.set_cons_succ]
          refine wpAnyH_done (by kernel_rfl) ?_ _
          obtain ⟨wq, hwq⟩ : ∃ wq, wq = wr.drew := ⟨_, rfl⟩
          rw [← hwq]
          have bq : Hid (Below wr.heap.size wr wq) := by rw [hwq]; exact (Below.refl _ _).drew
          have IQ := keep (hI.out.to bq.out)
          clear hwq hI
          have IR := IQ.out
          rw [H0.out, hv0] at IR
          have TT := keep IR.tops
          obtain ⟨pre, zp, zc, zes, S5, w5, g5, c5, PL, NL, e1, e2, e3, e4, e5, e6, e7, e8, e9, e10⟩ : ∃ (pre : List LV) (zp : Option Addr) (zc : Nat) (zes : List EV) (S5 : Nat) (w5 : World) (g5 c5 PL NL : Nat), pre = pre0 ∧ zp = z0p ∧ zc = z0c ∧ zes = z0es ∧ S5 = S ∧ w5 = wq ∧ g5 = g0 ∧ c5 = cc0 ∧ PL = P ∧ NL = L0 := ⟨_, _, _, _, _, _, _, _, _, _, rfl, rfl, rfl, rfl, rfl, rfl, rfl, rfl, rfl, rfl⟩
          rw [← e1, ← e2, ← e3, ← e4, ← e5, ← e6, ← e7, ← e8, ← e10] at TT
          rw [← e1, ← e4] at PK
          rw [← e6, ← e7, ← e8, ← e10]
          have HP : Hid (pre.length = PL) := by rw [e1, e9]; exact HPP.out
          have HNL : Hid (NL = PL + 1) := by rw [e9, e10]; exact HL0.out
          have HPK : Hid (PL ≤ k) := by rw [e9]; show _ ≤ _; have h1 := HL0.out; have h2 := OLEN.out; omega
          have ZN : Hid (zes.length ≤ 1000000) := by rw [e4]; exact ZN0.out
          clear e1 e2 e3 e4 e5 e6 e7 e8 e9 e10 IR IQ hv0
          have HZ0' : ∃ Z, zes.length = Z := ⟨_, rfl⟩
          obtain ⟨Z, hZ⟩ := HZ0'
          have HZ := keep hZ
          have zn : Z ≤ 1000000 := by rw [← hZ]; exact ZN.out
          clear hZ
          have ZL5 := keep TT.out.last
          have BT := keep TT.out.below
          have hNLb : NL ≤ 1000001 := by have h1 := HNL.out; have h2 := HPK.out; omega
          have SUBN : Hid (IntKind.i64.wrap ((NL : Int) - 1) = (PL : Int)) := by have h1 := HNL.out; show _ = _; rw [wrap_small _ (by omega) (by omega)]; omega
          have q0 : (0 : Int) ≤ (PL : Int) := by omega
          have q1 : (PL : Int) < (NL : Int) := by have h1 := HNL.out; omega
          have ROW : Hid (w5.ownsRow w2.heap.size 24 1 (.slice (some ⟨g5, 0, none⟩) NL c5) NL (rv listKind (pre ++ [⟨zp, zc, zes⟩]))) := by
            have h1 := TT.out.row
            rw [HP.out, ← HNL.out] at h1
            exact h1
          have CELL : Hid (∀ w' : World, w'.ownsRow w2.heap.size 24 1 (.slice (some ⟨g5, 0, none⟩) NL c5) NL (rv listKind (pre ++ [⟨zp, zc, zes⟩])) → w'.cell? ⟨g5, PL, none⟩ = some (.slice zp Z zc) ∧ w'.frozen? ⟨g5, PL, none⟩ = false) := fun w' h1 => by
            obtain ⟨cs, hcs⟩ := own_tag h1 rfl
            refine ⟨?_, by simp [World.frozen?, hcs]⟩
            have := h1.cells rfl PL (.slice zp Z zc) (by rw [rv_list, List.map_append, List.getElem?_append_right (by rw [List.length_map, HP.out]; exact Nat.le_refl _), List.length_map, HP.out, Nat.sub_self, ← HZ.out]; rfl)
            rwa [Addr.add_mid, Nat.zero_add] at this
          have LC : Hid (∀ w', Below w2.heap.size w2 w' → w'.cell? ⟨lb, loff + k, none⟩ = some (.slice yp M yc)) := fun w' hb => by
            have := list_cell (SR.out.below listKind_ok hb) HY.out
            simp only at this
            rwa [HM.out] at this
          have OF : Hid (∀ w6, Below w5.heap.size w5 w6 → w6.cell? ⟨g5, PL, none⟩ = some (.slice zp Z zc) ∧ w6.cell? ⟨lb, loff + k, none⟩ = some (.slice yp M yc)) := fun w6 hb => ⟨(CELL.out w6 (own_block ROW.out (fun j hj => hb.block j (own_size ROW.out hj)))).1, LC.out w6 (BT.out.trans (hb.mono BT.out.size))⟩
          have OFF : Hid (∀ w6, Below w5.heap.size w5 w6 → ∀ w7, w6.grownBy w7 (Value.slice zp Z zc).ownBlock → w7.frozen? ⟨g5, PL, none⟩ = false ∧ w7.cell? ⟨g5, PL, none⟩ = some (.slice zp Z zc) ∧ w7.cell? ⟨lb, loff + k, none⟩ = some (.slice yp M yc)) := fun w6 hb w7 hg => by
            have h1 := own_block (w' := w6) ROW.out (fun j hj => hb.block j (own_size ROW.out hj))
            have h2 := (ZL5.out.below hb).row
            simp only [HZ.out] at h2
            have h3 := own_apartT h1 h2 hg (by decide)
            have B7 : Below w2.heap.size w2 w7 := (BT.out.trans (hb.mono BT.out.size)).grown hg (Nat.le_trans BT.out.size hb.size) (fun j hj => Nat.le_trans TT.out.base (h2.lt j hj).1)
            exact ⟨(CELL.out w7 h3).2, (CELL.out w7 h3).1, LC.out w7 B7⟩
          have zcell := (OF.out w5 (Below.refl _ _)).1
          have lcell := (OF.out w5 (Below.refl _ _)).2
          have CP5 : Hid (∀ w', Below w5.heap.size w5 w' → _) := fun w' hb => CP.out w' (BT.out.trans (hb.mono BT.out.size))
          go_wp2_with fail
          refine wp_region_parted (fun w' => w'.cell? ⟨g5, PL, none⟩ = some (.slice zp Z zc) ∧ w'.cell? ⟨lb, loff + k, none⟩ = some (.slice yp M yc)) 15 _ (by kernel_rfl) rfl rfl rfl (by kernel_rfl) (by kernel_rfl) (by exact ⟨zcell, lcell⟩) (fun hHeld => ?_)
          simp only [List.setIfInBounds_toArray, List.set_cons_succ, List.set_cons_zero, mute]
          refine takeH (i := 0) 42 (v := .slice (some ⟨g5, 0, none⟩) NL c5) rfl rfl (by kernel_rfl) (by kernel_rfl) (by kernel_rfl) (fun _ _ _ h => h) (Or.inl ⟨by rfl, ?_⟩) (by assumption) ?_
          · intro w' hSw'
            go_simp
          simp only [Act.put, List.setIfInBounds_toArray, List.set_cons_zero, List.set_cons_succ]
          refine takeH (i := 1) 43 (v := .int .i64 (NL : Int)) rfl rfl (by kernel_rfl) (by kernel_rfl) (by kernel_rfl) (fun _ _ _ h => h) (Or.inl ⟨by rfl, ?_⟩) (by assumption) ?_
          · intro w' hSw'
            go_simp
          simp only [Act.put, List.setIfInBounds_toArray, List.set_cons_zero, List.set_cons_succ]
          refine takeH (i := 2) 44 (v := .int .i64 (PL : Int)) rfl rfl (by kernel_rfl) (by kernel_rfl) (by kernel_rfl) (fun _ _ _ h => h) (Or.inl ⟨by rfl, ?_⟩) (by assumption) ?_
          · intro w' hSw'
            have q9 := SUBN.out
            go_simp
          simp only [Act.put, List.setIfInBounds_toArray, List.set_cons_zero, List.set_cons_succ]
          refine takeH (i := 3) 45 (v := .slice (some ⟨g5, 0, none⟩) NL c5) rfl rfl (by kernel_rfl) (by kernel_rfl) (by kernel_rfl) (fun _ _ _ h => h) (Or.inl ⟨by rfl, ?_⟩) (by assumption) ?_
          · intro w' hSw'
            go_simp
          simp only [Act.put, List.setIfInBounds_toArray, List.set_cons_zero, List.set_cons_succ]
          refine takeH (i := 4) 46 (v := .int .i64 (NL : Int)) rfl rfl (by kernel_rfl) (by kernel_rfl) (by kernel_rfl) (fun _ _ _ h => h) (Or.inl ⟨by rfl, ?_⟩) (by assumption) ?_
          · intro w' hSw'
            go_simp
          simp only [Act.put, List.setIfInBounds_toArray, List.set_cons_zero, List.set_cons_succ]
          refine takeH (i := 5) 47 (v := .int .i64 (PL : Int)) rfl rfl (by kernel_rfl) (by kernel_rfl) (by kernel_rfl) (fun _ _ _ h => h) (Or.inl ⟨by rfl, ?_⟩) (by assumption) ?_
          · intro w' hSw'
            have q9 := SUBN.out
            go_simp
          simp only [Act.put, List.setIfInBounds_toArray, List.set_cons_zero, List.set_cons_succ]
          refine takeH (i := 6) 48 (v := .pointer (some ⟨g5, PL, none⟩)) rfl rfl (by kernel_rfl) (by kernel_rfl) (by kernel_rfl) (fun _ _ _ h => h) (Or.inl ⟨by rfl, ?_⟩) (by assumption) ?_
          · intro w' hSw'
            go_simp
          simp only [Act.put, List.setIfInBounds_toArray, List.set_cons_zero, List.set_cons_succ]
          refine takeH (i := 7) 49 (v := .slice zp Z zc) rfl rfl (by kernel_rfl) (by kernel_rfl) (by kernel_rfl) (fun _ _ _ h => h) (Or.inl ⟨by rfl, ?_⟩) (by assumption) ?_
          · intro w' hSw'
            obtain ⟨y0, y1⟩ := hSw'
            go_simp
          simp only [Act.put, List.setIfInBounds_toArray, List.set_cons_zero, List.set_cons_succ]
          refine takeH (i := 8) 50 (v := .slice (some ⟨lb, loff, none⟩) N lc) rfl rfl (by kernel_rfl) (by kernel_rfl) (by kernel_rfl) (fun _ _ _ h => h) (Or.inl ⟨by rfl, ?_⟩) (by assumption) ?_
          · intro w' hSw'
            go_simp
          simp only [Act.put, List.setIfInBounds_toArray, List.set_cons_zero, List.set_cons_succ]
          refine takeH (i := 9) 51 (v := .int .i64 (k : Int)) rfl rfl (by kernel_rfl) (by kernel_rfl) (by kernel_rfl) (fun _ _ _ h => h) (Or.inl ⟨by rfl, ?_⟩) (by assumption) ?_
          · intro w' hSw'
            go_simp
          simp only [Act.put, List.setIfInBounds_toArray, List.set_cons_zero, List.set_cons_succ]
          refine takeH (i := 10) 52 (v := .pointer (some ⟨lb, loff + k, none⟩)) rfl rfl (by kernel_rfl) (by kernel_rfl) (by kernel_rfl) (fun _ _ _ h => h) (Or.inl ⟨by rfl, ?_⟩) (by assumption) ?_
          · intro w' hSw'
            go_simp
          simp only [Act.put, List.setIfInBounds_toArray, List.set_cons_zero, List.set_cons_succ]
          refine takeH (i := 11) 53 (v := .slice yp M yc) rfl rfl (by kernel_rfl) (by kernel_rfl) (by kernel_rfl) (fun _ _ _ h => h) (Or.inl ⟨by rfl, ?_⟩) (by assumption) ?_
          · intro w' hSw'
            obtain ⟨y0, y1⟩ := hSw'
            go_simp
          simp only [Act.put, List.setIfInBounds_toArray, List.set_cons_zero, List.set_cons_succ]
          refine wpAnyH_ready (rs := [12]) (by kernel_rfl) (by simp) ?_
          refine AllReadyH.cons rfl (fun K hK => ?_) AllReadyH.nil
          go_simp
          refine (CP5.out w5.drew (Below.refl _ _).drew).mono ?_
          rintro e w6 ⟨za, ac, us, rfl, hul, he6, hu6, hb6⟩
          have UL := keep hul
          have b6 : Hid (Below w5.heap.size w5 w6) := ((Below.refl _ _).drew).trans (hb6.mono (Nat.le_refl _))
          have U6 := keep hu6
          have Z6 := keep (ZL5.out.below b6.out)
          have ZR6 : Hid (w6.ownsRow S5 36 4 (.slice zp Z zc) Z (rv entKind zes)) := by have := Z6.out.row; rwa [HZ.out] at this
          have US6 : Hid (∀ y ∈ us, OwnE S5 w6 y) := fun y hy => (he6.each y hy).base TT.out.top
          obtain ⟨xa, xc, ex, hxs, _⟩ := he6.src
          have XS : Hid (RSrc entKind w6 za us.length ac us) := by cases ex; exact hxs
          clear hul he6 hu6 hb6 ex hxs
          have s6 := OF.out w6 b6.out
          go_wp2_with fail
          refine hK.out _ _ s6 (fun hA1 => ?_)
          clear hK K
          refine wpAnyH_ready (rs := [13]) (by kernel_rfl) (by simp) ?_
          refine AllReadyH.cons rfl (fun K hK => ?_) AllReadyH.nil
          refine step_append_rows rfl _ _ 24 rfl S5 36 i0 _ 4 64 Try.underlying24 hi0 hz0 hz1 hz2 rfl (by decide) (.slice zp Z zc) Z (rv entKind zes) rfl ZR6.out za us.length ac (rv entKind us) rfl XS.out.nil (by rw [rv_length entKind_ok]; rfl) XS.out.cells (rv_one entKind_ok us) (by rw [UL.out]; unfold maxLen; omega) (by rw [UL.out]; omega) (Nat.le_trans TT.out.top b6.out.size) ?_
          intro a7 c7 w7 ho7 hg7
          have HO7 := keep ho7
          have HG7 := keep hg7
          obtain ⟨of7, oc7⟩ := OFF.out w6 b6.out w7 hg7
          clear ho7 hg7
          refine hK.out _ _ oc7 (fun hA2 => ?_)
          clear hK K
          refine takeH (i := 14) 56 (v := .pointer (some ⟨g5, PL, none⟩)) rfl rfl (by kernel_rfl) (by kernel_rfl) (by kernel_rfl) (fun _ _ _ h => h) (Or.inl ⟨by rfl, ?_⟩) (by assumption) ?_
          · intro w' hSw'
            go_simp
          simp only [Act.put, List.setIfInBounds_toArray]
          have oc8 := oc7.1
          refine wpAnyH_ready (rs := [15]) (by kernel_rfl) (by simp) ?_
          refine AllReadyH.cons rfl (fun K hK => ?_) AllReadyH.nil
          go_simp
          refine hK.out _ _ oc7 (fun hA3 => ?_)
          clear hK K
          refine wpAnyH_done (by kernel_rfl) ?_ _
          have FN : Hid (SplI w2 most ls (k + 1) (pre ++ [⟨a7, c7, zes ++ us⟩]) (.slice (some ⟨g5, 0, none⟩) NL c5) S5 (w7.setCell ⟨g5, PL, none⟩ (.slice a7 (Z + us.length) c7))) := SplT.next' HP.out HZ.out HNL.out TT.out b6.out US6.out HO7.out HG7.out most ls k HPK.out (by rw [FK.out, U6.out]; exact PK.out)
          unfold LastQ
          go_simp
          go_wp2
          go_roundw
          case rel => exact ⟨k + 1, _, S5, by omega, by go_num, FN⟩
          case measure => simp [intOf]; omega
    · obtain rfl : k = N := by omega
      have FV : Hid (lents os = Mg.split (es.map (·.e)) most) := by
        show _ = _
        rw [hI.out.val, List.take_of_length_le (by rw [HN.out]; exact Nat.le_refl _)]
        unfold Mg.split
        rw [part_ents VL.out]
      have FA : Hid (∀ y ∈ os, Ents w.heap.size wr (.slice y.p y.es.length y.c) y.es) := fun y hy => (hI.out.all y hy).base B2.out.size
      have FR := keep (own_lower hI.out.row B2.out.size)
      have FN : Hid (os.length ≤ n) := Nat.le_trans hon HLN.out
      clear hI
      go_wp2
      go_ret
      first
        | exact ⟨_, os, rfl, FR.out, FA.out, FV.out, FN.out, B2.out.trans (HB.out.mono B2.out.size)⟩
        | exact ⟨_, rfl, os, FR.out, FA.out, FV.out, FN.out, B2.out.trans (HB.out.mono B2.out.size)⟩
end Go.Proofs.Ytgdggeacjfhkkaa
