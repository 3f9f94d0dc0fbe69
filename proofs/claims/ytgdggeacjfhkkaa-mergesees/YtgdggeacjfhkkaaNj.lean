/- The walk of MergeSees. -/
import Derived.Test.YtgdggeacjfhkkaaNa
import Derived.Test.YtgdggeacjfhkkaaNw
import Derived.Test.YtgdggeacjfhkkaaNx
import Derived.Test.YtgdggeacjfhkkaaOp
namespace Go.Proofs.Ytgdggeacjfhkkaa
open Go.RowKit
open Sk (Ent)

theorem flat_few {f : List Ent → List Ent} (hf : ∀ g, (f g).length ≤ g.length) (l : List Ent) : (((Mg.parts Mg.oneKey l).map f).flatten).length ≤ l.length := by
  have h : ∀ gs : List (List Ent), ((gs.map f).flatten).length ≤ gs.flatten.length := fun gs => by
    induction gs with
    | nil => exact Nat.le_refl _
    | cons g gs ih =>
      have := hf g
      simp only [List.map_cons, List.flatten_cons, List.length_append]
      omega
  have := h (Mg.parts Mg.oneKey l)
  rwa [Mg.parts_flat] at this
theorem ents_held {B : Nat} {w : World} {y : LV} (h : Ents B w (.slice y.p y.es.length y.c) y.es) : listKind.held w y := by
  obtain ⟨a, c, e, h1, _⟩ := h.src
  cases e
  exact h1
theorem map_len {ys zs : List EV} {L : List Ent} (h1 : ys.map (·.e) = L) (h2 : zs.map (·.e) = L) : ys.length = zs.length := by
  have a := congrArg List.length h1
  have b := congrArg List.length h2
  rw [List.length_map] at a b
  omega
theorem lents_at {ls : List LV} {i : Nat} {y : LV} (h : ls[i]? = some y) : (lents ls)[i]? = some (y.es.map (·.e)) := by
  unfold lents
  rw [List.getElem?_map, h]
  rfl
theorem split_few (l : List Ent) (most : Int) {i : Nat} {g : List Ent} (h : (Mg.split l most)[i]? = some g) : g.length ≤ l.length := by
  have h1 := Mg.packs_flat most (Mg.parts Mg.oneKey l) []
  have h2 := (List.sublist_flatten_of_mem (List.mem_of_getElem? h)).length_le
  unfold Mg.split at h2
  rw [h1, List.flatten_nil, List.nil_append, Mg.parts_flat] at h2
  exact h2

set_option maxHeartbeats 4000000 in
set_option maxRecDepth 100000 in
theorem sees_walk (ao : Option Addr) (n c : Nat) (es : List EV) (seq : Int) (p : Option Addr) (N C : Nat) (zs : List Int) (bottom : Bool) (most : Int) (w : World) (hs : RSrc entKind w ao n c es) (hz : RSrc inK w p N C zs) (hc : c ≤ maxLen) (hnear : NearE es) (hbig : n ≤ 140737488355328) :
    Calls Try.prog 4 #[.slice ao n c, .int .i64 seq, .slice p N C, .bool bottom, .int .i64 most] w fun e w' => e = .returned (.bool true) ∧ Below w.heap.size w w' := by
  have HS := keep hs
  have HZ := keep hz
  have HLEN := keep hs.len
  have HC := keep hc
  have NE := keep hnear
  have AW := keep (awake_any w)
  clear hs hz hc hnear
  go_enter Try.func4, Try.ntmps4
  go_wp2_with fail
  refine AW.out.mono ?_
  rintro e w1 ⟨rfl, hb1⟩
  have B1 := keep hb1
  have S1 := keep (HS.out.below entKind_ok hb1)
  have Z1 := keep (HZ.out.below inK_ok hb1)
  clear hb1 AW
  by_cases h1 : 400 < n
  · have e1 : (400 : Int) < (n : Int) := by omega
    go_wp2
    go_ret
    exact ⟨rfl, B1.out⟩
  · by_cases h2 : 100 < N
    · have e1 : ¬ (400 : Int) < (n : Int) := by omega
      have e2 : (100 : Int) < (N : Int) := by omega
      go_wp2
      go_ret
      exact ⟨rfl, B1.out⟩
    · have e1 : ¬ (400 : Int) < (n : Int) := by omega
      have e2 : ¬ (100 : Int) < (N : Int) := by omega
      have V1 := keep (visible_any ao n c es seq w1 S1.out (by omega) HC.out NE.out)
      go_wp2_with fail
      refine V1.out.mono ?_
      rintro e w2 ⟨v2, y2, rfl, hE2, hV2, hb2⟩
      obtain ⟨a2, c2, rfl, hs2, _⟩ := hE2.src
      have R2 := keep hs2
      have L2 := keep hV2
      have B2 := keep (B1.out.trans (hb2.mono B1.out.size))
      have S2 := keep (S1.out.below entKind_ok hb2)
      have Z2 := keep (Z1.out.below inK_ok hb2)
      have M2 : Hid (y2.length ≤ 400) := by
        have h3 := congrArg List.length hV2
        rw [List.length_map] at h3
        have h4 := flat_few (seen_len seq) (es.map (·.e))
        rw [List.length_map, HLEN.out] at h4
        unfold Mg.vis at h3
        show _ ≤ _
        omega
      have V2 := keep (rvis_any ao n c es seq w2 S2.out (by omega) NE.out)
      clear hE2 hV2 hb2 hs2 V1
      go_wp2_with fail
      refine V2.out.mono ?_
      rintro e w3 ⟨v3, y3, rfl, hE3, hV3, hb3⟩
      obtain ⟨a3, c3, rfl, hs3, _⟩ := hE3.src
      have ML := map_len L2.out hV3
      rw [← ML] at hs3 ⊢
      have B3 := keep (B2.out.trans (hb3.mono B2.out.size))
      have S3 := keep (S2.out.below entKind_ok hb3)
      have Z3 := keep (Z2.out.below inK_ok hb3)
      have SA := keep (same_yes a2 y2.length c2 y2 a3 c3 y3 w3 (by have := M2.out; omega) (R2.out.below entKind_ok hb3) hs3 (L2.out.trans hV3.symm))
      clear hE3 hV3 hb3 hs3 V2 ML
      go_wp2_with fail
      refine SA.out.mono ?_
      rintro e w4 ⟨rfl, hb4⟩
      have B4 := keep (B3.out.trans (hb4.mono B3.out.size))
      have S4 := keep (S3.out.below entKind_ok hb4)
      have Z4 := keep (Z3.out.below inK_ok hb4)
      have V4 := keep (prune_any ao n c es p N C zs bottom w4 S4.out Z4.out (by omega) (by omega) HC.out NE.out)
      clear hb4 SA
      go_wp2_with fail
      refine V4.out.mono ?_
      rintro e w5 ⟨v5, y5, rfl, hE5, hV5, hb5⟩
      obtain ⟨a5, c5, rfl, hs5, _⟩ := hE5.src
      have R5 := keep hs5
      have L5 := keep hV5
      have B5 := keep (B4.out.trans (hb5.mono B4.out.size))
      have S5 := keep (S4.out.below entKind_ok hb5)
      have Z5 := keep (Z4.out.below inK_ok hb5)
      have M5 : Hid (y5.length ≤ 400) := by
        have h3 := congrArg List.length hV5
        rw [List.length_map] at h3
        have h4 := flat_few (Mg.kept_len zs bottom) (es.map (·.e))
        rw [List.length_map, HLEN.out] at h4
        unfold Mg.prune at h3
        show _ ≤ _
        omega
      have V5 := keep (rprune_any ao n c es p N C zs bottom w5 S5.out Z5.out (by omega) (by omega) NE.out)
      clear hE5 hV5 hb5 hs5 V4
      go_wp2_with fail
      refine V5.out.mono ?_
      rintro e w6 ⟨v6, y6, rfl, hE6, hV6, hb6⟩
      obtain ⟨a6, c6, rfl, hs6, _⟩ := hE6.src
      have ML := map_len L5.out hV6
      rw [← ML] at hs6 ⊢
      have B6 := keep (B5.out.trans (hb6.mono B5.out.size))
      have S6 := keep (S5.out.below entKind_ok hb6)
      have SA := keep (same_yes a5 y5.length c5 y5 a6 c6 y6 w6 (by have := M5.out; omega) (R5.out.below entKind_ok hb6) hs6 (L5.out.trans hV6.symm))
      clear hE6 hV6 hb6 hs6 V5 ML
      go_wp2_with fail
      refine SA.out.mono ?_
      rintro e w7 ⟨rfl, hb7⟩
      have B7 := keep (B6.out.trans (hb7.mono B6.out.size))
      have S7 := keep (S6.out.below entKind_ok hb7)
      have V7 := keep (split_any ao n c es most w7 S7.out (by omega) HC.out NE.out)
      clear hb7 SA
      go_wp2_with fail
      refine V7.out.mono ?_
      rintro e w8 ⟨v8, o8, rfl, hO8, hE8, hV8, hn8, hb8⟩
      obtain ⟨a8, c8, rfl, hs8, _⟩ := RSrc.own listKind_ok hO8 (fun y hy => ents_held (hE8 y hy))
      have R8 := keep hs8
      have L8 := keep hV8
      have B8 := keep (B7.out.trans (hb8.mono B7.out.size))
      have S8 := keep (S7.out.below entKind_ok hb8)
      have V8 := keep (rsplit_any ao n c es most w8 S8.out (by omega) NE.out)
      obtain ⟨L, hL⟩ : ∃ L, o8.length = L := ⟨_, rfl⟩
      have HL := keep hL
      rw [hL] at R8 hn8 ⊢
      clear hO8 hE8 hV8 hb8 hs8 V7
      go_wp2_with fail
      refine V8.out.mono ?_
      rintro e w9 ⟨v9, o9, rfl, hO9, hE9, hV9, hn9, hb9⟩
      obtain ⟨a9, c9, rfl, hs9, _⟩ := RSrc.own listKind_ok hO9 (fun y hy => ents_held (hE9 y hy))
      have hL9 : o9.length = L := by
        have h3 := congrArg List.length L8.out
        have h4 := congrArg List.length hV9
        unfold lents at h3 h4
        rw [List.length_map] at h3 h4
        omega
      rw [hL9] at hs9 ⊢
      have RA := keep (R8.out.below listKind_ok hb9)
      have RB := keep hs9
      have L9 := keep hV9
      have B9 := keep (B8.out.trans (hb9.mono B8.out.size))
      have HL9 := keep hL9
      clear hO9 hE9 hV9 hb9 hs9 V8 hL hL9
      go_wp2
      go_loopw [14] (fun i wr => ∃ k : Nat, k ≤ L ∧ i = .int .i64 (k : Int) ∧ Hid (Below w9.heap.size w9 wr)) (fun i _ => L - (intOf i).toNat)
      case atStart => exact ⟨0, Nat.zero_le _, rfl, Below.refl _ _⟩
      case round =>
        obtain ⟨k, hk, rfl, hB⟩ := hrel
        by_cases hkn : k < L
        · obtain ⟨ab, aoff, rfl, _, _⟩ := RA.out.form listKind_ok (by omega)
          obtain ⟨bb, boff, rfl, _, _⟩ := RB.out.form listKind_ok (by omega)
          obtain ⟨y, hy⟩ : ∃ y, o8[k]? = some y := ⟨o8[k]'(by rw [HL.out]; exact hkn), List.getElem?_eq_getElem _⟩
          obtain ⟨t, ht⟩ : ∃ t, o9[k]? = some t := ⟨o9[k]'(by rw [HL9.out]; exact hkn), List.getElem?_eq_getElem _⟩
          have ey : (Mg.split (es.map (·.e)) most)[k]? = some (y.es.map (·.e)) := by rw [← L8.out]; exact lents_at hy
          have et : (Mg.split (es.map (·.e)) most)[k]? = some (t.es.map (·.e)) := by rw [← L9.out]; exact lents_at ht
          have EQ : Hid (y.es.map (·.e) = t.es.map (·.e)) := by rw [ey] at et; exact Option.some.inj et
          have hyl : y.es.length ≤ 400 := by
            have h3 := split_few _ _ ey
            rw [List.length_map, List.length_map, HLEN.out] at h3
            omega
          have htl : t.es.length = y.es.length := (map_len EQ.out rfl).symm
          have CA0 : ∀ w', Below wr.heap.size wr w' → _ := fun w' hb => list_cell ((RA.out.below listKind_ok hB.out).below listKind_ok hb) hy
          have CB0 : ∀ w', Below wr.heap.size wr w' → _ := fun w' hb => list_cell ((RB.out.below listKind_ok hB.out).below listKind_ok hb) ht
          have YA : Hid (∀ w', Below wr.heap.size wr w' → RSrc entKind w' y.p y.es.length y.c y.es) := fun w' hb => ((RA.out.below listKind_ok hB.out).below listKind_ok hb).held y (List.mem_of_getElem? hy)
          have YB : Hid (∀ w', Below wr.heap.size wr w' → RSrc entKind w' t.p t.es.length t.c t.es) := fun w' hb => ((RB.out.below listKind_ok hB.out).below listKind_ok hb).held t (List.mem_of_getElem? ht)
          have SM0 : Hid (∀ w', Below wr.heap.size wr w' → Calls Try.prog 10 #[.slice y.p y.es.length y.c, .slice t.p y.es.length t.c] w' fun e w'' => e = .returned (.bool true) ∧ Below wr.heap.size wr w'') := fun w' hb => by
            refine (same_yes y.p y.es.length y.c y.es t.p t.c t.es w' (by omega) (YA.out w' hb) (by rw [← htl]; exact YB.out w' hb) EQ.out).mono ?_
            rintro e w'' ⟨rfl, hb'⟩
            exact ⟨rfl, hb.trans (hb'.mono hb.size)⟩
          have CA := keep CA0
          have CB := keep CB0
          have SM := SM0
          rw [htl] at CB
          obtain ⟨yp, yc, yes⟩ := y
          obtain ⟨tp, tc, tes⟩ := t
          simp only at CA CB SM
          obtain ⟨M, hM⟩ : ∃ M, yes.length = M := ⟨_, rfl⟩
          rw [hM] at CA CB SM
          have g0 : (0 : Int) ≤ (k : Int) := by omega
          have g1 : (k : Int) < (L : Int) := by omega
          clear hy ht ey et hyl htl CA0 CB0 YA YB SM0 EQ hM
          go_wp2_with fail
          refine wp_region_held_drew (S := fun w' => Below wr.heap.size wr w') (by kernel_rfl) ((Below.refl _ _).drew) (fun hZ => ?_)
          refine takeH (i := 0) 66 (v := .slice (some ⟨ab, aoff, none⟩) L c8) rfl rfl (by kernel_rfl) (by kernel_rfl) (by kernel_rfl) (fun _ _ _ h => h) (Or.inl ⟨by rfl, ?_⟩) (by assumption) ?_
          · intro w' hSw'
            go_simp
          simp only [Act.put, List.setIfInBounds_toArray, List.set_cons_zero, List.set_cons_succ]
          refine takeH (i := 1) 67 (v := .int .i64 (k : Int)) rfl rfl (by kernel_rfl) (by kernel_rfl) (by kernel_rfl) (fun _ _ _ h => h) (Or.inl ⟨by rfl, ?_⟩) (by assumption) ?_
          · intro w' hSw'
            go_simp
          simp only [Act.put, List.setIfInBounds_toArray, List.set_cons_zero, List.set_cons_succ]
          refine takeH (i := 2) 68 (v := .pointer (some ⟨ab, aoff + k, none⟩)) rfl rfl (by kernel_rfl) (by kernel_rfl) (by kernel_rfl) (fun _ _ _ h => h) (Or.inl ⟨by rfl, ?_⟩) (by assumption) ?_
          · intro w' hSw'
            go_simp
          simp only [Act.put, List.setIfInBounds_toArray, List.set_cons_zero, List.set_cons_succ]
          refine takeH (i := 3) 69 (v := .slice yp M yc) rfl rfl (by kernel_rfl) (by kernel_rfl) (by kernel_rfl) (fun _ _ _ h => h) (Or.inl ⟨by rfl, ?_⟩) (by assumption) ?_
          · intro w' hSw'
            have q7 := CA.out w' hSw'
            go_simp
          simp only [Act.put, List.setIfInBounds_toArray, List.set_cons_zero, List.set_cons_succ]
          refine takeH (i := 4) 70 (v := .slice (some ⟨bb, boff, none⟩) L c9) rfl rfl (by kernel_rfl) (by kernel_rfl) (by kernel_rfl) (fun _ _ _ h => h) (Or.inl ⟨by rfl, ?_⟩) (by assumption) ?_
          · intro w' hSw'
            go_simp
          simp only [Act.put, List.setIfInBounds_toArray, List.set_cons_zero, List.set_cons_succ]
          refine takeH (i := 5) 71 (v := .int .i64 (k : Int)) rfl rfl (by kernel_rfl) (by kernel_rfl) (by kernel_rfl) (fun _ _ _ h => h) (Or.inl ⟨by rfl, ?_⟩) (by assumption) ?_
          · intro w' hSw'
            go_simp
          simp only [Act.put, List.setIfInBounds_toArray, List.set_cons_zero, List.set_cons_succ]
          refine takeH (i := 6) 72 (v := .pointer (some ⟨bb, boff + k, none⟩)) rfl rfl (by kernel_rfl) (by kernel_rfl) (by kernel_rfl) (fun _ _ _ h => h) (Or.inl ⟨by rfl, ?_⟩) (by assumption) ?_
          · intro w' hSw'
            go_simp
          simp only [Act.put, List.setIfInBounds_toArray, List.set_cons_zero, List.set_cons_succ]
          refine takeH (i := 7) 73 (v := .slice tp M tc) rfl rfl (by kernel_rfl) (by kernel_rfl) (by kernel_rfl) (fun _ _ _ h => h) (Or.inl ⟨by rfl, ?_⟩) (by assumption) ?_
          · intro w' hSw'
            have q7 := CB.out w' hSw'
            go_simp
          simp only [Act.put, List.setIfInBounds_toArray, List.set_cons_zero, List.set_cons_succ]
          refine wpAnyH_ready (rs := [8]) (by kernel_rfl) (by simp) ?_
          refine AllReadyH.cons rfl (fun K hK => ?_) AllReadyH.nil
          go_simp
          refine (SM.out _ (Below.refl _ _).drew).mono ?_
          rintro e w10 ⟨rfl, hb8⟩
          have b8 := keep hb8
          clear hb8
          go_wp2_with fail
          refine hK.out _ _ (b8.out) (fun hZ1 => ?_)
          clear hK K
          refine takeH (i := 9) 75 (v := .bool false) rfl rfl (by kernel_rfl) (by kernel_rfl) (by kernel_rfl) (fun _ _ _ h => h) (Or.inl ⟨by rfl, ?_⟩) (by assumption) ?_
          · intro w' hSw'
            go_simp
          simp only [Act.put, List.setIfInBounds_toArray, List.set_cons_zero, List.set_cons_succ]
          refine wpAnyH_done (by kernel_rfl) ?_ _
          have BF := keep (hB.out.trans (b8.out.mono hB.out.size))
          go_wp2
          go_roundw
          case rel => exact ⟨k + 1, by omega, by go_num, BF.out⟩
          case measure => simp [intOf]; omega
        · obtain rfl : k = L := by omega
          go_wp2
          go_ret
          exact ⟨rfl, B9.out.trans (hB.out.mono B9.out.size)⟩
end Go.Proofs.Ytgdggeacjfhkkaa
