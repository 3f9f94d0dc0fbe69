/- The walk of SpanKeeps. -/
import Derived.Test.YtkepjjkiajkdmaaDoorVw
import Derived.Test.YtkepjjkiajkdmaaDoorJoinUe
import Derived.Test.YtkepjjkiajkdmaaDoorUf
import Derived.Test.YtkepjjkiajkdmaaDoorPa
import Derived.Deep.Cut
namespace Go.Proofs.YtkepjjkiajkdmaaDoor
open Go.RowKit

/-- The leaves of the first k. -/
def lv (es : List ByteE) (k : Nat) : List (List UInt8) := (es.take k).map fun e => leafL e.bytes
theorem lv_32 (es : List ByteE) (k : Nat) : w32 (lv es k) := fun e he => by
  unfold lv at he
  obtain ⟨x, _, rfl⟩ := List.mem_map.1 he
  exact leafL_len _
theorem lv_len {es : List ByteE} {k : Nat} (h : k ≤ es.length) : (lv es k).length = k := by
  unfold lv
  rw [List.length_map, List.length_take]
  omega
theorem lv_snoc {es : List ByteE} {k : Nat} {s : ByteE} (h : es[k]? = some s) : lv es (k + 1) = lv es k ++ [leafL s.bytes] := by
  unfold lv
  rw [List.take_add_one, h, List.map_append]
  rfl
/-- A span that was answered, stored in a new record of two cells, its nodes its own. -/
structure GotS (W0 : World) (n : Int) (P : List (List UInt8)) (g : Nat) (v : Value) (w' : World) : Prop where
  row : w'.heap[g]? = some (.cells #[.int .i64 n, v] 26)
  own : w'.ownsRow W0.heap.size 9 1 v P.length (rv strKind P)
  bel : Below W0.heap.size W0 w'
  far : W0.heap.size ≤ g
theorem GotS.alloc {W0 wp : World} {n : Int} {P : List (List UInt8)} {av : Option Addr} {L cv B : Nat} (hb : Below W0.heap.size W0 wp) (ho : wp.ownsRow B 9 1 (.slice av L cv) L (rv strKind P)) (hB : W0.heap.size ≤ B) (hL : P.length = L) :
    GotS W0 n P wp.heap.size (.slice av L cv) (wp.alloc (.cells #[.int .i64 n, .slice av L cv] 26)) :=
  ⟨heap_alloc_new wp _, by rw [hL]; exact own_low (own_next ho ((Below.refl _ _).alloc (Nat.le_refl _) _)) hB, hb.alloc hb.size _, hb.size⟩
theorem GotS.store {W0 wp : World} {n : Int} {P : List (List UInt8)} {av : Option Addr} {L cv B g : Nat} {x y : Value} (hg : wp.heap[g]? = some (.cells #[x, y] 26)) (hf : W0.heap.size ≤ g) (hb : Below W0.heap.size W0 wp) (ho : wp.ownsRow B 9 1 (.slice av L cv) L (rv strKind P)) (hgB : g < B) (hB : W0.heap.size ≤ B) (hL : P.length = L) :
    GotS W0 n P g (.slice av L cv) ((wp.setCell ⟨g, 0, none⟩ (.int .i64 n)).setCell ⟨g, 1, none⟩ (.slice av L cv)) :=
  ⟨set2 hg _ _, by rw [hL]; exact own_low (own_set (own_set ho hgB _ _) hgB _ _) hB, (hb.setCell (p := ⟨g, 0, none⟩) hf _).setCell (p := ⟨g, 1, none⟩) hf _, hf⟩
set_option maxHeartbeats 8000000 in
set_option maxRecDepth 100000 in
theorem spanKeeps_walk (ao : Option Addr) (m c : Nat) (es : List ByteE) (aa : Option Addr) (ma ca : Nat) (la : List UInt8) (ab : Option Addr) (mb cb : Nat) (lb : List UInt8) (w : World) (hL : Ld w) (hs : RSrc byteKind w ao m c es) (hm : m ≤ 5864062014634) (hg : ∀ e ∈ es, e.bytes.length ≤ 140737488351232) (hsa : Src w aa ma ca la) (hma : ma ≤ 140737488354000) (hsb : Src w ab mb cb lb) (hmb : mb ≤ 140737488354000) :
    Calls Tryd.prog 7 #[.slice ao m c, .slice aa ma ca, .slice ab mb cb] w fun e w' => e = .returned (.bool true) ∧ Below w.heap.size w w' := by
  obtain ⟨i0, hi, hz0, hz1, hz2⟩ := info_partsS infoS
  have HLd := keep hL
  have HS := keep hs
  have HN := keep hs.len
  have HG := keep hg
  have AW := keep (awake16_any w hL)
  have LA : Hid (∀ w', Below w.heap.size w w' → Calls Tryd.prog 23 #[.slice aa ma ca] w' fun e w'' => e = .returned (.string ⟨(leafL la).toArray⟩) ∧ Below w'.heap.size w' w'') := fun w' hb => leaf_any aa ma ca la w' hma (HLd.out.below hb) (hsa.below hb)
  have LB : Hid (∀ w', Below w.heap.size w w' → Calls Tryd.prog 23 #[.slice ab mb cb] w' fun e w'' => e = .returned (.string ⟨(leafL lb).toArray⟩) ∧ Below w'.heap.size w' w'') := fun w' hb => leaf_any ab mb cb lb w' hmb (HLd.out.below hb) (hsb.below hb)
  have XA := leafL_len la
  have XB := leafL_len lb
  obtain ⟨xa, hxa⟩ : ∃ x, leafL la = x := ⟨_, rfl⟩
  obtain ⟨xb, hxb⟩ : ∃ x, leafL lb = x := ⟨_, rfl⟩
  rw [hxa] at LA XA
  rw [hxb] at LB XB
  clear hL hs hg hsa hsb hma hmb hxa hxb
  go_enter Tryd.func7, Tryd.ntmps7
  go_wp2_with fail
  refine AW.out.mono ?_
  rintro e w1 ⟨rfl, hb1⟩
  have B1 := keep hb1
  clear hb1 AW
  go_wp2
  go_loopw [8, 9] (fun v i wr => ∃ k : Nat, ∃ vp vc, k ≤ m ∧ k ≤ 40 ∧ v = .slice vp k vc ∧ i = .int .i64 (k : Int) ∧ Hid (wr.ownsRow w.heap.size 9 1 (.slice vp k vc) k (rv strKind (lv es k)) ∧ Below w.heap.size w wr)) (fun _ i _ => m - (intOf i).toNat)
  case atStart => exact ⟨0, none, 0, Nat.zero_le _, Nat.zero_le _, rfl, rfl, World.ownsRow_nil _ _ _ _, B1.out⟩
  case round =>
    clear B1
    obtain ⟨k, vp, vc, hk, hk40, rfl, rfl, hI⟩ := hrel
    have B1 := keep hI.out.2
    by_cases h12 : k < m ∧ k < 40
    · obtain ⟨h1, h2⟩ := h12
      have k1 : (k : Int) < (m : Int) := by omega
      · obtain ⟨b, off, rfl, _, hcell⟩ := slices_at HS.out (by omega)
        obtain ⟨s, hsk⟩ : ∃ s, es[k]? = some s := ⟨es[k]'(by rw [HN.out]; exact h1), List.getElem?_eq_getElem _⟩
        have ck := below_cell B1.out (hcell k s hsk)
        have k0 : (0 : Int) ≤ (k : Int) := by omega
        have k2 : (k : Int) < 40 := by omega
        have LF := keep (leaf_any s.ptr s.bytes.length s.cap s.bytes wr (by have := HG.out s (List.mem_of_getElem? hsk); omega) (HLd.out.below B1.out) (Src.below (HS.out.held s (List.mem_of_getElem? hsk)) B1.out))
        have NXT := keep (lv_snoc hsk)
        obtain ⟨Y, hY⟩ : ∃ Y, leafL s.bytes = Y := ⟨_, rfl⟩
        rw [hY] at LF NXT
        have O1 := keep hI.out.1
        obtain ⟨sp, sc, sb⟩ := s
        simp only at ck LF
        clear hcell hsk hY hI
        go_wp2_with fail
        refine LF.out.mono ?_
        rintro e w2 ⟨rfl, hb2⟩
        have b3w := keep (B1.out.trans (hb2.mono B1.out.size))
        have O3 := keep (own_next O1.out hb2)
        clear hb2 LF ck
        have b4 := keep (b3w.out.alloc b3w.out.size (.cells #[.string ⟨Y.toArray⟩] 9))
        have O4 : Hid ((w2.alloc (.cells #[.string ⟨Y.toArray⟩] 9)).ownsRow w.heap.size 9 1 (.slice vp k vc) k (rv strKind (lv es k))) := own_next O3.out ((Below.refl _ _).alloc (Nat.le_refl _) _)
        go_wp2_with (at_builtin; refine wpList_append_recsS rfl _ _ 22 rfl w.heap.size i0 _ Tryd.underlying22 hi hz0 hz1 hz2 rfl _ k (lv es k) rfl O4.out _ 1 1 [Y] rfl (one_text w2 Y) (by omega) b4.out.size ?_; intro v7 w7 ho7 hg7; have b7 := keep (b4.out.grown hg7 b4.out.size (fun j hj => (O4.out.lt j hj).1)); obtain ⟨g7, c7, rfl, hc7⟩ := own_form ho7 (by omega); have O7 := keep ho7; clear ho7 hg7)
        go_roundw
        case rel => exact ⟨k + 1, _, c7, by omega, by omega, rfl, by go_num, by rw [NXT.out]; exact O7.out, b7.out⟩
        case measure => simp [intOf]; omega
    · go_upto_region 4 with fail
      refine region_share (fun a a' w' => (∃ v20 v21 v22 v23 v24 v25 v26 : Value, a' = sets a [(20, v20), (21, v21), (0x16, v22), (23, v23), (24, v24), (25, v25), (26, v26), (27, .bool false)]) ∧ w' = wr) ?_ ?_
      · by_cases h1 : k < m
        · have k1 : (k : Int) < (m : Int) := by omega
          have k2 : ¬ (k : Int) < 40 := by omega
          go_wp2
          exact ⟨⟨_, _, _, _, _, _, _, (by simp only [sets, Act.put, List.setIfInBounds_toArray, List.set_cons_zero, List.set_cons_succ]; all_goals rfl)⟩, rfl⟩
        · have k1 : ¬ (k : Int) < (m : Int) := by omega
          go_wp2
          exact ⟨⟨_, _, _, _, _, _, _, (by simp only [sets, Act.put, List.setIfInBounds_toArray, List.set_cons_zero, List.set_cons_succ]; all_goals rfl)⟩, rfl⟩
      · rintro a' w9 ⟨⟨v20, v21, v22, v23, v24, v25, v26, rfl⟩, hw9⟩
        have hw9 := hw9.symm
        subst hw9
        simp only [sets, Act.put, List.setIfInBounds_toArray, List.set_cons_zero, List.set_cons_succ]
        clear h12
        have hke : k ≤ es.length := by rw [HN.out]; exact hk
        have L32 := keep (lv_32 es k)
        have LL := keep (lv_len hke)
        obtain ⟨C, hC⟩ : ∃ C, lv es k = C := ⟨_, rfl⟩
        have O1 := keep hI.out.1
        rw [hC] at L32 LL O1
        obtain ⟨ao', c', e2, hr, _⟩ := RSrc.own strKind_ok O1.out (fun _ _ => trivial)
        obtain ⟨e3, _, e5⟩ := Value.slice.inj e2
        subst e3
        subst e5
        have RS := keep hr
        have OF := keep (of16_any vp k vc C wr (HLd.out.below B1.out) RS.out L32.out (by omega))
        have ND := nds_le C
        rw [LL.out] at ND
        have PA := keep (push_yes (a := xa) L32.out XA (by rw [LL.out]; omega))
        have PB := keep (push_yes (a := xb) L32.out XB (by rw [LL.out]; omega))
        rw [LL.out] at PA PB
        have PLA := nds_le (C ++ [xa])
        rw [List.length_append, LL.out] at PLA
        obtain ⟨D, hD⟩ : ∃ D, ndsL C = D := ⟨_, rfl⟩
        obtain ⟨DA, hDA⟩ : ∃ D, ndsL (C ++ [xa]) = D := ⟨_, rfl⟩
        obtain ⟨DB, hDB⟩ : ∃ D, ndsL (C ++ [xb]) = D := ⟨_, rfl⟩
        rw [hD] at OF ND PA PB
        rw [hDA] at PA PLA
        rw [hDB] at PB
        obtain ⟨q, hq⟩ : ∃ q, D.length = q := ⟨_, rfl⟩
        have HQ := keep hq
        rw [hq] at ND
        simp only [List.length_cons, List.length_nil] at PLA
        clear hI hr e2 hC hD hDA hDB hq hke
        go_wp2_with fail
        refine OF.out.mono ?_
        rintro e w3 ⟨v3, rfl, ho3, hb3⟩
        rw [HQ.out] at ho3
        obtain ⟨a3, c3, rfl⟩ := own_is ho3
        have O3 := keep ho3
        have b3 := keep hb3
        clear ho3 hb3 OF
        obtain ⟨W4, hW4⟩ : ∃ Wn, w3.alloc (.cells #[.int .i64 (k : Int), .slice a3 q c3] 26) = Wn := ⟨_, rfl⟩
        have b34 : Hid (Below w3.heap.size w3 W4) := by rw [← hW4]; exact (Below.refl _ _).alloc (Nat.le_refl _) _
        have G4 : Hid (W4.heap[w3.heap.size]? = some (.cells #[.int .i64 (k : Int), .slice a3 q c3] 26)) := by rw [← hW4]; exact heap_alloc_new w3 _
        have b4 := keep (b3.out.trans (b34.out.mono b3.out.size))
        have B4 := keep (B1.out.trans (b4.out.mono B1.out.size))
        have O4 := keep (own_next O3.out b34.out)
        obtain ⟨ao', c', e2, hr, _⟩ := RSrc.own strKind_ok O4.out (fun _ _ => trivial)
        obtain ⟨e3, _, e5⟩ := Value.slice.inj e2
        subst e3
        subst e5
        have R4 := keep hr
        clear hr e2
        have O5 : Hid ((W4.alloc (.cells #[] 9)).ownsRow W4.heap.size 9 1 (.slice (some ⟨W4.heap.size, 0, none⟩) 0 0) 0 (rv strKind [])) := own_empty (Nat.le_refl _)
        have b45 : Hid (Below W4.heap.size W4 (W4.alloc (.cells #[] 9))) := (Below.refl _ _).alloc (Nat.le_refl _) _
        have k41 : W4.cell? ⟨w3.heap.size, 1, none⟩ = some (.slice a3 q c3) := cell_of_row _ _ _ _ _ _ G4.out
        have k45 := below_cell b45.out k41
        have q40 : q ≤ 40 := by omega
        go_wp2_with (at_builtin; refine wpList_append_recsS rfl _ _ 22 rfl W4.heap.size i0 _ Tryd.underlying22 hi hz0 hz1 hz2 rfl _ 0 [] rfl O5.out _ q c3 D rfl (R4.out.below strKind_ok b45.out) (by omega) b45.out.size ?_; intro v6 w6 ho6 hg6; rw [Nat.zero_add, List.nil_append] at ho6; have b46 := keep (b45.out.grown hg6 b45.out.size (fun j hj => (O5.out.lt j hj).1)); obtain ⟨a6, c6, rfl⟩ := own_is ho6; have O6 := keep ho6; have g60 : w6.cell? ⟨w3.heap.size, 0, none⟩ = some (.int .i64 (k : Int)) := below_cell b46.out (cell_of_row _ _ _ _ _ _ G4.out); have g61 : w6.cell? ⟨w3.heap.size, 1, none⟩ = some (.slice a3 q c3) := below_cell b46.out (cell_of_row _ _ _ _ _ _ G4.out); clear ho6 hg6)
        clear hW4 k41 k45
        have Bw6 := keep (B4.out.trans (b46.out.mono B4.out.size))
        have cw6 := b46
        have ew60 := g60
        have ew61 := g61
        clear g60 g61
        obtain ⟨L, hL⟩ : ∃ L, DA.length = L := ⟨_, rfl⟩
        obtain ⟨M, hM⟩ : ∃ L, DB.length = L := ⟨_, rfl⟩
        have HLA := keep hL
        have HLB := keep hM
        rw [hL] at PLA
        have PUA : Hid (∀ w', Below W4.heap.size W4 w' → Calls Tryd.prog 9 #[.agg #[.int .i64 (k : Int), .slice a3 q c3], .string ⟨xa.toArray⟩] w' (SpA w' ((k : Int) + 1) DA 0)) := fun w' hb => by
          have h := push16_any (k : Int) a3 q c3 D xa w' (HLd.out.below (B4.out.trans (hb.mono B4.out.size))) (R4.out.below strKind_ok hb) (by omega)
          rw [PA.out.1, PA.out.2.1, PA.out.2.2, show ((k + 1 : Nat) : Int) = (k : Int) + 1 by omega] at h
          exact h
        have PUB : Hid (∀ w', Below W4.heap.size W4 w' → Calls Tryd.prog 9 #[.agg #[.int .i64 (k : Int), .slice a3 q c3], .string ⟨xb.toArray⟩] w' (SpA w' ((k : Int) + 1) DB 0)) := fun w' hb => by
          have h := push16_any (k : Int) a3 q c3 D xb w' (HLd.out.below (B4.out.trans (hb.mono B4.out.size))) (R4.out.below strKind_ok hb) (by omega)
          rw [PB.out.1, PB.out.2.1, PB.out.2.2, show ((k + 1 : Nat) : Int) = (k : Int) + 1 by omega] at h
          exact h
        clear hL hM PA PB
        have HL := keep HLA.out
        have LEAF : Hid (∀ w', Below w6.heap.size w6 w' → _) := fun w' hb => LA.out w' (Bw6.out.trans (hb.mono Bw6.out.size))
        have PUSH : Hid (∀ w', Below w6.heap.size w6 w' → _) := fun w' hb => PUA.out w' (cw6.out.trans (hb.mono cw6.out.size))
        go_wp2_with fail
        refine region_share (fun a a' w' => ∃ (g1 : Nat) (av1 : Option Addr) (cv1 : Nat), a' = sets a [(48, .agg #[.int .i64 (k : Int), .slice a3 q c3]), (49, .slice aa ma ca), (50, .string ⟨xa.toArray⟩), (51, .tuple #[.agg #[.int .i64 ((k : Int) + 1), .slice av1 L cv1], .int .i64 0]), (47, .tuple #[.agg #[.int .i64 ((k : Int) + 1), .slice av1 L cv1], .int .i64 0]), (52, .agg #[.int .i64 ((k : Int) + 1), .slice av1 L cv1]), (53, .int .i64 0), (13, .pointer (some ⟨g1, 0, none⟩)), (14, .int .i64 0)] ∧ GotS w6 ((k : Int) + 1) DA g1 (.slice av1 L cv1) w') ?_ ?_
        · refine wp_region_held_drew (S := fun w' => Below w6.heap.size w6 w') (by kernel_rfl) ((Below.refl w6.heap.size w6).drew) (fun hZ => ?_)
          refine takeH (i := 0) 48 (v := .agg #[.int .i64 (k : Int), .slice a3 q c3]) rfl rfl (by kernel_rfl) (by kernel_rfl) (by kernel_rfl) (fun _ _ _ h => h) (Or.inl ⟨by rfl, ?_⟩) (by assumption) ?_
          · intro w' hSw'
            have z0 := below_cell hSw' ew60
            have z1 := below_cell hSw' ew61
            go_simp
          simp only [Act.put, List.setIfInBounds_toArray, List.set_cons_zero, List.set_cons_succ]
          refine takeH (i := 1) 49 (v := .slice aa ma ca) rfl rfl (by kernel_rfl) (by kernel_rfl) (by kernel_rfl) (fun _ _ _ h => h) (Or.inl ⟨by rfl, ?_⟩) (by assumption) ?_
          · intro w' hSw'
            go_simp
          simp only [Act.put, List.setIfInBounds_toArray, List.set_cons_zero, List.set_cons_succ]
          refine wpAnyH_ready (rs := [2, 7]) (by kernel_rfl) (by simp) ?_
          refine AllReadyH.cons rfl (fun K hK => ?_) (AllReadyH.cons rfl (fun K hK => ?_) AllReadyH.nil)
          · go_simp
            refine (LEAF.out _ (Below.refl w6.heap.size w6).drew).mono ?_
            rintro e wl ⟨rfl, hbl⟩
            have bl : Hid (Below w6.heap.size w6 wl) := (Below.refl w6.heap.size w6).drew.trans (hbl.mono (Nat.le_refl _))
            clear hbl
            go_wp2_with fail
            refine hK.out _ _ (bl.out) (fun hA1 => ?_)
            clear hK K
            refine wpAnyH_ready (rs := [3, 7]) (by kernel_rfl) (by simp) ?_
            refine AllReadyH.cons rfl (fun K hK => ?_) (AllReadyH.cons rfl (fun K hK => ?_) AllReadyH.nil)
            · go_simp
              refine (PUSH.out _ bl.out).mono ?_
              rintro e wp ⟨vp', rfl, hop, hbp⟩
              obtain ⟨av1, cv1, rfl⟩ := own_is hop
              rw [HL.out] at hop ⊢
              have OP := keep hop
              have bp : Hid (Below w6.heap.size w6 wp) := bl.out.trans (hbp.mono bl.out.size)
              clear hop hbp
              go_wp2_with fail
              refine hK.out _ _ (bp.out) (fun hA3 => ?_)
              clear hK K
              refine takeH (i := 4) 47 (v := .tuple #[.agg #[.int .i64 ((k : Int) + 1), .slice av1 L cv1], .int .i64 0]) rfl rfl (by kernel_rfl) (by kernel_rfl) (by kernel_rfl) (fun _ _ _ h => h) (Or.inl ⟨by rfl, ?_⟩) (by assumption) ?_
              · intro w' hSw'
                go_simp
              simp only [Act.put, List.setIfInBounds_toArray, List.set_cons_zero, List.set_cons_succ]
              refine takeH (i := 5) 52 (v := .agg #[.int .i64 ((k : Int) + 1), .slice av1 L cv1]) rfl rfl (by kernel_rfl) (by kernel_rfl) (by kernel_rfl) (fun _ _ _ h => h) (Or.inl ⟨by rfl, ?_⟩) (by assumption) ?_
              · intro w' hSw'
                go_simp
              simp only [Act.put, List.setIfInBounds_toArray, List.set_cons_zero, List.set_cons_succ]
              refine takeH (i := 6) 53 (v := .int .i64 0) rfl rfl (by kernel_rfl) (by kernel_rfl) (by kernel_rfl) (fun _ _ _ h => h) (Or.inl ⟨by rfl, ?_⟩) (by assumption) ?_
              · intro w' hSw'
                go_simp
              simp only [Act.put, List.setIfInBounds_toArray, List.set_cons_zero, List.set_cons_succ]
              refine wpAnyH_ready (rs := [7]) (by kernel_rfl) (by simp) ?_
              refine AllReadyH.cons rfl (fun K hK => ?_) AllReadyH.nil
              go_simp
              refine hK.out _ _ (bp.out.alloc bp.out.size _) (fun hA4 => ?_)
              clear hK K
              refine wpAnyH_ready (rs := [8]) (by kernel_rfl) (by simp) ?_
              refine AllReadyH.cons rfl (fun K hK => ?_) AllReadyH.nil
              go_simp
              refine hK.out _ _ (bp.out.alloc bp.out.size _) (fun hA5 => ?_)
              clear hK K
              refine takeH (i := 9) 14 (v := .int .i64 0) rfl rfl (by kernel_rfl) (by kernel_rfl) (by kernel_rfl) (fun _ _ _ h => h) (Or.inl ⟨by rfl, ?_⟩) (by assumption) ?_
              · intro w' hSw'
                go_simp
              simp only [Act.put, List.setIfInBounds_toArray, List.set_cons_zero, List.set_cons_succ]
              refine wpAnyH_done (by kernel_rfl) ?_ _
              exact ⟨_, av1, cv1, (by simp only [sets, Act.put, List.setIfInBounds_toArray, List.set_cons_zero, List.set_cons_succ]; all_goals rfl), GotS.alloc bp.out OP.out bl.out.size HL.out⟩
            · go_simp
              have bX : Hid (Below w6.heap.size w6 (wl.alloc (.cells #[.int .i64 0, .slice none 0 0] 26))) := bl.out.alloc bl.out.size _
              have gX : Hid ((wl.alloc (.cells #[.int .i64 0, .slice none 0 0] 26)).heap[wl.heap.size]? = some (.cells #[.int .i64 0, .slice none 0 0] 26)) := heap_alloc_new wl _
              refine hK.out _ _ (bX.out) (fun hA2 => ?_)
              clear hK K
              refine wpAnyH_ready (rs := [3]) (by kernel_rfl) (by simp) ?_
              refine AllReadyH.cons rfl (fun K hK => ?_) AllReadyH.nil
              go_simp
              refine (PUSH.out _ bX.out).mono ?_
              rintro e wp ⟨vp', rfl, hop, hbp⟩
              obtain ⟨av1, cv1, rfl⟩ := own_is hop
              rw [HL.out] at hop ⊢
              have OP := keep hop
              have bp : Hid (Below w6.heap.size w6 wp) := bX.out.trans (hbp.mono bX.out.size)
              have g5 : Hid (wp.heap[wl.heap.size]? = some (.cells #[.int .i64 0, .slice none 0 0] 26)) := (hbp.block _ (by simp)).trans gX.out
              clear hop hbp
              go_wp2_with fail
              refine hK.out _ _ (bp.out) (fun hA3 => ?_)
              clear hK K
              refine takeH (i := 4) 47 (v := .tuple #[.agg #[.int .i64 ((k : Int) + 1), .slice av1 L cv1], .int .i64 0]) rfl rfl (by kernel_rfl) (by kernel_rfl) (by kernel_rfl) (fun _ _ _ h => h) (Or.inl ⟨by rfl, ?_⟩) (by assumption) ?_
              · intro w' hSw'
                go_simp
              simp only [Act.put, List.setIfInBounds_toArray, List.set_cons_zero, List.set_cons_succ]
              refine takeH (i := 5) 52 (v := .agg #[.int .i64 ((k : Int) + 1), .slice av1 L cv1]) rfl rfl (by kernel_rfl) (by kernel_rfl) (by kernel_rfl) (fun _ _ _ h => h) (Or.inl ⟨by rfl, ?_⟩) (by assumption) ?_
              · intro w' hSw'
                go_simp
              simp only [Act.put, List.setIfInBounds_toArray, List.set_cons_zero, List.set_cons_succ]
              refine takeH (i := 6) 53 (v := .int .i64 0) rfl rfl (by kernel_rfl) (by kernel_rfl) (by kernel_rfl) (fun _ _ _ h => h) (Or.inl ⟨by rfl, ?_⟩) (by assumption) ?_
              · intro w' hSw'
                go_simp
              simp only [Act.put, List.setIfInBounds_toArray, List.set_cons_zero, List.set_cons_succ]
              have t0 : wp.cell? ⟨wl.heap.size, 0, none⟩ = some (.int .i64 0) := cell_of_row _ _ _ _ _ _ g5.out
              have t1 : wp.cell? ⟨wl.heap.size, 1, none⟩ = some (.slice none 0 0) := cell_of_row _ _ _ _ _ _ g5.out
              have f0 : wp.frozen? ⟨wl.heap.size, 0, none⟩ = false := by simp [World.frozen?, g5.out]
              have f1 : wp.frozen? ⟨wl.heap.size, 1, none⟩ = false := by simp [World.frozen?, g5.out]
              have GS := keep (GotS.store (n := ((k : Int) + 1)) (P := DA) g5.out bl.out.size bp.out OP.out (by simp) bX.out.size HL.out)
              refine wpAnyH_ready (rs := [8]) (by kernel_rfl) (by simp) ?_
              refine AllReadyH.cons rfl (fun K hK => ?_) AllReadyH.nil
              go_simp
              refine hK.out _ _ (GS.out.bel) (fun hA5 => ?_)
              clear hK K
              clear t0 t1 f0 f1
              refine takeH (i := 9) 14 (v := .int .i64 0) rfl rfl (by kernel_rfl) (by kernel_rfl) (by kernel_rfl) (fun _ _ _ h => h) (Or.inl ⟨by rfl, ?_⟩) (by assumption) ?_
              · intro w' hSw'
                go_simp
              simp only [Act.put, List.setIfInBounds_toArray, List.set_cons_zero, List.set_cons_succ]
              refine wpAnyH_done (by kernel_rfl) ?_ _
              exact ⟨_, av1, cv1, (by simp only [sets, Act.put, List.setIfInBounds_toArray, List.set_cons_zero, List.set_cons_succ]; all_goals rfl), GS.out⟩
          · go_simp
            have bX : Hid (Below w6.heap.size w6 (w6.drew.alloc (.cells #[.int .i64 0, .slice none 0 0] 26))) := (Below.refl w6.heap.size w6).drew.alloc (Nat.le_refl _) _
            have gX : Hid ((w6.drew.alloc (.cells #[.int .i64 0, .slice none 0 0] 26)).heap[w6.heap.size]? = some (.cells #[.int .i64 0, .slice none 0 0] 26)) := heap_alloc_new w6.drew _
            have sX : Hid (w6.heap.size < (w6.drew.alloc (.cells #[.int .i64 0, .slice none 0 0] 26)).heap.size) := by show _ < _; simp
            refine hK.out _ _ (bX.out) (fun hA1 => ?_)
            clear hK K
            refine wpAnyH_ready (rs := [2]) (by kernel_rfl) (by simp) ?_
            refine AllReadyH.cons rfl (fun K hK => ?_) AllReadyH.nil
            go_simp
            refine (LEAF.out _ bX.out).mono ?_
            rintro e wl ⟨rfl, hbl⟩
            have bl : Hid (Below w6.heap.size w6 wl) := bX.out.trans (hbl.mono bX.out.size)
            have gL : Hid (wl.heap[w6.heap.size]? = some (.cells #[.int .i64 0, .slice none 0 0] 26)) := (hbl.block _ sX.out).trans gX.out
            have sL : Hid (w6.heap.size < wl.heap.size) := Nat.lt_of_lt_of_le sX.out hbl.size
            clear hbl
            go_wp2_with fail
            refine hK.out _ _ (bl.out) (fun hA2 => ?_)
            clear hK K
            refine wpAnyH_ready (rs := [3]) (by kernel_rfl) (by simp) ?_
            refine AllReadyH.cons rfl (fun K hK => ?_) AllReadyH.nil
            go_simp
            refine (PUSH.out _ bl.out).mono ?_
            rintro e wp ⟨vp', rfl, hop, hbp⟩
            obtain ⟨av1, cv1, rfl⟩ := own_is hop
            rw [HL.out] at hop ⊢
            have OP := keep hop
            have bp : Hid (Below w6.heap.size w6 wp) := bl.out.trans (hbp.mono bl.out.size)
            have g5 : Hid (wp.heap[w6.heap.size]? = some (.cells #[.int .i64 0, .slice none 0 0] 26)) := (hbp.block _ sL.out).trans gL.out
            clear hop hbp
            go_wp2_with fail
            refine hK.out _ _ (bp.out) (fun hA3 => ?_)
            clear hK K
            refine takeH (i := 4) 47 (v := .tuple #[.agg #[.int .i64 ((k : Int) + 1), .slice av1 L cv1], .int .i64 0]) rfl rfl (by kernel_rfl) (by kernel_rfl) (by kernel_rfl) (fun _ _ _ h => h) (Or.inl ⟨by rfl, ?_⟩) (by assumption) ?_
            · intro w' hSw'
              go_simp
            simp only [Act.put, List.setIfInBounds_toArray, List.set_cons_zero, List.set_cons_succ]
            refine takeH (i := 5) 52 (v := .agg #[.int .i64 ((k : Int) + 1), .slice av1 L cv1]) rfl rfl (by kernel_rfl) (by kernel_rfl) (by kernel_rfl) (fun _ _ _ h => h) (Or.inl ⟨by rfl, ?_⟩) (by assumption) ?_
            · intro w' hSw'
              go_simp
            simp only [Act.put, List.setIfInBounds_toArray, List.set_cons_zero, List.set_cons_succ]
            refine takeH (i := 6) 53 (v := .int .i64 0) rfl rfl (by kernel_rfl) (by kernel_rfl) (by kernel_rfl) (fun _ _ _ h => h) (Or.inl ⟨by rfl, ?_⟩) (by assumption) ?_
            · intro w' hSw'
              go_simp
            simp only [Act.put, List.setIfInBounds_toArray, List.set_cons_zero, List.set_cons_succ]
            have t0 : wp.cell? ⟨w6.heap.size, 0, none⟩ = some (.int .i64 0) := cell_of_row _ _ _ _ _ _ g5.out
            have t1 : wp.cell? ⟨w6.heap.size, 1, none⟩ = some (.slice none 0 0) := cell_of_row _ _ _ _ _ _ g5.out
            have f0 : wp.frozen? ⟨w6.heap.size, 0, none⟩ = false := by simp [World.frozen?, g5.out]
            have f1 : wp.frozen? ⟨w6.heap.size, 1, none⟩ = false := by simp [World.frozen?, g5.out]
            have GS := keep (GotS.store (n := ((k : Int) + 1)) (P := DA) g5.out (Nat.le_refl _) bp.out OP.out sL.out bl.out.size HL.out)
            refine wpAnyH_ready (rs := [8]) (by kernel_rfl) (by simp) ?_
            refine AllReadyH.cons rfl (fun K hK => ?_) AllReadyH.nil
            go_simp
            refine hK.out _ _ (GS.out.bel) (fun hA5 => ?_)
            clear hK K
            clear t0 t1 f0 f1
            refine takeH (i := 9) 14 (v := .int .i64 0) rfl rfl (by kernel_rfl) (by kernel_rfl) (by kernel_rfl) (fun _ _ _ h => h) (Or.inl ⟨by rfl, ?_⟩) (by assumption) ?_
            · intro w' hSw'
              go_simp
            simp only [Act.put, List.setIfInBounds_toArray, List.set_cons_zero, List.set_cons_succ]
            refine wpAnyH_done (by kernel_rfl) ?_ _
            exact ⟨_, av1, cv1, (by simp only [sets, Act.put, List.setIfInBounds_toArray, List.set_cons_zero, List.set_cons_succ]; all_goals rfl), GS.out⟩
        rintro a' wN ⟨g1, av1, cv1, rfl, hG⟩
        simp only [sets, Act.put, List.setIfInBounds_toArray, List.set_cons_zero, List.set_cons_succ]
        obtain ⟨x1, hx1⟩ : ∃ x, wN = x := ⟨_, rfl⟩
        rw [hx1] at hG ⊢
        clear hx1 wN LEAF PUSH HL
        have GGx1 := keep hG
        clear hG
        have Bx1 := keep (Bw6.out.trans (GGx1.out.bel.mono Bw6.out.size))
        have cx1 := keep (cw6.out.trans (GGx1.out.bel.mono cw6.out.size))
        have ex10 := below_cell GGx1.out.bel ew60
        have ex11 := below_cell GGx1.out.bel ew61
        clear ew60 ew61
        have HL := keep HLB.out
        have LEAF : Hid (∀ w', Below x1.heap.size x1 w' → _) := fun w' hb => LB.out w' (Bx1.out.trans (hb.mono Bx1.out.size))
        have PUSH : Hid (∀ w', Below x1.heap.size x1 w' → _) := fun w' hb => PUB.out w' (cx1.out.trans (hb.mono cx1.out.size))
        go_wp2_with fail
        refine region_share (fun a a' w' => ∃ (g2 : Nat) (av2 : Option Addr) (cv2 : Nat), a' = sets a [(55, .agg #[.int .i64 (k : Int), .slice a3 q c3]), (56, .slice ab mb cb), (57, .string ⟨xb.toArray⟩), (58, .tuple #[.agg #[.int .i64 ((k : Int) + 1), .slice av2 M cv2], .int .i64 0]), (54, .tuple #[.agg #[.int .i64 ((k : Int) + 1), .slice av2 M cv2], .int .i64 0]), (59, .agg #[.int .i64 ((k : Int) + 1), .slice av2 M cv2]), (60, .int .i64 0), (15, .pointer (some ⟨g2, 0, none⟩)), (16, .int .i64 0)] ∧ GotS x1 ((k : Int) + 1) DB g2 (.slice av2 M cv2) w') ?_ ?_
        · refine wp_region_held_drew (S := fun w' => Below x1.heap.size x1 w') (by kernel_rfl) ((Below.refl x1.heap.size x1).drew) (fun hZ => ?_)
          refine takeH (i := 0) 55 (v := .agg #[.int .i64 (k : Int), .slice a3 q c3]) rfl rfl (by kernel_rfl) (by kernel_rfl) (by kernel_rfl) (fun _ _ _ h => h) (Or.inl ⟨by rfl, ?_⟩) (by assumption) ?_
          · intro w' hSw'
            have z0 := below_cell hSw' ex10
            have z1 := below_cell hSw' ex11
            go_simp
          simp only [Act.put, List.setIfInBounds_toArray, List.set_cons_zero, List.set_cons_succ]
          refine takeH (i := 1) 56 (v := .slice ab mb cb) rfl rfl (by kernel_rfl) (by kernel_rfl) (by kernel_rfl) (fun _ _ _ h => h) (Or.inl ⟨by rfl, ?_⟩) (by assumption) ?_
          · intro w' hSw'
            go_simp
          simp only [Act.put, List.setIfInBounds_toArray, List.set_cons_zero, List.set_cons_succ]
          refine wpAnyH_ready (rs := [2, 7]) (by kernel_rfl) (by simp) ?_
          refine AllReadyH.cons rfl (fun K hK => ?_) (AllReadyH.cons rfl (fun K hK => ?_) AllReadyH.nil)
          · go_simp
            refine (LEAF.out _ (Below.refl x1.heap.size x1).drew).mono ?_
            rintro e wl ⟨rfl, hbl⟩
            have bl : Hid (Below x1.heap.size x1 wl) := (Below.refl x1.heap.size x1).drew.trans (hbl.mono (Nat.le_refl _))
            clear hbl
            go_wp2_with fail
            refine hK.out _ _ (bl.out) (fun hA1 => ?_)
            clear hK K
            refine wpAnyH_ready (rs := [3, 7]) (by kernel_rfl) (by simp) ?_
            refine AllReadyH.cons rfl (fun K hK => ?_) (AllReadyH.cons rfl (fun K hK => ?_) AllReadyH.nil)
            · go_simp
              refine (PUSH.out _ bl.out).mono ?_
              rintro e wp ⟨vp', rfl, hop, hbp⟩
              obtain ⟨av2, cv2, rfl⟩ := own_is hop
              rw [HL.out] at hop ⊢
              have OP := keep hop
              have bp : Hid (Below x1.heap.size x1 wp) := bl.out.trans (hbp.mono bl.out.size)
              clear hop hbp
              go_wp2_with fail
              refine hK.out _ _ (bp.out) (fun hA3 => ?_)
              clear hK K
              refine takeH (i := 4) 54 (v := .tuple #[.agg #[.int .i64 ((k : Int) + 1), .slice av2 M cv2], .int .i64 0]) rfl rfl (by kernel_rfl) (by kernel_rfl) (by kernel_rfl) (fun _ _ _ h => h) (Or.inl ⟨by rfl, ?_⟩) (by assumption) ?_
              · intro w' hSw'
                go_simp
              simp only [Act.put, List.setIfInBounds_toArray, List.set_cons_zero, List.set_cons_succ]
              refine takeH (i := 5) 59 (v := .agg #[.int .i64 ((k : Int) + 1), .slice av2 M cv2]) rfl rfl (by kernel_rfl) (by kernel_rfl) (by kernel_rfl) (fun _ _ _ h => h) (Or.inl ⟨by rfl, ?_⟩) (by assumption) ?_
              · intro w' hSw'
                go_simp
              simp only [Act.put, List.setIfInBounds_toArray, List.set_cons_zero, List.set_cons_succ]
              refine takeH (i := 6) 60 (v := .int .i64 0) rfl rfl (by kernel_rfl) (by kernel_rfl) (by kernel_rfl) (fun _ _ _ h => h) (Or.inl ⟨by rfl, ?_⟩) (by assumption) ?_
              · intro w' hSw'
                go_simp
              simp only [Act.put, List.setIfInBounds_toArray, List.set_cons_zero, List.set_cons_succ]
              refine wpAnyH_ready (rs := [7]) (by kernel_rfl) (by simp) ?_
              refine AllReadyH.cons rfl (fun K hK => ?_) AllReadyH.nil
              go_simp
              refine hK.out _ _ (bp.out.alloc bp.out.size _) (fun hA4 => ?_)
              clear hK K
              refine wpAnyH_ready (rs := [8]) (by kernel_rfl) (by simp) ?_
              refine AllReadyH.cons rfl (fun K hK => ?_) AllReadyH.nil
              go_simp
              refine hK.out _ _ (bp.out.alloc bp.out.size _) (fun hA5 => ?_)
              clear hK K
              refine takeH (i := 9) 16 (v := .int .i64 0) rfl rfl (by kernel_rfl) (by kernel_rfl) (by kernel_rfl) (fun _ _ _ h => h) (Or.inl ⟨by rfl, ?_⟩) (by assumption) ?_
              · intro w' hSw'
                go_simp
              simp only [Act.put, List.setIfInBounds_toArray, List.set_cons_zero, List.set_cons_succ]
              refine wpAnyH_done (by kernel_rfl) ?_ _
              exact ⟨_, av2, cv2, (by simp only [sets, Act.put, List.setIfInBounds_toArray, List.set_cons_zero, List.set_cons_succ]; all_goals rfl), GotS.alloc bp.out OP.out bl.out.size HL.out⟩
            · go_simp
              have bX : Hid (Below x1.heap.size x1 (wl.alloc (.cells #[.int .i64 0, .slice none 0 0] 26))) := bl.out.alloc bl.out.size _
              have gX : Hid ((wl.alloc (.cells #[.int .i64 0, .slice none 0 0] 26)).heap[wl.heap.size]? = some (.cells #[.int .i64 0, .slice none 0 0] 26)) := heap_alloc_new wl _
              refine hK.out _ _ (bX.out) (fun hA2 => ?_)
              clear hK K
              refine wpAnyH_ready (rs := [3]) (by kernel_rfl) (by simp) ?_
              refine AllReadyH.cons rfl (fun K hK => ?_) AllReadyH.nil
              go_simp
              refine (PUSH.out _ bX.out).mono ?_
              rintro e wp ⟨vp', rfl, hop, hbp⟩
              obtain ⟨av2, cv2, rfl⟩ := own_is hop
              rw [HL.out] at hop ⊢
              have OP := keep hop
              have bp : Hid (Below x1.heap.size x1 wp) := bX.out.trans (hbp.mono bX.out.size)
              have g5 : Hid (wp.heap[wl.heap.size]? = some (.cells #[.int .i64 0, .slice none 0 0] 26)) := (hbp.block _ (by simp)).trans gX.out
              clear hop hbp
              go_wp2_with fail
              refine hK.out _ _ (bp.out) (fun hA3 => ?_)
              clear hK K
              refine takeH (i := 4) 54 (v := .tuple #[.agg #[.int .i64 ((k : Int) + 1), .slice av2 M cv2], .int .i64 0]) rfl rfl (by kernel_rfl) (by kernel_rfl) (by kernel_rfl) (fun _ _ _ h => h) (Or.inl ⟨by rfl, ?_⟩) (by assumption) ?_
              · intro w' hSw'
                go_simp
              simp only [Act.put, List.setIfInBounds_toArray, List.set_cons_zero, List.set_cons_succ]
              refine takeH (i := 5) 59 (v := .agg #[.int .i64 ((k : Int) + 1), .slice av2 M cv2]) rfl rfl (by kernel_rfl) (by kernel_rfl) (by kernel_rfl) (fun _ _ _ h => h) (Or.inl ⟨by rfl, ?_⟩) (by assumption) ?_
              · intro w' hSw'
                go_simp
              simp only [Act.put, List.setIfInBounds_toArray, List.set_cons_zero, List.set_cons_succ]
              refine takeH (i := 6) 60 (v := .int .i64 0) rfl rfl (by kernel_rfl) (by kernel_rfl) (by kernel_rfl) (fun _ _ _ h => h) (Or.inl ⟨by rfl, ?_⟩) (by assumption) ?_
              · intro w' hSw'
                go_simp
              simp only [Act.put, List.setIfInBounds_toArray, List.set_cons_zero, List.set_cons_succ]
              have t0 : wp.cell? ⟨wl.heap.size, 0, none⟩ = some (.int .i64 0) := cell_of_row _ _ _ _ _ _ g5.out
              have t1 : wp.cell? ⟨wl.heap.size, 1, none⟩ = some (.slice none 0 0) := cell_of_row _ _ _ _ _ _ g5.out
              have f0 : wp.frozen? ⟨wl.heap.size, 0, none⟩ = false := by simp [World.frozen?, g5.out]
              have f1 : wp.frozen? ⟨wl.heap.size, 1, none⟩ = false := by simp [World.frozen?, g5.out]
              have GS := keep (GotS.store (n := ((k : Int) + 1)) (P := DB) g5.out bl.out.size bp.out OP.out (by simp) bX.out.size HL.out)
              refine wpAnyH_ready (rs := [8]) (by kernel_rfl) (by simp) ?_
              refine AllReadyH.cons rfl (fun K hK => ?_) AllReadyH.nil
              go_simp
              refine hK.out _ _ (GS.out.bel) (fun hA5 => ?_)
              clear hK K
              clear t0 t1 f0 f1
              refine takeH (i := 9) 16 (v := .int .i64 0) rfl rfl (by kernel_rfl) (by kernel_rfl) (by kernel_rfl) (fun _ _ _ h => h) (Or.inl ⟨by rfl, ?_⟩) (by assumption) ?_
              · intro w' hSw'
                go_simp
              simp only [Act.put, List.setIfInBounds_toArray, List.set_cons_zero, List.set_cons_succ]
              refine wpAnyH_done (by kernel_rfl) ?_ _
              exact ⟨_, av2, cv2, (by simp only [sets, Act.put, List.setIfInBounds_toArray, List.set_cons_zero, List.set_cons_succ]; all_goals rfl), GS.out⟩
          · go_simp
            have bX : Hid (Below x1.heap.size x1 (x1.drew.alloc (.cells #[.int .i64 0, .slice none 0 0] 26))) := (Below.refl x1.heap.size x1).drew.alloc (Nat.le_refl _) _
            have gX : Hid ((x1.drew.alloc (.cells #[.int .i64 0, .slice none 0 0] 26)).heap[x1.heap.size]? = some (.cells #[.int .i64 0, .slice none 0 0] 26)) := heap_alloc_new x1.drew _
            have sX : Hid (x1.heap.size < (x1.drew.alloc (.cells #[.int .i64 0, .slice none 0 0] 26)).heap.size) := by show _ < _; simp
            refine hK.out _ _ (bX.out) (fun hA1 => ?_)
            clear hK K
            refine wpAnyH_ready (rs := [2]) (by kernel_rfl) (by simp) ?_
            refine AllReadyH.cons rfl (fun K hK => ?_) AllReadyH.nil
            go_simp
            refine (LEAF.out _ bX.out).mono ?_
            rintro e wl ⟨rfl, hbl⟩
            have bl : Hid (Below x1.heap.size x1 wl) := bX.out.trans (hbl.mono bX.out.size)
            have gL : Hid (wl.heap[x1.heap.size]? = some (.cells #[.int .i64 0, .slice none 0 0] 26)) := (hbl.block _ sX.out).trans gX.out
            have sL : Hid (x1.heap.size < wl.heap.size) := Nat.lt_of_lt_of_le sX.out hbl.size
            clear hbl
            go_wp2_with fail
            refine hK.out _ _ (bl.out) (fun hA2 => ?_)
            clear hK K
            refine wpAnyH_ready (rs := [3]) (by kernel_rfl) (by simp) ?_
            refine AllReadyH.cons rfl (fun K hK => ?_) AllReadyH.nil
            go_simp
            refine (PUSH.out _ bl.out).mono ?_
            rintro e wp ⟨vp', rfl, hop, hbp⟩
            obtain ⟨av2, cv2, rfl⟩ := own_is hop
            rw [HL.out] at hop ⊢
            have OP := keep hop
            have bp : Hid (Below x1.heap.size x1 wp) := bl.out.trans (hbp.mono bl.out.size)
            have g5 : Hid (wp.heap[x1.heap.size]? = some (.cells #[.int .i64 0, .slice none 0 0] 26)) := (hbp.block _ sL.out).trans gL.out
            clear hop hbp
            go_wp2_with fail
            refine hK.out _ _ (bp.out) (fun hA3 => ?_)
            clear hK K
            refine takeH (i := 4) 54 (v := .tuple #[.agg #[.int .i64 ((k : Int) + 1), .slice av2 M cv2], .int .i64 0]) rfl rfl (by kernel_rfl) (by kernel_rfl) (by kernel_rfl) (fun _ _ _ h => h) (Or.inl ⟨by rfl, ?_⟩) (by assumption) ?_
            · intro w' hSw'
              go_simp
            simp only [Act.put, List.setIfInBounds_toArray, List.set_cons_zero, List.set_cons_succ]
            refine takeH (i := 5) 59 (v := .agg #[.int .i64 ((k : Int) + 1), .slice av2 M cv2]) rfl rfl (by kernel_rfl) (by kernel_rfl) (by kernel_rfl) (fun _ _ _ h => h) (Or.inl ⟨by rfl, ?_⟩) (by assumption) ?_
            · intro w' hSw'
              go_simp
            simp only [Act.put, List.setIfInBounds_toArray, List.set_cons_zero, List.set_cons_succ]
            refine takeH (i := 6) 60 (v := .int .i64 0) rfl rfl (by kernel_rfl) (by kernel_rfl) (by kernel_rfl) (fun _ _ _ h => h) (Or.inl ⟨by rfl, ?_⟩) (by assumption) ?_
            · intro w' hSw'
              go_simp
            simp only [Act.put, List.setIfInBounds_toArray, List.set_cons_zero, List.set_cons_succ]
            have t0 : wp.cell? ⟨x1.heap.size, 0, none⟩ = some (.int .i64 0) := cell_of_row _ _ _ _ _ _ g5.out
            have t1 : wp.cell? ⟨x1.heap.size, 1, none⟩ = some (.slice none 0 0) := cell_of_row _ _ _ _ _ _ g5.out
            have f0 : wp.frozen? ⟨x1.heap.size, 0, none⟩ = false := by simp [World.frozen?, g5.out]
            have f1 : wp.frozen? ⟨x1.heap.size, 1, none⟩ = false := by simp [World.frozen?, g5.out]
            have GS := keep (GotS.store (n := ((k : Int) + 1)) (P := DB) g5.out (Nat.le_refl _) bp.out OP.out sL.out bl.out.size HL.out)
            refine wpAnyH_ready (rs := [8]) (by kernel_rfl) (by simp) ?_
            refine AllReadyH.cons rfl (fun K hK => ?_) AllReadyH.nil
            go_simp
            refine hK.out _ _ (GS.out.bel) (fun hA5 => ?_)
            clear hK K
            clear t0 t1 f0 f1
            refine takeH (i := 9) 16 (v := .int .i64 0) rfl rfl (by kernel_rfl) (by kernel_rfl) (by kernel_rfl) (fun _ _ _ h => h) (Or.inl ⟨by rfl, ?_⟩) (by assumption) ?_
            · intro w' hSw'
              go_simp
            simp only [Act.put, List.setIfInBounds_toArray, List.set_cons_zero, List.set_cons_succ]
            refine wpAnyH_done (by kernel_rfl) ?_ _
            exact ⟨_, av2, cv2, (by simp only [sets, Act.put, List.setIfInBounds_toArray, List.set_cons_zero, List.set_cons_succ]; all_goals rfl), GS.out⟩
        rintro a' wN ⟨g2, av2, cv2, rfl, hG⟩
        simp only [sets, Act.put, List.setIfInBounds_toArray, List.set_cons_zero, List.set_cons_succ]
        obtain ⟨x2, hx2⟩ : ∃ x, wN = x := ⟨_, rfl⟩
        rw [hx2] at hG ⊢
        clear hx2 wN LEAF PUSH HL
        have GGx2 := keep hG
        clear hG
        have Bx2 := keep (Bx1.out.trans (GGx2.out.bel.mono Bx1.out.size))
        have cx2 := keep (cx1.out.trans (GGx2.out.bel.mono cx1.out.size))
        have ex20 := below_cell GGx2.out.bel ex10
        have ex21 := below_cell GGx2.out.bel ex11
        clear ex10 ex11
        have HL := keep HLA.out
        have LEAF : Hid (∀ w', Below x2.heap.size x2 w' → _) := fun w' hb => LA.out w' (Bx2.out.trans (hb.mono Bx2.out.size))
        have PUSH : Hid (∀ w', Below x2.heap.size x2 w' → _) := fun w' hb => PUA.out w' (cx2.out.trans (hb.mono cx2.out.size))
        go_wp2_with fail
        refine region_share (fun a a' w' => ∃ (g3 : Nat) (av3 : Option Addr) (cv3 : Nat), a' = sets a [(62, .agg #[.int .i64 (k : Int), .slice a3 q c3]), (63, .slice aa ma ca), (64, .string ⟨xa.toArray⟩), (65, .tuple #[.agg #[.int .i64 ((k : Int) + 1), .slice av3 L cv3], .int .i64 0]), (61, .tuple #[.agg #[.int .i64 ((k : Int) + 1), .slice av3 L cv3], .int .i64 0]), (66, .agg #[.int .i64 ((k : Int) + 1), .slice av3 L cv3]), (67, .int .i64 0), (17, .pointer (some ⟨g3, 0, none⟩)), (18, .int .i64 0)] ∧ GotS x2 ((k : Int) + 1) DA g3 (.slice av3 L cv3) w') ?_ ?_
        · refine wp_region_held_drew (S := fun w' => Below x2.heap.size x2 w') (by kernel_rfl) ((Below.refl x2.heap.size x2).drew) (fun hZ => ?_)
          refine takeH (i := 0) 62 (v := .agg #[.int .i64 (k : Int), .slice a3 q c3]) rfl rfl (by kernel_rfl) (by kernel_rfl) (by kernel_rfl) (fun _ _ _ h => h) (Or.inl ⟨by rfl, ?_⟩) (by assumption) ?_
          · intro w' hSw'
            have z0 := below_cell hSw' ex20
            have z1 := below_cell hSw' ex21
            go_simp
          simp only [Act.put, List.setIfInBounds_toArray, List.set_cons_zero, List.set_cons_succ]
          refine takeH (i := 1) 63 (v := .slice aa ma ca) rfl rfl (by kernel_rfl) (by kernel_rfl) (by kernel_rfl) (fun _ _ _ h => h) (Or.inl ⟨by rfl, ?_⟩) (by assumption) ?_
          · intro w' hSw'
            go_simp
          simp only [Act.put, List.setIfInBounds_toArray, List.set_cons_zero, List.set_cons_succ]
          refine wpAnyH_ready (rs := [2, 7]) (by kernel_rfl) (by simp) ?_
          refine AllReadyH.cons rfl (fun K hK => ?_) (AllReadyH.cons rfl (fun K hK => ?_) AllReadyH.nil)
          · go_simp
            refine (LEAF.out _ (Below.refl x2.heap.size x2).drew).mono ?_
            rintro e wl ⟨rfl, hbl⟩
            have bl : Hid (Below x2.heap.size x2 wl) := (Below.refl x2.heap.size x2).drew.trans (hbl.mono (Nat.le_refl _))
            clear hbl
            go_wp2_with fail
            refine hK.out _ _ (bl.out) (fun hA1 => ?_)
            clear hK K
            refine wpAnyH_ready (rs := [3, 7]) (by kernel_rfl) (by simp) ?_
            refine AllReadyH.cons rfl (fun K hK => ?_) (AllReadyH.cons rfl (fun K hK => ?_) AllReadyH.nil)
            · go_simp
              refine (PUSH.out _ bl.out).mono ?_
              rintro e wp ⟨vp', rfl, hop, hbp⟩
              obtain ⟨av3, cv3, rfl⟩ := own_is hop
              rw [HL.out] at hop ⊢
              have OP := keep hop
              have bp : Hid (Below x2.heap.size x2 wp) := bl.out.trans (hbp.mono bl.out.size)
              clear hop hbp
              go_wp2_with fail
              refine hK.out _ _ (bp.out) (fun hA3 => ?_)
              clear hK K
              refine takeH (i := 4) 61 (v := .tuple #[.agg #[.int .i64 ((k : Int) + 1), .slice av3 L cv3], .int .i64 0]) rfl rfl (by kernel_rfl) (by kernel_rfl) (by kernel_rfl) (fun _ _ _ h => h) (Or.inl ⟨by rfl, ?_⟩) (by assumption) ?_
              · intro w' hSw'
                go_simp
              simp only [Act.put, List.setIfInBounds_toArray, List.set_cons_zero, List.set_cons_succ]
              refine takeH (i := 5) 66 (v := .agg #[.int .i64 ((k : Int) + 1), .slice av3 L cv3]) rfl rfl (by kernel_rfl) (by kernel_rfl) (by kernel_rfl) (fun _ _ _ h => h) (Or.inl ⟨by rfl, ?_⟩) (by assumption) ?_
              · intro w' hSw'
                go_simp
              simp only [Act.put, List.setIfInBounds_toArray, List.set_cons_zero, List.set_cons_succ]
              refine takeH (i := 6) 67 (v := .int .i64 0) rfl rfl (by kernel_rfl) (by kernel_rfl) (by kernel_rfl) (fun _ _ _ h => h) (Or.inl ⟨by rfl, ?_⟩) (by assumption) ?_
              · intro w' hSw'
                go_simp
              simp only [Act.put, List.setIfInBounds_toArray, List.set_cons_zero, List.set_cons_succ]
              refine wpAnyH_ready (rs := [7]) (by kernel_rfl) (by simp) ?_
              refine AllReadyH.cons rfl (fun K hK => ?_) AllReadyH.nil
              go_simp
              refine hK.out _ _ (bp.out.alloc bp.out.size _) (fun hA4 => ?_)
              clear hK K
              refine wpAnyH_ready (rs := [8]) (by kernel_rfl) (by simp) ?_
              refine AllReadyH.cons rfl (fun K hK => ?_) AllReadyH.nil
              go_simp
              refine hK.out _ _ (bp.out.alloc bp.out.size _) (fun hA5 => ?_)
              clear hK K
              refine takeH (i := 9) 18 (v := .int .i64 0) rfl rfl (by kernel_rfl) (by kernel_rfl) (by kernel_rfl) (fun _ _ _ h => h) (Or.inl ⟨by rfl, ?_⟩) (by assumption) ?_
              · intro w' hSw'
                go_simp
              simp only [Act.put, List.setIfInBounds_toArray, List.set_cons_zero, List.set_cons_succ]
              refine wpAnyH_done (by kernel_rfl) ?_ _
              exact ⟨_, av3, cv3, (by simp only [sets, Act.put, List.setIfInBounds_toArray, List.set_cons_zero, List.set_cons_succ]; all_goals rfl), GotS.alloc bp.out OP.out bl.out.size HL.out⟩
            · go_simp
              have bX : Hid (Below x2.heap.size x2 (wl.alloc (.cells #[.int .i64 0, .slice none 0 0] 26))) := bl.out.alloc bl.out.size _
              have gX : Hid ((wl.alloc (.cells #[.int .i64 0, .slice none 0 0] 26)).heap[wl.heap.size]? = some (.cells #[.int .i64 0, .slice none 0 0] 26)) := heap_alloc_new wl _
              refine hK.out _ _ (bX.out) (fun hA2 => ?_)
              clear hK K
              refine wpAnyH_ready (rs := [3]) (by kernel_rfl) (by simp) ?_
              refine AllReadyH.cons rfl (fun K hK => ?_) AllReadyH.nil
              go_simp
              refine (PUSH.out _ bX.out).mono ?_
              rintro e wp ⟨vp', rfl, hop, hbp⟩
              obtain ⟨av3, cv3, rfl⟩ := own_is hop
              rw [HL.out] at hop ⊢
              have OP := keep hop
              have bp : Hid (Below x2.heap.size x2 wp) := bX.out.trans (hbp.mono bX.out.size)
              have g5 : Hid (wp.heap[wl.heap.size]? = some (.cells #[.int .i64 0, .slice none 0 0] 26)) := (hbp.block _ (by simp)).trans gX.out
              clear hop hbp
              go_wp2_with fail
              refine hK.out _ _ (bp.out) (fun hA3 => ?_)
              clear hK K
              refine takeH (i := 4) 61 (v := .tuple #[.agg #[.int .i64 ((k : Int) + 1), .slice av3 L cv3], .int .i64 0]) rfl rfl (by kernel_rfl) (by kernel_rfl) (by kernel_rfl) (fun _ _ _ h => h) (Or.inl ⟨by rfl, ?_⟩) (by assumption) ?_
              · intro w' hSw'
                go_simp
              simp only [Act.put, List.setIfInBounds_toArray, List.set_cons_zero, List.set_cons_succ]
              refine takeH (i := 5) 66 (v := .agg #[.int .i64 ((k : Int) + 1), .slice av3 L cv3]) rfl rfl (by kernel_rfl) (by kernel_rfl) (by kernel_rfl) (fun _ _ _ h => h) (Or.inl ⟨by rfl, ?_⟩) (by assumption) ?_
              · intro w' hSw'
                go_simp
              simp only [Act.put, List.setIfInBounds_toArray, List.set_cons_zero, List.set_cons_succ]
              refine takeH (i := 6) 67 (v := .int .i64 0) rfl rfl (by kernel_rfl) (by kernel_rfl) (by kernel_rfl) (fun _ _ _ h => h) (Or.inl ⟨by rfl, ?_⟩) (by assumption) ?_
              · intro w' hSw'
                go_simp
              simp only [Act.put, List.setIfInBounds_toArray, List.set_cons_zero, List.set_cons_succ]
              have t0 : wp.cell? ⟨wl.heap.size, 0, none⟩ = some (.int .i64 0) := cell_of_row _ _ _ _ _ _ g5.out
              have t1 : wp.cell? ⟨wl.heap.size, 1, none⟩ = some (.slice none 0 0) := cell_of_row _ _ _ _ _ _ g5.out
              have f0 : wp.frozen? ⟨wl.heap.size, 0, none⟩ = false := by simp [World.frozen?, g5.out]
              have f1 : wp.frozen? ⟨wl.heap.size, 1, none⟩ = false := by simp [World.frozen?, g5.out]
              have GS := keep (GotS.store (n := ((k : Int) + 1)) (P := DA) g5.out bl.out.size bp.out OP.out (by simp) bX.out.size HL.out)
              refine wpAnyH_ready (rs := [8]) (by kernel_rfl) (by simp) ?_
              refine AllReadyH.cons rfl (fun K hK => ?_) AllReadyH.nil
              go_simp
              refine hK.out _ _ (GS.out.bel) (fun hA5 => ?_)
              clear hK K
              clear t0 t1 f0 f1
              refine takeH (i := 9) 18 (v := .int .i64 0) rfl rfl (by kernel_rfl) (by kernel_rfl) (by kernel_rfl) (fun _ _ _ h => h) (Or.inl ⟨by rfl, ?_⟩) (by assumption) ?_
              · intro w' hSw'
                go_simp
              simp only [Act.put, List.setIfInBounds_toArray, List.set_cons_zero, List.set_cons_succ]
              refine wpAnyH_done (by kernel_rfl) ?_ _
              exact ⟨_, av3, cv3, (by simp only [sets, Act.put, List.setIfInBounds_toArray, List.set_cons_zero, List.set_cons_succ]; all_goals rfl), GS.out⟩
          · go_simp
            have bX : Hid (Below x2.heap.size x2 (x2.drew.alloc (.cells #[.int .i64 0, .slice none 0 0] 26))) := (Below.refl x2.heap.size x2).drew.alloc (Nat.le_refl _) _
            have gX : Hid ((x2.drew.alloc (.cells #[.int .i64 0, .slice none 0 0] 26)).heap[x2.heap.size]? = some (.cells #[.int .i64 0, .slice none 0 0] 26)) := heap_alloc_new x2.drew _
            have sX : Hid (x2.heap.size < (x2.drew.alloc (.cells #[.int .i64 0, .slice none 0 0] 26)).heap.size) := by show _ < _; simp
            refine hK.out _ _ (bX.out) (fun hA1 => ?_)
            clear hK K
            refine wpAnyH_ready (rs := [2]) (by kernel_rfl) (by simp) ?_
            refine AllReadyH.cons rfl (fun K hK => ?_) AllReadyH.nil
            go_simp
            refine (LEAF.out _ bX.out).mono ?_
            rintro e wl ⟨rfl, hbl⟩
            have bl : Hid (Below x2.heap.size x2 wl) := bX.out.trans (hbl.mono bX.out.size)
            have gL : Hid (wl.heap[x2.heap.size]? = some (.cells #[.int .i64 0, .slice none 0 0] 26)) := (hbl.block _ sX.out).trans gX.out
            have sL : Hid (x2.heap.size < wl.heap.size) := Nat.lt_of_lt_of_le sX.out hbl.size
            clear hbl
            go_wp2_with fail
            refine hK.out _ _ (bl.out) (fun hA2 => ?_)
            clear hK K
            refine wpAnyH_ready (rs := [3]) (by kernel_rfl) (by simp) ?_
            refine AllReadyH.cons rfl (fun K hK => ?_) AllReadyH.nil
            go_simp
            refine (PUSH.out _ bl.out).mono ?_
            rintro e wp ⟨vp', rfl, hop, hbp⟩
            obtain ⟨av3, cv3, rfl⟩ := own_is hop
            rw [HL.out] at hop ⊢
            have OP := keep hop
            have bp : Hid (Below x2.heap.size x2 wp) := bl.out.trans (hbp.mono bl.out.size)
            have g5 : Hid (wp.heap[x2.heap.size]? = some (.cells #[.int .i64 0, .slice none 0 0] 26)) := (hbp.block _ sL.out).trans gL.out
            clear hop hbp
            go_wp2_with fail
            refine hK.out _ _ (bp.out) (fun hA3 => ?_)
            clear hK K
            refine takeH (i := 4) 61 (v := .tuple #[.agg #[.int .i64 ((k : Int) + 1), .slice av3 L cv3], .int .i64 0]) rfl rfl (by kernel_rfl) (by kernel_rfl) (by kernel_rfl) (fun _ _ _ h => h) (Or.inl ⟨by rfl, ?_⟩) (by assumption) ?_
            · intro w' hSw'
              go_simp
            simp only [Act.put, List.setIfInBounds_toArray, List.set_cons_zero, List.set_cons_succ]
            refine takeH (i := 5) 66 (v := .agg #[.int .i64 ((k : Int) + 1), .slice av3 L cv3]) rfl rfl (by kernel_rfl) (by kernel_rfl) (by kernel_rfl) (fun _ _ _ h => h) (Or.inl ⟨by rfl, ?_⟩) (by assumption) ?_
            · intro w' hSw'
              go_simp
            simp only [Act.put, List.setIfInBounds_toArray, List.set_cons_zero, List.set_cons_succ]
            refine takeH (i := 6) 67 (v := .int .i64 0) rfl rfl (by kernel_rfl) (by kernel_rfl) (by kernel_rfl) (fun _ _ _ h => h) (Or.inl ⟨by rfl, ?_⟩) (by assumption) ?_
            · intro w' hSw'
              go_simp
            simp only [Act.put, List.setIfInBounds_toArray, List.set_cons_zero, List.set_cons_succ]
            have t0 : wp.cell? ⟨x2.heap.size, 0, none⟩ = some (.int .i64 0) := cell_of_row _ _ _ _ _ _ g5.out
            have t1 : wp.cell? ⟨x2.heap.size, 1, none⟩ = some (.slice none 0 0) := cell_of_row _ _ _ _ _ _ g5.out
            have f0 : wp.frozen? ⟨x2.heap.size, 0, none⟩ = false := by simp [World.frozen?, g5.out]
            have f1 : wp.frozen? ⟨x2.heap.size, 1, none⟩ = false := by simp [World.frozen?, g5.out]
            have GS := keep (GotS.store (n := ((k : Int) + 1)) (P := DA) g5.out (Nat.le_refl _) bp.out OP.out sL.out bl.out.size HL.out)
            refine wpAnyH_ready (rs := [8]) (by kernel_rfl) (by simp) ?_
            refine AllReadyH.cons rfl (fun K hK => ?_) AllReadyH.nil
            go_simp
            refine hK.out _ _ (GS.out.bel) (fun hA5 => ?_)
            clear hK K
            clear t0 t1 f0 f1
            refine takeH (i := 9) 18 (v := .int .i64 0) rfl rfl (by kernel_rfl) (by kernel_rfl) (by kernel_rfl) (fun _ _ _ h => h) (Or.inl ⟨by rfl, ?_⟩) (by assumption) ?_
            · intro w' hSw'
              go_simp
            simp only [Act.put, List.setIfInBounds_toArray, List.set_cons_zero, List.set_cons_succ]
            refine wpAnyH_done (by kernel_rfl) ?_ _
            exact ⟨_, av3, cv3, (by simp only [sets, Act.put, List.setIfInBounds_toArray, List.set_cons_zero, List.set_cons_succ]; all_goals rfl), GS.out⟩
        rintro a' wN ⟨g3, av3, cv3, rfl, hG⟩
        simp only [sets, Act.put, List.setIfInBounds_toArray, List.set_cons_zero, List.set_cons_succ]
        obtain ⟨x3, hx3⟩ : ∃ x, wN = x := ⟨_, rfl⟩
        rw [hx3] at hG ⊢
        clear hx3 wN LEAF PUSH HL
        have GGx3 := keep hG
        clear hG
        have Bx3 := keep (Bx2.out.trans (GGx3.out.bel.mono Bx2.out.size))
        have cx3 := keep (cx2.out.trans (GGx3.out.bel.mono cx2.out.size))
        have ex30 := below_cell GGx3.out.bel ex20
        have ex31 := below_cell GGx3.out.bel ex21
        clear ex20 ex21
        have d63 : Hid (Below w6.heap.size w6 x3) := GGx1.out.bel.trans ((GGx2.out.bel.trans (GGx3.out.bel.mono GGx2.out.bel.size)).mono GGx1.out.bel.size)
        have d13 : Hid (Below x1.heap.size x1 x3) := GGx2.out.bel.trans (GGx3.out.bel.mono GGx2.out.bel.size)
        have d23 := keep GGx3.out.bel
        have y31 := ex31
        have y10 : x3.cell? ⟨g1, 0, none⟩ = some (.int .i64 ((k : Int) + 1)) := below_cell d13.out (cell_of_row _ _ _ _ _ _ GGx1.out.row)
        have y11 : x3.cell? ⟨g1, 1, none⟩ = some (.slice av1 L cv1) := below_cell d13.out (cell_of_row _ _ _ _ _ _ GGx1.out.row)
        have y20 : x3.cell? ⟨g2, 0, none⟩ = some (.int .i64 ((k : Int) + 1)) := below_cell d23.out (cell_of_row _ _ _ _ _ _ GGx2.out.row)
        have y40 : x3.cell? ⟨g3, 0, none⟩ = some (.int .i64 ((k : Int) + 1)) := cell_of_row _ _ _ _ _ _ GGx3.out.row
        have y41 : x3.cell? ⟨g3, 1, none⟩ = some (.slice av3 L cv3) := cell_of_row _ _ _ _ _ _ GGx3.out.row
        have RA : Hid (RSrc strKind x1 av1 L cv1 DA) := by
          have h := GGx1.out.own
          rw [HLA.out] at h
          obtain ⟨ao', c', e2, hr, _⟩ := RSrc.own strKind_ok h (fun _ _ => trivial)
          obtain ⟨e3, _, e5⟩ := Value.slice.inj e2
          subst e3
          subst e5
          exact hr
        have RC : Hid (RSrc strKind x3 av3 L cv3 DA) := by
          have h := GGx3.out.own
          rw [HLA.out] at h
          obtain ⟨ao', c', e2, hr, _⟩ := RSrc.own strKind_ok h (fun _ _ => trivial)
          obtain ⟨e3, _, e5⟩ := Value.slice.inj e2
          subst e3
          subst e5
          exact hr
        have R6 : Hid (RSrc strKind w6 a6 q c6 D) := by
          obtain ⟨ao', c', e2, hr, _⟩ := RSrc.own strKind_ok O6.out (fun _ _ => trivial)
          obtain ⟨e3, _, e5⟩ := Value.slice.inj e2
          subst e3
          subst e5
          exact hr
        have SA : Hid (∀ w', Below x3.heap.size x3 w' → Calls Tryd.prog 26 #[.slice a6 q c6, .slice a3 q c3] w' fun e w'' => e = .returned (.bool true) ∧ Below w'.heap.size w' w'') := fun w' hb => rsameS_yes a6 q c6 D a3 c3 w' (R6.out.below strKind_ok (d63.out.trans (hb.mono d63.out.size))) (R4.out.below strKind_ok (cx3.out.trans (hb.mono cx3.out.size))) (by omega)
        have SM : Hid (∀ w', Below x3.heap.size x3 w' → Calls Tryd.prog 14 #[.agg #[.int .i64 ((k : Int) + 1), .slice av1 L cv1], .agg #[.int .i64 ((k : Int) + 1), .slice av3 L cv3]] w' fun e w'' => e = .returned (.bool true) ∧ Below w'.heap.size w' w'') := fun w' hb => rsame16_yes ((k : Int) + 1) av1 L cv1 DA av3 cv3 w' (RA.out.below strKind_ok (d13.out.trans (hb.mono d13.out.size))) (RC.out.below strKind_ok hb) (by omega)
        have kw : IntKind.i64.wrap ((k : Int) + 1) = (k : Int) + 1 := wrap_small _ (by omega) (by omega)
        clear PUA PUB LA LB
        go_wp2_with fail
        refine wp_region_held_drew (S := fun w' => Below x3.heap.size x3 w') (by kernel_rfl) ((Below.refl x3.heap.size x3).drew) (fun hZ => ?_)
        refine takeH (i := 0) 68 (v := .bool true) rfl rfl (by kernel_rfl) (by kernel_rfl) (by kernel_rfl) (fun _ _ _ h => h) (Or.inl ⟨by rfl, ?_⟩) (by assumption) ?_
        · intro w' hSw'
          go_simp
        simp only [Act.put, List.setIfInBounds_toArray, List.set_cons_zero, List.set_cons_succ]
        refine takeH (i := 1) 69 (v := .bool true) rfl rfl (by kernel_rfl) (by kernel_rfl) (by kernel_rfl) (fun _ _ _ h => h) (Or.inl ⟨by rfl, ?_⟩) (by assumption) ?_
        · intro w' hSw'
          go_simp
        simp only [Act.put, List.setIfInBounds_toArray, List.set_cons_zero, List.set_cons_succ]
        refine takeH (i := 2) 70 (v := .int .i64 0) rfl rfl (by kernel_rfl) (by kernel_rfl) (by kernel_rfl) (fun _ _ _ h => h) (Or.inl ⟨by rfl, ?_⟩) (by assumption) ?_
        · intro w' hSw'
          go_simp
        simp only [Act.put, List.setIfInBounds_toArray, List.set_cons_zero, List.set_cons_succ]
        refine takeH (i := 3) 71 (v := .bool true) rfl rfl (by kernel_rfl) (by kernel_rfl) (by kernel_rfl) (fun _ _ _ h => h) (Or.inl ⟨by rfl, ?_⟩) (by assumption) ?_
        · intro w' hSw'
          go_simp
        simp only [Act.put, List.setIfInBounds_toArray, List.set_cons_zero, List.set_cons_succ]
        refine takeH (i := 4) 72 (v := .bool true) rfl rfl (by kernel_rfl) (by kernel_rfl) (by kernel_rfl) (fun _ _ _ h => h) (Or.inl ⟨by rfl, ?_⟩) (by assumption) ?_
        · intro w' hSw'
          go_simp
        simp only [Act.put, List.setIfInBounds_toArray, List.set_cons_zero, List.set_cons_succ]
        refine takeH (i := 5) 73 (v := .bool true) rfl rfl (by kernel_rfl) (by kernel_rfl) (by kernel_rfl) (fun _ _ _ h => h) (Or.inl ⟨by rfl, ?_⟩) (by assumption) ?_
        · intro w' hSw'
          go_simp
        simp only [Act.put, List.setIfInBounds_toArray, List.set_cons_zero, List.set_cons_succ]
        refine takeH (i := 6) 74 (v := .int .i64 0) rfl rfl (by kernel_rfl) (by kernel_rfl) (by kernel_rfl) (fun _ _ _ h => h) (Or.inl ⟨by rfl, ?_⟩) (by assumption) ?_
        · intro w' hSw'
          go_simp
        simp only [Act.put, List.setIfInBounds_toArray, List.set_cons_zero, List.set_cons_succ]
        refine takeH (i := 7) 75 (v := .bool true) rfl rfl (by kernel_rfl) (by kernel_rfl) (by kernel_rfl) (fun _ _ _ h => h) (Or.inl ⟨by rfl, ?_⟩) (by assumption) ?_
        · intro w' hSw'
          go_simp
        simp only [Act.put, List.setIfInBounds_toArray, List.set_cons_zero, List.set_cons_succ]
        refine takeH (i := 8) 76 (v := .bool true) rfl rfl (by kernel_rfl) (by kernel_rfl) (by kernel_rfl) (fun _ _ _ h => h) (Or.inl ⟨by rfl, ?_⟩) (by assumption) ?_
        · intro w' hSw'
          go_simp
        simp only [Act.put, List.setIfInBounds_toArray, List.set_cons_zero, List.set_cons_succ]
        refine takeH (i := 9) 77 (v := .bool true) rfl rfl (by kernel_rfl) (by kernel_rfl) (by kernel_rfl) (fun _ _ _ h => h) (Or.inl ⟨by rfl, ?_⟩) (by assumption) ?_
        · intro w' hSw'
          go_simp
        simp only [Act.put, List.setIfInBounds_toArray, List.set_cons_zero, List.set_cons_succ]
        refine takeH (i := 10) 78 (v := .int .i64 0) rfl rfl (by kernel_rfl) (by kernel_rfl) (by kernel_rfl) (fun _ _ _ h => h) (Or.inl ⟨by rfl, ?_⟩) (by assumption) ?_
        · intro w' hSw'
          go_simp
        simp only [Act.put, List.setIfInBounds_toArray, List.set_cons_zero, List.set_cons_succ]
        refine takeH (i := 11) 79 (v := .bool true) rfl rfl (by kernel_rfl) (by kernel_rfl) (by kernel_rfl) (fun _ _ _ h => h) (Or.inl ⟨by rfl, ?_⟩) (by assumption) ?_
        · intro w' hSw'
          go_simp
        simp only [Act.put, List.setIfInBounds_toArray, List.set_cons_zero, List.set_cons_succ]
        refine takeH (i := 12) 80 (v := .bool true) rfl rfl (by kernel_rfl) (by kernel_rfl) (by kernel_rfl) (fun _ _ _ h => h) (Or.inl ⟨by rfl, ?_⟩) (by assumption) ?_
        · intro w' hSw'
          go_simp
        simp only [Act.put, List.setIfInBounds_toArray, List.set_cons_zero, List.set_cons_succ]
        refine takeH (i := 13) 81 (v := .bool true) rfl rfl (by kernel_rfl) (by kernel_rfl) (by kernel_rfl) (fun _ _ _ h => h) (Or.inl ⟨by rfl, ?_⟩) (by assumption) ?_
        · intro w' hSw'
          go_simp
        simp only [Act.put, List.setIfInBounds_toArray, List.set_cons_zero, List.set_cons_succ]
        refine takeH (i := 14) 82 (v := .int .i64 0) rfl rfl (by kernel_rfl) (by kernel_rfl) (by kernel_rfl) (fun _ _ _ h => h) (Or.inl ⟨by rfl, ?_⟩) (by assumption) ?_
        · intro w' hSw'
          go_simp
        simp only [Act.put, List.setIfInBounds_toArray, List.set_cons_zero, List.set_cons_succ]
        refine takeH (i := 15) 83 (v := .bool true) rfl rfl (by kernel_rfl) (by kernel_rfl) (by kernel_rfl) (fun _ _ _ h => h) (Or.inl ⟨by rfl, ?_⟩) (by assumption) ?_
        · intro w' hSw'
          go_simp
        simp only [Act.put, List.setIfInBounds_toArray, List.set_cons_zero, List.set_cons_succ]
        refine takeH (i := 16) 84 (v := .bool true) rfl rfl (by kernel_rfl) (by kernel_rfl) (by kernel_rfl) (fun _ _ _ h => h) (Or.inl ⟨by rfl, ?_⟩) (by assumption) ?_
        · intro w' hSw'
          go_simp
        simp only [Act.put, List.setIfInBounds_toArray, List.set_cons_zero, List.set_cons_succ]
        refine takeH (i := 17) 85 (v := .bool true) rfl rfl (by kernel_rfl) (by kernel_rfl) (by kernel_rfl) (fun _ _ _ h => h) (Or.inl ⟨by rfl, ?_⟩) (by assumption) ?_
        · intro w' hSw'
          go_simp
        simp only [Act.put, List.setIfInBounds_toArray, List.set_cons_zero, List.set_cons_succ]
        refine takeH (i := 18) 86 (v := .slice a6 q c6) rfl rfl (by kernel_rfl) (by kernel_rfl) (by kernel_rfl) (fun _ _ _ h => h) (Or.inl ⟨by rfl, ?_⟩) (by assumption) ?_
        · intro w' hSw'
          go_simp
        simp only [Act.put, List.setIfInBounds_toArray, List.set_cons_zero, List.set_cons_succ]
        refine takeH (i := 19) 87 (v := .pointer (some ⟨w3.heap.size, 1, none⟩)) rfl rfl (by kernel_rfl) (by kernel_rfl) (by kernel_rfl) (fun _ _ _ h => h) (Or.inl ⟨by rfl, ?_⟩) (by assumption) ?_
        · intro w' hSw'
          go_simp
        simp only [Act.put, List.setIfInBounds_toArray, List.set_cons_zero, List.set_cons_succ]
        refine takeH (i := 20) 88 (v := .slice a3 q c3) rfl rfl (by kernel_rfl) (by kernel_rfl) (by kernel_rfl) (fun _ _ _ h => h) (Or.inl ⟨by rfl, ?_⟩) (by assumption) ?_
        · intro w' hSw'
          have z0 := below_cell hSw' y31
          go_simp
        simp only [Act.put, List.setIfInBounds_toArray, List.set_cons_zero, List.set_cons_succ]
        refine wpAnyH_ready (rs := [21]) (by kernel_rfl) (by simp) ?_
        refine AllReadyH.cons rfl (fun K hK => ?_) AllReadyH.nil
        go_simp
        refine (SA.out _ (Below.refl x3.heap.size x3).drew).mono ?_
        rintro e wa ⟨rfl, hb⟩
        have bwa := keep ((Below.refl x3.heap.size x3).drew.trans (hb.mono (Below.refl x3.heap.size x3).drew.size))
        clear hb
        go_wp2_with fail
        refine hK.out _ _ (bwa.out) (fun hZ1 => ?_)
        clear hK K
        refine takeH (i := 0x16) 90 (v := .bool true) rfl rfl (by kernel_rfl) (by kernel_rfl) (by kernel_rfl) (fun _ _ _ h => h) (Or.inl ⟨by rfl, ?_⟩) (by assumption) ?_
        · intro w' hSw'
          go_simp
        simp only [Act.put, List.setIfInBounds_toArray, List.set_cons_zero, List.set_cons_succ]
        refine takeH (i := 23) 91 (v := .bool true) rfl rfl (by kernel_rfl) (by kernel_rfl) (by kernel_rfl) (fun _ _ _ h => h) (Or.inl ⟨by rfl, ?_⟩) (by assumption) ?_
        · intro w' hSw'
          go_simp
        simp only [Act.put, List.setIfInBounds_toArray, List.set_cons_zero, List.set_cons_succ]
        refine takeH (i := 24) 92 (v := .agg #[.int .i64 ((k : Int) + 1), .slice av1 L cv1]) rfl rfl (by kernel_rfl) (by kernel_rfl) (by kernel_rfl) (fun _ _ _ h => h) (Or.inl ⟨by rfl, ?_⟩) (by assumption) ?_
        · intro w' hSw'
          have z0 := below_cell hSw' y10
          have z1 := below_cell hSw' y11
          go_simp
        simp only [Act.put, List.setIfInBounds_toArray, List.set_cons_zero, List.set_cons_succ]
        refine takeH (i := 26) 94 (v := .agg #[.int .i64 ((k : Int) + 1), .slice av3 L cv3]) rfl rfl (by kernel_rfl) (by kernel_rfl) (by kernel_rfl) (fun _ _ _ h => h) (Or.inl ⟨by rfl, ?_⟩) (by assumption) ?_
        · intro w' hSw'
          have z0 := below_cell hSw' y40
          have z1 := below_cell hSw' y41
          go_simp
        simp only [Act.put, List.setIfInBounds_toArray, List.set_cons_zero, List.set_cons_succ]
        refine wpAnyH_ready (rs := [25]) (by kernel_rfl) (by simp) ?_
        refine AllReadyH.cons rfl (fun K hK => ?_) AllReadyH.nil
        go_simp
        refine (theirs_any ((k : Int) + 1) av1 L cv1 _).mono ?_
        rintro e wb ⟨rfl, hb⟩
        have bwb := keep (bwa.out.trans (hb.mono bwa.out.size))
        clear hb
        go_wp2_with fail
        refine hK.out _ _ (bwb.out) (fun hZ2 => ?_)
        clear hK K
        refine wpAnyH_ready (rs := [27]) (by kernel_rfl) (by simp) ?_
        refine AllReadyH.cons rfl (fun K hK => ?_) AllReadyH.nil
        go_simp
        refine (theirs_any ((k : Int) + 1) av3 L cv3 _).mono ?_
        rintro e wc ⟨rfl, hb⟩
        have bwc := keep (bwb.out.trans (hb.mono bwb.out.size))
        clear hb
        go_wp2_with fail
        refine hK.out _ _ (bwc.out) (fun hZ3 => ?_)
        clear hK K
        refine wpAnyH_ready (rs := [28]) (by kernel_rfl) (by simp) ?_
        refine AllReadyH.cons rfl (fun K hK => ?_) AllReadyH.nil
        go_simp
        refine (SM.out _ bwc.out).mono ?_
        rintro e wd ⟨rfl, hb⟩
        have bwd := keep (bwc.out.trans (hb.mono bwc.out.size))
        clear hb
        go_wp2_with fail
        refine hK.out _ _ (bwd.out) (fun hZ4 => ?_)
        clear hK K
        refine takeH (i := 29) 97 (v := .bool true) rfl rfl (by kernel_rfl) (by kernel_rfl) (by kernel_rfl) (fun _ _ _ h => h) (Or.inl ⟨by rfl, ?_⟩) (by assumption) ?_
        · intro w' hSw'
          go_simp
        simp only [Act.put, List.setIfInBounds_toArray, List.set_cons_zero, List.set_cons_succ]
        refine takeH (i := 30) 98 (v := .bool true) rfl rfl (by kernel_rfl) (by kernel_rfl) (by kernel_rfl) (fun _ _ _ h => h) (Or.inl ⟨by rfl, ?_⟩) (by assumption) ?_
        · intro w' hSw'
          go_simp
        simp only [Act.put, List.setIfInBounds_toArray, List.set_cons_zero, List.set_cons_succ]
        refine takeH (i := 31) 99 (v := .pointer (some ⟨g2, 0, none⟩)) rfl rfl (by kernel_rfl) (by kernel_rfl) (by kernel_rfl) (fun _ _ _ h => h) (Or.inl ⟨by rfl, ?_⟩) (by assumption) ?_
        · intro w' hSw'
          go_simp
        simp only [Act.put, List.setIfInBounds_toArray, List.set_cons_zero, List.set_cons_succ]
        refine takeH (i := 32) 100 (v := .int .i64 ((k : Int) + 1)) rfl rfl (by kernel_rfl) (by kernel_rfl) (by kernel_rfl) (fun _ _ _ h => h) (Or.inl ⟨by rfl, ?_⟩) (by assumption) ?_
        · intro w' hSw'
          have z0 := below_cell hSw' y20
          go_simp
        simp only [Act.put, List.setIfInBounds_toArray, List.set_cons_zero, List.set_cons_succ]
        refine takeH (i := 33) 101 (v := .slice vp k vc) rfl rfl (by kernel_rfl) (by kernel_rfl) (by kernel_rfl) (fun _ _ _ h => h) (Or.inl ⟨by rfl, ?_⟩) (by assumption) ?_
        · intro w' hSw'
          go_simp
        simp only [Act.put, List.setIfInBounds_toArray, List.set_cons_zero, List.set_cons_succ]
        refine takeH (i := 34) 102 (v := .int .i64 (k : Int)) rfl rfl (by kernel_rfl) (by kernel_rfl) (by kernel_rfl) (fun _ _ _ h => h) (Or.inl ⟨by rfl, ?_⟩) (by assumption) ?_
        · intro w' hSw'
          go_simp
        simp only [Act.put, List.setIfInBounds_toArray, List.set_cons_zero, List.set_cons_succ]
        refine takeH (i := 35) 103 (v := .int .i64 ((k : Int) + 1)) rfl rfl (by kernel_rfl) (by kernel_rfl) (by kernel_rfl) (fun _ _ _ h => h) (Or.inl ⟨by rfl, ?_⟩) (by assumption) ?_
        · intro w' hSw'
          go_simp
        simp only [Act.put, List.setIfInBounds_toArray, List.set_cons_zero, List.set_cons_succ]
        refine takeH (i := 36) 104 (v := .bool true) rfl rfl (by kernel_rfl) (by kernel_rfl) (by kernel_rfl) (fun _ _ _ h => h) (Or.inl ⟨by rfl, ?_⟩) (by assumption) ?_
        · intro w' hSw'
          go_simp
        simp only [Act.put, List.setIfInBounds_toArray, List.set_cons_zero, List.set_cons_succ]
        refine takeH (i := 37) 105 (v := .bool true) rfl rfl (by kernel_rfl) (by kernel_rfl) (by kernel_rfl) (fun _ _ _ h => h) (Or.inl ⟨by rfl, ?_⟩) (by assumption) ?_
        · intro w' hSw'
          go_simp
        simp only [Act.put, List.setIfInBounds_toArray, List.set_cons_zero, List.set_cons_succ]
        refine takeH (i := 38) 6 (v := .bool true) rfl rfl (by kernel_rfl) (by kernel_rfl) (by kernel_rfl) (fun _ _ _ h => h) (Or.inl ⟨by rfl, ?_⟩) (by assumption) ?_
        · intro w' hSw'
          go_simp
        simp only [Act.put, List.setIfInBounds_toArray, List.set_cons_zero, List.set_cons_succ]
        refine wpAnyH_done (by kernel_rfl) ?_ _
        go_wp2
        go_ret
        exact ⟨rfl, Bx3.out.trans (bwd.out.mono Bx3.out.size)⟩
end Go.Proofs.YtkepjjkiajkdmaaDoor
