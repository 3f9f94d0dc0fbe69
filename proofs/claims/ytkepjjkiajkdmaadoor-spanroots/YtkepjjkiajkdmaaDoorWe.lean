/- The walk of SpanRoots. -/
import Derived.Test.YtkepjjkiajkdmaaDoorWb
import Derived.Test.YtkepjjkiajkdmaaDoorWc
namespace Go.Proofs.YtkepjjkiajkdmaaDoor
open Go.RowKit

theorem mask_and (n : Int) (k : Nat) (hk : k < 4611686018427387904) : ∃ q : Nat, q ≤ k ∧ bits .and .i64 n (k : Int) = (q : Int) := by
  have hb : (BitVec.ofInt 64 (k : Int)).toNat = k := ofInt_nat k (by omega)
  have h : ((BitVec.ofInt 64 n) &&& (BitVec.ofInt 64 (k : Int))).toNat ≤ k := by
    rw [BitVec.toNat_and, hb]
    exact Nat.and_le_right
  refine ⟨((BitVec.ofInt 64 n) &&& (BitVec.ofInt 64 (k : Int))).toNat, h, ?_⟩
  show IntKind.i64.wrap (((BitVec.ofInt 64 n) &&& (BitVec.ofInt 64 (k : Int))).toNat : Int) = _
  exact wrap_small _ (by omega) (by omega)
/-- A row of texts is kept where a span's record is written. -/
theorem own_setT {w : World} {B n R : Nat} {v x y : Value} {xs : List Value} (h : w.ownsRow B 9 1 v n xs) (hR : w.heap[R]? = some (.cells #[x, y] 26)) (a b : Value) : ((w.setCell ⟨R, 0, none⟩ a).setCell ⟨R, 1, none⟩ b).ownsRow B 9 1 v n xs := by
  have hne : ∀ g, v.ownBlock = some g → g ≠ R := fun g hg e => by
    obtain ⟨cur, hcur⟩ := own_tag h hg
    rw [e, hR] at hcur
    cases hcur
  exact own_block h (fun g hg => by rw [set_far _ _ (hne g hg), set_far _ _ (hne g hg)])
/-- What stands at each round of the second loop. -/
def RtI (B : Nat) (w3 wr : World) (j : Nat) (C : List (List UInt8)) (v : Value) : Prop :=
  wr.heap[w3.heap.size]? = some (.cells #[.int .i64 (j : Int), v] 26) ∧ wr.ownsRow B 9 1 v (ndsL (C.take j)).length (rv strKind (ndsL (C.take j))) ∧ Below w3.heap.size w3 wr ∧ w3.heap.size + 1 ≤ wr.heap.size
set_option maxHeartbeats 16000000 in
set_option maxRecDepth 100000 in
theorem spanRoots_walk (ao : Option Addr) (m c : Nat) (es : List ByteE) (at_ : Int) (w : World) (hL : Ld w) (hs : RSrc byteKind w ao m c es) (hm : m ≤ 5864062014634) (hg : ∀ e ∈ es, e.bytes.length ≤ 140737488351232) :
    Calls Tryd.prog 5 #[.slice ao m c, .int .i64 at_] w fun e w' => e = .returned (.bool true) ∧ Below w.heap.size w w' := by
  obtain ⟨i0, hi, hz0, hz1, hz2⟩ := info_partsS infoS
  have HLd := keep hL
  have HS := keep hs
  have HN := keep hs.len
  have HG := keep hg
  have AW := keep (awake16_any w hL)
  obtain ⟨q, hq, hqa⟩ := mask_and at_ 127 (by decide)
  have hqb : bits .and .i64 at_ 127 = (q : Int) := hqa
  clear hL hs hg hqa
  go_enter Tryd.func5, Tryd.ntmps5
  go_wp2_with fail
  refine AW.out.mono ?_
  rintro e w1 ⟨rfl, hb1⟩
  have B1 := keep hb1
  clear hb1 AW
  go_wp2
  go_loopw [6, 7] (fun v i wr => ∃ k : Nat, ∃ vp vc, k ≤ m ∧ k ≤ 80 ∧ v = .slice vp k vc ∧ i = .int .i64 (k : Int) ∧ Hid (wr.ownsRow w.heap.size 9 1 (.slice vp k vc) k (rv strKind (lv es k)) ∧ Below w.heap.size w wr)) (fun _ i _ => m - (intOf i).toNat)
  case atStart => exact ⟨0, none, 0, Nat.zero_le _, Nat.zero_le _, rfl, rfl, World.ownsRow_nil _ _ _ _, B1.out⟩
  case round =>
    clear B1
    obtain ⟨k, vp, vc, hk, hk80, rfl, rfl, hI⟩ := hrel
    have B1 := keep hI.out.2
    by_cases h12 : k < m ∧ k < 80
    · obtain ⟨h1, h2⟩ := h12
      have k1 : (k : Int) < (m : Int) := by omega
      obtain ⟨b, off, rfl, _, hcell⟩ := slices_at HS.out (by omega)
      obtain ⟨s, hsk⟩ : ∃ s, es[k]? = some s := ⟨es[k]'(by rw [HN.out]; exact h1), List.getElem?_eq_getElem _⟩
      have ck := below_cell B1.out (hcell k s hsk)
      have k0 : (0 : Int) ≤ (k : Int) := by omega
      have k2 : (k : Int) < 80 := by omega
      have LF := keep (leaf_any s.ptr s.bytes.length s.cap s.bytes wr (by have := HG.out s (List.mem_of_getElem? hsk); omega) (HLd.out.below B1.out) (Src.below (HS.out.held s (List.mem_of_getElem? hsk)) B1.out))
      have NXT := keep (lv_snoc hsk)
      obtain ⟨Y, hY⟩ : ∃ Y, leafL s.bytes = Y := ⟨_, rfl⟩
      rw [hY] at LF NXT
      have O1 := keep hI.out.1
      obtain ⟨sp, sc, sb⟩ := s
      simp only at ck LF
      clear hcell hsk hY hI
      go_wp2_with fail
      refine LF.out.mono ?_
      rintro e w2 ⟨rfl, hb2⟩
      have b3w := keep (B1.out.trans (hb2.mono B1.out.size))
      have O3 := keep (own_next O1.out hb2)
      clear hb2 LF ck
      have b4 := keep (b3w.out.alloc b3w.out.size (.cells #[.string ⟨Y.toArray⟩] 9))
      have O4 : Hid ((w2.alloc (.cells #[.string ⟨Y.toArray⟩] 9)).ownsRow w.heap.size 9 1 (.slice vp k vc) k (rv strKind (lv es k))) := own_next O3.out ((Below.refl _ _).alloc (Nat.le_refl _) _)
      go_wp2_with (at_builtin; refine wpList_append_recsS rfl _ _ 22 rfl w.heap.size i0 _ Tryd.underlying22 hi hz0 hz1 hz2 rfl _ k (lv es k) rfl O4.out _ 1 1 [Y] rfl (one_text w2 Y) (by omega) b4.out.size ?_; intro v7 w7 ho7 hg7; have b7 := keep (b4.out.grown hg7 b4.out.size (fun j hj => (O4.out.lt j hj).1)); obtain ⟨g7, c7, rfl, hc7⟩ := own_form ho7 (by omega); have O7 := keep ho7; clear ho7 hg7)
      go_roundw
      case rel => exact ⟨k + 1, _, c7, by omega, by omega, rfl, by go_num, by rw [NXT.out]; exact O7.out, b7.out⟩
      case measure => simp [intOf]; omega
    · go_upto_region 4 with fail
      refine region_share (fun a a' w' => (∃ v23 v24 v25 v26 v27 v28 v29 : Value, a' = sets a [(23, v23), (24, v24), (25, v25), (26, v26), (27, v27), (28, v28), (29, v29), (30, .bool false)]) ∧ w' = wr) ?_ ?_
      · by_cases h1 : k < m
        · have k1 : (k : Int) < (m : Int) := by omega
          have k2 : ¬ (k : Int) < 80 := by omega
          go_wp2
          exact ⟨⟨_, _, _, _, _, _, _, (by simp only [sets, Act.put, List.setIfInBounds_toArray, List.set_cons_zero, List.set_cons_succ]; all_goals rfl)⟩, rfl⟩
        · have k1 : ¬ (k : Int) < (m : Int) := by omega
          go_wp2
          exact ⟨⟨_, _, _, _, _, _, _, (by simp only [sets, Act.put, List.setIfInBounds_toArray, List.set_cons_zero, List.set_cons_succ]; all_goals rfl)⟩, rfl⟩
      · rintro a' w9 ⟨⟨v23, v24, v25, v26, v27, v28, v29, rfl⟩, hw9⟩
        have hw9 := hw9.symm
        subst hw9
        simp only [sets, Act.put, List.setIfInBounds_toArray, List.set_cons_zero, List.set_cons_succ]
        clear h12
        have hke : k ≤ es.length := by rw [HN.out]; exact hk
        have L32 := keep (lv_32 es k)
        have LL := keep (lv_len hke)
        obtain ⟨C, hC⟩ : ∃ C, lv es k = C := ⟨_, rfl⟩
        have O1 := keep hI.out.1
        rw [hC] at L32 LL O1
        have RS : Hid (RSrc strKind wr vp k vc C) := by
          obtain ⟨ao', c', e2, hr, _⟩ := RSrc.own strKind_ok O1.out (fun _ _ => trivial)
          obtain ⟨e3, _, e5⟩ := Value.slice.inj e2
          subst e3
          subst e5
          exact hr
        have OF0 : Hid (Calls Tryd.prog 24 #[.slice none 0 0] wr (SpA wr 0 [] 0)) := of16_any none 0 0 [] wr (HLd.out.below B1.out) (RSrc.empty (fun _ => rfl)) (fun e he => by cases he) (by decide)
        clear hI hC hke
        go_wp2_with fail
        refine OF0.out.mono ?_
        rintro e w3 ⟨v3, rfl, ho3, hb3⟩
        obtain ⟨a3, c3, rfl⟩ := own_is ho3
        have b3 := keep hb3
        have O3 := keep ho3
        clear ho3 hb3 OF0
        obtain ⟨W4, hW4⟩ : ∃ Wn, w3.alloc (.cells #[.int .i64 0, .slice a3 0 c3] 26) = Wn := ⟨_, rfl⟩
        have b34 : Hid (Below w3.heap.size w3 W4) := by rw [← hW4]; exact (Below.refl _ _).alloc (Nat.le_refl _) _
        have RS3 := keep (RS.out.below strKind_ok b3.out)
        have B3 := keep (B1.out.trans (b3.out.mono B1.out.size))
        have I0 : Hid (RtI w.heap.size w3 W4 0 C (.slice a3 0 c3)) := ⟨by rw [← hW4]; exact heap_alloc_new w3 _, own_low (own_next O3.out b34.out) B1.out.size, b34.out, by rw [← hW4, alloc_size]; exact Nat.le_refl _⟩
        obtain ⟨w0, hw0⟩ : ∃ x, x = wr := ⟨_, rfl⟩
        subst hw0
        clear B1 O1 RS b3 b34 O3
        go_wp2
        clear hW4
        go_loopw [11] (fun i wr => ∃ j : Nat, j ≤ k ∧ i = .int .i64 (j : Int) ∧ Hid (∃ v, RtI w.heap.size w3 wr j C v)) (fun i _ => k - (intOf i).toNat)
        case atStart => exact ⟨0, Nat.zero_le _, rfl, _, I0.out⟩
        case round =>
          clear I0
          obtain ⟨j, hj, rfl, hI⟩ := hrel
          obtain ⟨v, hI⟩ := hI.out
          obtain ⟨av, cv, rfl⟩ := own_is hI.2.1
          have HI := keep hI
          clear hI
          obtain ⟨L, hLL⟩ : ∃ L, (ndsL (C.take j)).length = L := ⟨_, rfl⟩
          have HL := keep hLL
          rw [hLL] at HI
          have hLk : L ≤ j := by
            have h1 := nds_le (C.take j)
            rw [hLL, List.length_take] at h1
            omega
          have RV : Hid (RSrc strKind wr av L cv (ndsL (C.take j))) := by
            have hO := HI.out.2.1
            rw [HL.out] at hO
            obtain ⟨ao', c', e2, hr, _⟩ := RSrc.own strKind_ok hO (fun _ _ => trivial)
            obtain ⟨e3, _, e5⟩ := Value.slice.inj e2
            subst e3
            subst e5
            exact hr
          have BW := keep (B3.out.trans (HI.out.2.2.1.mono B3.out.size))
          have RH0 := keep (RS3.out.below strKind_ok HI.out.2.2.1)
          have c0 : wr.cell? ⟨w3.heap.size, 0, none⟩ = some (.int .i64 (j : Int)) := cell_of_row _ _ _ _ _ _ HI.out.1
          have c1 : wr.cell? ⟨w3.heap.size, 1, none⟩ = some (.slice av L cv) := cell_of_row _ _ _ _ _ _ HI.out.1
          clear hLL
          by_cases hjk : j < k
          · obtain ⟨hb, ho, rfl, _, hcell⟩ := strs_at RH0.out (by omega)
            obtain ⟨x, hx⟩ : ∃ x, C[j]? = some x := ⟨C[j]'(by rw [LL.out]; exact hjk), List.getElem?_eq_getElem _⟩
            have cx := hcell j x hx
            have hx32 := L32.out x (List.mem_of_getElem? hx)
            have hlen : (C.take j).length = j := by rw [List.length_take, LL.out]; omega
            have hlen1 : (C.take (j + 1)).length = j + 1 := by rw [List.length_take, LL.out]; omega
            have W32 : w32 (C.take (j + 1)) := fun e he => L32.out e (List.mem_of_mem_take he)
            have PY := push_yes (l := C.take j) (a := x) (fun e he => L32.out e (List.mem_of_mem_take he)) hx32 (by omega)
            rw [hlen, ← take_snoc hx, show ((j + 1 : Nat) : Int) = (j : Int) + 1 by omega] at PY
            have RT1 := rt_nds W32 (by omega)
            have CKD := ck_nds W32 (by omega)
            rw [hlen1, show ((j + 1 : Nat) : Int) = (j : Int) + 1 by omega] at RT1 CKD
            have hnl := nds_le (C.take (j + 1))
            rw [hlen1] at hnl
            obtain ⟨DN, hDN⟩ : ∃ D, ndsL (C.take (j + 1)) = D := ⟨_, rfl⟩
            obtain ⟨RR, hRR⟩ : ∃ R, rootL (C.take (j + 1)) = R := ⟨_, rfl⟩
            obtain ⟨L2, hL2⟩ : ∃ L, DN.length = L := ⟨_, rfl⟩
            have HDN := keep hDN
            have HRR := keep hRR
            have HL2 := keep hL2
            rw [hDN] at PY RT1 CKD hnl
            rw [hRR] at RT1
            rw [hL2] at hnl
            have PU : Hid (∀ w', Below wr.heap.size wr w' → Calls Tryd.prog 9 #[.agg #[.int .i64 (j : Int), .slice av L cv], .string ⟨x.toArray⟩] w' (SpA w' ((j : Int) + 1) DN 0)) := fun w' hb => by
              have h := push16_any (j : Int) av L cv (ndsL (C.take j)) x w' (HLd.out.below (BW.out.trans (hb.mono BW.out.size))) (RV.out.below strKind_ok hb) (by omega)
              rwa [PY.1, PY.2.1, PY.2.2] at h
            have RT1' := keep RT1
            have CKD' := keep CKD
            have HC1 := keep hlen1
            have W32' := keep W32
            have j0 : (0 : Int) ≤ (j : Int) := by omega
            have j1 : (j : Int) < (k : Int) := by omega
            have hcap := RH0.out.cap
            have j2 : (j : Int) + 1 ≤ (vc : Int) := by omega
            have j3 : ¬ (vc : Int) < (j : Int) + 1 := by omega
            have j4 : (0 : Int) ≤ (j : Int) + 1 := by omega
            have jw : IntKind.i64.wrap ((j : Int) + 1) = (j : Int) + 1 := wrap_small _ (by omega) (by omega)
            have tj : ((j : Int) + 1).toNat = j + 1 := by omega
            have jc : ¬ vc = 0 := by omega
            clear hcell hx hx32 hlen hlen1 W32 PY RT1 CKD hDN hRR hL2
            go_wp2_with fail
            refine region_share (fun a a' w' => ∃ (g : Nat) (av2 : Option Addr) (cv2 : Nat), a' = sets a [(54, .agg #[.int .i64 (j : Int), .slice av L cv]), (55, .slice (some ⟨hb, ho, none⟩) k vc), (56, .int .i64 (j : Int)), (57, .pointer (some ⟨hb, ho + j, none⟩)), (58, .string ⟨x.toArray⟩), (59, .tuple #[.agg #[.int .i64 ((j : Int) + 1), .slice av2 L2 cv2], .int .i64 0]), (53, .tuple #[.agg #[.int .i64 ((j : Int) + 1), .slice av2 L2 cv2], .int .i64 0]), (60, .agg #[.int .i64 ((j : Int) + 1), .slice av2 L2 cv2]), (61, .int .i64 0), (12, .pointer (some ⟨g, 0, none⟩)), (13, .int .i64 0)] ∧ GotS wr ((j : Int) + 1) DN g (.slice av2 L2 cv2) w') ?_ ?_
            · refine wp_region_held_drew (S := fun w' => Below wr.heap.size wr w') (by kernel_rfl) ((Below.refl wr.heap.size wr).drew) (fun hZ => ?_)
              refine takeH (i := 0) 54 (v := .agg #[.int .i64 (j : Int), .slice av L cv]) rfl rfl (by kernel_rfl) (by kernel_rfl) (by kernel_rfl) (fun _ _ _ h => h) (Or.inl ⟨by rfl, ?_⟩) (by assumption) ?_
              · intro w' hSw'
                have z0 := below_cell hSw' c0
                have z1 := below_cell hSw' c1
                go_simp
              simp only [Act.put, List.setIfInBounds_toArray, List.set_cons_zero, List.set_cons_succ]
              refine takeH (i := 1) 55 (v := .slice (some ⟨hb, ho, none⟩) k vc) rfl rfl (by kernel_rfl) (by kernel_rfl) (by kernel_rfl) (fun _ _ _ h => h) (Or.inl ⟨by rfl, ?_⟩) (by assumption) ?_
              · intro w' hSw'
                go_simp
              simp only [Act.put, List.setIfInBounds_toArray, List.set_cons_zero, List.set_cons_succ]
              refine takeH (i := 2) 56 (v := .int .i64 (j : Int)) rfl rfl (by kernel_rfl) (by kernel_rfl) (by kernel_rfl) (fun _ _ _ h => h) (Or.inl ⟨by rfl, ?_⟩) (by assumption) ?_
              · intro w' hSw'
                go_simp
              simp only [Act.put, List.setIfInBounds_toArray, List.set_cons_zero, List.set_cons_succ]
              refine takeH (i := 3) 57 (v := .pointer (some ⟨hb, ho + j, none⟩)) rfl rfl (by kernel_rfl) (by kernel_rfl) (by kernel_rfl) (fun _ _ _ h => h) (Or.inl ⟨by rfl, ?_⟩) (by assumption) ?_
              · intro w' hSw'
                go_simp
              simp only [Act.put, List.setIfInBounds_toArray, List.set_cons_zero, List.set_cons_succ]
              refine takeH (i := 4) 58 (v := .string ⟨x.toArray⟩) rfl rfl (by kernel_rfl) (by kernel_rfl) (by kernel_rfl) (fun _ _ _ h => h) (Or.inl ⟨by rfl, ?_⟩) (by assumption) ?_
              · intro w' hSw'
                have z0 := below_cell hSw' cx
                go_simp
              simp only [Act.put, List.setIfInBounds_toArray, List.set_cons_zero, List.set_cons_succ]
              refine wpAnyH_ready (rs := [5, 9]) (by kernel_rfl) (by simp) ?_
              refine AllReadyH.cons rfl (fun K hK => ?_) (AllReadyH.cons rfl (fun K hK => ?_) AllReadyH.nil)
              · go_simp
                refine (PU.out _ (Below.refl wr.heap.size wr).drew).mono ?_
                rintro e wp ⟨vp', rfl, hop, hbp⟩
                obtain ⟨av2, cv2, rfl⟩ := own_is hop
                rw [HL2.out] at hop ⊢
                have OP := keep hop
                have bp : Hid (Below wr.heap.size wr wp) := (Below.refl wr.heap.size wr).drew.trans (hbp.mono (Below.refl wr.heap.size wr).drew.size)
                clear hop hbp
                go_wp2_with fail
                refine hK.out _ _ (bp.out) (fun hA3 => ?_)
                clear hK K
                refine takeH (i := 6) 53 (v := .tuple #[.agg #[.int .i64 ((j : Int) + 1), .slice av2 L2 cv2], .int .i64 0]) rfl rfl (by kernel_rfl) (by kernel_rfl) (by kernel_rfl) (fun _ _ _ h => h) (Or.inl ⟨by rfl, ?_⟩) (by assumption) ?_
                · intro w' hSw'
                  go_simp
                simp only [Act.put, List.setIfInBounds_toArray, List.set_cons_zero, List.set_cons_succ]
                refine takeH (i := 7) 60 (v := .agg #[.int .i64 ((j : Int) + 1), .slice av2 L2 cv2]) rfl rfl (by kernel_rfl) (by kernel_rfl) (by kernel_rfl) (fun _ _ _ h => h) (Or.inl ⟨by rfl, ?_⟩) (by assumption) ?_
                · intro w' hSw'
                  go_simp
                simp only [Act.put, List.setIfInBounds_toArray, List.set_cons_zero, List.set_cons_succ]
                refine takeH (i := 8) 61 (v := .int .i64 0) rfl rfl (by kernel_rfl) (by kernel_rfl) (by kernel_rfl) (fun _ _ _ h => h) (Or.inl ⟨by rfl, ?_⟩) (by assumption) ?_
                · intro w' hSw'
                  go_simp
                simp only [Act.put, List.setIfInBounds_toArray, List.set_cons_zero, List.set_cons_succ]
                refine wpAnyH_ready (rs := [9]) (by kernel_rfl) (by simp) ?_
                refine AllReadyH.cons rfl (fun K hK => ?_) AllReadyH.nil
                go_simp
                refine hK.out _ _ (bp.out.alloc bp.out.size _) (fun hA4 => ?_)
                clear hK K
                refine wpAnyH_ready (rs := [10]) (by kernel_rfl) (by simp) ?_
                refine AllReadyH.cons rfl (fun K hK => ?_) AllReadyH.nil
                go_simp
                refine hK.out _ _ (bp.out.alloc bp.out.size _) (fun hA5 => ?_)
                clear hK K
                refine takeH (i := 11) 13 (v := .int .i64 0) rfl rfl (by kernel_rfl) (by kernel_rfl) (by kernel_rfl) (fun _ _ _ h => h) (Or.inl ⟨by rfl, ?_⟩) (by assumption) ?_
                · intro w' hSw'
                  go_simp
                simp only [Act.put, List.setIfInBounds_toArray, List.set_cons_zero, List.set_cons_succ]
                refine wpAnyH_done (by kernel_rfl) ?_ _
                exact ⟨_, av2, cv2, (by simp only [sets, Act.put, List.setIfInBounds_toArray, List.set_cons_zero, List.set_cons_succ]; all_goals rfl), GotS.alloc bp.out OP.out (Nat.le_refl _) HL2.out⟩
              · go_simp
                have bX : Hid (Below wr.heap.size wr (wr.drew.alloc (.cells #[.int .i64 0, .slice none 0 0] 26))) := (Below.refl wr.heap.size wr).drew.alloc (Nat.le_refl _) _
                have gX : Hid ((wr.drew.alloc (.cells #[.int .i64 0, .slice none 0 0] 26)).heap[wr.heap.size]? = some (.cells #[.int .i64 0, .slice none 0 0] 26)) := heap_alloc_new wr.drew _
                have sX : Hid (wr.heap.size < (wr.drew.alloc (.cells #[.int .i64 0, .slice none 0 0] 26)).heap.size) := by show _ < _; simp
                refine hK.out _ _ (bX.out) (fun hA1 => ?_)
                clear hK K
                refine wpAnyH_ready (rs := [5]) (by kernel_rfl) (by simp) ?_
                refine AllReadyH.cons rfl (fun K hK => ?_) AllReadyH.nil
                go_simp
                refine (PU.out _ bX.out).mono ?_
                rintro e wp ⟨vp', rfl, hop, hbp⟩
                obtain ⟨av2, cv2, rfl⟩ := own_is hop
                rw [HL2.out] at hop ⊢
                have OP := keep hop
                have bp : Hid (Below wr.heap.size wr wp) := bX.out.trans (hbp.mono bX.out.size)
                have g5 : Hid (wp.heap[wr.heap.size]? = some (.cells #[.int .i64 0, .slice none 0 0] 26)) := (hbp.block _ sX.out).trans gX.out
                clear hop hbp
                go_wp2_with fail
                refine hK.out _ _ (bp.out) (fun hA3 => ?_)
                clear hK K
                refine takeH (i := 6) 53 (v := .tuple #[.agg #[.int .i64 ((j : Int) + 1), .slice av2 L2 cv2], .int .i64 0]) rfl rfl (by kernel_rfl) (by kernel_rfl) (by kernel_rfl) (fun _ _ _ h => h) (Or.inl ⟨by rfl, ?_⟩) (by assumption) ?_
                · intro w' hSw'
                  go_simp
                simp only [Act.put, List.setIfInBounds_toArray, List.set_cons_zero, List.set_cons_succ]
                refine takeH (i := 7) 60 (v := .agg #[.int .i64 ((j : Int) + 1), .slice av2 L2 cv2]) rfl rfl (by kernel_rfl) (by kernel_rfl) (by kernel_rfl) (fun _ _ _ h => h) (Or.inl ⟨by rfl, ?_⟩) (by assumption) ?_
                · intro w' hSw'
                  go_simp
                simp only [Act.put, List.setIfInBounds_toArray, List.set_cons_zero, List.set_cons_succ]
                refine takeH (i := 8) 61 (v := .int .i64 0) rfl rfl (by kernel_rfl) (by kernel_rfl) (by kernel_rfl) (fun _ _ _ h => h) (Or.inl ⟨by rfl, ?_⟩) (by assumption) ?_
                · intro w' hSw'
                  go_simp
                simp only [Act.put, List.setIfInBounds_toArray, List.set_cons_zero, List.set_cons_succ]
                have t0 : wp.cell? ⟨wr.heap.size, 0, none⟩ = some (.int .i64 0) := cell_of_row _ _ _ _ _ _ g5.out
                have t1 : wp.cell? ⟨wr.heap.size, 1, none⟩ = some (.slice none 0 0) := cell_of_row _ _ _ _ _ _ g5.out
                have f0 : wp.frozen? ⟨wr.heap.size, 0, none⟩ = false := by simp [World.frozen?, g5.out]
                have f1 : wp.frozen? ⟨wr.heap.size, 1, none⟩ = false := by simp [World.frozen?, g5.out]
                have GS := keep (GotS.store (n := ((j : Int) + 1)) (P := DN) g5.out (Nat.le_refl _) bp.out OP.out sX.out bX.out.size HL2.out)
                refine wpAnyH_ready (rs := [10]) (by kernel_rfl) (by simp) ?_
                refine AllReadyH.cons rfl (fun K hK => ?_) AllReadyH.nil
                go_simp
                refine hK.out _ _ (GS.out.bel) (fun hA5 => ?_)
                clear hK K
                clear t0 t1 f0 f1
                refine takeH (i := 11) 13 (v := .int .i64 0) rfl rfl (by kernel_rfl) (by kernel_rfl) (by kernel_rfl) (fun _ _ _ h => h) (Or.inl ⟨by rfl, ?_⟩) (by assumption) ?_
                · intro w' hSw'
                  go_simp
                simp only [Act.put, List.setIfInBounds_toArray, List.set_cons_zero, List.set_cons_succ]
                refine wpAnyH_done (by kernel_rfl) ?_ _
                exact ⟨_, av2, cv2, (by simp only [sets, Act.put, List.setIfInBounds_toArray, List.set_cons_zero, List.set_cons_succ]; all_goals rfl), GS.out⟩
            rintro a' w5 ⟨g, av2, cv2, rfl, hG⟩
            simp only [sets, Act.put, List.setIfInBounds_toArray, List.set_cons_zero, List.set_cons_succ]
            have GG := keep hG
            clear hG PU
            have b5 := keep GG.out.bel
            have B5 := keep (BW.out.trans (b5.out.mono BW.out.size))
            have R5 : Hid (RSrc strKind w5 av2 L2 cv2 DN) := by
              have h := GG.out.own
              rw [HL2.out] at h
              obtain ⟨ao', c', e2, hr, _⟩ := RSrc.own strKind_ok h (fun _ _ => trivial)
              obtain ⟨e3, _, e5⟩ := Value.slice.inj e2
              subst e3
              subst e5
              exact hr
            have RO := keep (root16_any ((j : Int) + 1) av2 L2 cv2 DN w5 (HLd.out.below B5.out) R5.out (by omega))
            rw [RT1'.out.1, RT1'.out.2] at RO
            have d0 : w5.cell? ⟨g, 0, none⟩ = some (.int .i64 ((j : Int) + 1)) := cell_of_row _ _ _ _ _ _ GG.out.row
            have d1 : w5.cell? ⟨g, 1, none⟩ = some (.slice av2 L2 cv2) := cell_of_row _ _ _ _ _ _ GG.out.row
            clear c0 c1 cx
            go_wp2_with fail
            refine RO.out.mono ?_
            rintro e w6 ⟨rfl, hb6⟩
            have b6 := keep (b5.out.trans (hb6.mono b5.out.size))
            have b56 := keep hb6
            have B6 := keep (BW.out.trans (b6.out.mono BW.out.size))
            have e0 := below_cell hb6 d0
            have e1 := below_cell hb6 d1
            clear hb6 RO d0 d1
            have HR := keep (root_any (j + 1) (C.take (j + 1)) HC1.out _ vc w6 (HLd.out.below B6.out) ((RH0.out.below strKind_ok b6.out).head strKind_ok (j + 1) (by omega)) (fun e he => by rw [W32'.out e he]; decide) (by omega))
            rw [HRR.out] at HR
            go_wp2_with fail
            refine HR.out.mono ?_
            rintro e w7 ⟨rfl, hb7⟩
            have b57 := keep (b56.out.trans (hb7.mono b56.out.size))
            have b7 := keep (b5.out.trans (b57.out.mono b5.out.size))
            have B7 := keep (BW.out.trans (b7.out.mono BW.out.size))
            have s0 := below_cell hb7 e0
            have s1 := below_cell hb7 e1
            have G7 : Hid (w7.heap[g]? = some (.cells #[.int .i64 ((j : Int) + 1), .slice av2 L2 cv2] 26)) := (b57.out.block _ (Array.getElem?_eq_some_iff.1 GG.out.row).1).trans GG.out.row
            have X7 : Hid (w7.heap[w3.heap.size]? = some (.cells #[.int .i64 (j : Int), .slice av L cv] 26)) := (b7.out.block _ (Array.getElem?_eq_some_iff.1 HI.out.1).1).trans HI.out.1
            have O7 : Hid (w7.ownsRow w.heap.size 9 1 (.slice av2 L2 cv2) L2 (rv strKind DN)) := by
              have h := GG.out.own
              rw [HL2.out] at h
              exact own_low (own_next h b57.out) BW.out.size
            have D7 : Hid (Below w3.heap.size w3 w7) := HI.out.2.2.1.trans (b7.out.mono HI.out.2.2.1.size)
            have hgw : w3.heap.size < g := Nat.lt_of_lt_of_le (Nat.lt_of_lt_of_le (Nat.lt_succ_self _) HI.out.2.2.2) GG.out.far
            have HGW := keep hgw
            have s7 : Hid (w3.heap.size + 1 ≤ w7.heap.size) := Nat.le_trans HI.out.2.2.2 b7.out.size
            clear hb7 HR e0 e1 hgw
            by_cases hjq : j = q
            · subst hjq
              have EN := keep (encode16_any ((j : Int) + 1) av2 L2 cv2 DN w7 (R5.out.below strKind_ok b57.out) (by omega))
              have hE0 : ckN ((j : Int) + 1) DN = 0 := by unfold ckN; rw [CKD'.out]; rfl
              obtain ⟨u1, _, u3⟩ := back_de CKD'.out
              obtain ⟨t1, t2, t3⟩ := de_some u1
              rw [tj] at t1
              rw [show ((j + 1 : Nat) : Int) = (j : Int) + 1 by omega] at t1
              obtain ⟨E, hE⟩ : ∃ E, enL ((j : Int) + 1) DN = E := ⟨_, rfl⟩
              rw [hE0, hE] at EN
              rw [hE] at t1 t2 t3 u3
              have DE : Hid (∀ w' a c, Src w' a E.length c E → Calls Tryd.prog 20 #[.slice a E.length c] w' (SpA w' ((j : Int) + 1) DN 0)) := fun w' a c h => by
                have := decode16_any a E.length c E w' (by omega) h
                rwa [t1, t2, t3] at this
              clear hE0 u1 u3 t1 t2 t3 hE
              go_wp2_with fail
              refine EN.out.mono ?_
              rintro e w8 ⟨v8, rfl, ho8, hb8⟩
              obtain ⟨a8, c8, rfl, hs8, _⟩ := Src.of_own ho8
              have S8 := keep hs8
              have b78 := keep hb8
              clear ho8 hs8 hb8 EN s0 s1
              go_wp2_with fail
              refine (DE.out w8 a8 c8 S8.out).mono ?_
              rintro e w9 ⟨v9, rfl, ho9, hb9⟩
              obtain ⟨a9, c9, rfl⟩ := own_is ho9
              rw [HL2.out] at ho9 ⊢
              have b79 := keep (b78.out.trans (hb9.mono b78.out.size))
              have O9 := keep (own_low ho9 (Nat.le_trans B7.out.size b78.out.size))
              have G9 : Hid (w9.heap[g]? = some (.cells #[.int .i64 ((j : Int) + 1), .slice av2 L2 cv2] 26)) := (b79.out.block _ (Array.getElem?_eq_some_iff.1 G7.out).1).trans G7.out
              have X9 : Hid (w9.heap[w3.heap.size]? = some (.cells #[.int .i64 (j : Int), .slice av L cv] 26)) := (b79.out.block _ (Array.getElem?_eq_some_iff.1 X7.out).1).trans X7.out
              have D9 := keep (D7.out.trans (b79.out.mono D7.out.size))
              have s9 : Hid (w3.heap.size + 1 ≤ w9.heap.size) := Nat.le_trans s7.out b79.out.size
              clear ho9 hb9 DE
              have y0 : w9.cell? ⟨g, 0, none⟩ = some (.int .i64 ((j : Int) + 1)) := cell_of_row _ _ _ _ _ _ G9.out
              have y1 : w9.cell? ⟨g, 1, none⟩ = some (.slice av2 L2 cv2) := cell_of_row _ _ _ _ _ _ G9.out
              have f0 := row_frozen G9.out 0
              have f1 := row_frozen G9.out 1
              obtain ⟨Wa, hWa⟩ : ∃ x, (w9.setCell ⟨g, 0, none⟩ (.int .i64 ((j : Int) + 1))).setCell ⟨g, 1, none⟩ (.slice a9 L2 c9) = x := ⟨_, rfl⟩
              have Ga : Hid (Wa.heap[g]? = some (.cells #[.int .i64 ((j : Int) + 1), .slice a9 L2 c9] 26)) := by rw [← hWa]; exact set2 G9.out _ _
              have Xa : Hid (Wa.heap[w3.heap.size]? = some (.cells #[.int .i64 (j : Int), .slice av L cv] 26)) := by have := HGW.out; rw [← hWa, set_far _ _ (by omega), set_far _ _ (by omega)]; exact X9.out
              have Oa : Hid (Wa.ownsRow w.heap.size 9 1 (.slice a9 L2 c9) L2 (rv strKind DN)) := by rw [← hWa]; exact own_setT O9.out G9.out _ _
              have Da : Hid (Below w3.heap.size w3 Wa) := by rw [← hWa]; exact (D9.out.setCell (p := ⟨g, 0, none⟩) (Nat.le_of_lt HGW.out) _).setCell (p := ⟨g, 1, none⟩) (Nat.le_of_lt HGW.out) _
              have sa : Hid (w3.heap.size + 1 ≤ Wa.heap.size) := by rw [← hWa, World.size_setCell, World.size_setCell]; exact s9.out
              have m0 : Wa.cell? ⟨g, 0, none⟩ = some (.int .i64 ((j : Int) + 1)) := cell_of_row _ _ _ _ _ _ Ga.out
              have m1 : Wa.cell? ⟨g, 1, none⟩ = some (.slice a9 L2 c9) := cell_of_row _ _ _ _ _ _ Ga.out
              have z0 : Wa.cell? ⟨w3.heap.size, 0, none⟩ = some (.int .i64 (j : Int)) := cell_of_row _ _ _ _ _ _ Xa.out
              have z1 : Wa.cell? ⟨w3.heap.size, 1, none⟩ = some (.slice av L cv) := cell_of_row _ _ _ _ _ _ Xa.out
              have h0 := row_frozen Xa.out 0
              have h1 := row_frozen Xa.out 1
              go_wp2
              go_roundw
              case rel =>
                refine ⟨j + 1, by omega, by first | rfl | go_num, .slice a9 L2 c9, ?_, ?_, (Da.out.setCell (p := ⟨w3.heap.size, 0, none⟩) (Nat.le_refl _) _).setCell (p := ⟨w3.heap.size, 1, none⟩) (Nat.le_refl _) _, by rw [World.size_setCell, World.size_setCell]; exact sa.out⟩
                · exact set2 Xa.out _ _
                · rw [HDN.out, HL2.out]; exact own_setT Oa.out Xa.out _ _
              case measure => simp [intOf]; omega
            · have n1 : ¬ (j : Int) = (q : Int) := by omega
              have n2 : ((j : Int) == (q : Int)) = false := by simp; omega
              have z0 : w7.cell? ⟨w3.heap.size, 0, none⟩ = some (.int .i64 (j : Int)) := cell_of_row _ _ _ _ _ _ X7.out
              have z1 : w7.cell? ⟨w3.heap.size, 1, none⟩ = some (.slice av L cv) := cell_of_row _ _ _ _ _ _ X7.out
              have h0 := row_frozen X7.out 0
              have h1 := row_frozen X7.out 1
              go_wp2
              go_roundw
              case rel =>
                refine ⟨j + 1, by omega, by first | rfl | go_num, .slice av2 L2 cv2, ?_, ?_, (D7.out.setCell (p := ⟨w3.heap.size, 0, none⟩) (Nat.le_refl _) _).setCell (p := ⟨w3.heap.size, 1, none⟩) (Nat.le_refl _) _, by rw [World.size_setCell, World.size_setCell]; exact s7.out⟩
                · exact set2 X7.out _ _
                · rw [HDN.out, HL2.out]; exact own_setT O7.out X7.out _ _
              case measure => simp [intOf]; omega
          · obtain rfl : j = k := by omega
            have HT : Hid (C.take j = C) := List.take_of_length_le (by rw [LL.out]; exact Nat.le_refl _)
            have j1 : ¬ (j : Int) < (j : Int) := by omega
            have RVC := RV
            rw [HT.out] at RVC HL
            have OF := keep (of16_any vp j vc C wr (HLd.out.below BW.out) RH0.out L32.out (by omega))
            have RT1 := rt_nds L32.out (by rw [LL.out]; omega)
            rw [LL.out] at RT1
            obtain ⟨RC, hRC⟩ : ∃ R, rootL C = R := ⟨_, rfl⟩
            have HRC := keep hRC
            rw [hRC] at RT1
            have RT1' := keep RT1
            clear hRC RT1
            go_wp2_with fail
            refine OF.out.mono ?_
            rintro e x1 ⟨vA, rfl, hoA, hbA⟩
            rw [HL.out] at hoA
            obtain ⟨aA, cA, rfl⟩ := own_is hoA
            have RA : Hid (RSrc strKind x1 aA L cA (ndsL C)) := by
              obtain ⟨ao', c', e2, hr, _⟩ := RSrc.own strKind_ok hoA (fun _ _ => trivial)
              obtain ⟨e3, _, e5⟩ := Value.slice.inj e2
              subst e3
              subst e5
              exact hr
            have b1 := keep hbA
            clear hoA hbA OF
            obtain ⟨x2, hx2⟩ : ∃ Wn, x1.alloc (.cells #[.int .i64 (j : Int), .slice aA L cA] 26) = Wn := ⟨_, rfl⟩
            have b12 : Hid (Below x1.heap.size x1 x2) := by rw [← hx2]; exact (Below.refl _ _).alloc (Nat.le_refl _) _
            have GA : Hid (x2.heap[x1.heap.size]? = some (.cells #[.int .i64 (j : Int), .slice aA L cA] 26)) := by rw [← hx2]; exact heap_alloc_new x1 _
            have b2 := keep (b1.out.trans (b12.out.mono b1.out.size))
            have B2 := keep (BW.out.trans (b2.out.mono BW.out.size))
            have RO := keep (root16_any (j : Int) av L cv (ndsL C) x2 (HLd.out.below B2.out) (RVC.out.below strKind_ok b2.out) (by omega))
            rw [RT1'.out.1, RT1'.out.2] at RO
            have d0 := below_cell b2.out c0
            have d1 := below_cell b2.out c1
            clear c0 c1
            go_wp2_with fail
            refine RO.out.mono ?_
            rintro e x9 ⟨rfl, hb9⟩
            have b29 := keep hb9
            have b9 := keep (b2.out.trans (hb9.mono b2.out.size))
            have b19 := keep (b12.out.trans (hb9.mono b12.out.size))
            have B9 := keep (BW.out.trans (b9.out.mono BW.out.size))
            have s0 := below_cell hb9 d0
            have s1 := below_cell hb9 d1
            have y0 : x9.cell? ⟨x1.heap.size, 0, none⟩ = some (.int .i64 (j : Int)) := below_cell hb9 (cell_of_row _ _ _ _ _ _ GA.out)
            have y1 : x9.cell? ⟨x1.heap.size, 1, none⟩ = some (.slice aA L cA) := below_cell hb9 (cell_of_row _ _ _ _ _ _ GA.out)
            clear hb9 RO hx2 d0 d1
            have SM : Hid (∀ w', Below x9.heap.size x9 w' → Calls Tryd.prog 14 #[.agg #[.int .i64 (j : Int), .slice aA L cA], .agg #[.int .i64 (j : Int), .slice av L cv]] w' fun e w'' => e = .returned (.bool true) ∧ Below w'.heap.size w' w'') := fun w' hb => rsame16_yes (j : Int) aA L cA (ndsL C) av cv w' (RA.out.below strKind_ok (b19.out.trans (hb.mono b19.out.size))) (RVC.out.below strKind_ok (b9.out.trans (hb.mono b9.out.size))) (by omega)
            have RH : Hid (∀ w', Below x9.heap.size x9 w' → Calls Tryd.prog 25 #[.slice vp j vc] w' fun e w'' => e = .returned (.string ⟨RC.toArray⟩) ∧ Below w'.heap.size w' w'') := fun w' hb => by
              rw [← HRC.out]
              exact root_any j C LL.out vp vc w' (HLd.out.below (B9.out.trans (hb.mono B9.out.size))) (RH0.out.below strKind_ok (b9.out.trans (hb.mono b9.out.size))) (fun e he => by rw [L32.out e he]; decide) (by omega)
            go_wp2_with fail
            refine wp_region_held_drew (S := fun w' => Below x9.heap.size x9 w') (by kernel_rfl) ((Below.refl x9.heap.size x9).drew) (fun hZ => ?_)
            refine takeH (i := 0) 115 (v := .bool true) rfl rfl (by kernel_rfl) (by kernel_rfl) (by kernel_rfl) (fun _ _ _ h => h) (Or.inl ⟨by rfl, ?_⟩) (by assumption) ?_
            · intro w' hSw'
              go_simp
            simp only [Act.put, List.setIfInBounds_toArray, List.set_cons_zero, List.set_cons_succ]
            refine takeH (i := 1) 116 (v := .bool true) rfl rfl (by kernel_rfl) (by kernel_rfl) (by kernel_rfl) (fun _ _ _ h => h) (Or.inl ⟨by rfl, ?_⟩) (by assumption) ?_
            · intro w' hSw'
              go_simp
            simp only [Act.put, List.setIfInBounds_toArray, List.set_cons_zero, List.set_cons_succ]
            refine takeH (i := 2) 117 (v := .int .i64 0) rfl rfl (by kernel_rfl) (by kernel_rfl) (by kernel_rfl) (fun _ _ _ h => h) (Or.inl ⟨by rfl, ?_⟩) (by assumption) ?_
            · intro w' hSw'
              go_simp
            simp only [Act.put, List.setIfInBounds_toArray, List.set_cons_zero, List.set_cons_succ]
            refine takeH (i := 3) 118 (v := .bool true) rfl rfl (by kernel_rfl) (by kernel_rfl) (by kernel_rfl) (fun _ _ _ h => h) (Or.inl ⟨by rfl, ?_⟩) (by assumption) ?_
            · intro w' hSw'
              go_simp
            simp only [Act.put, List.setIfInBounds_toArray, List.set_cons_zero, List.set_cons_succ]
            refine takeH (i := 4) 119 (v := .bool true) rfl rfl (by kernel_rfl) (by kernel_rfl) (by kernel_rfl) (fun _ _ _ h => h) (Or.inl ⟨by rfl, ?_⟩) (by assumption) ?_
            · intro w' hSw'
              go_simp
            simp only [Act.put, List.setIfInBounds_toArray, List.set_cons_zero, List.set_cons_succ]
            refine takeH (i := 5) 120 (v := .bool true) rfl rfl (by kernel_rfl) (by kernel_rfl) (by kernel_rfl) (fun _ _ _ h => h) (Or.inl ⟨by rfl, ?_⟩) (by assumption) ?_
            · intro w' hSw'
              go_simp
            simp only [Act.put, List.setIfInBounds_toArray, List.set_cons_zero, List.set_cons_succ]
            refine takeH (i := 6) 121 (v := .int .i64 0) rfl rfl (by kernel_rfl) (by kernel_rfl) (by kernel_rfl) (fun _ _ _ h => h) (Or.inl ⟨by rfl, ?_⟩) (by assumption) ?_
            · intro w' hSw'
              go_simp
            simp only [Act.put, List.setIfInBounds_toArray, List.set_cons_zero, List.set_cons_succ]
            refine takeH (i := 7) 122 (v := .bool true) rfl rfl (by kernel_rfl) (by kernel_rfl) (by kernel_rfl) (fun _ _ _ h => h) (Or.inl ⟨by rfl, ?_⟩) (by assumption) ?_
            · intro w' hSw'
              go_simp
            simp only [Act.put, List.setIfInBounds_toArray, List.set_cons_zero, List.set_cons_succ]
            refine takeH (i := 8) 123 (v := .bool true) rfl rfl (by kernel_rfl) (by kernel_rfl) (by kernel_rfl) (fun _ _ _ h => h) (Or.inl ⟨by rfl, ?_⟩) (by assumption) ?_
            · intro w' hSw'
              go_simp
            simp only [Act.put, List.setIfInBounds_toArray, List.set_cons_zero, List.set_cons_succ]
            refine takeH (i := 9) 124 (v := .bool true) rfl rfl (by kernel_rfl) (by kernel_rfl) (by kernel_rfl) (fun _ _ _ h => h) (Or.inl ⟨by rfl, ?_⟩) (by assumption) ?_
            · intro w' hSw'
              go_simp
            simp only [Act.put, List.setIfInBounds_toArray, List.set_cons_zero, List.set_cons_succ]
            refine takeH (i := 10) 125 (v := .int .i64 0) rfl rfl (by kernel_rfl) (by kernel_rfl) (by kernel_rfl) (fun _ _ _ h => h) (Or.inl ⟨by rfl, ?_⟩) (by assumption) ?_
            · intro w' hSw'
              go_simp
            simp only [Act.put, List.setIfInBounds_toArray, List.set_cons_zero, List.set_cons_succ]
            refine takeH (i := 11) 126 (v := .bool true) rfl rfl (by kernel_rfl) (by kernel_rfl) (by kernel_rfl) (fun _ _ _ h => h) (Or.inl ⟨by rfl, ?_⟩) (by assumption) ?_
            · intro w' hSw'
              go_simp
            simp only [Act.put, List.setIfInBounds_toArray, List.set_cons_zero, List.set_cons_succ]
            refine takeH (i := 12) 127 (v := .bool true) rfl rfl (by kernel_rfl) (by kernel_rfl) (by kernel_rfl) (fun _ _ _ h => h) (Or.inl ⟨by rfl, ?_⟩) (by assumption) ?_
            · intro w' hSw'
              go_simp
            simp only [Act.put, List.setIfInBounds_toArray, List.set_cons_zero, List.set_cons_succ]
            refine takeH (i := 13) 128 (v := .bool true) rfl rfl (by kernel_rfl) (by kernel_rfl) (by kernel_rfl) (fun _ _ _ h => h) (Or.inl ⟨by rfl, ?_⟩) (by assumption) ?_
            · intro w' hSw'
              go_simp
            simp only [Act.put, List.setIfInBounds_toArray, List.set_cons_zero, List.set_cons_succ]
            refine takeH (i := 14) 129 (v := .agg #[.int .i64 (j : Int), .slice aA L cA]) rfl rfl (by kernel_rfl) (by kernel_rfl) (by kernel_rfl) (fun _ _ _ h => h) (Or.inl ⟨by rfl, ?_⟩) (by assumption) ?_
            · intro w' hSw'
              have z0 := below_cell hSw' y0
              have z1 := below_cell hSw' y1
              go_simp
            simp only [Act.put, List.setIfInBounds_toArray, List.set_cons_zero, List.set_cons_succ]
            refine takeH (i := 16) 131 (v := .agg #[.int .i64 (j : Int), .slice av L cv]) rfl rfl (by kernel_rfl) (by kernel_rfl) (by kernel_rfl) (fun _ _ _ h => h) (Or.inl ⟨by rfl, ?_⟩) (by assumption) ?_
            · intro w' hSw'
              have z0 := below_cell hSw' s0
              have z1 := below_cell hSw' s1
              go_simp
            simp only [Act.put, List.setIfInBounds_toArray, List.set_cons_zero, List.set_cons_succ]
            refine wpAnyH_ready (rs := [15]) (by kernel_rfl) (by simp) ?_
            refine AllReadyH.cons rfl (fun K hK => ?_) AllReadyH.nil
            go_simp
            refine (theirs_any (j : Int) aA L cA _).mono ?_
            rintro e wa ⟨rfl, hb⟩
            have bwa := keep ((Below.refl x9.heap.size x9).drew.trans (hb.mono (Below.refl x9.heap.size x9).drew.size))
            clear hb
            go_wp2_with fail
            refine hK.out _ _ (bwa.out) (fun hZ1 => ?_)
            clear hK K
            refine wpAnyH_ready (rs := [17]) (by kernel_rfl) (by simp) ?_
            refine AllReadyH.cons rfl (fun K hK => ?_) AllReadyH.nil
            go_simp
            refine (theirs_any (j : Int) av L cv _).mono ?_
            rintro e wb ⟨rfl, hb⟩
            have bwb := keep (bwa.out.trans (hb.mono bwa.out.size))
            clear hb
            go_wp2_with fail
            refine hK.out _ _ (bwb.out) (fun hZ2 => ?_)
            clear hK K
            refine wpAnyH_ready (rs := [18]) (by kernel_rfl) (by simp) ?_
            refine AllReadyH.cons rfl (fun K hK => ?_) AllReadyH.nil
            go_simp
            refine (SM.out _ bwb.out).mono ?_
            rintro e wc ⟨rfl, hb⟩
            have bwc := keep (bwb.out.trans (hb.mono bwb.out.size))
            clear hb
            go_wp2_with fail
            refine hK.out _ _ (bwc.out) (fun hZ3 => ?_)
            clear hK K
            refine takeH (i := 19) 134 (v := .bool true) rfl rfl (by kernel_rfl) (by kernel_rfl) (by kernel_rfl) (fun _ _ _ h => h) (Or.inl ⟨by rfl, ?_⟩) (by assumption) ?_
            · intro w' hSw'
              go_simp
            simp only [Act.put, List.setIfInBounds_toArray, List.set_cons_zero, List.set_cons_succ]
            refine takeH (i := 20) 135 (v := .bool true) rfl rfl (by kernel_rfl) (by kernel_rfl) (by kernel_rfl) (fun _ _ _ h => h) (Or.inl ⟨by rfl, ?_⟩) (by assumption) ?_
            · intro w' hSw'
              go_simp
            simp only [Act.put, List.setIfInBounds_toArray, List.set_cons_zero, List.set_cons_succ]
            refine takeH (i := 21) 136 (v := .string ⟨RC.toArray⟩) rfl rfl (by kernel_rfl) (by kernel_rfl) (by kernel_rfl) (fun _ _ _ h => h) (Or.inl ⟨by rfl, ?_⟩) (by assumption) ?_
            · intro w' hSw'
              go_simp
            simp only [Act.put, List.setIfInBounds_toArray, List.set_cons_zero, List.set_cons_succ]
            refine takeH (i := 0x16) 137 (v := .slice vp j vc) rfl rfl (by kernel_rfl) (by kernel_rfl) (by kernel_rfl) (fun _ _ _ h => h) (Or.inl ⟨by rfl, ?_⟩) (by assumption) ?_
            · intro w' hSw'
              go_simp
            simp only [Act.put, List.setIfInBounds_toArray, List.set_cons_zero, List.set_cons_succ]
            refine wpAnyH_ready (rs := [23]) (by kernel_rfl) (by simp) ?_
            refine AllReadyH.cons rfl (fun K hK => ?_) AllReadyH.nil
            go_simp
            refine (RH.out _ bwc.out).mono ?_
            rintro e wd ⟨rfl, hb⟩
            have bwd := keep (bwc.out.trans (hb.mono bwc.out.size))
            clear hb
            go_wp2_with fail
            refine hK.out _ _ (bwd.out) (fun hZ4 => ?_)
            clear hK K
            refine takeH (i := 24) 139 (v := .bool true) rfl rfl (by kernel_rfl) (by kernel_rfl) (by kernel_rfl) (fun _ _ _ h => h) (Or.inl ⟨by rfl, ?_⟩) (by assumption) ?_
            · intro w' hSw'
              go_simp
            simp only [Act.put, List.setIfInBounds_toArray, List.set_cons_zero, List.set_cons_succ]
            refine takeH (i := 25) 140 (v := .bool true) rfl rfl (by kernel_rfl) (by kernel_rfl) (by kernel_rfl) (fun _ _ _ h => h) (Or.inl ⟨by rfl, ?_⟩) (by assumption) ?_
            · intro w' hSw'
              go_simp
            simp only [Act.put, List.setIfInBounds_toArray, List.set_cons_zero, List.set_cons_succ]
            refine takeH (i := 26) 4 (v := .bool true) rfl rfl (by kernel_rfl) (by kernel_rfl) (by kernel_rfl) (fun _ _ _ h => h) (Or.inl ⟨by rfl, ?_⟩) (by assumption) ?_
            · intro w' hSw'
              go_simp
            simp only [Act.put, List.setIfInBounds_toArray, List.set_cons_zero, List.set_cons_succ]
            refine wpAnyH_done (by kernel_rfl) ?_ _
            go_wp2
            go_ret
            exact ⟨rfl, B9.out.trans (bwd.out.mono B9.out.size)⟩
end Go.Proofs.YtkepjjkiajkdmaaDoor
