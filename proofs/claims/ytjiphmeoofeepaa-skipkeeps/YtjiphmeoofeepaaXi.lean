/- The walk of the document's Put: its loop, its test. -/
import Derived.Test.YtjiphmeoofeepaaXo
import Derived.Test.YtjiphmeoofeepaaXf
namespace Go.Proofs.Ytjiphmeoofeepaa
open Go.RowKit
open Sk (Ent)

theorem infoI : (Try.prog.info? 3).map (fun i => (i.zero, i.size, i.bytes)) = some (some (.int .i64 0), 1, 8) := by kernel_rfl
set_option maxHeartbeats 8000000 in
set_option maxRecDepth 100000 in
theorem rput_new (B r : Nat) (ys : List EV) (hs : List Int) (x : EV) (hgt : Int) (w : World) (hM : RMem B w r ys hs) (hBw : B ≤ w.heap.size) (hln : ys.length ≤ 1000000) (hx : entKind.held w x) (hmay : Sk.may x.e = true) (h1 : 1 ≤ hgt) (h12 : hgt ≤ 12) (hth : Sk.there (ys.map (·.e)) x.e = false) :
    Calls Try.prog 9 #[.pointer (some ⟨r, 0, none⟩), ev x, .int .i64 hgt] w fun e w' => e = .returned (.int .i64 0) ∧ ∃ y, y.e = x.e ∧ RMem B w' r (ys.take (Sk.at_ (ys.map (·.e)) x.e) ++ y :: ys.drop (Sk.at_ (ys.map (·.e)) x.e)) (hs.take (Sk.at_ (ys.map (·.e)) x.e) ++ hgt :: hs.drop (Sk.at_ (ys.map (·.e)) x.e)) ∧ Kept (· = r) w w' := by
  have hkl : x.e.key.length ≤ 64 := by unfold Sk.may at hmay; simp at hmay; omega
  have hvl : x.e.val.length ≤ 1024 := by unfold Sk.may at hmay; simp at hmay; omega
  obtain ⟨K0, hK0⟩ : ∃ K0, Sk.at_ (ys.map (·.e)) x.e = K0 := ⟨_, rfl⟩
  have CUT : Hid (Sk.Cut (Sk.aheadOf x.e.key x.e.seq) (ys.map (·.e)) K0) := by rw [← hK0]; exact Sk.at_cut hM.up x.e
  have hK0n : K0 ≤ ys.length := by have := CUT.out.1; simpa using this
  have TH : Hid (Sk.there (ys.map (·.e)) x.e = true ↔ ∃ y, ys[K0]? = some y ∧ y.e.key = x.e.key ∧ y.e.seq = x.e.seq) := by
    rw [← hK0]
    refine Iff.trans (Sk.there_at hM.up x.e) ⟨?_, ?_⟩
    · rintro ⟨y, hy, h1, h2⟩
      rw [List.getElem?_map] at hy
      obtain ⟨m, hm, rfl⟩ := Option.map_eq_some_iff.1 hy
      exact ⟨m, hm, h1, h2⟩
    · rintro ⟨y, hy, h1, h2⟩
      exact ⟨y.e, by rw [List.getElem?_map, hy]; rfl, h1, h2⟩
  have MAY : Hid (∀ y ∈ ys, y.e.key.length ≤ 64 ∧ y.e.val.length ≤ 1024) := fun y hy => by
    have := hM.may y hy
    unfold Sk.may at this
    simp at this
    omega
  have HX := keep hx
  obtain ⟨i0, hi0, hz0, hz1, hz2⟩ := info_parts3 infoE
  obtain ⟨i3, hi3, hy0, hy1, hy2⟩ := info_parts3 infoI
  have HM := keep hM
  have HMAY := keep hmay
  have HK0 := keep hK0
  obtain ⟨ao, c, vH, hrow, hsrc, hvH, hents⟩ := hM.src
  have ROW := keep hrow
  have SRC := keep hsrc
  have VH := keep hvH
  have ENT := keep hents
  obtain ⟨aoH, cH, rfl⟩ := own_slice hvH
  have HTH := keep hth
  have HC0 : Hid (w.cell? ⟨r, 1, none⟩ = some (.slice aoH hs.length cH)) := cell_of_row _ _ _ _ _ _ hrow
  have HLEN := keep hM.len
  have HRL : Hid (r < w.heap.size) := (Array.getElem?_eq_some_iff.1 hrow).1
  have L0 : Hid (w.cell? ⟨r, 0, none⟩ = some (.slice ao ys.length c)) := cell_of_row _ _ _ _ _ _ hrow
  have hrl : r < w.heap.size := World.block_lt_of_cell? w ⟨r, 0, none⟩ L0.out
  obtain ⟨kp, kc, vp, vc, key, seq, gone, val⟩ := x
  simp only at hkl hvl
  obtain ⟨W1, hW1⟩ : ∃ W1, w.alloc (.cells #[.slice kp key.length kc, .int .i64 seq, .bool gone, .slice vp val.length vc] 28) = W1 := ⟨_, rfl⟩
  have b1 : Hid (Below w.heap.size w W1) := by rw [← hW1]; exact (Below.refl _ _).alloc (Nat.le_refl _) _
  have g1 : Hid (W1.heap[w.heap.size]? = some (.cells #[.slice kp key.length kc, .int .i64 seq, .bool gone, .slice vp val.length vc] 28)) := by rw [← hW1]; exact heap_alloc_new w _
  have c0 : W1.cell? ⟨w.heap.size, 0, none⟩ = some (.slice kp key.length kc) := cell_of_row _ _ _ _ _ _ g1.out
  have c1 : W1.cell? ⟨w.heap.size, 1, none⟩ = some (.int .i64 seq) := cell_of_row _ _ _ _ _ _ g1.out
  have c2 : W1.cell? ⟨w.heap.size, 2, none⟩ = some (.bool gone) := cell_of_row _ _ _ _ _ _ g1.out
  have c3 : W1.cell? ⟨w.heap.size, 3, none⟩ = some (.slice vp val.length vc) := cell_of_row _ _ _ _ _ _ g1.out
  have EC : Hid (∀ w', Below W1.heap.size W1 w' → w'.cell? ⟨w.heap.size, 0, none⟩ = some (.slice kp key.length kc) ∧ w'.cell? ⟨w.heap.size, 1, none⟩ = some (.int .i64 seq) ∧ w'.cell? ⟨w.heap.size, 2, none⟩ = some (.bool gone) ∧ w'.cell? ⟨w.heap.size, 3, none⟩ = some (.slice vp val.length vc)) := fun w' hb => ⟨below_cell hb c0, below_cell hb c1, below_cell hb c2, below_cell hb c3⟩
  have LC : Hid (∀ w', Below W1.heap.size W1 w' → w'.cell? ⟨r, 0, none⟩ = some (.slice ao ys.length c)) := fun w' hb => below_cell (b1.out.trans (hb.mono b1.out.size)) L0.out
  have CK := keep (rcheck_any ⟨kp, kc, vp, vc, ⟨key, seq, gone, val⟩⟩ W1 (by simp only; omega) (by simp only; omega))
  unfold chk ev at CK
  simp only at CK hmay
  rw [hmay] at CK
  simp only [if_true] at CK
  have k1 : ¬ hgt < 1 := by omega
  have k2 : ¬ 12 < hgt := by omega
  unfold ev
  simp only
  rw [hK0]
  clear hM hx hmay hrow hsrc hvH hents hth hK0
  obtain ⟨N, hN⟩ : ∃ N, ys.length = N := ⟨_, rfl⟩
  have HN := keep hN
  rw [hN] at SRC LC hK0n hln ENT HLEN
  clear hN
  have hcap := SRC.out.cap
  go_enter Try.func9, Try.ntmps9
  go_wp2_with fail
  refine CK.out.mono ?_
  rintro e w2 ⟨rfl, hb⟩
  have B2 := keep hb
  clear hb hW1 c0 c1 c2 c3 CK L0
  go_wp2
  rename_i KK hK
  have TL : Hid (∀ (v19 v20 v21 v22 v23 v24 v25 v26 v27 v28 v29 v30 v31 v32 v33 v34 v35 v36 v37 v38 : Value) (wA : World), Below W1.heap.size W1 wA → KK ⟨#[.pointer (some ⟨r, 0, none⟩), .agg #[.slice kp key.length kc, .int .i64 seq, .bool gone, .slice vp val.length vc], .int .i64 hgt, undef, .pointer (some ⟨w.heap.size, 0, none⟩), undef, .int .i64 0, .int .i64 (K0 : Int), .agg #[.slice kp key.length kc, .int .i64 seq, .bool gone, .slice vp val.length vc], .int .i64 0, .bool false, .bool false, .int .i64 hgt, .bool (decide (hgt < 1)), .bool (decide (hgt < 1)), .bool (decide (hgt < 1)), .int .i64 hgt, .bool (decide (12 < hgt)), .bool (decide (hgt < 1) || decide (12 < hgt)), v19, v20, v21, v22, v23, v24, v25, v26, v27, v28, v29, v30, v31, v32, v33, v34, v35, v36, v37, v38, undef, undef, undef, undef, undef, undef, undef, undef, undef, undef, undef, undef, undef, undef, undef, undef, undef, undef, undef, undef, undef, undef, undef, undef, undef, undef, undef, undef, undef, undef, undef, undef, undef, undef, undef, undef, undef, undef, undef, undef, undef, undef, undef, undef, undef, undef, undef, undef, undef, undef, undef, undef, undef, undef, undef, undef, undef, undef, undef, undef, undef, undef, undef, undef, undef, undef, undef, undef, undef, undef, undef, undef, undef, undef, undef, undef, undef, undef], []⟩ wA) := by
    intro v19 v20 v21 v22 v23 v24 v25 v26 v27 v28 v29 v30 v31 v32 v33 v34 v35 v36 v37 v38 wA hBA
    refine hK _ _ ?_
    clear hK
    have l0 := LC.out wA hBA
    obtain ⟨e0, e1, e2, e3⟩ := EC.out wA hBA
    have j0 : (0 : Int) ≤ (K0 : Int) := by omega
    go_wp2_with fail
    refine region_share (fun _ a' w' => ∃ v39 v40 v41 v42 v43 v44 v45 v46 v47 v48 v49 v50 v51 v52 v53 v54 v55 v56 v57 v58 v59 v60 v61 v62 v63 v64 v65 v66 v67 v68 v69 v70 v71 v72 : Value, a' = ⟨#[.pointer (some ⟨r, 0, none⟩), .agg #[.slice kp key.length kc, .int .i64 seq, .bool gone, .slice vp val.length vc], .int .i64 hgt, undef, .pointer (some ⟨w.heap.size, 0, none⟩), undef, .int .i64 0, .int .i64 (K0 : Int), .agg #[.slice kp key.length kc, .int .i64 seq, .bool gone, .slice vp val.length vc], .int .i64 0, .bool false, .bool false, .int .i64 hgt, .bool (decide (hgt < 1)), .bool (decide (hgt < 1)), .bool (decide (hgt < 1)), .int .i64 hgt, .bool (decide (12 < hgt)), .bool (decide (hgt < 1) || decide (12 < hgt)), v19, v20, v21, v22, v23, v24, v25, v26, v27, v28, v29, v30, v31, v32, v33, v34, v35, v36, v37, v38, v39, v40, v41, v42, v43, v44, v45, v46, v47, v48, v49, v50, v51, v52, v53, v54, v55, v56, v57, v58, v59, v60, v61, v62, v63, v64, v65, v66, v67, v68, v69, v70, v71, v72, .bool false, undef, undef, undef, undef, undef, undef, undef, undef, undef, undef, undef, undef, undef, undef, undef, undef, undef, undef, undef, undef, undef, undef, undef, undef, undef, undef, undef, undef, undef, undef, undef, undef, undef, undef, undef, undef, undef, undef, undef, undef, undef, undef, undef], []⟩ ∧ ∃ n : Nat, w' = wA.drewN n) ?_ ?_
    · have BA := keep (b1.out.trans (hBA.mono b1.out.size))
      by_cases hkn : K0 < N
      · obtain ⟨b, off, rfl, _, _⟩ := SRC.out.form entKind_ok (by omega)
        obtain ⟨y, hy⟩ : ∃ y, ys[K0]? = some y := ⟨ys[K0]'(by rw [HN.out]; exact hkn), List.getElem?_eq_getElem _⟩
        obtain ⟨p0, p1, p2, p3⟩ := ent_cells (SRC.out.below entKind_ok BA.out) hy
        have hyh := (SRC.out.below entKind_ok BA.out).held y (List.mem_of_getElem? hy)
        have hne : ¬ (y.e.key = key ∧ y.e.seq = seq) := fun h => by
          have := TH.out.2 ⟨y, hy, h.1, h.2⟩
          rw [HTH.out] at this
          cases this
        have v1 := fun n => conv_src (hyh.1.below (below_drewN (Below.refl _ wA) n))
        have v2 := fun n => conv_src ((HX.out.1.below BA.out).below (below_drewN (Below.refl _ wA) n))
        obtain ⟨ykp, ykc, yvp, yvc, ⟨ykey, yseq, ygone, yval⟩⟩ := y
        simp only at p0 p1 p2 p3 hne v1 v2
        clear hy hyh
        have ll : (K0 : Int) < (N : Int) := by omega
        have gt : decide ((K0 : Int) < (N : Int)) = true := decide_eq_true ll
        by_cases hq1 : ykey = key
        · have f2 : (yseq == seq) = false := by
            simp only [beq_eq_false_iff_ne, ne_eq]
            exact fun h => hne ⟨hq1, h⟩
          have f1 : (ykey == key) = true := by simpa using hq1
          clear hq1 hne
          go_quiet (fail)
          exact ⟨_, _, _, _, _, _, _, _, _, _, _, _, _, _, _, _, _, _, _, _, _, _, _, _, _, _, _, _, _, _, _, _, _, _, rfl, _, rfl⟩
        · have f1 : (ykey == key) = false := by simpa using hq1
          clear hq1 hne
          go_quiet (fail)
          exact ⟨_, _, _, _, _, _, _, _, _, _, _, _, _, _, _, _, _, _, _, _, _, _, _, _, _, _, _, _, _, _, _, _, _, _, rfl, _, rfl⟩
      · have gt : decide ((K0 : Int) < (N : Int)) = false := decide_eq_false (by omega)
        go_quiet (fail)
        exact ⟨_, _, _, _, _, _, _, _, _, _, _, _, _, _, _, _, _, _, _, _, _, _, _, _, _, _, _, _, _, _, _, _, _, _, rfl, _, rfl⟩
    · rintro a' w' ⟨v39, v40, v41, v42, v43, v44, v45, v46, v47, v48, v49, v50, v51, v52, v53, v54, v55, v56, v57, v58, v59, v60, v61, v62, v63, v64, v65, v66, v67, v68, v69, v70, v71, v72, rfl, nq, rfl⟩
      clear l0 e0 e1 e2 e3
      obtain ⟨wC, hwC⟩ : ∃ wC, wC = wA.drewN nq := ⟨_, rfl⟩
      rw [← hwC]
      have BC : Hid (Below w.heap.size w wC) := by rw [hwC]; exact (b1.out.trans (hBA.mono b1.out.size)).trans ((below_drewN (Below.refl _ _) _).mono (b1.out.trans (hBA.mono b1.out.size)).size)
      have BC1 : Hid (Below W1.heap.size W1 wC) := by rw [hwC]; exact hBA.trans ((below_drewN (Below.refl _ _) _).mono hBA.size)
      clear hwC hBA
      obtain ⟨wD, hwD⟩ : ∃ wD, wC.drew.alloc (.cells #[] 28) = wD := ⟨_, rfl⟩
      have bD : Hid (Below wC.heap.size wC wD) := by rw [← hwD]; exact (Below.refl _ _).drew.alloc (Nat.le_refl _) _
      have OD : Hid (wD.ownsRow wC.heap.size 28 4 (.slice (some ⟨wC.heap.size, 0, none⟩) 0 0) 0 []) := by rw [← hwD]; exact own_emptyS (w := wC.drew) (Nat.le_refl _)
      have bwD := keep (BC.out.trans (bD.out.mono BC.out.size))
      have CP : Hid (∀ w', Below w.heap.size w w' → Calls Try.prog 6 #[ev ⟨kp, kc, vp, vc, ⟨key, seq, gone, val⟩⟩] w' fun e w'' => ∃ y : EV, e = .returned (ev y) ∧ y.e = ⟨key, seq, gone, val⟩ ∧ OwnE w'.heap.size w'' y ∧ Below w'.heap.size w' w'') := fun w' hb => rcopy_any ⟨kp, kc, vp, vc, ⟨key, seq, gone, val⟩⟩ w' (by simp only; omega) (by simp only; omega) (entKind_ok.below HX.out hb)
      unfold ev at CP
      simp only at CP
      go_wp2_with fail
      refine region_share (fun _ a' w' => (∃ v74 v75 v76 v77 v78 v79 v80 v81 v82 v83 v84 v85 v86 v87 v88 v89 v90 v91 v92 v93 v94 v95 : Value, a' = ⟨#[.pointer (some ⟨r, 0, none⟩), .agg #[.slice kp key.length kc, .int .i64 seq, .bool gone, .slice vp val.length vc], .int .i64 hgt, undef, .pointer (some ⟨w.heap.size, 0, none⟩), undef, .int .i64 0, .int .i64 (K0 : Int), .agg #[.slice kp key.length kc, .int .i64 seq, .bool gone, .slice vp val.length vc], .int .i64 0, .bool false, .bool false, .int .i64 hgt, .bool (decide (hgt < 1)), .bool (decide (hgt < 1)), .bool (decide (hgt < 1)), .int .i64 hgt, .bool (decide (12 < hgt)), .bool (decide (hgt < 1) || decide (12 < hgt)), v19, v20, v21, v22, v23, v24, v25, v26, v27, v28, v29, v30, v31, v32, v33, v34, v35, v36, v37, v38, v39, v40, v41, v42, v43, v44, v45, v46, v47, v48, v49, v50, v51, v52, v53, v54, v55, v56, v57, v58, v59, v60, v61, v62, v63, v64, v65, v66, v67, v68, v69, v70, v71, v72, .bool false, v74, v75, v76, v77, v78, v79, v80, v81, v82, v83, v84, v85, v86, v87, v88, v89, v90, v91, v92, v93, v94, v95, undef, undef, undef, undef, undef, undef, undef, undef, undef, undef, undef, undef, undef, undef, undef, undef, undef, undef, undef, undef, undef], []⟩) ∧ Put8 w r ys K0 ⟨key, seq, gone, val⟩ w') ?_ ?_
      · by_cases hc : K0 < c
        · obtain ⟨b, off, rfl⟩ : ∃ b off, ao = some ⟨b, off, none⟩ := by
            rcases ENT.out.row.2 with ⟨h0, _⟩ | ⟨g, cap, cur, e, _⟩
            · cases h0; omega
            · cases e; exact ⟨_, _, rfl⟩
          have HNIL : Hid ((some ⟨b, off, none⟩ : Option Addr) = none → K0 = 0 ∧ c = 0) := fun h => by cases h
          have LENk : Hid ((rv entKind (ys.take K0)).length = K0 * 4) := by
            show _ = _
            rw [rv_length entKind_ok, List.length_take, HN.out, Nat.min_eq_left (by omega)]
            rfl
          have LENd : Hid ((rv entKind (ys.drop K0)).length = (N - K0) * 4) := by
            show _ = _
            rw [rv_length entKind_ok, List.length_drop, HN.out]
            first | rfl | (rw [Nat.sub_self]; rfl)
          have NWk : Hid (∀ W', Below w.heap.size w W' → ∀ ad, (some ⟨b, off, none⟩ : Option Addr) = some ad → ∀ j u, (rv entKind (ys.take K0))[j]? = some u → W'.cell? (ad.add j) = some u) := fun W' hb ad had j u hj => by
            refine ((SRC.out.below entKind_ok hb).cells _ had j u ?_)
            rw [← List.take_append_drop K0 ys, rv_append, List.getElem?_append_left (List.getElem?_eq_some_iff.1 hj).1]
            exact hj
          have NWd : Hid (∀ W', Below w.heap.size w W' → ∀ ad, (some ⟨b, off + K0 * 4, none⟩ : Option Addr) = some ad → ∀ j u, (rv entKind (ys.drop K0))[j]? = some u → W'.cell? (ad.add j) = some u) := fun W' hb ad had j u hj => by
            cases had
            have := (SRC.out.below entKind_ok hb).cells _ rfl (K0 * 4 + j) u (by
              rw [← List.take_append_drop K0 ys, rv_append, List.getElem?_append_right (by rw [LENk.out]; omega), LENk.out]
              rw [show K0 * 4 + j - K0 * 4 = j by omega]
              exact hj)
            rw [Addr.add_mid] at this ⊢
            rw [Nat.add_assoc]
            exact this
          have hcne : ¬ c = K0 := by omega
          have jcc : ¬ c < K0 := by omega
          have jk : (K0 : Int) ≤ (N : Int) := by omega
          have jc : (N : Int) ≤ (c : Int) := by omega
          have j0 : (0 : Int) ≤ (K0 : Int) := by omega
          refine wp_region_parted (fun w' => Below wC.heap.size wC w') 0x16 _ (by kernel_rfl) rfl rfl rfl (by kernel_rfl) (by kernel_rfl) ((Below.refl _ _).drew) (fun hHeld => ?_)
          simp only [List.setIfInBounds_toArray, List.set_cons_succ, List.set_cons_zero, mute]
          refine takeH (i := 0) 74 (v := .pointer (some ⟨r, 0, none⟩)) rfl rfl (by kernel_rfl) (by kernel_rfl) (by kernel_rfl) (fun _ _ _ h => h) (Or.inl ⟨by rfl, ?_⟩) (by assumption) ?_
          · intro w' hSw'
            go_simp
          simp only [Act.put, List.setIfInBounds_toArray, List.set_cons_zero, List.set_cons_succ]
          refine takeH (i := 2) 76 (v := .pointer (some ⟨r, 0, none⟩)) rfl rfl (by kernel_rfl) (by kernel_rfl) (by kernel_rfl) (fun _ _ _ h => h) (Or.inl ⟨by rfl, ?_⟩) (by assumption) ?_
          · intro w' hSw'
            go_simp
          simp only [Act.put, List.setIfInBounds_toArray, List.set_cons_zero, List.set_cons_succ]
          refine takeH (i := 3) 77 (v := .pointer (some ⟨r, 0, none⟩)) rfl rfl (by kernel_rfl) (by kernel_rfl) (by kernel_rfl) (fun _ _ _ h => h) (Or.inl ⟨by rfl, ?_⟩) (by assumption) ?_
          · intro w' hSw'
            go_simp
          simp only [Act.put, List.setIfInBounds_toArray, List.set_cons_zero, List.set_cons_succ]
          refine takeH (i := 4) 78 (v := .pointer (some ⟨r, 0, none⟩)) rfl rfl (by kernel_rfl) (by kernel_rfl) (by kernel_rfl) (fun _ _ _ h => h) (Or.inl ⟨by rfl, ?_⟩) (by assumption) ?_
          · intro w' hSw'
            go_simp
          simp only [Act.put, List.setIfInBounds_toArray, List.set_cons_zero, List.set_cons_succ]
          refine takeH (i := 5) 79 (v := .slice (some ⟨b, off, none⟩) N c) rfl rfl (by kernel_rfl) (by kernel_rfl) (by kernel_rfl) (fun _ _ _ h => h) (Or.inl ⟨by rfl, ?_⟩) (by assumption) ?_
          · intro w' hSw'
            have l0 := LC.out w' (BC1.out.trans (hSw'.mono BC1.out.size))
            go_simp
          simp only [Act.put, List.setIfInBounds_toArray, List.set_cons_zero, List.set_cons_succ]
          refine takeH (i := 6) 80 (v := .int .i64 (K0 : Int)) rfl rfl (by kernel_rfl) (by kernel_rfl) (by kernel_rfl) (fun _ _ _ h => h) (Or.inl ⟨by rfl, ?_⟩) (by assumption) ?_
          · intro w' hSw'
            go_simp
          simp only [Act.put, List.setIfInBounds_toArray, List.set_cons_zero, List.set_cons_succ]
          refine takeH (i := 7) 81 (v := .slice (some ⟨b, off, none⟩) K0 c) rfl rfl (by kernel_rfl) (by kernel_rfl) (by kernel_rfl) (fun _ _ _ h => h) (Or.inl ⟨by rfl, ?_⟩) (by assumption) ?_
          · intro w' hSw'
            go_simp
          simp only [Act.put, List.setIfInBounds_toArray, List.set_cons_zero, List.set_cons_succ]
          refine takeH (i := 9) 83 (v := .agg #[.slice kp key.length kc, .int .i64 seq, .bool gone, .slice vp val.length vc]) rfl rfl (by kernel_rfl) (by kernel_rfl) (by kernel_rfl) (fun _ _ _ h => h) (Or.inl ⟨by rfl, ?_⟩) (by assumption) ?_
          · intro w' hSw'
            obtain ⟨e0, e1, e2, e3⟩ := EC.out w' (BC1.out.trans (hSw'.mono BC1.out.size))
            go_simp
          simp only [Act.put, List.setIfInBounds_toArray, List.set_cons_zero, List.set_cons_succ]
          refine takeH (i := 13) 87 (v := .pointer (some ⟨r, 0, none⟩)) rfl rfl (by kernel_rfl) (by kernel_rfl) (by kernel_rfl) (fun _ _ _ h => h) (Or.inl ⟨by rfl, ?_⟩) (by assumption) ?_
          · intro w' hSw'
            go_simp
          simp only [Act.put, List.setIfInBounds_toArray, List.set_cons_zero, List.set_cons_succ]
          refine takeH (i := 14) 88 (v := .pointer (some ⟨r, 0, none⟩)) rfl rfl (by kernel_rfl) (by kernel_rfl) (by kernel_rfl) (fun _ _ _ h => h) (Or.inl ⟨by rfl, ?_⟩) (by assumption) ?_
          · intro w' hSw'
            go_simp
          simp only [Act.put, List.setIfInBounds_toArray, List.set_cons_zero, List.set_cons_succ]
          refine takeH (i := 15) 89 (v := .pointer (some ⟨r, 0, none⟩)) rfl rfl (by kernel_rfl) (by kernel_rfl) (by kernel_rfl) (fun _ _ _ h => h) (Or.inl ⟨by rfl, ?_⟩) (by assumption) ?_
          · intro w' hSw'
            go_simp
          simp only [Act.put, List.setIfInBounds_toArray, List.set_cons_zero, List.set_cons_succ]
          refine takeH (i := 16) 90 (v := .slice (some ⟨b, off, none⟩) N c) rfl rfl (by kernel_rfl) (by kernel_rfl) (by kernel_rfl) (fun _ _ _ h => h) (Or.inl ⟨by rfl, ?_⟩) (by assumption) ?_
          · intro w' hSw'
            have l0 := LC.out w' (BC1.out.trans (hSw'.mono BC1.out.size))
            go_simp
          simp only [Act.put, List.setIfInBounds_toArray, List.set_cons_zero, List.set_cons_succ]
          refine takeH (i := 17) 91 (v := .int .i64 (K0 : Int)) rfl rfl (by kernel_rfl) (by kernel_rfl) (by kernel_rfl) (fun _ _ _ h => h) (Or.inl ⟨by rfl, ?_⟩) (by assumption) ?_
          · intro w' hSw'
            go_simp
          simp only [Act.put, List.setIfInBounds_toArray, List.set_cons_zero, List.set_cons_succ]
          refine takeH (i := 18) 92 (v := .slice (some ⟨b, off + K0 * 4, none⟩) (N - K0) (c - K0)) rfl rfl (by kernel_rfl) (by kernel_rfl) (by kernel_rfl) (fun _ _ _ h => h) (Or.inl ⟨by rfl, ?_⟩) (by assumption) ?_
          · intro w' hSw'
            go_simp
          simp only [Act.put, List.setIfInBounds_toArray, List.set_cons_zero, List.set_cons_succ]
          refine wpAnyH_ready (rs := [1]) (by kernel_rfl) (by simp) ?_
          refine AllReadyH.cons rfl (fun K hK => ?_) AllReadyH.nil
          go_simp
          refine hK.out _ _ (bD.out) (fun hHeld1 => ?_)
          clear hK K
          refine wpAnyH_ready (rs := [8]) (by kernel_rfl) (by simp) ?_
          refine AllReadyH.cons rfl (fun K hK => ?_) AllReadyH.nil
          refine step_append_rows rfl (.tmp 75) (.tmp 81) 34 rfl wC.heap.size 28 i0 _ 4 64 Try.underlying34 hi0 hz0 hz1 hz2 rfl (by decide) (.slice (some ⟨wC.heap.size, 0, none⟩) 0 0) (0) ([]) rfl OD.out (some ⟨b, off, none⟩) (K0) (c) (rv entKind (ys.take K0)) rfl (HNIL.out) LENk.out ((NWk.out _ bwD.out)) (rv_one entKind_ok _) (by unfold maxLen; omega) (by omega) (bD.out.size) ?_
          intro a1 c1 x1 ho1 hg1
          simp only [Nat.zero_add, List.nil_append] at ho1 ⊢
          have O1 := keep ho1
          have b1x := keep (bD.out.grown hg1 bD.out.size (fun j hj => by cases hj; exact Nat.le_refl _))
          have bw1 := keep (BC.out.trans (b1x.out.mono BC.out.size))
          clear ho1 hg1
          refine hK.out _ _ (b1x.out) (fun hHeld2 => ?_)
          clear hK K
          simp only [List.getElem_toArray, List.getElem_cons_succ, List.getElem_cons_zero, Act.put, List.setIfInBounds_toArray, List.set_cons_zero, List.set_cons_succ]
          refine wpAnyH_ready (rs := [10]) (by kernel_rfl) (by simp) ?_
          refine AllReadyH.cons rfl (fun K hK => ?_) AllReadyH.nil
          go_simp
          refine (CP.out _ bw1.out).mono ?_
          rintro e x2 ⟨y, rfl, hye, hyo, hb2⟩
          have HYE := keep hye
          have b2x := keep (b1x.out.trans (hb2.mono b1x.out.size))
          have Y2 := keep (hyo.base (Nat.le_trans BC.out.size b1x.out.size))
          have O2 := keep (own_block O1.out (fun g hg => hb2.block g (own_size O1.out hg)))
          obtain ⟨x3, hx3⟩ : ∃ x3, x2.alloc (.cells (entKind.vals y).toArray 28) = x3 := ⟨_, rfl⟩
          have d3 : Hid (Below x2.heap.size x2 x3) := by rw [← hx3]; exact (Below.refl _ _).alloc (Nat.le_refl _) _
          have b3x := keep (b2x.out.trans (d3.out.mono b2x.out.size))
          have O3 := keep (own_block O2.out (fun g hg => d3.out.block g (own_size O2.out hg)))
          have Y3 := keep (Y2.out.block d3.out)
          have RC3 : Hid (∀ ad : Addr, (some ⟨x2.heap.size, 0, none⟩ : Option Addr) = some ad → ∀ j u, (entKind.vals y)[j]? = some u → x3.cell? (ad.add j) = some u) := fun ad had j u hu => by cases had; rw [← hx3]; exact rec_cells (k := entKind) x2 28 y j u hu
          have ONE3 := keep (entKind_ok.one y)
          have LN3 := keep (entKind_ok.len y)
          obtain ⟨vs, hvs⟩ : ∃ vs, entKind.vals y = vs := ⟨_, rfl⟩
          have HVS := keep hvs
          obtain ⟨ykp, ykc, yvp, yvc, ⟨ykey, yseq, ygone, yval⟩⟩ := y
          simp only [entKind] at hx3
          simp only
          rw [hvs] at RC3 ONE3 LN3
          clear hye hyo hb2 hvs
          go_wp2_with fail
          refine hK.out _ _ (b2x.out) (fun hHeld3 => ?_)
          clear hK K
          refine wpAnyH_ready (rs := [11]) (by kernel_rfl) (by simp) ?_
          refine AllReadyH.cons rfl (fun K hK => ?_) AllReadyH.nil
          go_simp
          refine hK.out _ _ (b3x.out) (fun hHeld4 => ?_)
          clear hK K
          refine wpAnyH_ready (rs := [12]) (by kernel_rfl) (by simp) ?_
          refine AllReadyH.cons rfl (fun K hK => ?_) AllReadyH.nil
          refine step_append_rows rfl (.tmp 82) (.tmp 85) 34 rfl wC.heap.size 28 i0 _ 4 64 Try.underlying34 hi0 hz0 hz1 hz2 rfl (by decide) (.slice a1 K0 c1) (K0) (rv entKind (ys.take K0)) rfl O3.out (some ⟨x2.heap.size, 0, none⟩) (1) (1) (vs) rfl (fun h => by cases h) LN3.out (RC3.out) (ONE3.out) (by unfold maxLen; omega) (by omega) (b3x.out.size) ?_
          intro a4 c4 x4 ho4 hg4
          have O4 := keep ho4
          have b4x := keep (b3x.out.grown hg4 b3x.out.size (fun j hj => (O3.out.lt j hj).1))
          have bw4 := keep (BC.out.trans (b4x.out.mono BC.out.size))
          have Y4 := keep (Y3.out.grown (own_base O3.out (fun g hg => Nat.le_trans BC.out.size (O3.out.lt g hg).1)) hg4)
          clear ho4 hg4
          refine hK.out _ _ (b4x.out) (fun hHeld5 => ?_)
          clear hK K
          simp only [List.getElem_toArray, List.getElem_cons_succ, List.getElem_cons_zero, Act.put, List.setIfInBounds_toArray, List.set_cons_zero, List.set_cons_succ]
          refine wpAnyH_ready (rs := [19]) (by kernel_rfl) (by simp) ?_
          refine AllReadyH.cons rfl (fun K hK => ?_) AllReadyH.nil
          refine step_append_rows rfl (.tmp 86) (.tmp 92) 34 rfl wC.heap.size 28 i0 _ 4 64 Try.underlying34 hi0 hz0 hz1 hz2 rfl (by decide) (.slice a4 (K0 + 1) c4) (K0 + 1) (rv entKind (ys.take K0) ++ vs) rfl O4.out (some ⟨b, off + K0 * 4, none⟩) (N - K0) (c - K0) (rv entKind (ys.drop K0)) rfl (fun h => by cases h) LENd.out ((NWd.out _ bw4.out)) (rv_one entKind_ok _) (by unfold maxLen; omega) (by omega) (b4x.out.size) ?_
          intro a5 c5 x5 ho5 hg5
          have O5 := keep ho5
          have b5x := keep (b4x.out.grown hg5 b4x.out.size (fun j hj => (O4.out.lt j hj).1))
          have Y5 := keep (Y4.out.grown (own_base O4.out (fun g hg => Nat.le_trans BC.out.size (O4.out.lt g hg).1)) hg5)
          clear ho5 hg5
          refine hK.out _ _ (b5x.out) (fun hHeld6 => ?_)
          clear hK K
          simp only [List.getElem_toArray, List.getElem_cons_succ, List.getElem_cons_zero, Act.put, List.setIfInBounds_toArray, List.set_cons_zero, List.set_cons_succ]
          refine takeH (i := 20) 94 (v := .pointer (some ⟨r, 0, none⟩)) rfl rfl (by kernel_rfl) (by kernel_rfl) (by kernel_rfl) (fun _ _ _ h => h) (Or.inl ⟨by rfl, ?_⟩) (by assumption) ?_
          · intro w' hSw'
            go_simp
          simp only [Act.put, List.setIfInBounds_toArray, List.set_cons_zero, List.set_cons_succ]
          refine takeH (i := 21) 95 (v := .pointer (some ⟨r, 0, none⟩)) rfl rfl (by kernel_rfl) (by kernel_rfl) (by kernel_rfl) (fun _ _ _ h => h) (Or.inl ⟨by rfl, ?_⟩) (by assumption) ?_
          · intro w' hSw'
            go_simp
          simp only [Act.put, List.setIfInBounds_toArray, List.set_cons_zero, List.set_cons_succ]
          refine wpAnyH_ready (rs := [0x16]) (by kernel_rfl) (by simp) ?_
          refine AllReadyH.cons rfl (fun K hK => ?_) AllReadyH.nil
          go_simp
          refine hK.out _ _ (b5x.out) (fun hHeld7 => ?_)
          clear hK K
          refine wpAnyH_done (by kernel_rfl) ?_ _
          have bw5 := keep (BC.out.trans (b5x.out.mono BC.out.size))
          have m5 : x5.cell? ⟨r, 0, none⟩ = some (.slice (some ⟨b, off, none⟩) N c) := LC.out x5 (BC1.out.trans (b5x.out.mono BC1.out.size))
          have f5 : x5.frozen? ⟨r, 0, none⟩ = false := by
            have := (bw5.out.block r HRL.out).trans ROW.out
            simp [World.frozen?, this]
          have O6 : Hid (x5.ownsRow w.heap.size 28 4 (.slice a5 (N + 1) c5) (N + 1) (rv entKind (ys.take K0 ++ ⟨ykp, ykc, yvp, yvc, ⟨ykey, yseq, ygone, yval⟩⟩ :: ys.drop K0))) := by
            have h1 := own_base O5.out (fun g hg => Nat.le_trans BC.out.size (O5.out.lt g hg).1)
            have e1 : rv entKind (ys.take K0 ++ ⟨ykp, ykc, yvp, yvc, ⟨ykey, yseq, ygone, yval⟩⟩ :: ys.drop K0) = rv entKind (ys.take K0) ++ vs ++ rv entKind (ys.drop K0) := by rw [rv_append, rv, HVS.out, List.append_assoc]
            have e2 : K0 + 1 + (N - K0) = N + 1 := by omega
            rw [e1]
            rw [e2] at h1
            exact h1
          have e3 : K0 + 1 + (N - K0) = N + 1 := by omega
          rw [e3]
          clear e3
          have P8 : Put8 w r ys K0 ⟨key, seq, gone, val⟩ (x5.setCell ⟨r, 0, none⟩ (.slice a5 (N + 1) c5)) := ⟨⟨ykp, ykc, yvp, yvc, ⟨ykey, yseq, ygone, yval⟩⟩, a5, N + 1, c5, x5, by rw [HN.out], rfl, HYE.out, bw5.out, O6.out, Y5.out⟩
          unfold LastQ
          go_simp
          first | exact P8 | exact ⟨⟨_, _, _, _, _, _, _, _, _, _, _, _, _, _, _, _, _, _, _, _, _, _, rfl⟩, P8⟩
        · obtain rfl : K0 = N := by omega
          obtain rfl : K0 = c := by omega
          have HNIL : Hid (ao = none → K0 = 0 ∧ K0 = 0) := fun h => SRC.out.nil h
          have LENk : Hid ((rv entKind (ys.take K0)).length = K0 * 4) := by
            show _ = _
            rw [rv_length entKind_ok, List.length_take, HN.out, Nat.min_eq_left (by omega)]
            rfl
          have LENd : Hid ((rv entKind (ys.drop K0)).length = 0 * 4) := by
            show _ = _
            rw [rv_length entKind_ok, List.length_drop, HN.out]
            first | rfl | (rw [Nat.sub_self]; rfl)
          have NWk : Hid (∀ W', Below w.heap.size w W' → ∀ ad, (ao : Option Addr) = some ad → ∀ j u, (rv entKind (ys.take K0))[j]? = some u → W'.cell? (ad.add j) = some u) := fun W' hb ad had j u hj => by
            refine ((SRC.out.below entKind_ok hb).cells _ had j u ?_)
            rw [← List.take_append_drop K0 ys, rv_append, List.getElem?_append_left (List.getElem?_eq_some_iff.1 hj).1]
            exact hj
          have NWd : Hid (∀ W', Below w.heap.size w W' → ∀ ad, ao = some ad → ∀ j u, (rv entKind (ys.drop K0))[j]? = some u → W'.cell? (ad.add j) = some u) := fun W' hb ad had j u hj => by
            rw [List.drop_eq_nil_of_le (by rw [HN.out]; exact Nat.le_refl _)] at hj
            simp [rv] at hj
          have j0 : (0 : Int) ≤ (K0 : Int) := by omega
          refine wp_region_parted (fun w' => Below wC.heap.size wC w') 0x16 _ (by kernel_rfl) rfl rfl rfl (by kernel_rfl) (by kernel_rfl) ((Below.refl _ _).drew) (fun hHeld => ?_)
          simp only [List.setIfInBounds_toArray, List.set_cons_succ, List.set_cons_zero, mute]
          refine takeH (i := 0) 74 (v := .pointer (some ⟨r, 0, none⟩)) rfl rfl (by kernel_rfl) (by kernel_rfl) (by kernel_rfl) (fun _ _ _ h => h) (Or.inl ⟨by rfl, ?_⟩) (by assumption) ?_
          · intro w' hSw'
            go_simp
          simp only [Act.put, List.setIfInBounds_toArray, List.set_cons_zero, List.set_cons_succ]
          refine takeH (i := 2) 76 (v := .pointer (some ⟨r, 0, none⟩)) rfl rfl (by kernel_rfl) (by kernel_rfl) (by kernel_rfl) (fun _ _ _ h => h) (Or.inl ⟨by rfl, ?_⟩) (by assumption) ?_
          · intro w' hSw'
            go_simp
          simp only [Act.put, List.setIfInBounds_toArray, List.set_cons_zero, List.set_cons_succ]
          refine takeH (i := 3) 77 (v := .pointer (some ⟨r, 0, none⟩)) rfl rfl (by kernel_rfl) (by kernel_rfl) (by kernel_rfl) (fun _ _ _ h => h) (Or.inl ⟨by rfl, ?_⟩) (by assumption) ?_
          · intro w' hSw'
            go_simp
          simp only [Act.put, List.setIfInBounds_toArray, List.set_cons_zero, List.set_cons_succ]
          refine takeH (i := 4) 78 (v := .pointer (some ⟨r, 0, none⟩)) rfl rfl (by kernel_rfl) (by kernel_rfl) (by kernel_rfl) (fun _ _ _ h => h) (Or.inl ⟨by rfl, ?_⟩) (by assumption) ?_
          · intro w' hSw'
            go_simp
          simp only [Act.put, List.setIfInBounds_toArray, List.set_cons_zero, List.set_cons_succ]
          refine takeH (i := 5) 79 (v := .slice (ao) K0 K0) rfl rfl (by kernel_rfl) (by kernel_rfl) (by kernel_rfl) (fun _ _ _ h => h) (Or.inl ⟨by rfl, ?_⟩) (by assumption) ?_
          · intro w' hSw'
            have l0 := LC.out w' (BC1.out.trans (hSw'.mono BC1.out.size))
            go_simp
          simp only [Act.put, List.setIfInBounds_toArray, List.set_cons_zero, List.set_cons_succ]
          refine takeH (i := 6) 80 (v := .int .i64 (K0 : Int)) rfl rfl (by kernel_rfl) (by kernel_rfl) (by kernel_rfl) (fun _ _ _ h => h) (Or.inl ⟨by rfl, ?_⟩) (by assumption) ?_
          · intro w' hSw'
            go_simp
          simp only [Act.put, List.setIfInBounds_toArray, List.set_cons_zero, List.set_cons_succ]
          refine takeH (i := 7) 81 (v := .slice (ao) K0 K0) rfl rfl (by kernel_rfl) (by kernel_rfl) (by kernel_rfl) (fun _ _ _ h => h) (Or.inl ⟨by rfl, ?_⟩) (by assumption) ?_
          · intro w' hSw'
            go_simp
          simp only [Act.put, List.setIfInBounds_toArray, List.set_cons_zero, List.set_cons_succ]
          refine takeH (i := 9) 83 (v := .agg #[.slice kp key.length kc, .int .i64 seq, .bool gone, .slice vp val.length vc]) rfl rfl (by kernel_rfl) (by kernel_rfl) (by kernel_rfl) (fun _ _ _ h => h) (Or.inl ⟨by rfl, ?_⟩) (by assumption) ?_
          · intro w' hSw'
            obtain ⟨e0, e1, e2, e3⟩ := EC.out w' (BC1.out.trans (hSw'.mono BC1.out.size))
            go_simp
          simp only [Act.put, List.setIfInBounds_toArray, List.set_cons_zero, List.set_cons_succ]
          refine takeH (i := 13) 87 (v := .pointer (some ⟨r, 0, none⟩)) rfl rfl (by kernel_rfl) (by kernel_rfl) (by kernel_rfl) (fun _ _ _ h => h) (Or.inl ⟨by rfl, ?_⟩) (by assumption) ?_
          · intro w' hSw'
            go_simp
          simp only [Act.put, List.setIfInBounds_toArray, List.set_cons_zero, List.set_cons_succ]
          refine takeH (i := 14) 88 (v := .pointer (some ⟨r, 0, none⟩)) rfl rfl (by kernel_rfl) (by kernel_rfl) (by kernel_rfl) (fun _ _ _ h => h) (Or.inl ⟨by rfl, ?_⟩) (by assumption) ?_
          · intro w' hSw'
            go_simp
          simp only [Act.put, List.setIfInBounds_toArray, List.set_cons_zero, List.set_cons_succ]
          refine takeH (i := 15) 89 (v := .pointer (some ⟨r, 0, none⟩)) rfl rfl (by kernel_rfl) (by kernel_rfl) (by kernel_rfl) (fun _ _ _ h => h) (Or.inl ⟨by rfl, ?_⟩) (by assumption) ?_
          · intro w' hSw'
            go_simp
          simp only [Act.put, List.setIfInBounds_toArray, List.set_cons_zero, List.set_cons_succ]
          refine takeH (i := 16) 90 (v := .slice (ao) K0 K0) rfl rfl (by kernel_rfl) (by kernel_rfl) (by kernel_rfl) (fun _ _ _ h => h) (Or.inl ⟨by rfl, ?_⟩) (by assumption) ?_
          · intro w' hSw'
            have l0 := LC.out w' (BC1.out.trans (hSw'.mono BC1.out.size))
            go_simp
          simp only [Act.put, List.setIfInBounds_toArray, List.set_cons_zero, List.set_cons_succ]
          refine takeH (i := 17) 91 (v := .int .i64 (K0 : Int)) rfl rfl (by kernel_rfl) (by kernel_rfl) (by kernel_rfl) (fun _ _ _ h => h) (Or.inl ⟨by rfl, ?_⟩) (by assumption) ?_
          · intro w' hSw'
            go_simp
          simp only [Act.put, List.setIfInBounds_toArray, List.set_cons_zero, List.set_cons_succ]
          refine takeH (i := 18) 92 (v := .slice ao 0 0) rfl rfl (by kernel_rfl) (by kernel_rfl) (by kernel_rfl) (fun _ _ _ h => h) (Or.inl ⟨by rfl, ?_⟩) (by assumption) ?_
          · intro w' hSw'
            go_simp
          simp only [Act.put, List.setIfInBounds_toArray, List.set_cons_zero, List.set_cons_succ]
          refine wpAnyH_ready (rs := [1]) (by kernel_rfl) (by simp) ?_
          refine AllReadyH.cons rfl (fun K hK => ?_) AllReadyH.nil
          go_simp
          refine hK.out _ _ (bD.out) (fun hHeld1 => ?_)
          clear hK K
          refine wpAnyH_ready (rs := [8]) (by kernel_rfl) (by simp) ?_
          refine AllReadyH.cons rfl (fun K hK => ?_) AllReadyH.nil
          refine step_append_rows rfl (.tmp 75) (.tmp 81) 34 rfl wC.heap.size 28 i0 _ 4 64 Try.underlying34 hi0 hz0 hz1 hz2 rfl (by decide) (.slice (some ⟨wC.heap.size, 0, none⟩) 0 0) (0) ([]) rfl OD.out (ao) (K0) (K0) (rv entKind (ys.take K0)) rfl (HNIL.out) LENk.out ((NWk.out _ bwD.out)) (rv_one entKind_ok _) (by unfold maxLen; omega) (by omega) (bD.out.size) ?_
          intro a1 c1 x1 ho1 hg1
          simp only [Nat.zero_add, List.nil_append] at ho1 ⊢
          have O1 := keep ho1
          have b1x := keep (bD.out.grown hg1 bD.out.size (fun j hj => by cases hj; exact Nat.le_refl _))
          have bw1 := keep (BC.out.trans (b1x.out.mono BC.out.size))
          clear ho1 hg1
          refine hK.out _ _ (b1x.out) (fun hHeld2 => ?_)
          clear hK K
          simp only [List.getElem_toArray, List.getElem_cons_succ, List.getElem_cons_zero, Act.put, List.setIfInBounds_toArray, List.set_cons_zero, List.set_cons_succ]
          refine wpAnyH_ready (rs := [10]) (by kernel_rfl) (by simp) ?_
          refine AllReadyH.cons rfl (fun K hK => ?_) AllReadyH.nil
          go_simp
          refine (CP.out _ bw1.out).mono ?_
          rintro e x2 ⟨y, rfl, hye, hyo, hb2⟩
          have HYE := keep hye
          have b2x := keep (b1x.out.trans (hb2.mono b1x.out.size))
          have Y2 := keep (hyo.base (Nat.le_trans BC.out.size b1x.out.size))
          have O2 := keep (own_block O1.out (fun g hg => hb2.block g (own_size O1.out hg)))
          obtain ⟨x3, hx3⟩ : ∃ x3, x2.alloc (.cells (entKind.vals y).toArray 28) = x3 := ⟨_, rfl⟩
          have d3 : Hid (Below x2.heap.size x2 x3) := by rw [← hx3]; exact (Below.refl _ _).alloc (Nat.le_refl _) _
          have b3x := keep (b2x.out.trans (d3.out.mono b2x.out.size))
          have O3 := keep (own_block O2.out (fun g hg => d3.out.block g (own_size O2.out hg)))
          have Y3 := keep (Y2.out.block d3.out)
          have RC3 : Hid (∀ ad : Addr, (some ⟨x2.heap.size, 0, none⟩ : Option Addr) = some ad → ∀ j u, (entKind.vals y)[j]? = some u → x3.cell? (ad.add j) = some u) := fun ad had j u hu => by cases had; rw [← hx3]; exact rec_cells (k := entKind) x2 28 y j u hu
          have ONE3 := keep (entKind_ok.one y)
          have LN3 := keep (entKind_ok.len y)
          obtain ⟨vs, hvs⟩ : ∃ vs, entKind.vals y = vs := ⟨_, rfl⟩
          have HVS := keep hvs
          obtain ⟨ykp, ykc, yvp, yvc, ⟨ykey, yseq, ygone, yval⟩⟩ := y
          simp only [entKind] at hx3
          simp only
          rw [hvs] at RC3 ONE3 LN3
          clear hye hyo hb2 hvs
          go_wp2_with fail
          refine hK.out _ _ (b2x.out) (fun hHeld3 => ?_)
          clear hK K
          refine wpAnyH_ready (rs := [11]) (by kernel_rfl) (by simp) ?_
          refine AllReadyH.cons rfl (fun K hK => ?_) AllReadyH.nil
          go_simp
          refine hK.out _ _ (b3x.out) (fun hHeld4 => ?_)
          clear hK K
          refine wpAnyH_ready (rs := [12]) (by kernel_rfl) (by simp) ?_
          refine AllReadyH.cons rfl (fun K hK => ?_) AllReadyH.nil
          refine step_append_rows rfl (.tmp 82) (.tmp 85) 34 rfl wC.heap.size 28 i0 _ 4 64 Try.underlying34 hi0 hz0 hz1 hz2 rfl (by decide) (.slice a1 K0 c1) (K0) (rv entKind (ys.take K0)) rfl O3.out (some ⟨x2.heap.size, 0, none⟩) (1) (1) (vs) rfl (fun h => by cases h) LN3.out (RC3.out) (ONE3.out) (by unfold maxLen; omega) (by omega) (b3x.out.size) ?_
          intro a4 c4 x4 ho4 hg4
          have O4 := keep ho4
          have b4x := keep (b3x.out.grown hg4 b3x.out.size (fun j hj => (O3.out.lt j hj).1))
          have bw4 := keep (BC.out.trans (b4x.out.mono BC.out.size))
          have Y4 := keep (Y3.out.grown (own_base O3.out (fun g hg => Nat.le_trans BC.out.size (O3.out.lt g hg).1)) hg4)
          clear ho4 hg4
          refine hK.out _ _ (b4x.out) (fun hHeld5 => ?_)
          clear hK K
          simp only [List.getElem_toArray, List.getElem_cons_succ, List.getElem_cons_zero, Act.put, List.setIfInBounds_toArray, List.set_cons_zero, List.set_cons_succ]
          refine wpAnyH_ready (rs := [19]) (by kernel_rfl) (by simp) ?_
          refine AllReadyH.cons rfl (fun K hK => ?_) AllReadyH.nil
          refine step_append_rows rfl (.tmp 86) (.tmp 92) 34 rfl wC.heap.size 28 i0 _ 4 64 Try.underlying34 hi0 hz0 hz1 hz2 rfl (by decide) (.slice a4 (K0 + 1) c4) (K0 + 1) (rv entKind (ys.take K0) ++ vs) rfl O4.out (ao) (0) (0) (rv entKind (ys.drop K0)) rfl (fun _ => ⟨rfl, rfl⟩) LENd.out ((NWd.out _ bw4.out)) (rv_one entKind_ok _) (by unfold maxLen; omega) (by omega) (b4x.out.size) ?_
          intro a5 c5 x5 ho5 hg5
          have O5 := keep ho5
          have b5x := keep (b4x.out.grown hg5 b4x.out.size (fun j hj => (O4.out.lt j hj).1))
          have Y5 := keep (Y4.out.grown (own_base O4.out (fun g hg => Nat.le_trans BC.out.size (O4.out.lt g hg).1)) hg5)
          clear ho5 hg5
          refine hK.out _ _ (b5x.out) (fun hHeld6 => ?_)
          clear hK K
          simp only [List.getElem_toArray, List.getElem_cons_succ, List.getElem_cons_zero, Act.put, List.setIfInBounds_toArray, List.set_cons_zero, List.set_cons_succ]
          refine takeH (i := 20) 94 (v := .pointer (some ⟨r, 0, none⟩)) rfl rfl (by kernel_rfl) (by kernel_rfl) (by kernel_rfl) (fun _ _ _ h => h) (Or.inl ⟨by rfl, ?_⟩) (by assumption) ?_
          · intro w' hSw'
            go_simp
          simp only [Act.put, List.setIfInBounds_toArray, List.set_cons_zero, List.set_cons_succ]
          refine takeH (i := 21) 95 (v := .pointer (some ⟨r, 0, none⟩)) rfl rfl (by kernel_rfl) (by kernel_rfl) (by kernel_rfl) (fun _ _ _ h => h) (Or.inl ⟨by rfl, ?_⟩) (by assumption) ?_
          · intro w' hSw'
            go_simp
          simp only [Act.put, List.setIfInBounds_toArray, List.set_cons_zero, List.set_cons_succ]
          refine wpAnyH_ready (rs := [0x16]) (by kernel_rfl) (by simp) ?_
          refine AllReadyH.cons rfl (fun K hK => ?_) AllReadyH.nil
          go_simp
          refine hK.out _ _ (b5x.out) (fun hHeld7 => ?_)
          clear hK K
          refine wpAnyH_done (by kernel_rfl) ?_ _
          have bw5 := keep (BC.out.trans (b5x.out.mono BC.out.size))
          have m5 : x5.cell? ⟨r, 0, none⟩ = some (.slice (ao) K0 K0) := LC.out x5 (BC1.out.trans (b5x.out.mono BC1.out.size))
          have f5 : x5.frozen? ⟨r, 0, none⟩ = false := by
            have := (bw5.out.block r HRL.out).trans ROW.out
            simp [World.frozen?, this]
          have O6 : Hid (x5.ownsRow w.heap.size 28 4 (.slice a5 (K0 + 1) c5) (K0 + 1) (rv entKind (ys.take K0 ++ ⟨ykp, ykc, yvp, yvc, ⟨ykey, yseq, ygone, yval⟩⟩ :: ys.drop K0))) := by
            have h1 := own_base O5.out (fun g hg => Nat.le_trans BC.out.size (O5.out.lt g hg).1)
            have e1 : rv entKind (ys.take K0 ++ ⟨ykp, ykc, yvp, yvc, ⟨ykey, yseq, ygone, yval⟩⟩ :: ys.drop K0) = rv entKind (ys.take K0) ++ vs ++ rv entKind (ys.drop K0) := by rw [rv_append, rv, HVS.out, List.append_assoc]
            have e2 : K0 + 1 + 0 = K0 + 1 := by omega
            rw [e1]
            rw [e2] at h1
            exact h1
          have e3 : K0 + 1 + 0 = K0 + 1 := by omega
          rw [e3]
          clear e3
          have P8 : Put8 w r ys K0 ⟨key, seq, gone, val⟩ (x5.setCell ⟨r, 0, none⟩ (.slice a5 (K0 + 1) c5)) := ⟨⟨ykp, ykc, yvp, yvc, ⟨ykey, yseq, ygone, yval⟩⟩, a5, K0 + 1, c5, x5, by rw [HN.out], rfl, HYE.out, bw5.out, O6.out, Y5.out⟩
          unfold LastQ
          go_simp
          first | exact P8 | exact ⟨⟨_, _, _, _, _, _, _, _, _, _, _, _, _, _, _, _, _, _, _, _, _, _, rfl⟩, P8⟩
      · rintro a' w' ⟨⟨v74, v75, v76, v77, v78, v79, v80, v81, v82, v83, v84, v85, v86, v87, v88, v89, v90, v91, v92, v93, v94, v95, rfl⟩, hP8⟩
        clear bD OD bwD hwD CP
        obtain ⟨y, a5, n5, c5, x5, hn5, hw5, hye, h8, row8, hyo⟩ := hP8
        subst hw5
        have H8 := keep h8
        have Q8 := keep row8
        have HYE := keep hye
        have HYO := keep hyo
        have HN5 := keep hn5
        have r8 := (h8.block r HRL.out).trans ROW.out
        have r9 := set_row r8 0 (.slice a5 n5 c5)
        obtain ⟨wE, hwE⟩ : ∃ wE, x5.setCell ⟨r, 0, none⟩ (.slice a5 n5 c5) = wE := ⟨_, rfl⟩
        rw [hwE] at r9 ⊢
        have ROWE : Hid (wE.heap[r]? = some (.cells #[.slice a5 n5 c5, .slice aoH hs.length cH] 39 (0, 0))) := by
          show _ = _
          rw [r9]
          simp
        have HRE : Hid (r < wE.heap.size) := (Array.getElem?_eq_some_iff.1 ROWE.out).1
        have HE : Hid (wE.cell? ⟨r, 1, none⟩ = some (.slice aoH N cH)) := by
          show _ = _
          rw [HLEN.out]
          exact cell_of_row _ _ _ _ _ _ ROWE.out
        have HWE := keep hwE
        have VE : Hid (wE.ownsRow B 3 1 (.slice aoH N cH) N (rv numKind hs)) := by
          rw [rv_num, HLEN.out, ← hwE]
          refine own_block VH.out (fun g hg => ?_)
          obtain ⟨cur, hc⟩ := own_tag VH.out hg
          have hne : g ≠ r := fun e => by
            rw [e, ROW.out] at hc
            simp at hc
          rw [set_far _ _ hne]
          exact h8.block g (own_size VH.out hg)
        have HR : Hid (∀ W', Below wE.heap.size wE W' → RSrc numKind W' aoH N cH hs) := fun W' hb => by
          obtain ⟨_, _, e1, h1, _⟩ := RSrc.own numKind_ok (own_block VE.out (fun g hg => hb.block g (own_size VE.out hg))) (fun _ _ => trivial)
          cases e1
          exact h1
        have hcapH := (HR.out wE (Below.refl _ _)).cap
        have hlH := (HR.out wE (Below.refl _ _)).len
        have HLH := keep hlH
        clear h8 row8 hye hyo hn5 r8 r9 hwE hlH
        obtain ⟨zA, hzA⟩ : ∃ z, wE.drew.alloc (.cells #[] 3) = z := ⟨_, rfl⟩
        obtain ⟨zB, hzB⟩ : ∃ z, zA.alloc (.cells #[.int .i64 hgt] 3) = z := ⟨_, rfl⟩
        obtain ⟨zC, hzC⟩ : ∃ z, wE.drew.alloc (.cells #[.int .i64 hgt] 3) = z := ⟨_, rfl⟩
        obtain ⟨zD, hzD⟩ : ∃ z, zC.alloc (.cells #[] 3) = z := ⟨_, rfl⟩
        have dA : Hid (Below wE.heap.size wE zA) := by rw [← hzA]; exact (Below.refl _ _).drew.alloc (Nat.le_refl _) _
        have sA : Hid (zA.heap.size = wE.heap.size + 1) := by rw [← hzA]; exact alloc_size _ _
        have sB : Hid (zB.heap.size = zA.heap.size + 1) := by rw [← hzB]; exact alloc_size _ _
        have sC : Hid (zC.heap.size = wE.heap.size + 1) := by rw [← hzC]; exact alloc_size _ _
        have dB : Hid (Below wE.heap.size wE zB) := by rw [← hzB]; exact dA.out.alloc dA.out.size _
        have dC : Hid (Below wE.heap.size wE zC) := by rw [← hzC]; exact (Below.refl _ _).drew.alloc (Nat.le_refl _) _
        have dCs : Hid (wE.heap.size ≤ zC.heap.size) := dC.out.size
        have dDC : Hid (Below zC.heap.size zC zD) := by rw [← hzD]; exact (Below.refl _ _).alloc (Nat.le_refl _) _
        have dD : Hid (Below wE.heap.size wE zD) := by rw [← hzD]; exact dC.out.alloc dC.out.size _
        have OA : Hid (zA.ownsRow wE.heap.size 3 1 (.slice (some ⟨wE.heap.size, 0, none⟩) 0 0) 0 []) := by rw [← hzA]; exact own_emptyS (w := wE.drew) (Nat.le_refl _)
        have OB : Hid (zB.ownsRow wE.heap.size 3 1 (.slice (some ⟨wE.heap.size, 0, none⟩) 0 0) 0 []) := by
          refine own_block OA.out (fun g hg => ?_)
          rw [← hzB]
          exact Below.heap_alloc _ _ _ (own_size OA.out hg)
        have OD9 : Hid (zD.ownsRow wE.heap.size 3 1 (.slice (some ⟨zC.heap.size, 0, none⟩) 0 0) 0 []) := by rw [← hzD]; exact own_emptyS (w := zC) dC.out.size
        go_wp2_with fail
        refine region_share (fun _ a' w' => (∃ v96 v97 v98 v99 v100 v101 v102 v103 v104 v105 v106 v107 v108 v109 v110 v111 v112 v113 v114 v115 v116 : Value, a' = ⟨#[.pointer (some ⟨r, 0, none⟩), .agg #[.slice kp key.length kc, .int .i64 seq, .bool gone, .slice vp val.length vc], .int .i64 hgt, undef, .pointer (some ⟨w.heap.size, 0, none⟩), undef, .int .i64 0, .int .i64 (K0 : Int), .agg #[.slice kp key.length kc, .int .i64 seq, .bool gone, .slice vp val.length vc], .int .i64 0, .bool false, .bool false, .int .i64 hgt, .bool (decide (hgt < 1)), .bool (decide (hgt < 1)), .bool (decide (hgt < 1)), .int .i64 hgt, .bool (decide (12 < hgt)), .bool (decide (hgt < 1) || decide (12 < hgt)), v19, v20, v21, v22, v23, v24, v25, v26, v27, v28, v29, v30, v31, v32, v33, v34, v35, v36, v37, v38, v39, v40, v41, v42, v43, v44, v45, v46, v47, v48, v49, v50, v51, v52, v53, v54, v55, v56, v57, v58, v59, v60, v61, v62, v63, v64, v65, v66, v67, v68, v69, v70, v71, v72, .bool false, v74, v75, v76, v77, v78, v79, v80, v81, v82, v83, v84, v85, v86, v87, v88, v89, v90, v91, v92, v93, v94, v95, v96, v97, v98, v99, v100, v101, v102, v103, v104, v105, v106, v107, v108, v109, v110, v111, v112, v113, v114, v115, v116], []⟩) ∧ Put9 wE r hs K0 hgt w') ?_ ?_
        · by_cases hcH : K0 < cH
          · obtain ⟨bh, offh, rfl⟩ : ∃ b off, aoH = some ⟨b, off, none⟩ := by
              rcases VE.out.2 with ⟨h0, _⟩ | ⟨g, cap, cur, e, _⟩
              · cases h0; omega
              · cases e; exact ⟨_, _, rfl⟩
            have HNILh : Hid ((some ⟨bh, offh, none⟩ : Option Addr) = none → K0 = 0 ∧ cH = 0) := fun h => by cases h
            have LENh : Hid ((rv numKind (hs.take K0)).length = K0 * 1) := by
              show _ = _
              rw [rv_length numKind_ok, List.length_take, HLH.out, Nat.min_eq_left (by omega)]
              rfl
            have LENe : Hid ((rv numKind (hs.drop K0)).length = (N - K0) * 1) := by
              show _ = _
              rw [rv_length numKind_ok, List.length_drop, HLH.out]
              first | rfl | (rw [Nat.sub_self]; rfl)
            have NHk : Hid (∀ W', Below wE.heap.size wE W' → ∀ ad, (some ⟨bh, offh, none⟩ : Option Addr) = some ad → ∀ j u, (rv numKind (hs.take K0))[j]? = some u → W'.cell? (ad.add j) = some u) := fun W' hb ad had j u hj => by
              refine ((HR.out W' hb).cells _ had j u ?_)
              rw [← List.take_append_drop K0 hs, rv_append, List.getElem?_append_left (List.getElem?_eq_some_iff.1 hj).1]
              exact hj
            have NHd : Hid (∀ W', Below wE.heap.size wE W' → ∀ ad, (some ⟨bh, offh + K0, none⟩ : Option Addr) = some ad → ∀ j u, (rv numKind (hs.drop K0))[j]? = some u → W'.cell? (ad.add j) = some u) := fun W' hb ad had j u hj => by
              cases had
              have := (HR.out W' hb).cells _ rfl (K0 + j) u (by
                rw [← List.take_append_drop K0 hs, rv_append, List.getElem?_append_right (by rw [LENh.out]; omega), LENh.out]
                rw [show K0 + j - K0 * 1 = j by omega]
                exact hj)
              rw [Addr.add_mid] at this ⊢
              rw [Nat.add_assoc]
              exact this
            have hcne : ¬ cH = K0 := by omega
            have jcc : ¬ cH < K0 := by omega
            have jk : (K0 : Int) ≤ (N : Int) := by omega
            have jc : (N : Int) ≤ (cH : Int) := by omega
            refine wp_region_parted (fun w' => Below wE.heap.size wE w') 21 _ (by kernel_rfl) rfl rfl rfl (by kernel_rfl) (by kernel_rfl) ((Below.refl _ _).drew) (fun hHeld => ?_)
            simp only [List.setIfInBounds_toArray, List.set_cons_succ, List.set_cons_zero, mute]
            refine takeH (i := 0) 96 (v := .pointer (some ⟨r, 0, none⟩)) rfl rfl (by kernel_rfl) (by kernel_rfl) (by kernel_rfl) (fun _ _ _ h => h) (Or.inl ⟨by rfl, ?_⟩) (by assumption) ?_
            · intro w' hSw'
              go_simp
            simp only [Act.put, List.setIfInBounds_toArray, List.set_cons_zero, List.set_cons_succ]
            refine takeH (i := 2) 98 (v := .pointer (some ⟨r, 0, none⟩)) rfl rfl (by kernel_rfl) (by kernel_rfl) (by kernel_rfl) (fun _ _ _ h => h) (Or.inl ⟨by rfl, ?_⟩) (by assumption) ?_
            · intro w' hSw'
              go_simp
            simp only [Act.put, List.setIfInBounds_toArray, List.set_cons_zero, List.set_cons_succ]
            refine takeH (i := 3) 99 (v := .pointer (some ⟨r, 0, none⟩)) rfl rfl (by kernel_rfl) (by kernel_rfl) (by kernel_rfl) (fun _ _ _ h => h) (Or.inl ⟨by rfl, ?_⟩) (by assumption) ?_
            · intro w' hSw'
              go_simp
            simp only [Act.put, List.setIfInBounds_toArray, List.set_cons_zero, List.set_cons_succ]
            refine takeH (i := 4) 100 (v := .pointer (some ⟨r, 1, none⟩)) rfl rfl (by kernel_rfl) (by kernel_rfl) (by kernel_rfl) (fun _ _ _ h => h) (Or.inl ⟨by rfl, ?_⟩) (by assumption) ?_
            · intro w' hSw'
              go_simp
            simp only [Act.put, List.setIfInBounds_toArray, List.set_cons_zero, List.set_cons_succ]
            refine takeH (i := 5) 101 (v := .slice (some ⟨bh, offh, none⟩) N cH) rfl rfl (by kernel_rfl) (by kernel_rfl) (by kernel_rfl) (fun _ _ _ h => h) (Or.inl ⟨by rfl, ?_⟩) (by assumption) ?_
            · intro w' hSw'
              have l1 := below_cell hSw' HE.out
              go_simp
            simp only [Act.put, List.setIfInBounds_toArray, List.set_cons_zero, List.set_cons_succ]
            refine takeH (i := 6) 102 (v := .int .i64 (K0 : Int)) rfl rfl (by kernel_rfl) (by kernel_rfl) (by kernel_rfl) (fun _ _ _ h => h) (Or.inl ⟨by rfl, ?_⟩) (by assumption) ?_
            · intro w' hSw'
              go_simp
            simp only [Act.put, List.setIfInBounds_toArray, List.set_cons_zero, List.set_cons_succ]
            refine takeH (i := 7) 103 (v := .slice (some ⟨bh, offh, none⟩) K0 cH) rfl rfl (by kernel_rfl) (by kernel_rfl) (by kernel_rfl) (fun _ _ _ h => h) (Or.inl ⟨by rfl, ?_⟩) (by assumption) ?_
            · intro w' hSw'
              go_simp
            simp only [Act.put, List.setIfInBounds_toArray, List.set_cons_zero, List.set_cons_succ]
            refine takeH (i := 9) 105 (v := .int .i64 hgt) rfl rfl (by kernel_rfl) (by kernel_rfl) (by kernel_rfl) (fun _ _ _ h => h) (Or.inl ⟨by rfl, ?_⟩) (by assumption) ?_
            · intro w' hSw'
              go_simp
            simp only [Act.put, List.setIfInBounds_toArray, List.set_cons_zero, List.set_cons_succ]
            refine takeH (i := 12) 108 (v := .pointer (some ⟨r, 0, none⟩)) rfl rfl (by kernel_rfl) (by kernel_rfl) (by kernel_rfl) (fun _ _ _ h => h) (Or.inl ⟨by rfl, ?_⟩) (by assumption) ?_
            · intro w' hSw'
              go_simp
            simp only [Act.put, List.setIfInBounds_toArray, List.set_cons_zero, List.set_cons_succ]
            refine takeH (i := 13) 109 (v := .pointer (some ⟨r, 0, none⟩)) rfl rfl (by kernel_rfl) (by kernel_rfl) (by kernel_rfl) (fun _ _ _ h => h) (Or.inl ⟨by rfl, ?_⟩) (by assumption) ?_
            · intro w' hSw'
              go_simp
            simp only [Act.put, List.setIfInBounds_toArray, List.set_cons_zero, List.set_cons_succ]
            refine takeH (i := 14) 110 (v := .pointer (some ⟨r, 1, none⟩)) rfl rfl (by kernel_rfl) (by kernel_rfl) (by kernel_rfl) (fun _ _ _ h => h) (Or.inl ⟨by rfl, ?_⟩) (by assumption) ?_
            · intro w' hSw'
              go_simp
            simp only [Act.put, List.setIfInBounds_toArray, List.set_cons_zero, List.set_cons_succ]
            refine takeH (i := 15) 111 (v := .slice (some ⟨bh, offh, none⟩) N cH) rfl rfl (by kernel_rfl) (by kernel_rfl) (by kernel_rfl) (fun _ _ _ h => h) (Or.inl ⟨by rfl, ?_⟩) (by assumption) ?_
            · intro w' hSw'
              have l1 := below_cell hSw' HE.out
              go_simp
            simp only [Act.put, List.setIfInBounds_toArray, List.set_cons_zero, List.set_cons_succ]
            refine takeH (i := 16) 112 (v := .int .i64 (K0 : Int)) rfl rfl (by kernel_rfl) (by kernel_rfl) (by kernel_rfl) (fun _ _ _ h => h) (Or.inl ⟨by rfl, ?_⟩) (by assumption) ?_
            · intro w' hSw'
              go_simp
            simp only [Act.put, List.setIfInBounds_toArray, List.set_cons_zero, List.set_cons_succ]
            refine takeH (i := 17) 113 (v := .slice (some ⟨bh, offh + K0, none⟩) (N - K0) (cH - K0)) rfl rfl (by kernel_rfl) (by kernel_rfl) (by kernel_rfl) (fun _ _ _ h => h) (Or.inl ⟨by rfl, ?_⟩) (by assumption) ?_
            · intro w' hSw'
              go_simp
            simp only [Act.put, List.setIfInBounds_toArray, List.set_cons_zero, List.set_cons_succ]
            refine wpAnyH_ready (rs := [1, 10]) (by kernel_rfl) (by simp) ?_
            refine AllReadyH.cons rfl (fun K hK => ?_) (AllReadyH.cons rfl (fun K hK => ?_) AllReadyH.nil)
            · go_simp
              refine hK.out _ _ (dA.out) (fun hHeld1 => ?_)
              clear hK K
              refine wpAnyH_ready (rs := [8, 10]) (by kernel_rfl) (by simp) ?_
              refine AllReadyH.cons rfl (fun K hK => ?_) (AllReadyH.cons rfl (fun K hK => ?_) AllReadyH.nil)
              · refine step_append_rows rfl (.tmp 97) (.tmp 103) 37 rfl wE.heap.size 3 i3 _ 1 8 Try.underlying37 hi3 hy0 hy1 hy2 rfl (by decide) (.slice (some ⟨wE.heap.size, 0, none⟩) 0 0) (0) ([]) rfl OA.out (some ⟨bh, offh, none⟩) (K0) (cH) (rv numKind (hs.take K0)) rfl (HNILh.out) LENh.out ((NHk.out _ dA.out)) (rv_one numKind_ok _) (by unfold maxLen; omega) (by omega) (dA.out.size) ?_
                intro a1 c1 z1 ho1 hg1
                simp only [Nat.zero_add, List.nil_append] at ho1 ⊢
                have O1 := keep ho1
                have b1x := keep (Below.grown dA.out hg1 dA.out.size (fun j hj => by cases hj; exact Nat.le_refl _))
                obtain ⟨z2, hz2x⟩ : ∃ z2, z1.alloc (.cells #[.int .i64 hgt] 3) = z2 := ⟨_, rfl⟩
                have d2 : Hid (Below z1.heap.size z1 z2) := by rw [← hz2x]; exact (Below.refl _ _).alloc (Nat.le_refl _) _
                have b2x := keep (b1x.out.trans (d2.out.mono b1x.out.size))
                have O2 := keep (own_block O1.out (fun g hg => d2.out.block g (own_size O1.out hg)))
                have C2 : Hid (∀ ad : Addr, (some ⟨z1.heap.size, 0, none⟩ : Option Addr) = some ad → ∀ j u, ([.int .i64 hgt] : List Value)[j]? = some u → z2.cell? (ad.add j) = some u) := fun ad had j u hu => by cases had; rw [← hz2x]; exact rec_cells (k := numKind) z1 3 hgt j u hu
                clear ho1 hg1
                refine hK.out _ _ (b1x.out) (fun hHeld2 => ?_)
                clear hK K
                simp only [List.getElem_toArray, List.getElem_cons_succ, List.getElem_cons_zero, Act.put, List.setIfInBounds_toArray, List.set_cons_zero, List.set_cons_succ]
                refine wpAnyH_ready (rs := [10]) (by kernel_rfl) (by simp) ?_
                refine AllReadyH.cons rfl (fun K hK => ?_) AllReadyH.nil
                go_simp
                refine hK.out _ _ (b2x.out) (fun hHeld3 => ?_)
                clear hK K
                refine wpAnyH_ready (rs := [11]) (by kernel_rfl) (by simp) ?_
                refine AllReadyH.cons rfl (fun K hK => ?_) AllReadyH.nil
                refine step_append_rows rfl (.tmp 104) (.tmp 106) 37 rfl wE.heap.size 3 i3 _ 1 8 Try.underlying37 hi3 hy0 hy1 hy2 rfl (by decide) (.slice a1 K0 c1) (K0) (rv numKind (hs.take K0)) rfl O2.out (some ⟨z1.heap.size, 0, none⟩) (1) (1) ([.int .i64 hgt]) rfl (fun h => by cases h) rfl (C2.out) (fun u hu => by cases hu with | head => rfl | tail _ h => cases h) (by unfold maxLen; omega) (by omega) (b2x.out.size) ?_
                intro a4 c4 z4 ho4 hg4
                have O4 := keep ho4
                have b4x := keep (Below.grown b2x.out hg4 b2x.out.size (fun j hj => (World.ownsRow.lt O2.out j hj).1))
                clear ho4 hg4
                refine hK.out _ _ (b4x.out) (fun hHeld5 => ?_)
                clear hK K
                simp only [List.getElem_toArray, List.getElem_cons_succ, List.getElem_cons_zero, Act.put, List.setIfInBounds_toArray, List.set_cons_zero, List.set_cons_succ]
                refine wpAnyH_ready (rs := [18]) (by kernel_rfl) (by simp) ?_
                refine AllReadyH.cons rfl (fun K hK => ?_) AllReadyH.nil
                refine step_append_rows rfl (.tmp 107) (.tmp 113) 37 rfl wE.heap.size 3 i3 _ 1 8 Try.underlying37 hi3 hy0 hy1 hy2 rfl (by decide) (.slice a4 (K0 + 1) c4) (K0 + 1) (rv numKind (hs.take K0) ++ [.int .i64 hgt]) rfl O4.out (some ⟨bh, offh + K0, none⟩) (N - K0) (cH - K0) (rv numKind (hs.drop K0)) rfl (fun h => by cases h) LENe.out ((NHd.out _ b4x.out)) (rv_one numKind_ok _) (by unfold maxLen; omega) (by omega) (b4x.out.size) ?_
                intro a7 c7 z7 ho7 hg7
                have O7 := keep ho7
                have b7x := keep (b4x.out.grown hg7 b4x.out.size (fun j hj => (O4.out.lt j hj).1))
                clear ho7 hg7
                refine hK.out _ _ (b7x.out) (fun hHeld6 => ?_)
                clear hK K
                simp only [List.getElem_toArray, List.getElem_cons_succ, List.getElem_cons_zero, Act.put, List.setIfInBounds_toArray, List.set_cons_zero, List.set_cons_succ]
                refine takeH (i := 19) 115 (v := .pointer (some ⟨r, 0, none⟩)) rfl rfl (by kernel_rfl) (by kernel_rfl) (by kernel_rfl) (fun _ _ _ h => h) (Or.inl ⟨by rfl, ?_⟩) (by assumption) ?_
                · intro w' hSw'
                  go_simp
                simp only [Act.put, List.setIfInBounds_toArray, List.set_cons_zero, List.set_cons_succ]
                refine takeH (i := 20) 116 (v := .pointer (some ⟨r, 1, none⟩)) rfl rfl (by kernel_rfl) (by kernel_rfl) (by kernel_rfl) (fun _ _ _ h => h) (Or.inl ⟨by rfl, ?_⟩) (by assumption) ?_
                · intro w' hSw'
                  go_simp
                simp only [Act.put, List.setIfInBounds_toArray, List.set_cons_zero, List.set_cons_succ]
                refine wpAnyH_ready (rs := [21]) (by kernel_rfl) (by simp) ?_
                refine AllReadyH.cons rfl (fun K hK => ?_) AllReadyH.nil
                go_simp
                refine hK.out _ _ (b7x.out) (fun hHeld7 => ?_)
                clear hK K
                refine wpAnyH_done (by kernel_rfl) ?_ _
                have m7 : z7.cell? ⟨r, 1, none⟩ = some (.slice (some ⟨bh, offh, none⟩) N cH) := below_cell b7x.out HE.out
                have f7 : z7.frozen? ⟨r, 1, none⟩ = false := by
                  have := (b7x.out.block r HRE.out).trans ROWE.out
                  simp [World.frozen?, this]
                have e3 : K0 + 1 + (N - K0) = N + 1 := by omega
                have P9 : Put9 wE r hs K0 hgt (z7.setCell ⟨r, 1, none⟩ (.slice a7 (N + 1) c7)) := by
                  refine ⟨a7, N + 1, c7, z7, by rw [← HLEN.out], rfl, b7x.out, ?_⟩
                  have h1 := O7.out
                  rw [e3] at h1
                  rw [← rv_num, rv_append, rv]
                  rw [List.append_assoc] at h1
                  exact h1
                rw [e3]
                clear e3
                unfold LastQ
                go_simp
                first | exact P9 | exact ⟨⟨_, _, _, _, _, _, _, _, _, _, _, _, _, _, _, _, _, _, _, _, _, rfl⟩, P9⟩
              · go_simp
                refine hK.out _ _ (dB.out) (fun hHeld3 => ?_)
                clear hK K
                refine wpAnyH_ready (rs := [8]) (by kernel_rfl) (by simp) ?_
                refine AllReadyH.cons rfl (fun K hK => ?_) AllReadyH.nil
                refine step_append_rows rfl (.tmp 97) (.tmp 103) 37 rfl wE.heap.size 3 i3 _ 1 8 Try.underlying37 hi3 hy0 hy1 hy2 rfl (by decide) (.slice (some ⟨wE.heap.size, 0, none⟩) 0 0) (0) ([]) rfl OB.out (some ⟨bh, offh, none⟩) (K0) (cH) (rv numKind (hs.take K0)) rfl (HNILh.out) LENh.out ((NHk.out _ dB.out)) (rv_one numKind_ok _) (by unfold maxLen; omega) (by omega) (dB.out.size) ?_
                intro a1 c1 z1 ho1 hg1
                simp only [Nat.zero_add, List.nil_append] at ho1 ⊢
                have O1 := keep ho1
                have b1x := keep (Below.grown dB.out hg1 dB.out.size (fun j hj => by cases hj; exact Nat.le_refl _))
                have C2 : Hid (∀ ad : Addr, (some ⟨zA.heap.size, 0, none⟩ : Option Addr) = some ad → ∀ j u, ([.int .i64 hgt] : List Value)[j]? = some u → z1.cell? (ad.add j) = some u) := fun ad had j u hu => by
                  cases had
                  have h1 := rec_cells (k := numKind) zA 3 hgt j u hu
                  rw [Addr.add_mid] at h1 ⊢
                  have h2 := congrArg (fun z => z.cell? ⟨zA.heap.size, 0 + j, none⟩) hzB
                  rw [World.cell?_of_block (w := zB) (show z1.heap[zA.heap.size]? = zB.heap[zA.heap.size]? from hg1.block zA.heap.size (by rw [sB.out]; omega) (fun e => by have h9 : zA.heap.size = wE.heap.size := Option.some.inj e; have := sA.out; omega))]
                  exact h2.symm.trans h1
                clear ho1 hg1
                refine hK.out _ _ (b1x.out) (fun hHeld2 => ?_)
                clear hK K
                simp only [List.getElem_toArray, List.getElem_cons_succ, List.getElem_cons_zero, Act.put, List.setIfInBounds_toArray, List.set_cons_zero, List.set_cons_succ]
                refine wpAnyH_ready (rs := [11]) (by kernel_rfl) (by simp) ?_
                refine AllReadyH.cons rfl (fun K hK => ?_) AllReadyH.nil
                refine step_append_rows rfl (.tmp 104) (.tmp 106) 37 rfl wE.heap.size 3 i3 _ 1 8 Try.underlying37 hi3 hy0 hy1 hy2 rfl (by decide) (.slice a1 K0 c1) (K0) (rv numKind (hs.take K0)) rfl O1.out (some ⟨zA.heap.size, 0, none⟩) (1) (1) ([.int .i64 hgt]) rfl (fun h => by cases h) rfl (C2.out) (fun u hu => by cases hu with | head => rfl | tail _ h => cases h) (by unfold maxLen; omega) (by omega) (b1x.out.size) ?_
                intro a4 c4 z4 ho4 hg4
                have O4 := keep ho4
                have b4x := keep (Below.grown b1x.out hg4 b1x.out.size (fun j hj => (World.ownsRow.lt O1.out j hj).1))
                clear ho4 hg4
                refine hK.out _ _ (b4x.out) (fun hHeld5 => ?_)
                clear hK K
                simp only [List.getElem_toArray, List.getElem_cons_succ, List.getElem_cons_zero, Act.put, List.setIfInBounds_toArray, List.set_cons_zero, List.set_cons_succ]
                refine wpAnyH_ready (rs := [18]) (by kernel_rfl) (by simp) ?_
                refine AllReadyH.cons rfl (fun K hK => ?_) AllReadyH.nil
                refine step_append_rows rfl (.tmp 107) (.tmp 113) 37 rfl wE.heap.size 3 i3 _ 1 8 Try.underlying37 hi3 hy0 hy1 hy2 rfl (by decide) (.slice a4 (K0 + 1) c4) (K0 + 1) (rv numKind (hs.take K0) ++ [.int .i64 hgt]) rfl O4.out (some ⟨bh, offh + K0, none⟩) (N - K0) (cH - K0) (rv numKind (hs.drop K0)) rfl (fun h => by cases h) LENe.out ((NHd.out _ b4x.out)) (rv_one numKind_ok _) (by unfold maxLen; omega) (by omega) (b4x.out.size) ?_
                intro a7 c7 z7 ho7 hg7
                have O7 := keep ho7
                have b7x := keep (b4x.out.grown hg7 b4x.out.size (fun j hj => (O4.out.lt j hj).1))
                clear ho7 hg7
                refine hK.out _ _ (b7x.out) (fun hHeld6 => ?_)
                clear hK K
                simp only [List.getElem_toArray, List.getElem_cons_succ, List.getElem_cons_zero, Act.put, List.setIfInBounds_toArray, List.set_cons_zero, List.set_cons_succ]
                refine takeH (i := 19) 115 (v := .pointer (some ⟨r, 0, none⟩)) rfl rfl (by kernel_rfl) (by kernel_rfl) (by kernel_rfl) (fun _ _ _ h => h) (Or.inl ⟨by rfl, ?_⟩) (by assumption) ?_
                · intro w' hSw'
                  go_simp
                simp only [Act.put, List.setIfInBounds_toArray, List.set_cons_zero, List.set_cons_succ]
                refine takeH (i := 20) 116 (v := .pointer (some ⟨r, 1, none⟩)) rfl rfl (by kernel_rfl) (by kernel_rfl) (by kernel_rfl) (fun _ _ _ h => h) (Or.inl ⟨by rfl, ?_⟩) (by assumption) ?_
                · intro w' hSw'
                  go_simp
                simp only [Act.put, List.setIfInBounds_toArray, List.set_cons_zero, List.set_cons_succ]
                refine wpAnyH_ready (rs := [21]) (by kernel_rfl) (by simp) ?_
                refine AllReadyH.cons rfl (fun K hK => ?_) AllReadyH.nil
                go_simp
                refine hK.out _ _ (b7x.out) (fun hHeld7 => ?_)
                clear hK K
                refine wpAnyH_done (by kernel_rfl) ?_ _
                have m7 : z7.cell? ⟨r, 1, none⟩ = some (.slice (some ⟨bh, offh, none⟩) N cH) := below_cell b7x.out HE.out
                have f7 : z7.frozen? ⟨r, 1, none⟩ = false := by
                  have := (b7x.out.block r HRE.out).trans ROWE.out
                  simp [World.frozen?, this]
                have e3 : K0 + 1 + (N - K0) = N + 1 := by omega
                have P9 : Put9 wE r hs K0 hgt (z7.setCell ⟨r, 1, none⟩ (.slice a7 (N + 1) c7)) := by
                  refine ⟨a7, N + 1, c7, z7, by rw [← HLEN.out], rfl, b7x.out, ?_⟩
                  have h1 := O7.out
                  rw [e3] at h1
                  rw [← rv_num, rv_append, rv]
                  rw [List.append_assoc] at h1
                  exact h1
                rw [e3]
                clear e3
                unfold LastQ
                go_simp
                first | exact P9 | exact ⟨⟨_, _, _, _, _, _, _, _, _, _, _, _, _, _, _, _, _, _, _, _, _, rfl⟩, P9⟩
            · go_simp
              refine hK.out _ _ (dC.out) (fun hHeld1 => ?_)
              clear hK K
              refine wpAnyH_ready (rs := [1]) (by kernel_rfl) (by simp) ?_
              refine AllReadyH.cons rfl (fun K hK => ?_) AllReadyH.nil
              go_simp
              refine hK.out _ _ (dD.out) (fun hHeld3 => ?_)
              clear hK K
              refine wpAnyH_ready (rs := [8]) (by kernel_rfl) (by simp) ?_
              refine AllReadyH.cons rfl (fun K hK => ?_) AllReadyH.nil
              refine step_append_rows rfl (.tmp 97) (.tmp 103) 37 rfl wE.heap.size 3 i3 _ 1 8 Try.underlying37 hi3 hy0 hy1 hy2 rfl (by decide) (.slice (some ⟨zC.heap.size, 0, none⟩) 0 0) (0) ([]) rfl OD9.out (some ⟨bh, offh, none⟩) (K0) (cH) (rv numKind (hs.take K0)) rfl (HNILh.out) LENh.out ((NHk.out _ dD.out)) (rv_one numKind_ok _) (by unfold maxLen; omega) (by omega) (dD.out.size) ?_
              intro a1 c1 z1 ho1 hg1
              simp only [Nat.zero_add, List.nil_append] at ho1 ⊢
              have O1 := keep ho1
              have b1x := keep (Below.grown dD.out hg1 dD.out.size (fun j hj => by cases hj; exact dCs.out))
              have C2 : Hid (∀ ad : Addr, (some ⟨wE.heap.size, 0, none⟩ : Option Addr) = some ad → ∀ j u, ([.int .i64 hgt] : List Value)[j]? = some u → z1.cell? (ad.add j) = some u) := fun ad had j u hu => by
                cases had
                have h1 := rec_cells (k := numKind) wE.drew 3 hgt j u hu
                have h1 : (wE.drew.alloc (.cells #[.int .i64 hgt] 3)).cell? ((⟨wE.heap.size, 0, none⟩ : Addr).add j) = some u := h1
                rw [hzC, Addr.add_mid] at h1
                rw [Addr.add_mid]
                have h3 : zD.cell? ⟨wE.heap.size, 0 + j, none⟩ = some u := by rw [← hzD]; exact below_cell ((Below.refl _ _).alloc (Nat.le_refl _) _) h1
                rw [World.cell?_of_block (w := zD) (show z1.heap[wE.heap.size]? = zD.heap[wE.heap.size]? from hg1.block wE.heap.size (by have := sC.out; have := dDC.out.size; omega) (fun e => by have h9 : wE.heap.size = zC.heap.size := Option.some.inj e; have := sC.out; omega))]
                exact h3
              clear ho1 hg1
              refine hK.out _ _ (b1x.out) (fun hHeld2 => ?_)
              clear hK K
              simp only [List.getElem_toArray, List.getElem_cons_succ, List.getElem_cons_zero, Act.put, List.setIfInBounds_toArray, List.set_cons_zero, List.set_cons_succ]
              refine wpAnyH_ready (rs := [11]) (by kernel_rfl) (by simp) ?_
              refine AllReadyH.cons rfl (fun K hK => ?_) AllReadyH.nil
              refine step_append_rows rfl (.tmp 104) (.tmp 106) 37 rfl wE.heap.size 3 i3 _ 1 8 Try.underlying37 hi3 hy0 hy1 hy2 rfl (by decide) (.slice a1 K0 c1) (K0) (rv numKind (hs.take K0)) rfl O1.out (some ⟨wE.heap.size, 0, none⟩) (1) (1) ([.int .i64 hgt]) rfl (fun h => by cases h) rfl (C2.out) (fun u hu => by cases hu with | head => rfl | tail _ h => cases h) (by unfold maxLen; omega) (by omega) (b1x.out.size) ?_
              intro a4 c4 z4 ho4 hg4
              have O4 := keep ho4
              have b4x := keep (Below.grown b1x.out hg4 b1x.out.size (fun j hj => (World.ownsRow.lt O1.out j hj).1))
              clear ho4 hg4
              refine hK.out _ _ (b4x.out) (fun hHeld5 => ?_)
              clear hK K
              simp only [List.getElem_toArray, List.getElem_cons_succ, List.getElem_cons_zero, Act.put, List.setIfInBounds_toArray, List.set_cons_zero, List.set_cons_succ]
              refine wpAnyH_ready (rs := [18]) (by kernel_rfl) (by simp) ?_
              refine AllReadyH.cons rfl (fun K hK => ?_) AllReadyH.nil
              refine step_append_rows rfl (.tmp 107) (.tmp 113) 37 rfl wE.heap.size 3 i3 _ 1 8 Try.underlying37 hi3 hy0 hy1 hy2 rfl (by decide) (.slice a4 (K0 + 1) c4) (K0 + 1) (rv numKind (hs.take K0) ++ [.int .i64 hgt]) rfl O4.out (some ⟨bh, offh + K0, none⟩) (N - K0) (cH - K0) (rv numKind (hs.drop K0)) rfl (fun h => by cases h) LENe.out ((NHd.out _ b4x.out)) (rv_one numKind_ok _) (by unfold maxLen; omega) (by omega) (b4x.out.size) ?_
              intro a7 c7 z7 ho7 hg7
              have O7 := keep ho7
              have b7x := keep (b4x.out.grown hg7 b4x.out.size (fun j hj => (O4.out.lt j hj).1))
              clear ho7 hg7
              refine hK.out _ _ (b7x.out) (fun hHeld6 => ?_)
              clear hK K
              simp only [List.getElem_toArray, List.getElem_cons_succ, List.getElem_cons_zero, Act.put, List.setIfInBounds_toArray, List.set_cons_zero, List.set_cons_succ]
              refine takeH (i := 19) 115 (v := .pointer (some ⟨r, 0, none⟩)) rfl rfl (by kernel_rfl) (by kernel_rfl) (by kernel_rfl) (fun _ _ _ h => h) (Or.inl ⟨by rfl, ?_⟩) (by assumption) ?_
              · intro w' hSw'
                go_simp
              simp only [Act.put, List.setIfInBounds_toArray, List.set_cons_zero, List.set_cons_succ]
              refine takeH (i := 20) 116 (v := .pointer (some ⟨r, 1, none⟩)) rfl rfl (by kernel_rfl) (by kernel_rfl) (by kernel_rfl) (fun _ _ _ h => h) (Or.inl ⟨by rfl, ?_⟩) (by assumption) ?_
              · intro w' hSw'
                go_simp
              simp only [Act.put, List.setIfInBounds_toArray, List.set_cons_zero, List.set_cons_succ]
              refine wpAnyH_ready (rs := [21]) (by kernel_rfl) (by simp) ?_
              refine AllReadyH.cons rfl (fun K hK => ?_) AllReadyH.nil
              go_simp
              refine hK.out _ _ (b7x.out) (fun hHeld7 => ?_)
              clear hK K
              refine wpAnyH_done (by kernel_rfl) ?_ _
              have m7 : z7.cell? ⟨r, 1, none⟩ = some (.slice (some ⟨bh, offh, none⟩) N cH) := below_cell b7x.out HE.out
              have f7 : z7.frozen? ⟨r, 1, none⟩ = false := by
                have := (b7x.out.block r HRE.out).trans ROWE.out
                simp [World.frozen?, this]
              have e3 : K0 + 1 + (N - K0) = N + 1 := by omega
              have P9 : Put9 wE r hs K0 hgt (z7.setCell ⟨r, 1, none⟩ (.slice a7 (N + 1) c7)) := by
                refine ⟨a7, N + 1, c7, z7, by rw [← HLEN.out], rfl, b7x.out, ?_⟩
                have h1 := O7.out
                rw [e3] at h1
                rw [← rv_num, rv_append, rv]
                rw [List.append_assoc] at h1
                exact h1
              rw [e3]
              clear e3
              unfold LastQ
              go_simp
              first | exact P9 | exact ⟨⟨_, _, _, _, _, _, _, _, _, _, _, _, _, _, _, _, _, _, _, _, _, rfl⟩, P9⟩
          · obtain rfl : K0 = N := by omega
            obtain rfl : K0 = cH := by omega
            have HNILh : Hid (aoH = none → K0 = 0 ∧ K0 = 0) := fun h => (HR.out wE (Below.refl _ _)).nil h
            have LENh : Hid ((rv numKind (hs.take K0)).length = K0 * 1) := by
              show _ = _
              rw [rv_length numKind_ok, List.length_take, HLH.out, Nat.min_eq_left (by omega)]
              rfl
            have LENe : Hid ((rv numKind (hs.drop K0)).length = 0 * 1) := by
              show _ = _
              rw [rv_length numKind_ok, List.length_drop, HLH.out]
              first | rfl | (rw [Nat.sub_self]; rfl)
            have NHk : Hid (∀ W', Below wE.heap.size wE W' → ∀ ad, (aoH : Option Addr) = some ad → ∀ j u, (rv numKind (hs.take K0))[j]? = some u → W'.cell? (ad.add j) = some u) := fun W' hb ad had j u hj => by
              refine ((HR.out W' hb).cells _ had j u ?_)
              rw [← List.take_append_drop K0 hs, rv_append, List.getElem?_append_left (List.getElem?_eq_some_iff.1 hj).1]
              exact hj
            have NHd : Hid (∀ W', Below wE.heap.size wE W' → ∀ ad, aoH = some ad → ∀ j u, (rv numKind (hs.drop K0))[j]? = some u → W'.cell? (ad.add j) = some u) := fun W' hb ad had j u hj => by
              rw [List.drop_eq_nil_of_le (by rw [HLH.out]; exact Nat.le_refl _)] at hj
              simp [rv] at hj
            refine wp_region_parted (fun w' => Below wE.heap.size wE w') 21 _ (by kernel_rfl) rfl rfl rfl (by kernel_rfl) (by kernel_rfl) ((Below.refl _ _).drew) (fun hHeld => ?_)
            simp only [List.setIfInBounds_toArray, List.set_cons_succ, List.set_cons_zero, mute]
            refine takeH (i := 0) 96 (v := .pointer (some ⟨r, 0, none⟩)) rfl rfl (by kernel_rfl) (by kernel_rfl) (by kernel_rfl) (fun _ _ _ h => h) (Or.inl ⟨by rfl, ?_⟩) (by assumption) ?_
            · intro w' hSw'
              go_simp
            simp only [Act.put, List.setIfInBounds_toArray, List.set_cons_zero, List.set_cons_succ]
            refine takeH (i := 2) 98 (v := .pointer (some ⟨r, 0, none⟩)) rfl rfl (by kernel_rfl) (by kernel_rfl) (by kernel_rfl) (fun _ _ _ h => h) (Or.inl ⟨by rfl, ?_⟩) (by assumption) ?_
            · intro w' hSw'
              go_simp
            simp only [Act.put, List.setIfInBounds_toArray, List.set_cons_zero, List.set_cons_succ]
            refine takeH (i := 3) 99 (v := .pointer (some ⟨r, 0, none⟩)) rfl rfl (by kernel_rfl) (by kernel_rfl) (by kernel_rfl) (fun _ _ _ h => h) (Or.inl ⟨by rfl, ?_⟩) (by assumption) ?_
            · intro w' hSw'
              go_simp
            simp only [Act.put, List.setIfInBounds_toArray, List.set_cons_zero, List.set_cons_succ]
            refine takeH (i := 4) 100 (v := .pointer (some ⟨r, 1, none⟩)) rfl rfl (by kernel_rfl) (by kernel_rfl) (by kernel_rfl) (fun _ _ _ h => h) (Or.inl ⟨by rfl, ?_⟩) (by assumption) ?_
            · intro w' hSw'
              go_simp
            simp only [Act.put, List.setIfInBounds_toArray, List.set_cons_zero, List.set_cons_succ]
            refine takeH (i := 5) 101 (v := .slice (aoH) K0 K0) rfl rfl (by kernel_rfl) (by kernel_rfl) (by kernel_rfl) (fun _ _ _ h => h) (Or.inl ⟨by rfl, ?_⟩) (by assumption) ?_
            · intro w' hSw'
              have l1 := below_cell hSw' HE.out
              go_simp
            simp only [Act.put, List.setIfInBounds_toArray, List.set_cons_zero, List.set_cons_succ]
            refine takeH (i := 6) 102 (v := .int .i64 (K0 : Int)) rfl rfl (by kernel_rfl) (by kernel_rfl) (by kernel_rfl) (fun _ _ _ h => h) (Or.inl ⟨by rfl, ?_⟩) (by assumption) ?_
            · intro w' hSw'
              go_simp
            simp only [Act.put, List.setIfInBounds_toArray, List.set_cons_zero, List.set_cons_succ]
            refine takeH (i := 7) 103 (v := .slice (aoH) K0 K0) rfl rfl (by kernel_rfl) (by kernel_rfl) (by kernel_rfl) (fun _ _ _ h => h) (Or.inl ⟨by rfl, ?_⟩) (by assumption) ?_
            · intro w' hSw'
              go_simp
            simp only [Act.put, List.setIfInBounds_toArray, List.set_cons_zero, List.set_cons_succ]
            refine takeH (i := 9) 105 (v := .int .i64 hgt) rfl rfl (by kernel_rfl) (by kernel_rfl) (by kernel_rfl) (fun _ _ _ h => h) (Or.inl ⟨by rfl, ?_⟩) (by assumption) ?_
            · intro w' hSw'
              go_simp
            simp only [Act.put, List.setIfInBounds_toArray, List.set_cons_zero, List.set_cons_succ]
            refine takeH (i := 12) 108 (v := .pointer (some ⟨r, 0, none⟩)) rfl rfl (by kernel_rfl) (by kernel_rfl) (by kernel_rfl) (fun _ _ _ h => h) (Or.inl ⟨by rfl, ?_⟩) (by assumption) ?_
            · intro w' hSw'
              go_simp
            simp only [Act.put, List.setIfInBounds_toArray, List.set_cons_zero, List.set_cons_succ]
            refine takeH (i := 13) 109 (v := .pointer (some ⟨r, 0, none⟩)) rfl rfl (by kernel_rfl) (by kernel_rfl) (by kernel_rfl) (fun _ _ _ h => h) (Or.inl ⟨by rfl, ?_⟩) (by assumption) ?_
            · intro w' hSw'
              go_simp
            simp only [Act.put, List.setIfInBounds_toArray, List.set_cons_zero, List.set_cons_succ]
            refine takeH (i := 14) 110 (v := .pointer (some ⟨r, 1, none⟩)) rfl rfl (by kernel_rfl) (by kernel_rfl) (by kernel_rfl) (fun _ _ _ h => h) (Or.inl ⟨by rfl, ?_⟩) (by assumption) ?_
            · intro w' hSw'
              go_simp
            simp only [Act.put, List.setIfInBounds_toArray, List.set_cons_zero, List.set_cons_succ]
            refine takeH (i := 15) 111 (v := .slice (aoH) K0 K0) rfl rfl (by kernel_rfl) (by kernel_rfl) (by kernel_rfl) (fun _ _ _ h => h) (Or.inl ⟨by rfl, ?_⟩) (by assumption) ?_
            · intro w' hSw'
              have l1 := below_cell hSw' HE.out
              go_simp
            simp only [Act.put, List.setIfInBounds_toArray, List.set_cons_zero, List.set_cons_succ]
            refine takeH (i := 16) 112 (v := .int .i64 (K0 : Int)) rfl rfl (by kernel_rfl) (by kernel_rfl) (by kernel_rfl) (fun _ _ _ h => h) (Or.inl ⟨by rfl, ?_⟩) (by assumption) ?_
            · intro w' hSw'
              go_simp
            simp only [Act.put, List.setIfInBounds_toArray, List.set_cons_zero, List.set_cons_succ]
            refine takeH (i := 17) 113 (v := .slice aoH 0 0) rfl rfl (by kernel_rfl) (by kernel_rfl) (by kernel_rfl) (fun _ _ _ h => h) (Or.inl ⟨by rfl, ?_⟩) (by assumption) ?_
            · intro w' hSw'
              go_simp
            simp only [Act.put, List.setIfInBounds_toArray, List.set_cons_zero, List.set_cons_succ]
            refine wpAnyH_ready (rs := [1, 10]) (by kernel_rfl) (by simp) ?_
            refine AllReadyH.cons rfl (fun K hK => ?_) (AllReadyH.cons rfl (fun K hK => ?_) AllReadyH.nil)
            · go_simp
              refine hK.out _ _ (dA.out) (fun hHeld1 => ?_)
              clear hK K
              refine wpAnyH_ready (rs := [8, 10]) (by kernel_rfl) (by simp) ?_
              refine AllReadyH.cons rfl (fun K hK => ?_) (AllReadyH.cons rfl (fun K hK => ?_) AllReadyH.nil)
              · refine step_append_rows rfl (.tmp 97) (.tmp 103) 37 rfl wE.heap.size 3 i3 _ 1 8 Try.underlying37 hi3 hy0 hy1 hy2 rfl (by decide) (.slice (some ⟨wE.heap.size, 0, none⟩) 0 0) (0) ([]) rfl OA.out (aoH) (K0) (K0) (rv numKind (hs.take K0)) rfl (HNILh.out) LENh.out ((NHk.out _ dA.out)) (rv_one numKind_ok _) (by unfold maxLen; omega) (by omega) (dA.out.size) ?_
                intro a1 c1 z1 ho1 hg1
                simp only [Nat.zero_add, List.nil_append] at ho1 ⊢
                have O1 := keep ho1
                have b1x := keep (Below.grown dA.out hg1 dA.out.size (fun j hj => by cases hj; exact Nat.le_refl _))
                obtain ⟨z2, hz2x⟩ : ∃ z2, z1.alloc (.cells #[.int .i64 hgt] 3) = z2 := ⟨_, rfl⟩
                have d2 : Hid (Below z1.heap.size z1 z2) := by rw [← hz2x]; exact (Below.refl _ _).alloc (Nat.le_refl _) _
                have b2x := keep (b1x.out.trans (d2.out.mono b1x.out.size))
                have O2 := keep (own_block O1.out (fun g hg => d2.out.block g (own_size O1.out hg)))
                have C2 : Hid (∀ ad : Addr, (some ⟨z1.heap.size, 0, none⟩ : Option Addr) = some ad → ∀ j u, ([.int .i64 hgt] : List Value)[j]? = some u → z2.cell? (ad.add j) = some u) := fun ad had j u hu => by cases had; rw [← hz2x]; exact rec_cells (k := numKind) z1 3 hgt j u hu
                clear ho1 hg1
                refine hK.out _ _ (b1x.out) (fun hHeld2 => ?_)
                clear hK K
                simp only [List.getElem_toArray, List.getElem_cons_succ, List.getElem_cons_zero, Act.put, List.setIfInBounds_toArray, List.set_cons_zero, List.set_cons_succ]
                refine wpAnyH_ready (rs := [10]) (by kernel_rfl) (by simp) ?_
                refine AllReadyH.cons rfl (fun K hK => ?_) AllReadyH.nil
                go_simp
                refine hK.out _ _ (b2x.out) (fun hHeld3 => ?_)
                clear hK K
                refine wpAnyH_ready (rs := [11]) (by kernel_rfl) (by simp) ?_
                refine AllReadyH.cons rfl (fun K hK => ?_) AllReadyH.nil
                refine step_append_rows rfl (.tmp 104) (.tmp 106) 37 rfl wE.heap.size 3 i3 _ 1 8 Try.underlying37 hi3 hy0 hy1 hy2 rfl (by decide) (.slice a1 K0 c1) (K0) (rv numKind (hs.take K0)) rfl O2.out (some ⟨z1.heap.size, 0, none⟩) (1) (1) ([.int .i64 hgt]) rfl (fun h => by cases h) rfl (C2.out) (fun u hu => by cases hu with | head => rfl | tail _ h => cases h) (by unfold maxLen; omega) (by omega) (b2x.out.size) ?_
                intro a4 c4 z4 ho4 hg4
                have O4 := keep ho4
                have b4x := keep (Below.grown b2x.out hg4 b2x.out.size (fun j hj => (World.ownsRow.lt O2.out j hj).1))
                clear ho4 hg4
                refine hK.out _ _ (b4x.out) (fun hHeld5 => ?_)
                clear hK K
                simp only [List.getElem_toArray, List.getElem_cons_succ, List.getElem_cons_zero, Act.put, List.setIfInBounds_toArray, List.set_cons_zero, List.set_cons_succ]
                refine wpAnyH_ready (rs := [18]) (by kernel_rfl) (by simp) ?_
                refine AllReadyH.cons rfl (fun K hK => ?_) AllReadyH.nil
                refine step_append_rows rfl (.tmp 107) (.tmp 113) 37 rfl wE.heap.size 3 i3 _ 1 8 Try.underlying37 hi3 hy0 hy1 hy2 rfl (by decide) (.slice a4 (K0 + 1) c4) (K0 + 1) (rv numKind (hs.take K0) ++ [.int .i64 hgt]) rfl O4.out (aoH) (0) (0) (rv numKind (hs.drop K0)) rfl (fun _ => ⟨rfl, rfl⟩) LENe.out ((NHd.out _ b4x.out)) (rv_one numKind_ok _) (by unfold maxLen; omega) (by omega) (b4x.out.size) ?_
                intro a7 c7 z7 ho7 hg7
                have O7 := keep ho7
                have b7x := keep (b4x.out.grown hg7 b4x.out.size (fun j hj => (O4.out.lt j hj).1))
                clear ho7 hg7
                refine hK.out _ _ (b7x.out) (fun hHeld6 => ?_)
                clear hK K
                simp only [List.getElem_toArray, List.getElem_cons_succ, List.getElem_cons_zero, Act.put, List.setIfInBounds_toArray, List.set_cons_zero, List.set_cons_succ]
                refine takeH (i := 19) 115 (v := .pointer (some ⟨r, 0, none⟩)) rfl rfl (by kernel_rfl) (by kernel_rfl) (by kernel_rfl) (fun _ _ _ h => h) (Or.inl ⟨by rfl, ?_⟩) (by assumption) ?_
                · intro w' hSw'
                  go_simp
                simp only [Act.put, List.setIfInBounds_toArray, List.set_cons_zero, List.set_cons_succ]
                refine takeH (i := 20) 116 (v := .pointer (some ⟨r, 1, none⟩)) rfl rfl (by kernel_rfl) (by kernel_rfl) (by kernel_rfl) (fun _ _ _ h => h) (Or.inl ⟨by rfl, ?_⟩) (by assumption) ?_
                · intro w' hSw'
                  go_simp
                simp only [Act.put, List.setIfInBounds_toArray, List.set_cons_zero, List.set_cons_succ]
                refine wpAnyH_ready (rs := [21]) (by kernel_rfl) (by simp) ?_
                refine AllReadyH.cons rfl (fun K hK => ?_) AllReadyH.nil
                go_simp
                refine hK.out _ _ (b7x.out) (fun hHeld7 => ?_)
                clear hK K
                refine wpAnyH_done (by kernel_rfl) ?_ _
                have m7 : z7.cell? ⟨r, 1, none⟩ = some (.slice (aoH) K0 K0) := below_cell b7x.out HE.out
                have f7 : z7.frozen? ⟨r, 1, none⟩ = false := by
                  have := (b7x.out.block r HRE.out).trans ROWE.out
                  simp [World.frozen?, this]
                have e3 : K0 + 1 + 0 = K0 + 1 := by omega
                have P9 : Put9 wE r hs K0 hgt (z7.setCell ⟨r, 1, none⟩ (.slice a7 (K0 + 1) c7)) := by
                  refine ⟨a7, K0 + 1, c7, z7, by rw [← HLEN.out], rfl, b7x.out, ?_⟩
                  have h1 := O7.out
                  rw [e3] at h1
                  rw [← rv_num, rv_append, rv]
                  rw [List.append_assoc] at h1
                  exact h1
                rw [e3]
                clear e3
                unfold LastQ
                go_simp
                first | exact P9 | exact ⟨⟨_, _, _, _, _, _, _, _, _, _, _, _, _, _, _, _, _, _, _, _, _, rfl⟩, P9⟩
              · go_simp
                refine hK.out _ _ (dB.out) (fun hHeld3 => ?_)
                clear hK K
                refine wpAnyH_ready (rs := [8]) (by kernel_rfl) (by simp) ?_
                refine AllReadyH.cons rfl (fun K hK => ?_) AllReadyH.nil
                refine step_append_rows rfl (.tmp 97) (.tmp 103) 37 rfl wE.heap.size 3 i3 _ 1 8 Try.underlying37 hi3 hy0 hy1 hy2 rfl (by decide) (.slice (some ⟨wE.heap.size, 0, none⟩) 0 0) (0) ([]) rfl OB.out (aoH) (K0) (K0) (rv numKind (hs.take K0)) rfl (HNILh.out) LENh.out ((NHk.out _ dB.out)) (rv_one numKind_ok _) (by unfold maxLen; omega) (by omega) (dB.out.size) ?_
                intro a1 c1 z1 ho1 hg1
                simp only [Nat.zero_add, List.nil_append] at ho1 ⊢
                have O1 := keep ho1
                have b1x := keep (Below.grown dB.out hg1 dB.out.size (fun j hj => by cases hj; exact Nat.le_refl _))
                have C2 : Hid (∀ ad : Addr, (some ⟨zA.heap.size, 0, none⟩ : Option Addr) = some ad → ∀ j u, ([.int .i64 hgt] : List Value)[j]? = some u → z1.cell? (ad.add j) = some u) := fun ad had j u hu => by
                  cases had
                  have h1 := rec_cells (k := numKind) zA 3 hgt j u hu
                  rw [Addr.add_mid] at h1 ⊢
                  have h2 := congrArg (fun z => z.cell? ⟨zA.heap.size, 0 + j, none⟩) hzB
                  rw [World.cell?_of_block (w := zB) (show z1.heap[zA.heap.size]? = zB.heap[zA.heap.size]? from hg1.block zA.heap.size (by rw [sB.out]; omega) (fun e => by have h9 : zA.heap.size = wE.heap.size := Option.some.inj e; have := sA.out; omega))]
                  exact h2.symm.trans h1
                clear ho1 hg1
                refine hK.out _ _ (b1x.out) (fun hHeld2 => ?_)
                clear hK K
                simp only [List.getElem_toArray, List.getElem_cons_succ, List.getElem_cons_zero, Act.put, List.setIfInBounds_toArray, List.set_cons_zero, List.set_cons_succ]
                refine wpAnyH_ready (rs := [11]) (by kernel_rfl) (by simp) ?_
                refine AllReadyH.cons rfl (fun K hK => ?_) AllReadyH.nil
                refine step_append_rows rfl (.tmp 104) (.tmp 106) 37 rfl wE.heap.size 3 i3 _ 1 8 Try.underlying37 hi3 hy0 hy1 hy2 rfl (by decide) (.slice a1 K0 c1) (K0) (rv numKind (hs.take K0)) rfl O1.out (some ⟨zA.heap.size, 0, none⟩) (1) (1) ([.int .i64 hgt]) rfl (fun h => by cases h) rfl (C2.out) (fun u hu => by cases hu with | head => rfl | tail _ h => cases h) (by unfold maxLen; omega) (by omega) (b1x.out.size) ?_
                intro a4 c4 z4 ho4 hg4
                have O4 := keep ho4
                have b4x := keep (Below.grown b1x.out hg4 b1x.out.size (fun j hj => (World.ownsRow.lt O1.out j hj).1))
                clear ho4 hg4
                refine hK.out _ _ (b4x.out) (fun hHeld5 => ?_)
                clear hK K
                simp only [List.getElem_toArray, List.getElem_cons_succ, List.getElem_cons_zero, Act.put, List.setIfInBounds_toArray, List.set_cons_zero, List.set_cons_succ]
                refine wpAnyH_ready (rs := [18]) (by kernel_rfl) (by simp) ?_
                refine AllReadyH.cons rfl (fun K hK => ?_) AllReadyH.nil
                refine step_append_rows rfl (.tmp 107) (.tmp 113) 37 rfl wE.heap.size 3 i3 _ 1 8 Try.underlying37 hi3 hy0 hy1 hy2 rfl (by decide) (.slice a4 (K0 + 1) c4) (K0 + 1) (rv numKind (hs.take K0) ++ [.int .i64 hgt]) rfl O4.out (aoH) (0) (0) (rv numKind (hs.drop K0)) rfl (fun _ => ⟨rfl, rfl⟩) LENe.out ((NHd.out _ b4x.out)) (rv_one numKind_ok _) (by unfold maxLen; omega) (by omega) (b4x.out.size) ?_
                intro a7 c7 z7 ho7 hg7
                have O7 := keep ho7
                have b7x := keep (b4x.out.grown hg7 b4x.out.size (fun j hj => (O4.out.lt j hj).1))
                clear ho7 hg7
                refine hK.out _ _ (b7x.out) (fun hHeld6 => ?_)
                clear hK K
                simp only [List.getElem_toArray, List.getElem_cons_succ, List.getElem_cons_zero, Act.put, List.setIfInBounds_toArray, List.set_cons_zero, List.set_cons_succ]
                refine takeH (i := 19) 115 (v := .pointer (some ⟨r, 0, none⟩)) rfl rfl (by kernel_rfl) (by kernel_rfl) (by kernel_rfl) (fun _ _ _ h => h) (Or.inl ⟨by rfl, ?_⟩) (by assumption) ?_
                · intro w' hSw'
                  go_simp
                simp only [Act.put, List.setIfInBounds_toArray, List.set_cons_zero, List.set_cons_succ]
                refine takeH (i := 20) 116 (v := .pointer (some ⟨r, 1, none⟩)) rfl rfl (by kernel_rfl) (by kernel_rfl) (by kernel_rfl) (fun _ _ _ h => h) (Or.inl ⟨by rfl, ?_⟩) (by assumption) ?_
                · intro w' hSw'
                  go_simp
                simp only [Act.put, List.setIfInBounds_toArray, List.set_cons_zero, List.set_cons_succ]
                refine wpAnyH_ready (rs := [21]) (by kernel_rfl) (by simp) ?_
                refine AllReadyH.cons rfl (fun K hK => ?_) AllReadyH.nil
                go_simp
                refine hK.out _ _ (b7x.out) (fun hHeld7 => ?_)
                clear hK K
                refine wpAnyH_done (by kernel_rfl) ?_ _
                have m7 : z7.cell? ⟨r, 1, none⟩ = some (.slice (aoH) K0 K0) := below_cell b7x.out HE.out
                have f7 : z7.frozen? ⟨r, 1, none⟩ = false := by
                  have := (b7x.out.block r HRE.out).trans ROWE.out
                  simp [World.frozen?, this]
                have e3 : K0 + 1 + 0 = K0 + 1 := by omega
                have P9 : Put9 wE r hs K0 hgt (z7.setCell ⟨r, 1, none⟩ (.slice a7 (K0 + 1) c7)) := by
                  refine ⟨a7, K0 + 1, c7, z7, by rw [← HLEN.out], rfl, b7x.out, ?_⟩
                  have h1 := O7.out
                  rw [e3] at h1
                  rw [← rv_num, rv_append, rv]
                  rw [List.append_assoc] at h1
                  exact h1
                rw [e3]
                clear e3
                unfold LastQ
                go_simp
                first | exact P9 | exact ⟨⟨_, _, _, _, _, _, _, _, _, _, _, _, _, _, _, _, _, _, _, _, _, rfl⟩, P9⟩
            · go_simp
              refine hK.out _ _ (dC.out) (fun hHeld1 => ?_)
              clear hK K
              refine wpAnyH_ready (rs := [1]) (by kernel_rfl) (by simp) ?_
              refine AllReadyH.cons rfl (fun K hK => ?_) AllReadyH.nil
              go_simp
              refine hK.out _ _ (dD.out) (fun hHeld3 => ?_)
              clear hK K
              refine wpAnyH_ready (rs := [8]) (by kernel_rfl) (by simp) ?_
              refine AllReadyH.cons rfl (fun K hK => ?_) AllReadyH.nil
              refine step_append_rows rfl (.tmp 97) (.tmp 103) 37 rfl wE.heap.size 3 i3 _ 1 8 Try.underlying37 hi3 hy0 hy1 hy2 rfl (by decide) (.slice (some ⟨zC.heap.size, 0, none⟩) 0 0) (0) ([]) rfl OD9.out (aoH) (K0) (K0) (rv numKind (hs.take K0)) rfl (HNILh.out) LENh.out ((NHk.out _ dD.out)) (rv_one numKind_ok _) (by unfold maxLen; omega) (by omega) (dD.out.size) ?_
              intro a1 c1 z1 ho1 hg1
              simp only [Nat.zero_add, List.nil_append] at ho1 ⊢
              have O1 := keep ho1
              have b1x := keep (Below.grown dD.out hg1 dD.out.size (fun j hj => by cases hj; exact dCs.out))
              have C2 : Hid (∀ ad : Addr, (some ⟨wE.heap.size, 0, none⟩ : Option Addr) = some ad → ∀ j u, ([.int .i64 hgt] : List Value)[j]? = some u → z1.cell? (ad.add j) = some u) := fun ad had j u hu => by
                cases had
                have h1 := rec_cells (k := numKind) wE.drew 3 hgt j u hu
                have h1 : (wE.drew.alloc (.cells #[.int .i64 hgt] 3)).cell? ((⟨wE.heap.size, 0, none⟩ : Addr).add j) = some u := h1
                rw [hzC, Addr.add_mid] at h1
                rw [Addr.add_mid]
                have h3 : zD.cell? ⟨wE.heap.size, 0 + j, none⟩ = some u := by rw [← hzD]; exact below_cell ((Below.refl _ _).alloc (Nat.le_refl _) _) h1
                rw [World.cell?_of_block (w := zD) (show z1.heap[wE.heap.size]? = zD.heap[wE.heap.size]? from hg1.block wE.heap.size (by have := sC.out; have := dDC.out.size; omega) (fun e => by have h9 : wE.heap.size = zC.heap.size := Option.some.inj e; have := sC.out; omega))]
                exact h3
              clear ho1 hg1
              refine hK.out _ _ (b1x.out) (fun hHeld2 => ?_)
              clear hK K
              simp only [List.getElem_toArray, List.getElem_cons_succ, List.getElem_cons_zero, Act.put, List.setIfInBounds_toArray, List.set_cons_zero, List.set_cons_succ]
              refine wpAnyH_ready (rs := [11]) (by kernel_rfl) (by simp) ?_
              refine AllReadyH.cons rfl (fun K hK => ?_) AllReadyH.nil
              refine step_append_rows rfl (.tmp 104) (.tmp 106) 37 rfl wE.heap.size 3 i3 _ 1 8 Try.underlying37 hi3 hy0 hy1 hy2 rfl (by decide) (.slice a1 K0 c1) (K0) (rv numKind (hs.take K0)) rfl O1.out (some ⟨wE.heap.size, 0, none⟩) (1) (1) ([.int .i64 hgt]) rfl (fun h => by cases h) rfl (C2.out) (fun u hu => by cases hu with | head => rfl | tail _ h => cases h) (by unfold maxLen; omega) (by omega) (b1x.out.size) ?_
              intro a4 c4 z4 ho4 hg4
              have O4 := keep ho4
              have b4x := keep (Below.grown b1x.out hg4 b1x.out.size (fun j hj => (World.ownsRow.lt O1.out j hj).1))
              clear ho4 hg4
              refine hK.out _ _ (b4x.out) (fun hHeld5 => ?_)
              clear hK K
              simp only [List.getElem_toArray, List.getElem_cons_succ, List.getElem_cons_zero, Act.put, List.setIfInBounds_toArray, List.set_cons_zero, List.set_cons_succ]
              refine wpAnyH_ready (rs := [18]) (by kernel_rfl) (by simp) ?_
              refine AllReadyH.cons rfl (fun K hK => ?_) AllReadyH.nil
              refine step_append_rows rfl (.tmp 107) (.tmp 113) 37 rfl wE.heap.size 3 i3 _ 1 8 Try.underlying37 hi3 hy0 hy1 hy2 rfl (by decide) (.slice a4 (K0 + 1) c4) (K0 + 1) (rv numKind (hs.take K0) ++ [.int .i64 hgt]) rfl O4.out (aoH) (0) (0) (rv numKind (hs.drop K0)) rfl (fun _ => ⟨rfl, rfl⟩) LENe.out ((NHd.out _ b4x.out)) (rv_one numKind_ok _) (by unfold maxLen; omega) (by omega) (b4x.out.size) ?_
              intro a7 c7 z7 ho7 hg7
              have O7 := keep ho7
              have b7x := keep (b4x.out.grown hg7 b4x.out.size (fun j hj => (O4.out.lt j hj).1))
              clear ho7 hg7
              refine hK.out _ _ (b7x.out) (fun hHeld6 => ?_)
              clear hK K
              simp only [List.getElem_toArray, List.getElem_cons_succ, List.getElem_cons_zero, Act.put, List.setIfInBounds_toArray, List.set_cons_zero, List.set_cons_succ]
              refine takeH (i := 19) 115 (v := .pointer (some ⟨r, 0, none⟩)) rfl rfl (by kernel_rfl) (by kernel_rfl) (by kernel_rfl) (fun _ _ _ h => h) (Or.inl ⟨by rfl, ?_⟩) (by assumption) ?_
              · intro w' hSw'
                go_simp
              simp only [Act.put, List.setIfInBounds_toArray, List.set_cons_zero, List.set_cons_succ]
              refine takeH (i := 20) 116 (v := .pointer (some ⟨r, 1, none⟩)) rfl rfl (by kernel_rfl) (by kernel_rfl) (by kernel_rfl) (fun _ _ _ h => h) (Or.inl ⟨by rfl, ?_⟩) (by assumption) ?_
              · intro w' hSw'
                go_simp
              simp only [Act.put, List.setIfInBounds_toArray, List.set_cons_zero, List.set_cons_succ]
              refine wpAnyH_ready (rs := [21]) (by kernel_rfl) (by simp) ?_
              refine AllReadyH.cons rfl (fun K hK => ?_) AllReadyH.nil
              go_simp
              refine hK.out _ _ (b7x.out) (fun hHeld7 => ?_)
              clear hK K
              refine wpAnyH_done (by kernel_rfl) ?_ _
              have m7 : z7.cell? ⟨r, 1, none⟩ = some (.slice (aoH) K0 K0) := below_cell b7x.out HE.out
              have f7 : z7.frozen? ⟨r, 1, none⟩ = false := by
                have := (b7x.out.block r HRE.out).trans ROWE.out
                simp [World.frozen?, this]
              have e3 : K0 + 1 + 0 = K0 + 1 := by omega
              have P9 : Put9 wE r hs K0 hgt (z7.setCell ⟨r, 1, none⟩ (.slice a7 (K0 + 1) c7)) := by
                refine ⟨a7, K0 + 1, c7, z7, by rw [← HLEN.out], rfl, b7x.out, ?_⟩
                have h1 := O7.out
                rw [e3] at h1
                rw [← rv_num, rv_append, rv]
                rw [List.append_assoc] at h1
                exact h1
              rw [e3]
              clear e3
              unfold LastQ
              go_simp
              first | exact P9 | exact ⟨⟨_, _, _, _, _, _, _, _, _, _, _, _, _, _, _, _, _, _, _, _, _, rfl⟩, P9⟩
        · rintro a' w' ⟨⟨v96, v97, v98, v99, v100, v101, v102, v103, v104, v105, v106, v107, v108, v109, v110, v111, v112, v113, v114, v115, v116, rfl⟩, hP9⟩
          obtain ⟨a7, n7, c7, z7, hn7, hw7, hb7, row7⟩ := hP9
          subst hw7
          clear hzA hzB hzC hzD
          have FIN := keep (HM.out.laid hBw HMAY.out HTH.out (k := K0) HK0.out.symm HYE.out (hgt := hgt) H8.out (by rw [← HN5.out]; exact Q8.out) HYO.out (by rw [HWE.out]; exact hb7) (w10 := z7) (vH := .slice a7 n7 c7) (by rw [← hn7]; have := congrArg (fun w => w.heap.size) HWE.out; simp only [set_size] at this; rw [this]; exact row7))
          clear hb7 row7 hn7
          go_wp2
          go_ret
          exact ⟨rfl, y, HYE.out, FIN.out.1, FIN.out.2⟩
  clear hK
  go_loopw [7] (fun i wr => ∃ k : Nat, k ≤ K0 ∧ i = .int .i64 (k : Int) ∧ Hid (Below W1.heap.size W1 wr)) (fun i _ => K0 - (intOf i).toNat)
  case atStart => exact ⟨0, Nat.zero_le _, rfl, B2⟩
  case round =>
    obtain ⟨k, hk, rfl, hB⟩ := hrel
    have HB := keep (b1.out.trans (hB.out.mono b1.out.size))
    have l0 := LC.out wr hB.out
    obtain ⟨e0, e1, e2, e3⟩ := EC.out wr hB.out
    have i0 : (0 : Int) ≤ (k : Int) := by omega
    by_cases hkn : k < N
    · obtain ⟨b, off, rfl, _, _⟩ := SRC.out.form entKind_ok (by omega)
      obtain ⟨y, hy⟩ : ∃ y, ys[k]? = some y := ⟨ys[k]'(by rw [HN.out]; exact hkn), List.getElem?_eq_getElem _⟩
      have HY := keep hy
      obtain ⟨p0, p1, p2, p3⟩ := ent_cells (SRC.out.below entKind_ok HB.out) hy
      have hyh := (SRC.out.below entKind_ok HB.out).held y (List.mem_of_getElem? hy)
      have HYH := keep hyh
      have hym := MAY.out y (List.mem_of_getElem? hy)
      have hah : Hid (Sk.aheadOf key seq y.e = true ↔ k < K0) := CUT.out.2 k y.e (by rw [List.getElem?_map, hy]; rfl)
      have ll : (k : Int) < (N : Int) := by omega
      have AH : Hid (∀ w', Below wr.heap.size wr w' → Calls Try.prog 23 #[ev y, ev ⟨kp, kc, vp, vc, ⟨key, seq, gone, val⟩⟩] w' fun e w'' => e = .returned (.bool (decide (k < K0))) ∧ Below wr.heap.size wr w'') := fun w' hb => by
        refine (rahead_any y ⟨kp, kc, vp, vc, ⟨key, seq, gone, val⟩⟩ w' (by omega) (by simp only; omega) (entKind_ok.below hyh hb) (entKind_ok.below HX.out (HB.out.trans (hb.mono HB.out.size)))).mono ?_
        rintro e w'' ⟨rfl, hb'⟩
        refine ⟨?_, hb.trans (hb'.mono hb.size)⟩
        simp only
        rw [show Sk.aheadOf key seq y.e = decide (k < K0) from by rw [Bool.eq_iff_iff, decide_eq_true_eq]; exact hah.out]
      obtain ⟨ykp, ykc, yvp, yvc, ⟨ykey, yseq, ygone, yval⟩⟩ := y
      unfold ev at AH
      simp only at AH p0 p1 p2 p3
      clear hy hyh hym
      have gt : decide ((k : Int) < (N : Int)) = true := decide_eq_true ll
      by_cases hlt : k < K0
      · rw [decide_eq_true hlt] at AH
        go_wp2_with fail
        go_region_held3 (fun w' => w'.cell? ⟨r, 0, none⟩ = some (.slice (some ⟨b, off, none⟩) N c) ∧ w'.cell? ⟨b, off + k * 4, none⟩ = some (.slice ykp ykey.length ykc) ∧ w'.cell? ⟨b, off + k * 4 + 1, none⟩ = some (.int .i64 yseq) ∧ w'.cell? ⟨b, off + k * 4 + 2, none⟩ = some (.bool ygone) ∧ w'.cell? ⟨b, off + k * 4 + 3, none⟩ = some (.slice yvp yval.length yvc) ∧ w'.cell? ⟨w.heap.size, 0, none⟩ = some (.slice kp key.length kc) ∧ w'.cell? ⟨w.heap.size, 1, none⟩ = some (.int .i64 seq) ∧ w'.cell? ⟨w.heap.size, 2, none⟩ = some (.bool gone) ∧ w'.cell? ⟨w.heap.size, 3, none⟩ = some (.slice vp val.length vc))
          (first | exact ⟨l0, p0, p1, p2, p3, e0, e1, e2, e3⟩ | exact ⟨below_cell b4.out l0, below_cell b4.out p0, below_cell b4.out p1, below_cell b4.out p2, below_cell b4.out p3, below_cell b4.out e0, below_cell b4.out e1, below_cell b4.out e2, below_cell b4.out e3⟩)
          ((go_at_call 23; refine (AH.out _ ((Below.refl _ _).drew)).mono ?_; rintro e w4 ⟨rfl, hb4⟩; have b4 := keep hb4; clear hb4))
        go_wp2
        go_roundw
        case rel => exact ⟨k + 1, by omega, by go_num, hB.out.trans (b4.out.mono hB.out.size)⟩
        case measure => simp [intOf]; omega
      · rw [decide_eq_false hlt] at AH
        obtain rfl : k = K0 := by omega
        go_wp2_with fail
        go_region_held3 (fun w' => w'.cell? ⟨r, 0, none⟩ = some (.slice (some ⟨b, off, none⟩) N c) ∧ w'.cell? ⟨b, off + k * 4, none⟩ = some (.slice ykp ykey.length ykc) ∧ w'.cell? ⟨b, off + k * 4 + 1, none⟩ = some (.int .i64 yseq) ∧ w'.cell? ⟨b, off + k * 4 + 2, none⟩ = some (.bool ygone) ∧ w'.cell? ⟨b, off + k * 4 + 3, none⟩ = some (.slice yvp yval.length yvc) ∧ w'.cell? ⟨w.heap.size, 0, none⟩ = some (.slice kp key.length kc) ∧ w'.cell? ⟨w.heap.size, 1, none⟩ = some (.int .i64 seq) ∧ w'.cell? ⟨w.heap.size, 2, none⟩ = some (.bool gone) ∧ w'.cell? ⟨w.heap.size, 3, none⟩ = some (.slice vp val.length vc))
          (first | exact ⟨l0, p0, p1, p2, p3, e0, e1, e2, e3⟩ | exact ⟨below_cell b4.out l0, below_cell b4.out p0, below_cell b4.out p1, below_cell b4.out p2, below_cell b4.out p3, below_cell b4.out e0, below_cell b4.out e1, below_cell b4.out e2, below_cell b4.out e3⟩)
          ((go_at_call 23; refine (AH.out _ ((Below.refl _ _).drew)).mono ?_; rintro e w4 ⟨rfl, hb4⟩; have b4 := keep hb4; clear hb4))
        go_wp2
        exact TL.out _ _ _ _ _ _ _ _ _ _ _ _ _ _ _ _ _ _ _ _ _ (hB.out.trans (b4.out.mono hB.out.size))
    · have gt : decide ((k : Int) < (N : Int)) = false := decide_eq_false (by omega)
      obtain rfl : k = K0 := by omega
      go_wp2_with fail
      go_quiet (fail)
      go_wp2
      exact TL.out _ _ _ _ _ _ _ _ _ _ _ _ _ _ _ _ _ _ _ _ _ (hB.out.trans ((below_drewN (Below.refl _ _) _).mono hB.out.size))
end Go.Proofs.Ytjiphmeoofeepaa
