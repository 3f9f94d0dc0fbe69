/- The walk of the document's Scan. -/
import Derived.Test.YtjblicgbdecbcaaGreatZQuj
import Derived.Test.YtjblicgbdecbcaaGreatZJmj
import Derived.Test.YtjblicgbdecbcaaGreatZXaj
import Derived.Deep.QuietTactic
import Derived.BigQuiet
import Derived.Deep.RegionHeld3
namespace Go.Proofs.YtjblicgbdecbcaaGreat
open Go.RowKit
open Sk (Ent)

theorem lastKey_none {l : List Ent} (h : l = []) (k : List UInt8) : lastKey l ≠ some k := by subst h; intro e; cases e
set_option maxHeartbeats 2000000 in
set_option maxRecDepth 100000 in
theorem rscan_any (ao : Option Addr) (N c : Nat) (ys : List EV) (fp : Option Addr) (fc : Nat) (from_ : List UInt8) (tp : Option Addr) (tc : Nat) (to : List UInt8) (s : Int) (w : World) (hsrc : RSrc entKind w ao N c ys) (hMAY : ∀ y ∈ ys, y.e.key.length ≤ 64 ∧ y.e.val.length ≤ 1024) (hln : N ≤ 1000000) (hf : Src w fp from_.length fc from_) (ht : Src w tp to.length tc to) (hfl : from_.length ≤ 140737488355328) (htl : to.length ≤ 140737488355328) :
    Calls Tryz.prog 19 #[.slice ao N c, .slice fp from_.length fc, .slice tp to.length tc, .int .i64 s] w fun e w' => ∃ v zs, e = .returned v ∧ Ents w.heap.size w' v zs ∧ zs.map (·.e) = dscan (ys.map (·.e)) from_ to s ∧ Below w.heap.size w w' := by
  have MAY := keep hMAY
  obtain ⟨i0, hi0, hz0, hz1, hz2⟩ := info_parts3 infoE
  have SRC := keep hsrc
  have HF := keep hf
  have HT := keep ht
  have HN := keep hsrc.len
  have FULL : Hid ((ys.map (·.e)).take N = ys.map (·.e)) := List.take_of_length_le (by rw [List.length_map]; have := hsrc.len; omega)
  clear hsrc hMAY hf ht
  go_enter Tryz.func19, Tryz.ntmps19
  go_wp2
  go_loopw [9, 10] (fun v i wr => ∃ (k : Nat) (zs : List EV), k ≤ N ∧ i = .int .i64 (k : Int) ∧ Hid (Ents w.heap.size wr v zs ∧ zs.map (·.e) = dscan ((ys.map (·.e)).take k) from_ to s ∧ Below w.heap.size w wr ∧ zs.length ≤ k)) (fun _ i _ => N - (intOf i).toNat)
  case atStart => exact ⟨0, [], Nat.zero_le _, rfl, Ents.nil _ _, rfl, Below.refl _ _, Nat.le_refl _⟩
  case round =>
    obtain ⟨k, zs, hk, rfl, hI⟩ := hrel
    have HB := keep hI.out.2.2.1
    by_cases hkn : k < N
    · obtain ⟨b, off, rfl, _, _⟩ := SRC.out.form entKind_ok (by omega)
      obtain ⟨y, hy⟩ : ∃ y, ys[k]? = some y := ⟨ys[k]'(by rw [HN.out]; exact hkn), List.getElem?_eq_getElem _⟩
      obtain ⟨p0, p1, p2, p3⟩ := ent_cells (SRC.out.below entKind_ok HB.out) hy
      have hyh := (SRC.out.below entKind_ok HB.out).held y (List.mem_of_getElem? hy)
      have hym := MAY.out y (List.mem_of_getElem? hy)
      have MORE := keep (dscan_more (l := ys.map (·.e)) (k := k) (e := y.e) (by rw [List.getElem?_map, hy]; rfl) from_ to s)
      obtain ⟨xkp, xkc, xvp, xvc, ⟨xkey, xseq, xgone, xval⟩⟩ := y
      simp only at p0 p1 p2 p3 MORE hym
      have HYH : Hid (entKind.held wr ⟨xkp, xkc, xvp, xvc, ⟨xkey, xseq, xgone, xval⟩⟩) := hyh
      clear hy hyh
      have j0 : (0 : Int) ≤ (k : Int) := by omega
      have ll : (k : Int) < (N : Int) := by omega
      obtain ⟨av, cv, rfl, hRV, _⟩ := RSrc.own entKind_ok hI.out.1.row (fun z hz => (hI.out.1.each z hz).held)
      obtain ⟨M, hM⟩ : ∃ M, zs.length = M := ⟨_, rfl⟩
      have HM := keep hM
      have zl : M ≤ 1000000 := by have := hI.out.2.2.2; omega
      rw [hM] at hRV ⊢
      have RV := keep hRV
      clear hRV hM
      obtain ⟨W2, hW2⟩ : ∃ W2, wr.alloc (.cells #[.slice xkp xkey.length xkc, .int .i64 xseq, .bool xgone, .slice xvp xval.length xvc] 37) = W2 := ⟨_, rfl⟩
      have b2 : Hid (Below wr.heap.size wr W2) := by rw [← hW2]; exact (Below.refl _ _).alloc (Nat.le_refl _) _
      have g2 : Hid (W2.heap[wr.heap.size]? = some (.cells #[.slice xkp xkey.length xkc, .int .i64 xseq, .bool xgone, .slice xvp xval.length xvc] 37)) := by rw [← hW2]; exact heap_alloc_new wr _
      have gl : Hid (wr.heap.size < W2.heap.size) := by rw [← hW2]; show _ < _; simp
      have EC : Hid (∀ w', Below W2.heap.size W2 w' → w'.cell? ⟨wr.heap.size, 0, none⟩ = some (.slice xkp xkey.length xkc) ∧ w'.cell? ⟨wr.heap.size, 1, none⟩ = some (.int .i64 xseq) ∧ w'.cell? ⟨wr.heap.size, 2, none⟩ = some (.bool xgone) ∧ w'.cell? ⟨wr.heap.size, 3, none⟩ = some (.slice xvp xval.length xvc)) := fun w' hb => by
        have h := (hb.block _ gl.out).trans g2.out
        exact ⟨cell_of_row _ _ _ _ _ _ h, cell_of_row _ _ _ _ _ _ h, cell_of_row _ _ _ _ _ _ h, cell_of_row _ _ _ _ _ _ h⟩
      have LF : Hid (∀ w', Below W2.heap.size W2 w' → Calls Tryz.prog 51 #[.slice xkp xkey.length xkc, .slice fp from_.length fc] w' fun e w'' => e = .returned (.bool (less xkey from_)) ∧ Below W2.heap.size W2 w'') := fun w' hb => by
        have hb' := b2.out.trans (hb.mono b2.out.size)
        refine (refLess_any xkp xkey.length xkc xkey fp from_.length fc from_ w' (by omega) hfl (HYH.out.1.below hb') (HF.out.below (HB.out.trans (hb'.mono HB.out.size)))).mono ?_
        rintro e w'' ⟨rfl, h2⟩
        exact ⟨rfl, hb.trans (h2.mono hb.size)⟩
      have LT : Hid (∀ w', Below W2.heap.size W2 w' → Calls Tryz.prog 51 #[.slice xkp xkey.length xkc, .slice tp to.length tc] w' fun e w'' => e = .returned (.bool (less xkey to)) ∧ Below W2.heap.size W2 w'') := fun w' hb => by
        have hb' := b2.out.trans (hb.mono b2.out.size)
        refine (refLess_any xkp xkey.length xkc xkey tp to.length tc to w' (by omega) htl (HYH.out.1.below hb') (HT.out.below (HB.out.trans (hb'.mono HB.out.size)))).mono ?_
        rintro e w'' ⟨rfl, h2⟩
        exact ⟨rfl, hb.trans (h2.mono hb.size)⟩
      have STAY : Hid (∀ w', Below W2.heap.size W2 w' → dstep from_ to s (dscan ((ys.map (·.e)).take k) from_ to s) ⟨xkey, xseq, xgone, xval⟩ = dscan ((ys.map (·.e)).take k) from_ to s → ∃ (k' : Nat) (zs' : List EV), k' ≤ N ∧ (Value.int .i64 ((k : Int) + 1)) = .int .i64 (k' : Int) ∧ Hid (Ents w.heap.size w' (.slice av M cv) zs' ∧ zs'.map (·.e) = dscan ((ys.map (·.e)).take k') from_ to s ∧ Below w.heap.size w w' ∧ zs'.length ≤ k')) := fun w' hb hd => by
        have hb' := b2.out.trans (hb.mono b2.out.size)
        exact ⟨k + 1, zs, by omega, by go_num, (by rw [← HM.out]; exact hI.out.1.below hb'), by rw [MORE.out, hd]; exact hI.out.2.1, HB.out.trans (hb'.mono HB.out.size), Nat.le_succ_of_le hI.out.2.2.2⟩
      cases hA : less xkey from_ with
      | true =>
        have HA := keep hA
        rw [hA] at LF
        clear hA
        obtain ⟨e0, e1, e2, e3⟩ := EC.out W2 (Below.refl _ _)
        go_wp2_with fail
        refine (LF.out W2 (Below.refl _ _)).mono ?_
        rintro e w3 ⟨rfl, hb3⟩
        have b3 := keep hb3
        clear e0 e1 e2 e3
        obtain ⟨e0, e1, e2, e3⟩ := EC.out w3 hb3
        clear hb3 hW2
        go_wp2
        go_roundw
        case rel => exact STAY.out w3 b3.out (by unfold dstep; rw [if_pos (show outB from_ to s ⟨xkey, xseq, xgone, xval⟩ = true from by unfold outB; rw [HA.out]; rfl)])
        case measure => simp [intOf]; omega
      | false =>
        have HA := keep hA
        rw [hA] at LF
        clear hA
        by_cases hto : 0 < to.length
        · have hto2 : 0 < (to.length : Int) := by omega
          cases hC : less xkey to with
          | false =>
            have HC := keep hC
            rw [hC] at LT
            clear hC
            obtain ⟨e0, e1, e2, e3⟩ := EC.out W2 (Below.refl _ _)
            go_wp2_with fail
            refine (LF.out W2 (Below.refl _ _)).mono ?_
            rintro e w3 ⟨rfl, hb3⟩
            have b3 := keep hb3
            clear e0 e1 e2 e3
            obtain ⟨e0, e1, e2, e3⟩ := EC.out w3 hb3
            clear hb3 hW2
            go_wp2_with fail
            refine (LT.out w3 b3.out).mono ?_
            rintro e w4 ⟨rfl, hb4⟩
            have b4 := keep hb4
            clear e0 e1 e2 e3
            obtain ⟨e0, e1, e2, e3⟩ := EC.out w4 hb4
            clear hb4
            go_wp2
            go_roundw
            case rel => exact STAY.out w4 b4.out (by unfold dstep; rw [if_pos (show outB from_ to s ⟨xkey, xseq, xgone, xval⟩ = true from by unfold outB; rw [HC.out, decide_eq_true hto]; simp)])
            case measure => simp [intOf]; omega
          | true =>
            have HC := keep hC
            rw [hC] at LT
            clear hC
            by_cases hs : s < xseq
            · obtain ⟨e0, e1, e2, e3⟩ := EC.out W2 (Below.refl _ _)
              go_wp2_with fail
              refine (LF.out W2 (Below.refl _ _)).mono ?_
              rintro e w3 ⟨rfl, hb3⟩
              have b3 := keep hb3
              clear e0 e1 e2 e3
              obtain ⟨e0, e1, e2, e3⟩ := EC.out w3 hb3
              clear hb3 hW2
              go_wp2_with fail
              refine (LT.out w3 b3.out).mono ?_
              rintro e w4 ⟨rfl, hb4⟩
              have b4 := keep hb4
              clear e0 e1 e2 e3
              obtain ⟨e0, e1, e2, e3⟩ := EC.out w4 hb4
              clear hb4
              go_wp2
              go_roundw
              case rel => exact STAY.out w4 b4.out (by unfold dstep; rw [if_pos (show outB from_ to s ⟨xkey, xseq, xgone, xval⟩ = true from by unfold outB; rw [decide_eq_true hs]; simp)])
              case measure => simp [intOf]; omega
            · have HSQ := keep hs
              obtain ⟨e0, e1, e2, e3⟩ := EC.out W2 (Below.refl _ _)
              go_wp2_with fail
              refine (LF.out W2 (Below.refl _ _)).mono ?_
              rintro e w3 ⟨rfl, hb3⟩
              have b3 := keep hb3
              clear e0 e1 e2 e3
              obtain ⟨e0, e1, e2, e3⟩ := EC.out w3 hb3
              clear hb3 hW2
              go_wp2_with fail
              refine (LT.out w3 b3.out).mono ?_
              rintro e w4 ⟨rfl, hb4⟩
              have b4 := keep hb4
              clear e0 e1 e2 e3
              obtain ⟨e0, e1, e2, e3⟩ := EC.out w4 hb4
              clear hb4
              have IN : Hid (outB from_ to s ⟨xkey, xseq, xgone, xval⟩ = false) := by show _ = _; unfold outB; rw [HA.out, decide_eq_false (p := s < xseq) (by have := HSQ.out; omega)]; rw [HC.out]; simp
              have BX := keep (b2.out.trans (b4.out.mono b2.out.size))
              have CP : Hid (∀ w1, Below wr.heap.size wr w1 → Calls Tryz.prog 47 #[.agg #[.slice xkp xkey.length xkc, .int .i64 xseq, .bool xgone, .slice xvp xval.length xvc]] w1 fun e w2 => ∃ y : EV, e = .returned (ev y) ∧ y.e = ⟨xkey, xseq, xgone, xval⟩ ∧ OwnE wr.heap.size w2 y ∧ Below wr.heap.size wr w2) := fun w1 hb => by
                refine (rcopy_any ⟨xkp, xkc, xvp, xvc, ⟨xkey, xseq, xgone, xval⟩⟩ w1 (by simp only; omega) (by simp only; omega) (entKind_ok.below HYH.out hb)).mono ?_
                rintro e w2 ⟨y, rfl, h1, h2, h3⟩
                exact ⟨y, rfl, h1, h2.base hb.size, hb.trans (h3.mono hb.size)⟩
              clear LF LT EC g2
              cases M with
              | zero =>
                have LK : Hid (lastKey (zs.map (·.e)) ≠ some xkey) := by rw [List.length_eq_zero_iff.1 HM.out]; exact lastKey_none rfl _
                go_wp2_with fail
                go_quiet (fail)
                go_wp2_with fail
                refine (CP.out _ (BX.out.trans ((below_drewN (Below.refl _ _) _).mono BX.out.size))).mono ?_
                rintro e w5 ⟨y, rfl, hye, hyo, hb5⟩
                have HYE := keep hye
                have b5 := keep (hb5.alloc hb5.size (.cells (entKind.vals y).toArray 37))
                have E5 := keep (hI.out.1.below b5.out)
                have O5 := keep ((hyo.base HB.out.size).block ((Below.refl w5.heap.size w5).alloc (Nat.le_refl _) (.cells (entKind.vals y).toArray 37)))
                have BL5 := keep (HB.out.trans (b5.out.mono HB.out.size))
                have rc := keep (rec_cells (k := entKind) w5 37 y)
                obtain ⟨ykp, ykc, yvp, yvc, ⟨ykey, yseq, ygone, yval⟩⟩ := y
                simp only [entKind] at b5 E5 O5 BL5
                have ROW5 := keep E5.out.row
                rw [HM.out] at ROW5
                unfold ev
                simp only
                clear hye hyo hb5 CP e0 e1 e2 e3 p0 p1 p2 p3
                go_wp2_with (at_builtin; go_loud (refine wpList_append_rec entKind_ok rfl _ _ 22 37 rfl w.heap.size i0 _ 64 Tryz.underlying22 hi0 hz0 hz1 hz2 rfl _ (0) zs rfl ROW5.out _ 1 (⟨ykp, ykc, yvp, yvc, ⟨ykey, yseq, ygone, yval⟩⟩ : EV) rfl rc.out (by unfold maxLen; omega) (by omega) (Nat.le_trans BL5.out.size (Nat.le_refl _)) ?_); intro v6 w6 ho6 hg6; have HO6 := keep ho6; have HG6 := keep hg6; have BL6 := keep (BL5.out.grown hg6 BL5.out.size (fun j hj => (ROW5.out.lt j hj).1)); clear ho6 hg6)
                have E6 := keep (E5.out.more O5.out (by rw [HM.out]; exact HO6.out) (by rw [HM.out]; exact HG6.out))
                go_roundw
                case rel => exact ⟨k + 1, zs ++ [⟨ykp, ykc, yvp, yvc, ⟨ykey, yseq, ygone, yval⟩⟩], by omega, by go_num, E6.out, by rw [MORE.out, ← hI.out.2.1, List.map_append]; unfold dstep; rw [if_neg (by rw [IN.out]; exact Bool.false_ne_true), if_neg LK.out]; exact congrArg (_ ++ [·]) HYE.out, BL6.out, by rw [List.length_append, List.length_singleton]; have := hI.out.2.2.2; omega⟩
                case measure => simp [intOf]; omega
              | succ j =>
                obtain ⟨bz, offz, rfl, _, _⟩ := RV.out.form entKind_ok (by omega)
                obtain ⟨z, hz⟩ : ∃ z, zs[j]? = some z := ⟨zs[j]'(by rw [HM.out]; omega), List.getElem?_eq_getElem _⟩
                obtain ⟨z0, z1, z2, z3⟩ := ent_cells (RV.out.below entKind_ok BX.out) hz
                have hzh := (RV.out.below entKind_ok BX.out).held z (List.mem_of_getElem? hz)
                have v1 := fun n => conv_src (hzh.1.below (below_drewN (Below.refl _ w4) n))
                have v2 := fun n => conv_src ((HYH.out.1.below BX.out).below (below_drewN (Below.refl _ w4) n))
                have LK : Hid (lastKey (zs.map (·.e)) = some z.e.key) := by show _ = _; unfold lastKey; rw [List.getLast?_map, List.getLast?_eq_getElem?, HM.out, Nat.add_sub_cancel, hz]; rfl
                obtain ⟨zkp, zkc, zvp, zvc, ⟨zkey, zseq, zgone, zval⟩⟩ := z
                simp only at z0 z1 z2 z3 v1 v2 LK
                have m0 : (0 : Int) ≤ (j : Int) := by omega
                have m1 : (j : Int) < (j : Int) + 1 := by omega
                have mw : IntKind.i64.wrap (j : Int) = (j : Int) := wrap_small _ (by omega) (by omega)
                have mz : ((j : Int) + 1 == 0) = false := by simp; omega
                have mz2 : ¬ (j : Int) + 1 = 0 := by omega
                clear hzh hz
                by_cases hq : zkey = xkey
                · have f1 : (zkey == xkey) = true := by simpa using hq
                  have HQ := keep hq
                  clear hq
                  go_wp2_with fail
                  go_quiet (fail)
                  go_wp2
                  go_roundw
                  case rel => exact STAY.out _ (b4.out.trans ((below_drewN (Below.refl _ _) _).mono b4.out.size)) (by rw [← hI.out.2.1]; unfold dstep; rw [if_neg (by rw [IN.out]; exact Bool.false_ne_true), if_pos (by rw [LK.out, HQ.out])])
                  case measure => simp [intOf]; omega
                · have f1 : (zkey == xkey) = false := by simpa using hq
                  have HQ := keep hq
                  clear hq
                  go_wp2_with fail
                  go_quiet (fail)
                  go_wp2_with fail
                  refine (CP.out _ (BX.out.trans ((below_drewN (Below.refl _ _) _).mono BX.out.size))).mono ?_
                  rintro e w5 ⟨y, rfl, hye, hyo, hb5⟩
                  have HYE := keep hye
                  have b5 := keep (hb5.alloc hb5.size (.cells (entKind.vals y).toArray 37))
                  have E5 := keep (hI.out.1.below b5.out)
                  have O5 := keep ((hyo.base HB.out.size).block ((Below.refl w5.heap.size w5).alloc (Nat.le_refl _) (.cells (entKind.vals y).toArray 37)))
                  have BL5 := keep (HB.out.trans (b5.out.mono HB.out.size))
                  have rc := keep (rec_cells (k := entKind) w5 37 y)
                  obtain ⟨ykp, ykc, yvp, yvc, ⟨ykey, yseq, ygone, yval⟩⟩ := y
                  simp only [entKind] at b5 E5 O5 BL5
                  have ROW5 := keep E5.out.row
                  rw [HM.out] at ROW5
                  unfold ev
                  simp only
                  clear hye hyo hb5 CP e0 e1 e2 e3 p0 p1 p2 p3
                  go_wp2_with (at_builtin; go_loud (refine wpList_append_rec entKind_ok rfl _ _ 22 37 rfl w.heap.size i0 _ 64 Tryz.underlying22 hi0 hz0 hz1 hz2 rfl _ (j + 1) zs rfl ROW5.out _ 1 (⟨ykp, ykc, yvp, yvc, ⟨ykey, yseq, ygone, yval⟩⟩ : EV) rfl rc.out (by unfold maxLen; omega) (by omega) (Nat.le_trans BL5.out.size (Nat.le_refl _)) ?_); intro v6 w6 ho6 hg6; have HO6 := keep ho6; have HG6 := keep hg6; have BL6 := keep (BL5.out.grown hg6 BL5.out.size (fun j hj => (ROW5.out.lt j hj).1)); clear ho6 hg6)
                  have E6 := keep (E5.out.more O5.out (by rw [HM.out]; exact HO6.out) (by rw [HM.out]; exact HG6.out))
                  go_roundw
                  case rel => exact ⟨k + 1, zs ++ [⟨ykp, ykc, yvp, yvc, ⟨ykey, yseq, ygone, yval⟩⟩], by omega, by go_num, E6.out, by rw [MORE.out, ← hI.out.2.1, List.map_append]; unfold dstep; rw [if_neg (by rw [IN.out]; exact Bool.false_ne_true), if_neg (by rw [LK.out]; intro e; exact HQ.out (Option.some.inj e))]; exact congrArg (_ ++ [·]) HYE.out, BL6.out, by rw [List.length_append, List.length_singleton]; have := hI.out.2.2.2; omega⟩
                  case measure => simp [intOf]; omega
        · have hto2 : ¬ 0 < (to.length : Int) := by omega
          by_cases hs : s < xseq
          · obtain ⟨e0, e1, e2, e3⟩ := EC.out W2 (Below.refl _ _)
            go_wp2_with fail
            refine (LF.out W2 (Below.refl _ _)).mono ?_
            rintro e w3 ⟨rfl, hb3⟩
            have b3 := keep hb3
            clear e0 e1 e2 e3
            obtain ⟨e0, e1, e2, e3⟩ := EC.out w3 hb3
            clear hb3 hW2
            go_wp2
            go_roundw
            case rel => exact STAY.out w3 b3.out (by unfold dstep; rw [if_pos (show outB from_ to s ⟨xkey, xseq, xgone, xval⟩ = true from by unfold outB; rw [decide_eq_true hs]; simp)])
            case measure => simp [intOf]; omega
          · have HSQ := keep hs
            obtain ⟨e0, e1, e2, e3⟩ := EC.out W2 (Below.refl _ _)
            go_wp2_with fail
            refine (LF.out W2 (Below.refl _ _)).mono ?_
            rintro e w3 ⟨rfl, hb3⟩
            have b3 := keep hb3
            clear e0 e1 e2 e3
            obtain ⟨e0, e1, e2, e3⟩ := EC.out w3 hb3
            clear hb3 hW2
            have IN : Hid (outB from_ to s ⟨xkey, xseq, xgone, xval⟩ = false) := by show _ = _; unfold outB; rw [HA.out, decide_eq_false (p := s < xseq) (by have := HSQ.out; omega)]; rw [decide_eq_false hto]; rfl
            have BX := keep (b2.out.trans (b3.out.mono b2.out.size))
            have CP : Hid (∀ w1, Below wr.heap.size wr w1 → Calls Tryz.prog 47 #[.agg #[.slice xkp xkey.length xkc, .int .i64 xseq, .bool xgone, .slice xvp xval.length xvc]] w1 fun e w2 => ∃ y : EV, e = .returned (ev y) ∧ y.e = ⟨xkey, xseq, xgone, xval⟩ ∧ OwnE wr.heap.size w2 y ∧ Below wr.heap.size wr w2) := fun w1 hb => by
              refine (rcopy_any ⟨xkp, xkc, xvp, xvc, ⟨xkey, xseq, xgone, xval⟩⟩ w1 (by simp only; omega) (by simp only; omega) (entKind_ok.below HYH.out hb)).mono ?_
              rintro e w2 ⟨y, rfl, h1, h2, h3⟩
              exact ⟨y, rfl, h1, h2.base hb.size, hb.trans (h3.mono hb.size)⟩
            clear LF LT EC g2
            cases M with
            | zero =>
              have LK : Hid (lastKey (zs.map (·.e)) ≠ some xkey) := by rw [List.length_eq_zero_iff.1 HM.out]; exact lastKey_none rfl _
              go_wp2_with fail
              go_quiet (fail)
              go_wp2_with fail
              refine (CP.out _ (BX.out.trans ((below_drewN (Below.refl _ _) _).mono BX.out.size))).mono ?_
              rintro e w5 ⟨y, rfl, hye, hyo, hb5⟩
              have HYE := keep hye
              have b5 := keep (hb5.alloc hb5.size (.cells (entKind.vals y).toArray 37))
              have E5 := keep (hI.out.1.below b5.out)
              have O5 := keep ((hyo.base HB.out.size).block ((Below.refl w5.heap.size w5).alloc (Nat.le_refl _) (.cells (entKind.vals y).toArray 37)))
              have BL5 := keep (HB.out.trans (b5.out.mono HB.out.size))
              have rc := keep (rec_cells (k := entKind) w5 37 y)
              obtain ⟨ykp, ykc, yvp, yvc, ⟨ykey, yseq, ygone, yval⟩⟩ := y
              simp only [entKind] at b5 E5 O5 BL5
              have ROW5 := keep E5.out.row
              rw [HM.out] at ROW5
              unfold ev
              simp only
              clear hye hyo hb5 CP e0 e1 e2 e3 p0 p1 p2 p3
              go_wp2_with (at_builtin; go_loud (refine wpList_append_rec entKind_ok rfl _ _ 22 37 rfl w.heap.size i0 _ 64 Tryz.underlying22 hi0 hz0 hz1 hz2 rfl _ (0) zs rfl ROW5.out _ 1 (⟨ykp, ykc, yvp, yvc, ⟨ykey, yseq, ygone, yval⟩⟩ : EV) rfl rc.out (by unfold maxLen; omega) (by omega) (Nat.le_trans BL5.out.size (Nat.le_refl _)) ?_); intro v6 w6 ho6 hg6; have HO6 := keep ho6; have HG6 := keep hg6; have BL6 := keep (BL5.out.grown hg6 BL5.out.size (fun j hj => (ROW5.out.lt j hj).1)); clear ho6 hg6)
              have E6 := keep (E5.out.more O5.out (by rw [HM.out]; exact HO6.out) (by rw [HM.out]; exact HG6.out))
              go_roundw
              case rel => exact ⟨k + 1, zs ++ [⟨ykp, ykc, yvp, yvc, ⟨ykey, yseq, ygone, yval⟩⟩], by omega, by go_num, E6.out, by rw [MORE.out, ← hI.out.2.1, List.map_append]; unfold dstep; rw [if_neg (by rw [IN.out]; exact Bool.false_ne_true), if_neg LK.out]; exact congrArg (_ ++ [·]) HYE.out, BL6.out, by rw [List.length_append, List.length_singleton]; have := hI.out.2.2.2; omega⟩
              case measure => simp [intOf]; omega
            | succ j =>
              obtain ⟨bz, offz, rfl, _, _⟩ := RV.out.form entKind_ok (by omega)
              obtain ⟨z, hz⟩ : ∃ z, zs[j]? = some z := ⟨zs[j]'(by rw [HM.out]; omega), List.getElem?_eq_getElem _⟩
              obtain ⟨z0, z1, z2, z3⟩ := ent_cells (RV.out.below entKind_ok BX.out) hz
              have hzh := (RV.out.below entKind_ok BX.out).held z (List.mem_of_getElem? hz)
              have v1 := fun n => conv_src (hzh.1.below (below_drewN (Below.refl _ w3) n))
              have v2 := fun n => conv_src ((HYH.out.1.below BX.out).below (below_drewN (Below.refl _ w3) n))
              have LK : Hid (lastKey (zs.map (·.e)) = some z.e.key) := by show _ = _; unfold lastKey; rw [List.getLast?_map, List.getLast?_eq_getElem?, HM.out, Nat.add_sub_cancel, hz]; rfl
              obtain ⟨zkp, zkc, zvp, zvc, ⟨zkey, zseq, zgone, zval⟩⟩ := z
              simp only at z0 z1 z2 z3 v1 v2 LK
              have m0 : (0 : Int) ≤ (j : Int) := by omega
              have m1 : (j : Int) < (j : Int) + 1 := by omega
              have mw : IntKind.i64.wrap (j : Int) = (j : Int) := wrap_small _ (by omega) (by omega)
              have mz : ((j : Int) + 1 == 0) = false := by simp; omega
              have mz2 : ¬ (j : Int) + 1 = 0 := by omega
              clear hzh hz
              by_cases hq : zkey = xkey
              · have f1 : (zkey == xkey) = true := by simpa using hq
                have HQ := keep hq
                clear hq
                go_wp2_with fail
                go_quiet (fail)
                go_wp2
                go_roundw
                case rel => exact STAY.out _ (b3.out.trans ((below_drewN (Below.refl _ _) _).mono b3.out.size)) (by rw [← hI.out.2.1]; unfold dstep; rw [if_neg (by rw [IN.out]; exact Bool.false_ne_true), if_pos (by rw [LK.out, HQ.out])])
                case measure => simp [intOf]; omega
              · have f1 : (zkey == xkey) = false := by simpa using hq
                have HQ := keep hq
                clear hq
                go_wp2_with fail
                go_quiet (fail)
                go_wp2_with fail
                refine (CP.out _ (BX.out.trans ((below_drewN (Below.refl _ _) _).mono BX.out.size))).mono ?_
                rintro e w5 ⟨y, rfl, hye, hyo, hb5⟩
                have HYE := keep hye
                have b5 := keep (hb5.alloc hb5.size (.cells (entKind.vals y).toArray 37))
                have E5 := keep (hI.out.1.below b5.out)
                have O5 := keep ((hyo.base HB.out.size).block ((Below.refl w5.heap.size w5).alloc (Nat.le_refl _) (.cells (entKind.vals y).toArray 37)))
                have BL5 := keep (HB.out.trans (b5.out.mono HB.out.size))
                have rc := keep (rec_cells (k := entKind) w5 37 y)
                obtain ⟨ykp, ykc, yvp, yvc, ⟨ykey, yseq, ygone, yval⟩⟩ := y
                simp only [entKind] at b5 E5 O5 BL5
                have ROW5 := keep E5.out.row
                rw [HM.out] at ROW5
                unfold ev
                simp only
                clear hye hyo hb5 CP e0 e1 e2 e3 p0 p1 p2 p3
                go_wp2_with (at_builtin; go_loud (refine wpList_append_rec entKind_ok rfl _ _ 22 37 rfl w.heap.size i0 _ 64 Tryz.underlying22 hi0 hz0 hz1 hz2 rfl _ (j + 1) zs rfl ROW5.out _ 1 (⟨ykp, ykc, yvp, yvc, ⟨ykey, yseq, ygone, yval⟩⟩ : EV) rfl rc.out (by unfold maxLen; omega) (by omega) (Nat.le_trans BL5.out.size (Nat.le_refl _)) ?_); intro v6 w6 ho6 hg6; have HO6 := keep ho6; have HG6 := keep hg6; have BL6 := keep (BL5.out.grown hg6 BL5.out.size (fun j hj => (ROW5.out.lt j hj).1)); clear ho6 hg6)
                have E6 := keep (E5.out.more O5.out (by rw [HM.out]; exact HO6.out) (by rw [HM.out]; exact HG6.out))
                go_roundw
                case rel => exact ⟨k + 1, zs ++ [⟨ykp, ykc, yvp, yvc, ⟨ykey, yseq, ygone, yval⟩⟩], by omega, by go_num, E6.out, by rw [MORE.out, ← hI.out.2.1, List.map_append]; unfold dstep; rw [if_neg (by rw [IN.out]; exact Bool.false_ne_true), if_neg (by rw [LK.out]; intro e; exact HQ.out (Option.some.inj e))]; exact congrArg (_ ++ [·]) HYE.out, BL6.out, by rw [List.length_append, List.length_singleton]; have := hI.out.2.2.2; omega⟩
                case measure => simp [intOf]; omega
    · obtain rfl : k = N := by omega
      have ll : ¬ (k : Int) < (k : Int) := by omega
      go_wp2
      go_ret
      exact ⟨_, rfl, zs, hI.out.1, by rw [hI.out.2.1, FULL.out], HB.out⟩
end Go.Proofs.YtjblicgbdecbcaaGreat
