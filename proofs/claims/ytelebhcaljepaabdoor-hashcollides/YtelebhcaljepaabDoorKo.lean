/- The walk of the document's Collide. -/
import Derived.Test.YtelebhcaljepaabDoorKg
import Derived.BigRegion
namespace Go.Proofs.YtelebhcaljepaabDoor
open Go.RowKit

set_option maxHeartbeats 4000000 in
set_option maxRecDepth 100000 in
theorem rcollide_any (i n : Int) (a : List UInt8) (ap : Option Addr) (am ac : Nat) (pa : List (List UInt8)) (b : List UInt8) (bp : Option Addr) (bm bc : Nat) (pb : List (List UInt8)) (w : World) (ha : RSrc strKind w ap am ac pa) (hb : RSrc strKind w bp bm bc pb) (ham : am ≤ 4611686018427387904) (hbm : bm ≤ 4611686018427387904) :
    Calls Tryd.prog 9 #[.int .i64 i, .int .i64 n, .string ⟨a.toArray⟩, .slice ap am ac, .string ⟨b.toArray⟩, .slice bp bm bc] w (ColA w (collL i n a pa b pb)) := by
  have HA := keep ha
  have HB := keep hb
  have HAL := keep ha.len
  have HBL := keep hb.len
  clear ha hb
  have NO : Hid (∀ w', collOk i n a pa b pb = false → Below w.heap.size w w' → ColA w (collL i n a pa b pb) (.returned (.tuple #[.slice none 0 0, .slice none 0 0, .bool false])) w') := fun w' h hb => ColA.no (collOk_parts h) hb
  have YES : Hid (collOk i n a pa b pb = true → collL i n a pa b pb = collS (Mt.sides i.toNat n.toNat) a pa b pb (Mt.sides i.toNat n.toNat).length) := fun h => by unfold collL; rw [h]; rfl
  unfold collOk at NO YES
  cases hr : inRange i n with
  | false =>
    rw [hr] at NO
    unfold inRange at hr
    clear YES
    by_cases h1 : n < 1
    · clear hr
      go_enter Tryd.func9, Tryd.ntmps9
      go_wp2
      go_ret3
      exact NO.out _ rfl (Below.refl _ _)
    by_cases h2 : 1099511627776 < n
    · clear hr
      go_enter Tryd.func9, Tryd.ntmps9
      go_wp2
      go_ret3
      exact NO.out _ rfl (Below.refl _ _)
    by_cases h3 : i < 0
    · clear hr
      go_enter Tryd.func9, Tryd.ntmps9
      go_wp2
      go_ret3
      exact NO.out _ rfl (Below.refl _ _)
    have h4 : n ≤ i := by
      rw [decide_eq_true (show 1 ≤ n by omega), decide_eq_true (show n ≤ 1099511627776 by omega), decide_eq_true (show 0 ≤ i by omega)] at hr
      have := of_decide_eq_false hr
      omega
    clear hr
    go_enter Tryd.func9, Tryd.ntmps9
    go_wp2
    go_ret3
    exact NO.out _ rfl (Below.refl _ _)
  | true =>
    rw [hr, Bool.true_and] at NO YES
    unfold inRange at hr
    simp only [Bool.and_eq_true, decide_eq_true_eq] at hr
    obtain ⟨r1, r2, r3, r4⟩ := hr
    obtain ⟨I, rfl⟩ : ∃ I : Nat, i = (I : Int) := ⟨i.toNat, by omega⟩
    obtain ⟨N, rfl⟩ : ∃ N : Nat, n = (N : Int) := ⟨n.toNat, by omega⟩
    rw [Int.toNat_natCast, Int.toNat_natCast] at NO YES
    have SD := keep (rsides_any N I (by omega) (by omega) w)
    have SL := keep (Nat.le_trans (Mt.sides_len N I (by omega)) (Mt.lv_le (n := N) (j := 40) (by omega)))
    have q1 : ¬ (N : Int) < 1 := by omega
    have q2 : ¬ (1099511627776 : Int) < (N : Int) := by omega
    have q3 : ¬ (I : Int) < 0 := by omega
    have q4 : ¬ (N : Int) ≤ (I : Int) := by omega
    obtain ⟨S, hS⟩ : ∃ S, Mt.sides I N = S := ⟨_, rfl⟩
    rw [hS] at SD SL NO YES
    clear r1 r2 r3 r4 hS
    by_cases hab : a = b
    · rw [decide_eq_true hab] at NO
      subst hab
      clear YES
      go_enter Tryd.func9, Tryd.ntmps9
      go_wp2
      go_ret3
      exact NO.out _ rfl (Below.refl _ _)
    rw [decide_eq_false hab, Bool.not_false, Bool.true_and] at NO YES
    have hne : (a == b) = false := by simpa using hab
    have HAB := keep hab
    clear hab
    go_enter Tryd.func9, Tryd.ntmps9
    go_wp2_with fail
    refine SD.out.mono ?_
    rintro e w1 ⟨v, rfl, ho, hb1⟩
    have B1 := keep hb1
    obtain ⟨sp, sc, hv, SS, _⟩ := RSrc.own boolKind_ok ho (fun _ _ => trivial)
    subst hv
    have SSH := keep SS
    obtain ⟨L, hL⟩ : ∃ L, S.length = L := ⟨_, rfl⟩
    have HL := keep hL
    rw [hL] at SSH SL NO YES ⊢
    have hL40 := SL.out
    rw [HAL.out, HBL.out] at NO YES
    have WA := keep (rwhole_any ap am ac pa w1 (HA.out.below strKind_ok B1.out) ham)
    clear hb1 ho SS SD hL
    by_cases hal : ¬ am = L
    · have hal2 : ¬ (am : Int) = (L : Int) := by omega
      rw [decide_eq_false hal, Bool.false_and] at NO
      clear YES hal
      go_wp2
      go_ret3
      exact NO.out _ (by first | rfl | trivial) B1.out
    replace hal := Classical.not_not.1 hal
    rw [decide_eq_true hal, Bool.true_and] at NO YES
    subst hal
    by_cases hbl : ¬ bm = am
    · have hbl2 : ¬ (bm : Int) = (am : Int) := by omega
      rw [decide_eq_false hbl, Bool.false_and] at NO
      clear YES hbl
      go_wp2
      go_ret3
      exact NO.out _ (by first | rfl | trivial) B1.out
    replace hbl := Classical.not_not.1 hbl
    rw [decide_eq_true hbl, Bool.true_and] at NO YES
    subst hbl
    cases hw1 : wholeL pa with
    | false =>
      rw [hw1] at WA NO
      clear hw1 YES
      go_wp2_with fail
      refine WA.out.mono ?_
      rintro e w2 ⟨rfl, hb2⟩
      have B2 := keep (B1.out.trans (hb2.mono B1.out.size))
      clear hb2 WA
      go_wp2
      go_ret3
      exact NO.out _ (by first | rfl | trivial) B2.out
    | true =>
      have hmA := keep (wholeL_mem hw1)
      rw [hw1, Bool.true_and] at NO YES
      rw [hw1] at WA
      clear hw1
      go_wp2_with fail
      refine WA.out.mono ?_
      rintro e w2 ⟨rfl, hb2⟩
      have B2 := keep (B1.out.trans (hb2.mono B1.out.size))
      have Q2 := keep hb2
      clear hb2 WA
      have WB := keep (rwhole_any bp bm bc pb w2 (HB.out.below strKind_ok B2.out) hbm)
      cases hw2 : wholeL pb with
      | false =>
        rw [hw2] at WB NO
        clear hw2 YES
        go_wp2_with fail
        refine WB.out.mono ?_
        rintro e w3 ⟨rfl, hb3⟩
        have B3 := keep (B2.out.trans (hb3.mono B2.out.size))
        clear hb3 WB
        go_wp2
        go_ret3
        exact NO.out _ (by first | rfl | trivial) B3.out
      | true =>
        have hmB := keep (wholeL_mem hw2)
        rw [hw2, Bool.true_and] at NO YES
        rw [hw2] at WB
        clear hw2
        go_wp2_with fail
        refine WB.out.mono ?_
        rintro e w3 ⟨rfl, hb3⟩
        have B3 := keep (B2.out.trans (hb3.mono B2.out.size))
        have Q3 := keep (Q2.out.trans (hb3.mono Q2.out.size))
        clear hb3 WB
        obtain ⟨W4, hW4⟩ : ∃ W4, w3.alloc (.cells #[.string ⟨a.toArray⟩, .string ⟨b.toArray⟩] 9) = W4 := ⟨_, rfl⟩
        have b4 : Hid (Below w3.heap.size w3 W4) := by rw [← hW4]; exact (Below.refl _ _).alloc (Nat.le_refl _) _
        have WC : Hid (Calls Tryd.prog 21 #[.slice (some ⟨w3.heap.size, 0, none⟩) 2 2] W4 fun e w' => e = .returned (.bool (wholeL [a, b])) ∧ Below W4.heap.size W4 w') := by rw [← hW4]; exact rwhole_any _ 2 2 [a, b] _ (two_texts w3 a b) (by decide)
        have B4 := keep (B3.out.trans (b4.out.mono B3.out.size))
        have Q4 := keep (Q3.out.trans (b4.out.mono Q3.out.size))
        cases hw3 : wholeL [a, b] with
        | false =>
          rw [hw3] at WC NO
          clear hw3 YES
          go_wp2_with fail
          refine WC.out.mono ?_
          rintro e w5 ⟨rfl, hb5⟩
          have B5 := keep (B4.out.trans (hb5.mono B4.out.size))
          clear hb5 WC
          go_wp2
          go_ret3
          exact NO.out _ (by first | rfl | trivial) B5.out
        | true =>
          have hmC := wholeL_mem hw3
          have ha32 : a.length = 32 := hmC a (by simp)
          have hb32 : b.length = 32 := hmC b (by simp)
          have EQ := keep (YES.out hw3)
          rw [hw3] at WC
          clear hw3 hmC NO YES
          go_wp2_with fail
          refine WC.out.mono ?_
          rintro e w5 ⟨rfl, hb5⟩
          have B5 := keep (B4.out.trans (hb5.mono B4.out.size))
          have Q5 := keep (Q4.out.trans (hb5.mono Q4.out.size))
          clear hb5 WC hW4
          have CA := keep (rclimb_any a bm sp sc S ap ac pa w5 (SSH.out.below boolKind_ok Q5.out) (HA.out.below strKind_ok B5.out) (by omega) (by omega) (fun e he => by rw [hmA.out e he]; decide))
          go_wp2_with fail
          refine CA.out.mono ?_
          rintro e w6 ⟨vx, rfl, hox, hb6⟩
          have B6 := keep (B5.out.trans (hb6.mono B5.out.size))
          have Q6 := keep (Q5.out.trans (hb6.mono Q5.out.size))
          have hlA : S.length = pa.length := by rw [HL.out, HAL.out]
          have hlB : S.length = pb.length := by rw [HL.out, HBL.out]
          rw [Mt.climb_len nodeL a S pa hlA, HL.out] at hox
          obtain ⟨xp, xc, hvx, RX, _⟩ := RSrc.own strKind_ok hox (fun _ _ => trivial)
          subst hvx
          have RXH := keep RX
          clear hox hb6 CA RX
          have CB := keep (rclimb_any b bm sp sc S bp bc pb w6 (SSH.out.below boolKind_ok Q6.out) (HB.out.below strKind_ok B6.out) (by omega) (by omega) (fun e he => by rw [hmB.out e he]; decide))
          go_wp2_with fail
          refine CB.out.mono ?_
          rintro e w7 ⟨vy, rfl, hoy, hb7⟩
          have B7 := keep (B6.out.trans (hb7.mono B6.out.size))
          have Q7 := keep (Q6.out.trans (hb7.mono Q6.out.size))
          rw [Mt.climb_len nodeL b S pb hlB, HL.out] at hoy
          obtain ⟨yp, yc, hvy, RY, _⟩ := RSrc.own strKind_ok hoy (fun _ _ => trivial)
          subst hvy
          obtain ⟨bx, ox, hxp, _, hcx⟩ := strs_at (RXH.out.below strKind_ok hb7) (by omega)
          subst hxp
          obtain ⟨by_, oy, hyp, _, hcy⟩ := strs_at RY (by omega)
          subst hyp
          have CX : Hid (∀ w' j, Below w7.heap.size w7 w' → j ≤ bm → w'.cell? ⟨bx, ox + j, none⟩ = some (.string ⟨(Xs a S pa j).toArray⟩)) := fun w' j hb hj => below_cell hb (hcx j _ (Mt.climb_at nodeL a S pa hlA j (by rw [HL.out]; exact hj)))
          have CY : Hid (∀ w' j, Below w7.heap.size w7 w' → j ≤ bm → w'.cell? ⟨by_, oy + j, none⟩ = some (.string ⟨(Xs b S pb j).toArray⟩)) := fun w' j hb hj => below_cell hb (hcy j _ (Mt.climb_at nodeL b S pb hlB j (by rw [HL.out]; exact hj)))
          unfold collS at EQ
          clear hoy hb7 CB RY hcx hcy hlA hlB
          go_wp2
          go_loopw [18] (fun i wr => ∃ j : Nat, j ≤ bm ∧ i = .int .i64 (j : Int) ∧ Hid (Below w7.heap.size w7 wr ∧ Mt.coll (Xs a S pa) (Xs b S pb) (Is a S pa) (Is b S pb) bm = Mt.coll (Xs a S pa) (Xs b S pb) (Is a S pa) (Is b S pb) j)) (fun i _ => (intOf i).toNat)
          case atStart => exact ⟨bm, Nat.le_refl _, rfl, Below.refl _ _, rfl⟩
          case round =>
            obtain ⟨j, hj, rfl, hI⟩ := hrel
            have BW := keep (B7.out.trans (hI.out.1.mono B7.out.size))
            cases j with
            | zero =>
              have e0 : ((0 : Nat) : Int) = 0 := rfl
              rw [e0]
              clear e0
              go_wp2_with fail
              go_region
              go_wp2
              go_ret3
              exact ColA.no (by rw [EQ.out, hI.out.2]; rfl) (BW.out.trans ((below_drewN (Below.refl _ _) _).mono BW.out.size))
            | succ j =>
              obtain ⟨sb, x, q, y, r, hs1, hq1, hr1, hx, hy, hI1, hI2⟩ := rcollide_loop a b bm S pa pb HL.out HAL.out HBL.out j (by omega)
              obtain ⟨ba, oa, hap, _, hca⟩ := strs_at HA.out (by omega)
              subst hap
              obtain ⟨bb, ob, hbp, _, hcb⟩ := strs_at HB.out (by omega)
              subst hbp
              obtain ⟨bs, os, hsp, _, hcs⟩ := bools_at SSH.out (by omega)
              subst hsp
              have cA : wr.cell? ⟨ba, oa + j, none⟩ = some (.string ⟨q.toArray⟩) := below_cell BW.out (hca j q hq1)
              have cB : wr.cell? ⟨bb, ob + j, none⟩ = some (.string ⟨r.toArray⟩) := below_cell BW.out (hcb j r hr1)
              have cS : wr.cell? ⟨bs, os + j, none⟩ = some (.bool sb) := below_cell (Q7.out.trans (hI.out.1.mono Q7.out.size)) (hcs j sb hs1)
              have cX1 := CX.out wr (j + 1) hI.out.1 hj
              have cX0 := CX.out wr j hI.out.1 (by omega)
              have cY1 := CY.out wr (j + 1) hI.out.1 hj
              have cY0 := CY.out wr j hI.out.1 (by omega)
              rw [hx] at cX0
              rw [hy] at cY0
              have STEP : Hid (collL (I : Int) (N : Int) a pa b pb = if Xs a S pa (j + 1) = Xs b S pb (j + 1) then (if inp sb x q = inp sb y r then Mt.coll (Xs a S pa) (Xs b S pb) (Is a S pa) (Is b S pb) j else some (inp sb x q, inp sb y r)) else none) := by show _ = _; rw [EQ.out, hI.out.2, ← hI1, ← hI2]; rfl
              obtain ⟨X1, hX1⟩ : ∃ X1, Xs a S pa (j + 1) = X1 := ⟨_, rfl⟩
              obtain ⟨Y1, hY1⟩ : ∃ Y1, Xs b S pb (j + 1) = Y1 := ⟨_, rfl⟩
              rw [hX1] at cX1 STEP
              rw [hY1] at cY1 STEP
              have REST := keep hI.out
              have j0 : (0 : Int) < ((j + 1 : Nat) : Int) := by omega
              have j1 : (0 : Int) ≤ (j : Int) := by omega
              have j2 : (j : Int) < (bm : Int) := by omega
              have j3 : ((j + 1 : Nat) : Int) < ((bm + 1 : Nat) : Int) := by omega
              have j4 : (j : Int) < ((bm + 1 : Nat) : Int) := by omega
              have j5 : (0 : Int) ≤ ((j + 1 : Nat) : Int) := by omega
              have e1 : ((j + 1 : Nat) : Int) - 1 = (j : Int) := by omega
              have hxl : x.length ≤ 1099511627776 := by rw [← hx]; exact top_len (by omega) _ _
              have hyl : y.length ≤ 1099511627776 := by rw [← hy]; exact top_len (by omega) _ _
              have hql := hmA.out q (List.mem_of_getElem? hq1)
              have hrl := hmB.out r (List.mem_of_getElem? hr1)
              have sxq : x.length + q.length ≤ 140737488354000 := by omega
              have syr : y.length + r.length ≤ 140737488354000 := by omega
              have sqx : q.length + x.length ≤ 140737488354000 := by omega
              have sry : r.length + y.length ≤ 140737488354000 := by omega
              clear hs1 hq1 hr1 hx hy hI1 hI2 hca hcb hcs hX1 hY1 hI hql hrl hxl hyl
              by_cases hXY : ¬ X1 = Y1
              · rw [if_neg hXY] at STEP
                have hne1 : (X1 == Y1) = false := by simpa using hXY
                clear hXY
                go_wp2_with fail
                go_region
                go_wp2
                go_ret3
                exact ColA.no STEP.out (BW.out.trans ((below_drewN (Below.refl _ _) _).mono BW.out.size))
              replace hXY := Classical.not_not.1 hXY
              rw [if_pos hXY] at STEP
              subst hXY
              have EQ2 := keep EQ.out
              cases sb with
              | false =>
                have hA := str_add q x
                have hB := str_add r y
                have hA0 := str_add x q
                have hB0 := str_add y r
                rw [show inp false x q = q ++ x from rfl, show inp false y r = r ++ y from rfl] at STEP
                obtain ⟨L1, hL1⟩ : ∃ L1, q ++ x = L1 := ⟨_, rfl⟩
                obtain ⟨R1, hR1⟩ : ∃ R1, r ++ y = R1 := ⟨_, rfl⟩
                have lL : L1.length ≤ 140737488354000 := by rw [← hL1, List.length_append]; omega
                have lR : R1.length ≤ 140737488354000 := by rw [← hR1, List.length_append]; omega
                rw [hL1] at hA STEP
                rw [hR1] at hB STEP
                clear hL1 hR1
                by_cases hLR : ¬ L1 = R1
                · rw [if_neg hLR] at STEP
                  have hne2 : (L1 == R1) = false := by simpa using hLR
                  clear hLR
                  obtain ⟨NL, hNL⟩ : ∃ NL, (1 :: L1).length = NL := ⟨_, rfl⟩
                  obtain ⟨NR, hNR⟩ : ∃ NR, (1 :: R1).length = NR := ⟨_, rfl⟩
                  have HNL := keep hNL
                  have HNR := keep hNR
                  clear hNL hNR
                  have g1 : (⟨#[1]⟩ : ByteArray) ++ ⟨L1.toArray⟩ = ⟨(1 :: L1).toArray⟩ := str_add [1] L1
                  have g2 : (⟨#[1]⟩ : ByteArray) ++ ⟨R1.toArray⟩ = ⟨(1 :: R1).toArray⟩ := str_add [1] R1
                  obtain ⟨L2, hL2⟩ : ∃ L2, 1 :: L1 = L2 := ⟨_, rfl⟩
                  obtain ⟨R2, hR2⟩ : ∃ R2, 1 :: R1 = R2 := ⟨_, rfl⟩
                  rw [hL2] at g1 HNL
                  rw [hR2] at g2 HNR
                  have HL2 := keep hL2
                  have HR2 := keep hR2
                  clear hL2 hR2
                  have BX : Hid (∀ u, Below w.heap.size w u → Below w.heap.size w (Lib.bytesWorld (Lib.bytesWorld u 5 ⟨L2.toArray⟩) 5 ⟨R2.toArray⟩)) := fun u h => (h.trans ((below_bytesWorld _ _).mono h.size)).trans ((below_bytesWorld _ _).mono (Nat.le_trans h.size (below_bytesWorld _ _).size))
                  have cv1 := fun u => conv_str L2 NL HNL.out u
                  have cv2 := fun u => conv_str R2 NR HNR.out u
                  go_wp2_with fail
                  go_region
                  go_wp2_with fail
                  go_region
                  go_wp2_with fail
                  go_region
                  go_wp2_with fail
                  go_region
                  go_wp2_with fail
                  go_region
                  go_wp2
                  go_ret3
                  refine ⟨?_, ?_⟩
                  · rw [STEP.out]
                    exact ⟨_, _, _, _, _, _, rfl, by rw [HL2.out]; exact (Src.converted _ L2 NL HNL.out).below (below_bytesWorld _ _), by rw [HR2.out]; exact Src.converted _ R2 NR HNR.out⟩
                  · exact BX.out _ (by repeat (first | exact BW.out | apply Below.drew))
                replace hLR := Classical.not_not.1 hLR
                rw [if_pos hLR] at STEP
                subst hLR
                go_wp2_with fail
                go_region
                go_wp2_with fail
                go_region
                go_wp2_with fail
                go_region
                go_wp2_with fail
                go_region
                go_wp2_with fail
                go_region
                go_wp2
                go_roundw
                case rel => exact ⟨j, by omega, by go_num, (by repeat (first | exact REST.out.1 | apply Below.drew)), EQ.out.symm.trans STEP.out⟩
                case measure => simp [intOf]
              | true =>
                have hA := str_add x q
                have hB := str_add y r
                rw [show inp true x q = x ++ q from rfl, show inp true y r = y ++ r from rfl] at STEP
                obtain ⟨L1, hL1⟩ : ∃ L1, x ++ q = L1 := ⟨_, rfl⟩
                obtain ⟨R1, hR1⟩ : ∃ R1, y ++ r = R1 := ⟨_, rfl⟩
                have lL : L1.length ≤ 140737488354000 := by rw [← hL1, List.length_append]; omega
                have lR : R1.length ≤ 140737488354000 := by rw [← hR1, List.length_append]; omega
                rw [hL1] at hA STEP
                rw [hR1] at hB STEP
                clear hL1 hR1
                by_cases hLR : ¬ L1 = R1
                · rw [if_neg hLR] at STEP
                  have hne2 : (L1 == R1) = false := by simpa using hLR
                  clear hLR
                  obtain ⟨NL, hNL⟩ : ∃ NL, (1 :: L1).length = NL := ⟨_, rfl⟩
                  obtain ⟨NR, hNR⟩ : ∃ NR, (1 :: R1).length = NR := ⟨_, rfl⟩
                  have HNL := keep hNL
                  have HNR := keep hNR
                  clear hNL hNR
                  have g1 : (⟨#[1]⟩ : ByteArray) ++ ⟨L1.toArray⟩ = ⟨(1 :: L1).toArray⟩ := str_add [1] L1
                  have g2 : (⟨#[1]⟩ : ByteArray) ++ ⟨R1.toArray⟩ = ⟨(1 :: R1).toArray⟩ := str_add [1] R1
                  obtain ⟨L2, hL2⟩ : ∃ L2, 1 :: L1 = L2 := ⟨_, rfl⟩
                  obtain ⟨R2, hR2⟩ : ∃ R2, 1 :: R1 = R2 := ⟨_, rfl⟩
                  rw [hL2] at g1 HNL
                  rw [hR2] at g2 HNR
                  have HL2 := keep hL2
                  have HR2 := keep hR2
                  clear hL2 hR2
                  have BX : Hid (∀ u, Below w.heap.size w u → Below w.heap.size w (Lib.bytesWorld (Lib.bytesWorld u 5 ⟨L2.toArray⟩) 5 ⟨R2.toArray⟩)) := fun u h => (h.trans ((below_bytesWorld _ _).mono h.size)).trans ((below_bytesWorld _ _).mono (Nat.le_trans h.size (below_bytesWorld _ _).size))
                  have cv1 := fun u => conv_str L2 NL HNL.out u
                  have cv2 := fun u => conv_str R2 NR HNR.out u
                  go_wp2_with fail
                  go_region
                  go_wp2_with fail
                  go_region
                  go_wp2_with fail
                  go_region
                  go_wp2
                  go_ret3
                  refine ⟨?_, ?_⟩
                  · rw [STEP.out]
                    exact ⟨_, _, _, _, _, _, rfl, by rw [HL2.out]; exact (Src.converted _ L2 NL HNL.out).below (below_bytesWorld _ _), by rw [HR2.out]; exact Src.converted _ R2 NR HNR.out⟩
                  · exact BX.out _ (by repeat (first | exact BW.out | apply Below.drew))
                replace hLR := Classical.not_not.1 hLR
                rw [if_pos hLR] at STEP
                subst hLR
                go_wp2_with fail
                go_region
                go_wp2_with fail
                go_region
                go_wp2_with fail
                go_region
                go_wp2
                go_roundw
                case rel => exact ⟨j, by omega, by go_num, (by repeat (first | exact REST.out.1 | apply Below.drew)), EQ.out.symm.trans STEP.out⟩
                case measure => simp [intOf]
end Go.Proofs.YtelebhcaljepaabDoor
