/- The walks of the document's Cover, sure. -/
import Derived.Test.YtdgfbbaddoghaaaTb
import Derived.Deep.Cut
namespace Go.Proofs.Ytdgfbbaddoghaaa
open Go.RowKit
open Mt (Pos)

set_option maxHeartbeats 600000 in
set_option maxRecDepth 100000 in
theorem rcover_any (a b : Nat) (w : World) (h1 : a < b) (h2 : b ≤ 1099511627776) (h3 : Mt.rf (b - a) ∣ a) : Calls Try.prog 11 #[.int .i64 (a : Int), .int .i64 (b : Int)] w (PosA 48 w (Mt.cov a b) 0) := by
  obtain ⟨i0, hi0, hz0, hz1, hz2⟩ := info_partsS infoQ
  have PW := keep (rpower_any (b - a) w (by omega))
  have HM := mod_yes h3
  have hp := Mt.rf_pos (b - a)
  have hq : Mt.rf (b - a) ≤ 1099511627776 := Mt.rf_le (j := 40) (by show b - a ≤ 1099511627776; omega)
  have h241 : (2 : Nat) ^ 41 = 2199023255552 := by decide
  have CA := keep (Mt.covD_all (a := a) (b := b) (k := 41) (by omega) (by omega))
  have CS := keep (Mt.cov_short (a := a) (b := b) (by omega))
  obtain ⟨r, hr⟩ : ∃ r, Mt.rf (b - a) = r := ⟨_, rfl⟩
  rw [hr] at PW HM hp hq
  obtain ⟨D, hD⟩ : ∃ D, b - a = D := ⟨_, rfl⟩
  have e1 : (b : Int) - (a : Int) = (D : Int) := by omega
  rw [hD] at PW CA
  have a0 : ¬ (a : Int) < 0 := by omega
  have a1 : ¬ (b : Int) ≤ (a : Int) := by omega
  have a2 : ¬ (1099511627776 : Int) < (b : Int) := by omega
  have r0 : ¬ (r : Int) = 0 := by omega
  have r1 : (r : Int) ≤ 1099511627776 := by omega
  have HD : Hid (D ≤ 1099511627776) := by show _ ≤ _; omega
  have HA : Hid (a ≤ 1099511627776) := by show _ ≤ _; omega
  clear hr hD h1 h2 h3 hp hq h241
  go_enter Try.func11, Try.ntmps11
  go_wp2_with fail
  refine PW.out.mono ?_
  rintro e w1 ⟨rfl, rfl⟩
  go_wp2
  go_loopw [6, 7, 8, 9] (fun v t l _ wr => ∃ (j s : Nat) (L : List Pos), l = .int .i64 ((j : Int) - 1) ∧ t = .int .i64 (s : Int) ∧ j ≤ 41 ∧ Hid (L ++ Mt.covD j s D = Mt.cov a b ∧ s + 2 ^ j ≤ a + 2 ^ 41) ∧ Hid (wr.ownsRow w1.heap.size 48 2 v L.length (rv posKind L) ∧ Below w1.heap.size w1 wr)) (fun _ _ l _ _ => (intOf l + 1).toNat)
  case atStart => exact ⟨41, a, [], by first | rfl | go_num, rfl, Nat.le_refl _, ⟨CA.out, Nat.le_refl _⟩, World.ownsRow_nil _ _ _ _, Below.refl _ _⟩
  case round =>
    clear a0 a1 a2 r0 r1 PW HM CA
    obtain ⟨j, s, L, rfl, rfl, hj, hL, hI⟩ := hrel
    cases j with
    | zero =>
      have E : Hid (L = Mt.cov a b) := by
        have := hL.out.1
        rw [show Mt.covD 0 s D = [] from rfl, List.append_nil] at this
        exact this
      obtain ⟨vp, vc, hv⟩ := own_is hI.out.1
      subst hv
      have OI := keep hI.out
      clear hI hL
      go_wp2
      go_ret2
      exact ⟨_, rfl, by rw [← E.out]; exact OI.out.1, OI.out.2⟩
    | succ j =>
      obtain ⟨M, hM⟩ : ∃ M, L.length = M := ⟨_, rfl⟩
      rw [hM] at hI
      obtain ⟨vp, vc, hv⟩ := own_is hI.out.1
      subst hv
      have O1 := keep hI.out.1
      have B1 := keep hI.out.2
      have l1 : ((j + 1 : Nat) : Int) - 1 = (j : Int) := by omega
      rw [l1]
      have WP0 := keep (wrap_pow (k := j) (by omega))
      have hp := Nat.two_pow_pos j
      have hy40 : 2 ^ j ≤ 2 ^ 40 := Nat.pow_le_pow_right (by decide) (by omega)
      have h40 : (2 : Nat) ^ 40 = 1099511627776 := by decide
      have h41 : (2 : Nat) ^ 41 = 2199023255552 := by decide
      have hs := hL.out.2
      rw [h41, Nat.pow_succ] at hs
      rw [h40] at hy40
      have j0 : (0 : Int) ≤ (j : Int) := by omega
      have q1 : Int.tdiv (D : Int) ((2 ^ j : Nat) : Int) = ((D / 2 ^ j : Nat) : Int) := (Int.ofNat_tdiv D (2 ^ j)).symm
      have x1 : Int.tdiv (s : Int) ((2 ^ j : Nat) : Int) = ((s / 2 ^ j : Nat) : Int) := (Int.ofNat_tdiv s (2 ^ j)).symm
      have hq2 : D / 2 ^ j ≤ D := Nat.div_le_self _ _
      have hx2 : s / 2 ^ j ≤ s := Nat.div_le_self _ _
      have HDo := HD.out
      have HAo := HA.out
      by_cases ho : D / 2 ^ j % 2 = 1
      · have HL : Hid ((L ++ [(⟨j, s / 2 ^ j⟩ : Pos)]) ++ Mt.covD j (s + 2 ^ j) D = Mt.cov a b ∧ s + 2 ^ j + 2 ^ j ≤ a + 2 ^ 41) := by
          refine ⟨?_, by rw [h41]; omega⟩
          have := hL.out.1
          rw [Mt.covD_yes ho] at this
          rw [List.append_assoc]
          exact this
        have HML : Hid (M + 1 ≤ 41) := by
          have h3 := CS.out
          rw [← HL.out.1, List.length_append, List.length_append] at h3
          simp only [List.length_cons, List.length_nil, hM] at h3
          show _ ≤ _
          omega
        obtain ⟨y, hy⟩ : ∃ y, 2 ^ j = y := ⟨_, rfl⟩
        have HY := keep hy
        have HMM := keep hM
        rw [hy] at WP0 hp hy40 hs q1 x1 hq2 hx2 ho
        obtain ⟨q, hq⟩ : ∃ q, D / y = q := ⟨_, rfl⟩
        rw [hq] at q1 hq2 ho
        obtain ⟨x, hx⟩ : ∃ x, s / y = x := ⟨_, rfl⟩
        rw [hx] at x1 hx2
        rw [hy, hx] at HL
        have p1 : Int.tmod (q : Int) 2 = 1 := by have e := Int.ofNat_tmod q 2; rw [ho] at e; exact e.symm
        have y0 : ¬ (y : Int) = 0 := by omega
        have y1 : (y : Int) ≤ 1099511627776 := by omega
        have q0 : (q : Int) ≤ 1099511627776 := by omega
        have d1 : (D : Int) ≤ 1099511627776 := by omega
        have x0 : (x : Int) ≤ 4398046511104 := by omega
        have s0 : (s : Int) ≤ 4398046511104 := by omega
        have HMo := HML.out
        have W1 : ((s + y : Nat) : Int) = (s : Int) + (y : Int) := by omega
        have W2 := keep W1
        clear hI hL hy hq hx hs hp hy40 ho hq2 hx2 h40 h41 hM l1 HDo HAo W1
        have A1 : Hid (M + 1 ≤ maxLen) := by show _ ≤ _; unfold maxLen; omega
        have A2 : Hid ((M + 1) * 16 ≤ 140737488355328) := by show _ ≤ _; omega
        have rc := keep (rec_cells (k := posKind) wr 48 ⟨j, x⟩)
        have b4 := keep (B1.out.alloc B1.out.size (.cells #[.int .i64 (j : Int), .int .i64 (x : Int)] 48))
        have O4 : Hid ((wr.alloc (.cells #[.int .i64 (j : Int), .int .i64 (x : Int)] 48)).ownsRow w1.heap.size 48 2 (.slice vp M vc) M (rv posKind L)) := own_next O1.out ((Below.refl _ _).alloc (Nat.le_refl _) _)
        go_upto_region 9 with fail
        rw [WP0.out]
        go_wp2_with (at_builtin; go_loud (refine wpList_append_rec posKind_ok rfl _ _ 27 48 rfl w1.heap.size i0 _ 16 Try.underlying27 hi0 hz0 hz1 hz2 rfl (.slice vp M vc) M L rfl O4.out _ 1 ⟨j, x⟩ rfl rc.out A1.out A2.out b4.out.size ?_); intro v7 w7 ho7 hg7; have O7 := keep ho7; have b7 := keep (b4.out.grown hg7 b4.out.size (fun j hj => (O4.out.lt j hj).1)); clear ho7 hg7)
        go_roundw
        case rel =>
          refine ⟨j, s + y, L ++ [(⟨j, x⟩ : Pos)], by first | rfl | go_num, by first | rfl | (rw [W2.out]; done) | (rw [W2.out]; go_num), by omega, (by rw [HY.out]; exact HL), ?_, b7.out⟩
          rw [List.length_append, HMM.out]
          exact O7.out
        case measure => simp [intOf]
      · have HL : Hid (L ++ Mt.covD j s D = Mt.cov a b ∧ s + 2 ^ j ≤ a + 2 ^ 41) := by
          refine ⟨?_, by rw [h41]; omega⟩
          have := hL.out.1
          rw [Mt.covD_no ho] at this
          exact this
        obtain ⟨y, hy⟩ : ∃ y, 2 ^ j = y := ⟨_, rfl⟩
        rw [hy] at WP0 hp hy40 hs q1 x1 hq2 hx2 ho
        obtain ⟨q, hq⟩ : ∃ q, D / y = q := ⟨_, rfl⟩
        rw [hq] at q1 hq2 ho
        have p1 : ¬ (q : Int) % 2 = 1 := by omega
        have p3 : ((q : Int) % 2 == 1) = false := beq_eq_false_iff_ne.2 (by omega)
        clear p1
        have y0 : ¬ (y : Int) = 0 := by omega
        have y1 : (y : Int) ≤ 1099511627776 := by omega
        have q0 : (q : Int) ≤ 1099511627776 := by omega
        have d1 : (D : Int) ≤ 1099511627776 := by omega
        clear hI hL hy hq hs hp hy40 ho hq2 hx2 h40 h41 x1 l1 HDo HAo
        go_upto_region 9 with fail
        rw [WP0.out]
        go_wp2
        go_roundw
        case rel => exact ⟨j, s, L, by first | rfl | go_num, rfl, by omega, HL, by rw [hM]; exact O1.out, B1.out⟩
        case measure => simp [intOf]
set_option maxHeartbeats 1000000 in
set_option maxRecDepth 100000 in
theorem rsure_any (a b : Nat) (w : World) (h1 : a < b) (h2 : b ≤ 1099511627776) (h3 : Mt.rf (b - a) ∣ a) : Calls Try.prog 31 #[.int .i64 (a : Int), .int .i64 (b : Int)] w (PosR 48 w (Mt.cov a b)) := by
  have RC := keep (rcover_any a b w h1 h2 h3)
  clear h1 h2 h3
  go_enter Try.func31, Try.ntmps31
  go_wp2_with fail
  refine RC.out.mono ?_
  rintro e w1 ⟨v, rfl, ho, hb⟩
  obtain ⟨ao, c, rfl⟩ := own_is ho
  have OB : Hid (PosR 48 w (Mt.cov a b) (.returned (.slice ao (Mt.cov a b).length c)) w1) := ⟨_, rfl, ho, hb⟩
  clear ho hb RC
  go_wp2
  go_ret
  exact OB.out
end Go.Proofs.Ytdgfbbaddoghaaa
