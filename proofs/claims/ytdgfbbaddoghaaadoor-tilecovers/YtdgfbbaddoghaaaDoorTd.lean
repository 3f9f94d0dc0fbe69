/- The walks of the program's nodes, New, Cover. -/
import Derived.Test.YtdgfbbaddoghaaaDoorTa
import Derived.Deep.Cut
namespace Go.Proofs.YtdgfbbaddoghaaaDoor
open Go.RowKit
open Mt (Pos)

theorem wrap_at {s y : Nat} (h : s + y ≤ 1099511627776) : wrap64 ((s : Int) + (y : Int)) = ((s + y : Nat) : Int) := by unfold wrap64; omega
theorem shr_div (s k : Nat) : (s : Int) / 2 ^ k = ((s / 2 ^ k : Nat) : Int) := by simp
set_option maxHeartbeats 400000 in
set_option maxRecDepth 100000 in
theorem nodes_any (a b : Nat) (w : World) (hb : b ≤ 1099511627776) (hab : a ≤ b) :
    Calls Tryd.prog 30 #[.int .i64 (a : Int), .int .i64 (b : Int)] w (PosR 41 w (Mt.cov a b)) := by
  obtain ⟨i0, hi0, hz0, hz1, hz2⟩ := info_partsS infoP
  have CS := keep (Mt.cov_short (a := a) (b := b) (by omega))
  have HB := keep hb
  clear hb
  go_enter Tryd.func30, Tryd.ntmps30
  go_wp2
  go_loopw [0, 5, 6] (fun l v _ wr => ∃ (s : Nat) (L : List Pos), l = .int .i64 (s : Int) ∧ s ≤ b ∧ Hid (L ++ Mt.cov s b = Mt.cov a b) ∧ Hid (wr.ownsRow w.heap.size 41 2 v L.length (rv posKind L) ∧ Below w.heap.size w wr)) (fun l _ _ _ => b - (intOf l).toNat)
  case atStart => exact ⟨a, [], rfl, hab, rfl, World.ownsRow_nil _ _ _ _, Below.refl _ _⟩
  case round =>
    obtain ⟨s, L, rfl, hs, hL, hI⟩ := hrel
    obtain ⟨M, hM⟩ : ∃ M, L.length = M := ⟨_, rfl⟩
    rw [hM] at hI
    obtain ⟨vp, vc, hv⟩ := own_is hI.out.1
    subst hv
    have O1 := keep hI.out.1
    have B1 := keep hI.out.2
    clear hI
    by_cases hlt : s < b
    · have cc : (s : Int) < (b : Int) := by omega
      obtain ⟨D, hD⟩ : ∃ D, b - s = D := ⟨_, rfl⟩
      have e1 : (b : Int) - (s : Int) = (D : Int) := by omega
      have hBo := HB.out
      have LN := keep (sh_bits_Len (D : Int) wr (by omega) (by omega))
      rw [Int.toNat_natCast, bitLen_hb (by omega) (by omega)] at LN
      have HL : Hid ((L ++ [(⟨Nat.log2 D, s / 2 ^ Nat.log2 D⟩ : Pos)]) ++ Mt.cov (s + 2 ^ Nat.log2 D) b = Mt.cov a b) := by
        have := hL.out
        rw [Mt.cov_more hlt, hD] at this
        show _ = _
        rw [List.append_assoc]
        exact this
      have hle := Mt.hb_le (n := D) (by omega)
      have hk : Nat.log2 D ≤ 40 := by
        have := (Nat.log2_lt (n := D) (k := 41) (by omega)).2 (by have : (2:Nat) ^ 41 = 2199023255552 := by decide
                                                                  omega)
        omega
      unfold Mt.hb at hle
      obtain ⟨k, hkk⟩ : ∃ k, Nat.log2 D = k := ⟨_, rfl⟩
      rw [hkk] at LN HL hle hk
      have WP := keep (wrap_pow (k := k) (by omega))
      have SR := keep (shr_div s k)
      have hx : s / 2 ^ k ≤ s := Nat.div_le_self _ _
      have hy0 := Nat.two_pow_pos k
      obtain ⟨x, hxx⟩ : ∃ x, s / 2 ^ k = x := ⟨_, rfl⟩
      rw [hxx] at HL SR hx
      obtain ⟨y, hyy⟩ : ∃ y, 2 ^ k = y := ⟨_, rfl⟩
      have HY := keep hyy
      rw [hyy] at HL hle WP hy0
      have HMl : Hid (M + 1 ≤ 41) := by
        have h3 := CS.out
        rw [← HL.out, List.length_append, List.length_append] at h3
        simp only [List.length_cons, List.length_nil, hM] at h3
        show _ ≤ _
        omega
      have HMM := keep hM
      have k1 : ((k + 1 : Nat) : Int) - 1 = (k : Int) := by omega
      have k0 : (0 : Int) ≤ (k : Int) := by omega
      have k2 : (k : Int) ≤ 40 := by omega
      have s0 : (0 : Int) ≤ (s : Int) := by omega
      have s1 : (s : Int) ≤ 1099511627776 := by omega
      have d0 : (0 : Int) ≤ (D : Int) := by omega
      have d1 : (D : Int) ≤ 1099511627776 := by omega
      have hsy : s + y ≤ b := by omega
      have hsy2 := keep hsy
      have WS := keep (wrap_at (s := s) (y := y) (by omega))
      have hyp := keep hy0
      have A1 : Hid (M + 1 ≤ maxLen) := by have := HMl.out; show _ ≤ _; unfold maxLen; omega
      have A2 : Hid ((M + 1) * 16 ≤ 140737488355328) := by have := HMl.out; show _ ≤ _; omega
      have HS1 := keep s1
      clear hD hkk hxx hyy hle hy0 hk hM hL hx hsy hBo hs
      have rc := keep (rec_cells (k := posKind) wr 41 ⟨k, x⟩)
      have b4 := keep (B1.out.alloc B1.out.size (.cells #[.int .i64 (k : Int), .int .i64 (x : Int)] 41))
      have O4 : Hid ((wr.alloc (.cells #[.int .i64 (k : Int), .int .i64 (x : Int)] 41)).ownsRow w.heap.size 41 2 (.slice vp M vc) M (rv posKind L)) := own_next O1.out ((Below.refl _ _).alloc (Nat.le_refl _) _)
      go_wp2_with fail
      refine LN.out.mono ?_
      rintro e w1 ⟨rfl, hw1⟩
      go_wp2_with (at_builtin; rw [SR.out]; go_loud (refine wpList_append_rec posKind_ok rfl _ _ 36 41 rfl w.heap.size i0 _ 16 Tryd.underlying36 hi0 hz0 hz1 hz2 rfl (.slice vp M vc) M L rfl O4.out _ 1 ⟨k, x⟩ rfl rc.out A1.out A2.out b4.out.size ?_); intro v7 w7 ho7 hg7; have O7 := keep ho7; have b7 := keep (b4.out.grown hg7 b4.out.size (fun j hj => (O4.out.lt j hj).1)); clear ho7 hg7)
      go_roundw
      case rel =>
        refine ⟨s + y, L ++ [(⟨k, x⟩ : Pos)], ?_, hsy2.out, HL, ?_, b7.out⟩
        · rw [WP.out, WS.out]
        · rw [List.length_append, HMM.out]
          exact O7.out
      case measure =>
        have := hsy2.out
        have := HB.out
        have := hyp.out
        rw [WP.out, WS.out]
        clear WP WS
        simp [intOf]
        omega
    · have cc : ¬ (s : Int) < (b : Int) := by omega
      have HL : Hid (L = Mt.cov a b) := by
        have := hL.out
        rw [Mt.cov_nil (by omega), List.append_nil] at this
        exact this
      clear hL
      go_wp2
      go_ret
      exact ⟨_, rfl, by rw [← HL.out, hM]; exact O1.out, B1.out⟩
set_option maxHeartbeats 400000 in
set_option maxRecDepth 100000 in
theorem cover_bad (lo hi : Int) (w : World) (h : lo < 0 ∨ hi ≤ lo ∨ 1099511627776 < hi) : Calls Tryd.prog 15 #[.int .i64 lo, .int .i64 hi] w (PosA 41 w [] 8) := by
  go_enter Tryd.func15, Tryd.ntmps15
  by_cases h1 : lo < 0
  · go_wp2
    go_ret2
    exact PosA.none (Below.refl _ _)
  · by_cases h2 : hi ≤ lo
    · go_wp2
      go_ret2
      exact PosA.none (Below.refl _ _)
    · have h3 : (1099511627776 : Int) < hi := by omega
      go_wp2
      go_ret2
      exact PosA.none (Below.refl _ _)
theorem mod_noP {a r : Nat} (h : ¬ r ∣ a) : ((a : Int) % (r : Int) != 0) = true := by
  have e := Int.natCast_emod a r
  have c : ¬ a % r = 0 := fun c => h (Nat.dvd_of_mod_eq_zero c)
  rw [← e]
  simp only [bne_iff_ne, ne_eq]
  omega
theorem mod_yesP {a r : Nat} (h : r ∣ a) : ((a : Int) % (r : Int) != 0) = false := by
  have e := Int.natCast_emod a r
  rw [← e, Nat.mod_eq_zero_of_dvd h]
  rfl
set_option maxHeartbeats 400000 in
set_option maxRecDepth 100000 in
theorem cover_off (a b : Nat) (w : World) (h1 : a < b) (h2 : b ≤ 1099511627776) (h3 : ¬ Mt.rf (b - a) ∣ a) : Calls Tryd.prog 15 #[.int .i64 (a : Int), .int .i64 (b : Int)] w (PosA 41 w [] 8) := by
  have PW := keep (roof_any (b - a) w (by omega) (by omega))
  have HM := mod_noP h3
  have hp := Mt.rf_pos (b - a)
  have hq : Mt.rf (b - a) ≤ 1099511627776 := Mt.rf_le (j := 40) (by show b - a ≤ 1099511627776; omega)
  obtain ⟨r, hr⟩ : ∃ r, Mt.rf (b - a) = r := ⟨_, rfl⟩
  rw [hr] at PW HM hp hq
  obtain ⟨D, hD⟩ : ∃ D, b - a = D := ⟨_, rfl⟩
  have e1 : (b : Int) - (a : Int) = (D : Int) := by omega
  rw [hD] at PW
  have a0 : ¬ (a : Int) < 0 := by omega
  have a1 : ¬ (b : Int) ≤ (a : Int) := by omega
  have a2 : ¬ (1099511627776 : Int) < (b : Int) := by omega
  have r0 : ¬ (r : Int) = 0 := by omega
  have r1 : (r : Int) ≤ 1099511627776 := by omega
  have HH := keep h2
  clear hr hD h2 h3 hp hq
  go_enter Tryd.func15, Tryd.ntmps15
  go_wp2_with fail
  refine PW.out.mono ?_
  rintro e w1 ⟨rfl, rfl⟩
  go_wp2
  go_ret2
  exact PosA.none (Below.refl _ _)
set_option maxHeartbeats 400000 in
set_option maxRecDepth 100000 in
theorem cover_any (a b : Nat) (w : World) (h1 : a < b) (h2 : b ≤ 1099511627776) (h3 : Mt.rf (b - a) ∣ a) : Calls Tryd.prog 15 #[.int .i64 (a : Int), .int .i64 (b : Int)] w (PosA 41 w (Mt.cov a b) 0) := by
  have PW := keep (roof_any (b - a) w (by omega) (by omega))
  have ND := keep (nodes_any a b w h2 (by omega))
  have HM := mod_yesP h3
  have hp := Mt.rf_pos (b - a)
  have hq : Mt.rf (b - a) ≤ 1099511627776 := Mt.rf_le (j := 40) (by show b - a ≤ 1099511627776; omega)
  obtain ⟨r, hr⟩ : ∃ r, Mt.rf (b - a) = r := ⟨_, rfl⟩
  rw [hr] at PW HM hp hq
  obtain ⟨D, hD⟩ : ∃ D, b - a = D := ⟨_, rfl⟩
  have e1 : (b : Int) - (a : Int) = (D : Int) := by omega
  rw [hD] at PW
  have a0 : ¬ (a : Int) < 0 := by omega
  have a1 : ¬ (b : Int) ≤ (a : Int) := by omega
  have a2 : ¬ (1099511627776 : Int) < (b : Int) := by omega
  have r0 : ¬ (r : Int) = 0 := by omega
  have r1 : (r : Int) ≤ 1099511627776 := by omega
  have HH := keep h2
  clear hr hD h2 h3 hp hq
  go_enter Tryd.func15, Tryd.ntmps15
  go_wp2_with fail
  refine PW.out.mono ?_
  rintro e w1 ⟨rfl, rfl⟩
  go_wp2_with fail
  refine ND.out.mono ?_
  rintro e w2 ⟨v, rfl, ho, hb⟩
  obtain ⟨ao, c, rfl⟩ := own_is ho
  have OB : Hid (PosA 41 w1 (Mt.cov a b) 0 (.returned (.tuple #[.slice ao (Mt.cov a b).length c, .int .i64 0])) w2) := ⟨_, rfl, ho, hb⟩
  clear ho hb ND
  go_wp2
  go_ret2
  exact OB.out
end Go.Proofs.YtdgfbbaddoghaaaDoor
