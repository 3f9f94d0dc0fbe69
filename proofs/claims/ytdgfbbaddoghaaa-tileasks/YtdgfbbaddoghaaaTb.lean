/- The walks of the document's power, New, Cover, sure. -/
import Derived.Test.YtdgfbbaddoghaaaTk
import Derived.Test.YtdgfbbaddoghaaaKa
namespace Go.Proofs.Ytdgfbbaddoghaaa
open Go.RowKit
open Mt (Pos)

theorem infoQ : (Try.prog.info? 48).map (fun i => (i.zero, i.size, i.bytes)) = some (some (.agg #[.int .i64 0, .int .i64 0]), 2, 16) := by kernel_rfl
set_option maxHeartbeats 1000000 in
set_option maxRecDepth 100000 in
theorem rpower_any (n : Nat) (w : World) (hn : n ≤ 1099511627776) :
    Calls Try.prog 20 #[.int .i64 (n : Int)] w fun e w' => e = .returned (.int .i64 (Mt.rf n : Int)) ∧ w' = w := by
  have HL := keep (Mt.le_lv n)
  have HE := keep (show ∀ j, n ≤ 2 ^ j → Mt.lv n ≤ j from fun j h => Mt.lv_le h)
  go_enter Try.func20, Try.ntmps20
  go_wp2
  go_loopw [3] (fun i wr => ∃ k : Nat, i = .int .i64 (k : Int) ∧ Hid (∃ j, k = 2 ^ j ∧ j ≤ Mt.lv n) ∧ 1 ≤ k ∧ k ≤ 1099511627776 ∧ wr = w) (fun i _ => n - (intOf i).toNat)
  case atStart => exact ⟨1, rfl, ⟨0, rfl, Nat.zero_le _⟩, by omega, by omega, rfl⟩
  case round =>
    obtain ⟨k, rfl, hj, hk1, hkn, rfl⟩ := hrel
    by_cases hc : k < n
    · have cc : (k : Int) < (n : Int) := by omega
      have HN : Hid (∃ j, 2 * k = 2 ^ j ∧ j ≤ Mt.lv n) := by
        obtain ⟨j, rfl, h2⟩ := hj.out
        refine ⟨j + 1, by rw [Nat.pow_succ]; omega, ?_⟩
        rcases Nat.lt_or_ge j (Mt.lv n) with h | h
        · exact h
        · have h3 : Mt.lv n = j := by omega
          have h4 := HL.out
          rw [h3] at h4
          omega
      have HK : 2 * k ≤ 1099511627776 := by
        obtain ⟨j, hj1, hj2⟩ := HN.out
        have h40 := lv_40 hn
        rw [hj1]
        exact Nat.le_trans (Nat.pow_le_pow_right (by decide) (Nat.le_trans hj2 h40)) (by decide)
      go_wp2
      go_roundw
      case rel => exact ⟨2 * k, by go_num, HN, by omega, HK, by first | rfl | trivial⟩
      case measure => simp [intOf]; omega
    · have cc : ¬ (k : Int) < (n : Int) := by omega
      have E : Hid (k = Mt.rf n) := by
        obtain ⟨j, hj1, hj2⟩ := hj.out
        have h5 := HE.out j (by omega)
        show k = 2 ^ Mt.lv n
        rw [hj1, show j = Mt.lv n by omega]
      go_wp2
      go_ret
      exact ⟨by rw [E.out]; rfl, rfl⟩
set_option maxHeartbeats 1000000 in
set_option maxRecDepth 100000 in
theorem rnew_no (size : Int) (w : World) (h : size < 0 ∨ 1099511627776 ≤ size) : Calls Try.prog 7 #[.int .i64 size] w (PosA 48 w [] 8) := by
  go_enter Try.func7, Try.ntmps7
  by_cases h1 : size < 0
  · go_wp2
    go_ret2
    exact PosA.none (Below.refl _ _)
  · have h2 : (1099511627776 : Int) ≤ size := by omega
    go_wp2
    go_ret2
    exact PosA.none (Below.refl _ _)
set_option maxHeartbeats 2000000 in
set_option maxRecDepth 100000 in
theorem rnew_any (n : Nat) (w : World) (hn : n < 1099511627776) : Calls Try.prog 7 #[.int .i64 (n : Int)] w (PosA 48 w (Mt.ups 0 n) 0) := by
  obtain ⟨i0, hi0, hz0, hz1, hz2⟩ := info_partsS infoQ
  have SH := keep (Mt.ups_short hn)
  have HN := keep hn
  have n0 : ¬ (n : Int) < 0 := by omega
  have n1 : ¬ (1099511627776 : Int) ≤ (n : Int) := by omega
  have O0 : Hid ((w.alloc (.cells #[.int .i64 0, .int .i64 (n : Int)] 48)).ownsRow w.heap.size 48 2 (.slice (some ⟨w.heap.size, 0, none⟩) 1 1) 1 (rv posKind [(⟨0, n⟩ : Pos)])) :=
    ⟨by simp [rv, posKind], .inr ⟨_, _, _, rfl, Nat.le_refl _, heap_alloc_new w _, Nat.le_refl _, by decide, by simp, by simp [rv, posKind]⟩⟩
  have B0 : Hid (Below w.heap.size w (w.alloc (.cells #[.int .i64 0, .int .i64 (n : Int)] 48))) := (Below.refl _ _).alloc (Nat.le_refl _) _
  go_enter Try.func7, Try.ntmps7
  go_wp2
  go_loopw [4, 5] (fun v i wr => ∃ (k : Nat) (L : List Pos), i = .int .i64 (k : Int) ∧ k ≤ n ∧ Hid (∃ l, L.length + 1 = l + 1 ∧ Mt.ups 0 n = L ++ Mt.ups l k) ∧ Hid (wr.ownsRow w.heap.size 48 2 v (L.length + 1) (rv posKind (L ++ [(⟨L.length, k⟩ : Pos)])) ∧ Below w.heap.size w wr)) (fun _ i _ => (intOf i).toNat)
  case atStart => exact ⟨n, [], rfl, Nat.le_refl _, ⟨0, rfl, rfl⟩, O0.out, B0.out⟩
  case round =>
    clear O0 B0 n0 n1 hn
    obtain ⟨k, L, rfl, hkn, hL, hI⟩ := hrel
    obtain ⟨M, hM⟩ : ∃ M, L.length = M := ⟨_, rfl⟩
    rw [hM] at hI
    obtain ⟨vp, vc, hv⟩ := own_is hI.out.1
    subst hv
    by_cases ho : k % 2 = 1
    · have h1 : Int.tmod (k : Int) 2 = 1 := by have := Int.ofNat_tmod k 2; rw [ho] at this; exact this.symm
      have h2 : Int.tdiv (k : Int) 2 = ((k / 2 : Nat) : Int) := (Int.ofNat_tdiv k 2).symm
      have HL : Hid (Mt.ups 0 n = (L ++ [(⟨M, k⟩ : Pos)]) ++ Mt.ups (M + 1) (k / 2)) := by
        obtain ⟨l, hl, e⟩ := hL.out
        have : l = M := by omega
        subst this
        show _ = _
        rw [e, Mt.ups_odd ho, List.append_assoc]
        rfl
      have HM : Hid (M + 1 ≤ 41) := by
        have h3 := SH.out
        have h4 := Mt.ups_pos (M + 1) (k / 2)
        rw [HL.out, List.length_append, List.length_append] at h3
        simp only [List.length_cons, List.length_nil, hM] at h3
        show _ ≤ _
        omega
      have hMb := HM.out
      have O1 := keep hI.out.1
      have B1 := keep hI.out.2
      obtain ⟨q, hq⟩ : ∃ q, k / 2 = q := ⟨_, rfl⟩
      rw [hq] at h2 HL
      have hqk : q < k := by omega
      have q1 : (q : Int) ≤ 1099511627776 := by have := HN.out; omega
      have m1 : IntKind.i64.wrap ((M : Int) + 1) = (M : Int) + 1 := wrap_small _ (by omega) (by omega)
      clear hI hL hq
      have rc := keep (rec_cells (k := posKind) wr 48 ⟨M + 1, q⟩)
      have b4 := keep (B1.out.alloc B1.out.size (.cells #[.int .i64 ((M + 1 : Nat) : Int), .int .i64 (q : Int)] 48))
      have O4 : Hid ((wr.alloc (.cells #[.int .i64 ((M + 1 : Nat) : Int), .int .i64 (q : Int)] 48)).ownsRow w.heap.size 48 2 (.slice vp (M + 1) vc) (M + 1) (rv posKind (L ++ [(⟨M, k⟩ : Pos)]))) := own_next O1.out ((Below.refl _ _).alloc (Nat.le_refl _) _)
      go_wp2_with (at_builtin; go_loud (refine wpList_append_rec posKind_ok rfl _ _ 27 48 rfl w.heap.size i0 _ 16 Try.underlying27 hi0 hz0 hz1 hz2 rfl (.slice vp (M + 1) vc) (M + 1) (L ++ [(⟨M, k⟩ : Pos)]) rfl O4.out _ 1 ⟨M + 1, q⟩ rfl rc.out (by unfold maxLen; omega) (by omega) b4.out.size ?_); intro v7 w7 ho7 hg7; have O7 := keep ho7; have b7 := keep (b4.out.grown hg7 b4.out.size (fun j hj => (O4.out.lt j hj).1)); clear ho7 hg7)
      go_roundw
      case rel =>
        refine ⟨q, L ++ [(⟨M, k⟩ : Pos)], rfl, by omega, ⟨M + 1, by rw [List.length_append, hM]; rfl, HL.out⟩, ?_, b7.out⟩
        rw [List.length_append, hM]
        exact O7.out
      case measure => simp [intOf]; omega
    · have h1 : ¬ Int.tmod (k : Int) 2 = 1 := fun c => by have e := Int.ofNat_tmod k 2; have c2 : ((k % 2 : Nat) : Int) = 1 := e.trans c; omega
      have HL : Hid (Mt.ups 0 n = L ++ [(⟨M, k⟩ : Pos)]) := by
        obtain ⟨l, hl, e⟩ := hL.out
        have : l = M := by omega
        subst this
        show _ = _
        rw [e, Mt.ups_even ho]
      have O1 := keep hI.out.1
      have B1 := keep hI.out.2
      clear hI hL
      go_wp2
      go_ret2
      refine ⟨_, rfl, ?_, B1.out⟩
      rw [HL.out, List.length_append, hM]
      exact O1.out
set_option maxHeartbeats 1000000 in
set_option maxRecDepth 100000 in
theorem rcover_bad (lo hi : Int) (w : World) (h : lo < 0 ∨ hi ≤ lo ∨ 1099511627776 < hi) : Calls Try.prog 11 #[.int .i64 lo, .int .i64 hi] w (PosA 48 w [] 8) := by
  go_enter Try.func11, Try.ntmps11
  by_cases h1 : lo < 0
  · go_wp2
    go_ret2
    exact PosA.none (Below.refl _ _)
  · by_cases h2 : hi ≤ lo
    · go_wp2
      go_ret2
      exact PosA.none (Below.refl _ _)
    · have h3 : (1099511627776 : Int) < hi := by omega
      go_wp2
      go_ret2
      exact PosA.none (Below.refl _ _)
theorem mod_no {a r : Nat} (h : ¬ r ∣ a) : ((a : Int) % (r : Int) != 0) = true := by
  have e := Int.natCast_emod a r
  have c : ¬ a % r = 0 := fun c => h (Nat.dvd_of_mod_eq_zero c)
  rw [← e]
  simp only [bne_iff_ne, ne_eq]
  omega
theorem mod_yes {a r : Nat} (h : r ∣ a) : ((a : Int) % (r : Int) != 0) = false := by
  have e := Int.natCast_emod a r
  rw [← e, Nat.mod_eq_zero_of_dvd h]
  rfl
set_option maxHeartbeats 1000000 in
set_option maxRecDepth 100000 in
theorem rcover_off (a b : Nat) (w : World) (h1 : a < b) (h2 : b ≤ 1099511627776) (h3 : ¬ Mt.rf (b - a) ∣ a) : Calls Try.prog 11 #[.int .i64 (a : Int), .int .i64 (b : Int)] w (PosA 48 w [] 8) := by
  have PW := keep (rpower_any (b - a) w (by omega))
  have HM := mod_no h3
  have hp := Mt.rf_pos (b - a)
  have hq : Mt.rf (b - a) ≤ 1099511627776 := Mt.rf_le (j := 40) (by show b - a ≤ 1099511627776; omega)
  obtain ⟨r, hr⟩ : ∃ r, Mt.rf (b - a) = r := ⟨_, rfl⟩
  rw [hr] at PW HM hp hq
  obtain ⟨D, hD⟩ : ∃ D, b - a = D := ⟨_, rfl⟩
  have e1 : (b : Int) - (a : Int) = (D : Int) := by omega
  rw [hD] at PW
  have a0 : ¬ (a : Int) < 0 := by omega
  have a1 : ¬ (b : Int) ≤ (a : Int) := by omega
  have a2 : ¬ (1099511627776 : Int) < (b : Int) := by omega
  have r0 : ¬ (r : Int) = 0 := by omega
  have r1 : (r : Int) ≤ 1099511627776 := by omega
  have HH := keep h2
  clear hr hD h2 h3 hp hq
  go_enter Try.func11, Try.ntmps11
  go_wp2_with fail
  refine PW.out.mono ?_
  rintro e w1 ⟨rfl, rfl⟩
  go_wp2
  go_ret2
  exact PosA.none (Below.refl _ _)
end Go.Proofs.Ytdgfbbaddoghaaa
