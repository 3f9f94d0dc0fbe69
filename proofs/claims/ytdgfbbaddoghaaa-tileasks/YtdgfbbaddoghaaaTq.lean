/- The walk of TileAsks. -/
import Derived.Test.YtdgfbbaddoghaaaTv
import Derived.Test.YtdgfbbaddoghaaaTh6
import Derived.Test.YtdgfbbaddoghaaaTi
namespace Go.Proofs.Ytdgfbbaddoghaaa
open Go.RowKit
open Mt (Pos)

/-- A slice of nodes, and what it reads as. -/
theorem PosA.src {T : TypeId} {w w' : World} {ps : List Pos} {v : Value} (ho : w'.ownsRow w.heap.size T 2 v ps.length (rv posKind ps)) : ∃ ao c, v = .slice ao ps.length c ∧ RSrc posKind w' ao ps.length c ps := by
  obtain ⟨ao, c, e, h, _⟩ := RSrc.own posKind_ok ho (fun _ _ => trivial)
  exact ⟨ao, c, e, h⟩
theorem new_both (size : Int) : ∃ (ps : List Pos) (er : Int), ps.length ≤ 41 ∧ (∀ w, Calls Try.prog 6 #[.int .i64 size] w (PosA 45 w ps er)) ∧ ∀ w, Calls Try.prog 7 #[.int .i64 size] w (PosA 48 w ps er) := by
  by_cases h : size < 0 ∨ 1099511627776 ≤ size
  · exact ⟨[], 8, by decide, fun w => new_no size w h, fun w => rnew_no size w h⟩
  · obtain ⟨n, rfl⟩ : ∃ n : Nat, size = (n : Int) := ⟨size.toNat, by omega⟩
    exact ⟨_, 0, Mt.ups_short (by omega), fun w => new_any n w (by omega), fun w => rnew_any n w (by omega)⟩
theorem cover_both (lo hi : Int) : ∃ (ps : List Pos) (er : Int), ps.length ≤ 41 ∧ (∀ w, Calls Try.prog 10 #[.int .i64 lo, .int .i64 hi] w (PosA 45 w ps er)) ∧ ∀ w, Calls Try.prog 11 #[.int .i64 lo, .int .i64 hi] w (PosA 48 w ps er) := by
  by_cases h : lo < 0 ∨ hi ≤ lo ∨ 1099511627776 < hi
  · exact ⟨[], 8, by decide, fun w => cover_bad lo hi w h, fun w => rcover_bad lo hi w h⟩
  · obtain ⟨a, rfl⟩ : ∃ n : Nat, lo = (n : Int) := ⟨lo.toNat, by omega⟩
    obtain ⟨b, rfl⟩ : ∃ n : Nat, hi = (n : Int) := ⟨hi.toNat, by omega⟩
    by_cases hal : Mt.rf (b - a) ∣ a
    · exact ⟨_, 0, Mt.cov_short (a := a) (b := b) (by omega), fun w => cover_any a b w (by omega) (by omega) hal, fun w => rcover_any a b w (by omega) (by omega) hal⟩
    · exact ⟨[], 8, by decide, fun w => cover_off a b w (by omega) (by omega) hal, fun w => rcover_off a b w (by omega) (by omega) hal⟩
theorem wayN_short {E : Nat → Nat → Bool} {i n : Nat} (hE : ∀ a, a ≤ i → i < a + 1 → E a (a + 1) = true) (hi : i < n) (hn : n ≤ 1099511627776) : (wayN (Mt.way E i 0 n).1).length ≤ 40 ∧ ∀ p ∈ wayN (Mt.way E i 0 n).1, p.length ≤ 41 := by
  have WI := Mt.way_in (E := E) (i := i) hE n 0 n (by omega) (Nat.zero_le _) hi
  refine ⟨by rw [wayN_len]; exact Nat.le_trans WI.2.2.2 (lv_40 hn), fun p hp => ?_⟩
  unfold wayN at hp
  obtain ⟨s, hs, rfl⟩ := List.mem_map.1 hp
  have := WI.1 s hs
  exact Mt.cov_short (by omega)
theorem path_both (i n : Int) : ∃ (ps : List (List Pos)) (er : Int), ps.length ≤ 41 ∧ (∀ p ∈ ps, p.length ≤ 41) ∧ (∀ w, Calls Try.prog 12 #[.int .i64 i, .int .i64 n] w (RowsA 45 23 w ps er)) ∧ ∀ w, Calls Try.prog 13 #[.int .i64 i, .int .i64 n] w (RowsA 48 27 w ps er) := by
  by_cases h : n < 1 ∨ 1099511627776 < n ∨ i < 0 ∨ n ≤ i
  · exact ⟨[], 8, by decide, fun p hp => (by cases hp), fun w => pathnodes_bad i n w h, fun w => rpathnodes_bad i n w h⟩
  · obtain ⟨a, rfl⟩ : ∃ k : Nat, i = (k : Int) := ⟨i.toNat, by omega⟩
    obtain ⟨b, rfl⟩ : ∃ k : Nat, n = (k : Int) := ⟨n.toNat, by omega⟩
    have WS := wayN_short (E := Mt.leafE) (i := a) (n := b) (fun a h1 h2 => Mt.leafE_one a h1 h2) (by omega) (by omega)
    exact ⟨_, 0, Nat.le_succ_of_le WS.1, WS.2, fun w => pathnodes_any a b w (by omega) (by omega), fun w => rpathnodes_any a b w (by omega) (by omega)⟩
theorem proof_both (m n : Int) : ∃ (ps : List (List Pos)) (er : Int), ps.length ≤ 41 ∧ (∀ p ∈ ps, p.length ≤ 41) ∧ (∀ w, Calls Try.prog 14 #[.int .i64 m, .int .i64 n] w (RowsA 45 23 w ps er)) ∧ ∀ w, Calls Try.prog 15 #[.int .i64 m, .int .i64 n] w (RowsA 48 27 w ps er) := by
  by_cases h : m < 1 ∨ n < m ∨ 1099511627776 < n
  · exact ⟨[], 8, by decide, fun p hp => (by cases hp), fun w => proofnodes_bad m n w h, fun w => rproofnodes_bad m n w h⟩
  · obtain ⟨a, rfl⟩ : ∃ k : Nat, m = (k : Int) := ⟨m.toNat, by omega⟩
    obtain ⟨b, rfl⟩ : ∃ k : Nat, n = (k : Int) := ⟨n.toNat, by omega⟩
    have h1 : 1 ≤ a := by omega
    have WS := wayN_short (E := Mt.endE a) (i := a - 1) (n := b) (fun c h2 h3 => Mt.endE_one h1 c h2 h3) (by omega) (by omega)
    have WI := Mt.way_in (E := Mt.endE a) (i := a - 1) (fun c h2 h3 => Mt.endE_one h1 c h2 h3) b 0 b (by omega) (Nat.zero_le _) (by omega)
    refine ⟨subN a true 0 b, 0, sub_len41 h1 (Nat.zero_le _) (by omega) (by omega) true, fun p hp => ?_, fun w => proofnodes_any a b w h1 (by omega) (by omega), fun w => rproofnodes_any a b w h1 (by omega) (by omega)⟩
    unfold subN at hp
    rcases List.mem_append.1 hp with hp | hp
    · split at hp
      · cases hp
      · rw [List.mem_singleton.1 hp]
        exact Mt.cov_short (by omega)
    · exact WS.2 p hp
set_option maxHeartbeats 1000000 in
set_option maxRecDepth 100000 in
theorem asks_walk (size lo hi index m : Int) (w : World) : Calls Try.prog 3 #[.int .i64 size, .int .i64 lo, .int .i64 hi, .int .i64 index, .int .i64 m] w fun e w' => e = .returned (.bool true) ∧ Below w.heap.size w w' := by
  have AW := keep (awake_any w)
  obtain ⟨p1, r1, l1, N1, N2⟩ := new_both size
  obtain ⟨p2, r2, l2, C1, C2⟩ := cover_both lo hi
  obtain ⟨p3, r3, l3, k3, P1, P2⟩ := path_both index size
  obtain ⟨p4, r4, l4, k4, Q1, Q2⟩ := proof_both m size
  have N1 := keep N1
  have N2 := keep N2
  have C1 := keep C1
  have C2 := keep C2
  have P1 := keep P1
  have P2 := keep P2
  have Q1 := keep Q1
  have Q2 := keep Q2
  have l1 := keep l1
  have l2 := keep l2
  have l3 := keep l3
  have l4 := keep l4
  have k3 := keep k3
  have k4 := keep k4
  go_enter Try.func3, Try.ntmps3
  go_wp2_with fail
  refine AW.out.mono ?_
  rintro e w1 ⟨rfl, hb1⟩
  have B1 := keep hb1
  clear hb1 AW
  go_wp2_with fail
  refine (N1.out w1).mono ?_
  rintro e w2 ⟨v2, rfl, ho2, hb2⟩
  obtain ⟨a2, c2, rfl, s2⟩ := PosA.src ho2
  have S2 := keep s2
  have B2 := keep (B1.out.trans (hb2.mono B1.out.size))
  clear ho2 hb2 N1 s2 B1
  go_wp2_with fail
  refine (N2.out w2).mono ?_
  rintro e w3 ⟨v3, rfl, ho3, hb3⟩
  obtain ⟨a3, c3, rfl, s3⟩ := PosA.src ho3
  have S3 := keep s3
  have S2b := keep (S2.out.below posKind_ok hb3)
  have B3 := keep (B2.out.trans (hb3.mono B2.out.size))
  clear ho3 hb3 N2 s3 B2 S2
  go_wp2_with fail
  refine (row_any a2 p1.length c2 p1 w3 S2b.out (by have := l1.out; omega)).mono ?_
  rintro e w4 ⟨v4, rfl, ho4, hb4⟩
  obtain ⟨a4, c4, rfl, s4⟩ := PosA.src ho4
  have S4 := keep s4
  have S3b := keep (S3.out.below posKind_ok hb4)
  have B4 := keep (B3.out.trans (hb4.mono B3.out.size))
  clear ho4 hb4 s4 B3 S3 S2b
  go_wp2_with fail
  refine (rsamerow_yes a4 p1.length c4 p1 a3 c3 w4 S4.out S3b.out (by have := l1.out; omega)).mono ?_
  rintro e w5 ⟨rfl, hb5⟩
  have B5 := keep (B4.out.trans (hb5.mono B4.out.size))
  clear hb5 S4 S3b B4
  go_wp2_with fail
  refine (C1.out w5).mono ?_
  rintro e w6 ⟨v6, rfl, ho6, hb6⟩
  obtain ⟨a6, c6, rfl, s6⟩ := PosA.src ho6
  have S6 := keep s6
  have B6 := keep (B5.out.trans (hb6.mono B5.out.size))
  clear ho6 hb6 C1 s6 B5
  go_wp2_with fail
  refine (C2.out w6).mono ?_
  rintro e w7 ⟨v7, rfl, ho7, hb7⟩
  obtain ⟨a7, c7, rfl, s7⟩ := PosA.src ho7
  have S7 := keep s7
  have S6b := keep (S6.out.below posKind_ok hb7)
  have B7 := keep (B6.out.trans (hb7.mono B6.out.size))
  clear ho7 hb7 C2 s7 B6 S6
  go_wp2_with fail
  refine (row_any a6 p2.length c6 p2 w7 S6b.out (by have := l2.out; omega)).mono ?_
  rintro e w8 ⟨v8, rfl, ho8, hb8⟩
  obtain ⟨a8, c8, rfl, s8⟩ := PosA.src ho8
  have S8 := keep s8
  have S7b := keep (S7.out.below posKind_ok hb8)
  have B8 := keep (B7.out.trans (hb8.mono B7.out.size))
  clear ho8 hb8 s8 B7 S7 S6b
  go_wp2_with fail
  refine (rsamerow_yes a8 p2.length c8 p2 a7 c7 w8 S8.out S7b.out (by have := l2.out; omega)).mono ?_
  rintro e w9 ⟨rfl, hb9⟩
  have B9 := keep (B8.out.trans (hb9.mono B8.out.size))
  clear hb9 S8 S7b B8
  go_wp2_with fail
  refine (P1.out w9).mono ?_
  rintro e w10 ⟨v10, rfl, hr10, hb10⟩
  have R10 := keep hr10
  obtain ⟨a10, c10, x10, e10, hx10, s10, _⟩ := hr10.src
  subst e10
  have B10 := keep (B9.out.trans (hb10.mono B9.out.size))
  clear hr10 hb10 P1 B9 hx10 s10 x10
  go_wp2_with fail
  refine (P2.out w10).mono ?_
  rintro e w11 ⟨v11, rfl, hr11, hb11⟩
  have R11 := keep hr11
  have R10b := keep (R10.out.next hb11)
  obtain ⟨a11, c11, x11, e11, hx11, s11, _⟩ := hr11.src
  subst e11
  have B11 := keep (B10.out.trans (hb11.mono B10.out.size))
  clear hr11 hb11 P2 B10 hx11 s11 x11 R10
  go_wp2_with fail
  refine (Q1.out w11).mono ?_
  rintro e w12 ⟨v12, rfl, hr12, hb12⟩
  have R12 := keep hr12
  have R10c := keep (R10b.out.next hb12)
  have R11b := keep (R11.out.next hb12)
  obtain ⟨a12, c12, x12, e12, hx12, s12, _⟩ := hr12.src
  subst e12
  have B12 := keep (B11.out.trans (hb12.mono B11.out.size))
  clear hr12 hb12 Q1 B11 hx12 s12 x12 R10b R11
  go_wp2_with fail
  refine (Q2.out w12).mono ?_
  rintro e w13 ⟨v13, rfl, hr13, hb13⟩
  have R13 := keep hr13
  have R10d := keep (R10c.out.next hb13)
  have R11c := keep (R11b.out.next hb13)
  have R12b := keep (R12.out.next hb13)
  obtain ⟨a13, c13, x13, e13, hx13, s13, _⟩ := hr13.src
  subst e13
  have B13 := keep (B12.out.trans (hb13.mono B12.out.size))
  clear hr13 hb13 Q2 B12 hx13 s13 x13 R10c R11b R12
  obtain ⟨x10, h10, s10⟩ := R10d.out.srcOf
  obtain ⟨x11, h11, s11⟩ := R11c.out.srcOf
  obtain ⟨x12, h12, s12⟩ := R12b.out.srcOf
  obtain ⟨x13, h13, s13⟩ := R13.out.srcOf
  have S10 := keep s10
  have S11 := keep s11
  have S12 := keep s12
  have S13 := keep s13
  have H10 := keep h10
  have H11 := keep h11
  have H12 := keep h12
  have H13 := keep h13
  have L10 : Hid (∀ x ∈ x10, x.ps.length ≤ 41) := fun x hx => k3.out x.ps (by rw [← H10.out]; exact List.mem_map_of_mem hx)
  have L12 : Hid (∀ x ∈ x12, x.ps.length ≤ 41) := fun x hx => k4.out x.ps (by rw [← H12.out]; exact List.mem_map_of_mem hx)
  clear s10 s11 s12 s13 h10 h11 h12 h13 R10d R11c R12b R13
  go_wp2_with fail
  refine (rows_any a10 p3.length c10 x10 w13 S10.out (by have := l3.out; omega) L10.out).mono ?_
  rintro e w14 ⟨v14, rfl, hr14, hb14⟩
  rw [H10.out] at hr14
  obtain ⟨a14, c14, x14, e14, h14, s14, _⟩ := hr14.src
  subst e14
  have S14 := keep s14
  have H14 := keep h14
  have L14 : Hid (∀ x ∈ x14, x.ps.length ≤ 41) := fun x hx => k3.out x.ps (by rw [← H14.out]; exact List.mem_map_of_mem hx)
  have S11b := keep (S11.out.below (rowKind_ok _) hb14)
  have S12b := keep (S12.out.below (rowKind_ok _) hb14)
  have S13b := keep (S13.out.below (rowKind_ok _) hb14)
  have B14 := keep (B13.out.trans (hb14.mono B13.out.size))
  clear hr14 hb14 s14 h14 B13 S10 S11 S12 S13
  go_wp2_with fail
  refine (rsame_yes a14 p3.length c14 x14 a11 c11 x11 w14 S14.out S11b.out (H14.out.trans H11.out.symm) (by have := l3.out; omega) L14.out).mono ?_
  rintro e w15 ⟨rfl, hb15⟩
  have S12c := keep (S12b.out.below (rowKind_ok _) hb15)
  have S13c := keep (S13b.out.below (rowKind_ok _) hb15)
  have B15 := keep (B14.out.trans (hb15.mono B14.out.size))
  clear hb15 B14 S14 S11b S12b S13b
  go_wp2_with fail
  refine (rows_any a12 p4.length c12 x12 w15 S12c.out (by have := l4.out; omega) L12.out).mono ?_
  rintro e w16 ⟨v16, rfl, hr16, hb16⟩
  rw [H12.out] at hr16
  obtain ⟨a16, c16, x16, e16, h16, s16, _⟩ := hr16.src
  subst e16
  have S16 := keep s16
  have H16 := keep h16
  have L16 : Hid (∀ x ∈ x16, x.ps.length ≤ 41) := fun x hx => k4.out x.ps (by rw [← H16.out]; exact List.mem_map_of_mem hx)
  have S13d := keep (S13c.out.below (rowKind_ok _) hb16)
  have B16 := keep (B15.out.trans (hb16.mono B15.out.size))
  clear hr16 hb16 s16 h16 B15 S12c S13c
  go_wp2_with fail
  refine (rsame_yes a16 p4.length c16 x16 a13 c13 x13 w16 S16.out S13d.out (H16.out.trans H13.out.symm) (by have := l4.out; omega) L16.out).mono ?_
  rintro e w17 ⟨rfl, hb17⟩
  have B17 := keep (B16.out.trans (hb17.mono B16.out.size))
  clear hb17 B16 S16 S13d
  go_wp2
  go_ret
  exact ⟨rfl, B17.out⟩
end Go.Proofs.Ytdgfbbaddoghaaa
