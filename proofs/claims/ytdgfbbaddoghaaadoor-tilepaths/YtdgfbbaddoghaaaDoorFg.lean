/- The walk of TilePaths. -/
import Derived.Test.YtdgfbbaddoghaaaDoorFf
import Derived.Test.YtdgfbbaddoghaaaDoorTh6
namespace Go.Proofs.YtdgfbbaddoghaaaDoor
open Go.RowKit
open Mt (Pos)

set_option maxHeartbeats 2000000 in
set_option maxRecDepth 100000 in
theorem tilePaths_walk (ao : Option Addr) (m c : Nat) (es : List ByteE) (i k : Int) (w : World) (hL : Ld w) (hs : RSrc byteKind w ao m c es) (hm : m ≤ 5864062014634) (hg : ∀ e ∈ es, e.bytes.length ≤ 140737488351232) :
    Calls Tryd.prog 4 #[.slice ao m c, .int .i64 i, .int .i64 k] w fun e w' => e = .returned (.bool true) ∧ Below w.heap.size w w' := by
  have HLd := keep hL
  have AW := keep (awake_any w)
  have LV : Hid (∀ w', Below w.heap.size w w' → Calls Tryd.prog 9 #[.slice ao m c] w' (RowR w' (leaves17 es))) := fun w' hb => leaves17_any ao m c es w' (hL.below hb) (hs.below byteKind_ok hb) (fun e he => Nat.le_trans (hg e he) (by decide)) (by omega)
  have hlen := leaves17_len es
  have HSH := keep (leaves17_short es)
  obtain ⟨h, hh⟩ : ∃ h, leaves17 es = h := ⟨_, rfl⟩
  rw [hh] at LV HSH hlen
  obtain ⟨H, hH⟩ : ∃ H, h.length = H := ⟨_, rfl⟩
  have HHL := keep hH
  rw [hH] at hlen
  clear hL hs hg hh hm
  by_cases h0 : H = 0
  · go_enter Tryd.func4, Tryd.ntmps4
    go_wp2_with fail
    refine AW.out.mono ?_
    rintro e w1 ⟨rfl, hb1⟩
    have B1 := keep hb1
    clear hb1 AW
    go_wp2_with fail
    refine (LV.out w1 B1.out).mono ?_
    rintro e w2 ⟨v2, rfl, ho2, hb2⟩
    have B2 := keep (B1.out.trans (hb2.mono B1.out.size))
    rw [hH, h0] at ho2
    obtain ⟨a2, c2, rfl⟩ := own_is ho2
    clear ho2 hb2 LV h0 hH
    go_wp2
    go_ret
    exact ⟨rfl, B2.out⟩
  · obtain ⟨q, x, hq, hq1, ht, hr, hx⟩ := place17 i H (by omega)
    obtain ⟨q2, y, hq2, hq3, ht2, hr2, hy⟩ := place17 k H (by omega)
    have n0 : ((H : Int) == 0) = false := by simp; omega
    have n1 : ¬ (H : Int) = 0 := by omega
    have n2 : (H : Int) ≠ 0 := n1
    obtain ⟨M, hM⟩ : ∃ M, 1 + y = M := ⟨_, rfl⟩
    have eM : (1 : Int) + (y : Int) = (M : Int) := by omega
    have PN := keep (fun w' => pathnodes_any x H w' hx (by omega))
    have QN := keep (fun w' => proofnodes_any M H w' (by omega) (by omega) (by omega))
    rw [pathZ_nodes] at PN
    rw [proofZ_nodes] at QN
    have PT := keep (fun (a2 : Option Addr) (c2 : Nat) w' (hb : Ld w') (hS : RSrc strKind w' a2 H c2 h) => path_any H h hH x hx a2 c2 w' hb hS HSH.out (by omega))
    have QT := keep (fun (a2 : Option Addr) (c2 : Nat) w' (hb : Ld w') (hS : RSrc strKind w' a2 H c2 h) => proof_any H h hH M (by omega) (by omega) a2 c2 w' hb hS HSH.out (by omega))
    rw [pathZ_texts hH hx] at PT
    rw [proofZ_texts hH (by omega) (by omega)] at QT
    have OKZ1 := keep (pathZ_ok (i := x) (n := H) hx)
    have OKZ2 := keep (proofZ_ok (m := M) (n := H) (by omega) (by omega))
    have LZ1 := pathZ_short (i := x) (n := H) hx (by omega)
    have LZ2 := proofZ_short (m := M) (n := H) (by omega) (by omega) (by omega)
    obtain ⟨Z1, hZ1⟩ : ∃ Z, pathZ x H = Z := ⟨_, rfl⟩
    obtain ⟨Z2, hZ2⟩ : ∃ Z, proofZ M H = Z := ⟨_, rfl⟩
    rw [hZ1] at PN PT OKZ1 LZ1
    rw [hZ2] at QN QT OKZ2 LZ2
    obtain ⟨N1, hN1⟩ : ∃ N, Z1.length = N := ⟨_, rfl⟩
    obtain ⟨N2, hN2⟩ : ∃ N, Z2.length = N := ⟨_, rfl⟩
    have HZ1 := keep hN1
    have HZ2 := keep hN2
    rw [hN1] at LZ1
    rw [hN2] at LZ2
    have q0 : (0 : Int) ≤ (q : Int) := by omega
    have q20 : (0 : Int) ≤ (q2 : Int) := by omega
    have q2b : (q2 : Int) ≤ 65535 := by omega
    have y1 : (y : Int) ≤ 60 := by omega
    have M1 : (M : Int) ≤ 61 := by omega
    clear hM hZ1 hZ2 hN1 hN2 hx hy
    go_enter Tryd.func4, Tryd.ntmps4
    go_wp2_with fail
    refine AW.out.mono ?_
    rintro e w1 ⟨rfl, hb1⟩
    have B1 := keep hb1
    clear hb1 AW
    go_wp2_with fail
    refine (LV.out w1 B1.out).mono ?_
    rintro e w2 ⟨v2, rfl, ho2, hb2⟩
    have B2 := keep (B1.out.trans (hb2.mono B1.out.size))
    rw [hH] at ho2
    obtain ⟨a2, c2, rfl, hr2w, _⟩ := RSrc.own strKind_ok ho2 (fun _ _ => trivial)
    have R2 := keep hr2w
    clear ho2 hb2 LV hr2w hH B1
    obtain ⟨hb, hoff, ha2, _, _⟩ := strs_at R2.out (by omega)
    subst ha2
    go_wp2_with fail
    refine (PT.out (some ⟨hb, hoff, none⟩) c2 w2 (HLd.out.below B2.out) R2.out).mono ?_
    rintro e w3 ⟨v3, rfl, ho3, hb3⟩
    rw [List.length_map, HZ1.out] at ho3
    obtain ⟨a3, c3, rfl, s3, _⟩ := RSrc.own strKind_ok ho3 (fun _ _ => trivial)
    have R3 := keep (R2.out.below strKind_ok hb3)
    have S3 := keep s3
    have B3 := keep (B2.out.trans (hb3.mono B2.out.size))
    clear ho3 hb3 s3 PT R2 B2
    go_wp2_with fail
    refine (QT.out (some ⟨hb, hoff, none⟩) c2 w3 (HLd.out.below B3.out) R3.out).mono ?_
    rintro e w4 ⟨v4, rfl, ho4, hb4⟩
    rw [List.length_map, HZ2.out] at ho4
    obtain ⟨a4, c4, rfl, s4, _⟩ := RSrc.own strKind_ok ho4 (fun _ _ => trivial)
    have R4 := keep (R3.out.below strKind_ok hb4)
    have S3b := keep (S3.out.below strKind_ok hb4)
    have S4 := keep s4
    have B4 := keep (B3.out.trans (hb4.mono B3.out.size))
    clear ho4 hb4 s4 QT R3 S3 B3
    go_wp2_with fail
    refine (PN.out w4).mono ?_
    rintro e w5 ⟨v5, rfl, hr5, hb5⟩
    obtain ⟨a5, c5, x5, rfl, hx5, s5, _⟩ := hr5.src
    rw [List.length_map, HZ1.out] at s5
    rw [List.length_map, HZ1.out]
    have HX5 := keep hx5
    have S5 := keep s5
    have R5 := keep (R4.out.below strKind_ok hb5)
    have S3c := keep (S3b.out.below strKind_ok hb5)
    have S4b := keep (S4.out.below strKind_ok hb5)
    have B5 := keep (B4.out.trans (hb5.mono B4.out.size))
    clear hr5 hb5 s5 hx5 PN R4 S3b S4 B4
    go_wp2_with fail
    refine (QN.out w5).mono ?_
    rintro e w6 ⟨v6, rfl, hr6, hb6⟩
    obtain ⟨a6, c6, x6, rfl, hx6, s6, _⟩ := hr6.src
    rw [List.length_map, HZ2.out] at s6
    rw [List.length_map, HZ2.out]
    have HX6 := keep hx6
    have S6 := keep s6
    have R6 := keep (R5.out.below strKind_ok hb6)
    have S3d := keep (S3c.out.below strKind_ok hb6)
    have S4c := keep (S4b.out.below strKind_ok hb6)
    have S5b := keep (S5.out.below (rowKind_ok _) hb6)
    have B6 := keep (B5.out.trans (hb6.mono B5.out.size))
    clear hr6 hb6 s6 hx6 QN R5 S3c S4b S5 B5 hq hq2 ht ht2 hr hr2 q0 q20 q2b y1 M1 eM
    go_wp2
    go_loopw [19, 20, 21] (fun j _ _ wr => ∃ k : Nat, k ≤ N1 ∧ j = .int .i64 (k : Int) ∧ Hid (Below w6.heap.size w6 wr)) (fun j _ _ _ => N1 - (intOf j).toNat)
    case atStart => exact ⟨0, Nat.zero_le _, rfl, Below.refl _ _⟩
    case round =>
      obtain ⟨k, hk, rfl, hI⟩ := hrel
      by_cases hkn : k < N1
      · obtain ⟨x, z, hx, hzm, hxz, hpz⟩ := z_at (h := h) HX5.out (k := k) (by rw [HZ1.out]; exact hkn)
        obtain ⟨b, off, hb1, _, hcell⟩ := rows_at (S5b.out.below (rowKind_ok _) hI.out) (by omega)
        obtain ⟨b2, off2, hb2, _, hcell2⟩ := strs_at (S3d.out.below strKind_ok hI.out) (by omega)
        obtain ⟨ck, rk⟩ := hcell k x hx
        have dk := hcell2 k _ hpz
        have zok := OKZ1.out z hzm
        have CF := cov_fold (h := h) (a := z.1) (b := z.2) (by rw [HHL.out]; exact zok.2.1) zok.2.2
        have FO := fold17_any (some ⟨hb, hoff, none⟩) H c2 h x.p x.ps.length x.c x.ps wr (HLd.out.below (B6.out.trans (hI.out.mono B6.out.size))) (R6.out.below strKind_ok hI.out) HSH.out (by omega) rk (by rw [hxz]; exact Nat.le_trans (Mt.cov_short (by omega)) (by decide)) (fun p hp => cov_inside zok.2.1 (by omega) zok.2.2 p (by rw [← hxz]; exact hp)) (fun p _ => nodeAt_len HSH.out p)
        rw [hxz, CF] at FO
        rw [hxz] at ck
        have FO := keep FO
        obtain ⟨Y, hY⟩ : ∃ Y, rootL (Mt.piece h z.1 z.2) = Y := ⟨_, rfl⟩
        rw [hY] at FO dk
        obtain ⟨C, hC⟩ : ∃ C, (Mt.cov z.1 z.2).length = C := ⟨_, rfl⟩
        rw [hC] at FO ck
        obtain ⟨xp, xc, xl⟩ := x
        simp only at ck FO
        subst hb1
        subst hb2
        have k0 : (0 : Int) ≤ (k : Int) := by omega
        have k1 : (k : Int) < (N1 : Int) := by omega
        clear hcell hcell2 hx hzm hxz hpz zok CF hY hC rk
        go_wp2_with fail
        refine FO.out.mono ?_
        rintro e w7 ⟨rfl, hb7⟩
        have dk7 := below_cell hb7 dk
        have B7 := keep (hI.out.trans (hb7.mono hI.out.size))
        clear hb7 FO ck dk
        go_wp2
        go_roundw
        case rel => exact ⟨k + 1, by omega, by first | rfl | go_num, B7.out⟩
        case measure => simp [intOf]; omega
      · have hkn2 : ¬ (k : Int) < (N1 : Int) := by omega
        have B7 := keep (B6.out.trans (hI.out.mono B6.out.size))
        have R7 := keep (R6.out.below strKind_ok hI.out)
        have S4d := keep (S4c.out.below strKind_ok hI.out)
        have S6b := keep (S6.out.below (rowKind_ok _) hI.out)
        clear hI hk
        obtain ⟨wz, hwz⟩ : ∃ wz, wz = wr := ⟨_, rfl⟩
        rw [← hwz] at B7 R7 S4d S6b ⊢
        clear hwz
        go_wp2
        go_loopw [0x16, 23, 24] (fun j _ _ wr => ∃ k : Nat, k ≤ N2 ∧ j = .int .i64 (k : Int) ∧ Hid (Below wz.heap.size wz wr)) (fun j _ _ _ => N2 - (intOf j).toNat)
        case atStart => exact ⟨0, Nat.zero_le _, rfl, Below.refl _ _⟩
        case round =>
          obtain ⟨k, hk, rfl, hI⟩ := hrel
          by_cases hkn : k < N2
          · obtain ⟨x, z, hx, hzm, hxz, hpz⟩ := z_at (h := h) HX6.out (k := k) (by rw [HZ2.out]; exact hkn)
            obtain ⟨b, off, hb1, _, hcell⟩ := rows_at (S6b.out.below (rowKind_ok _) hI.out) (by omega)
            obtain ⟨b2, off2, hb2, _, hcell2⟩ := strs_at (S4d.out.below strKind_ok hI.out) (by omega)
            obtain ⟨ck, rk⟩ := hcell k x hx
            have dk := hcell2 k _ hpz
            have zok := OKZ2.out z hzm
            have CF := cov_fold (h := h) (a := z.1) (b := z.2) (by rw [HHL.out]; exact zok.2.1) zok.2.2
            have FO := fold17_any (some ⟨hb, hoff, none⟩) H c2 h x.p x.ps.length x.c x.ps wr (HLd.out.below (B7.out.trans (hI.out.mono B7.out.size))) (R7.out.below strKind_ok hI.out) HSH.out (by omega) rk (by rw [hxz]; exact Nat.le_trans (Mt.cov_short (by omega)) (by decide)) (fun p hp => cov_inside zok.2.1 (by omega) zok.2.2 p (by rw [← hxz]; exact hp)) (fun p _ => nodeAt_len HSH.out p)
            rw [hxz, CF] at FO
            rw [hxz] at ck
            have FO := keep FO
            obtain ⟨Y, hY⟩ : ∃ Y, rootL (Mt.piece h z.1 z.2) = Y := ⟨_, rfl⟩
            rw [hY] at FO dk
            obtain ⟨C, hC⟩ : ∃ C, (Mt.cov z.1 z.2).length = C := ⟨_, rfl⟩
            rw [hC] at FO ck
            obtain ⟨xp, xc, xl⟩ := x
            simp only at ck FO
            subst hb1
            subst hb2
            have k0 : (0 : Int) ≤ (k : Int) := by omega
            have k1 : (k : Int) < (N2 : Int) := by omega
            clear hcell hcell2 hx hzm hxz hpz zok CF hY hC rk
            go_wp2_with fail
            refine FO.out.mono ?_
            rintro e w7 ⟨rfl, hb7⟩
            have dk7 := below_cell hb7 dk
            have B7 := keep (hI.out.trans (hb7.mono hI.out.size))
            clear hb7 FO ck dk
            go_wp2
            go_roundw
            case rel => exact ⟨k + 1, by omega, by first | rfl | go_num, B7.out⟩
            case measure => simp [intOf]; omega
          · have hkn3 : ¬ (k : Int) < (N2 : Int) := by omega
            have B8 := keep (B7.out.trans (hI.out.mono B7.out.size))
            clear hI hk
            go_wp2
            go_ret
            exact ⟨rfl, B8.out⟩
end Go.Proofs.YtdgfbbaddoghaaaDoor
