/- The walk of HashSizes. -/
import Derived.Test.YtelebhcaljepaabDoorQq
namespace Go.Proofs.YtelebhcaljepaabDoor
open Go.RowKit

theorem path_sides {h : List (List UInt8)} {k : Nat} (hk : k < h.length) : (pathL h k).length = (Mt.sides k h.length).length := by
  obtain ⟨a, ha⟩ : ∃ a, h[k]? = some a := ⟨h[k], List.getElem?_eq_getElem hk⟩
  exact (Mt.path_top nodeL nilL h.length h rfl k a ha).1.symm
theorem lv_of {n j : Nat} (h1 : n ≤ 2 ^ j) (h2 : j = 0 ∨ 2 ^ (j - 1) < n) : Mt.lv n = j := by
  refine Nat.le_antisymm (Mt.lv_le h1) ?_
  rcases h2 with h2 | h2
  · omega
  · have h3 := Mt.le_lv n
    have h4 : 2 ^ (j - 1) < 2 ^ Mt.lv n := by omega
    have := (Nat.pow_lt_pow_iff_right (by decide)).1 h4
    omega
set_option maxHeartbeats 4000000 in
set_option maxRecDepth 100000 in
theorem hashSizes_walk (ao : Option Addr) (m c : Nat) (es : List ByteE) (i j : Int) (w : World) (hL : Ld w) (hs : RSrc byteKind w ao m c es) (hm : m ≤ 5864062014634) (hg : ∀ e ∈ es, e.bytes.length ≤ 140737488351232) :
    Calls Tryd.prog 5 #[.slice ao m c, .int .i64 i, .int .i64 j] w fun e w' => e = .returned (.bool true) ∧ Below w.heap.size w w' := by
  have HLd := keep hL
  have HS := keep hs
  have HG := keep hg
  have HSL := keep hs.len
  have AW := keep (awake_any w hL)
  have LV : Hid (∀ w', Below w.heap.size w w' → Calls Tryd.prog 10 #[.slice ao m c] w' (RowR w' (leavesL es))) := fun w' h => leaves_any ao m c es w' (hs.below byteKind_ok h) (fun e he => by have := HG.out e he; omega) (by omega)
  have hlen := leaves_len es
  have H32 := keep (leaves_32 es)
  have HSH := keep (leaves_short es)
  have LAT := keep (fun k hk => leaves_at (es := es) (k := k) hk)
  rw [hs.len] at hlen
  obtain ⟨h, hh⟩ : ∃ h, leavesL es = h := ⟨_, rfl⟩
  rw [hh] at LV H32 HSH LAT hlen
  obtain ⟨H, hH⟩ : ∃ H, h.length = H := ⟨_, rfl⟩
  have HHL := keep hH
  rw [hH] at hlen LAT
  clear hL hs hg hh
  by_cases h0 : H = 0
  · go_enter Tryd.func5, Tryd.ntmps5
    go_wp2_with fail
    refine AW.out.mono ?_
    rintro e w1 ⟨rfl, hb1⟩
    have B1 := keep hb1
    clear hb1 AW
    go_wp2_with fail
    refine (LV.out w1 B1.out).mono ?_
    rintro e w2 ⟨v2, rfl, ho2, hb2⟩
    have B2 := keep (B1.out.trans (hb2.mono B1.out.size))
    rw [hH, h0] at ho2
    obtain ⟨a2, c2, rfl⟩ := own_is ho2
    clear ho2 hb2 LV h0 hH
    go_wp2
    go_ret
    exact ⟨rfl, B2.out⟩
  · obtain ⟨q, k, hq, hq1, hkm, hk⟩ := place_of i H (by omega)
    obtain ⟨q2, k2, hq2, hq21, hkm2, hk2⟩ := place_of j H (by omega)
    obtain ⟨M, hM⟩ : ∃ M, 1 + k2 = M := ⟨_, rfl⟩
    have e1 : (1 : Int) + (k2 : Int) = (M : Int) := by omega
    have M0 : (0 : Int) ≤ (M : Int) := by omega
    have M1 : (M : Int) ≤ 100 := by omega
    clear LAT
    have n0 : ((H : Int) == 0) = false := by simp; omega
    have n1 : ¬ (H : Int) = 0 := by omega
    have n2 : (H : Int) ≠ 0 := n1
    go_enter Tryd.func5, Tryd.ntmps5
    go_wp2_with fail
    refine AW.out.mono ?_
    rintro e w1 ⟨rfl, hb1⟩
    have B1 := keep hb1
    clear hb1 AW
    go_wp2_with fail
    refine (LV.out w1 B1.out).mono ?_
    rintro e w2 ⟨v2, rfl, ho2, hb2⟩
    have B2 := keep (B1.out.trans (hb2.mono B1.out.size))
    rw [hH] at ho2
    obtain ⟨a2, c2, rfl, hr2, _⟩ := RSrc.own strKind_ok ho2 (fun _ _ => trivial)
    have R2 := keep hr2
    clear ho2 hb2 LV hr2 hH
    obtain ⟨hb, hoff, ha2, _, _⟩ := strs_at R2.out (by omega)
    subst ha2
    have P1 := keep (Nat.le_trans (Nat.le_of_eq (path_sides (h := h) (k := k) (by rw [HHL.out]; exact hk))) (Mt.sides_len h.length k (by rw [HHL.out]; exact hk)))
    have P2 : Hid (2 ^ Mt.lv H = H → (pathL h k).length = Mt.lv H) := fun e => by
      rw [path_sides (by rw [HHL.out]; exact hk), HHL.out]
      have := Mt.sides_perfect (Mt.lv H) k (by rw [e]; exact hk)
      rw [e] at this
      exact this
    have P3 := keep (Mt.sub_len nodeL nilL h.length h rfl M true (by omega) (by rw [HHL.out]; omega))
    rw [HHL.out] at P1 P3
    have PA : Hid (∀ w', Below w2.heap.size w2 w' → Calls Tryd.prog 13 #[.slice (some ⟨hb, hoff, none⟩) H c2, .int .i64 (k : Int)] w' (RowA w' (pathL h k))) := fun w' hb => path_any H h HHL.out k hk _ c2 w' (HLd.out.below (B2.out.trans (hb.mono B2.out.size))) (R2.out.below strKind_ok hb) HSH.out (by omega)
    have PB : Hid (∀ w', Below w2.heap.size w2 w' → Calls Tryd.prog 14 #[.slice (some ⟨hb, hoff, none⟩) H c2, .int .i64 (M : Int)] w' (RowA w' (proofL h M))) := fun w' hb => proof_any H h HHL.out M (by omega) (by omega) _ c2 w' (HLd.out.below (B2.out.trans (hb.mono B2.out.size))) (R2.out.below strKind_ok hb) HSH.out (by omega)
    have PC : Hid (∀ w', Below w2.heap.size w2 w' → Calls Tryd.prog 14 #[.slice (some ⟨hb, hoff, none⟩) H c2, .int .i64 (H : Int)] w' (RowA w' [])) := fun w' hb => by
      have hz : proofL h H = [] := by rw [← HHL.out]; unfold proofL subL; rw [Mt.sub_all nodeL nilL rfl]; rfl
      have := proof_any H h HHL.out H (by omega) (Nat.le_refl _) _ c2 w' (HLd.out.below (B2.out.trans (hb.mono B2.out.size))) (R2.out.below strKind_ok hb) HSH.out (by omega)
      rw [hz] at this
      exact this
    have hP3 : (proofL h M).length ≤ Mt.lv H + 1 := P3.out
    have hP1 : (pathL h k).length ≤ Mt.lv H := P1.out
    clear hM P3 P1
    go_wp2
    go_loopw [9, 10] (fun l v wr => ∃ j : Nat, l = .int .i64 (j : Int) ∧ v = .int .i64 ((2 ^ j : Nat) : Int) ∧ j ≤ 7 ∧ Hid (Below w2.heap.size w2 wr ∧ (j = 0 ∨ 2 ^ (j - 1) < H))) (fun l _ _ => 8 - (intOf l).toNat)
    case atStart => exact ⟨0, rfl, rfl, by omega, Below.refl _ _, .inl rfl⟩
    case round =>
      obtain ⟨jj, rfl, rfl, hj7, hI⟩ := hrel
      obtain ⟨hwr, hJ0⟩ := hI.out
      have BW := keep hwr
      have HJ := keep hJ0
      clear hI hJ0 hwr
      have hp7 : (2 : Nat) ^ jj ≤ 128 := Nat.pow_le_pow_right (n := 2) (i := jj) (j := 7) (by decide) hj7
      obtain ⟨T, hT⟩ : ∃ T, 2 ^ jj = T := ⟨_, rfl⟩
      have HT := keep hT
      rw [hT] at hp7 ⊢
      by_cases hlt : T < H
      · have c1 : (T : Int) < (H : Int) := by omega
        have hj6 : jj ≤ 6 := by
          rcases Nat.lt_or_ge jj 7 with h | h
          · omega
          · have : jj = 7 := by omega
            subst this
            omega
        clear hT
        go_wp2
        go_roundw
        case rel => exact ⟨jj + 1, by first | rfl | go_num, by rw [Nat.pow_succ, HT.out]; first | rfl | go_num, by omega, BW.out, .inr (by rw [Nat.add_sub_cancel, HT.out]; exact hlt)⟩
        case measure => simp [intOf]; omega
      · have c1 : ¬ (T : Int) < (H : Int) := by omega
        have hlv := lv_of (n := H) (j := jj) (by omega) (by rcases HJ.out with h | h; exact .inl h; exact .inr h)
        have hsh : wrap64 ((2 : Int) ^ jj) = (T : Int) := by
          have e3 : (2 : Int) ^ jj = ((2 ^ jj : Nat) : Int) := by simp
          rw [e3, hT]
          unfold wrap64
          omega
        have PER : Hid (T = H → (pathL h k).length = jj) := fun e => by
          have := P2.out (by rw [hlv, hT]; exact e)
          rw [this, hlv]
        rw [hlv] at hP1 hP3
        clear hT HT P2 hlv HJ
        have j0 : (0 : Int) ≤ (jj : Int) := by omega
        go_wp2_with fail
        refine (PA.out wr BW.out).mono ?_
        rintro e w3 ⟨v3, rfl, ho3, hb3⟩
        obtain ⟨a3, c3, rfl⟩ := own_is ho3
        have b3 := keep (BW.out.trans (hb3.mono BW.out.size))
        obtain ⟨P, hP⟩ : ∃ P, (pathL h k).length = P := ⟨_, rfl⟩
        rw [hP] at hP1 PER ⊢
        clear ho3 hb3 hP PA
        go_wp2_with fail
        refine (PB.out w3 b3.out).mono ?_
        rintro e w4 ⟨v4, rfl, ho4, hb4⟩
        obtain ⟨a4, c4, rfl⟩ := own_is ho4
        have b4 := keep (b3.out.trans (hb4.mono b3.out.size))
        obtain ⟨Q, hQ⟩ : ∃ Q, (proofL h M).length = Q := ⟨_, rfl⟩
        rw [hQ] at hP3 ⊢
        clear ho4 hb4 hQ PB
        go_wp2_with fail
        refine (PC.out w4 b4.out).mono ?_
        rintro e w5 ⟨v5, rfl, ho5, hb5⟩
        obtain ⟨a5, c5, rfl⟩ := own_is ho5
        have b5 := keep (b4.out.trans (hb5.mono b4.out.size))
        clear ho5 hb5 PC
        have l1 : (P : Int) ≤ (jj : Int) := by omega
        have l2 : (Q : Int) ≤ (jj : Int) + 1 := by omega
        by_cases hTH : T = H
        · have hPj := PER.out hTH
          subst hPj
          subst hTH
          go_wp2
          go_ret
          exact ⟨rfl, B2.out.trans (b5.out.mono B2.out.size)⟩
        · have t2 : ¬ (T : Int) = (H : Int) := fun h => hTH (Int.ofNat_inj.1 h)
          have t1 : ((T : Int) == (H : Int)) = false := beq_eq_false_iff_ne.2 t2
          clear hTH
          go_wp2
          go_ret
          exact ⟨rfl, B2.out.trans (b5.out.mono B2.out.size)⟩
end Go.Proofs.YtelebhcaljepaabDoor
