/- The walk of TileCovers. -/
import Derived.Test.YtdgfbbaddoghaaaDoorFf
import Derived.Test.YtdgfbbaddoghaaaDoorTh6
namespace Go.Proofs.YtdgfbbaddoghaaaDoor
open Go.RowKit
open Mt (Pos)

theorem PosA.srcD {T : TypeId} {w w' : World} {ps : List Pos} {v : Value} (ho : w'.ownsRow w.heap.size T 2 v ps.length (rv posKind ps)) : ∃ ao c, v = .slice ao ps.length c ∧ RSrc posKind w' ao ps.length c ps := by
  obtain ⟨ao, c, e, h, _⟩ := RSrc.own posKind_ok ho (fun _ _ => trivial)
  exact ⟨ao, c, e, h⟩
theorem cov_drop {a b s k : Nat} (h : (Mt.cov a b).drop k = Mt.cov s b) (hs : s < b) (hal : Mt.rf (b - s) ∣ s) : ∃ l x y, (Mt.cov a b)[k]? = some ⟨l, x⟩ ∧ x * 2 ^ l = s ∧ 2 ^ l = y ∧ y ≤ b - s ∧ 1 ≤ y ∧ (Mt.cov a b).drop (k + 1) = Mt.cov (s + y) b ∧ Mt.rf (b - (s + y)) ∣ s + y := by
  rw [Mt.cov_more hs] at h
  have h1 := Mt.hb_le (n := b - s) (by omega)
  refine ⟨Nat.log2 (b - s), s / Mt.hb (b - s), Mt.hb (b - s), ?_, Mt.al_node (by omega) hal, rfl, h1, Mt.hb_pos _, ?_, ?_⟩
  · have := congrArg (fun l => l[0]?) h
    simpa using this
  · have := congrArg List.tail h
    simpa using this
  · have := Mt.al_next (by omega) hal
    rw [show b - (s + Mt.hb (b - s)) = b - s - Mt.hb (b - s) by omega]
    exact this
set_option maxHeartbeats 8000000 in
set_option maxRecDepth 100000 in
theorem tileCovers_walk (ao : Option Addr) (m c : Nat) (es : List ByteE) (from' many : Int) (w : World) (hL : Ld w) (hs : RSrc byteKind w ao m c es) (hm : m ≤ 5864062014634) (hg : ∀ e ∈ es, e.bytes.length ≤ 140737488351232) :
    Calls Tryd.prog 5 #[.slice ao m c, .int .i64 from', .int .i64 many] w fun e w' => e = .returned (.bool true) ∧ Below w.heap.size w w' := by
  have HLd := keep hL
  have AW := keep (awake_any w)
  have LV : Hid (∀ w', Below w.heap.size w w' → Calls Tryd.prog 9 #[.slice ao m c] w' (RowR w' (leaves17 es))) := fun w' hb => leaves17_any ao m c es w' (hL.below hb) (hs.below byteKind_ok hb) (fun e he => Nat.le_trans (hg e he) (by decide)) (by omega)
  have hlen := leaves17_len es
  have HSH := keep (leaves17_short es)
  obtain ⟨h, hh⟩ : ∃ h, leaves17 es = h := ⟨_, rfl⟩
  rw [hh] at LV HSH hlen
  obtain ⟨H, hH⟩ : ∃ H, h.length = H := ⟨_, rfl⟩
  have HHL := keep hH
  rw [hH] at hlen
  clear hL hs hg hh hm
  obtain ⟨a, ha, hq⟩ := and_mask17 from' 63 (by omega)
  obtain ⟨z, hz, hq2⟩ := and_mask17 many 63 (by omega)
  have hq : bits .and .i64 from' 63 = (a : Int) := hq
  have hq2 : bits .and .i64 many 63 = (z : Int) := hq2
  obtain ⟨b, hb⟩ : ∃ b, a + z = b := ⟨_, rfl⟩
  have eb : (a : Int) + (z : Int) = (b : Int) := by omega
  have a63 : (a : Int) ≤ 63 := by omega
  have z63 : (z : Int) ≤ 63 := by omega
  have b126 : (b : Int) ≤ 126 := by omega
  by_cases hok : a < b ∧ Mt.rf (b - a) ∣ a
  · have CV := keep (fun w' => cover_any a b w' hok.1 (by omega) hok.2)
    by_cases hbH : b ≤ H
    · have H0 : Hid ((Mt.cov a b).drop 0 = Mt.cov a b ∧ Mt.rf (b - a) ∣ a ∧ a ≤ b) := ⟨rfl, hok.2, by omega⟩
      have CFD := cov_fold (h := h) (a := a) (b := b) (by rw [hH]; exact hbH) hok.2
      have CIN := keep (cov_inside (n := H) hbH (by omega) hok.2)
      have CSH := keep (Mt.cov_short (a := a) (b := b) (by omega))
      have PLN : Hid ((Mt.piece h a b).length = b - a) := Mt.piece_len (by rw [hH]; exact hbH)
      obtain ⟨ps, hps⟩ : ∃ ps, Mt.cov a b = ps := ⟨_, rfl⟩
      have HPS := keep hps
      rw [hps] at CV CFD CIN CSH
      obtain ⟨N, hN⟩ : ∃ N, ps.length = N := ⟨_, rfl⟩
      have HN := keep hN
      rw [hN] at CSH
      obtain ⟨X, hX⟩ : ∃ X, rootL (Mt.piece h a b) = X := ⟨_, rfl⟩
      rw [hX] at CFD
      have HX := keep hX
      have CFK := keep CFD
      have hab := keep hok.1
      have nb : ¬ (H : Int) < (b : Int) := by omega
      have nb2 : decide (H < b) = false := decide_eq_false (by omega)
      have N41 : (N : Int) ≤ 41 := by have := CSH.out; omega
      have HBH := keep hbH
      have h60 := keep hlen
      have n60 : (H : Int) ≤ 60 := by omega
      clear hok hps hN hX CFD hbH hb
      go_enter Tryd.func5, Tryd.ntmps5
      go_wp2_with fail
      refine AW.out.mono ?_
      rintro e w1 ⟨rfl, hb1⟩
      have B1 := keep hb1
      clear hb1 AW
      go_wp2_with fail
      refine (LV.out w1 B1.out).mono ?_
      rintro e w2 ⟨v2, rfl, ho2, hb2⟩
      have B2 := keep (B1.out.trans (hb2.mono B1.out.size))
      rw [hH] at ho2
      obtain ⟨a2, c2, rfl, hr2w, _⟩ := RSrc.own strKind_ok ho2 (fun _ _ => trivial)
      have R2 := keep hr2w
      clear ho2 hb2 LV hr2w hH B1
      obtain ⟨hb, hoff, ha2, _, _⟩ := strs_at R2.out (by have := HBH.out; have := hab.out; omega)
      subst ha2
      go_wp2_with fail
      refine (CV.out w2).mono ?_
      rintro e w3 ⟨v3, rfl, ho3, hb3⟩
      rw [HN.out] at ho3
      have hl3 : ps.length = N := HN.out
      obtain ⟨a3, c3, rfl, s3, _⟩ := RSrc.own posKind_ok ho3 (fun _ _ => trivial)
      have R3 := keep (R2.out.below strKind_ok hb3)
      have S3 := keep s3
      have B3 := keep (B2.out.trans (hb3.mono B2.out.size))
      clear ho3 hb3 s3 CV R2 B2 hl3
      have hN1 : Hid (1 ≤ N) := by
        have h1 := Mt.cov_pos hab.out
        rw [HPS.out, HN.out] at h1
        exact h1
      obtain ⟨gb, goff, ha3, _, hcell⟩ := pos_at S3.out hN1.out
      subst ha3
      have HCELL := keep hcell
      clear hcell
      go_wp2
      go_loopw [13, 14] (fun t j wr => ∃ k s : Nat, k ≤ N ∧ t = .int .i64 (s : Int) ∧ j = .int .i64 (k : Int) ∧ Hid (((Mt.cov a b).drop k = Mt.cov s b ∧ Mt.rf (b - s) ∣ s ∧ s ≤ b) ∧ Below w3.heap.size w3 wr)) (fun _ j _ => N - (intOf j).toNat)
      case atStart => exact ⟨0, a, Nat.zero_le _, rfl, rfl, H0.out, Below.refl _ _⟩
      case round =>
        obtain ⟨k, s, hk, rfl, rfl, hI⟩ := hrel
        by_cases hkn : k < N
        · have hsb : s < b := by
            rcases Nat.lt_or_ge s b with h | h
            · exact h
            · have h1 := hI.out.1.1
              rw [Mt.cov_nil h, HPS.out] at h1
              have h2 := congrArg List.length h1
              rw [List.length_drop, HN.out] at h2
              simp only [List.length_nil] at h2
              omega
          obtain ⟨l, x, y, hp, hxs, hly, hy1, hy2, hdr, hal⟩ := cov_drop hI.out.1.1 hsb hI.out.1.2.1
          rw [HPS.out] at hp
          have NX : Hid ((Mt.cov a b).drop (k + 1) = Mt.cov (s + y) b ∧ Mt.rf (b - (s + y)) ∣ s + y ∧ s + y ≤ b) := ⟨hdr, hal, by omega⟩
          have CF : Hid (∀ w', Below wr.heap.size wr w' → w'.cell? ⟨gb, goff + k * 2, none⟩ = some (.int .i64 (l : Int)) ∧ w'.cell? ⟨gb, goff + k * 2 + 1, none⟩ = some (.int .i64 (x : Int))) := fun w' hb => ⟨below_cell (hI.out.2.trans (hb.mono hI.out.2.size)) (HCELL.out k _ hp).1, below_cell (hI.out.2.trans (hb.mono hI.out.2.size)) (HCELL.out k _ hp).2⟩
          have hl6 : l ≤ 6 := by
            rcases Nat.lt_or_ge 6 l with h | h
            · have : 2 ^ 7 ≤ 2 ^ l := Nat.pow_le_pow_right (by decide) h
              have e : (2 : Nat) ^ 7 = 128 := by decide
              omega
            · exact h
          have hxb : x ≤ s := by rw [← hxs]; exact Nat.le_mul_of_pos_right _ (by omega)
          have WX := keep (wrap_mul hxs (by omega))
          have WY : Hid (IntKind.i64.wrap ((x : Int) * 2 ^ l) = (s : Int)) := (show IntKind.i64.wrap ((x : Int) * 2 ^ l) = wrap64 ((x : Int) * 2 ^ l) from by simp only [wrap64, IntKind.wrap_i64]).trans WX.out
          have WP0 := wrap_pow (k := l) (by omega)
          rw [hly] at WP0
          have WP := keep WP0
          clear WP0
          have WS : Hid (wrap64 ((s : Int) + (y : Int)) = ((s + y : Nat) : Int)) := by show _ = _; unfold wrap64; omega
          have B4 := keep hI.out.2
          have k0 : (0 : Int) ≤ (k : Int) := by omega
          have k1 : (k : Int) < (N : Int) := by omega
          have l0 : (0 : Int) ≤ (l : Int) := by omega
          have l1 : ¬ (l : Int) < 0 := by omega
          have l2 : ¬ (6 : Int) < (l : Int) := by omega
          have l3 : (l : Int) ≤ 6 := by omega
          have x0 : (0 : Int) ≤ (x : Int) := by omega
          have x1 : (x : Int) ≤ 126 := by omega
          have s1 : (s : Int) ≤ 126 := by omega
          clear hI hp hxs hly hy1 hy2 hdr hal hl6 hxb hsb
          go_wp2_with fail
          refine wp_region_held_drew (S := fun w' => Below wr.heap.size wr w') (by kernel_rfl) ((Below.refl _ _).drew) (fun hHeld => ?_)
          refine takeH (i := 0) 58 (v := .slice (some ⟨gb, goff, none⟩) N c3) rfl rfl (by kernel_rfl) (by kernel_rfl) (by kernel_rfl) (fun _ _ _ h => h) (Or.inl ⟨by rfl, ?_⟩) (by assumption) ?_
          · intro w' hSw'
            go_simp
          simp only [Act.put, List.setIfInBounds_toArray, List.set_cons_zero, List.set_cons_succ]
          refine takeH (i := 1) 59 (v := .int .i64 (k : Int)) rfl rfl (by kernel_rfl) (by kernel_rfl) (by kernel_rfl) (fun _ _ _ h => h) (Or.inl ⟨by rfl, ?_⟩) (by assumption) ?_
          · intro w' hSw'
            go_simp
          simp only [Act.put, List.setIfInBounds_toArray, List.set_cons_zero, List.set_cons_succ]
          refine takeH (i := 2) 60 (v := .pointer (some ⟨gb, goff + k * 2, none⟩)) rfl rfl (by kernel_rfl) (by kernel_rfl) (by kernel_rfl) (fun _ _ _ h => h) (Or.inl ⟨by rfl, ?_⟩) (by assumption) ?_
          · intro w' hSw'
            go_simp
          simp only [Act.put, List.setIfInBounds_toArray, List.set_cons_zero, List.set_cons_succ]
          refine takeH (i := 3) 61 (v := .pointer (some ⟨gb, goff + k * 2 + 1, none⟩)) rfl rfl (by kernel_rfl) (by kernel_rfl) (by kernel_rfl) (fun _ _ _ h => h) (Or.inl ⟨by rfl, ?_⟩) (by assumption) ?_
          · intro w' hSw'
            go_simp
          simp only [Act.put, List.setIfInBounds_toArray, List.set_cons_zero, List.set_cons_succ]
          refine takeH (i := 4) 62 (v := .int .i64 (x : Int)) rfl rfl (by kernel_rfl) (by kernel_rfl) (by kernel_rfl) (fun _ _ _ h => h) (Or.inl ⟨by rfl, ?_⟩) (by assumption) ?_
          · intro w' hSw'
            obtain ⟨y0, y1⟩ := CF.out w' hSw'
            go_simp
          simp only [Act.put, List.setIfInBounds_toArray, List.set_cons_zero, List.set_cons_succ]
          refine takeH (i := 5) 63 (v := .slice (some ⟨gb, goff, none⟩) N c3) rfl rfl (by kernel_rfl) (by kernel_rfl) (by kernel_rfl) (fun _ _ _ h => h) (Or.inl ⟨by rfl, ?_⟩) (by assumption) ?_
          · intro w' hSw'
            go_simp
          simp only [Act.put, List.setIfInBounds_toArray, List.set_cons_zero, List.set_cons_succ]
          refine takeH (i := 6) 64 (v := .int .i64 (k : Int)) rfl rfl (by kernel_rfl) (by kernel_rfl) (by kernel_rfl) (fun _ _ _ h => h) (Or.inl ⟨by rfl, ?_⟩) (by assumption) ?_
          · intro w' hSw'
            go_simp
          simp only [Act.put, List.setIfInBounds_toArray, List.set_cons_zero, List.set_cons_succ]
          refine takeH (i := 7) 65 (v := .pointer (some ⟨gb, goff + k * 2, none⟩)) rfl rfl (by kernel_rfl) (by kernel_rfl) (by kernel_rfl) (fun _ _ _ h => h) (Or.inl ⟨by rfl, ?_⟩) (by assumption) ?_
          · intro w' hSw'
            go_simp
          simp only [Act.put, List.setIfInBounds_toArray, List.set_cons_zero, List.set_cons_succ]
          refine takeH (i := 8) 66 (v := .pointer (some ⟨gb, goff + k * 2, none⟩)) rfl rfl (by kernel_rfl) (by kernel_rfl) (by kernel_rfl) (fun _ _ _ h => h) (Or.inl ⟨by rfl, ?_⟩) (by assumption) ?_
          · intro w' hSw'
            go_simp
          simp only [Act.put, List.setIfInBounds_toArray, List.set_cons_zero, List.set_cons_succ]
          refine takeH (i := 9) 67 (v := .int .i64 (l : Int)) rfl rfl (by kernel_rfl) (by kernel_rfl) (by kernel_rfl) (fun _ _ _ h => h) (Or.inl ⟨by rfl, ?_⟩) (by assumption) ?_
          · intro w' hSw'
            obtain ⟨y0, y1⟩ := CF.out w' hSw'
            go_simp
          simp only [Act.put, List.setIfInBounds_toArray, List.set_cons_zero, List.set_cons_succ]
          refine takeH (i := 10) 68 (v := .int .i64 (s : Int)) rfl rfl (by kernel_rfl) (by kernel_rfl) (by kernel_rfl) (fun _ _ _ h => h) (Or.inl ⟨by rfl, ?_⟩) (by assumption) ?_
          · intro w' hSw'
            go_simp
            exact WY.out
          simp only [Act.put, List.setIfInBounds_toArray, List.set_cons_zero, List.set_cons_succ]
          refine takeH (i := 11) 69 (v := .int .i64 (s : Int)) rfl rfl (by kernel_rfl) (by kernel_rfl) (by kernel_rfl) (fun _ _ _ h => h) (Or.inl ⟨by rfl, ?_⟩) (by assumption) ?_
          · intro w' hSw'
            go_simp
          simp only [Act.put, List.setIfInBounds_toArray, List.set_cons_zero, List.set_cons_succ]
          refine takeH (i := 12) 70 (v := .bool false) rfl rfl (by kernel_rfl) (by kernel_rfl) (by kernel_rfl) (fun _ _ _ h => h) (Or.inl ⟨by rfl, ?_⟩) (by assumption) ?_
          · intro w' hSw'
            go_simp
          simp only [Act.put, List.setIfInBounds_toArray, List.set_cons_zero, List.set_cons_succ]
          refine takeH (i := 13) 71 (v := .bool false) rfl rfl (by kernel_rfl) (by kernel_rfl) (by kernel_rfl) (fun _ _ _ h => h) (Or.inl ⟨by rfl, ?_⟩) (by assumption) ?_
          · intro w' hSw'
            go_simp
          simp only [Act.put, List.setIfInBounds_toArray, List.set_cons_zero, List.set_cons_succ]
          refine takeH (i := 14) 72 (v := .slice (some ⟨gb, goff, none⟩) N c3) rfl rfl (by kernel_rfl) (by kernel_rfl) (by kernel_rfl) (fun _ _ _ h => h) (Or.inl ⟨by rfl, ?_⟩) (by assumption) ?_
          · intro w' hSw'
            go_simp
          simp only [Act.put, List.setIfInBounds_toArray, List.set_cons_zero, List.set_cons_succ]
          refine takeH (i := 15) 73 (v := .int .i64 (k : Int)) rfl rfl (by kernel_rfl) (by kernel_rfl) (by kernel_rfl) (fun _ _ _ h => h) (Or.inl ⟨by rfl, ?_⟩) (by assumption) ?_
          · intro w' hSw'
            go_simp
          simp only [Act.put, List.setIfInBounds_toArray, List.set_cons_zero, List.set_cons_succ]
          refine takeH (i := 16) 74 (v := .pointer (some ⟨gb, goff + k * 2, none⟩)) rfl rfl (by kernel_rfl) (by kernel_rfl) (by kernel_rfl) (fun _ _ _ h => h) (Or.inl ⟨by rfl, ?_⟩) (by assumption) ?_
          · intro w' hSw'
            go_simp
          simp only [Act.put, List.setIfInBounds_toArray, List.set_cons_zero, List.set_cons_succ]
          refine takeH (i := 17) 75 (v := .pointer (some ⟨gb, goff + k * 2, none⟩)) rfl rfl (by kernel_rfl) (by kernel_rfl) (by kernel_rfl) (fun _ _ _ h => h) (Or.inl ⟨by rfl, ?_⟩) (by assumption) ?_
          · intro w' hSw'
            go_simp
          simp only [Act.put, List.setIfInBounds_toArray, List.set_cons_zero, List.set_cons_succ]
          refine takeH (i := 18) 76 (v := .int .i64 (l : Int)) rfl rfl (by kernel_rfl) (by kernel_rfl) (by kernel_rfl) (fun _ _ _ h => h) (Or.inl ⟨by rfl, ?_⟩) (by assumption) ?_
          · intro w' hSw'
            obtain ⟨y0, y1⟩ := CF.out w' hSw'
            go_simp
          simp only [Act.put, List.setIfInBounds_toArray, List.set_cons_zero, List.set_cons_succ]
          refine takeH (i := 19) 77 (v := .bool false) rfl rfl (by kernel_rfl) (by kernel_rfl) (by kernel_rfl) (fun _ _ _ h => h) (Or.inl ⟨by rfl, ?_⟩) (by assumption) ?_
          · intro w' hSw'
            go_simp
          simp only [Act.put, List.setIfInBounds_toArray, List.set_cons_zero, List.set_cons_succ]
          refine takeH (i := 20) 78 (v := .bool false) rfl rfl (by kernel_rfl) (by kernel_rfl) (by kernel_rfl) (fun _ _ _ h => h) (Or.inl ⟨by rfl, ?_⟩) (by assumption) ?_
          · intro w' hSw'
            go_simp
          simp only [Act.put, List.setIfInBounds_toArray, List.set_cons_zero, List.set_cons_succ]
          refine takeH (i := 21) 79 (v := .bool false) rfl rfl (by kernel_rfl) (by kernel_rfl) (by kernel_rfl) (fun _ _ _ h => h) (Or.inl ⟨by rfl, ?_⟩) (by assumption) ?_
          · intro w' hSw'
            go_simp
          simp only [Act.put, List.setIfInBounds_toArray, List.set_cons_zero, List.set_cons_succ]
          refine takeH (i := 0x16) 80 (v := .slice (some ⟨gb, goff, none⟩) N c3) rfl rfl (by kernel_rfl) (by kernel_rfl) (by kernel_rfl) (fun _ _ _ h => h) (Or.inl ⟨by rfl, ?_⟩) (by assumption) ?_
          · intro w' hSw'
            go_simp
          simp only [Act.put, List.setIfInBounds_toArray, List.set_cons_zero, List.set_cons_succ]
          refine takeH (i := 23) 81 (v := .int .i64 (k : Int)) rfl rfl (by kernel_rfl) (by kernel_rfl) (by kernel_rfl) (fun _ _ _ h => h) (Or.inl ⟨by rfl, ?_⟩) (by assumption) ?_
          · intro w' hSw'
            go_simp
          simp only [Act.put, List.setIfInBounds_toArray, List.set_cons_zero, List.set_cons_succ]
          refine takeH (i := 24) 82 (v := .pointer (some ⟨gb, goff + k * 2, none⟩)) rfl rfl (by kernel_rfl) (by kernel_rfl) (by kernel_rfl) (fun _ _ _ h => h) (Or.inl ⟨by rfl, ?_⟩) (by assumption) ?_
          · intro w' hSw'
            go_simp
          simp only [Act.put, List.setIfInBounds_toArray, List.set_cons_zero, List.set_cons_succ]
          refine takeH (i := 25) 83 (v := .pointer (some ⟨gb, goff + k * 2, none⟩)) rfl rfl (by kernel_rfl) (by kernel_rfl) (by kernel_rfl) (fun _ _ _ h => h) (Or.inl ⟨by rfl, ?_⟩) (by assumption) ?_
          · intro w' hSw'
            go_simp
          simp only [Act.put, List.setIfInBounds_toArray, List.set_cons_zero, List.set_cons_succ]
          refine takeH (i := 26) 84 (v := .int .i64 (l : Int)) rfl rfl (by kernel_rfl) (by kernel_rfl) (by kernel_rfl) (fun _ _ _ h => h) (Or.inl ⟨by rfl, ?_⟩) (by assumption) ?_
          · intro w' hSw'
            obtain ⟨y0, y1⟩ := CF.out w' hSw'
            go_simp
          simp only [Act.put, List.setIfInBounds_toArray, List.set_cons_zero, List.set_cons_succ]
          refine takeH (i := 27) 85 (v := .bool false) rfl rfl (by kernel_rfl) (by kernel_rfl) (by kernel_rfl) (fun _ _ _ h => h) (Or.inl ⟨by rfl, ?_⟩) (by assumption) ?_
          · intro w' hSw'
            go_simp
          simp only [Act.put, List.setIfInBounds_toArray, List.set_cons_zero, List.set_cons_succ]
          refine takeH (i := 28) 86 (v := .bool false) rfl rfl (by kernel_rfl) (by kernel_rfl) (by kernel_rfl) (fun _ _ _ h => h) (Or.inl ⟨by rfl, ?_⟩) (by assumption) ?_
          · intro w' hSw'
            go_simp
          simp only [Act.put, List.setIfInBounds_toArray, List.set_cons_zero, List.set_cons_succ]
          refine wpAnyH_done (by kernel_rfl) ?_ _
          obtain ⟨z0, z1⟩ := CF.out wr.drew ((Below.refl _ _).drew)
          have B5 := keep (B4.out.trans ((Below.refl wr.heap.size wr).drew.mono B4.out.size))
          have B5 := keep (B4.out.drew)
          clear CF
          go_wp2
          go_roundw
          case rel =>
            refine ⟨k + 1, s + y, by omega, ?_, ?_, NX.out, B5.out⟩
            · first | (rw [WP.out, WS.out]; done) | (rw [WP.out, WS.out]; go_num)
            · first | rfl | go_num
          case measure => simp [intOf]; omega
        · have hsb : Hid (s = b) := by
            show s = b
            rcases Nat.lt_or_ge s b with h | h
            · have h1 := hI.out.1.1
              have h3 := Mt.cov_pos h
              rw [← h1, HPS.out, List.length_drop, HN.out] at h3
              omega
            · have := hI.out.1.2.2
              omega
          have hsbo := hsb.out
          subst hsbo
          have B4 := keep hI.out.2
          have B5 := keep (B3.out.trans (hI.out.2.mono B3.out.size))
          have R4 := keep (R3.out.below strKind_ok hI.out.2)
          have S4 := keep (S3.out.below posKind_ok hI.out.2)
          have FO := keep (fold17_any (some ⟨hb, hoff, none⟩) H c2 h (some ⟨gb, goff, none⟩) N c3 ps wr (HLd.out.below B5.out) R4.out HSH.out h60.out S4.out (by have := CSH.out; omega) CIN.out (fun p _ => nodeAt_len HSH.out p))
          rw [CFK.out] at FO
          have hcap := R4.out.cap
          have RT : Hid (∀ w', Below wr.heap.size wr w' → Calls Tryd.prog 16 #[.slice (some ⟨hb, hoff + a, none⟩) (s - a) (c2 - a)] w' fun e w'' => e = .returned (.string ⟨X.toArray⟩) ∧ Below w'.heap.size w' w'') := fun w' hbw => by
            have h1 := root_any (s - a) (Mt.piece h a s) PLN.out (some ⟨hb, hoff + a, none⟩) (c2 - a) w' (HLd.out.below (B5.out.trans (hbw.mono B5.out.size))) (strs_tail ((R4.out.below strKind_ok hbw).head strKind_ok s HBH.out) a (by omega)) (fun e he => HSH.out e (List.mem_of_mem_take (List.mem_of_mem_drop he))) (by have := HBH.out; have := h60.out; omega)
            rw [HX.out] at h1
            exact h1
          have k9 : ¬ (k : Int) < (N : Int) := by omega
          have habo := hab.out
          have hbho := HBH.out
          have t0 : (0 : Int) ≤ (a : Int) := by omega
          have t1 : (a : Int) ≤ (s : Int) := by omega
          have t2 : (s : Int) ≤ (c2 : Int) := by omega
          have t3 : ¬ c2 = a := by omega
          have t4 : (0 : Int) ≤ (s : Int) := by omega
          clear hI hk hcap habo hbho
          go_wp2_with fail
          refine FO.out.mono ?_
          rintro e w7 ⟨rfl, hb7⟩
          have B7 := keep hb7
          have B8 := keep (B5.out.trans (hb7.mono B5.out.size))
          clear hb7 FO
          go_wp2_with fail
          refine (RT.out w7 B7.out).mono ?_
          rintro e w8 ⟨rfl, hb8⟩
          have B9 := keep (B8.out.trans (hb8.mono B8.out.size))
          clear hb8 RT
          go_wp2
          go_ret
          exact ⟨rfl, B9.out⟩
    · have nb : (H : Int) < (b : Int) := by omega
      obtain ⟨ps, hps⟩ : ∃ ps, Mt.cov a b = ps := ⟨_, rfl⟩
      rw [hps] at CV
      clear hok hps hbH hb
      go_enter Tryd.func5, Tryd.ntmps5
      go_wp2_with fail
      refine AW.out.mono ?_
      rintro e w1 ⟨rfl, hb1⟩
      have B1 := keep hb1
      clear hb1 AW
      go_wp2_with fail
      refine (LV.out w1 B1.out).mono ?_
      rintro e w2 ⟨v2, rfl, ho2, hb2⟩
      have B2 := keep (B1.out.trans (hb2.mono B1.out.size))
      rw [hH] at ho2
      obtain ⟨a2, c2, rfl⟩ := own_is ho2
      clear ho2 hb2 LV hH B1
      go_wp2_with fail
      refine (CV.out w2).mono ?_
      rintro e w3 ⟨v3, rfl, ho3, hb3⟩
      have B3 := keep (B2.out.trans (hb3.mono B2.out.size))
      obtain ⟨a3, c3, rfl⟩ := own_is ho3
      clear ho3 hb3 CV B2
      go_wp2
      go_ret
      exact ⟨rfl, B3.out⟩
  · have CV : Hid (∀ w', Calls Tryd.prog 15 #[.int .i64 (a : Int), .int .i64 (b : Int)] w' (PosA 41 w' [] 8)) := fun w' => by
      by_cases h1 : a < b
      · exact cover_off a b w' h1 (by omega) (fun c => hok ⟨h1, c⟩)
      · exact cover_bad _ _ w' (by omega)
    clear hok hb
    go_enter Tryd.func5, Tryd.ntmps5
    go_wp2_with fail
    refine AW.out.mono ?_
    rintro e w1 ⟨rfl, hb1⟩
    have B1 := keep hb1
    clear hb1 AW
    go_wp2_with fail
    refine (LV.out w1 B1.out).mono ?_
    rintro e w2 ⟨v2, rfl, ho2, hb2⟩
    have B2 := keep (B1.out.trans (hb2.mono B1.out.size))
    rw [hH] at ho2
    obtain ⟨a2, c2, rfl⟩ := own_is ho2
    clear ho2 hb2 LV hH B1
    go_wp2_with fail
    refine (CV.out w2).mono ?_
    rintro e w3 ⟨v3, rfl, ho3, hb3⟩
    have B3 := keep (B2.out.trans (hb3.mono B2.out.size))
    obtain ⟨a3, c3, rfl⟩ := own_is ho3
    clear ho3 hb3 CV B2
    go_wp2
    go_ret
    exact ⟨rfl, B3.out⟩
end Go.Proofs.YtdgfbbaddoghaaaDoor
