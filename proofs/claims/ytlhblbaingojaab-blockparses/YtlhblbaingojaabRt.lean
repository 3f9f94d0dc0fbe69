/- The walks of the document's TakeNum and TakeFix. -/
import Derived.Test.YtlhblbaingojaabT
import Derived.Test.YtlhblbaingojaabRp
namespace Go.Proofs.Ytlhblbaingojaab
open Go.RowKit

theorem cl_nat (n : Nat) (h : n ≤ 4611686018427387903) : cl (n : Int) = n := by unfold cl; omega
theorem rputNum_nil (n : Int) (w : World) : Calls Try.prog 23 #[.slice none 0 0, .int .i64 n] w fun e w' => ∃ ao c, e = .returned (.slice ao (num (cl n)).length c) ∧ New w w' (.slice ao (num (cl n)).length c) (num (cl n)).length (num (cl n)) :=
  (rputNum_any none 0 0 [] n w (by omega) (src_nil w)).mono fun e w' ⟨v, he, h⟩ => by
    simp only [Nat.zero_add, List.nil_append] at h
    obtain ⟨ao, c, rfl, _, _⟩ := h.src
    exact ⟨ao, c, he, h⟩
theorem part_lt (V d k : Nat) (hV : V < 128 ^ k) (hd : d < 128) (hk : k ≤ 8) (hg : k = 8 → d ≤ 63) : V + d * 128 ^ k < 4611686018427387904 := by
  rw [Nat.mul_comm]
  rcases Nat.lt_or_ge k 8 with h | h
  · have hpow : 128 ^ k ≤ 128 ^ 7 := Nat.pow_le_pow_right (by decide) (by omega)
    have : 128 ^ k * d ≤ 128 ^ 7 * 127 := Nat.mul_le_mul hpow (by omega)
    have e3 : (128 : Nat) ^ 7 = 562949953421312 := rfl
    omega
  · obtain rfl : k = 8 := by omega
    have := hg rfl
    have e3 : (128 : Nat) ^ 8 = 72057594037927936 := rfl
    omega

set_option maxHeartbeats 1000000 in
set_option maxRecDepth 100000 in
theorem rtakeNum_any (ao : Option Addr) (m c : Nat) (l : List UInt8) (w : World) (hm : m ≤ 140737488355328) (hs : Src w ao m c l) :
    Calls Try.prog 34 #[.slice ao m c] w fun e w' => (∃ n r v, takeNum l = some (n, r) ∧ e = .returned (.tuple #[.int .i64 (n : Int), v, .int .i64 0]) ∧ New w w' v r.length r) ∨ (takeNum l = none ∧ e = .returned (.tuple #[.int .i64 0, .slice none 0 0, .int .i64 2]) ∧ Below w.heap.size w w') := by
  obtain ⟨i0, hi, hz0, hz1, hz2⟩ := info_parts info5
  have HS := keep hs
  have hll := hs.len
  have hcap := hs.cap
  clear hs
  go_enter Try.func34, Try.ntmps34
  go_wp2
  go_loopw [5, 6, 7] (fun x y i wr => ∃ (k : Nat) (V W : Int), k ≤ m ∧ k ≤ 9 ∧ i = .int .i64 (k : Int) ∧ x = .int .i64 V ∧ y = .int .i64 W ∧ Hid (k ≤ 8 → V = ((val (l.take k) : Nat) : Int) ∧ W = ((128 ^ k : Nat) : Int)) ∧ Hid (∀ x ∈ l.take k, 128 ≤ x.toNat) ∧ Hid (Below w.heap.size w wr)) (fun _ _ i _ => 9 - (intOf i).toNat)
  case atStart => exact ⟨0, 0, 1, Nat.zero_le _, by omega, rfl, rfl, rfl, fun _ => ⟨rfl, rfl⟩, by simp [Hid], Below.refl _ _⟩
  case round =>
    obtain ⟨k, V, W, hk, hk9, rfl, rfl, rfl, hVW, hall, hb⟩ := hrel
    by_cases hlt : k < m ∧ k < 9
    · obtain ⟨hlt, hk8⟩ := hlt
      obtain ⟨rfl, rfl⟩ := hVW.out (by omega)
      obtain ⟨b, off, rfl, hbw, hby⟩ := HS.out.form (by omega)
      have hcell : wr.cell? ⟨b, off + k, none⟩ = some (.int .u8 ((fn l k).toNat : Int)) := by
        rw [hb.out.cell (p := ⟨b, off + k, none⟩) hbw]; exact hby k hlt
      have h0 : (0 : Int) ≤ (k : Int) := by omega
      have h1 : (k : Int) < (m : Int) := by omega
      have h2 : (k : Int) < 9 := by omega
      clear hby hVW
      obtain ⟨y, hy⟩ : ∃ y, fn l k = y := ⟨_, rfl⟩
      have HY := keep hy
      rw [hy] at hcell
      clear hy
      have hyl := y.toNat_lt
      have hVl : val (l.take k) < 128 ^ k := by have := val_lt (l.take k); rwa [List.length_take, Nat.min_eq_left (by omega)] at this
      have hmore : Hid (val (l.take (k + 1)) = val (l.take k) + 128 ^ k * (y.toNat % 128)) := by have := rg_val (l := l) (k := k) (by omega); rwa [HY.out] at this
      by_cases ha : k = 8 ∧ 63 < y.toNat % 128
      · obtain ⟨rfl, ha⟩ := ha
        have hnone : Hid (takeNum l = none) := rg_great hall.out (by omega) (by rw [HY.out]; omega)
        have ha' : (63 : Int) < (y.toNat : Int) % 128 := by omega
        clear hVl hmore
        go_wp2
        go_ret3
        exact .inr ⟨hnone.out, rfl, hb.out⟩
      · obtain ⟨D, hD⟩ : ∃ D, y.toNat % 128 = D := ⟨_, rfl⟩
        have hDi : (y.toNat : Int) % 128 = (D : Int) := by omega
        have hP := part_lt (val (l.take k)) D k hVl (by omega) (by omega) (by omega)
        obtain ⟨P, hPd⟩ : ∃ P, D * 128 ^ k = P := ⟨_, rfl⟩
        have hPi : (D : Int) * ((128 ^ k : Nat) : Int) = (P : Int) := by rw [← hPd, Int.natCast_mul]
        have hmore2 : Hid (val (l.take (k + 1)) = val (l.take k) + P) := by rw [hmore.out, hD, Nat.mul_comm, hPd]; exact rfl
        rw [hPd] at hP
        have haa : ¬ ((k : Int) = 8 ∧ (63 : Int) < (D : Int)) := by omega
        obtain ⟨V, hV⟩ : ∃ V, val (l.take k) = V := ⟨_, rfl⟩
        rw [hV] at hP hmore2 ⊢
        have HV := keep hV
        have HPD := keep hPd
        have HD := keep hD
        obtain ⟨W, hW⟩ : ∃ W, 128 ^ k = W := ⟨_, rfl⟩
        rw [hW] at hPi ⊢
        have HW := keep hW
        clear hV hPd hD hmore hVl hW
        by_cases hk88 : k = 8
        · subst hk88
          have hD63 : ¬ ((63 : Int) < (D : Int)) := by omega
          by_cases hbb : 128 ≤ y.toNat
          · have hbb' : ¬ ((y.toNat : Int) < 128) := by omega
            have hall' : Hid (∀ x ∈ l.take (9), 128 ≤ x.toNat) := rg_more hall.out (by omega) (by rw [HY.out]; exact hbb)
            go_wp2
            go_roundw
            case rel => exact ⟨8 + 1, (V : Int) + (P : Int), _, by omega, by omega, by first | rfl | go_num, rfl, rfl, fun h => by omega, hall', hb⟩
            case measure => simp [intOf]
          · have hbb' : (y.toNat : Int) < 128 := by omega
            have hDy : D = y.toNat := by have := HD.out; omega
            have hPy : (y.toNat : Int) * (W : Int) = (P : Int) := by rw [← hDy]; exact hPi
            have hy63 : ¬ ((63 : Int) < (y.toNat : Int)) := by omega
            have hcl : cl ((V : Int) + (P : Int)) = V + P := cl_nat (V + P) (by omega)
            go_wp2_with fail
            refine (rputNum_nil ((V : Int) + (P : Int)) wr).mono ?_
            rintro e w1 ⟨a1, c1, rfl, hn1⟩
            rw [hcl]
            have HB1 := keep (hb.out.trans (hn1.2.mono hb.out.size))
            clear hn1
            by_cases hz : 8 = 0 ∨ y.toNat ≠ 0
            · have hdone : Hid (takeNum l = some (V + P, l.drop (9))) := by
                have := rg_done hall.out (by omega) (by omega) (by rw [HY.out]; omega) (by rw [HY.out]; exact hz) (by rw [HY.out]; omega)
                rw [HY.out, HV.out, Nat.mul_comm, ← hDy, HPD.out] at this
                exact this
              have hL : (num (V + P)).length = 9 := by
                have h1 := (takeNum_some hdone.out).2
                have h2 := congrArg List.length h1
                rw [List.length_append, List.length_drop, hll] at h2
                omega
              rw [hL]
              have HT := keep ((HS.out.below HB1.out).tailS (9) (by omega))
              have HT0 := keep (fun h => (HS.out.below HB1.out).tail0 (9) h)
              have hlen : (l.drop (9)).length = m - (9) := by rw [List.length_drop, hll]
              have g1 : (9 : Int) ≤ (m : Int) := by omega
              have g2 : (0 : Int) ≤ (9 : Int) := by omega
              have g3 : (9 : Int).toNat = 9 := rfl
              clear hcell hL
              by_cases hck : c = 9
              · subst hck
                obtain rfl : m = 9 := by omega
                have HT9 := keep (HT0.out rfl)
                clear HT0 HT
                go_wp2_with (at_builtin; refine wpList_append_src rfl _ _ 24 rfl w1.heap.size i0 _ Try.underlying24 hi hz0 hz1 hz2 rfl _ 0 [] rfl (World.ownsRow_made w1 #[] 0 (Nat.le_refl _) (by unfold maxLen; omega) rfl) _ 0 0 (l.drop (9)) rfl (HT9.out.below ((Below.refl _ _).alloc (Nat.le_refl _) _)) (by omega) (by simp) ?_; intro v2 w2 ho2 hg2; simp only [Nat.zero_add, List.nil_append] at ho2; have hb2 := keep (((Below.refl w1.heap.size w1).alloc (Nat.le_refl _) _).grown hg2 (by simp) (fun j hj => by cases hj; exact Nat.le_refl _)); have ho3 := keep ho2; clear ho2 hg2)
                go_ret3
                refine .inl ⟨V + P, _, _, hdone.out, rfl, New.after HB1.out ⟨?_, hb2.out⟩⟩
                rw [hlen]
                exact ho3.out
              · go_wp2_with (at_builtin; refine wpList_append_src rfl _ _ 24 rfl w1.heap.size i0 _ Try.underlying24 hi hz0 hz1 hz2 rfl _ 0 [] rfl (World.ownsRow_made w1 #[] 0 (Nat.le_refl _) (by unfold maxLen; omega) rfl) _ (m - (9)) (c - (9)) (l.drop (9)) rfl (HT.out.below ((Below.refl _ _).alloc (Nat.le_refl _) _)) (by omega) (by simp) ?_; intro v2 w2 ho2 hg2; simp only [Nat.zero_add, List.nil_append] at ho2; have hb2 := keep (((Below.refl w1.heap.size w1).alloc (Nat.le_refl _) _).grown hg2 (by simp) (fun j hj => by cases hj; exact Nat.le_refl _)); have ho3 := keep ho2; clear ho2 hg2)
                go_ret3
                refine .inl ⟨V + P, _, _, hdone.out, rfl, New.after HB1.out ⟨?_, hb2.out⟩⟩
                rw [hlen]
                exact ho3.out
            · have hnone : Hid (takeNum l = none) := rg_zero hall.out (by omega) (by omega) (by rw [HY.out]; omega)
              have hL : (num (V + P)).length ≠ 9 := by
                have h1 := (len_done hall.out (show y.toNat < 128 by omega)).1
                have hlk : (l.take 8).length = 8 := by rw [List.length_take]; omega
                have hve : val (l.take 8 ++ [y]) = V + P := by
                  rw [val_append, hlk, HV.out]
                  simp only [val]
                  rw [Nat.mod_eq_of_lt (by omega), ← HPD.out, hDy, Nat.mul_zero, Nat.add_zero, Nat.mul_comm]
                rw [hve, hlk] at h1
                intro e
                rcases h1 e with h3 | h3
                · rw [h3] at hlk; simp at hlk <;> omega
                · omega
              have hL' : ¬ (((num (V + P)).length : Int) = (9 : Int)) := by omega
              clear hcell hL
              go_wp2
              go_ret3
              exact .inr ⟨hnone.out, rfl, HB1.out⟩
        · have hne : ¬ ((k : Int) = 8) := by omega
          by_cases hbb : 128 ≤ y.toNat
          · have hbb' : ¬ ((y.toNat : Int) < 128) := by omega
            have hall' : Hid (∀ x ∈ l.take (k + 1), 128 ≤ x.toNat) := rg_more hall.out (by omega) (by rw [HY.out]; exact hbb)
            go_wp2
            go_roundw
            case rel => exact ⟨k + 1, (V : Int) + (P : Int), _, by omega, by omega, by first | rfl | go_num, rfl, rfl, fun h => ⟨by rw [hmore2.out]; rfl, by have e := HW.out; have e2 : 128 ^ (k + 1) = W * 128 := by { rw [Nat.pow_succ, e] }; have e3 : W ≤ 562949953421312 := by { rw [← e]; exact Nat.pow_le_pow_right (n := 128) (i := k) (j := 7) (by decide) (by omega) }; rw [e2]; unfold wrap64; omega⟩, hall', hb⟩
            case measure => simp [intOf]; omega
          · have hbb' : (y.toNat : Int) < 128 := by omega
            have hDy : D = y.toNat := by have := HD.out; omega
            have hPy : (y.toNat : Int) * (W : Int) = (P : Int) := by rw [← hDy]; exact hPi
            have hcl : cl ((V : Int) + (P : Int)) = V + P := cl_nat (V + P) (by omega)
            go_wp2_with fail
            refine (rputNum_nil ((V : Int) + (P : Int)) wr).mono ?_
            rintro e w1 ⟨a1, c1, rfl, hn1⟩
            rw [hcl]
            have HB1 := keep (hb.out.trans (hn1.2.mono hb.out.size))
            clear hn1
            by_cases hz : k = 0 ∨ y.toNat ≠ 0
            · have hdone : Hid (takeNum l = some (V + P, l.drop (k + 1))) := by
                have := rg_done hall.out (by omega) (by omega) (by rw [HY.out]; omega) (by rw [HY.out]; exact hz) (by rw [HY.out]; omega)
                rw [HY.out, HV.out, Nat.mul_comm, ← hDy, HPD.out] at this
                exact this
              have hL : (num (V + P)).length = k + 1 := by
                have h1 := (takeNum_some hdone.out).2
                have h2 := congrArg List.length h1
                rw [List.length_append, List.length_drop, hll] at h2
                omega
              rw [hL]
              have HT := keep ((HS.out.below HB1.out).tailS (k + 1) (by omega))
              have HT0 := keep (fun h => (HS.out.below HB1.out).tail0 (k + 1) h)
              have hlen : (l.drop (k + 1)).length = m - (k + 1) := by rw [List.length_drop, hll]
              have g1 : (k : Int) + 1 ≤ (m : Int) := by omega
              have g2 : (0 : Int) ≤ (k : Int) + 1 := by omega
              have g3 : ((k : Int) + 1).toNat = k + 1 := by omega
              clear hcell hL
              by_cases hck : k + 1 = c
              · go_wp2_with (at_builtin; refine wpList_append_src rfl _ _ 24 rfl w1.heap.size i0 _ Try.underlying24 hi hz0 hz1 hz2 rfl _ 0 [] rfl (World.ownsRow_made w1 #[] 0 (Nat.le_refl _) (by unfold maxLen; omega) rfl) _ 0 0 (l.drop (k + 1)) rfl ((HT0.out hck).below ((Below.refl _ _).alloc (Nat.le_refl _) _)) (by omega) (by simp) ?_; intro v2 w2 ho2 hg2; simp only [Nat.zero_add, List.nil_append] at ho2; have hb2 := keep (((Below.refl w1.heap.size w1).alloc (Nat.le_refl _) _).grown hg2 (by simp) (fun j hj => by cases hj; exact Nat.le_refl _)); have ho3 := keep ho2; clear ho2 hg2)
                go_ret3
                refine .inl ⟨V + P, _, _, hdone.out, rfl, New.after HB1.out ⟨?_, hb2.out⟩⟩
                rw [hlen, show m - (k + 1) = 0 by omega]
                exact ho3.out
              · go_wp2_with (at_builtin; refine wpList_append_src rfl _ _ 24 rfl w1.heap.size i0 _ Try.underlying24 hi hz0 hz1 hz2 rfl _ 0 [] rfl (World.ownsRow_made w1 #[] 0 (Nat.le_refl _) (by unfold maxLen; omega) rfl) _ (m - (k + 1)) (c - (k + 1)) (l.drop (k + 1)) rfl (HT.out.below ((Below.refl _ _).alloc (Nat.le_refl _) _)) (by omega) (by simp) ?_; intro v2 w2 ho2 hg2; simp only [Nat.zero_add, List.nil_append] at ho2; have hb2 := keep (((Below.refl w1.heap.size w1).alloc (Nat.le_refl _) _).grown hg2 (by simp) (fun j hj => by cases hj; exact Nat.le_refl _)); have ho3 := keep ho2; clear ho2 hg2)
                go_ret3
                refine .inl ⟨V + P, _, _, hdone.out, rfl, New.after HB1.out ⟨?_, hb2.out⟩⟩
                rw [hlen]
                exact ho3.out
            · have hnone : Hid (takeNum l = none) := rg_zero hall.out (by omega) (by omega) (by rw [HY.out]; omega)
              have hL : (num (V + P)).length ≠ k + 1 := by
                have h1 := (len_done hall.out (show y.toNat < 128 by omega)).1
                have hlk : (l.take k).length = k := by rw [List.length_take]; omega
                have hve : val (l.take k ++ [y]) = V + P := by
                  rw [val_append, hlk, HV.out]
                  simp only [val]
                  rw [Nat.mod_eq_of_lt (by omega), ← HPD.out, hDy, Nat.mul_zero, Nat.add_zero, Nat.mul_comm]
                rw [hve, hlk] at h1
                intro e
                rcases h1 e with h3 | h3
                · rw [h3] at hlk; simp at hlk <;> omega
                · omega
              have hL' : ¬ (((num (V + P)).length : Int) = (k : Int) + 1) := by omega
              clear hcell hL
              go_wp2
              go_ret3
              exact .inr ⟨hnone.out, rfl, HB1.out⟩
    · have hnone : Hid (takeNum l = none) := by
        rcases Nat.lt_or_ge k m with h | h
        · have h9 : k = 9 := by omega
          subst h9
          have := take_long (t := l.drop 9) hall.out (by rw [List.length_take]; omega)
          rwa [List.take_append_drop] at this
        · have := hall.out
          rw [List.take_of_length_le (by omega)] at this
          exact take_short this
      have hq : ¬ ((k : Int) < (m : Int) ∧ (k : Int) < 9) := by omega
      go_wp2
      all_goals
        go_ret3
        exact .inr ⟨hnone.out, rfl, hb.out⟩
end Go.Proofs.Ytlhblbaingojaab
