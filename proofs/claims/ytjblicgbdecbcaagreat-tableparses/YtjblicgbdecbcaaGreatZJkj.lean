/- The walks of the document's TakeNum and TakeFix. -/
/- The walk of the document's TakeText. -/
/- The walk of the document's TakeText once more: what it answers lies in a block of bytes; what both take, as one answer. -/
/- Where the document's Parse stops early the bytes are no block, over plain lists; no walk. -/
import Derived.Test.YtjblicgbdecbcaaGreatZT
import Derived.Test.YtjblicgbdecbcaaGreatZRpj
import Derived.Test.YtjblicgbdecbcaaGreatZJ1rj
import Derived.Test.YtjblicgbdecbcaaGreatZJ1j
import Derived.Test.YtjblicgbdecbcaaGreatZTwj
import Derived.Test.YtjblicgbdecbcaaGreatZJdj
namespace Go.Proofs.YtjblicgbdecbcaaGreat
open Go.RowKit

theorem cl_nat (n : Nat) (h : n ≤ 4611686018427387903) : cl (n : Int) = n := by unfold cl; omega
theorem rputNum_nil (n : Int) (w : World) : Calls Tryz.prog 31 #[.slice none 0 0, .int .i64 n] w fun e w' => ∃ ao c, e = .returned (.slice ao (num (cl n)).length c) ∧ New w w' (.slice ao (num (cl n)).length c) (num (cl n)).length (num (cl n)) :=
  (rputNum_any none 0 0 [] n w (by omega) (src_nil w)).mono fun e w' ⟨v, he, h⟩ => by
    simp only [Nat.zero_add, List.nil_append] at h
    obtain ⟨ao, c, rfl, _, _⟩ := h.src
    exact ⟨ao, c, he, h⟩
theorem part_lt (V d k : Nat) (hV : V < 128 ^ k) (hd : d < 128) (hk : k ≤ 8) (hg : k = 8 → d ≤ 63) : V + d * 128 ^ k < 4611686018427387904 := by
  rw [Nat.mul_comm]
  rcases Nat.lt_or_ge k 8 with h | h
  · have hpow : 128 ^ k ≤ 128 ^ 7 := Nat.pow_le_pow_right (by decide) (by omega)
    have : 128 ^ k * d ≤ 128 ^ 7 * 127 := Nat.mul_le_mul hpow (by omega)
    have e3 : (128 : Nat) ^ 7 = 562949953421312 := rfl
    omega
  · obtain rfl : k = 8 := by omega
    have := hg rfl
    have e3 : (128 : Nat) ^ 8 = 72057594037927936 := rfl
    omega

set_option maxHeartbeats 1000000 in
set_option maxRecDepth 100000 in
theorem rtakeNum_any (ao : Option Addr) (m c : Nat) (l : List UInt8) (w : World) (hm : m ≤ 140737488355328) (hs : Src w ao m c l) :
    Calls Tryz.prog 41 #[.slice ao m c] w fun e w' => (∃ n r v, takeNum l = some (n, r) ∧ e = .returned (.tuple #[.int .i64 (n : Int), v, .int .i64 0]) ∧ New w w' v r.length r) ∨ (takeNum l = none ∧ e = .returned (.tuple #[.int .i64 0, .slice none 0 0, .int .i64 2]) ∧ Below w.heap.size w w') := by
  obtain ⟨i0, hi, hz0, hz1, hz2⟩ := info_parts info5
  have HS := keep hs
  have hll := hs.len
  have hcap := hs.cap
  clear hs
  go_enter Tryz.func41, Tryz.ntmps41
  go_wp2
  go_loopw [5, 6, 7] (fun x y i wr => ∃ (k : Nat) (V W : Int), k ≤ m ∧ k ≤ 9 ∧ i = .int .i64 (k : Int) ∧ x = .int .i64 V ∧ y = .int .i64 W ∧ Hid (k ≤ 8 → V = ((val (l.take k) : Nat) : Int) ∧ W = ((128 ^ k : Nat) : Int)) ∧ Hid (∀ x ∈ l.take k, 128 ≤ x.toNat) ∧ Hid (Below w.heap.size w wr)) (fun _ _ i _ => 9 - (intOf i).toNat)
  case atStart => exact ⟨0, 0, 1, Nat.zero_le _, by omega, rfl, rfl, rfl, fun _ => ⟨rfl, rfl⟩, by simp [Hid], Below.refl _ _⟩
  case round =>
    obtain ⟨k, V, W, hk, hk9, rfl, rfl, rfl, hVW, hall, hb⟩ := hrel
    by_cases hlt : k < m ∧ k < 9
    · obtain ⟨hlt, hk8⟩ := hlt
      obtain ⟨rfl, rfl⟩ := hVW.out (by omega)
      obtain ⟨b, off, rfl, hbw, hby⟩ := HS.out.form (by omega)
      have hcell : wr.cell? ⟨b, off + k, none⟩ = some (.int .u8 ((fn l k).toNat : Int)) := by
        rw [hb.out.cell (p := ⟨b, off + k, none⟩) hbw]; exact hby k hlt
      have h0 : (0 : Int) ≤ (k : Int) := by omega
      have h1 : (k : Int) < (m : Int) := by omega
      have h2 : (k : Int) < 9 := by omega
      clear hby hVW
      obtain ⟨y, hy⟩ : ∃ y, fn l k = y := ⟨_, rfl⟩
      have HY := keep hy
      rw [hy] at hcell
      clear hy
      have hyl := y.toNat_lt
      have hVl : val (l.take k) < 128 ^ k := by have := val_lt (l.take k); rwa [List.length_take, Nat.min_eq_left (by omega)] at this
      have hmore : Hid (val (l.take (k + 1)) = val (l.take k) + 128 ^ k * (y.toNat % 128)) := by have := rg_val (l := l) (k := k) (by omega); rwa [HY.out] at this
      by_cases ha : k = 8 ∧ 63 < y.toNat % 128
      · obtain ⟨rfl, ha⟩ := ha
        have hnone : Hid (takeNum l = none) := rg_great hall.out (by omega) (by rw [HY.out]; omega)
        have ha' : (63 : Int) < (y.toNat : Int) % 128 := by omega
        clear hVl hmore
        go_wp2
        go_ret3
        exact .inr ⟨hnone.out, rfl, hb.out⟩
      · obtain ⟨D, hD⟩ : ∃ D, y.toNat % 128 = D := ⟨_, rfl⟩
        have hDi : (y.toNat : Int) % 128 = (D : Int) := by omega
        have hP := part_lt (val (l.take k)) D k hVl (by omega) (by omega) (by omega)
        obtain ⟨P, hPd⟩ : ∃ P, D * 128 ^ k = P := ⟨_, rfl⟩
        have hPi : (D : Int) * ((128 ^ k : Nat) : Int) = (P : Int) := by rw [← hPd, Int.natCast_mul]
        have hmore2 : Hid (val (l.take (k + 1)) = val (l.take k) + P) := by rw [hmore.out, hD, Nat.mul_comm, hPd]; exact rfl
        rw [hPd] at hP
        have haa : ¬ ((k : Int) = 8 ∧ (63 : Int) < (D : Int)) := by omega
        obtain ⟨V, hV⟩ : ∃ V, val (l.take k) = V := ⟨_, rfl⟩
        rw [hV] at hP hmore2 ⊢
        have HV := keep hV
        have HPD := keep hPd
        have HD := keep hD
        obtain ⟨W, hW⟩ : ∃ W, 128 ^ k = W := ⟨_, rfl⟩
        rw [hW] at hPi ⊢
        have HW := keep hW
        clear hV hPd hD hmore hVl hW
        by_cases hk88 : k = 8
        · subst hk88
          have hD63 : ¬ ((63 : Int) < (D : Int)) := by omega
          by_cases hbb : 128 ≤ y.toNat
          · have hbb' : ¬ ((y.toNat : Int) < 128) := by omega
            have hall' : Hid (∀ x ∈ l.take (9), 128 ≤ x.toNat) := rg_more hall.out (by omega) (by rw [HY.out]; exact hbb)
            go_wp2
            go_roundw
            case rel => exact ⟨8 + 1, (V : Int) + (P : Int), _, by omega, by omega, by first | rfl | go_num, rfl, rfl, fun h => by omega, hall', hb⟩
            case measure => simp [intOf]
          · have hbb' : (y.toNat : Int) < 128 := by omega
            have hDy : D = y.toNat := by have := HD.out; omega
            have hPy : (y.toNat : Int) * (W : Int) = (P : Int) := by rw [← hDy]; exact hPi
            have hy63 : ¬ ((63 : Int) < (y.toNat : Int)) := by omega
            have hcl : cl ((V : Int) + (P : Int)) = V + P := cl_nat (V + P) (by omega)
            go_wp2_with fail
            refine (rputNum_nil ((V : Int) + (P : Int)) wr).mono ?_
            rintro e w1 ⟨a1, c1, rfl, hn1⟩
            rw [hcl]
            have HB1 := keep (hb.out.trans (hn1.2.mono hb.out.size))
            clear hn1
            by_cases hz : 8 = 0 ∨ y.toNat ≠ 0
            · have hdone : Hid (takeNum l = some (V + P, l.drop (9))) := by
                have := rg_done hall.out (by omega) (by omega) (by rw [HY.out]; omega) (by rw [HY.out]; exact hz) (by rw [HY.out]; omega)
                rw [HY.out, HV.out, Nat.mul_comm, ← hDy, HPD.out] at this
                exact this
              have hL : (num (V + P)).length = 9 := by
                have h1 := (takeNum_some hdone.out).2
                have h2 := congrArg List.length h1
                rw [List.length_append, List.length_drop, hll] at h2
                omega
              rw [hL]
              have HT := keep ((HS.out.below HB1.out).tailS (9) (by omega))
              have HT0 := keep (fun h => (HS.out.below HB1.out).tail0 (9) h)
              have hlen : (l.drop (9)).length = m - (9) := by rw [List.length_drop, hll]
              have g1 : (9 : Int) ≤ (m : Int) := by omega
              have g2 : (0 : Int) ≤ (9 : Int) := by omega
              have g3 : (9 : Int).toNat = 9 := rfl
              clear hcell hL
              by_cases hck : c = 9
              · subst hck
                obtain rfl : m = 9 := by omega
                have HT9 := keep (HT0.out rfl)
                clear HT0 HT
                go_wp2_with (at_builtin; refine wpList_append_src rfl _ _ 24 rfl w1.heap.size i0 _ Tryz.underlying24 hi hz0 hz1 hz2 rfl _ 0 [] rfl (World.ownsRow_made w1 #[] 0 (Nat.le_refl _) (by unfold maxLen; omega) rfl) _ 0 0 (l.drop (9)) rfl (HT9.out.below ((Below.refl _ _).alloc (Nat.le_refl _) _)) (by omega) (by simp) ?_; intro v2 w2 ho2 hg2; simp only [Nat.zero_add, List.nil_append] at ho2; have hb2 := keep (((Below.refl w1.heap.size w1).alloc (Nat.le_refl _) _).grown hg2 (by simp) (fun j hj => by cases hj; exact Nat.le_refl _)); have ho3 := keep ho2; clear ho2 hg2)
                go_ret3
                refine .inl ⟨V + P, _, _, hdone.out, rfl, New.after HB1.out ⟨?_, hb2.out⟩⟩
                rw [hlen]
                exact ho3.out
              · go_wp2_with (at_builtin; refine wpList_append_src rfl _ _ 24 rfl w1.heap.size i0 _ Tryz.underlying24 hi hz0 hz1 hz2 rfl _ 0 [] rfl (World.ownsRow_made w1 #[] 0 (Nat.le_refl _) (by unfold maxLen; omega) rfl) _ (m - (9)) (c - (9)) (l.drop (9)) rfl (HT.out.below ((Below.refl _ _).alloc (Nat.le_refl _) _)) (by omega) (by simp) ?_; intro v2 w2 ho2 hg2; simp only [Nat.zero_add, List.nil_append] at ho2; have hb2 := keep (((Below.refl w1.heap.size w1).alloc (Nat.le_refl _) _).grown hg2 (by simp) (fun j hj => by cases hj; exact Nat.le_refl _)); have ho3 := keep ho2; clear ho2 hg2)
                go_ret3
                refine .inl ⟨V + P, _, _, hdone.out, rfl, New.after HB1.out ⟨?_, hb2.out⟩⟩
                rw [hlen]
                exact ho3.out
            · have hnone : Hid (takeNum l = none) := rg_zero hall.out (by omega) (by omega) (by rw [HY.out]; omega)
              have hL : (num (V + P)).length ≠ 9 := by
                have h1 := (len_done hall.out (show y.toNat < 128 by omega)).1
                have hlk : (l.take 8).length = 8 := by rw [List.length_take]; omega
                have hve : val (l.take 8 ++ [y]) = V + P := by
                  rw [val_append, hlk, HV.out]
                  simp only [val]
                  rw [Nat.mod_eq_of_lt (by omega), ← HPD.out, hDy, Nat.mul_zero, Nat.add_zero, Nat.mul_comm]
                rw [hve, hlk] at h1
                intro e
                rcases h1 e with h3 | h3
                · rw [h3] at hlk; simp at hlk <;> omega
                · omega
              have hL' : ¬ (((num (V + P)).length : Int) = (9 : Int)) := by omega
              clear hcell hL
              go_wp2
              go_ret3
              exact .inr ⟨hnone.out, rfl, HB1.out⟩
        · have hne : ¬ ((k : Int) = 8) := by omega
          by_cases hbb : 128 ≤ y.toNat
          · have hbb' : ¬ ((y.toNat : Int) < 128) := by omega
            have hall' : Hid (∀ x ∈ l.take (k + 1), 128 ≤ x.toNat) := rg_more hall.out (by omega) (by rw [HY.out]; exact hbb)
            go_wp2
            go_roundw
            case rel => exact ⟨k + 1, (V : Int) + (P : Int), _, by omega, by omega, by first | rfl | go_num, rfl, rfl, fun h => ⟨by rw [hmore2.out]; rfl, by have e := HW.out; have e2 : 128 ^ (k + 1) = W * 128 := by { rw [Nat.pow_succ, e] }; have e3 : W ≤ 562949953421312 := by { rw [← e]; exact Nat.pow_le_pow_right (n := 128) (i := k) (j := 7) (by decide) (by omega) }; rw [e2]; unfold wrap64; omega⟩, hall', hb⟩
            case measure => simp [intOf]; omega
          · have hbb' : (y.toNat : Int) < 128 := by omega
            have hDy : D = y.toNat := by have := HD.out; omega
            have hPy : (y.toNat : Int) * (W : Int) = (P : Int) := by rw [← hDy]; exact hPi
            have hcl : cl ((V : Int) + (P : Int)) = V + P := cl_nat (V + P) (by omega)
            go_wp2_with fail
            refine (rputNum_nil ((V : Int) + (P : Int)) wr).mono ?_
            rintro e w1 ⟨a1, c1, rfl, hn1⟩
            rw [hcl]
            have HB1 := keep (hb.out.trans (hn1.2.mono hb.out.size))
            clear hn1
            by_cases hz : k = 0 ∨ y.toNat ≠ 0
            · have hdone : Hid (takeNum l = some (V + P, l.drop (k + 1))) := by
                have := rg_done hall.out (by omega) (by omega) (by rw [HY.out]; omega) (by rw [HY.out]; exact hz) (by rw [HY.out]; omega)
                rw [HY.out, HV.out, Nat.mul_comm, ← hDy, HPD.out] at this
                exact this
              have hL : (num (V + P)).length = k + 1 := by
                have h1 := (takeNum_some hdone.out).2
                have h2 := congrArg List.length h1
                rw [List.length_append, List.length_drop, hll] at h2
                omega
              rw [hL]
              have HT := keep ((HS.out.below HB1.out).tailS (k + 1) (by omega))
              have HT0 := keep (fun h => (HS.out.below HB1.out).tail0 (k + 1) h)
              have hlen : (l.drop (k + 1)).length = m - (k + 1) := by rw [List.length_drop, hll]
              have g1 : (k : Int) + 1 ≤ (m : Int) := by omega
              have g2 : (0 : Int) ≤ (k : Int) + 1 := by omega
              have g3 : ((k : Int) + 1).toNat = k + 1 := by omega
              clear hcell hL
              by_cases hck : k + 1 = c
              · go_wp2_with (at_builtin; refine wpList_append_src rfl _ _ 24 rfl w1.heap.size i0 _ Tryz.underlying24 hi hz0 hz1 hz2 rfl _ 0 [] rfl (World.ownsRow_made w1 #[] 0 (Nat.le_refl _) (by unfold maxLen; omega) rfl) _ 0 0 (l.drop (k + 1)) rfl ((HT0.out hck).below ((Below.refl _ _).alloc (Nat.le_refl _) _)) (by omega) (by simp) ?_; intro v2 w2 ho2 hg2; simp only [Nat.zero_add, List.nil_append] at ho2; have hb2 := keep (((Below.refl w1.heap.size w1).alloc (Nat.le_refl _) _).grown hg2 (by simp) (fun j hj => by cases hj; exact Nat.le_refl _)); have ho3 := keep ho2; clear ho2 hg2)
                go_ret3
                refine .inl ⟨V + P, _, _, hdone.out, rfl, New.after HB1.out ⟨?_, hb2.out⟩⟩
                rw [hlen, show m - (k + 1) = 0 by omega]
                exact ho3.out
              · go_wp2_with (at_builtin; refine wpList_append_src rfl _ _ 24 rfl w1.heap.size i0 _ Tryz.underlying24 hi hz0 hz1 hz2 rfl _ 0 [] rfl (World.ownsRow_made w1 #[] 0 (Nat.le_refl _) (by unfold maxLen; omega) rfl) _ (m - (k + 1)) (c - (k + 1)) (l.drop (k + 1)) rfl (HT.out.below ((Below.refl _ _).alloc (Nat.le_refl _) _)) (by omega) (by simp) ?_; intro v2 w2 ho2 hg2; simp only [Nat.zero_add, List.nil_append] at ho2; have hb2 := keep (((Below.refl w1.heap.size w1).alloc (Nat.le_refl _) _).grown hg2 (by simp) (fun j hj => by cases hj; exact Nat.le_refl _)); have ho3 := keep ho2; clear ho2 hg2)
                go_ret3
                refine .inl ⟨V + P, _, _, hdone.out, rfl, New.after HB1.out ⟨?_, hb2.out⟩⟩
                rw [hlen]
                exact ho3.out
            · have hnone : Hid (takeNum l = none) := rg_zero hall.out (by omega) (by omega) (by rw [HY.out]; omega)
              have hL : (num (V + P)).length ≠ k + 1 := by
                have h1 := (len_done hall.out (show y.toNat < 128 by omega)).1
                have hlk : (l.take k).length = k := by rw [List.length_take]; omega
                have hve : val (l.take k ++ [y]) = V + P := by
                  rw [val_append, hlk, HV.out]
                  simp only [val]
                  rw [Nat.mod_eq_of_lt (by omega), ← HPD.out, hDy, Nat.mul_zero, Nat.add_zero, Nat.mul_comm]
                rw [hve, hlk] at h1
                intro e
                rcases h1 e with h3 | h3
                · rw [h3] at hlk; simp at hlk <;> omega
                · omega
              have hL' : ¬ (((num (V + P)).length : Int) = (k : Int) + 1) := by omega
              clear hcell hL
              go_wp2
              go_ret3
              exact .inr ⟨hnone.out, rfl, HB1.out⟩
    · have hnone : Hid (takeNum l = none) := by
        rcases Nat.lt_or_ge k m with h | h
        · have h9 : k = 9 := by omega
          subst h9
          have := take_long (t := l.drop 9) hall.out (by rw [List.length_take]; omega)
          rwa [List.take_append_drop] at this
        · have := hall.out
          rw [List.take_of_length_le (by omega)] at this
          exact take_short this
      have hq : ¬ ((k : Int) < (m : Int) ∧ (k : Int) < 9) := by omega
      go_wp2
      all_goals
        go_ret3
        exact .inr ⟨hnone.out, rfl, hb.out⟩
end Go.Proofs.YtjblicgbdecbcaaGreat
namespace Go.Proofs.YtjblicgbdecbcaaGreat
open Go.RowKit

theorem rtakeNum_yes {ao : Option Addr} {m c : Nat} {l : List UInt8} {w : World} (hm : m ≤ 140737488355328) (hs : Src w ao m c l) {n : Nat} {r : List UInt8} (hn : takeNum l = some (n, r)) :
    Calls Tryz.prog 41 #[.slice ao m c] w fun e w' => ∃ a1 c1, e = .returned (.tuple #[.int .i64 (n : Int), .slice a1 r.length c1, .int .i64 0]) ∧ Src w' a1 r.length c1 r ∧ Below w.heap.size w w' :=
  (rtakeNum_any ao m c l w hm hs).mono fun e w' h => by
    rcases h with ⟨n', r', v, h1, rfl, hN⟩ | ⟨h1, _⟩
    · rw [hn] at h1
      cases h1
      obtain ⟨a1, c1, rfl, hs1, _⟩ := hN.src
      exact ⟨a1, c1, rfl, hs1, hN.2⟩
    · rw [hn] at h1; cases h1
theorem rtakeNum_no {ao : Option Addr} {m c : Nat} {l : List UInt8} {w : World} (hm : m ≤ 140737488355328) (hs : Src w ao m c l) (hn : takeNum l = none) :
    Calls Tryz.prog 41 #[.slice ao m c] w fun e w' => e = .returned (.tuple #[.int .i64 0, .slice none 0 0, .int .i64 2]) ∧ Below w.heap.size w w' :=
  (rtakeNum_any ao m c l w hm hs).mono fun e w' h => by
    rcases h with ⟨n', r', v, h1, _⟩ | ⟨_, rfl, hb⟩
    · rw [hn] at h1; cases h1
    · exact ⟨rfl, hb⟩

set_option maxHeartbeats 1000000 in
set_option maxRecDepth 100000 in
theorem rtakeText_none (ao : Option Addr) (m c : Nat) (l : List UInt8) (most : Int) (w : World) (hm : m ≤ 140737488355328) (hs : Src w ao m c l) (hn : takeNum l = none) :
    Calls Tryz.prog 42 #[.slice ao m c, .int .i64 most] w (TookT w (txt l most)) := by
  have KR := keep (rtakeNum_no hm hs hn)
  have HT := keep (txt_none (most := most) hn)
  clear hs hn
  go_enter Tryz.func42, Tryz.ntmps42
  go_wp2_with fail
  go_fit KR.out
  rintro e w1 ⟨rfl, hb1⟩
  have b1 := keep hb1
  clear hb1 KR
  go_wp2
  go_ret3
  exact tookT_no HT.out b1.out

set_option maxHeartbeats 1000000 in
set_option maxRecDepth 100000 in
theorem rtakeText_short (ao : Option Addr) (m c : Nat) (l : List UInt8) (most : Int) (w : World) (n : Nat) (r : List UInt8) (hm : m ≤ 140737488355328) (hs : Src w ao m c l) (hn : takeNum l = some (n, r)) (hno : ¬ ((n : Int) ≤ most ∧ n ≤ r.length)) :
    Calls Tryz.prog 42 #[.slice ao m c, .int .i64 most] w (TookT w (txt l most)) := by
  have KR := keep (rtakeNum_yes hm hs hn)
  have HT := keep (txt_no (most := most) hn hno)
  clear hs hn
  obtain ⟨x, hx⟩ : ∃ x, r.length = x := ⟨_, rfl⟩
  rw [hx] at KR hno
  clear hx
  go_enter Tryz.func42, Tryz.ntmps42
  go_wp2_with fail
  go_fit KR.out
  rintro e w1 ⟨a1, c1, rfl, _, hb1⟩
  have b1 := keep hb1
  clear hb1 KR
  by_cases h1 : (n : Int) ≤ most
  · have h2 : (x : Int) < (n : Int) := by omega
    go_wp2
    go_ret3
    exact tookT_no HT.out b1.out
  · have h2 : most < (n : Int) := by omega
    go_wp2
    go_ret3
    exact tookT_no HT.out b1.out

set_option maxHeartbeats 1000000 in
set_option maxRecDepth 100000 in
theorem rtakeText_main (ao : Option Addr) (m c : Nat) (l : List UInt8) (most : Int) (w : World) (n : Nat) (r : List UInt8) (hm : m ≤ 140737488355328) (hs : Src w ao m c l) (hn : takeNum l = some (n, r)) (h1 : (n : Int) ≤ most) (h2 : n ≤ r.length) :
    Calls Tryz.prog 42 #[.slice ao m c, .int .i64 most] w (TookT w (txt l most)) := by
  have KR := keep (rtakeNum_yes hm hs hn)
  have HT := keep (txt_yes (most := most) hn ⟨h1, h2⟩)
  clear hs hn
  obtain ⟨x, hx⟩ : ∃ x, r.length = x := ⟨_, rfl⟩
  have HX := keep hx
  rw [hx] at KR h2
  clear hx
  have g1 : ¬ (most < (n : Int)) := by omega
  have g2 : ¬ ((x : Int) < (n : Int)) := by omega
  have h0 : (0 : Int) ≤ (n : Int) := by omega
  go_enter Tryz.func42, Tryz.ntmps42
  go_wp2_with fail
  go_fit KR.out
  rintro e w1 ⟨a1, c1, rfl, hs1, hb1⟩
  have b1 := keep hb1
  have hcap := hs1.cap
  have S1 := keep hs1
  have hcv := conv_src ((hs1.head n h2).below (Below.refl _ _).drew)
  clear hb1 KR hs1
  have hlen : Hid ((r.drop n).length = x - n) := by rw [List.length_drop, HX.out]; exact rfl
  cases a1 with
  | none =>
    obtain ⟨rfl, rfl⟩ := S1.out.nil rfl
    obtain rfl : n = 0 := by omega
    go_wp2_with fail
    go_region
    all_goals go_wp2
    all_goals go_ret3
    all_goals exact tookT_yes HT.out hlen.out (Src.none_of (by rw [hlen.out]) (fun _ => rfl)) b1.out.drew
  | some ad =>
    by_cases hck : n = c1
    · subst hck
      have S2 : Hid (Src w1 (some ad) 0 0 (r.drop n)) := Src.none_of (by rw [hlen.out]; omega) (fun e => by cases e)
      have hx0 : Hid ((r.drop n).length = 0) := by rw [hlen.out]; show _ = _; omega
      go_wp2_with fail
      go_region
      all_goals go_wp2
      all_goals go_ret3
      all_goals exact tookT_yes HT.out hx0.out (S2.out.below (Below.refl _ _).drew) b1.out.drew
    · have S2 : Hid (Src w1 (some (ad.add n)) (x - n) (c1 - n) (r.drop n)) := S1.out.tail n h2
      go_wp2_with fail
      go_region
      all_goals go_wp2
      all_goals go_ret3
      all_goals exact tookT_yes HT.out hlen.out (S2.out.below (Below.refl _ _).drew) b1.out.drew
theorem rtakeText_any (ao : Option Addr) (m c : Nat) (l : List UInt8) (most : Int) (w : World) (hm : m ≤ 140737488355328) (hs : Src w ao m c l) :
    Calls Tryz.prog 42 #[.slice ao m c, .int .i64 most] w (TookT w (txt l most)) := by
  cases hn : takeNum l with
  | none => exact rtakeText_none ao m c l most w hm hs hn
  | some x =>
    obtain ⟨n, r⟩ := x
    by_cases hno : (n : Int) ≤ most ∧ n ≤ r.length
    · exact rtakeText_main ao m c l most w n r hm hs hn hno.1 hno.2
    · exact rtakeText_short ao m c l most w n r hm hs hn hno
end Go.Proofs.YtjblicgbdecbcaaGreat
namespace Go.Proofs.YtjblicgbdecbcaaGreat
open Go.RowKit

theorem in5_add {w : World} {ad : Addr} (h : In5 w (some ad)) (n : Nat) : In5 w (some (ad.add n)) := fun a ha => by
  cases ha
  obtain ⟨cur, fr, hc⟩ := h ad rfl
  refine ⟨cur, fr, ?_⟩
  have hblk : (ad.add n).block = ad.block := by unfold Addr.add; split <;> rfl
  rw [hblk]
  exact hc
theorem rtakeNum_own (ao : Option Addr) (m c : Nat) (l : List UInt8) (w : World) (hm : m ≤ 140737488355328) (hs : Src w ao m c l) : Calls Tryz.prog 41 #[.slice ao m c] w (TookN w (nOf l) (rOf l) (eOf l)) :=
  (rtakeNum_any ao m c l w hm hs).mono fun e w' h => by
    rcases h with ⟨n, r, v, hn, rfl, hN⟩ | ⟨hn, rfl, hb⟩
    · have e1 : nOf l = n := by simp [nOf, hn]
      have e2 : rOf l = r := by simp [rOf, hn]
      have e3 : eOf l = 0 := by simp [eOf, hn]
      obtain ⟨ao, c, rfl, hs, _⟩ := hN.src
      rw [e1, e2, e3]
      exact ⟨ao, c, rfl, hs, in5_own hN.1, hN.2⟩
    · have e1 : nOf l = 0 := by simp [nOf, hn]
      have e2 : rOf l = [] := by simp [rOf, hn]
      have e3 : eOf l = 2 := by simp [eOf, hn]
      rw [e1, e2, e3]
      exact ⟨none, 0, rfl, Src.empty (fun _ => rfl), in5_none _, hb⟩
theorem rtakeNum_yesO {ao : Option Addr} {m c : Nat} {l : List UInt8} {w : World} (hm : m ≤ 140737488355328) (hs : Src w ao m c l) {n : Nat} {r : List UInt8} (hn : takeNum l = some (n, r)) :
    Calls Tryz.prog 41 #[.slice ao m c] w fun e w' => ∃ a1 c1, e = .returned (.tuple #[.int .i64 (n : Int), .slice a1 r.length c1, .int .i64 0]) ∧ Src w' a1 r.length c1 r ∧ In5 w' a1 ∧ Below w.heap.size w w' :=
  (rtakeNum_any ao m c l w hm hs).mono fun e w' h => by
    rcases h with ⟨n', r', v, h1, rfl, hN⟩ | ⟨h1, _⟩
    · rw [hn] at h1
      cases h1
      obtain ⟨a1, c1, rfl, hs1, _⟩ := hN.src
      exact ⟨a1, c1, rfl, hs1, in5_own hN.1, hN.2⟩
    · rw [hn] at h1; cases h1
set_option maxHeartbeats 1000000 in
set_option maxRecDepth 100000 in
theorem rtakeTextO_none (ao : Option Addr) (m c : Nat) (l : List UInt8) (most : Int) (w : World) (hm : m ≤ 140737488355328) (hs : Src w ao m c l) (hn : takeNum l = none) :
    Calls Tryz.prog 42 #[.slice ao m c, .int .i64 most] w (TookO w (txt l most)) := by
  have KR := keep (rtakeNum_no hm hs hn)
  have HT := keep (txt_none (most := most) hn)
  clear hs hn
  go_enter Tryz.func42, Tryz.ntmps42
  go_wp2_with fail
  go_fit KR.out
  rintro e w1 ⟨rfl, hb1⟩
  have b1 := keep hb1
  clear hb1 KR
  go_wp2
  go_ret3
  exact tookO_no HT.out b1.out

set_option maxHeartbeats 1000000 in
set_option maxRecDepth 100000 in
theorem rtakeTextO_short (ao : Option Addr) (m c : Nat) (l : List UInt8) (most : Int) (w : World) (n : Nat) (r : List UInt8) (hm : m ≤ 140737488355328) (hs : Src w ao m c l) (hn : takeNum l = some (n, r)) (hno : ¬ ((n : Int) ≤ most ∧ n ≤ r.length)) :
    Calls Tryz.prog 42 #[.slice ao m c, .int .i64 most] w (TookO w (txt l most)) := by
  have KR := keep (rtakeNum_yesO hm hs hn)
  have HT := keep (txt_no (most := most) hn hno)
  clear hs hn
  obtain ⟨x, hx⟩ : ∃ x, r.length = x := ⟨_, rfl⟩
  rw [hx] at KR hno
  clear hx
  go_enter Tryz.func42, Tryz.ntmps42
  go_wp2_with fail
  go_fit KR.out
  rintro e w1 ⟨a1, c1, rfl, _, _, hb1⟩
  have b1 := keep hb1
  clear hb1 KR
  by_cases h1 : (n : Int) ≤ most
  · have h2 : (x : Int) < (n : Int) := by omega
    go_wp2
    go_ret3
    exact tookO_no HT.out b1.out
  · have h2 : most < (n : Int) := by omega
    go_wp2
    go_ret3
    exact tookO_no HT.out b1.out

set_option maxHeartbeats 1000000 in
set_option maxRecDepth 100000 in
theorem rtakeTextO_main (ao : Option Addr) (m c : Nat) (l : List UInt8) (most : Int) (w : World) (n : Nat) (r : List UInt8) (hm : m ≤ 140737488355328) (hs : Src w ao m c l) (hn : takeNum l = some (n, r)) (h1 : (n : Int) ≤ most) (h2 : n ≤ r.length) :
    Calls Tryz.prog 42 #[.slice ao m c, .int .i64 most] w (TookO w (txt l most)) := by
  have KR := keep (rtakeNum_yesO hm hs hn)
  have HT := keep (txt_yes (most := most) hn ⟨h1, h2⟩)
  clear hs hn
  obtain ⟨x, hx⟩ : ∃ x, r.length = x := ⟨_, rfl⟩
  have HX := keep hx
  rw [hx] at KR h2
  clear hx
  have g1 : ¬ (most < (n : Int)) := by omega
  have g2 : ¬ ((x : Int) < (n : Int)) := by omega
  have h0 : (0 : Int) ≤ (n : Int) := by omega
  go_enter Tryz.func42, Tryz.ntmps42
  go_wp2_with fail
  go_fit KR.out
  rintro e w1 ⟨a1, c1, rfl, hs1, h51, hb1⟩
  have V1 := keep h51
  have b1 := keep hb1
  have hcap := hs1.cap
  have S1 := keep hs1
  have hcv := conv_src ((hs1.head n h2).below (Below.refl _ _).drew)
  clear hb1 KR hs1 h51
  have hlen : Hid ((r.drop n).length = x - n) := by rw [List.length_drop, HX.out]; exact rfl
  cases a1 with
  | none =>
    obtain ⟨rfl, rfl⟩ := S1.out.nil rfl
    obtain rfl : n = 0 := by omega
    go_wp2_with fail
    go_region
    all_goals go_wp2
    all_goals go_ret3
    all_goals exact tookO_yes HT.out hlen.out (Src.none_of (by rw [hlen.out]) (fun _ => rfl)) (in5_none _) b1.out.drew
  | some ad =>
    by_cases hck : n = c1
    · subst hck
      have S2 : Hid (Src w1 (some ad) 0 0 (r.drop n)) := Src.none_of (by rw [hlen.out]; omega) (fun e => by cases e)
      have hx0 : Hid ((r.drop n).length = 0) := by rw [hlen.out]; show _ = _; omega
      go_wp2_with fail
      go_region
      all_goals go_wp2
      all_goals go_ret3
      all_goals exact tookO_yes HT.out hx0.out (S2.out.below (Below.refl _ _).drew) V1.out b1.out.drew
    · have S2 : Hid (Src w1 (some (ad.add n)) (x - n) (c1 - n) (r.drop n)) := S1.out.tail n h2
      go_wp2_with fail
      go_region
      all_goals go_wp2
      all_goals go_ret3
      all_goals exact tookO_yes HT.out hlen.out (S2.out.below (Below.refl _ _).drew) (in5_add V1.out n) b1.out.drew
theorem rtakeTextO_any (ao : Option Addr) (m c : Nat) (l : List UInt8) (most : Int) (w : World) (hm : m ≤ 140737488355328) (hs : Src w ao m c l) :
    Calls Tryz.prog 42 #[.slice ao m c, .int .i64 most] w (TookO w (txt l most)) := by
  cases hn : takeNum l with
  | none => exact rtakeTextO_none ao m c l most w hm hs hn
  | some x =>
    obtain ⟨n, r⟩ := x
    by_cases hno : (n : Int) ≤ most ∧ n ≤ r.length
    · exact rtakeTextO_main ao m c l most w n r hm hs hn hno.1 hno.2
    · exact rtakeTextO_short ao m c l most w n r hm hs hn hno
/-- Whether bytes begin with a text. -/
def tE (b : List UInt8) (most : Int) : Int := if (txt b most).isSome then 0 else 2
theorem rtakeText_uni (ao : Option Addr) (m c : Nat) (l : List UInt8) (most : Int) (w : World) (hm : m ≤ 140737488355328) (hs : Src w ao m c l) :
    Calls Tryz.prog 42 #[.slice ao m c, .int .i64 most] w fun e w' => ∃ a k, e = .returned (.tuple #[.string ⟨(Bq.tS l most).toArray⟩, .slice a (Bq.tR l most).length k, .int .i64 (tE l most)]) ∧ Src w' a (Bq.tR l most).length k (Bq.tR l most) ∧ In5 w' a ∧ Below w.heap.size w w' := by
  refine (rtakeTextO_any ao m c l most w hm hs).mono ?_
  rintro e w' (⟨S, R, a, c, ht, rfl, hs, h5, hb⟩ | ⟨ht, rfl, hb⟩)
  · have e1 : Bq.tS l most = S := by simp [Bq.tS, ht]
    have e2 : Bq.tR l most = R := by simp [Bq.tR, ht]
    have e3 : tE l most = 0 := by simp [tE, ht]
    rw [e1, e2, e3]
    exact ⟨a, c, rfl, hs, h5, hb⟩
  · have e1 : Bq.tS l most = [] := by simp [Bq.tS, ht]
    have e2 : Bq.tR l most = [] := by simp [Bq.tR, ht]
    have e3 : tE l most = 2 := by simp [tE, ht]
    rw [e1, e2, e3]
    exact ⟨none, 0, rfl, src_nil w', in5_none _, hb⟩
end Go.Proofs.YtjblicgbdecbcaaGreat
namespace Go.Proofs.YtjblicgbdecbcaaGreat.Bq
open Go.Proofs.YtjblicgbdecbcaaGreat
open Go.Proofs.YtjblicgbdecbcaaGreat.Sk (Ent)

/-- Reading k entries of a row. -/
theorem read_row : ∀ (k : Nat) (l : List Ent) (a t : List UInt8), (∀ e ∈ l, Sk.may e = true) → k ≤ l.length → ahK k a (rowB a l ++ t) = lastK a (l.take k) ∧ reK k (rowB a l ++ t) = rowB (lastK a (l.take k)) (l.drop k) ++ t
  | 0, l, a, t, _, _ => by simp [ahK, reK, lastK]
  | k + 1, [], a, t, _, h => by simp at h
  | k + 1, e :: l, a, t, hm, h => by
    have h1 := rd_ent (k := a) (t := rowB e.key l ++ t) (hm e (List.mem_cons_self ..))
    have ih := read_row k l e.key t (fun x hx => hm x (List.mem_cons_of_mem _ hx)) (by simpa using h)
    simp only [rowB, ahK, reK, List.append_assoc, List.take_succ_cons, List.drop_succ_cons, lastK]
    rw [h1.1, h1.2]
    exact ih
/-- An entry is read without a fault. -/
def fine (a r : List UInt8) : Prop := eOf r = 0 ∧ tE (rOf r) 64 = 0 ∧ eOf (tR (rOf r) 64) = 0 ∧ tE (rOf (tR (rOf r) 64)) 1024 = 0 ∧ nOf r ≤ a.length
theorem fine_ent {k : List UInt8} {e : Ent} {t : List UInt8} (h : Sk.may e = true) : fine k (entB k e ++ t) := by
  have b := may_bounds h
  have m := mark_le h
  have sl := share_left e.key k
  have sr := share_right e.key k
  have f1 := nOf_put (n := share e.key k) (r := num (e.key.drop (share e.key k)).length ++ (e.key.drop (share e.key k) ++ (num (mark e) ++ (num e.val.length ++ (e.val ++ t))))) (by omega)
  have f2 := tS_put (s := e.key.drop (share e.key k)) (r := num (mark e) ++ (num e.val.length ++ (e.val ++ t))) (most := 64) (by rw [List.length_drop]; omega) (by rw [List.length_drop]; omega)
  have t2 := txt_put8 (s := e.key.drop (share e.key k)) (r := num (mark e) ++ (num e.val.length ++ (e.val ++ t))) (most := 64) (by rw [List.length_drop]; omega) (by rw [List.length_drop]; omega)
  have f3 := nOf_put (n := mark e) (r := num e.val.length ++ (e.val ++ t)) (by omega)
  have t4 := txt_put8 (s := e.val) (r := t) (most := 1024) (by omega) (by omega)
  have e0 : entB k e ++ t = num (share e.key k) ++ (num (e.key.drop (share e.key k)).length ++ (e.key.drop (share e.key k) ++ (num (mark e) ++ (num e.val.length ++ (e.val ++ t))))) := by
    simp only [entB, List.append_assoc]
  have g1 := takeNum_put (n := share e.key k) (r := num (e.key.drop (share e.key k)).length ++ (e.key.drop (share e.key k) ++ (num (mark e) ++ (num e.val.length ++ (e.val ++ t))))) (by omega)
  have g3 := takeNum_put (n := mark e) (r := num e.val.length ++ (e.val ++ t)) (by omega)
  rw [e0]
  refine ⟨?_, ?_, ?_, ?_, ?_⟩
  · unfold eOf; rw [g1]; rfl
  · rw [f1.2]; unfold tE; rw [t2]; rfl
  · rw [f1.2, f2.2]; simp [eOf, g3]
  · rw [f1.2, f2.2, f3.2]; simp [tE, t4]
  · rw [f1.1]; exact sr
theorem parse_first {b : List UInt8} (h : eOf b ≠ 0 ∨ 8 < nOf b) : parse b = none := parse_none (fun l hl e => by
  have hn := okB_len hl
  have e0 : b = num l.length ++ (rowB [] l ++ be 4 (crc (rawB l)).toNat) := by rw [← e]; simp only [blk, rawB, List.append_assoc]
  have f1 := nOf_put (n := l.length) (r := rowB [] l ++ be 4 (crc (rawB l)).toNat) (by omega)
  have g1 := takeNum_put (n := l.length) (r := rowB [] l ++ be 4 (crc (rawB l)).toNat) (by omega)
  rcases h with h | h
  · apply h
    rw [e0]
    simp [eOf, g1]
  · rw [e0, f1.1] at h
    omega)
theorem parse_fault {b : List UInt8} {k : Nat} (hk : k < nOf b) (h : ¬ fine (ahK k [] (rOf b)) (reK k (rOf b))) : parse b = none := parse_none (fun l hl e => by
  have hn := okB_len hl
  have e0 : b = num l.length ++ (rowB [] l ++ be 4 (crc (rawB l)).toNat) := by rw [← e]; simp only [blk, rawB, List.append_assoc]
  have f1 := nOf_put (n := l.length) (r := rowB [] l ++ be 4 (crc (rawB l)).toNat) (by omega)
  have hkl : k < l.length := by rw [e0, f1.1] at hk; exact hk
  have hr := read_row k l [] (be 4 (crc (rawB l)).toNat) (okB_may hl) (by omega)
  apply h
  rw [e0, f1.2, hr.1, hr.2, List.drop_eq_getElem_cons hkl, rowB, List.append_assoc]
  exact fine_ent (okB_may hl _ (List.getElem_mem hkl)))
theorem eOf_or (b : List UInt8) : eOf b = 0 ∨ eOf b = 2 := by unfold eOf; split <;> simp
theorem tE_or (b : List UInt8) (m : Int) : tE b m = 0 ∨ tE b m = 2 := by unfold tE; split <;> simp
end Go.Proofs.YtjblicgbdecbcaaGreat.Bq
