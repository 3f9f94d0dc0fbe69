/- The walk of code.readGroups. -/
/- The walk of code.lay over bytes. -/
/- The walk of code.groups. -/
import Derived.Test.YtjblicgbdecbcaaGreatZF
import Derived.Test.YtjblicgbdecbcaaGreatZKlj
namespace Go.Proofs.YtjblicgbdecbcaaGreat
open Go.RowKit

theorem low7 (b : UInt8) : bits .andNot .u8 (b.toNat : Int) 128 = ((b.toNat % 128 : Nat) : Int) := by
  have h := u8_andNot_nat b.toNat 128 b.toNat_lt (by omega)
  rw [nat_mask7] at h
  exact h

theorem split_at (l : List UInt8) (k : Nat) (h : k < l.length) : l = l.take k ++ fn l k :: l.drop (k + 1) := by
  have e : fn l k = l[k] := by simp [fn, List.getD, h]
  rw [e, ← List.drop_eq_getElem_cons h, List.take_append_drop]
theorem rg_more {l : List UInt8} {k : Nat} (hall : ∀ x ∈ l.take k, 128 ≤ x.toNat) (h : k < l.length) (hy : 128 ≤ (fn l k).toNat) : ∀ x ∈ l.take (k + 1), 128 ≤ x.toNat := by
  intro x hx
  have e : fn l k = l[k] := by simp [fn, List.getD, h]
  rw [List.take_succ_eq_append_getElem h] at hx
  rcases List.mem_append.1 hx with hx | hx
  · exact hall x hx
  · have : x = l[k] := by simpa using hx
    rw [this, ← e]; exact hy
theorem rg_val {l : List UInt8} {k : Nat} (h : k < l.length) : val (l.take (k + 1)) = val (l.take k) + 128 ^ k * ((fn l k).toNat % 128) := by
  have e : fn l k = l[k] := by simp [fn, List.getD, h]
  rw [List.take_succ_eq_append_getElem h, val_append, List.length_take, Nat.min_eq_left (by omega), e]
  simp [val]
theorem rg_zero {l : List UInt8} {k : Nat} (hall : ∀ x ∈ l.take k, 128 ≤ x.toNat) (h : k < l.length) (h0 : 0 < k) (hy : (fn l k).toNat = 0) : takeNum l = none := by
  rw [split_at l k h]
  exact take_zero hall (by simp; omega) hy
theorem rg_great {l : List UInt8} (hall : ∀ x ∈ l.take 8, 128 ≤ x.toNat) (h : 8 < l.length) (hy : 63 < (fn l 8).toNat) : takeNum l = none := by
  rcases Nat.lt_or_ge (fn l 8).toNat 128 with h1 | h1
  · rw [split_at l 8 h]
    exact take_great hall (by simp; omega) (by omega)
  · have := take_long (t := l.drop 9) (rg_more hall h h1) (by simp; omega)
    rwa [List.take_append_drop] at this
theorem rg_done {l : List UInt8} {k : Nat} (hall : ∀ x ∈ l.take k, 128 ≤ x.toNat) (h : k < l.length) (h8 : k ≤ 8) (hy : (fn l k).toNat < 128) (hz : k = 0 ∨ (fn l k).toNat ≠ 0) (hg : k = 8 → (fn l k).toNat ≤ 63) :
    takeNum l = some (val (l.take k) + 128 ^ k * (fn l k).toNat, l.drop (k + 1)) := by
  have hl : (l.take k).length = k := by simp; omega
  have := take_done (t := l.drop (k + 1)) hall hy (by
    rcases hz with hz | hz
    · left; rw [hz]; rfl
    · exact .inr hz) (by omega) (fun e => hg (by omega))
  rw [← split_at l k h, hl] at this
  exact this
theorem or_part (V d k : Nat) (hV : V < 128 ^ k) (hd : d < 128) (hk : k ≤ 8) (hg : k = 8 → d ≤ 63) : bits .or .i64 (V : Int) (wrap64 ((d : Int) * 2 ^ (7 * k))) = ((V + 128 ^ k * d : Nat) : Int) := by
  have e128 : (128 : Nat) ^ k = 2 ^ (7 * k) := by rw [Nat.pow_mul]
  have hlt : V + 128 ^ k * d < 4611686018427387904 := by
    rcases Nat.lt_or_ge k 8 with h | h
    · have hpow : 128 ^ k ≤ 128 ^ 7 := Nat.pow_le_pow_right (by decide) (by omega)
      have : 128 ^ k * d ≤ 128 ^ 7 * 127 := Nat.mul_le_mul hpow (by omega)
      have e3 : (128 : Nat) ^ 7 = 562949953421312 := rfl
      omega
    · obtain rfl : k = 8 := by omega
      have := hg rfl
      have e3 : (128 : Nat) ^ 8 = 72057594037927936 := rfl
      omega
  have e1 : (d : Int) * 2 ^ (7 * k) = ((128 ^ k * d : Nat) : Int) := by rw [e128, Int.natCast_mul, Int.natCast_pow, Int.mul_comm]; rfl
  rw [e1]
  generalize hM : 128 ^ k * d = M at hlt
  have e2 : wrap64 (M : Int) = (M : Int) := by unfold wrap64; omega
  rw [e2]
  show IntKind.i64.wrap ((BitVec.ofInt 64 (V : Int) ||| BitVec.ofInt 64 (M : Int)).toNat : Int) = _
  rw [BitVec.toNat_or, ofInt_u64 V (by omega), ofInt_u64 M (by omega)]
  have e4 : V ||| M = V + M := by
    rw [Nat.or_comm, ← hM, e128, Nat.add_comm]
    exact (Nat.two_pow_add_eq_or_of_lt (i := 7 * k) (by omega) d).symm
  rw [e4, IntKind.wrap_i64]
  omega

theorem ret3 {a b : Int} {c d : Nat} {x : Int} (h1 : a = (c : Int)) (h2 : b = (d : Int)) : Ending.returned (.tuple #[.int .i64 a, .int .i64 b, .int .i64 x]) = .returned (.tuple #[.int .i64 (c : Int), .int .i64 (d : Int), .int .i64 x]) := by subst h1; subst h2; rfl
set_option maxHeartbeats 1000000 in
set_option maxRecDepth 100000 in
theorem readGroups_any (ao : Option Addr) (m c : Nat) (l : List UInt8) (w : World) (hm : m ≤ 140737488355328) (hs : Src w ao m c l) :
    Calls Tryz.prog 85 #[.slice ao m c] w fun e w' => (∃ n r, takeNum l = some (n, r) ∧ e = .returned (.tuple #[.int .i64 (n : Int), .int .i64 ((m - r.length : Nat) : Int), .int .i64 0]) ∧ Below w.heap.size w w') ∨ (takeNum l = none ∧ e = .returned (.tuple #[.int .i64 0, .int .i64 0, .int .i64 2]) ∧ Below w.heap.size w w') := by
  have hll := hs.len
  have HS := keep hs
  clear hs
  go_enter Tryz.func85, Tryz.ntmps85
  go_wp2
  go_step3
  go_wp2
  go_step3
  go_wp2
  go_loopw [5, 11] (fun x i wr => ∃ k : Nat, k ≤ m ∧ k ≤ 8 ∧ i = .int .i64 (k : Int) ∧ x = .int .i64 ((val (l.take k) : Nat) : Int) ∧ Hid (∀ x ∈ l.take k, 128 ≤ x.toNat) ∧ Hid (Below w.heap.size w wr)) (fun _ i _ => m - (intOf i).toNat)
  case atStart => exact ⟨0, Nat.zero_le _, by omega, rfl, rfl, by simp [Hid], Below.refl _ _⟩
  case round =>
    obtain ⟨k, hk, hk8, rfl, rfl, hall, hb⟩ := hrel
    by_cases hlt : k < m
    · obtain ⟨b, off, rfl, hbw, hby⟩ := HS.out.form (by omega)
      have hcell : wr.cell? ⟨b, off + k, none⟩ = some (.int .u8 ((fn l k).toNat : Int)) := by
        rw [hb.out.cell (p := ⟨b, off + k, none⟩) hbw]; exact hby k hlt
      have h0 : (0 : Int) ≤ (k : Int) := by omega
      have h1 : (k : Int) < (m : Int) := by omega
      clear hby
      obtain ⟨y, hy⟩ : ∃ y, fn l k = y := ⟨_, rfl⟩
      have hlow := low7 y
      have HY := keep hy
      rw [hy] at hcell
      clear hy
      have hyl := y.toNat_lt
      have hxp : (0 : Int) ≤ (y.toNat : Int) := by omega
      have hVl : val (l.take k) < 128 ^ k := by have := val_lt (l.take k); rwa [List.length_take, Nat.min_eq_left (by omega)] at this
      have hmore : Hid (val (l.take (k + 1)) = val (l.take k) + 128 ^ k * (y.toNat % 128)) := by have := rg_val (l := l) (k := k) (by omega); rwa [HY.out] at this
      by_cases ha : k = 8 ∧ 63 < y.toNat
      · obtain ⟨rfl, ha⟩ := ha
        have hnone : Hid (takeNum l = none) := rg_great hall.out (by omega) (by rw [HY.out]; exact ha)
        have ha' : (63 : Int) < (y.toNat : Int) := by omega
        go_wp2
        try rw [Exit.noGoto_ret]
        go_ret3
        exact .inr ⟨hnone.out, rfl, hb.out⟩
      · by_cases hbb : 128 ≤ y.toNat
        · have hne : ¬ ((k : Int) = 8) := by omega
          have hbb' : (128 : Int) ≤ (y.toNat : Int) := by omega
          have hall' : Hid (∀ x ∈ l.take (k + 1), 128 ≤ x.toNat) := rg_more hall.out (by omega) (by rw [HY.out]; exact hbb)
          have hor : Hid (bits .or .i64 ((val (l.take k) : Nat) : Int) (wrap64 (((y.toNat % 128 : Nat) : Int) * 2 ^ (7 * k))) = ((val (l.take (k + 1)) : Nat) : Int)) := by
            rw [hmore.out]; exact or_part _ _ k hVl (by omega) hk8 (by omega)
          obtain ⟨V, hV⟩ : ∃ V, val (l.take k) = V := ⟨_, rfl⟩
          rw [hV] at hor ⊢
          clear hV hmore hVl
          go_wp2
          go_roundw
          case rel => exact ⟨k + 1, by omega, by omega, by go_num, by rw [← hor.out]; rfl, hall', hb⟩
          case measure => simp [intOf]; omega
        · by_cases hc : y.toNat = 0 ∧ 0 < k
          · obtain ⟨hy0, hk0⟩ := hc
            have hnone : Hid (takeNum l = none) := rg_zero hall.out (by omega) hk0 (by rw [HY.out]; exact hy0)
            have hy0' : (y.toNat : Int) = 0 := by omega
            have hk0' : (0 : Int) < (k : Int) := by omega
            have hnb : ¬ ((128 : Int) ≤ (y.toNat : Int)) := by omega
            have hna : ¬ ((63 : Int) < (y.toNat : Int)) := by omega
            clear hmore hVl
            go_wp2
            all_goals
              try rw [Exit.noGoto_ret]
              go_ret3
              exact .inr ⟨hnone.out, rfl, hb.out⟩
          · have hdone : Hid (takeNum l = some (val (l.take k) + 128 ^ k * y.toNat, l.drop (k + 1))) := by
              have := rg_done hall.out (by omega) hk8 (by rw [HY.out]; omega) (by rw [HY.out]; omega) (by rw [HY.out]; omega)
              rwa [HY.out] at this
            have hor : Hid (bits .or .i64 ((val (l.take k) : Nat) : Int) (wrap64 ((y.toNat : Int) * 2 ^ (7 * k))) = ((val (l.take k) + 128 ^ k * y.toNat : Nat) : Int)) :=
              or_part _ _ k hVl (by omega) hk8 (by omega)
            have hnb : ¬ ((128 : Int) ≤ (y.toNat : Int)) := by omega
            have hcc : ¬ ((y.toNat : Int) = 0 ∧ (0 : Int) < (k : Int)) := by omega
            have haa : ¬ ((k : Int) = 8 ∧ (63 : Int) < (y.toNat : Int)) := by omega
            clear hmore
            have hor1 : Hid (bits .or .i64 ((val (l.take k) : Nat) : Int) (wrap64 ((y.toNat : Int) % 128 * 2 ^ (7 * k))) = ((val (l.take k) + 128 ^ k * y.toNat : Nat) : Int)) := by
              rw [Int.emod_eq_of_lt (by omega) (by omega)]; exact hor.out
            have hlen : Hid (m - (l.drop (k + 1)).length = k + 1) := by rw [List.length_drop]; show _ = _; omega
            go_wp2
            all_goals
              try rw [Exit.noGoto_ret]
              go_ret3
              refine .inl ⟨_, _, hdone.out, ret3 ?_ ?_, hb.out⟩
              · first | exact hor1.out | (have h := hor1.out; rw [show y.toNat = 0 by omega] at h ⊢; simpa using h)
              · rw [hlen.out]; omega
    · obtain rfl : k = m := by omega
      rw [List.take_of_length_le (by omega)] at hall
      go_wp2
      try rw [Exit.noGoto_ret]
      go_ret3
      exact .inr ⟨take_short hall.out, rfl, hb.out⟩
end Go.Proofs.YtjblicgbdecbcaaGreat
namespace Go.Proofs.YtjblicgbdecbcaaGreat
open Go.RowKit

set_option maxHeartbeats 1000000 in
set_option maxRecDepth 100000 in
theorem layB_any (ao : Option Addr) (m c : Nat) (l : List UInt8) (ao2 : Option Addr) (m2 c2 : Nat) (l2 : List UInt8) (w : World) (hm : m + m2 ≤ 140737488355328) (hs : Src w ao m c l) (hs2 : Src w ao2 m2 c2 l2) :
    Calls Tryz.prog 55 #[.slice ao m c, .slice ao2 m2 c2] w fun e w' => ∃ v, e = .returned v ∧ New w w' v (m + m2) (l ++ l2) := by
  obtain ⟨i0, hi, hz0, hz1, hz2⟩ := info_parts info5
  have HS := keep hs
  have HS2 := keep hs2
  clear hs hs2
  go_enter Tryz.func55, Tryz.ntmps55
  go_wp2_with (first
    | (at_make; go_loud (refine wpList_make_own _ rfl _ _ 24 rfl w.heap.size 5 i0 (.int .u8 0) 1 Tryz.underlying24 hi hz0 hz1 .i64 .i64 _ (m + m2) rfl rfl (by omega) (by rw [hz2]; omega) (by unfold maxLen; omega) (Nat.le_refl _) ?_); intro w1 hown hgrow; have hb1 := keep ((Below.refl w.heap.size w).grown hgrow (Nat.le_refl _) (fun k h => by cases h)); have ho1 := keep hown; clear hown hgrow)
    | (at_builtin; (refine wpList_append_src rfl _ _ 24 rfl w.heap.size i0 _ Tryz.underlying24 hi hz0 hz1 hz2 rfl _ m l rfl ho2.out _ m2 c2 l2 rfl (HS2.out.below hb2.out) (by omega) hb2.out.size ?_); intro v3 w3 ho3 hg3; have hb3 := keep (hb2.out.grown hg3 hb2.out.size (fun j hj => (ho2.out.lt j hj).1)); have ho3' := keep ho3; clear ho3 hg3 ho2)
    | (at_builtin; (refine wpList_append_src rfl _ _ 24 rfl w.heap.size i0 _ Tryz.underlying24 hi hz0 hz1 hz2 rfl _ 0 [] rfl ho1.out _ m c l rfl (HS.out.below hb1.out) (by omega) hb1.out.size ?_); intro v2 w2 ho2' hg2; have hb2 := keep (hb1.out.grown hg2 hb1.out.size (fun j hj => (ho1.out.lt j hj).1)); have ho2 := keep ho2'; simp only [Nat.zero_add, List.nil_append] at ho2; clear ho2' hg2 ho1 hb1))
  go_ret
  exact ⟨_, rfl, ho3'.out, hb3.out⟩
end Go.Proofs.YtjblicgbdecbcaaGreat
namespace Go.Proofs.YtjblicgbdecbcaaGreat
open Go.RowKit

/-- What a number counts as: from 0 to 2^62 - 1. -/
def cl (n : Int) : Nat := (min (max n 0) 4611686018427387903).toNat
theorem cl_le (n : Int) : cl n ≤ 4611686018427387903 := by unfold cl; omega
theorem num_cons {n : Nat} (h : 128 ≤ n) (p : List UInt8) : p ++ num n = (p ++ [UInt8.ofNat (128 + n % 128)]) ++ num (n / 128) := by rw [num_great h]; simp
theorem or128b : ∀ k : Nat, k < 256 → (k ||| 128) = 128 + k % 128 := by decide +kernel
theorem or128 (n : Nat) : bits .or .u8 ((n : Int) % 256) 128 = ((UInt8.ofNat (128 + n % 128)).toNat : Int) := by
  rw [ofNat_group]
  have h := u8_or_nat (n % 256) 128 (by omega) (by omega)
  rw [or128b _ (by omega)] at h
  have e : ((n % 256 : Nat) : Int) = (n : Int) % 256 := by omega
  rw [e] at h
  rw [show (128 : Int) = ((128 : Nat) : Int) from rfl, h]
  omega
theorem num9 (n : Int) : (num (cl n)).length ≤ 9 := len_le 8 _ (by have := cl_le n; have e : (128 : Nat) ^ (8 + 1) = 9223372036854775808 := rfl; omega)

set_option maxHeartbeats 1000000 in
set_option maxRecDepth 100000 in
theorem groups_any (n : Int) (w : World) :
    Calls Tryz.prog 56 #[.int .i64 n] w fun e w' => ∃ v, e = .returned v ∧ New w w' v (num (cl n)).length (num (cl n)) := by
  obtain ⟨i0, hi, hz0, hz1, hz2⟩ := info_parts info5
  have h9 := num9 n
  go_enter Tryz.func56, Tryz.ntmps56
  go_wp2
  all_goals
    go_loopw [0, 3] (fun i v wr => ∃ (p : List UInt8) (k N : Nat), N ≤ 4611686018427387903 ∧ i = .int .i64 (N : Int) ∧ p.length = k ∧ Hid (num (cl n) = p ++ num N) ∧ Hid (wr.ownsRow w.heap.size 5 1 v k (bv p)) ∧ Hid (Below w.heap.size w wr)) (fun i _ _ => (intOf i).toNat)
    case atStart =>
      exact ⟨[], 0, cl n, cl_le n, by unfold cl; congr 1; omega, rfl, rfl, World.ownsRow_nil _ _ _ _, Below.refl _ _⟩
    case round =>
      obtain ⟨p, k, N, hN, rfl, hpk, hp, ho, hb⟩ := hrel
      have hk9 : k < 9 := by
        have h1 := congrArg List.length hp.out
        have h2 := num_pos N
        rw [List.length_append, hpk] at h1
        omega
      by_cases hlt : 128 ≤ N
      · have hb1 := or128 N
        have hp' : Hid (num (cl n) = (p ++ [UInt8.ofNat (128 + N % 128)]) ++ num (N / 128)) := by rw [← num_cons hlt]; exact hp.out
        obtain ⟨y, hy⟩ : ∃ y : UInt8, UInt8.ofNat (128 + N % 128) = y := ⟨_, rfl⟩
        rw [hy] at hb1 hp'
        clear hy
        go_wp2_with (at_builtin; refine wpList_append_src rfl _ _ 24 rfl w.heap.size i0 _ Tryz.underlying24 hi hz0 hz1 hz2 rfl _ k p rfl (by exact ho.out.alloc _) _ 1 1 [y] rfl (Src.built _ _) (by omega) (le_alloc hb.out.size _) ?_; intro v2 w2 ho2 hg2; have hb3 := keep ((hb.out.alloc hb.out.size _).grown hg2 (le_alloc hb.out.size _) (fun j hj => (ho.out.lt j hj).1)); have ho3 := keep ho2; clear ho2 hg2)
        go_roundw
        case rel => exact ⟨_, k + 1, N / 128, by omega, by first | rfl | (congr 1; omega), by simp [hpk], hp', ho3, hb3⟩
        case measure => simp [intOf]; omega
      · have hl : (num (cl n)).length = k + 1 := by rw [hp.out, List.length_append, hpk, len_small (by omega)]
        have hq : Hid (num (cl n) = p ++ [UInt8.ofNat N]) := hp.out.trans (by rw [num_small (by omega)])
        have hx : Hid ((N : Int) = ((UInt8.ofNat N).toNat : Int)) := by rw [ofNat_last (by omega)]; exact rfl
        obtain ⟨y, hy⟩ : ∃ y : UInt8, UInt8.ofNat N = y := ⟨_, rfl⟩
        rw [hy] at hx hq
        clear hy
        go_wp2_with (at_builtin; refine wpList_append_src rfl _ _ 24 rfl w.heap.size i0 _ Tryz.underlying24 hi hz0 hz1 hz2 rfl _ k p rfl (by exact ho.out.alloc _) _ 1 1 [y] rfl (Src.builtI _ _ _ hx.out) (by omega) (le_alloc hb.out.size _) ?_; intro v2 w2 ho2 hg2; have hb3 := keep ((hb.out.alloc hb.out.size _).grown hg2 (le_alloc hb.out.size _) (fun j hj => (ho.out.lt j hj).1)); have ho3 := keep ho2; clear ho2 hg2)
        go_ret
        rw [hl, hq.out]
        exact ⟨_, rfl, ho3.out, hb3.out⟩
end Go.Proofs.YtjblicgbdecbcaaGreat
