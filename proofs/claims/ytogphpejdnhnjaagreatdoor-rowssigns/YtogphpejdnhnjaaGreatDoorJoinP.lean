/- The walk of code.groups. -/
/- The walks of code.highFirst, code.PutFix, code.PutNum. -/
/- The walk of code.PutFix. -/
import Derived.Test.YtogphpejdnhnjaaGreatDoorLb
import Derived.Deep.OwnRows
namespace Go.Proofs.YtogphpejdnhnjaaGreatDoor
open Go.RowKit

/-- What a number counts as: from 0 to 2^62 - 1. -/
def cl (n : Int) : Nat := (min (max n 0) 4611686018427387903).toNat
theorem cl_le (n : Int) : cl n ≤ 4611686018427387903 := by unfold cl; omega
theorem num_cons {n : Nat} (h : 128 ≤ n) (p : List UInt8) : p ++ num n = (p ++ [UInt8.ofNat (128 + n % 128)]) ++ num (n / 128) := by rw [num_great h]; simp
theorem or128b : ∀ k : Nat, k < 256 → (k ||| 128) = 128 + k % 128 := by decide +kernel
theorem or128 (n : Nat) : bits .or .u8 ((n : Int) % 256) 128 = ((UInt8.ofNat (128 + n % 128)).toNat : Int) := by
  rw [ofNat_group]
  have h := u8_or_nat (n % 256) 128 (by omega) (by omega)
  rw [or128b _ (by omega)] at h
  have e : ((n % 256 : Nat) : Int) = (n : Int) % 256 := by omega
  rw [e] at h
  rw [show (128 : Int) = ((128 : Nat) : Int) from rfl, h]
  omega
theorem num9 (n : Int) : (num (cl n)).length ≤ 9 := len_le 8 _ (by have := cl_le n; have e : (128 : Nat) ^ (8 + 1) = 9223372036854775808 := rfl; omega)

set_option maxHeartbeats 1000000 in
set_option maxRecDepth 100000 in
theorem groups_any (n : Int) (w : World) :
    Calls Tryz.prog 65 #[.int .i64 n] w fun e w' => ∃ v, e = .returned v ∧ New w w' v (num (cl n)).length (num (cl n)) := by
  obtain ⟨i0, hi, hz0, hz1, hz2⟩ := info_parts info5
  have h9 := num9 n
  go_enter Tryz.func65, Tryz.ntmps65
  go_wp2
  all_goals
    go_loopw [0, 3] (fun i v wr => ∃ (p : List UInt8) (k N : Nat), N ≤ 4611686018427387903 ∧ i = .int .i64 (N : Int) ∧ p.length = k ∧ Hid (num (cl n) = p ++ num N) ∧ Hid (wr.ownsRow w.heap.size 5 1 v k (bv p)) ∧ Hid (Below w.heap.size w wr)) (fun i _ _ => (intOf i).toNat)
    case atStart =>
      exact ⟨[], 0, cl n, cl_le n, by unfold cl; congr 1; omega, rfl, rfl, World.ownsRow_nil _ _ _ _, Below.refl _ _⟩
    case round =>
      obtain ⟨p, k, N, hN, rfl, hpk, hp, ho, hb⟩ := hrel
      have hk9 : k < 9 := by
        have h1 := congrArg List.length hp.out
        have h2 := num_pos N
        rw [List.length_append, hpk] at h1
        omega
      by_cases hlt : 128 ≤ N
      · have hb1 := or128 N
        have hp' : Hid (num (cl n) = (p ++ [UInt8.ofNat (128 + N % 128)]) ++ num (N / 128)) := by rw [← num_cons hlt]; exact hp.out
        obtain ⟨y, hy⟩ : ∃ y : UInt8, UInt8.ofNat (128 + N % 128) = y := ⟨_, rfl⟩
        rw [hy] at hb1 hp'
        clear hy
        go_wp2_with (at_builtin; refine wpList_append_src rfl _ _ 47 rfl w.heap.size i0 _ Tryz.underlying47 hi hz0 hz1 hz2 rfl _ k p rfl (by exact ho.out.alloc _) _ 1 1 [y] rfl (Src.built _ _) (by omega) (le_alloc hb.out.size _) ?_; intro v2 w2 ho2 hg2; have hb3 := keep ((hb.out.alloc hb.out.size _).grown hg2 (le_alloc hb.out.size _) (fun j hj => (ho.out.lt j hj).1)); have ho3 := keep ho2; clear ho2 hg2)
        go_roundw
        case rel => exact ⟨_, k + 1, N / 128, by omega, by first | rfl | (congr 1; omega), by simp [hpk], hp', ho3, hb3⟩
        case measure => simp [intOf]; omega
      · have hl : (num (cl n)).length = k + 1 := by rw [hp.out, List.length_append, hpk, len_small (by omega)]
        have hq : Hid (num (cl n) = p ++ [UInt8.ofNat N]) := hp.out.trans (by rw [num_small (by omega)])
        have hx : Hid ((N : Int) = ((UInt8.ofNat N).toNat : Int)) := by rw [ofNat_last (by omega)]; exact rfl
        obtain ⟨y, hy⟩ : ∃ y : UInt8, UInt8.ofNat N = y := ⟨_, rfl⟩
        rw [hy] at hx hq
        clear hy
        go_wp2_with (at_builtin; refine wpList_append_src rfl _ _ 47 rfl w.heap.size i0 _ Tryz.underlying47 hi hz0 hz1 hz2 rfl _ k p rfl (by exact ho.out.alloc _) _ 1 1 [y] rfl (Src.builtI _ _ _ hx.out) (by omega) (le_alloc hb.out.size _) ?_; intro v2 w2 ho2 hg2; have hb3 := keep ((hb.out.alloc hb.out.size _).grown hg2 (le_alloc hb.out.size _) (fun j hj => (ho.out.lt j hj).1)); have ho3 := keep ho2; clear ho2 hg2)
        go_ret
        rw [hl, hq.out]
        exact ⟨_, rfl, ho3.out, hb3.out⟩
end Go.Proofs.YtogphpejdnhnjaaGreatDoor
namespace Go.Proofs.YtogphpejdnhnjaaGreatDoor
open Go.RowKit

/-- Of k bytes of N those from i on. -/
def beRow (k N i : Nat) (x : Nat) : Value := .int .u8 (if i ≤ x then ((UInt8.ofNat (N / 256 ^ (k - 1 - x))).toNat : Int) else 0)
theorem row_of_own {w : World} {base g n : Nat} {xs : List Value} (h : w.ownsRow base 5 1 (.slice (some ⟨g, 0, none⟩) n n) n xs) (f : Nat → Value) (hf : ∀ i, i < n → xs[i]? = some (f i)) : w.rowIs g 5 n f := by
  rcases h.2 with ⟨h0, _⟩ | ⟨g', cap, cur, e, _, hg, hc, _, hs, ht⟩
  · cases h0
  · cases e
    refine ⟨cur, hg, by omega, fun i hi => ?_⟩
    have := hf i hi
    rw [← ht, List.getElem?_take, if_pos (by omega), Array.getElem?_toList] at this
    exact this
theorem own_of_row {w : World} {base g n : Nat} {f : Nat → Value} {xs : List Value} (h : w.rowIs g 5 n f) (hb : base ≤ g) (hn : n ≤ maxLen) (hl : xs.length = n) (hf : ∀ i, i < n → xs[i]? = some (f i)) : w.ownsRow base 5 1 (.slice (some ⟨g, 0, none⟩) n n) n xs := by
  obtain ⟨cur, hg, hs, hc⟩ := h
  refine ⟨by omega, .inr ⟨g, n, cur, rfl, hb, hg, Nat.le_refl _, hn, by omega, ?_⟩⟩
  apply List.ext_getElem?
  intro i
  rcases Nat.lt_or_ge i n with hi | hi
  · rw [List.getElem?_take, if_pos (by omega), Array.getElem?_toList, hc i hi, hf i hi]
  · rw [List.getElem?_eq_none (by simp; omega), List.getElem?_eq_none (by omega)]

set_option maxHeartbeats 1000000 in
set_option maxRecDepth 100000 in
theorem highFirst_any (N k : Nat) (w : World) (hk : k ≤ 8) (hN : N < 18446744073709551616) :
    Calls Tryz.prog 126 #[.int .u64 (N : Int), .int .i64 (k : Int)] w fun e w' => ∃ v, e = .returned v ∧ New w w' v k (be k N) := by
  obtain ⟨i0, hi, hz0, hz1, hz2⟩ := info_parts info5
  go_enter Tryz.func126, Tryz.ntmps126
  go_wp2_with (at_make; go_loud (refine wpList_make_full _ rfl _ _ 47 rfl w.heap.size 5 i0 (.int .u8 0) 1 Tryz.underlying47 hi hz0 hz1 .i64 .i64 _ _ k rfl rfl rfl rfl (by rw [hz2]; omega) (by unfold maxLen; omega) (Nat.le_refl _) ?_); intro w1 hown hgrow; have hb1 := keep ((Below.refl w.heap.size w).grown hgrow (Nat.le_refl _) (fun k h => by cases h)); have ho1 := keep hown; clear hown hgrow)
  have hr1 : Hid (w1.rowIs w.heap.size 5 k (beRow k N k)) := row_of_own ho1.out _ (fun i hi => by
    rw [show (Value.int .u8 0).cells = #[.int .u8 0] from rfl, toList_madeCells_one, List.getElem?_replicate, if_pos (by omega)]
    unfold beRow
    rw [if_neg (by omega)])
  clear ho1
  go_loopw [0, 6] (fun n i wr => ∃ t : Nat, t ≤ k ∧ i = .int .i64 ((t : Int) - 1) ∧ n = .int .u64 ((N / 256 ^ (k - t) : Nat) : Int) ∧ Hid (wr.rowIs w.heap.size 5 k (beRow k N t)) ∧ Hid (Below w.heap.size w wr)) (fun _ i _ => (intOf i + 1).toNat)
  case atStart => exact ⟨k, Nat.le_refl _, rfl, by rw [Nat.sub_self, Nat.pow_zero, Nat.div_one], hr1, hb1⟩
  case round =>
    clear hr1 hb1
    obtain ⟨t, ht, rfl, rfl, hr, hb⟩ := hrel
    rcases Nat.eq_zero_or_pos t with h0 | h0
    · subst h0
      go_wp2
      go_ret
      refine ⟨_, rfl, own_of_row hr.out (Nat.le_refl _) (by unfold maxLen; omega) (by rw [bv_length, be_length]) (fun i hi => ?_), hb.out⟩
      rw [bv_at _ i (by rw [be_length]; exact hi)]
      unfold beRow fn be
      rw [if_pos (Nat.zero_le _), List.getD_eq_getElem?_getD, List.getElem?_map, List.getElem?_range hi]
      rfl
    · obtain ⟨s, rfl⟩ : ∃ s, t = s + 1 := ⟨t - 1, by omega⟩
      have e0 : ((s + 1 : Nat) : Int) - 1 = (s : Int) := by omega
      rw [e0]
      obtain ⟨q, hq⟩ : ∃ q, N / 256 ^ (k - (s + 1)) = q := ⟨_, rfl⟩
      have hq' : Hid (N / 256 ^ (k - s) = q / 256) := by
        rw [← hq, Nat.div_div_eq_div_mul, ← Nat.pow_succ]
        congr 2
        omega
      have hqN : q < 18446744073709551616 := by rw [← hq]; exact Nat.lt_of_le_of_lt (Nat.div_le_self _ _) hN
      obtain ⟨y, hy⟩ : ∃ y : UInt8, UInt8.ofNat q = y := ⟨_, rfl⟩
      have hx : (q : Int) % 256 = (y.toNat : Int) := by rw [← hy, UInt8.toNat_ofNat']; omega
      rw [hq]
      have hc : wr.cell? ⟨w.heap.size, s, none⟩ = some (.int .u8 0) := by rw [hr.out.cell (by omega)]; unfold beRow; rw [if_neg (by omega)]
      have hf := hr.out.frozen s
      have hr' : Hid ((wr.setCell ⟨w.heap.size, s, none⟩ (.int .u8 (y.toNat : Int))).rowIs w.heap.size 5 k (beRow k N s)) := (hr.out.set s _).congr (fun j hj => by
        unfold beRow
        by_cases e : j = s
        · subst e; rw [if_pos rfl, if_pos (Nat.le_refl _)]
          have e1 : k - 1 - j = k - (j + 1) := by omega
          rw [e1, hq, hy]
        · rw [if_neg e]
          by_cases e2 : s ≤ j
          · rw [if_pos e2, if_pos (by omega)]
          · rw [if_neg e2, if_neg (by omega)])
      have hb' : Hid (Below w.heap.size w (wr.setCell ⟨w.heap.size, s, none⟩ (.int .u8 (y.toNat : Int)))) := hb.out.setCell (Nat.le_refl _) _
      clear hq hy
      go_wp2
      go_roundw
      case rel => exact ⟨s, by omega, by first | rfl | go_num, by rw [hq'.out]; first | rfl | (congr 1; omega), hr', hb'⟩
      case measure => simp [intOf]
end Go.Proofs.YtogphpejdnhnjaaGreatDoor
namespace Go.Proofs.YtogphpejdnhnjaaGreatDoor
open Go.RowKit

set_option maxHeartbeats 1000000 in
set_option maxRecDepth 100000 in
theorem putFix_any (ao : Option Addr) (m c : Nat) (l : List UInt8) (n : Int) (w : World) (hm : m + 8 ≤ 140737488355328) (hn : n < 9223372036854775808) (hs : Src w ao m c l) :
    Calls Tryz.prog 63 #[.slice ao m c, .int .i64 n] w fun e w' => ∃ v, e = .returned v ∧ New w w' v (m + 8) (l ++ be 8 n.toNat) := by
  have HS := keep hs
  clear hs
  obtain ⟨N, hN⟩ : ∃ N : Nat, N = n.toNat := ⟨_, rfl⟩
  rw [← hN]
  by_cases h0 : n < 0
  · have hN0 : N = 0 := by omega
    subst hN0
    clear hN
    go_enter Tryz.func63, Tryz.ntmps63
    go_wp2_with fail
    refine (highFirst_any 0 8 _ (by omega) (by omega)).mono ?_
    rintro e w1 ⟨v1, rfl, hn1⟩
    have HN := keep hn1
    obtain ⟨a1, c1, rfl, hs1, _⟩ := hn1.src
    have HS1 := keep hs1
    clear hs1 hn1
    go_wp2_with fail
    refine (layB_any ao m c l a1 _ c1 _ w1 (by omega) (HS.out.below HN.out.2) HS1.out).mono ?_
    rintro e w2 ⟨v2, rfl, hn2⟩
    have HN2 := keep (hn2.after HN.out.2)
    clear hn2
    go_wp2
    go_ret
    exact ⟨_, rfl, HN2.out⟩
  · obtain rfl : n = (N : Int) := by omega
    clear hN
    have h1 : (0 : Int) ≤ (N : Int) := by omega
    go_enter Tryz.func63, Tryz.ntmps63
    go_wp2_with fail
    refine (highFirst_any N 8 _ (by omega) (by omega)).mono ?_
    rintro e w1 ⟨v1, rfl, hn1⟩
    have HN := keep hn1
    obtain ⟨a1, c1, rfl, hs1, _⟩ := hn1.src
    have HS1 := keep hs1
    clear hs1 hn1
    go_wp2_with fail
    refine (layB_any ao m c l a1 _ c1 _ w1 (by omega) (HS.out.below HN.out.2) HS1.out).mono ?_
    rintro e w2 ⟨v2, rfl, hn2⟩
    have HN2 := keep (hn2.after HN.out.2)
    clear hn2
    go_wp2
    go_ret
    exact ⟨_, rfl, HN2.out⟩
theorem putFix_nil (n : Int) (w : World) (hn : n < 9223372036854775808) : Calls Tryz.prog 63 #[.slice none 0 0, .int .i64 n] w fun e w' => ∃ ao c, e = .returned (.slice ao 8 c) ∧ New w w' (.slice ao 8 c) 8 (be 8 n.toNat) :=
  (putFix_any none 0 0 [] n w (by omega) hn (src_nil w)).mono fun e w' ⟨v, he, h⟩ => by
    simp only [Nat.zero_add, List.nil_append] at h
    obtain ⟨ao, c, rfl, _, _⟩ := h.src
    exact ⟨ao, c, he, h⟩
end Go.Proofs.YtogphpejdnhnjaaGreatDoor
