/- The walk of code.readGroups. -/
/- The walk of code.readHighFirst. -/
/- The walks of code.TakeNum and code.TakeFix. -/
import Derived.Test.YtogphpejdnhnjaaGreatDoorF
import Derived.Test.YtogphpejdnhnjaaGreatDoorLb
import Derived.Test.YtogphpejdnhnjaaGreatDoorCl
import Derived.Lib.LazyBuf
import Derived.Test.YtogphpejdnhnjaaGreatDoorJoinP
namespace Go.Proofs.YtogphpejdnhnjaaGreatDoor
open Go.RowKit

theorem low7 (b : UInt8) : bits .andNot .u8 (b.toNat : Int) 128 = ((b.toNat % 128 : Nat) : Int) := by
  have h := u8_andNot_nat b.toNat 128 b.toNat_lt (by omega)
  rw [nat_mask7] at h
  exact h

theorem split_at (l : List UInt8) (k : Nat) (h : k < l.length) : l = l.take k ++ fn l k :: l.drop (k + 1) := by
  have e : fn l k = l[k] := by simp [fn, List.getD, h]
  rw [e, ← List.drop_eq_getElem_cons h, List.take_append_drop]
theorem rg_more {l : List UInt8} {k : Nat} (hall : ∀ x ∈ l.take k, 128 ≤ x.toNat) (h : k < l.length) (hy : 128 ≤ (fn l k).toNat) : ∀ x ∈ l.take (k + 1), 128 ≤ x.toNat := by
  intro x hx
  have e : fn l k = l[k] := by simp [fn, List.getD, h]
  rw [List.take_succ_eq_append_getElem h] at hx
  rcases List.mem_append.1 hx with hx | hx
  · exact hall x hx
  · have : x = l[k] := by simpa using hx
    rw [this, ← e]; exact hy
theorem rg_val {l : List UInt8} {k : Nat} (h : k < l.length) : val (l.take (k + 1)) = val (l.take k) + 128 ^ k * ((fn l k).toNat % 128) := by
  have e : fn l k = l[k] := by simp [fn, List.getD, h]
  rw [List.take_succ_eq_append_getElem h, val_append, List.length_take, Nat.min_eq_left (by omega), e]
  simp [val]
theorem rg_zero {l : List UInt8} {k : Nat} (hall : ∀ x ∈ l.take k, 128 ≤ x.toNat) (h : k < l.length) (h0 : 0 < k) (hy : (fn l k).toNat = 0) : takeNum l = none := by
  rw [split_at l k h]
  exact take_zero hall (by simp; omega) hy
theorem rg_great {l : List UInt8} (hall : ∀ x ∈ l.take 8, 128 ≤ x.toNat) (h : 8 < l.length) (hy : 63 < (fn l 8).toNat) : takeNum l = none := by
  rcases Nat.lt_or_ge (fn l 8).toNat 128 with h1 | h1
  · rw [split_at l 8 h]
    exact take_great hall (by simp; omega) (by omega)
  · have := take_long (t := l.drop 9) (rg_more hall h h1) (by simp; omega)
    rwa [List.take_append_drop] at this
theorem rg_done {l : List UInt8} {k : Nat} (hall : ∀ x ∈ l.take k, 128 ≤ x.toNat) (h : k < l.length) (h8 : k ≤ 8) (hy : (fn l k).toNat < 128) (hz : k = 0 ∨ (fn l k).toNat ≠ 0) (hg : k = 8 → (fn l k).toNat ≤ 63) :
    takeNum l = some (val (l.take k) + 128 ^ k * (fn l k).toNat, l.drop (k + 1)) := by
  have hl : (l.take k).length = k := by simp; omega
  have := take_done (t := l.drop (k + 1)) hall hy (by
    rcases hz with hz | hz
    · left; rw [hz]; rfl
    · exact .inr hz) (by omega) (fun e => hg (by omega))
  rw [← split_at l k h, hl] at this
  exact this
theorem or_part (V d k : Nat) (hV : V < 128 ^ k) (hd : d < 128) (hk : k ≤ 8) (hg : k = 8 → d ≤ 63) : bits .or .i64 (V : Int) (wrap64 ((d : Int) * 2 ^ (7 * k))) = ((V + 128 ^ k * d : Nat) : Int) := by
  have e128 : (128 : Nat) ^ k = 2 ^ (7 * k) := by rw [Nat.pow_mul]
  have hlt : V + 128 ^ k * d < 4611686018427387904 := by
    rcases Nat.lt_or_ge k 8 with h | h
    · have hpow : 128 ^ k ≤ 128 ^ 7 := Nat.pow_le_pow_right (by decide) (by omega)
      have : 128 ^ k * d ≤ 128 ^ 7 * 127 := Nat.mul_le_mul hpow (by omega)
      have e3 : (128 : Nat) ^ 7 = 562949953421312 := rfl
      omega
    · obtain rfl : k = 8 := by omega
      have := hg rfl
      have e3 : (128 : Nat) ^ 8 = 72057594037927936 := rfl
      omega
  have e1 : (d : Int) * 2 ^ (7 * k) = ((128 ^ k * d : Nat) : Int) := by rw [e128, Int.natCast_mul, Int.natCast_pow, Int.mul_comm]; rfl
  rw [e1]
  generalize hM : 128 ^ k * d = M at hlt
  have e2 : wrap64 (M : Int) = (M : Int) := by unfold wrap64; omega
  rw [e2]
  show IntKind.i64.wrap ((BitVec.ofInt 64 (V : Int) ||| BitVec.ofInt 64 (M : Int)).toNat : Int) = _
  rw [BitVec.toNat_or, ofInt_u64 V (by omega), ofInt_u64 M (by omega)]
  have e4 : V ||| M = V + M := by
    rw [Nat.or_comm, ← hM, e128, Nat.add_comm]
    exact (Nat.two_pow_add_eq_or_of_lt (i := 7 * k) (by omega) d).symm
  rw [e4, IntKind.wrap_i64]
  omega

theorem ret3 {a b : Int} {c d : Nat} {x : Int} (h1 : a = (c : Int)) (h2 : b = (d : Int)) : Ending.returned (.tuple #[.int .i64 a, .int .i64 b, .int .i64 x]) = .returned (.tuple #[.int .i64 (c : Int), .int .i64 (d : Int), .int .i64 x]) := by subst h1; subst h2; rfl
set_option maxHeartbeats 1000000 in
set_option maxRecDepth 100000 in
theorem readGroups_any (ao : Option Addr) (m c : Nat) (l : List UInt8) (w : World) (hm : m ≤ 140737488355328) (hs : Src w ao m c l) :
    Calls Tryz.prog 181 #[.slice ao m c] w fun e w' => (∃ n r, takeNum l = some (n, r) ∧ e = .returned (.tuple #[.int .i64 (n : Int), .int .i64 ((m - r.length : Nat) : Int), .int .i64 0]) ∧ Below w.heap.size w w') ∨ (takeNum l = none ∧ e = .returned (.tuple #[.int .i64 0, .int .i64 0, .int .i64 2]) ∧ Below w.heap.size w w') := by
  have hll := hs.len
  have HS := keep hs
  clear hs
  go_enter Tryz.func181, Tryz.ntmps181
  go_wp2
  go_step3
  go_wp2
  go_step3
  go_wp2
  go_loopw [5, 11] (fun x i wr => ∃ k : Nat, k ≤ m ∧ k ≤ 8 ∧ i = .int .i64 (k : Int) ∧ x = .int .i64 ((val (l.take k) : Nat) : Int) ∧ Hid (∀ x ∈ l.take k, 128 ≤ x.toNat) ∧ Hid (Below w.heap.size w wr)) (fun _ i _ => m - (intOf i).toNat)
  case atStart => exact ⟨0, Nat.zero_le _, by omega, rfl, rfl, by simp [Hid], Below.refl _ _⟩
  case round =>
    obtain ⟨k, hk, hk8, rfl, rfl, hall, hb⟩ := hrel
    by_cases hlt : k < m
    · obtain ⟨b, off, rfl, hbw, hby⟩ := HS.out.form (by omega)
      have hcell : wr.cell? ⟨b, off + k, none⟩ = some (.int .u8 ((fn l k).toNat : Int)) := by
        rw [hb.out.cell (p := ⟨b, off + k, none⟩) hbw]; exact hby k hlt
      have h0 : (0 : Int) ≤ (k : Int) := by omega
      have h1 : (k : Int) < (m : Int) := by omega
      clear hby
      obtain ⟨y, hy⟩ : ∃ y, fn l k = y := ⟨_, rfl⟩
      have hlow := low7 y
      have HY := keep hy
      rw [hy] at hcell
      clear hy
      have hyl := y.toNat_lt
      have hxp : (0 : Int) ≤ (y.toNat : Int) := by omega
      have hVl : val (l.take k) < 128 ^ k := by have := val_lt (l.take k); rwa [List.length_take, Nat.min_eq_left (by omega)] at this
      have hmore : Hid (val (l.take (k + 1)) = val (l.take k) + 128 ^ k * (y.toNat % 128)) := by have := rg_val (l := l) (k := k) (by omega); rwa [HY.out] at this
      by_cases ha : k = 8 ∧ 63 < y.toNat
      · obtain ⟨rfl, ha⟩ := ha
        have hnone : Hid (takeNum l = none) := rg_great hall.out (by omega) (by rw [HY.out]; exact ha)
        have ha' : (63 : Int) < (y.toNat : Int) := by omega
        go_wp2
        try rw [Exit.noGoto_ret]
        go_ret3
        exact .inr ⟨hnone.out, rfl, hb.out⟩
      · by_cases hbb : 128 ≤ y.toNat
        · have hne : ¬ ((k : Int) = 8) := by omega
          have hbb' : (128 : Int) ≤ (y.toNat : Int) := by omega
          have hall' : Hid (∀ x ∈ l.take (k + 1), 128 ≤ x.toNat) := rg_more hall.out (by omega) (by rw [HY.out]; exact hbb)
          have hor : Hid (bits .or .i64 ((val (l.take k) : Nat) : Int) (wrap64 (((y.toNat % 128 : Nat) : Int) * 2 ^ (7 * k))) = ((val (l.take (k + 1)) : Nat) : Int)) := by
            rw [hmore.out]; exact or_part _ _ k hVl (by omega) hk8 (by omega)
          obtain ⟨V, hV⟩ : ∃ V, val (l.take k) = V := ⟨_, rfl⟩
          rw [hV] at hor ⊢
          clear hV hmore hVl
          go_wp2
          go_roundw
          case rel => exact ⟨k + 1, by omega, by omega, by go_num, by rw [← hor.out]; rfl, hall', hb⟩
          case measure => simp [intOf]; omega
        · by_cases hc : y.toNat = 0 ∧ 0 < k
          · obtain ⟨hy0, hk0⟩ := hc
            have hnone : Hid (takeNum l = none) := rg_zero hall.out (by omega) hk0 (by rw [HY.out]; exact hy0)
            have hy0' : (y.toNat : Int) = 0 := by omega
            have hk0' : (0 : Int) < (k : Int) := by omega
            have hnb : ¬ ((128 : Int) ≤ (y.toNat : Int)) := by omega
            have hna : ¬ ((63 : Int) < (y.toNat : Int)) := by omega
            clear hmore hVl
            go_wp2
            all_goals
              try rw [Exit.noGoto_ret]
              go_ret3
              exact .inr ⟨hnone.out, rfl, hb.out⟩
          · have hdone : Hid (takeNum l = some (val (l.take k) + 128 ^ k * y.toNat, l.drop (k + 1))) := by
              have := rg_done hall.out (by omega) hk8 (by rw [HY.out]; omega) (by rw [HY.out]; omega) (by rw [HY.out]; omega)
              rwa [HY.out] at this
            have hor : Hid (bits .or .i64 ((val (l.take k) : Nat) : Int) (wrap64 ((y.toNat : Int) * 2 ^ (7 * k))) = ((val (l.take k) + 128 ^ k * y.toNat : Nat) : Int)) :=
              or_part _ _ k hVl (by omega) hk8 (by omega)
            have hnb : ¬ ((128 : Int) ≤ (y.toNat : Int)) := by omega
            have hcc : ¬ ((y.toNat : Int) = 0 ∧ (0 : Int) < (k : Int)) := by omega
            have haa : ¬ ((k : Int) = 8 ∧ (63 : Int) < (y.toNat : Int)) := by omega
            clear hmore
            have hor1 : Hid (bits .or .i64 ((val (l.take k) : Nat) : Int) (wrap64 ((y.toNat : Int) % 128 * 2 ^ (7 * k))) = ((val (l.take k) + 128 ^ k * y.toNat : Nat) : Int)) := by
              rw [Int.emod_eq_of_lt (by omega) (by omega)]; exact hor.out
            have hlen : Hid (m - (l.drop (k + 1)).length = k + 1) := by rw [List.length_drop]; show _ = _; omega
            go_wp2
            all_goals
              try rw [Exit.noGoto_ret]
              go_ret3
              refine .inl ⟨_, _, hdone.out, ret3 ?_ ?_, hb.out⟩
              · first | exact hor1.out | (have h := hor1.out; rw [show y.toNat = 0 by omega] at h ⊢; simpa using h)
              · rw [hlen.out]; omega
    · obtain rfl : k = m := by omega
      rw [List.take_of_length_le (by omega)] at hall
      go_wp2
      try rw [Exit.noGoto_ret]
      go_ret3
      exact .inr ⟨take_short hall.out, rfl, hb.out⟩
end Go.Proofs.YtogphpejdnhnjaaGreatDoor
namespace Go.Proofs.YtogphpejdnhnjaaGreatDoor
open Go.RowKit

theorem big_take (l : List UInt8) (k : Nat) (h : k < l.length) : big (l.take (k + 1)) = big (l.take k) * 256 + (fn l k).toNat := by
  rw [List.take_succ_eq_append_getElem h, big_snoc]
  have e : fn l k = l[k] := by simp [fn, List.getD, h]
  rw [e]
theorem or_low (a b : Nat) (ha : a < 72057594037927936) (hb : b < 256) : bits .or .u64 ((a : Int) * 256) (IntKind.u64.wrap (b : Int)) = ((a * 256 + b : Nat) : Int) := by
  have e1 : IntKind.u64.wrap (b : Int) = (b : Int) := by rw [IntKind.wrap_u64]; omega
  have e2 : (a : Int) * 256 = ((a * 256 : Nat) : Int) := by omega
  rw [e1, e2, u64_or_nat _ _ (by omega) (by omega)]
  congr 1
  have := Nat.two_pow_add_eq_or_of_lt (i := 8) hb a
  rw [Nat.mul_comm] at this
  exact this.symm

set_option maxHeartbeats 1000000 in
set_option maxRecDepth 100000 in
theorem readHigh_any (ao : Option Addr) (m c : Nat) (l : List UInt8) (w : World) (hm : m ≤ 8) (hs : Src w ao m c l) :
    Calls Tryz.prog 232 #[.slice ao m c] w fun e w' => e = .returned (.int .u64 ((big l : Nat) : Int)) ∧ Below w.heap.size w w' := by
  have hll := hs.len
  have HS := keep hs
  clear hs
  go_enter Tryz.func232, Tryz.ntmps232
  go_wp2
  go_loopw [3, 8] (fun x i wr => ∃ k : Nat, k ≤ m ∧ i = .int .i64 (k : Int) ∧ x = .int .u64 ((big (l.take k) : Nat) : Int) ∧ Hid (Below w.heap.size w wr)) (fun _ i _ => m - (intOf i).toNat)
  case atStart => exact ⟨0, Nat.zero_le _, rfl, rfl, Below.refl _ _⟩
  case round =>
    obtain ⟨k, hk, rfl, rfl, hb⟩ := hrel
    by_cases hlt : k < m
    · obtain ⟨b, off, rfl, hbw, hby⟩ := HS.out.form (by omega)
      have hcell : wr.cell? ⟨b, off + k, none⟩ = some (.int .u8 ((fn l k).toNat : Int)) := by
        rw [hb.out.cell (p := ⟨b, off + k, none⟩) hbw]; exact hby k hlt
      have h0 : (0 : Int) ≤ (k : Int) := by omega
      have h1 : (k : Int) < (m : Int) := by omega
      clear hby
      have hq : big (l.take k) < 72057594037927936 := by
        have h2 := big_lt (l.take k)
        have h3 : (l.take k).length ≤ 7 := by simp; omega
        have h4 : 256 ^ (l.take k).length ≤ 256 ^ 7 := Nat.pow_le_pow_right (by decide) h3
        have e : (256 : Nat) ^ 7 = 72057594037927936 := rfl
        omega
      have hnext : Hid (big (l.take (k + 1)) = big (l.take k) * 256 + (fn l k).toNat) := big_take l k (by omega)
      have hor := or_low (big (l.take k)) (fn l k).toNat hq (fn l k).toNat_lt
      obtain ⟨q, hq2⟩ : ∃ q, big (l.take k) = q := ⟨_, rfl⟩
      obtain ⟨y, hy⟩ : ∃ y, fn l k = y := ⟨_, rfl⟩
      rw [hq2] at hq hnext hor ⊢
      rw [hy] at hnext hor hcell
      clear hq2 hy
      have hor' := keep hor
      clear hor
      go_wp2
      go_roundw
      case rel => exact ⟨k + 1, by omega, by go_num, by rw [hnext.out, hor'.out], hb⟩
      case measure => simp [intOf]; omega
    · obtain rfl : k = m := by omega
      rw [List.take_of_length_le (by omega)]
      go_wp2
      go_ret
      exact ⟨rfl, hb.out⟩

end Go.Proofs.YtogphpejdnhnjaaGreatDoor
namespace Go.Proofs.YtogphpejdnhnjaaGreatDoor
open Go.RowKit

theorem Src.none_of {w : World} {ao : Option Addr} {c : Nat} {l : List UInt8} (hl : l.length = 0) (h : ao = none → c = 0) : Src w ao 0 c l := by
  obtain rfl : l = [] := List.length_eq_zero_iff.1 hl
  exact Src.empty h
theorem Src.tail {w : World} {ao : Option Addr} {m c : Nat} {l : List UInt8} (h : Src w ao m c l) (k : Nat) (hk : k ≤ m) : Src w (Option.map (fun x => x.add k) ao) (m - k) (c - k) (l.drop k) := by
  have hl := h.len
  have hcap := h.cap
  rcases Nat.eq_zero_or_pos (m - k) with h0 | h0
  · rw [h0]
    refine Src.none_of (by rw [List.length_drop]; omega) (fun e => ?_)
    cases ao with
    | none => have := h.nil rfl; omega
    | some ad => cases e
  · obtain ⟨b, off, rfl, _, hby⟩ := h.form (by omega)
    have e : Option.map (fun x : Addr => x.add k) (some ⟨b, off, none⟩) = some ⟨b, off + k, none⟩ := by simp [Addr.add_mid]
    rw [e]
    refine Src.mk_bytes (by rw [List.length_drop]; omega) (by omega) (fun i hi => ?_)
    have e2 : off + k + i = off + (k + i) := by omega
    have e3 : fn (l.drop k) i = fn l (k + i) := by simp [fn, List.getD]
    rw [e2, e3]
    exact hby (k + i) (by omega)
theorem Src.tail0 {w : World} {ao : Option Addr} {m c : Nat} {l : List UInt8} (h : Src w ao m c l) (k : Nat) (hk : k = c) : Src w ao 0 0 (l.drop k) := by
  have hl := h.len
  have hcap := h.cap
  exact Src.none_of (by rw [List.length_drop]; omega) (fun _ => rfl)
theorem Src.tailS {w : World} {b off m c : Nat} {l : List UInt8} (h : Src w (some ⟨b, off, none⟩) m c l) (k : Nat) (hk : k ≤ m) : Src w (some ⟨b, off + k, none⟩) (m - k) (c - k) (l.drop k) := by
  have := h.tail k hk
  have e : Option.map (fun x : Addr => x.add k) (some ⟨b, off, none⟩) = some ⟨b, off + k, none⟩ := by simp [Addr.add_mid]
  rwa [e] at this
theorem Src.head {w : World} {ao : Option Addr} {m c : Nat} {l : List UInt8} (h : Src w ao m c l) (k : Nat) (hk : k ≤ m) : Src w ao k c (l.take k) := by
  have hl := h.len
  have hcap := h.cap
  refine ⟨by rw [List.length_take]; omega, by omega, fun e => ?_, fun ad had j u hu => h.cells ad had j u ?_⟩
  · have := h.nil e; omega
  · have e : bv (l.take k) = (bv l).take k := by simp [bv]
    rw [e, List.getElem?_take] at hu
    split at hu
    · exact hu
    · cases hu
set_option maxHeartbeats 1000000 in
set_option maxRecDepth 100000 in
theorem takeNum_any (ao : Option Addr) (m c : Nat) (l : List UInt8) (w : World) (hm : m ≤ 140737488355328) (hs : Src w ao m c l) :
    Calls Tryz.prog 115 #[.slice ao m c] w fun e w' => (∃ n r v, takeNum l = some (n, r) ∧ e = .returned (.tuple #[.int .i64 (n : Int), v, .int .i64 0]) ∧ New w w' v r.length r) ∨ (takeNum l = none ∧ e = .returned (.tuple #[.int .i64 0, .slice none 0 0, .int .i64 2]) ∧ Below w.heap.size w w') := by
  have HS := keep hs
  have hll := hs.len
  have hcap := hs.cap
  clear hs
  go_enter Tryz.func115, Tryz.ntmps115
  go_wp2_with fail
  refine (readGroups_any ao m c l _ hm HS.out).mono ?_
  rintro e w1 (⟨n, r, hn, rfl, hb1⟩ | ⟨hn, rfl, hb1⟩)
  · have HB := keep hb1
    have HN := keep hn
    obtain ⟨hn1, hn2⟩ := takeNum_some hn
    have hnp := num_pos n
    have e1 := congrArg List.length hn2
    rw [List.length_append, hll] at e1
    obtain ⟨k, hk⟩ : ∃ k, m - r.length = k := ⟨_, rfl⟩
    have hkn : k = (num n).length := by omega
    have hr : l.drop k = r := by rw [hkn, hn2, List.drop_left]
    have hrl : Hid (r.length = m - k) := by show _ = _; omega
    have hkm : k ≤ m := by omega
    obtain ⟨b, off, rfl, _, _⟩ := HS.out.form (by omega)
    rw [hk]
    have HT : Hid (Src w1 (some ⟨b, off + k, none⟩) (m - k) (c - k) r) := by
      have := (HS.out.below HB.out).tailS k hkm
      rwa [hr] at this
    have HT0 : Hid (k = c → Src w1 (some ⟨b, off, none⟩) 0 0 r) := fun h => by
      have := (HS.out.below HB.out).tail0 k h
      rwa [hr] at this
    clear hb1 hn hn2 hr hk hkn e1 hnp
    have hk0 : (0 : Int) ≤ (k : Int) := by omega
    have hkm' : (k : Int) ≤ (m : Int) := by omega
    by_cases hck : k = c
    · go_wp2_with fail
      refine (clone_any (some ⟨b, off, none⟩) 0 0 r w1 (by omega) (HT0.out hck)).mono ?_
      rintro e w2 ⟨v2, rfl, hn2⟩
      rw [show 0 = r.length by rw [hrl.out]; omega] at hn2
      have HN2 := keep (hn2.after HB.out)
      clear hn2
      go_wp2
      go_ret3
      exact .inl ⟨n, r, _, HN.out, rfl, HN2.out⟩
    · go_wp2_with fail
      refine (clone_any (some ⟨b, off + k, none⟩) (m - k) (c - k) r w1 (by omega) HT.out).mono ?_
      rintro e w2 ⟨v2, rfl, hn2⟩
      rw [← hrl.out] at hn2
      have HN2 := keep (hn2.after HB.out)
      clear hn2
      go_wp2
      go_ret3
      exact .inl ⟨n, r, _, HN.out, rfl, HN2.out⟩
  · have HB := keep hb1
    have HN := keep hn
    clear hb1 hn
    go_wp2
    go_ret3
    exact .inr ⟨HN.out, rfl, HB.out⟩

theorem toInt64 (N : Nat) (h : N < 18446744073709551616) : IntKind.i64.wrap (N : Int) = if N < 9223372036854775808 then (N : Int) else (N : Int) - 18446744073709551616 := by
  rw [IntKind.wrap_i64]
  split <;> omega

end Go.Proofs.YtogphpejdnhnjaaGreatDoor
