/- The walks of the document's PutNum, PutFix and of Same. -/
import Derived.Test.YticglckbjdchjaaP
namespace Go.Proofs.Yticglckbjdchjaa
open Go.RowKit

theorem conv_src {w : World} {ao : Option Addr} {m c : Nat} {l : List UInt8} (h : Src w ao m c l) : (convert 22 9 (.slice ao m c)).run Try.prog w = .ok (.string ⟨l.toArray⟩) w := by
  rcases Nat.eq_zero_or_pos m with h0 | h0
  · subst h0
    have hl : l = [] := List.length_eq_zero_iff.1 h.len
    subst hl
    rw [run_convert_bytes_string w 22 9 5 _ 0 c Try.underlying22 Try.underlying5 Try.underlying9]
    cases ao <;> simp [Conv.bytesToString, loadCells]
    all_goals rfl
  · obtain ⟨b, off, e, _, hby⟩ := h.form h0
    cases e
    have hl := h.len
    have := run_convert_bytes_arg (P := Try.prog) w 22 5 Try.underlying22 Try.underlying5 b off m c (l.map fun b => (b.toNat : Int)) (by simpa using h.len) (fun i hi => by
      rw [hby i hi]
      have : i < l.length := by omega
      simp [fn, List.getD, this]) 9 Try.underlying9
    rwa [strOfNums_bytes] at this
theorem list_beq (l l2 : List UInt8) : (l == l2) = decide (l = l2) := by
  by_cases h : l = l2
  · subst h; simp
  · rw [decide_eq_false h, beq_eq_false_iff_ne]; exact h

set_option maxHeartbeats 1000000 in
set_option maxRecDepth 100000 in
theorem same_any (ao : Option Addr) (m c : Nat) (l : List UInt8) (ao2 : Option Addr) (m2 c2 : Nat) (l2 : List UInt8) (w : World) (hs : Src w ao m c l) (hs2 : Src w ao2 m2 c2 l2) :
    Calls Try.prog 9 #[.slice ao m c, .slice ao2 m2 c2] w fun e w' => e = .returned (.bool (decide (l = l2))) ∧ Below w.heap.size w w' := by
  have h1 := conv_src hs
  have h2 := conv_src hs2
  clear hs hs2
  go_enter Try.func9, Try.ntmps9
  go_wp2
  go_ret
  exact ⟨by rw [← list_beq]; rfl, by first | exact Below.refl _ _ | exact (Below.refl _ _).drew⟩

set_option maxHeartbeats 1000000 in
set_option maxRecDepth 100000 in
theorem rputNum_any (ao : Option Addr) (m c : Nat) (l : List UInt8) (n : Int) (w : World) (hm : m + 9 ≤ 140737488355328) (hs : Src w ao m c l) :
    Calls Try.prog 11 #[.slice ao m c, .int .i64 n] w fun e w' => ∃ v, e = .returned v ∧ New w w' v (m + (num (cl n)).length) (l ++ num (cl n)) := by
  obtain ⟨i0, hi, hz0, hz1, hz2⟩ := info_parts info5
  have h9 := num9 n
  have hll := hs.len
  have HS := keep hs
  clear hs
  go_enter Try.func11, Try.ntmps11
  go_wp2_with (at_builtin; refine wpList_append_src rfl _ _ 22 rfl w.heap.size i0 _ Try.underlying22 hi hz0 hz1 hz2 rfl _ 0 [] rfl (World.ownsRow_nil _ _ _ _) _ m c l rfl HS.out (by omega) (Nat.le_refl _) ?_; intro v1 w1 ho1 hg1; have ho2 := keep ho1; simp only [Nat.zero_add, List.nil_append] at ho2; have hb1 := keep ((Below.refl w.heap.size w).grown hg1 (Nat.le_refl _) (fun j hj => by cases hj)); clear ho1 hg1)
  all_goals
    go_loopw [1, 5] (fun i v wr => ∃ (p : List UInt8) (k N : Nat), N ≤ 4611686018427387903 ∧ i = .int .i64 (N : Int) ∧ p.length = k ∧ Hid (l ++ num (cl n) = p ++ num N) ∧ Hid (wr.ownsRow w.heap.size 5 1 v k (bv p)) ∧ Hid (Below w.heap.size w wr)) (fun i _ _ => (intOf i).toNat)
    case atStart =>
      exact ⟨l, m, cl n, cl_le n, by unfold cl; congr 1; omega, hll, rfl, ho2, hb1⟩
    case round =>
      clear ho2 hb1
      obtain ⟨p, k, N, hN, rfl, hpk, hp, ho, hb⟩ := hrel
      have hk9 : k < m + 9 := by
        have h1 := congrArg List.length hp.out
        have h2 := num_pos N
        rw [List.length_append, List.length_append, hpk, hll] at h1
        omega
      by_cases hlt : 128 ≤ N
      · have hp' : Hid (l ++ num (cl n) = (p ++ [UInt8.ofNat (128 + N % 128)]) ++ num (N / 128)) := by rw [← num_cons hlt]; exact hp.out
        obtain ⟨y, hy⟩ : ∃ y : UInt8, UInt8.ofNat (128 + N % 128) = y := ⟨_, rfl⟩
        have hx : Hid (128 + (N : Int) % 128 = (y.toNat : Int)) := by rw [← hy, ofNat_group]; show _ = _; omega
        rw [hy] at hp'
        clear hy
        go_wp2_with (at_builtin; refine wpList_append_src rfl _ _ 22 rfl w.heap.size i0 _ Try.underlying22 hi hz0 hz1 hz2 rfl _ k p rfl (by exact ho.out.alloc _) _ 1 1 [y] rfl (Src.builtI _ _ _ (by have := hx.out; omega)) (by omega) (le_alloc hb.out.size _) ?_; intro v2 w2 ho2 hg2; have hb3 := keep ((hb.out.alloc hb.out.size _).grown hg2 (le_alloc hb.out.size _) (fun j hj => (ho.out.lt j hj).1)); have ho3 := keep ho2; clear ho2 hg2)
        go_roundw
        case rel => exact ⟨_, k + 1, N / 128, by omega, by first | rfl | (congr 1; omega), by simp [hpk], hp', ho3, hb3⟩
        case measure => simp [intOf]; omega
      · have hl : m + (num (cl n)).length = k + 1 := by
          have h1 := congrArg List.length hp.out
          rw [List.length_append, List.length_append, hpk, hll, len_small (n := N) (by omega)] at h1
          exact h1
        have hq : Hid (l ++ num (cl n) = p ++ [UInt8.ofNat N]) := hp.out.trans (by rw [num_small (by omega)])
        have hx : Hid ((N : Int) = ((UInt8.ofNat N).toNat : Int)) := by rw [ofNat_last (by omega)]; exact rfl
        obtain ⟨y, hy⟩ : ∃ y : UInt8, UInt8.ofNat N = y := ⟨_, rfl⟩
        rw [hy] at hx hq
        clear hy
        go_wp2_with (at_builtin; refine wpList_append_src rfl _ _ 22 rfl w.heap.size i0 _ Try.underlying22 hi hz0 hz1 hz2 rfl _ k p rfl (by exact ho.out.alloc _) _ 1 1 [y] rfl (Src.builtI _ _ _ (by have := hx.out; omega)) (by omega) (le_alloc hb.out.size _) ?_; intro v2 w2 ho2 hg2; have hb3 := keep ((hb.out.alloc hb.out.size _).grown hg2 (le_alloc hb.out.size _) (fun j hj => (ho.out.lt j hj).1)); have ho3 := keep ho2; clear ho2 hg2)
        go_ret
        rw [hl, hq.out]
        exact ⟨_, rfl, ho3.out, hb3.out⟩

theorem shr_fix (N t : Nat) : (N : Int) / 2 ^ (8 * t) = ((N / 256 ^ t : Nat) : Int) := by
  rw [Int.natCast_ediv, Int.natCast_pow]
  congr 1
  rw [Int.pow_mul]
  rfl


set_option maxHeartbeats 1000000 in
set_option maxRecDepth 100000 in
theorem rputFix_pos (ao : Option Addr) (m c : Nat) (l : List UInt8) (N : Nat) (w : World) (hN : (N : Int) < 9223372036854775808) (hm : m + 8 ≤ 140737488355328) (hs : Src w ao m c l) :
    Calls Try.prog 13 #[.slice ao m c, .int .i64 (N : Int)] w fun e w' => ∃ v, e = .returned v ∧ New w w' v (m + 8) (l ++ be 8 N) := by
  obtain ⟨i0, hi, hz0, hz1, hz2⟩ := info_parts info5
  have hll := hs.len
  have HS := keep hs
  clear hs
  go_enter Try.func13, Try.ntmps13
  go_wp2_with (at_builtin; refine wpList_append_src rfl _ _ 22 rfl w.heap.size i0 _ Try.underlying22 hi hz0 hz1 hz2 rfl _ 0 [] rfl (World.ownsRow_nil _ _ _ _) _ m c l rfl HS.out (by omega) (Nat.le_refl _) ?_; intro v1 w1 ho1 hg1; have ho2 := keep ho1; simp only [Nat.zero_add, List.nil_append] at ho2; have hb1 := keep ((Below.refl w.heap.size w).grown hg1 (Nat.le_refl _) (fun j hj => by cases hj)); clear ho1 hg1)
  go_loopw [5, 6] (fun v i wr => ∃ t : Nat, t ≤ 8 ∧ i = .int .i64 ((t : Int) - 1) ∧ Hid (wr.ownsRow w.heap.size 5 1 v (m + (8 - t)) (bv (l ++ (be 8 N).take (8 - t)))) ∧ Hid (Below w.heap.size w wr)) (fun _ i _ => (intOf i + 1).toNat)
  case atStart => exact ⟨8, Nat.le_refl _, rfl, by simpa using ho2, hb1⟩
  case round =>
    clear ho2 hb1
    obtain ⟨t, ht, rfl, ho, hb⟩ := hrel
    rcases Nat.eq_zero_or_pos t with h0 | h0
    · subst h0
      go_wp2
      go_ret
      exact ⟨_, rfl, by have := ho.out; simpa [List.take_of_length_le (show (be 8 N).length ≤ 8 by rw [be_length]; omega)] using this, hb.out⟩
    · obtain ⟨s, rfl⟩ : ∃ s, t = s + 1 := ⟨t - 1, by omega⟩
      have e0 : ((s + 1 : Nat) : Int) - 1 = (s : Int) := by omega
      rw [e0]
      obtain ⟨y, hy⟩ : ∃ y : UInt8, UInt8.ofNat (N / 256 ^ s) = y := ⟨_, rfl⟩
      have hsh := keep (shr_fix N s)
      obtain ⟨q, hq⟩ : ∃ q : Nat, N / 256 ^ s = q := ⟨_, rfl⟩
      have hNq : q ≤ N := by rw [← hq]; exact Nat.div_le_self _ _
      have hnext : Hid ((be 8 N).take (8 - s) = (be 8 N).take (8 - (s + 1)) ++ [y]) := by
        have e1 : 8 - s = (8 - (s + 1)) + 1 := by omega
        show _ = _
        rw [e1, List.take_succ_eq_append_getElem (by rw [be_length]; omega)]
        congr 2
        rw [← hy]
        simp only [be, List.getElem_map, List.getElem_range]
        congr 3
        omega
      rw [hq] at hsh hy
      have hx : Hid ((q : Int) % 256 = (y.toNat : Int)) := by rw [← hy, UInt8.toNat_ofNat']; show _ = _; omega
      clear hq hy
      go_wp2_with (at_builtin; refine wpList_append_src rfl _ _ 22 rfl w.heap.size i0 _ Try.underlying22 hi hz0 hz1 hz2 rfl _ (m + (8 - (s + 1))) _ rfl (by exact ho.out.alloc _) _ 1 1 [y] rfl (Src.builtI _ _ _ (by first | exact hx.out | (rw [hsh.out]; exact hx.out))) (by omega) (le_alloc hb.out.size _) ?_; intro v2 w2 ho2 hg2; have hb3 := keep ((hb.out.alloc hb.out.size _).grown hg2 (le_alloc hb.out.size _) (fun j hj => (ho.out.lt j hj).1)); have ho3 := keep ho2; clear ho2 hg2)
      go_roundw
      case rel =>
        refine ⟨s, by omega, by first | rfl | go_num, ?_, hb3⟩
        show World.ownsRow _ _ _ _ _ _ _
        rw [hnext.out, ← List.append_assoc]
        have e1 : m + (8 - s) = m + (8 - (s + 1)) + 1 := by omega
        rw [e1]
        exact ho3.out
      case measure => simp [intOf]

set_option maxHeartbeats 1000000 in
set_option maxRecDepth 100000 in
theorem rputFix_neg (ao : Option Addr) (m c : Nat) (l : List UInt8) (n : Int) (N : Nat) (w : World) (hn : n < 0) (hN : N = 0) (hm : m + 8 ≤ 140737488355328) (hs : Src w ao m c l) :
    Calls Try.prog 13 #[.slice ao m c, .int .i64 n] w fun e w' => ∃ v, e = .returned v ∧ New w w' v (m + 8) (l ++ be 8 N) := by
  obtain ⟨i0, hi, hz0, hz1, hz2⟩ := info_parts info5
  have hll := hs.len
  have HS := keep hs
  clear hs
  go_enter Try.func13, Try.ntmps13
  go_wp2_with (at_builtin; refine wpList_append_src rfl _ _ 22 rfl w.heap.size i0 _ Try.underlying22 hi hz0 hz1 hz2 rfl _ 0 [] rfl (World.ownsRow_nil _ _ _ _) _ m c l rfl HS.out (by omega) (Nat.le_refl _) ?_; intro v1 w1 ho1 hg1; have ho2 := keep ho1; simp only [Nat.zero_add, List.nil_append] at ho2; have hb1 := keep ((Below.refl w.heap.size w).grown hg1 (Nat.le_refl _) (fun j hj => by cases hj)); clear ho1 hg1)
  go_loopw [5, 6] (fun v i wr => ∃ t : Nat, t ≤ 8 ∧ i = .int .i64 ((t : Int) - 1) ∧ Hid (wr.ownsRow w.heap.size 5 1 v (m + (8 - t)) (bv (l ++ (be 8 N).take (8 - t)))) ∧ Hid (Below w.heap.size w wr)) (fun _ i _ => (intOf i + 1).toNat)
  case atStart => exact ⟨8, Nat.le_refl _, rfl, by simpa using ho2, hb1⟩
  case round =>
    clear ho2 hb1
    obtain ⟨t, ht, rfl, ho, hb⟩ := hrel
    rcases Nat.eq_zero_or_pos t with h0 | h0
    · subst h0
      go_wp2
      go_ret
      exact ⟨_, rfl, by have := ho.out; simpa [List.take_of_length_le (show (be 8 N).length ≤ 8 by rw [be_length]; omega)] using this, hb.out⟩
    · obtain ⟨s, rfl⟩ : ∃ s, t = s + 1 := ⟨t - 1, by omega⟩
      have e0 : ((s + 1 : Nat) : Int) - 1 = (s : Int) := by omega
      rw [e0]
      obtain ⟨y, hy⟩ : ∃ y : UInt8, UInt8.ofNat (N / 256 ^ s) = y := ⟨_, rfl⟩
      have hsh := keep (shr_fix N s)
      obtain ⟨q, hq⟩ : ∃ q : Nat, N / 256 ^ s = q := ⟨_, rfl⟩
      have hNq : q ≤ N := by rw [← hq]; exact Nat.div_le_self _ _
      have hnext : Hid ((be 8 N).take (8 - s) = (be 8 N).take (8 - (s + 1)) ++ [y]) := by
        have e1 : 8 - s = (8 - (s + 1)) + 1 := by omega
        show _ = _
        rw [e1, List.take_succ_eq_append_getElem (by rw [be_length]; omega)]
        congr 2
        rw [← hy]
        simp only [be, List.getElem_map, List.getElem_range]
        congr 3
        omega
      rw [hq] at hsh hy
      have hx : Hid ((q : Int) % 256 = (y.toNat : Int)) := by rw [← hy, UInt8.toNat_ofNat']; show _ = _; omega
      clear hq hy
      have hq0 : q = 0 := by omega
      subst hq0
      go_wp2_with (at_builtin; refine wpList_append_src rfl _ _ 22 rfl w.heap.size i0 _ Try.underlying22 hi hz0 hz1 hz2 rfl _ (m + (8 - (s + 1))) _ rfl (by exact ho.out.alloc _) _ 1 1 [y] rfl (Src.builtI _ _ _ (by first | exact hx.out | (rw [hsh.out]; exact hx.out))) (by omega) (le_alloc hb.out.size _) ?_; intro v2 w2 ho2 hg2; have hb3 := keep ((hb.out.alloc hb.out.size _).grown hg2 (le_alloc hb.out.size _) (fun j hj => (ho.out.lt j hj).1)); have ho3 := keep ho2; clear ho2 hg2)
      go_roundw
      case rel =>
        refine ⟨s, by omega, by first | rfl | go_num, ?_, hb3⟩
        show World.ownsRow _ _ _ _ _ _ _
        rw [hnext.out, ← List.append_assoc]
        have e1 : m + (8 - s) = m + (8 - (s + 1)) + 1 := by omega
        rw [e1]
        exact ho3.out
      case measure => simp [intOf]
end Go.Proofs.Yticglckbjdchjaa
