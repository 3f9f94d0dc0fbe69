/- Tails of slices; the walk of code.TakeFix. -/
import Derived.Test.YtomceheophnjnaaDoorRd
import Derived.Test.YtomceheophnjnaaDoorCl
namespace Go.Proofs.YtomceheophnjnaaDoor
open Go.RowKit

theorem Src.none_of {w : World} {ao : Option Addr} {c : Nat} {l : List UInt8} (hl : l.length = 0) (h : ao = none → c = 0) : Src w ao 0 c l := by
  obtain rfl : l = [] := List.length_eq_zero_iff.1 hl
  exact Src.empty h
theorem Src.tail {w : World} {ao : Option Addr} {m c : Nat} {l : List UInt8} (h : Src w ao m c l) (k : Nat) (hk : k ≤ m) : Src w (Option.map (fun x => x.add k) ao) (m - k) (c - k) (l.drop k) := by
  have hl := h.len
  have hcap := h.cap
  rcases Nat.eq_zero_or_pos (m - k) with h0 | h0
  · rw [h0]
    refine Src.none_of (by rw [List.length_drop]; omega) (fun e => ?_)
    cases ao with
    | none => have := h.nil rfl; omega
    | some ad => cases e
  · obtain ⟨b, off, rfl, _, hby⟩ := h.form (by omega)
    have e : Option.map (fun x : Addr => x.add k) (some ⟨b, off, none⟩) = some ⟨b, off + k, none⟩ := by simp [Addr.add_mid]
    rw [e]
    refine Src.mk_bytes (by rw [List.length_drop]; omega) (by omega) (fun i hi => ?_)
    have e2 : off + k + i = off + (k + i) := by omega
    have e3 : fn (l.drop k) i = fn l (k + i) := by simp [fn, List.getD]
    rw [e2, e3]
    exact hby (k + i) (by omega)
theorem Src.tail0 {w : World} {ao : Option Addr} {m c : Nat} {l : List UInt8} (h : Src w ao m c l) (k : Nat) (hk : k = c) : Src w ao 0 0 (l.drop k) := by
  have hl := h.len
  have hcap := h.cap
  exact Src.none_of (by rw [List.length_drop]; omega) (fun _ => rfl)
theorem Src.tailS {w : World} {b off m c : Nat} {l : List UInt8} (h : Src w (some ⟨b, off, none⟩) m c l) (k : Nat) (hk : k ≤ m) : Src w (some ⟨b, off + k, none⟩) (m - k) (c - k) (l.drop k) := by
  have := h.tail k hk
  have e : Option.map (fun x : Addr => x.add k) (some ⟨b, off, none⟩) = some ⟨b, off + k, none⟩ := by simp [Addr.add_mid]
  rwa [e] at this
theorem Src.head {w : World} {ao : Option Addr} {m c : Nat} {l : List UInt8} (h : Src w ao m c l) (k : Nat) (hk : k ≤ m) : Src w ao k c (l.take k) := by
  have hl := h.len
  have hcap := h.cap
  refine ⟨by rw [List.length_take]; omega, by omega, fun e => ?_, fun ad had j u hu => h.cells ad had j u ?_⟩
  · have := h.nil e; omega
  · have e : bv (l.take k) = (bv l).take k := by simp [bv]
    rw [e, List.getElem?_take] at hu
    split at hu
    · exact hu
    · cases hu
theorem toInt64 (N : Nat) (h : N < 18446744073709551616) : IntKind.i64.wrap (N : Int) = if N < 9223372036854775808 then (N : Int) else (N : Int) - 18446744073709551616 := by
  rw [IntKind.wrap_i64]
  split <;> omega

set_option maxHeartbeats 1000000 in
set_option maxRecDepth 100000 in
theorem takeFix_any (ao : Option Addr) (m c : Nat) (l : List UInt8) (w : World) (hm : m ≤ 140737488355328) (hs : Src w ao m c l) :
    Calls Tryd.prog 29 #[.slice ao m c] w fun e w' => (∃ v, 8 ≤ m ∧ big (l.take 8) < 9223372036854775808 ∧ e = .returned (.tuple #[.int .i64 ((big (l.take 8) : Nat) : Int), v, .int .i64 0]) ∧ New w w' v (m - 8) (l.drop 8)) ∨ ((m < 8 ∨ 9223372036854775808 ≤ big (l.take 8)) ∧ e = .returned (.tuple #[.int .i64 0, .slice none 0 0, .int .i64 2]) ∧ Below w.heap.size w w') := by
  have HS := keep hs
  have hll := hs.len
  have hcap := hs.cap
  clear hs
  by_cases h8 : m < 8
  · have h8' : (m : Int) < 8 := by omega
    go_enter Tryd.func29, Tryd.ntmps29
    go_wp2
    go_ret3
    exact .inr ⟨.inl h8, rfl, Below.refl _ _⟩
  · have h8' : ¬ ((m : Int) < 8) := by omega
    have hc8 : (8 : Int) ≤ (c : Int) := by omega
    have hbl : big (l.take 8) < 18446744073709551616 := by
      have h2 := big_lt (l.take 8)
      rw [List.length_take, Nat.min_eq_left (by omega)] at h2
      have e : (256 : Nat) ^ 8 = 18446744073709551616 := rfl
      omega
    go_enter Tryd.func29, Tryd.ntmps29
    go_wp2_with fail
    refine (readHigh_any ao 8 c (l.take 8) _ (by omega) (HS.out.head 8 (by omega))).mono ?_
    rintro e w1 ⟨rfl, hb1⟩
    have HB := keep hb1
    clear hb1
    obtain ⟨N, hN⟩ : ∃ N, big (l.take 8) = N := ⟨_, rfl⟩
    rw [hN] at hbl ⊢
    have HNN := keep hN
    clear hN
    obtain ⟨b, off, rfl, _, _⟩ := HS.out.form (by omega)
    have HT := keep ((HS.out.below HB.out).tailS 8 (by omega))
    have HT0 := keep (fun h => (HS.out.below HB.out).tail0 8 h)
    by_cases hx : N < 9223372036854775808
    · have hx' : ¬ ((N : Int) < 0) := by omega
      by_cases hck : 8 = c
      · go_wp2_with fail
        refine (clone_any (some ⟨b, off, none⟩) 0 0 (l.drop 8) w1 (by omega) (HT0.out hck)).mono ?_
        rintro e w2 ⟨v2, rfl, hn2⟩
        rw [show 0 = m - 8 by omega] at hn2
        have HN2 := keep (hn2.after HB.out)
        clear hn2
        go_wp2
        go_ret3
        exact .inl ⟨_, by omega, by rw [HNN.out]; exact hx, by rw [HNN.out]; rfl, HN2.out⟩
      · go_wp2_with fail
        refine (clone_any (some ⟨b, off + 8, none⟩) (m - 8) (c - 8) (l.drop 8) w1 (by omega) HT.out).mono ?_
        rintro e w2 ⟨v2, rfl, hn2⟩
        have HN2 := keep (hn2.after HB.out)
        clear hn2
        go_wp2
        go_ret3
        exact .inl ⟨_, by omega, by rw [HNN.out]; exact hx, by rw [HNN.out]; rfl, HN2.out⟩
    · have hx' : IntKind.i64.wrap (N : Int) = (N : Int) - 18446744073709551616 := by rw [toInt64 N hbl, if_neg hx]
      have hx2 : (N : Int) - 18446744073709551616 < 0 := by omega
      go_wp2
      go_ret3
      exact .inr ⟨.inr (by rw [HNN.out]; omega), rfl, HB.out⟩
end Go.Proofs.YtomceheophnjnaaDoor
