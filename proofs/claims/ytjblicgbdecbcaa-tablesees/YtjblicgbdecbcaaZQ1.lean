/- The walk of table's Check. -/
import Derived.Test.YtjblicgbdecbcaaZQ0
import Derived.Test.YtjblicgbdecbcaaZJ3
namespace Go.Proofs.Ytjblicgbdecbcaa
open Go.RowKit
open Sk (Ent)

/-- Part of a row of entries. -/
theorem RSrc.part {w : World} {b off n c : Nat} {es : List EV} (h : RSrc entKind w (some ⟨b, off, none⟩) n c es) (i m : Nat) (hi : i + m ≤ n) : RSrc entKind w (some ⟨b, off + i * 4, none⟩) m (c - i) ((es.drop i).take m) := by
  have hl := h.len
  have hc := h.cap
  refine ⟨by rw [List.length_take, List.length_drop]; omega, by omega, fun e => (by cases e), fun ad had j u hu => ?_, fun e he => h.held e (List.mem_of_mem_drop (List.mem_of_mem_take he))⟩
  cases had
  obtain ⟨p, q, e, rfl, hq, he, hv⟩ := rv_get entKind_ok hu
  have hp : p < m := by
    have := (List.getElem?_eq_some_iff.1 he).1
    rw [List.length_take] at this
    omega
  rw [List.getElem?_take_of_lt hp, List.getElem?_drop] at he
  have h1 := h.cells _ rfl ((i + p) * entKind.size + q) u ((rv_at entKind_ok q he hq).trans hv)
  rw [Addr.add_mid] at h1 ⊢
  have e4 : entKind.size = 4 := rfl
  rw [e4] at h1 ⊢
  rw [show off + i * 4 + (p * 4 + q) = off + ((i + p) * 4 + q) by rw [Nat.add_mul]; omega]
  exact h1
/-- Check's answer for entries. -/
def tchk (l : List Ent) : Int := if Tq.tok l then 0 else 1
theorem tchk_len {l : List Ent} (h : l.length = 0 ∨ 64 < l.length) : tchk l = 1 := by
  unfold tchk
  rw [if_neg]
  intro h'
  have := Tq.tok_len h'
  omega
theorem tchk_no {l : List Ent} {k : Nat} (h : Tq.ok2 l k = false) (hk : k < l.length) : tchk l = 1 := by
  unfold tchk
  rw [if_neg]
  rw [Tq.tok_no hk h]
  simp
theorem tchk_yes {l : List Ent} (h1 : 1 ≤ l.length) (h8 : l.length ≤ 64) (h : ∀ j, j < l.length → Tq.ok2 l j = true) : tchk l = 0 := by
  unfold tchk
  rw [if_pos (Tq.ok2_tok h1 h8 h)]
set_option maxHeartbeats 1000000 in
set_option maxRecDepth 100000 in
theorem tcheck_len (ao : Option Addr) (n c : Nat) (w : World) (h : n = 0 ∨ 64 < n) :
    Calls Try.prog 21 #[.slice ao n c] w fun e w' => e = .returned (.int .i64 1) ∧ Below w.heap.size w w' := by
  rcases h with rfl | h
  · go_enter Try.func21, Try.ntmps21
    go_wp2
    go_ret
    exact ⟨rfl, Below.refl _ _⟩
  · have h1 : ((n : Int) == 0) = false := by simp; omega
    have h2 : 64 < (n : Int) := by omega
    go_enter Try.func21, Try.ntmps21
    go_wp2
    go_ret
    exact ⟨rfl, Below.refl _ _⟩
set_option maxHeartbeats 4000000 in
set_option maxRecDepth 100000 in
theorem tcheck_any (ao : Option Addr) (n c : Nat) (es : List EV) (w : World) (hsrc : RSrc entKind w ao n c es) (hMAY : ∀ y ∈ es, y.e.key.length ≤ 9223372036854775807 ∧ y.e.val.length ≤ 9223372036854775807) :
    Calls Try.prog 21 #[.slice ao n c] w fun e w' => e = .returned (.int .i64 (tchk (es.map (·.e)))) ∧ Below w.heap.size w w' := by
  have HL : Hid ((es.map (·.e)).length = n) := by show _ = _; rw [List.length_map]; exact hsrc.len
  by_cases hn : n = 0 ∨ 64 < n
  · rw [tchk_len (by rw [HL.out]; exact hn)]
    exact tcheck_len ao n c w hn
  have n1 : 1 ≤ n := by omega
  have n8 : n ≤ 64 := by omega
  have SRC := keep hsrc
  have MAY := keep hMAY
  have hcap := hsrc.cap
  obtain ⟨b, off, rfl, _, _⟩ := hsrc.form entKind_ok n1
  have h1 : ((n : Int) == 0) = false := by simp; omega
  have h2 : ¬ 64 < (n : Int) := by omega
  clear hsrc hMAY hn
  go_enter Try.func21, Try.ntmps21
  go_wp2
  go_loopw [14] (fun i wr => ∃ k : Nat, k ≤ n ∧ i = .int .i64 (k : Int) ∧ Hid (Below w.heap.size w wr ∧ ∀ j, j < k → Tq.ok2 (es.map (·.e)) j = true)) (fun i _ => n - (intOf i).toNat)
  case atStart => exact ⟨0, Nat.zero_le _, rfl, Below.refl _ _, (fun j hj => absurd hj (Nat.not_lt_zero _))⟩
  case round =>
    obtain ⟨k, hk, rfl, hI⟩ := hrel
    by_cases hkn : k < n
    · have CK : Hid (∀ M w', k + M ≤ n → M = 2 ∨ M = 1 ∧ k + 1 = n → Below wr.heap.size wr w' → Calls Try.prog 40 #[.slice (some ⟨b, off + k * 4, none⟩) M (c - k)] w' fun e w'' => e = .returned (.int .i64 (if Tq.ok2 (es.map (·.e)) k then 0 else 1)) ∧ Below w'.heap.size w' w'') := fun M w' hM1 hM hb => by
        have h1 := bcheck_any (some ⟨b, off + k * 4, none⟩) M (c - k) ((es.drop k).take M) w' ((SRC.out.below entKind_ok (hI.out.1.trans (hb.mono hI.out.1.size))).part k M hM1) (fun y hy => MAY.out y (List.mem_of_mem_drop (List.mem_of_mem_take hy)))
        have E : ((es.drop k).take M).map (·.e) = ((es.map (·.e)).drop k).take 2 := by
          rw [List.map_take, List.map_drop]
          rcases hM with rfl | ⟨rfl, hM⟩
          · rfl
          · rw [List.take_of_length_le (i := 1), List.take_of_length_le (i := 2)] <;> (rw [List.length_drop, HL.out]; omega)
        rw [E] at h1
        exact h1
      have ll : (k : Int) < (n : Int) := by omega
      have ll0 : (0 : Int) ≤ (k : Int) := by omega
      have sw : IntKind.i64.wrap ((k : Int) + 2) = (k : Int) + 2 := wrap_small _ (by omega) (by omega)
      have nc : ¬ c = k := by omega
      have YES : Hid (∀ w', Tq.ok2 (es.map (·.e)) k = true → Below wr.heap.size wr w' → Below w.heap.size w w' ∧ ∀ j, j < k + 1 → Tq.ok2 (es.map (·.e)) j = true) := fun w' h hb => ⟨hI.out.1.trans (hb.mono hI.out.1.size), fun j hj => by
        rcases Nat.lt_or_ge j k with h1 | h1
        · exact hI.out.2 j h1
        · obtain rfl : j = k := by omega
          exact h⟩
      have NO : Hid (Tq.ok2 (es.map (·.e)) k = false → tchk (es.map (·.e)) = 1) := fun h => tchk_no h (by rw [HL.out]; exact hkn)
      have BW := keep hI.out.1
      clear hI
      cases ho : Tq.ok2 (es.map (·.e)) k with
      | true =>
        rw [ho] at CK
        have Y := keep (fun w' => YES.out w' ho)
        clear ho YES NO
        simp only [if_true] at CK
        by_cases h2k : k + 2 ≤ n
        · have lc : ¬ (n : Int) < (k : Int) + 2 := by omega
          go_wp2_with fail
          refine (CK.out _ wr (by omega) (.inl (by omega)) (Below.refl _ _)).mono ?_
          rintro e w2 ⟨rfl, hb2⟩
          go_wp2
          go_roundw
          case rel => exact ⟨k + 1, by omega, by first | rfl | go_num, Y.out w2 hb2⟩
          case measure => simp [intOf]; omega
        · have lc : (n : Int) < (k : Int) + 2 := by omega
          go_wp2_with fail
          refine (CK.out _ wr (by omega) (.inr ⟨by omega, by omega⟩) (Below.refl _ _)).mono ?_
          rintro e w2 ⟨rfl, hb2⟩
          go_wp2
          go_roundw
          case rel => exact ⟨k + 1, by omega, by first | rfl | go_num, Y.out w2 hb2⟩
          case measure => simp [intOf]; omega
      | false =>
        rw [ho] at CK
        have A := keep (NO.out ho)
        clear ho YES NO
        simp only [Bool.false_eq_true, if_false] at CK
        by_cases h2k : k + 2 ≤ n
        · have lc : ¬ (n : Int) < (k : Int) + 2 := by omega
          go_wp2_with fail
          refine (CK.out _ wr (by omega) (.inl (by omega)) (Below.refl _ _)).mono ?_
          rintro e w2 ⟨rfl, hb2⟩
          go_wp2
          go_ret
          exact ⟨by rw [A.out]; rfl, BW.out.trans (hb2.mono BW.out.size)⟩
        · have lc : (n : Int) < (k : Int) + 2 := by omega
          go_wp2_with fail
          refine (CK.out _ wr (by omega) (.inr ⟨by omega, by omega⟩) (Below.refl _ _)).mono ?_
          rintro e w2 ⟨rfl, hb2⟩
          go_wp2
          go_ret
          exact ⟨by rw [A.out]; rfl, BW.out.trans (hb2.mono BW.out.size)⟩
    · obtain rfl : k = n := by omega
      have ll : ¬ (k : Int) < (k : Int) := by omega
      have A := keep (tchk_yes (by rw [HL.out]; exact n1) (by rw [HL.out]; exact n8) (by rw [HL.out]; exact hI.out.2))
      have BW := keep hI.out.1
      clear hI
      go_wp2
      go_ret
      exact ⟨by rw [A.out]; rfl, BW.out⟩
end Go.Proofs.Ytjblicgbdecbcaa
