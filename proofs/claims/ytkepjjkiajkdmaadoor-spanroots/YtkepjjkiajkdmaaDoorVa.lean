/- The walks of isNoHash, and of the library's IndexFunc, ContainsFunc there. -/
import Derived.Test.YtkepjjkiajkdmaaDoorKz
import Derived.Test.YtkepjjkiajkdmaaDoorKt
namespace Go.Proofs.YtkepjjkiajkdmaaDoor
open Go.RowKit

set_option maxHeartbeats 1000000 in
set_option maxRecDepth 100000 in
theorem isNoHash_any (s : List UInt8) (w : World) :
    Calls Tryd.prog 29 #[.string ⟨s.toArray⟩] w fun e w' => e = .returned (.bool (!decide (s.length = 32))) ∧ w' = w := by
  by_cases h32 : s.length = 32
  · have h3 : (s.length : Int) = 32 := by omega
    rw [decide_eq_true h32, Bool.not_true]
    clear h32
    go_enter Tryd.func29, Tryd.ntmps29
    go_wp2
    go_ret
    exact ⟨rfl, rfl⟩
  · have h3 : ¬ (s.length : Int) = 32 := by omega
    have h5 : ((s.length : Int) != 32) = true := by simp; omega
    rw [decide_eq_false h32, Bool.not_false]
    clear h32
    go_enter Tryd.func29, Tryd.ntmps29
    go_wp2
    go_ret
    exact ⟨rfl, rfl⟩
def zOk (es : List (List UInt8)) (z : Int) : Prop := if wholeL es then z = -1 else 0 ≤ z
set_option maxHeartbeats 2000000 in
set_option maxRecDepth 100000 in
theorem index_any (ao : Option Addr) (n c : Nat) (es : List (List UInt8)) (w : World) (hs : RSrc strKind w ao n c es) (hn : n ≤ 4611686018427387904) :
    Calls Tryd.prog 54 #[.slice ao n c, .func (.func 29) #[] #[]] w fun e w' => (∃ z : Int, e = .returned (.int .i64 z) ∧ zOk es z) ∧ Below w.heap.size w w' := by
  have HS := keep hs
  have HN := keep hs.len
  clear hs
  go_enter Tryd.func54, Tryd.ntmps54
  go_wp2
  go_loopw [8] (fun i wr => ∃ k : Nat, k ≤ n ∧ i = .int .i64 (k : Int) ∧ Hid (Below w.heap.size w wr ∧ wholeL (es.take k) = true)) (fun i _ => n - (intOf i).toNat)
  case atStart => exact ⟨0, Nat.zero_le _, rfl, Below.refl _ _, rfl⟩
  case round =>
    obtain ⟨k, hk, rfl, hI⟩ := hrel
    by_cases hkn : k < n
    · obtain ⟨b, off, rfl, _, hcell⟩ := strs_at HS.out (by omega)
      obtain ⟨s, hsk⟩ : ∃ s, es[k]? = some s := ⟨es[k]'(by rw [HN.out]; exact hkn), List.getElem?_eq_getElem _⟩
      have ck := below_cell hI.out.1 (hcell k s hsk)
      have k0 : (0 : Int) ≤ (k : Int) := by omega
      have k1 : (k : Int) < (n : Int) := by omega
      have MORE := keep (wholeL_more hsk)
      have NO := keep (fun h => wholeL_no hsk h)
      have NH := keep (isNoHash_any s wr)
      clear hcell hsk
      by_cases h32 : s.length = 32
      · rw [decide_eq_true h32, Bool.and_true] at MORE
        rw [decide_eq_true h32, Bool.not_true] at NH
        clear h32
        go_wp2_with fail
        refine NH.out.mono ?_
        rintro e w1 ⟨rfl, hw1⟩
        subst hw1
        go_wp2
        go_roundw
        case rel => exact ⟨k + 1, by omega, by go_num, hI.out.1, by rw [MORE.out]; exact hI.out.2⟩
        case measure => simp [intOf]; omega
      · have h4 := keep (NO.out h32)
        rw [decide_eq_false h32, Bool.not_false] at NH
        clear h32
        go_wp2_with fail
        refine NH.out.mono ?_
        rintro e w1 ⟨rfl, hw1⟩
        subst hw1
        go_wp2
        go_ret
        exact ⟨⟨_, rfl, by unfold zOk; rw [h4.out]; exact k0⟩, hI.out.1⟩
    · have k1 : ¬ (k : Int) < (n : Int) := by omega
      have h4 : Hid (wholeL es = true) := by
        have := hI.out.2
        rwa [List.take_of_length_le (by rw [HN.out]; omega)] at this
      go_wp2
      go_ret
      exact ⟨⟨_, rfl, by unfold zOk; rw [h4.out]; rfl⟩, hI.out.1⟩
set_option maxHeartbeats 2000000 in
set_option maxRecDepth 100000 in
theorem contains_any (ao : Option Addr) (n c : Nat) (es : List (List UInt8)) (w : World) (hs : RSrc strKind w ao n c es) (hn : n ≤ 4611686018427387904) :
    Calls Tryd.prog 37 #[.slice ao n c, .func (.func 29) #[] #[]] w fun e w' => e = .returned (.bool (!wholeL es)) ∧ Below w.heap.size w w' := by
  have IX := keep (index_any ao n c es w hs hn)
  clear hs hn
  obtain ⟨q, hq⟩ : ∃ q, wholeL es = q := ⟨_, rfl⟩
  unfold zOk at IX
  rw [hq] at IX ⊢
  clear hq
  go_enter Tryd.func37, Tryd.ntmps37
  go_wp2_with fail
  refine IX.out.mono ?_
  rintro e w1 ⟨⟨z, rfl, hz⟩, hb1⟩
  have B1 := keep hb1
  clear hb1 IX
  cases q with
  | true =>
    simp only [if_true] at hz
    subst hz
    go_wp2
    go_ret
    exact ⟨rfl, B1.out⟩
  | false =>
    simp only [Bool.false_eq_true, if_false] at hz
    go_wp2
    go_ret
    exact ⟨rfl, B1.out⟩
end Go.Proofs.YtkepjjkiajkdmaaDoor
