/- Entries as they lie in memory; the walks of bytes.Equal, skip's within, Check. -/
import Derived.Test.YtbgdkkcobcmpoaaGreatDoorSa
import Derived.Test.YtbgdkkcobcmpoaaGreatDoorL
import Derived.Test.YtbgdkkcobcmpoaaGreatDoorRw
import Derived.Test.YtbgdkkcobcmpoaaGreatDoorCl
import Derived.Test.YtbgdkkcobcmpoaaGreatDoorCp
namespace Go.Proofs.YtbgdkkcobcmpoaaGreatDoor
open Go.RowKit
open Sk (Ent)

/-- An entry as it lies in memory: where its bytes are, besides. -/
structure EV where
  kp : Option Addr
  kc : Nat
  vp : Option Addr
  vc : Nat
  e : Ent
def entKind : Kind EV where
  size := 4
  vals x := [.slice x.kp x.e.key.length x.kc, .int .i64 x.e.seq, .bool x.e.gone, .slice x.vp x.e.val.length x.vc]
  held w x := Src w x.kp x.e.key.length x.kc x.e.key ∧ Src w x.vp x.e.val.length x.vc x.e.val
theorem entKind_ok : entKind.Ok :=
  ⟨by decide, fun _ => rfl, fun e u hu => by
    simp only [entKind, List.mem_cons, List.not_mem_nil, or_false] at hu
    rcases hu with rfl | rfl | rfl | rfl <;> rfl, fun h hb => ⟨h.1.below hb, h.2.below hb⟩⟩
def ev (x : EV) : Value := .agg #[.slice x.kp x.e.key.length x.kc, .int .i64 x.e.seq, .bool x.e.gone, .slice x.vp x.e.val.length x.vc]
theorem below_cell {w w' : World} (h : Below w.heap.size w w') {p : Addr} {v : Value} (hc : w.cell? p = some v) : w'.cell? p = some v := by rw [h.cell (World.block_lt_of_cell? w _ hc)]; exact hc

set_option maxHeartbeats 1000000 in
set_option maxRecDepth 100000 in
theorem equal_any (ao : Option Addr) (m c : Nat) (l : List UInt8) (ao2 : Option Addr) (m2 c2 : Nat) (l2 : List UInt8) (w : World) (hs : Src w ao m c l) (hs2 : Src w ao2 m2 c2 l2) :
    Calls Tryz.prog 92 #[.slice ao m c, .slice ao2 m2 c2] w fun e w' => e = .returned (.bool (decide (l = l2))) ∧ w' = w := by
  have h1 := conv_src hs
  have h2 := conv_src hs2
  clear hs hs2
  go_enter Tryz.func92, Tryz.ntmps92
  go_wp2
  go_ret
  exact ⟨by rw [← list_beq]; rfl, rfl⟩
set_option maxHeartbeats 1000000 in
set_option maxRecDepth 100000 in
theorem within_any (n a b : Int) (w : World) : Calls Tryz.prog 263 #[.int .i64 n, .int .i64 a, .int .i64 b] w fun e w' => e = .returned (.bool (decide (a ≤ n) && decide (n ≤ b))) ∧ w' = w := by
  by_cases h : a ≤ n
  · go_enter Tryz.func263, Tryz.ntmps263
    go_wp2
    go_ret
    exact ⟨by rw [decide_eq_true h, Bool.true_and]; rfl, rfl⟩
  · have h' : decide (a ≤ n) = false := decide_eq_false h
    go_enter Tryz.func263, Tryz.ntmps263
    go_wp2
    go_ret
    exact ⟨rfl, rfl⟩
/-- Check's answer. -/
def chk (e : Ent) : Int := if Sk.may e then 0 else 1
set_option maxHeartbeats 2000000 in
set_option maxRecDepth 100000 in
theorem check_any (x : EV) (w : World) (hk : x.e.key.length ≤ 9223372036854775807) (hv : x.e.val.length ≤ 9223372036854775807) : Calls Tryz.prog 262 #[ev x] w fun e w' => e = .returned (.int .i64 (chk x.e)) ∧ Below w.heap.size w w' := by
  obtain ⟨kp, kc, vp, vc, key, seq, gone, val⟩ := x
  simp only at hk hv
  unfold ev
  simp only
  have hal := keep ((Below.refl w.heap.size w).alloc (Nat.le_refl _) (.cells #[.slice kp key.length kc, .int .i64 seq, .bool gone, .slice vp val.length vc] 147))
  have W1 := fun w => within_any (key.length : Int) 1 64 w
  have W2 := fun w => within_any seq 0 1099511627776 w
  obtain ⟨K, hK⟩ : ∃ K, key.length = K := ⟨_, rfl⟩
  obtain ⟨V, hV⟩ : ∃ V, val.length = V := ⟨_, rfl⟩
  rw [hK] at W1 hk hal ⊢
  rw [hV] at hv hal ⊢
  have e1 : (decide ((1 : Int) ≤ (K : Int)) && decide ((K : Int) ≤ 64)) = (decide (1 ≤ K) && decide (K ≤ 64)) := by
    congr 1 <;> (rw [decide_eq_decide]; omega)
  have hch : chk ⟨key, seq, gone, val⟩ = if ((decide (1 ≤ K) && decide (K ≤ 64)) && (decide (0 ≤ seq) && decide (seq ≤ 1099511627776)) && decide (V ≤ (if gone then 0 else 1024))) = true then 0 else 1 := by
    unfold chk Sk.may
    simp only [hK, hV]
    congr 1
    cases gone
    · simp [and_assoc]
    · simp only [Bool.and_eq_true, decide_eq_true_eq, Bool.true_and, if_true, Bool.not_eq_true', decide_eq_false_iff_not, eq_iff_iff]
      omega
  rw [e1] at W1
  have HCH := keep hch
  have w1 := keep W1
  have w2 := keep W2
  clear hK hV hch e1 W1 W2
  cases hb1 : (decide (1 ≤ K) && decide (K ≤ 64)) with
  | false =>
    rw [hb1] at w1 HCH
    clear hb1
    go_enter Tryz.func262, Tryz.ntmps262
    cases gone
    all_goals
      go_wp2_with fail
      refine (w1.out _).mono ?_
      rintro e w3 ⟨rfl, rfl⟩
      go_wp2
      go_ret
      exact ⟨by rw [HCH.out]; rfl, hal.out⟩
  | true =>
    cases hb2 : (decide (0 ≤ seq) && decide (seq ≤ 1099511627776)) with
    | false =>
      rw [hb1, hb2] at HCH
      rw [hb1] at w1
      rw [hb2] at w2
      clear hb1 hb2
      go_enter Tryz.func262, Tryz.ntmps262
      cases gone
      all_goals
        go_wp2_with fail
        refine (w1.out _).mono ?_
        rintro e w3 ⟨rfl, rfl⟩
        go_wp2_with fail
        refine (w2.out _).mono ?_
        rintro e w4 ⟨rfl, rfl⟩
        go_wp2
        go_ret
        exact ⟨by rw [HCH.out]; rfl, hal.out⟩
    | true =>
      rw [hb1, hb2] at HCH
      rw [hb1] at w1
      rw [hb2] at w2
      clear hb1 hb2
      obtain ⟨M, hM⟩ : ∃ M : Nat, M = if gone then 0 else 1024 := ⟨_, rfl⟩
      by_cases hvm : V ≤ M
      · rw [← hM, decide_eq_true hvm] at HCH
        go_enter Tryz.func262, Tryz.ntmps262
        cases gone
        all_goals
          simp only [Bool.false_eq_true, if_false, if_true] at hM
          subst hM
          have hvi : ¬ _ < (V : Int) := Int.not_lt.2 (Int.ofNat_le.2 hvm)
          go_wp2_with fail
          refine (w1.out _).mono ?_
          rintro e w3 ⟨rfl, rfl⟩
          go_wp2_with fail
          refine (w2.out _).mono ?_
          rintro e w4 ⟨rfl, rfl⟩
          go_wp2
          go_ret
          exact ⟨by rw [HCH.out]; rfl, hal.out⟩
      · rw [← hM, decide_eq_false hvm] at HCH
        go_enter Tryz.func262, Tryz.ntmps262
        cases gone
        all_goals
          simp only [Bool.false_eq_true, if_false, if_true] at hM
          subst hM
          have hvi : _ < (V : Int) := Int.ofNat_lt.2 (Nat.lt_of_not_le hvm)
          go_wp2_with fail
          refine (w1.out _).mono ?_
          rintro e w3 ⟨rfl, rfl⟩
          go_wp2_with fail
          refine (w2.out _).mono ?_
          rintro e w4 ⟨rfl, rfl⟩
          go_wp2
          go_ret
          exact ⟨by rw [HCH.out]; rfl, hal.out⟩
end Go.Proofs.YtbgdkkcobcmpoaaGreatDoor
