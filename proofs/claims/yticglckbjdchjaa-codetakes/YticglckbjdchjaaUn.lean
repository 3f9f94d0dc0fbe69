/- What is taken, as one answer: code.TakeNum and code.TakeFix; no walk. -/
import Derived.Test.YticglckbjdchjaaT
namespace Go.Proofs.Yticglckbjdchjaa
open Go.RowKit

def nOf (l : List UInt8) : Nat := ((takeNum l).map (·.1)).getD 0
def rOf (l : List UInt8) : List UInt8 := ((takeNum l).map (·.2)).getD []
def eOf (l : List UInt8) : Int := if (takeNum l).isSome then 0 else 2
/-- The answer of a call that takes: a number, bytes, an error. -/
def Took (w : World) (N : Nat) (R : List UInt8) (E : Int) (e : Ending) (w' : World) : Prop :=
  ∃ ao c, e = .returned (.tuple #[.int .i64 (N : Int), .slice ao R.length c, .int .i64 E]) ∧ Src w' ao R.length c R ∧ Below w.heap.size w w'
theorem took_num {w w' : World} {l : List UInt8} {e : Ending} (h : (∃ n r v, takeNum l = some (n, r) ∧ e = .returned (.tuple #[.int .i64 (n : Int), v, .int .i64 0]) ∧ New w w' v r.length r) ∨ (takeNum l = none ∧ e = .returned (.tuple #[.int .i64 0, .slice none 0 0, .int .i64 2]) ∧ Below w.heap.size w w')) : Took w (nOf l) (rOf l) (eOf l) e w' := by
  rcases h with ⟨n, r, v, hn, rfl, hN⟩ | ⟨hn, rfl, hb⟩
  · have e1 : nOf l = n := by simp [nOf, hn]
    have e2 : rOf l = r := by simp [rOf, hn]
    have e3 : eOf l = 0 := by simp [eOf, hn]
    obtain ⟨ao, c, rfl, hs, _⟩ := hN.src
    rw [e1, e2, e3]
    exact ⟨ao, c, rfl, hs, hN.2⟩
  · have e1 : nOf l = 0 := by simp [nOf, hn]
    have e2 : rOf l = [] := by simp [rOf, hn]
    have e3 : eOf l = 2 := by simp [eOf, hn]
    rw [e1, e2, e3]
    exact ⟨none, 0, rfl, Src.empty (fun _ => rfl), hb⟩
def fOk (l : List UInt8) : Bool := decide (8 ≤ l.length ∧ big (l.take 8) < 9223372036854775808)
def fnOf (l : List UInt8) : Nat := if fOk l then big (l.take 8) else 0
def frOf (l : List UInt8) : List UInt8 := if fOk l then l.drop 8 else []
def feOf (l : List UInt8) : Int := if fOk l then 0 else 2
theorem took_fix {w w' : World} {m : Nat} {l : List UInt8} {e : Ending} (hl : l.length = m) (h : (∃ v, 8 ≤ m ∧ big (l.take 8) < 9223372036854775808 ∧ e = .returned (.tuple #[.int .i64 ((big (l.take 8) : Nat) : Int), v, .int .i64 0]) ∧ New w w' v (m - 8) (l.drop 8)) ∨ ((m < 8 ∨ 9223372036854775808 ≤ big (l.take 8)) ∧ e = .returned (.tuple #[.int .i64 0, .slice none 0 0, .int .i64 2]) ∧ Below w.heap.size w w')) : Took w (fnOf l) (frOf l) (feOf l) e w' := by
  rcases h with ⟨v, h8, hb, rfl, hN⟩ | ⟨hn, rfl, hb⟩
  · have ok : fOk l = true := by unfold fOk; exact decide_eq_true ⟨by omega, hb⟩
    have e2 : frOf l = l.drop 8 := by simp [frOf, ok]
    have e1 : fnOf l = big (l.take 8) := by simp [fnOf, ok]
    have e3 : feOf l = 0 := by simp [feOf, ok]
    obtain ⟨ao, c, rfl, hs, _⟩ := hN.src
    rw [e1, e2, e3]
    have hlen : m - 8 = (l.drop 8).length := by rw [List.length_drop, hl]
    rw [hlen] at hs ⊢
    exact ⟨ao, c, rfl, hs, hN.2⟩
  · have no : fOk l = false := by
      unfold fOk
      refine decide_eq_false ?_
      rintro ⟨h1, h2⟩
      omega
    have e1 : fnOf l = 0 := by simp [fnOf, no]
    have e2 : frOf l = [] := by simp [frOf, no]
    have e3 : feOf l = 2 := by simp [feOf, no]
    rw [e1, e2, e3]
    exact ⟨none, 0, rfl, Src.empty (fun _ => rfl), hb⟩
theorem takeNum_uni (ao : Option Addr) (m c : Nat) (l : List UInt8) (w : World) (hm : m ≤ 140737488355328) (hs : Src w ao m c l) : Calls Try.prog 14 #[.slice ao m c] w (Took w (nOf l) (rOf l) (eOf l)) :=
  (takeNum_any ao m c l w hm hs).mono fun _ _ h => took_num h
theorem takeFix_uni (ao : Option Addr) (m c : Nat) (l : List UInt8) (w : World) (hm : m ≤ 140737488355328) (hs : Src w ao m c l) : Calls Try.prog 16 #[.slice ao m c] w (Took w (fnOf l) (frOf l) (feOf l)) :=
  (takeFix_any ao m c l w hm hs).mono fun _ _ h => took_fix hs.len h
theorem takeNum_nil : takeNum [] = none := take_short (by simp)
theorem eOf_nil : eOf [] = 2 := by simp [eOf, takeNum_nil]
end Go.Proofs.Yticglckbjdchjaa
