/- What is taken, as one answer: code.TakeNum; no walk. -/
import Derived.Test.YthaiodajfmbeaaaGreatT
namespace Go.Proofs.YthaiodajfmbeaaaGreat
open Go.RowKit

def nOf (l : List UInt8) : Nat := ((takeNum l).map (·.1)).getD 0
def rOf (l : List UInt8) : List UInt8 := ((takeNum l).map (·.2)).getD []
def eOf (l : List UInt8) : Int := if (takeNum l).isSome then 0 else 2
/-- The answer of a call that takes: a number, bytes, an error. -/
def Took (w : World) (N : Nat) (R : List UInt8) (E : Int) (e : Ending) (w' : World) : Prop :=
  ∃ ao c, e = .returned (.tuple #[.int .i64 (N : Int), .slice ao R.length c, .int .i64 E]) ∧ Src w' ao R.length c R ∧ Below w.heap.size w w'
theorem took_num {w w' : World} {l : List UInt8} {e : Ending} (h : (∃ n r v, takeNum l = some (n, r) ∧ e = .returned (.tuple #[.int .i64 (n : Int), v, .int .i64 0]) ∧ New w w' v r.length r) ∨ (takeNum l = none ∧ e = .returned (.tuple #[.int .i64 0, .slice none 0 0, .int .i64 2]) ∧ Below w.heap.size w w')) : Took w (nOf l) (rOf l) (eOf l) e w' := by
  rcases h with ⟨n, r, v, hn, rfl, hN⟩ | ⟨hn, rfl, hb⟩
  · have e1 : nOf l = n := by simp [nOf, hn]
    have e2 : rOf l = r := by simp [rOf, hn]
    have e3 : eOf l = 0 := by simp [eOf, hn]
    obtain ⟨ao, c, rfl, hs, _⟩ := hN.src
    rw [e1, e2, e3]
    exact ⟨ao, c, rfl, hs, hN.2⟩
  · have e1 : nOf l = 0 := by simp [nOf, hn]
    have e2 : rOf l = [] := by simp [rOf, hn]
    have e3 : eOf l = 2 := by simp [eOf, hn]
    rw [e1, e2, e3]
    exact ⟨none, 0, rfl, Src.empty (fun _ => rfl), hb⟩
theorem takeNum_uni (ao : Option Addr) (m c : Nat) (l : List UInt8) (w : World) (hm : m ≤ 140737488355328) (hs : Src w ao m c l) : Calls Tryz.prog 54 #[.slice ao m c] w (Took w (nOf l) (rOf l) (eOf l)) :=
  (takeNum_any ao m c l w hm hs).mono fun _ _ h => took_num h
theorem takeNum_nil : takeNum [] = none := take_short (by simp)
theorem eOf_nil : eOf [] = 2 := by simp [eOf, takeNum_nil]
end Go.Proofs.YthaiodajfmbeaaaGreat
