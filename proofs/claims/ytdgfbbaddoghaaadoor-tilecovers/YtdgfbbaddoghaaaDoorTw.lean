/- The nodes of what stands beside ways; no walk. -/
import Derived.Test.YtdgfbbaddoghaaaDoorTk
namespace Go.Proofs.YtdgfbbaddoghaaaDoor
open Go.RowKit
open Mt (Pos)

/-- The nodes of what stands beside a way. -/
def wayN (s : List Mt.Sd) : List (List Pos) := s.map fun s => Mt.cov s.a s.b
theorem wayN_len (s : List Mt.Sd) : (wayN s).length = s.length := List.length_map _
theorem wayN_snoc (s : List Mt.Sd) (a b : Nat) (h : Bool) : wayN (s ++ [⟨a, b, h⟩]) = wayN s ++ [Mt.cov a b] := by unfold wayN; rw [List.map_append]; rfl
/-- The nodes of a proof of the leaves below m, of those from a to b. -/
def subN (m : Nat) (own : Bool) (a b : Nat) : List (List Pos) := (if own && decide ((Mt.way (Mt.endE m) (m - 1) a b).2 = a) then [] else [Mt.cov (Mt.way (Mt.endE m) (m - 1) a b).2 m]) ++ wayN (Mt.way (Mt.endE m) (m - 1) a b).1
theorem sub_end {m a : Nat} (own : Bool) (h : Mt.endE m a m = true) : (own = true → subN m own a m = []) ∧ (own = false → subN m own a m = [Mt.cov a m]) := by
  unfold subN
  rw [Mt.way_end h]
  exact ⟨fun e => by subst e; simp [wayN], fun e => by subst e; simp [wayN]⟩
theorem sub_left {m a b : Nat} (hee : Mt.endE m a b = false) (h2 : 2 ≤ b - a) (hi : m - 1 < a + Mt.cut (b - a)) (own : Bool) : subN m own a b = subN m own a (a + Mt.cut (b - a)) ++ [Mt.cov (a + Mt.cut (b - a)) b] := by
  unfold subN
  rw [Mt.way_left hee h2 hi]
  simp only
  rw [wayN_snoc, List.append_assoc]
theorem sub_right {m a b : Nat} (h1 : 1 ≤ m) (hb : m - 1 < b) (hee : Mt.endE m a b = false) (h2 : 2 ≤ b - a) (hi : ¬ m - 1 < a + Mt.cut (b - a)) (own : Bool) : subN m own a b = subN m false (a + Mt.cut (b - a)) b ++ [Mt.cov a (a + Mt.cut (b - a))] := by
  have hpo := Mt.cut_pos (b - a)
  have h4 := (Mt.way_in (E := Mt.endE m) (Mt.endE_one h1) (b - a - Mt.cut (b - a)) (a + Mt.cut (b - a)) b (by omega) (by omega) hb).2.1
  have h5 : decide ((Mt.way (Mt.endE m) (m - 1) (a + Mt.cut (b - a)) b).2 = a) = false := decide_eq_false (by omega)
  unfold subN
  rw [Mt.way_right hee h2 hi]
  simp only [h5, Bool.and_false, Bool.false_and]
  rw [wayN_snoc, List.append_assoc]
theorem sub_len41 {m a b : Nat} (h1 : 1 ≤ m) (ha : a ≤ m - 1) (hb : m - 1 < b) (hbm : b ≤ 1099511627776) (own : Bool) : (subN m own a b).length ≤ 41 := by
  have WI := Mt.way_in (E := Mt.endE m) (i := m - 1) (Mt.endE_one h1) (b - a) a b rfl ha hb
  have h2 := Nat.le_trans WI.2.2.2 (lv_40 (n := b - a) (by omega))
  unfold subN
  rw [List.length_append, wayN_len]
  split <;> simp only [List.length_nil, List.length_cons] <;> omega
end Go.Proofs.YtdgfbbaddoghaaaDoor
