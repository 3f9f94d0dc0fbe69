/- A node is raised by one level: two stores; no walk. -/
import Derived.Test.YtjiphmeoofeepaaSp
namespace Go.Proofs.Ytjiphmeoofeepaa
open Go.RowKit
open Sk (Ent)

/-- Is one of them higher than i? -/
def anyHigh (l : List Nd) (i : Nat) : Bool := l.any (fun m => decide (i < m.h))
theorem nxt_front {l : List Nd} {i : Nat} (h : anyHigh l i = true) (c : List Nd) : nxt (l ++ c) i = nxt l i := by
  induction l with
  | nil => cases h
  | cons m l ih =>
    simp only [List.cons_append, nxt]
    by_cases hm : i < m.h
    · rw [if_pos hm, if_pos hm]
    · rw [if_neg hm, if_neg hm]
      refine ih ?_
      unfold anyHigh at h ⊢
      rw [List.any_cons, decide_eq_false hm, Bool.false_or] at h
      exact h
theorem nxt_behind {l : List Nd} {i : Nat} (h : anyHigh l i = false) (c : List Nd) : nxt (l ++ c) i = nxt c i := by
  induction l with
  | nil => rfl
  | cons m l ih =>
    unfold anyHigh at h
    rw [List.any_cons, Bool.or_eq_false_iff] at h
    have hm : ¬ i < m.h := of_decide_eq_false h.1
    simp only [List.cons_append, nxt]
    rw [if_neg hm]
    exact ih h.2
/-- Raised: at other levels nothing turns; at this one it is met where nobody stands ahead. -/
theorem nxt_raise (g : Nat) (x : EV) (i j : Nat) (a c : List Nd) : nxt (a ++ ⟨g, x, i + 1⟩ :: c) j = if j = i ∧ anyHigh a i = false then ptr g else nxt (a ++ ⟨g, x, i⟩ :: c) j := by
  by_cases hj : j = i
  · subst hj
    cases ha : anyHigh a j with
    | true =>
      rw [if_neg (by simp), nxt_front ha, nxt_front ha]
    | false =>
      rw [if_pos ⟨rfl, rfl⟩, nxt_behind ha]
      simp only [nxt]
      rw [if_pos (Nat.lt_succ_self _)]
      rfl
  · rw [if_neg (fun h => hj h.1)]
    induction a with
    | nil =>
      simp only [List.nil_append, nxt]
      by_cases h1 : j < i
      · rw [if_pos (by omega), if_pos h1]
      · rw [if_neg (by omega), if_neg h1]
    | cons m a ih => simp only [List.cons_append, nxt]; rw [ih]
/-- The last place ahead, by what stands behind it. -/
theorem lastAt_pre {pre : List Nd} {c : List Nd} {i p : Nat} (hp : p < pre.length) {m : Nd} (hm : pre[p]? = some m) (hi : i < m.h) : lastAt (pre ++ c) i pre.length = p + 1 ↔ anyHigh (pre.drop (p + 1)) i = false := by
  have hh : high (pre ++ c) i (p + 1) := ⟨m, by rw [List.getElem?_append_left hp]; exact hm, hi⟩
  constructor
  · intro h
    cases ha : anyHigh (pre.drop (p + 1)) i with
    | false => rfl
    | true =>
      exfalso
      unfold anyHigh at ha
      obtain ⟨n, hn, hni⟩ := List.any_eq_true.1 ha
      obtain ⟨k, hk⟩ := List.getElem?_of_mem hn
      rw [List.getElem?_drop] at hk
      have hkl : p + 1 + k < pre.length := (List.getElem?_eq_some_iff.1 hk).1
      have key : ∀ q, p + 1 + k < q → q ≤ pre.length → p + 1 + k + 1 ≤ lastAt (pre ++ c) i q := by
        intro q
        induction q with
        | zero => intro h1; omega
        | succ q ih =>
          intro h1 h2
          simp only [lastAt]
          by_cases hq : q = p + 1 + k
          · subst hq
            rw [List.getElem?_append_left hkl, hk]
            simp only
            rw [if_pos (of_decide_eq_true hni)]
            exact Nat.le_refl _
          · have h3 := ih (by omega) (by omega)
            split
            · split
              · omega
              · exact h3
            · exact h3
      have := key pre.length hkl (Nat.le_refl _)
      omega
  · intro h
    refine lastAt_eq hh (by omega) (fun q n h1 h2 h3 => ?_)
    rw [List.getElem?_append_left h2] at h3
    unfold anyHigh at h
    have hmem : n ∈ pre.drop (p + 1) := List.mem_of_getElem? (i := q - (p + 1)) (by rw [List.getElem?_drop, show p + 1 + (q - (p + 1)) = q by omega]; exact h3)
    have := List.any_eq_false.1 h n hmem
    simpa using this
theorem lastAt_zero {pre c : List Nd} {i : Nat} : lastAt (pre ++ c) i pre.length = 0 ↔ anyHigh pre i = false := by
  constructor
  · intro h
    cases ha : anyHigh pre i with
    | false => rfl
    | true =>
      exfalso
      unfold anyHigh at ha
      obtain ⟨n, hn, hni⟩ := List.any_eq_true.1 ha
      obtain ⟨k, hk⟩ := List.getElem?_of_mem hn
      have hkl : k < pre.length := (List.getElem?_eq_some_iff.1 hk).1
      have key : ∀ q, k < q → q ≤ pre.length → k + 1 ≤ lastAt (pre ++ c) i q := by
        intro q
        induction q with
        | zero => intro h1; omega
        | succ q ih =>
          intro h1 h2
          simp only [lastAt]
          by_cases hq : q = k
          · subst hq
            rw [List.getElem?_append_left hkl, hk]
            simp only
            rw [if_pos (of_decide_eq_true hni)]
            exact Nat.le_refl _
          · have h3 := ih (by omega) (by omega)
            split
            · split
              · omega
              · exact h3
            · exact h3
      have := key pre.length hkl (Nat.le_refl _)
      omega
  · intro h
    refine lastAt_eq (q := 0) trivial (Nat.zero_le _) (fun q n _ h2 h3 => ?_)
    rw [List.getElem?_append_left h2] at h3
    unfold anyHigh at h
    have := List.any_eq_false.1 h n (List.mem_of_getElem? h3)
    simpa using this
end Go.Proofs.Ytjiphmeoofeepaa
