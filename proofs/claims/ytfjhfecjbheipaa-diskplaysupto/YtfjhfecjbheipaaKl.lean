/- Less, beginnings, what is next, over plain lists of bytes; no walk. -/
import Derived.Test.YtfjhfecjbheipaaL
namespace Go.Proofs.Ytfjhfecjbheipaa

/-- The first byte in which they are not alike is less in the first. -/
def less : List UInt8 → List UInt8 → Bool
  | _, [] => false
  | [], _ :: _ => true
  | a :: x, b :: y => decide (a < b) || (a == b && less x y)

theorem less_cons {a b : UInt8} {x y : List UInt8} : less (a :: x) (b :: y) = true ↔ a.toNat < b.toNat ∨ a = b ∧ less x y = true := by
  simp [less, UInt8.lt_iff_toNat_lt]
theorem less_irrefl : ∀ x : List UInt8, less x x = false
  | [] => rfl
  | a :: x => by
    rw [Bool.eq_false_iff]
    intro h
    rcases less_cons.1 h with h | ⟨_, h⟩
    · omega
    · rw [less_irrefl x] at h; cases h
theorem less_trans : ∀ {x y z : List UInt8}, less x y = true → less y z = true → less x z = true
  | _, [], _, h, _ => by simp [less] at h
  | _, _ :: _, [], _, h => by simp [less] at h
  | [], _ :: _, _ :: _, _, _ => rfl
  | a :: x, b :: y, c :: z, h1, h2 => by
    rcases less_cons.1 h1 with g1 | ⟨rfl, g1⟩
    · rcases less_cons.1 h2 with g2 | ⟨rfl, _⟩
      · exact less_cons.2 (.inl (by omega))
      · exact less_cons.2 (.inl g1)
    · rcases less_cons.1 h2 with g2 | ⟨rfl, g2⟩
      · exact less_cons.2 (.inl g2)
      · exact less_cons.2 (.inr ⟨rfl, less_trans g1 g2⟩)
theorem less_asymm {x y : List UInt8} (h : less x y = true) : less y x = false := by
  rw [Bool.eq_false_iff]
  intro h2
  have := less_trans h h2
  rw [less_irrefl] at this
  cases this
theorem less_total : ∀ {x y : List UInt8}, less x y = false → less y x = false → x = y
  | [], [], _, _ => rfl
  | [], _ :: _, h, _ => by simp [less] at h
  | _ :: _, [], _, h => by simp [less] at h
  | a :: x, b :: y, h1, h2 => by
    rw [Bool.eq_false_iff] at h1 h2
    have n1 : ¬ a.toNat < b.toNat := fun h => h1 (less_cons.2 (.inl h))
    have n2 : ¬ b.toNat < a.toNat := fun h => h2 (less_cons.2 (.inl h))
    have e : a = b := UInt8.toNat_inj.1 (by omega)
    subst e
    rw [less_total (x := x) (y := y) (by rw [Bool.eq_false_iff]; exact fun h => h1 (less_cons.2 (.inr ⟨rfl, h⟩))) (by rw [Bool.eq_false_iff]; exact fun h => h2 (less_cons.2 (.inr ⟨rfl, h⟩)))]
theorem less_or (x y : List UInt8) : (less x y || less y x) = !decide (x = y) := by
  by_cases h : x = y
  · subst h; simp [less_irrefl]
  · rw [decide_eq_false h]
    cases h1 : less x y with
    | true => rfl
    | false =>
      cases h2 : less y x with
      | true => rfl
      | false => exact absurd (less_total h1 h2) h
/-- Behind the same beginning. -/
theorem less_pre : ∀ (p x y : List UInt8), less (p ++ x) (p ++ y) = less x y
  | [], _, _ => rfl
  | c :: p, x, y => by simp [less, less_pre p x y]
theorem less_more (p : List UInt8) (c : UInt8) (t : List UInt8) : less p (p ++ c :: t) = true := by
  have := less_pre p [] (c :: t)
  rw [List.append_nil] at this
  rw [this]
  rfl
theorem less_begin (p t : List UInt8) : less (p ++ t) p = false := by
  have := less_pre p t []
  rw [List.append_nil] at this
  rw [this]
  cases t <;> rfl
/-- At the first byte that is not alike. -/
theorem less_at (p : List UInt8) {a b : UInt8} (x y : List UInt8) (h : a ≠ b) : less (p ++ a :: x) (p ++ b :: y) = decide (a < b) := by
  rw [less_pre]
  simp [less, h]

/-- What is next to all that begin with a prefix; nothing, if there is none. -/
def next : List UInt8 → List UInt8
  | [] => []
  | c :: t => if next t = [] then (if c = 255 then [] else [c + 1]) else c :: next t

theorem next_ff (k : Nat) : next (List.replicate k 255) = [] := by
  induction k with
  | zero => rfl
  | succ k ih => simp [List.replicate_succ, next, ih]
theorem next_last (c : UInt8) (k : Nat) (h : c ≠ 255) : next (c :: List.replicate k 255) = [c + 1] := by
  simp [next, next_ff, h]
theorem next_pre (q : List UInt8) (t : List UInt8) (h : next t ≠ []) : next (q ++ t) = q ++ next t := by
  induction q with
  | nil => rfl
  | cons c q ih =>
    have : next (q ++ t) ≠ [] := by rw [ih]; intro e; exact h (List.append_eq_nil_iff.1 e).2
    simp [next, this]
    exact ih
/-- A prefix without the bytes 255 at its end, its last byte one more. -/
theorem next_shape (q : List UInt8) (c : UInt8) (k : Nat) (h : c ≠ 255) : next (q ++ c :: List.replicate k 255) = q ++ [c + 1] := by
  rw [next_pre q _ (by rw [next_last c k h]; simp), next_last c k h]
theorem next_nil : ∀ {p : List UInt8}, next p = [] → p = List.replicate p.length 255
  | [], _ => rfl
  | c :: t, h => by
    simp only [next] at h
    split at h
    · rename_i ht
      split at h
      · rename_i hc
        rw [List.length_cons, List.replicate_succ, ← next_nil ht, hc]
      · simp at h
    · simp at h
theorem succ_toNat {c : UInt8} (h : c ≠ 255) : (c + 1).toNat = c.toNat + 1 := by
  have h1 := c.toNat_lt
  have h2 : c.toNat ≠ 255 := fun e => h (UInt8.toNat_inj.1 (by rw [e]; rfl))
  rw [UInt8.toNat_add]
  have e : (1 : UInt8).toNat = 1 := rfl
  rw [e]
  omega
/-- What is not less than a prefix, and less than what is next, begins with it; and all that does is so. -/
theorem next_spec : ∀ (p k : List UInt8), (less k p = false ∧ (next p = [] ∨ less k (next p) = true)) ↔ p <+: k
  | [], k => by simp [less, next]
  | c :: t, [] => by simp [less]
  | c :: t, d :: s => by
    have ih := next_spec t s
    rw [List.cons_prefix_cons]
    rcases Nat.lt_trichotomy d.toNat c.toNat with h | h | h
    · have h1 : less (d :: s) (c :: t) = true := less_cons.2 (.inl h)
      have h2 : ¬ c = d := fun e => by rw [e] at h; omega
      simp [h1, h2]
    · have e : d = c := UInt8.toNat_inj.1 h
      subst e
      have h1 : less (d :: s) (d :: t) = less s t := by simp [less]
      rw [h1]
      by_cases hn : next t = []
      · have ih' : less s t = false ↔ t <+: s := by rw [← ih]; simp [hn]
        by_cases hc : d = 255
        · have e2 : next (d :: t) = [] := by simp [next, hn, hc]
          rw [e2]
          simp [ih']
        · have e2 : next (d :: t) = [d + 1] := by simp [next, hn, hc]
          have e3 : less (d :: s) [d + 1] = true := less_cons.2 (.inl (by rw [succ_toNat hc]; omega))
          rw [e2, e3]
          simp [ih']
      · have e2 : next (d :: t) = d :: next t := by simp [next, hn]
        have e3 : less (d :: s) (d :: next t) = less s (next t) := by simp [less]
        rw [e2, e3]
        have ih' : (less s t = false ∧ less s (next t) = true) ↔ t <+: s := by rw [← ih]; simp [hn]
        simpa using ih'
    · have h1 : less (d :: s) (c :: t) = false := by
        rw [Bool.eq_false_iff]
        intro e
        rcases less_cons.1 e with e | ⟨rfl, _⟩ <;> omega
      have h2 : ¬ c = d := fun e => by rw [e] at h; omega
      rw [h1]
      simp only [true_and, h2, false_and, iff_false]
      rintro (e | e)
      · simp only [next] at e
        split at e
        · split at e
          · rename_i hc
            have := d.toNat_lt
            rw [hc] at h
            have e5 : (255 : UInt8).toNat = 255 := rfl
            omega
          · simp at e
        · simp at e
      · simp only [next] at e
        split at e
        · split at e
          · simp [less] at e
          · rename_i hc
            rcases less_cons.1 e with e | ⟨_, e⟩
            · rw [succ_toNat hc] at e; omega
            · simp [less] at e
        · rcases less_cons.1 e with e | ⟨e, _⟩
          · omega
          · exact h2 e.symm
end Go.Proofs.Ytfjhfecjbheipaa
