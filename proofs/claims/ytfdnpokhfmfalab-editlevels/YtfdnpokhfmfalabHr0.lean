/- EditLevels over plain lists; no walk. -/
import Derived.Test.YtfdnpokhfmfalabHg
import Derived.Test.YtfdnpokhfmfalabHa
namespace Go.Proofs.Ytfdnpokhfmfalab.Ed
/-- The notes of the levels below one. -/
def upTo (l : List Nt) (k : Int) : List Nt := l.filter fun m => decide (m.level < k)
theorem upTo_succ (k : Int) : ∀ {l : List Nt}, l.Pairwise (fun a b => a.level ≤ b.level) → upTo l (k + 1) = upTo l k ++ level l k
  | [], _ => rfl
  | a :: t, h => by
    obtain ⟨h1, h2⟩ := List.pairwise_cons.1 h
    have ih := upTo_succ k h2
    unfold upTo level at ih ⊢
    rcases Int.lt_trichotomy a.level k with hl | hl | hl
    · rw [List.filter_cons_of_pos (by simp; omega), List.filter_cons_of_pos (by simp; omega), List.filter_cons_of_neg (by simp; omega), ih]
      rfl
    · have e : t.filter (fun m => decide (m.level < k)) = [] := by
        rw [List.filter_eq_nil_iff]
        intro m hm
        have := h1 m hm
        simp
        omega
      rw [e] at ih
      rw [List.filter_cons_of_pos (by simp; omega), List.filter_cons_of_neg (by simp; omega), List.filter_cons_of_pos (by simp; omega), ih, e]
      rfl
    · have e1 : t.filter (fun m => decide (m.level < k)) = [] := by
        rw [List.filter_eq_nil_iff]
        intro m hm
        have := h1 m hm
        simp
        omega
      rw [e1] at ih
      rw [List.filter_cons_of_neg (by simp; omega), List.filter_cons_of_neg (by simp; omega), List.filter_cons_of_neg (by simp; omega), ih, e1]
theorem notes_levels {l : List Nt} {next : Int} (h : notesOk l next = true) : l.Pairwise (fun a b => a.level ≤ b.level) := by
  have hs := notes_strict h
  rw [List.pairwise_iff_getElem] at hs ⊢
  intro i j hi hj hij
  have := hs i j hi hj hij
  rw [ahead_iff] at this
  rcases this with h | ⟨h, _⟩ <;> omega
theorem may_level {m : Nt} (h : mayBe m = true) : 0 ≤ m.level ∧ m.level ≤ 3 := by
  unfold mayBe at h
  simp only [Bool.and_eq_true, decide_eq_true_eq] at h
  exact ⟨h.1.1.1.1.1.1.2, h.1.1.1.1.1.2⟩
theorem upTo_zero {l : List Nt} {next : Int} (h : notesOk l next = true) : upTo l 0 = [] := by
  unfold upTo
  rw [List.filter_eq_nil_iff]
  intro m hm
  have := may_level (notes_may h hm).1
  simp
  omega
theorem upTo_four {l : List Nt} {next : Int} (h : notesOk l next = true) : upTo l 4 = l := by
  unfold upTo
  rw [List.filter_eq_self]
  intro m hm
  have := may_level (notes_may h hm).1
  simp
  omega
theorem level_out {l : List Nt} {next : Int} (h : notesOk l next = true) {z : Int} (hz : z < 0 ∨ 3 < z) : level l z = [] := by
  unfold level
  rw [List.filter_eq_nil_iff]
  intro m hm
  have := may_level (notes_may h hm).1
  simp
  omega
end Go.Proofs.Ytfdnpokhfmfalab.Ed
