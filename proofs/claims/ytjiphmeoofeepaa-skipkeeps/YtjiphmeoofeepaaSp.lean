/- A node that is 0 high among the others turns nothing; no walk. -/
import Derived.Test.YtjiphmeoofeepaaSo
namespace Go.Proofs.Ytjiphmeoofeepaa
open Go.RowKit
open Sk (Ent)

theorem nxt_skip {n : Nd} (hn : n.h = 0) (j : Nat) (c : List Nd) : ∀ (a : List Nd), nxt (a ++ n :: c) j = nxt (a ++ c) j
  | [] => by simp only [List.nil_append, nxt]; rw [if_neg (by omega)]
  | m :: a => by simp only [List.cons_append, nxt]; rw [nxt_skip hn j c a]
/-- A node is laid, and nobody points to it. -/
theorem Chain.insert {w : World} {b : Nat} {pre post : List Nd} (h : Chain w b (pre ++ post)) {n : Nd} (hn : n.h = 0) (hl : ∀ j, j < 12 → w.cell? ⟨n.g, 4 + j, none⟩ = some (.pointer none)) (he : ∀ (j : Nat) u, (entKind.vals n.x)[j]? = some u → w.cell? ⟨n.g, j, none⟩ = some u) (hh : entKind.held w n.x) : Chain w b (pre ++ n :: post) := by
  refine ⟨fun j hj => by rw [nxt_skip hn]; exact h.head j hj, fun i m hm j hj => ?_, fun m hm => ?_⟩
  · rcases Nat.lt_or_ge i pre.length with h1 | h1
    · rw [List.getElem?_append_left h1] at hm
      have h2 := h.links i m (by rw [List.getElem?_append_left h1]; exact hm) j hj
      have e1 : (pre ++ n :: post).drop (i + 1) = pre.drop (i + 1) ++ n :: post := List.drop_append_of_le_length (by omega)
      have e2 : (pre ++ post).drop (i + 1) = pre.drop (i + 1) ++ post := List.drop_append_of_le_length (by omega)
      rw [e1, nxt_skip hn, ← e2]
      exact h2
    · rw [List.getElem?_append_right h1] at hm
      rcases Nat.eq_zero_or_pos (i - pre.length) with h2 | h2
      · rw [h2] at hm
        simp only [List.getElem?_cons_zero, Option.some.injEq] at hm
        subst hm
        rw [if_neg (by omega)]
        exact hl j hj
      · obtain ⟨k, hk⟩ : ∃ k, i - pre.length = k + 1 := ⟨i - pre.length - 1, by omega⟩
        rw [hk, List.getElem?_cons_succ] at hm
        have h3 := h.links (pre.length + k) m (by rw [List.getElem?_append_right (by omega), Nat.add_sub_cancel_left]; exact hm) j hj
        have e1 : (pre ++ n :: post).drop (i + 1) = post.drop (k + 1) := by
          rw [show i + 1 = pre.length + (k + 2) by omega, List.drop_append]
          rw [List.drop_of_length_le (by omega), Nat.add_sub_cancel_left]
          rfl
        have e2 : (pre ++ post).drop (pre.length + k + 1) = post.drop (k + 1) := by
          rw [show pre.length + k + 1 = pre.length + (k + 1) by omega, List.drop_append]
          rw [List.drop_of_length_le (by omega), Nat.add_sub_cancel_left]
          rfl
        rw [e1, ← e2]
        exact h3
  · rcases List.mem_append.1 hm with h1 | h1
    · exact h.ents m (List.mem_append.2 (.inl h1))
    · rcases List.mem_cons.1 h1 with rfl | h1
      · exact ⟨he, hh⟩
      · exact h.ents m (List.mem_append.2 (.inr h1))
end Go.Proofs.Ytjiphmeoofeepaa
