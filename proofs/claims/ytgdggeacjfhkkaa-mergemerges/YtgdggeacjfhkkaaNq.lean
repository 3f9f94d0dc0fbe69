/- What the document's put does, over plain rows. -/
import Derived.Test.YtgdggeacjfhkkaaM0
namespace Go.Proofs.Ytgdggeacjfhkkaa
namespace Mg
open Sk (Ent Up Goes)

theorem Mrg.skip {D Y : List Ent} {e x : Ent} (h : Mrg D Y) (hx : x ∈ Y) (ha : alike x e = true) : Mrg (D ++ [e]) Y := h.congr fun f => by
  rw [List.find?_append]
  cases hD : D.find? (alike f) with
  | some z => rfl
  | none =>
    have h1 := h.find f
    rw [hD] at h1
    have h2 := List.find?_eq_none.1 h1 x hx
    have h3 : alike f e = false := by
      cases h4 : alike f e with
      | false => rfl
      | true => exact (h2 (alike_trans h4 (alike_comm ha))).elim
    rw [List.find?_cons, h3]
    rfl
theorem Mrg.ins {D A B : List Ent} {e : Ent} (h : Mrg D (A ++ B)) (hA : ∀ a ∈ A, Goes a e) (hB : ∀ b, B[0]? = some b → ahead b e = false ∧ alike b e = false) : Mrg (D ++ [e]) (A ++ e :: B) := by
  obtain ⟨uA, uB, uAB⟩ := up_append.1 h.up
  have hB' : ∀ b ∈ B, Goes e b := by
    cases B with
    | nil => intro b hb; cases hb
    | cons b0 B =>
      obtain ⟨h1, h2⟩ := hB b0 rfl
      have h3 : Goes e b0 := by
        rcases goes_cases e b0 with h3 | h3 | h3
        · exact h3
        · rw [alike_comm h3] at h2; cases h2
        · rw [goes_iff.1 h3] at h1; cases h1
      intro b hb
      rcases List.mem_cons.1 hb with rfl | hb
      · exact h3
      · exact goes_trans' h3 (uB.1 b hb)
  have hN : D.find? (alike e) = none := by
    rw [← h.find e]
    refine List.find?_eq_none.2 fun x hx ha => ?_
    rcases List.mem_append.1 hx with hx | hx
    · exact goes_not_alike (hA x hx) (alike_comm ha)
    · exact goes_not_alike (hB' x hx) ha
  refine ⟨up_append.2 ⟨uA, ⟨hB', uB⟩, fun a ha b hb => ?_⟩, fun x => ?_⟩
  · rcases List.mem_cons.1 hb with rfl | hb
    · exact hA a ha
    · exact uAB a ha b hb
  · have hm : x ∈ A ++ e :: B ↔ x = e ∨ x ∈ A ++ B := by
      simp only [List.mem_append, List.mem_cons]
      constructor
      · rintro (h1 | h1 | h1)
        · exact .inr (.inl h1)
        · exact .inl h1
        · exact .inr (.inr h1)
      · rintro (h1 | h1 | h1)
        · exact .inr (.inl h1)
        · exact .inl h1
        · exact .inr (.inr h1)
    rw [hm, h.mem x, List.find?_append]
    cases hD : D.find? (alike x) with
    | some z =>
      constructor
      · rintro (rfl | h1)
        · rw [hN] at hD; cases hD
        · exact h1
      · intro h1; exact .inr h1
    | none =>
      constructor
      · rintro (rfl | h1)
        · show List.find? _ _ = _
          rw [List.find?_cons, alike_refl]
        · cases h1
      · intro h1
        have h2 : [e].find? (alike x) = some x := h1
        exact .inl (List.mem_singleton.1 (List.mem_of_find?_eq_some h2))
end Mg
end Go.Proofs.Ytgdggeacjfhkkaa
