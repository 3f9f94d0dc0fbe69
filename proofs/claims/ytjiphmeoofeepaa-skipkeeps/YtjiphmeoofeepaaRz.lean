/- A node is raised by one level in memory: two stores; no walk. -/
import Derived.Test.YtjiphmeoofeepaaSq
namespace Go.Proofs.Ytjiphmeoofeepaa
open Go.RowKit
open Sk (Ent)

theorem set_cell_far {w : World} {p q : Addr} {v : Value} (h : p ≠ q) : (w.setCell p v).cell? q = w.cell? q := by
  exact World.cell?_setCell_other (h := h) ..
/-- No two nodes in one block, none in b. -/
structure Lone (b : Nat) (ns : List Nd) : Prop where
  one : ∀ (p q : Nat) m m', ns[p]? = some m → ns[q]? = some m' → m.g = m'.g → p = q
  off : ∀ m ∈ ns, m.g ≠ b
section
variable {w : World} {b g i : Nat} {x : EV} {pre post : List Nd}
theorem at_new : (pre ++ ⟨g, x, i⟩ :: post)[pre.length]? = some (⟨g, x, i⟩ : Nd) := by rw [List.getElem?_append_right (Nat.le_refl _), Nat.sub_self]; rfl
/-- The block that shall point to the node. -/
def whose (b : Nat) (pre post : List Nd) (n : Nd) (i : Nat) : Nat := blk b (pre ++ n :: post) (lastAt (pre ++ n :: post) i pre.length)
theorem whose_ne (hL : Lone b (pre ++ ⟨g, x, i⟩ :: post)) : whose b pre post ⟨g, x, i⟩ i ≠ g := by
  unfold whose
  have hle := lastAt_le (pre ++ (⟨g, x, i⟩ : Nd) :: post) i pre.length
  obtain ⟨q, hq⟩ : ∃ q, lastAt (pre ++ (⟨g, x, i⟩ : Nd) :: post) i pre.length = q := ⟨_, rfl⟩
  rw [hq] at hle ⊢
  cases q with
  | zero => exact fun e => hL.off ⟨g, x, i⟩ (by simp) e.symm
  | succ p =>
    obtain ⟨m, hm⟩ : ∃ m, (pre ++ (⟨g, x, i⟩ : Nd) :: post)[p]? = some m := ⟨_, List.getElem?_eq_getElem (by rw [List.length_append]; omega)⟩
    simp only [blk, hm]
    intro e
    have := hL.one p pre.length m _ hm at_new e
    omega
theorem Chain.raise (h : Chain w b (pre ++ ⟨g, x, i⟩ :: post)) (hi : i < 12) (hL : Lone b (pre ++ ⟨g, x, i⟩ :: post))
    (hh : ∀ m ∈ pre ++ (⟨g, x, i⟩ : Nd) :: post, entKind.held ((w.setCell ⟨g, 4 + i, none⟩ (nxt post i)).setCell ⟨whose b pre post ⟨g, x, i⟩ i, 4 + i, none⟩ (ptr g)) m.x) :
    Chain ((w.setCell ⟨g, 4 + i, none⟩ (nxt post i)).setCell ⟨whose b pre post ⟨g, x, i⟩ i, 4 + i, none⟩ (ptr g)) b (pre ++ ⟨g, x, i + 1⟩ :: post) := by
  have hne := whose_ne hL
  have hB : (w.cell? ⟨whose b pre post ⟨g, x, i⟩ i, 4 + i, none⟩).isSome = true := by
    unfold whose
    rw [h.at_ (lastAt_high _ _ _) hi]
    rfl
  have hG : (w.cell? ⟨g, 4 + i, none⟩).isSome = true := by rw [h.links pre.length _ at_new i hi]; rfl
  obtain ⟨B, hBe⟩ : ∃ B, whose b pre post ⟨g, x, i⟩ i = B := ⟨_, rfl⟩
  rw [hBe] at hne hB hh ⊢
  have other : ∀ (G j : Nat), ¬ (j = i ∧ (G = g ∨ G = B)) → ((w.setCell ⟨g, 4 + i, none⟩ (nxt post i)).setCell ⟨B, 4 + i, none⟩ (ptr g)).cell? ⟨G, 4 + j, none⟩ = w.cell? ⟨G, 4 + j, none⟩ := fun G j hj => by
    rw [set_cell_far (by intro e; simp only [Addr.mk.injEq, and_true] at e; exact hj ⟨by omega, .inr e.1.symm⟩), set_cell_far (by intro e; simp only [Addr.mk.injEq, and_true] at e; exact hj ⟨by omega, .inl e.1.symm⟩)]
  have atB : ((w.setCell ⟨g, 4 + i, none⟩ (nxt post i)).setCell ⟨B, 4 + i, none⟩ (ptr g)).cell? ⟨B, 4 + i, none⟩ = some (ptr g) := World.cell?_setCell_same' _ _ _ (by rw [set_cell_far (by intro e; simp only [Addr.mk.injEq, and_true] at e; exact hne e.symm)]; exact hB)
  have atG : ((w.setCell ⟨g, 4 + i, none⟩ (nxt post i)).setCell ⟨B, 4 + i, none⟩ (ptr g)).cell? ⟨g, 4 + i, none⟩ = some (nxt post i) := by
    rw [set_cell_far (by intro e; simp only [Addr.mk.injEq, and_true] at e; exact hne e)]
    exact World.cell?_setCell_same' _ _ _ hG
  have mine : ∀ (p : Nat) m, pre[p]? = some m → (pre ++ (⟨g, x, i⟩ : Nd) :: post)[p]? = some m := fun p m hm => by rw [List.getElem?_append_left (List.getElem?_eq_some_iff.1 hm).1]; exact hm
  refine ⟨fun j hj => ?_, fun p m hm j hj => ?_, fun m hm => ⟨fun j u hu => ?_, ?_⟩⟩
  · rw [nxt_raise]
    by_cases hc : j = i ∧ anyHigh pre i = false
    · rw [if_pos hc, hc.1]
      have : B = b := by rw [← hBe]; unfold whose; rw [lastAt_zero.2 hc.2]; rfl
      rw [← this]
      exact atB
    · rw [if_neg hc, other b j (fun e => ?_)]
      · exact h.head j hj
      · rcases e.2 with e2 | e2
        · exact hL.off ⟨g, x, i⟩ (by simp) e2.symm
        · have ha : ¬ lastAt (pre ++ (⟨g, x, i⟩ : Nd) :: post) i pre.length = 0 := fun e3 => hc ⟨e.1, lastAt_zero.1 e3⟩
          have hle := lastAt_le (pre ++ (⟨g, x, i⟩ : Nd) :: post) i pre.length
          obtain ⟨q, hq⟩ : ∃ q, lastAt (pre ++ (⟨g, x, i⟩ : Nd) :: post) i pre.length = q + 1 := ⟨_, (Nat.succ_pred_eq_of_ne_zero ha).symm⟩
          obtain ⟨m, hm⟩ : ∃ m, (pre ++ (⟨g, x, i⟩ : Nd) :: post)[q]? = some m := ⟨_, List.getElem?_eq_getElem (by rw [List.length_append]; omega)⟩
          have : B = m.g := by rw [← hBe]; unfold whose; rw [hq]; simp only [blk, hm]
          exact hL.off m (List.mem_of_getElem? hm) (by rw [← this]; exact e2.symm)
  · rcases Nat.lt_trichotomy p pre.length with h1 | h1 | h1
    · rw [List.getElem?_append_left h1] at hm
      have e1 : (pre ++ (⟨g, x, i + 1⟩ : Nd) :: post).drop (p + 1) = pre.drop (p + 1) ++ ⟨g, x, i + 1⟩ :: post := List.drop_append_of_le_length (by omega)
      have e2 : (pre ++ (⟨g, x, i⟩ : Nd) :: post).drop (p + 1) = pre.drop (p + 1) ++ ⟨g, x, i⟩ :: post := List.drop_append_of_le_length (by omega)
      have old := h.links p m (mine p m hm) j hj
      rw [e2] at old
      rw [e1, nxt_raise]
      by_cases hc : j = i ∧ anyHigh (pre.drop (p + 1)) i = false ∧ i < m.h
      · obtain ⟨rfl, hc2, hc3⟩ := hc
        rw [if_pos hc3, if_pos ⟨rfl, hc2⟩]
        have : B = m.g := by rw [← hBe]; unfold whose; rw [(lastAt_pre h1 hm hc3).2 hc2]; simp only [blk, mine p m hm]
        rw [← this]
        exact atB
      · have keep0 : ((w.setCell ⟨g, 4 + i, none⟩ (nxt post i)).setCell ⟨B, 4 + i, none⟩ (ptr g)).cell? ⟨m.g, 4 + j, none⟩ = w.cell? ⟨m.g, 4 + j, none⟩ := other m.g j (fun e => by
          rcases e.2 with e2 | e2
          · have := hL.one p pre.length m _ (mine p m hm) at_new e2
            omega
          · have hle := lastAt_le (pre ++ (⟨g, x, i⟩ : Nd) :: post) i pre.length
            have hhi := lastAt_high (pre ++ (⟨g, x, i⟩ : Nd) :: post) i pre.length
            obtain ⟨q, hq⟩ : ∃ q, lastAt (pre ++ (⟨g, x, i⟩ : Nd) :: post) i pre.length = q := ⟨_, rfl⟩
            have hBq : B = blk b (pre ++ (⟨g, x, i⟩ : Nd) :: post) q := by rw [← hBe]; unfold whose; rw [hq]
            rw [hq] at hhi hle
            cases q with
            | zero => exact hL.off m (List.mem_of_getElem? (mine p m hm)) (by rw [e2, hBq]; rfl)
            | succ q =>
              obtain ⟨k, hk1, hk2⟩ := hhi
              have : B = k.g := by rw [hBq]; simp only [blk, hk1]
              have hpq := hL.one p q m k (mine p m hm) hk1 (by rw [e2, this])
              subst hpq
              have hmk : m = k := by rw [mine p m hm] at hk1; exact Option.some.inj hk1
              subst hmk
              exact hc ⟨e.1, (lastAt_pre h1 hm hk2).1 hq, hk2⟩)
        rw [keep0, old]
        by_cases hm2 : j < m.h
        · rw [if_pos hm2, if_pos hm2, if_neg (fun e => hc ⟨e.1, e.2, by rw [← e.1]; exact hm2⟩)]
        · rw [if_neg hm2, if_neg hm2]
    · subst h1
      have hm' : m = ⟨g, x, i + 1⟩ := by rw [at_new] at hm; exact (Option.some.inj hm).symm
      subst hm'
      have e1 : ∀ n : Nd, (pre ++ n :: post).drop (pre.length + 1) = post := fun n => by
        rw [List.drop_append, List.drop_of_length_le (by omega), Nat.add_sub_cancel_left]
        rfl
      have old := h.links pre.length _ at_new j hj
      rw [e1] at old ⊢
      by_cases hj2 : j = i
      · subst hj2
        rw [if_pos (Nat.lt_succ_self _)]
        exact atG
      · rw [other g j (fun e => hj2 e.1), old]
        by_cases h3 : j < i
        · rw [if_pos h3, if_pos (by show j < i + 1; omega)]
        · rw [if_neg h3, if_neg (by show ¬ j < i + 1; omega)]
    · have hm' : (pre ++ (⟨g, x, i⟩ : Nd) :: post)[p]? = some m := by
        rw [List.getElem?_append_right (by omega)] at hm ⊢
        rw [show p - pre.length = (p - pre.length - 1) + 1 by omega] at hm ⊢
        simpa using hm
      have e1 : (pre ++ (⟨g, x, i + 1⟩ : Nd) :: post).drop (p + 1) = (pre ++ (⟨g, x, i⟩ : Nd) :: post).drop (p + 1) := by
        rw [List.drop_append, List.drop_append, show p + 1 - pre.length = (p - pre.length) + 1 by omega]
        rfl
      rw [e1, other m.g j (fun e => ?_)]
      · exact h.links p m hm' j hj
      · rcases e.2 with e2 | e2
        · have := hL.one p pre.length m _ hm' at_new e2
          omega
        · have hle := lastAt_le (pre ++ (⟨g, x, i⟩ : Nd) :: post) i pre.length
          obtain ⟨q, hq⟩ : ∃ q, lastAt (pre ++ (⟨g, x, i⟩ : Nd) :: post) i pre.length = q := ⟨_, rfl⟩
          have hBq : B = blk b (pre ++ (⟨g, x, i⟩ : Nd) :: post) q := by rw [← hBe]; unfold whose; rw [hq]
          rw [hq] at hle
          cases q with
          | zero => exact hL.off m (List.mem_of_getElem? hm') (by rw [e2, hBq]; rfl)
          | succ q =>
            obtain ⟨k, hk⟩ : ∃ k, (pre ++ (⟨g, x, i⟩ : Nd) :: post)[q]? = some k := ⟨_, List.getElem?_eq_getElem (by rw [List.length_append]; omega)⟩
            have : B = k.g := by rw [hBq]; simp only [blk, hk]
            have := hL.one p q m k hm' hk (by rw [e2, this])
            omega
  · have hm' : ∃ n ∈ pre ++ (⟨g, x, i⟩ : Nd) :: post, n.g = m.g ∧ n.x = m.x := by
      rcases List.mem_append.1 hm with h1 | h1
      · exact ⟨m, List.mem_append.2 (.inl h1), rfl, rfl⟩
      · rcases List.mem_cons.1 h1 with rfl | h1
        · exact ⟨⟨g, x, i⟩, by simp, rfl, rfl⟩
        · exact ⟨m, List.mem_append.2 (.inr (List.mem_cons.2 (.inr h1))), rfl, rfl⟩
    obtain ⟨n, hn, e1, e2⟩ := hm'
    have hj4 : j < 4 := (List.getElem?_eq_some_iff.1 hu).1
    rw [← e1] 
    rw [set_cell_far (by intro e; simp only [Addr.mk.injEq, and_true] at e; omega), set_cell_far (by intro e; simp only [Addr.mk.injEq, and_true] at e; omega)]
    exact (h.ents n hn).1 j u (by rw [e2]; exact hu)
  · rcases List.mem_append.1 hm with h1 | h1
    · exact hh m (List.mem_append.2 (.inl h1))
    · rcases List.mem_cons.1 h1 with rfl | h1
      · exact hh ⟨g, x, i⟩ (by simp)
      · exact hh m (List.mem_append.2 (.inr (List.mem_cons.2 (.inr h1))))
end
end Go.Proofs.Ytjiphmeoofeepaa
