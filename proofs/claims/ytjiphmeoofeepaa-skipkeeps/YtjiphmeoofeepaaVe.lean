/- A node that Put raises level by level; what is then in memory; no walk. -/
import Derived.Test.YtjiphmeoofeepaaVd
namespace Go.Proofs.Ytjiphmeoofeepaa
open Go.RowKit
open Sk (Ent)

theorem Sk.size_le {l : List Ent} (h : ∀ e ∈ l, Sk.may e = true) : Sk.size l ≤ 1096 * l.length := by
  induction l with
  | nil => exact Nat.le_refl _
  | cons a l ih =>
    have h1 := ih (fun e he => h e (List.mem_cons_of_mem _ he))
    have h2 := h a List.mem_cons_self
    have h3 : a.key.length ≤ 64 ∧ a.val.length ≤ 1024 := by unfold Sk.may at h2; simp at h2; omega
    simp only [Sk.size, List.length_cons]
    omega
/-- Between two levels: the node stands in block g, k levels high; W is the world in which it was laid. -/
structure Rise (B : Nat) (W : World) (b : Nat) (pre post : List Nd) (g : Nat) (y : EV) (k : Nat) (wr : World) : Prop where
  chain : Chain wr b (pre ++ ⟨g, y, k⟩ :: post)
  lone : Lone b (pre ++ ⟨g, y, k⟩ :: post)
  own : ∀ n ∈ pre ++ (⟨g, y, k⟩ : Nd) :: post, OwnE B wr n.x
  tagB : ∃ c, wr.heap[b]? = some (.cells c 51 (0, 0))
  tagN : ∀ n ∈ pre ++ (⟨g, y, k⟩ : Nd) :: post, ∃ c, wr.heap[n.g]? = some (.cells c 49 (0, 0))
  kept : Kept (foot b (pre ++ ⟨g, y, k⟩ :: post)) W wr
  cnt : wr.cell? ⟨b, 16, none⟩ = W.cell? ⟨b, 16, none⟩
  siz : wr.cell? ⟨b, 17, none⟩ = W.cell? ⟨b, 17, none⟩
theorem foot_same {b : Nat} {pre post : List Nd} {g : Nat} {y : EV} {k j : Nat} {q : Nat} : foot b (pre ++ ⟨g, y, k⟩ :: post) q ↔ foot b (pre ++ ⟨g, y, j⟩ :: post) q := by
  have key : ∀ {k j : Nat}, foot b (pre ++ ⟨g, y, k⟩ :: post) q → foot b (pre ++ ⟨g, y, j⟩ :: post) q := fun {k j} h => by
    rcases h with h | ⟨n, hn, h⟩
    · exact .inl h
    · refine .inr ?_
      rcases List.mem_append.1 hn with h1 | h1
      · exact ⟨n, List.mem_append.2 (.inl h1), h⟩
      · rcases List.mem_cons.1 h1 with rfl | h1
        · exact ⟨⟨g, y, j⟩, by simp, h⟩
        · exact ⟨n, List.mem_append.2 (.inr (List.mem_cons_of_mem _ h1)), h⟩
  exact ⟨key, key⟩
theorem foot_old {b : Nat} {pre post : List Nd} {n : Nd} {q : Nat} (h : foot b (pre ++ post) q) : foot b (pre ++ n :: post) q := by
  rcases h with h | ⟨m, hm, h⟩
  · exact .inl h
  · refine .inr ⟨m, ?_, h⟩
    rcases List.mem_append.1 hm with h1 | h1
    · exact List.mem_append.2 (.inl h1)
    · exact List.mem_append.2 (.inr (List.mem_cons_of_mem _ h1))
section
variable {B : Nat} {W : World} {b : Nat} {pre post : List Nd} {g : Nat} {y : EV} {k : Nat} {wr : World}
theorem Rise.tag (h : Rise B W b pre post g y k wr) {q : Nat} (hq : foot b (pre ++ ⟨g, y, k⟩ :: post) q) : ∃ c t, wr.heap[q]? = some (.cells c t (0, 0)) ∧ t ≠ 5 := by
  rcases hq with rfl | ⟨n, hn, rfl⟩
  · obtain ⟨c, hc⟩ := h.tagB; exact ⟨c, _, hc, by decide⟩
  · obtain ⟨c, hc⟩ := h.tagN n hn; exact ⟨c, _, hc, by decide⟩
theorem Rise.mineF (_ : Rise B W b pre post g y k wr) : foot b (pre ++ ⟨g, y, k⟩ :: post) g := .inr ⟨⟨g, y, k⟩, by simp, rfl⟩
theorem Rise.frozen (h : Rise B W b pre post g y k wr) {q : Nat} (hq : foot b (pre ++ ⟨g, y, k⟩ :: post) q) (i : Nat) : wr.frozen? ⟨q, i, none⟩ = false := by
  obtain ⟨c, t, hc, _⟩ := h.tag hq
  simp [World.frozen?, hc]
/-- The two stores of one level. -/
theorem Rise.next (h : Rise B W b pre post g y k wr) (hk : k < 12) : Rise B W b pre post g y (k + 1) ((wr.setCell ⟨g, 4 + k, none⟩ (nxt post k)).setCell ⟨whose b pre post ⟨g, y, k⟩ k, 4 + k, none⟩ (ptr g)) := by
  obtain ⟨Wh, hWh⟩ : ∃ Wh, whose b pre post ⟨g, y, k⟩ k = Wh := ⟨_, rfl⟩
  have hfo : foot b (pre ++ ⟨g, y, k⟩ :: post) Wh := by rw [← hWh]; exact foot_old (whose_foot b pre post ⟨g, y, k⟩ k)
  have hne : Wh ≠ g := by rw [← hWh]; exact whose_ne h.lone
  have hnot : ∀ (q : Nat) (c : Array Value), wr.heap[q]? = some (.cells c 5 (0, 0)) → ((wr.setCell ⟨g, 4 + k, none⟩ (nxt post k)).setCell ⟨Wh, 4 + k, none⟩ (ptr g)).heap[q]? = wr.heap[q]? := fun q c hc => by
    have h1 : q ≠ g := fun e => by
      obtain ⟨c', t, h2, h3⟩ := h.tag h.mineF
      rw [e, h2] at hc
      cases hc
      exact h3 rfl
    have h4 : q ≠ Wh := fun e => by
      obtain ⟨c', t, h2, h3⟩ := h.tag hfo
      rw [e, h2] at hc
      cases hc
      exact h3 rfl
    rw [set_far _ _ h4, set_far _ _ h1]
  have hown : ∀ n ∈ pre ++ (⟨g, y, k⟩ : Nd) :: post, OwnE B ((wr.setCell ⟨g, 4 + k, none⟩ (nxt post k)).setCell ⟨Wh, 4 + k, none⟩ (ptr g)) n.x := fun n hn => (h.own n hn).keepB hnot
  have htag : ∀ (q : Nat) (c : Array Value) (t : TypeId), wr.heap[q]? = some (.cells c t (0, 0)) → ∃ c', ((wr.setCell ⟨g, 4 + k, none⟩ (nxt post k)).setCell ⟨Wh, 4 + k, none⟩ (ptr g)).heap[q]? = some (.cells c' t (0, 0)) := fun q c t hc => by
    have one : ∀ (X : World) (p i : Nat) (v : Value) (c : Array Value), X.heap[q]? = some (.cells c t (0, 0)) → ∃ c', (X.setCell ⟨p, i, none⟩ v).heap[q]? = some (.cells c' t (0, 0)) := fun X p i v c hX => by
      by_cases e : q = p
      · subst e; exact ⟨_, set_row hX i v⟩
      · exact ⟨c, (set_far i v e).trans hX⟩
    obtain ⟨c1, h1⟩ := one wr g (4 + k) (nxt post k) c hc
    exact one _ Wh (4 + k) (ptr g) c1 h1
  have back : ∀ n ∈ pre ++ (⟨g, y, k + 1⟩ : Nd) :: post, ∃ n' ∈ pre ++ (⟨g, y, k⟩ : Nd) :: post, n'.g = n.g ∧ n'.x = n.x := fun n hn => by
    rcases List.mem_append.1 hn with h1 | h1
    · exact ⟨n, List.mem_append.2 (.inl h1), rfl, rfl⟩
    · rcases List.mem_cons.1 h1 with rfl | h1
      · exact ⟨⟨g, y, k⟩, by simp, rfl, rfl⟩
      · exact ⟨n, List.mem_append.2 (.inr (List.mem_cons_of_mem _ h1)), rfl, rfl⟩
  have hcell : ∀ i, 16 ≤ i → ((wr.setCell ⟨g, 4 + k, none⟩ (nxt post k)).setCell ⟨Wh, 4 + k, none⟩ (ptr g)).cell? ⟨b, i, none⟩ = wr.cell? ⟨b, i, none⟩ := fun i hi => by
    rw [set_cell_far (by intro e; simp only [Addr.mk.injEq, and_true] at e; omega), set_cell_far (by intro e; simp only [Addr.mk.injEq, and_true] at e; omega)]
  have hch := h.chain.raise hk h.lone (fun m hm => by rw [hWh]; exact (hown m hm).held)
  rw [hWh] at hch ⊢
  refine ⟨hch, ⟨fun p q m m' hm hm' e => ?_, fun m hm => ?_⟩, fun n hn => ?_, ?_, fun n hn => ?_, ?_, (hcell 16 (Nat.le_refl _)).trans h.cnt, (hcell 17 (by omega)).trans h.siz⟩
  · have old : ∀ (p : Nat) (m : Nd), (pre ++ (⟨g, y, k + 1⟩ : Nd) :: post)[p]? = some m → ∃ m0, (pre ++ (⟨g, y, k⟩ : Nd) :: post)[p]? = some m0 ∧ m0.g = m.g := fun p m hm => by
      rcases Nat.lt_trichotomy p pre.length with h1 | h1 | h1
      · rw [List.getElem?_append_left h1] at hm; exact ⟨m, by rw [List.getElem?_append_left h1]; exact hm, rfl⟩
      · subst h1
        rw [at_new] at hm
        cases hm
        exact ⟨_, at_new, rfl⟩
      · rw [List.getElem?_append_right (by omega), show p - pre.length = (p - pre.length - 1) + 1 by omega, List.getElem?_cons_succ] at hm
        exact ⟨m, by rw [List.getElem?_append_right (by omega), show p - pre.length = (p - pre.length - 1) + 1 by omega, List.getElem?_cons_succ]; exact hm, rfl⟩
    obtain ⟨m0, h1, h2⟩ := old p m hm
    obtain ⟨m1, h3, h4⟩ := old q m' hm'
    exact h.lone.one p q m0 m1 h1 h3 (by rw [h2, h4]; exact e)
  · obtain ⟨n', h1, h2, _⟩ := back m hm
    rw [← h2]; exact h.lone.off n' h1
  · obtain ⟨n', h1, _, h3⟩ := back n hn
    rw [← h3]; exact hown n' h1
  · obtain ⟨c, hc⟩ := h.tagB; exact htag b c _ hc
  · obtain ⟨n', h1, h2, _⟩ := back n hn
    obtain ⟨c, hc⟩ := h.tagN n' h1
    rw [← h2]; exact htag _ c _ hc
  · have := (h.kept.setCell (p := ⟨g, 4 + k, none⟩) (.inl h.mineF) (nxt post k)).setCell (p := ⟨Wh, 4 + k, none⟩) (.inl hfo) (ptr g)
    exact this.wide (fun q _ hq => foot_same.1 hq)
end
end Go.Proofs.Ytjiphmeoofeepaa
