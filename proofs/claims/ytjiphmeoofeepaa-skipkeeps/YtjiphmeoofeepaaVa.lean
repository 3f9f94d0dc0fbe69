/- An entry among others in order, over plain lists; two lists in order of the same entries; no walk. -/
import Derived.Test.YtjiphmeoofeepaaSa
namespace Go.Proofs.Ytjiphmeoofeepaa.Sk
open Go.Proofs.Ytjiphmeoofeepaa

theorem goes_goes {a b c : Ent} (h : Goes a b) (h2 : Goes b c) : Goes a c := goes_trans h h2
theorem goes_total (a b : Ent) : Goes a b ∨ Goes b a ∨ (a.key = b.key ∧ a.seq = b.seq) := by
  unfold Goes aheadOf
  by_cases h : a.key = b.key
  · rw [if_pos h, if_pos h.symm]
    simp only [decide_eq_true_eq]
    rcases Int.lt_trichotomy a.seq b.seq with h1 | h1 | h1
    · exact .inr (.inl h1)
    · exact .inr (.inr ⟨h, h1⟩)
    · exact .inl h1
  · rw [if_neg h, if_neg (fun e => h e.symm)]
    cases h1 : less a.key b.key with
    | true => exact .inl rfl
    | false =>
      cases h2 : less b.key a.key with
      | true => exact .inr (.inl rfl)
      | false => exact absurd (less_total h1 h2) h
theorem goes_ne {a b : Ent} (h : Goes a b) : ¬ (a.key = b.key ∧ a.seq = b.seq) := fun ⟨h1, h2⟩ => by
  unfold Goes aheadOf at h
  rw [if_pos h1] at h
  simp only [decide_eq_true_eq] at h
  omega
theorem up_pair : ∀ {l : List Ent}, Up l ↔ l.Pairwise Goes
  | [] => by simp [Up]
  | a :: l => by rw [List.pairwise_cons, ← up_pair (l := l)]; rfl
/-- Where it stands. -/
def at_ (l : List Ent) (e : Ent) : Nat := count (aheadOf e.key e.seq) l
/-- Is one of that key and number there? -/
def there (l : List Ent) (e : Ent) : Bool := l.any fun x => decide (x.key = e.key ∧ x.seq = e.seq)
def ins (l : List Ent) (e : Ent) : List Ent := l.take (at_ l e) ++ e :: l.drop (at_ l e)
theorem at_cut {l : List Ent} (h : Up l) (e : Ent) : Cut (aheadOf e.key e.seq) l (at_ l e) := cut_count (ahead_down e.key e.seq) h
/-- If it is there, it stands at its place. -/
theorem there_at {l : List Ent} (h : Up l) (e : Ent) : there l e = true ↔ ∃ x, l[at_ l e]? = some x ∧ x.key = e.key ∧ x.seq = e.seq := by
  obtain ⟨hk, hc⟩ := at_cut h e
  constructor
  · intro ht
    obtain ⟨x, hx, he⟩ := List.any_eq_true.1 ht
    obtain ⟨h1, h2⟩ := of_decide_eq_true he
    obtain ⟨i, hi⟩ := List.getElem?_of_mem hx
    have hna : ¬ aheadOf e.key e.seq x = true := by
      unfold aheadOf
      rw [if_pos h1, h2]
      simp
    have hge : ¬ i < at_ l e := fun hl => hna ((hc i x hi).2 hl)
    rcases Nat.lt_or_ge (at_ l e) i with h3 | h3
    · have hil := (List.getElem?_eq_some_iff.1 hi).1
      obtain ⟨y, hy⟩ : ∃ y, l[at_ l e]? = some y := ⟨l[at_ l e]'(by omega), List.getElem?_eq_getElem _⟩
      have hp := List.pairwise_iff_getElem.1 (up_pair.1 h) (at_ l e) i (by omega) hil h3
      have e1 : l[at_ l e]'(by omega) = y := (List.getElem?_eq_some_iff.1 hy).2
      have e2 : l[i]'hil = x := (List.getElem?_eq_some_iff.1 hi).2
      rw [e1, e2] at hp
      have hya : aheadOf e.key e.seq y = true := by
        unfold Goes at hp
        rw [h1, h2] at hp
        exact hp
      have := (hc _ y hy).1 hya
      omega
    · have : i = at_ l e := by omega
      subst this
      exact ⟨x, hi, h1, h2⟩
  · rintro ⟨x, hx, h1, h2⟩
    exact List.any_eq_true.2 ⟨x, List.mem_of_getElem? hx, decide_eq_true ⟨h1, h2⟩⟩
theorem ins_up {l : List Ent} (h : Up l) {e : Ent} (hn : there l e = false) : Up (ins l e) := by
  obtain ⟨hk, hc⟩ := at_cut h e
  have hp := up_pair.1 h
  rw [up_pair]
  unfold ins
  have hsplit : l.take (at_ l e) ++ l.drop (at_ l e) = l := List.take_append_drop _ _
  rw [← hsplit, List.pairwise_append] at hp
  obtain ⟨p1, p2, p3⟩ := hp
  have hf : ∀ x ∈ l.take (at_ l e), Goes x e := fun x hx => by
    obtain ⟨i, hi⟩ := List.getElem?_of_mem hx
    rw [List.getElem?_take] at hi
    split at hi
    · rename_i h1; exact (hc i x hi).2 h1
    · cases hi
  have hb : ∀ x ∈ l.drop (at_ l e), Goes e x := fun x hx => by
    obtain ⟨i, hi⟩ := List.getElem?_of_mem hx
    rw [List.getElem?_drop] at hi
    have hna : ¬ Goes x e := fun hg => by have := (hc _ x hi).1 hg; omega
    rcases goes_total e x with h1 | h1 | ⟨h1, h2⟩
    · exact h1
    · exact absurd h1 hna
    · have := List.any_eq_false.1 hn x (List.mem_of_getElem? hi)
      exact absurd (decide_eq_true ⟨h1.symm, h2.symm⟩) this
  rw [List.pairwise_append]
  refine ⟨p1, List.pairwise_cons.2 ⟨hb, p2⟩, fun a ha c hc' => ?_⟩
  rcases List.mem_cons.1 hc' with rfl | hc'
  · exact hf a ha
  · exact p3 a ha c hc'
theorem mem_ins (l : List Ent) (e x : Ent) : x ∈ ins l e ↔ x = e ∨ x ∈ l := by
  unfold ins
  rw [List.mem_append, List.mem_cons]
  have : x ∈ l ↔ x ∈ l.take (at_ l e) ∨ x ∈ l.drop (at_ l e) := by
    conv => lhs; rw [← List.take_append_drop (at_ l e) l]
    exact List.mem_append
  rw [this]
  constructor
  · rintro (h | h | h)
    · exact .inr (.inl h)
    · exact .inl h
    · exact .inr (.inr h)
  · rintro (h | h | h)
    · exact .inr (.inl h)
    · exact .inl h
    · exact .inr (.inr h)
theorem ins_length (l : List Ent) (e : Ent) : (ins l e).length = l.length + 1 := by
  unfold ins
  rw [List.length_append, List.length_cons, List.length_take, List.length_drop]
  omega
theorem up_ext : ∀ {l m : List Ent}, Up l → Up m → (∀ x, x ∈ l ↔ x ∈ m) → l = m
  | [], [], _, _, _ => rfl
  | [], b :: m, _, _, h => absurd ((h b).2 List.mem_cons_self) (by simp)
  | a :: l, [], _, _, h => absurd ((h a).1 List.mem_cons_self) (by simp)
  | a :: l, b :: m, h1, h2, h => by
    have hab : a = b := by
      rcases List.mem_cons.1 ((h a).1 List.mem_cons_self) with e | e
      · exact e
      · rcases List.mem_cons.1 ((h b).2 List.mem_cons_self) with e' | e'
        · exact e'.symm
        · exact absurd (goes_goes (h1.1 b e') (h2.1 a e)) (goes_irrefl a)
    subst hab
    rw [up_ext h1.2 h2.2 (fun x => ⟨fun hx => ?_, fun hx => ?_⟩)]
    · rcases List.mem_cons.1 ((h x).1 (List.mem_cons_of_mem _ hx)) with e | e
      · subst e; exact absurd (h1.1 x hx) (goes_irrefl x)
      · exact e
    · rcases List.mem_cons.1 ((h x).2 (List.mem_cons_of_mem _ hx)) with e | e
      · subst e; exact absurd (h2.1 x hx) (goes_irrefl x)
      · exact e
/-- How many bytes they have, and 8 each. -/
def size : List Ent → Nat
  | [] => 0
  | a :: l => a.key.length + a.val.length + 8 + size l
theorem size_append (l m : List Ent) : size (l ++ m) = size l + size m := by
  induction l with
  | nil => simp [size]
  | cons a l ih => simp only [List.cons_append, size, ih]; omega
theorem size_ins (l : List Ent) (e : Ent) : size (ins l e) = size l + (e.key.length + e.val.length + 8) := by
  unfold ins
  rw [size_append]
  have : size l = size (l.take (at_ l e)) + size (l.drop (at_ l e)) := by rw [← size_append, List.take_append_drop]
  simp only [size]
  omega
end Go.Proofs.Ytjiphmeoofeepaa.Sk
