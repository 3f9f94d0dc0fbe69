/- Rows of entries as one, over plain lists: parts, what is merged, seen, kept, split; no walk. -/
import Derived.Test.YtgdggeacjfhkkaaSa
namespace Go.Proofs.Ytgdggeacjfhkkaa.Mg
open Go.Proofs.Ytgdggeacjfhkkaa
open Go.Proofs.Ytgdggeacjfhkkaa.Sk (Ent Goes Up aheadOf)

/-- A list's parts: as long as each is together with the one ahead of it. -/
def glue {α : Type} (p : α → α → Bool) (a : α) : List α → List (List α) → List (List α)
  | b :: _, g :: gs => if p a b then (a :: g) :: gs else [a] :: g :: gs
  | _, _ => [[a]]
def parts {α : Type} (p : α → α → Bool) : List α → List (List α)
  | [] => []
  | a :: l => glue p a l (parts p l)
theorem parts_one {α : Type} (p : α → α → Bool) (a : α) : parts p [a] = [[a]] := rfl
theorem parts_ne {α : Type} (p : α → α → Bool) : ∀ (a : α) (l : List α), ∃ g gs, parts p (a :: l) = (a :: g) :: gs
  | a, [] => ⟨[], [], rfl⟩
  | a, b :: l => by
    obtain ⟨g, gs, h⟩ := parts_ne p b l
    show ∃ g gs, glue p a (b :: l) (parts p (b :: l)) = (a :: g) :: gs
    rw [h]
    simp only [glue]
    split
    · exact ⟨b :: g, gs, rfl⟩
    · exact ⟨[], (b :: g) :: gs, rfl⟩
theorem parts_yes {α : Type} {p : α → α → Bool} {a b : α} {l : List α} {g : List α} {gs : List (List α)} (h : parts p (b :: l) = g :: gs) (hp : p a b = true) : parts p (a :: b :: l) = (a :: g) :: gs := by
  show glue p a (b :: l) (parts p (b :: l)) = _
  rw [h]; simp only [glue]; rw [if_pos hp]
theorem parts_no {α : Type} {p : α → α → Bool} {a b : α} {l : List α} (hp : p a b = false) : parts p (a :: b :: l) = [a] :: parts p (b :: l) := by
  obtain ⟨g, gs, h⟩ := parts_ne p b l
  show glue p a (b :: l) (parts p (b :: l)) = _
  rw [h]; simp only [glue]; rw [if_neg (by rw [hp]; decide)]
/-- The first n are together, and the next one is not: they are the first part. -/
theorem parts_take {α : Type} {p : α → α → Bool} : ∀ (n : Nat) (l : List α), n < l.length → (∀ j x y, j < n → l[j]? = some x → l[j + 1]? = some y → p x y = true) → (∀ x y, l[n]? = some x → l[n + 1]? = some y → p x y = false) →
    parts p l = l.take (n + 1) :: parts p (l.drop (n + 1))
  | _, [], h, _, _ => by simp at h
  | 0, [a], _, _, _ => rfl
  | 0, a :: b :: l, _, _, h2 => by rw [parts_no (h2 a b rfl rfl)]; rfl
  | n + 1, [a], h, _, _ => by simp at h
  | n + 1, a :: b :: l, h, h1, h2 => by
    have ih := parts_take (p := p) n (b :: l) (by simpa using h) (fun j x y hj hx hy => h1 (j + 1) x y (by omega) hx hy) (fun x y hx hy => h2 x y hx hy)
    rw [parts_yes ih (h1 0 a b (by omega) rfl rfl)]
    rfl
theorem parts_map {α β : Type} (f : α → β) (p : β → β → Bool) : ∀ l : List α, (parts (fun x y => p (f x) (f y)) l).map (List.map f) = parts p (l.map f)
  | [] => rfl
  | [a] => rfl
  | a :: b :: l => by
    have ih := parts_map f p (b :: l)
    obtain ⟨g, gs, h⟩ := parts_ne (fun x y => p (f x) (f y)) b l
    cases hp : p (f a) (f b) with
    | true =>
      rw [parts_yes h hp]
      rw [h] at ih
      simp only [List.map_cons] at ih ⊢
      rw [parts_yes ih.symm hp]
    | false =>
      rw [parts_no (p := fun x y => p (f x) (f y)) hp]
      simp only [List.map_cons] at ih ⊢
      rw [parts_no hp, ← ih]
      rfl
theorem parts_flat {α : Type} (p : α → α → Bool) : ∀ l : List α, (parts p l).flatten = l
  | [] => rfl
  | [a] => rfl
  | a :: b :: l => by
    have ih := parts_flat p (b :: l)
    obtain ⟨g, gs, h⟩ := parts_ne p b l
    rw [h] at ih
    cases hp : p a b with
    | true => rw [parts_yes h hp]; simp only [List.flatten_cons, List.cons_append] at ih ⊢; rw [ih]
    | false => rw [parts_no hp, h]; simp only [List.flatten_cons, List.cons_append, List.nil_append] at ih ⊢; rw [ih]
theorem parts_mem {α : Type} (p : α → α → Bool) : ∀ (l : List α) (g : List α), g ∈ parts p l → g ≠ []
  | [], g, h => by cases h
  | [a], g, h => by rw [parts_one] at h; rw [List.mem_singleton.1 h]; simp
  | a :: b :: l, g, h => by
    have ih := parts_mem p (b :: l)
    obtain ⟨g0, gs, h0⟩ := parts_ne p b l
    cases hp : p a b with
    | true =>
      rw [parts_yes h0 hp] at h
      rcases List.mem_cons.1 h with h | h
      · rw [h]; simp
      · exact ih g (by rw [h0]; exact List.mem_cons_of_mem _ h)
    | false =>
      rw [parts_no hp] at h
      rcases List.mem_cons.1 h with h | h
      · rw [h]; simp
      · exact ih g h
/-- Entries of one key. -/
def oneKey (a b : Ent) : Bool := decide (a.key = b.key)
/-- One goes ahead of the other. -/
def ahead (a b : Ent) : Bool := aheadOf b.key b.seq a
theorem goes_iff {a b : Ent} : Goes a b ↔ ahead a b = true := Iff.rfl
/-- Of one key and Seq. -/
def alike (a b : Ent) : Bool := decide (a.key = b.key) && decide (a.seq = b.seq)
theorem alike_iff {a b : Ent} : alike a b = true ↔ a.key = b.key ∧ a.seq = b.seq := by simp [alike]
theorem alike_refl (a : Ent) : alike a a = true := alike_iff.2 ⟨rfl, rfl⟩
theorem alike_comm {a b : Ent} (h : alike a b = true) : alike b a = true := alike_iff.2 ⟨(alike_iff.1 h).1.symm, (alike_iff.1 h).2.symm⟩
theorem alike_trans {a b c : Ent} (h : alike a b = true) (k : alike b c = true) : alike a c = true := alike_iff.2 ⟨(alike_iff.1 h).1.trans (alike_iff.1 k).1, (alike_iff.1 h).2.trans (alike_iff.1 k).2⟩
theorem alike_fun {a b : Ent} (h : alike a b = true) : alike a = alike b := by
  obtain ⟨h1, h2⟩ := alike_iff.1 h
  funext c
  unfold alike
  rw [h1, h2]
theorem goes_cases (a b : Ent) : Goes a b ∨ alike a b = true ∨ Goes b a := by
  unfold Goes aheadOf
  by_cases hk : a.key = b.key
  · rw [if_pos hk, if_pos hk.symm]
    rcases Int.lt_trichotomy a.seq b.seq with h | h | h
    · exact .inr (.inr (decide_eq_true h))
    · exact .inr (.inl (alike_iff.2 ⟨hk, h⟩))
    · exact .inl (decide_eq_true h)
  · rw [if_neg hk, if_neg (fun e => hk e.symm)]
    cases h1 : less a.key b.key with
    | true => exact .inl rfl
    | false =>
      cases h2 : less b.key a.key with
      | true => exact .inr (.inr rfl)
      | false => exact absurd (less_total h1 h2) hk
theorem goes_trans' {a b c : Ent} (h : Goes a b) (k : Goes b c) : Goes a c := Sk.goes_trans h k
theorem goes_not_alike {a b : Ent} (h : Goes a b) (k : alike a b = true) : False := by
  obtain ⟨h1, h2⟩ := alike_iff.1 k
  unfold Goes aheadOf at h
  rw [if_pos h1] at h
  have := of_decide_eq_true h
  omega
theorem goes_asymm {a b : Ent} (h : Goes a b) (k : Goes b a) : False := Sk.goes_irrefl a (goes_trans' h k)
theorem goes_alike {a b c : Ent} (h : Goes a b) (k : alike b c = true) : Goes a c := by
  obtain ⟨h1, h2⟩ := alike_iff.1 k
  unfold Goes at h ⊢
  rw [← h1, ← h2]
  exact h
theorem alike_goes {a b c : Ent} (k : alike a b = true) (h : Goes b c) : Goes a c := by
  obtain ⟨h1, h2⟩ := alike_iff.1 k
  unfold Goes aheadOf at h ⊢
  rw [h1, h2]
  exact h
theorem up_append {l m : List Ent} : Up (l ++ m) ↔ Up l ∧ Up m ∧ ∀ a ∈ l, ∀ b ∈ m, Goes a b := by
  induction l with
  | nil => simp [Up]
  | cons x l ih =>
    simp only [List.cons_append, Up, ih, List.mem_append, List.mem_cons]
    constructor
    · rintro ⟨h1, h2, h3, h4⟩
      exact ⟨⟨fun b hb => h1 b (.inl hb), h2⟩, h3, fun a ha b hb => by rcases ha with rfl | ha; exact h1 b (.inr hb); exact h4 a ha b hb⟩
    · rintro ⟨⟨h1, h2⟩, h3, h4⟩
      exact ⟨fun b hb => by rcases hb with hb | hb; exact h1 b hb; exact h4 x (.inl rfl) b hb, h2, h3, fun a ha b hb => h4 a (.inr ha) b hb⟩
/-- In a row one alone is of a key and Seq. -/
theorem up_find {l : List Ent} (h : Up l) {e x : Ent} (hx : x ∈ l) (ha : alike e x = true) : l.find? (alike e) = some x := by
  induction l with
  | nil => cases hx
  | cons y l ih =>
    rw [List.find?_cons]
    rcases List.mem_cons.1 hx with rfl | hx
    · rw [ha]
    · have hn : alike e y = false := by
        cases hy : alike e y with
        | false => rfl
        | true => exact (goes_not_alike (h.1 x hx) (alike_trans (alike_comm hy) ha)).elim
      rw [hn]
      exact ih h.2 hx
/-- m is all of L, in order, of those of one Key and Seq the first alone. -/
structure Mrg (L m : List Ent) : Prop where
  up : Up m
  mem : ∀ e, e ∈ m ↔ L.find? (alike e) = some e
theorem find_alike {L : List Ent} {e x : Ent} (h : L.find? (alike e) = some x) : alike e x = true ∧ x ∈ L ∧ L.find? (alike x) = some x := by
  have h1 := List.find?_some h
  refine ⟨h1, List.mem_of_find?_eq_some h, ?_⟩
  rw [← alike_fun h1]
  exact h
theorem Mrg.find {L m : List Ent} (h : Mrg L m) (e : Ent) : m.find? (alike e) = L.find? (alike e) := by
  cases hL : L.find? (alike e) with
  | some x =>
    obtain ⟨h1, _, h3⟩ := find_alike hL
    exact up_find h.up ((h.mem x).2 h3) h1
  | none =>
    rw [List.find?_eq_none]
    intro x hx ha
    have := List.mem_of_find?_eq_some ((h.mem x).1 hx)
    exact (List.find?_eq_none.1 hL x this) ha
theorem Mrg.congr {L L' m : List Ent} (h : Mrg L m) (he : ∀ e, L.find? (alike e) = L'.find? (alike e)) : Mrg L' m := ⟨h.up, fun e => by rw [h.mem e, he e]⟩
/-- Two rows of the same members are the same. -/
theorem up_ext : ∀ {l m : List Ent}, Up l → Up m → (∀ e, e ∈ l ↔ e ∈ m) → l = m
  | [], [], _, _, _ => rfl
  | [], b :: m, _, _, h => by have := (h b).2 (List.mem_cons_self ..); cases this
  | a :: l, [], _, _, h => by have := (h a).1 (List.mem_cons_self ..); cases this
  | a :: l, b :: m, hl, hm, h => by
    have hab : a = b := by
      rcases List.mem_cons.1 ((h a).1 (List.mem_cons_self ..)) with e | ha
      · exact e
      · rcases List.mem_cons.1 ((h b).2 (List.mem_cons_self ..)) with e | hb
        · exact e.symm
        · exact (goes_asymm (hl.1 b hb) (hm.1 a ha)).elim
    subst hab
    rw [up_ext hl.2 hm.2 (fun e => ?_)]
    constructor
    · intro he
      rcases List.mem_cons.1 ((h e).1 (List.mem_cons_of_mem _ he)) with e1 | h1
      · subst e1; exact (Sk.goes_irrefl _ (hl.1 _ he)).elim
      · exact h1
    · intro he
      rcases List.mem_cons.1 ((h e).2 (List.mem_cons_of_mem _ he)) with e1 | h1
      · subst e1; exact (Sk.goes_irrefl _ (hm.1 _ he)).elim
      · exact h1
theorem Mrg.uniq {L m m' : List Ent} (h : Mrg L m) (h' : Mrg L m') : m = m' := up_ext h.up h'.up (fun e => by rw [h.mem e, h'.mem e])
theorem Mrg.self {m : List Ent} (h : Up m) : Mrg m m := ⟨h, fun e => ⟨fun he => up_find h he (alike_refl e), fun he => List.mem_of_find?_eq_some he⟩⟩
theorem Mrg.nil : Mrg [] [] := Mrg.self trivial
theorem Mrg.join {A B f s m : List Ent} (hf : Mrg A f) (hs : Mrg B s) (h : Mrg (f ++ s) m) : Mrg (A ++ B) m := h.congr fun e => by rw [List.find?_append, List.find?_append, hf.find, hs.find]
/-- How far two rows have been made one: O so far, A and B behind it. -/
structure Two (f s O A B : List Ent) : Prop where
  fA : ∃ A0, f = A0 ++ A ∧ ∀ x ∈ A0, ∃ o ∈ O, alike o x = true
  sB : ∃ B0, s = B0 ++ B ∧ ∀ x ∈ B0, ∃ o ∈ O, alike o x = true
  up : Up O
  le : ∀ o ∈ O, ∀ x, x ∈ A ∨ x ∈ B → Goes o x ∨ alike o x = true
  fst : ∀ o ∈ O, (f ++ s).find? (alike o) = some o
theorem Two.start {f s : List Ent} : Two f s [] f s := ⟨⟨[], rfl, (fun _ h => by cases h)⟩, ⟨[], rfl, (fun _ h => by cases h)⟩, trivial, (fun _ h => by cases h), (fun _ h => by cases h)⟩
theorem Two.done {f s O : List Ent} (h : Two f s O [] []) : Mrg (f ++ s) O := by
  refine ⟨h.up, fun e => ⟨h.fst e, fun he => ?_⟩⟩
  obtain ⟨A0, e1, hA⟩ := h.fA
  obtain ⟨B0, e2, hB⟩ := h.sB
  rw [List.append_nil] at e1 e2
  have hm := List.mem_of_find?_eq_some he
  have : ∃ o ∈ O, alike o e = true := by
    rcases List.mem_append.1 hm with hm | hm
    · exact hA e (e1 ▸ hm)
    · exact hB e (e2 ▸ hm)
  obtain ⟨o, ho, hoe⟩ := this
  have h1 := h.fst o ho
  rw [alike_fun hoe, he] at h1
  cases h1
  exact ho
/-- Those that go behind the one that is taken. -/
def Least (e : Ent) (A B : List Ent) : Prop := ∀ x, x ∈ A ∨ x ∈ B → Goes e x ∨ alike e x = true
theorem Two.dropA {f s O A B : List Ent} {e o : Ent} (h : Two f s O (e :: A) B) (ho : o ∈ O) (hoe : alike o e = true) : Two f s O A B := by
  obtain ⟨A0, e1, hA⟩ := h.fA
  exact ⟨⟨A0 ++ [e], by rw [e1, List.append_assoc]; rfl, fun x hx => by
    rcases List.mem_append.1 hx with hx | hx
    · exact hA x hx
    · rw [List.mem_singleton.1 hx]; exact ⟨o, ho, hoe⟩⟩, h.sB, h.up, fun o ho x hx => h.le o ho x (by rcases hx with hx | hx; exact .inl (List.mem_cons_of_mem _ hx); exact .inr hx), h.fst⟩
theorem Two.dropB {f s O A B : List Ent} {e o : Ent} (h : Two f s O A (e :: B)) (ho : o ∈ O) (hoe : alike o e = true) : Two f s O A B := by
  obtain ⟨A0, e1, hA⟩ := h.sB
  exact ⟨h.fA, ⟨A0 ++ [e], by rw [e1, List.append_assoc]; rfl, fun x hx => by
    rcases List.mem_append.1 hx with hx | hx
    · exact hA x hx
    · rw [List.mem_singleton.1 hx]; exact ⟨o, ho, hoe⟩⟩, h.up, fun o ho x hx => h.le o ho x (by rcases hx with hx | hx; exact .inl hx; exact .inr (List.mem_cons_of_mem _ hx)), h.fst⟩
theorem more_of {O A0 : List Ent} (e : Ent) (hA : ∀ x ∈ A0, ∃ o ∈ O, alike o x = true) : ∀ x ∈ A0, ∃ o ∈ O ++ [e], alike o x = true := fun x hx => by
  obtain ⟨o, ho, h⟩ := hA x hx
  exact ⟨o, List.mem_append_left _ ho, h⟩
theorem snoc_of {O A0 : List Ent} (e : Ent) (hA : ∀ x ∈ A0, ∃ o ∈ O, alike o x = true) : ∀ x ∈ A0 ++ [e], ∃ o ∈ O ++ [e], alike o x = true := fun x hx => by
  rcases List.mem_append.1 hx with hx | hx
  · exact more_of e hA x hx
  · rw [List.mem_singleton.1 hx]
    exact ⟨e, List.mem_append_right _ (List.mem_singleton.2 rfl), alike_refl e⟩
theorem up_snoc {O : List Ent} {e : Ent} (h : Up O) (hG : ∀ o ∈ O, Goes o e) : Up (O ++ [e]) := up_append.2 ⟨h, ⟨(fun _ h => by cases h), trivial⟩, fun a ha b hb => by rw [List.mem_singleton.1 hb]; exact hG a ha⟩
theorem Two.putA {f s O A B : List Ent} {e : Ent} (h : Two f s O (e :: A) B) (hf : Up f) (hl : Least e A B) (hG : ∀ o ∈ O, Goes o e) : Two f s (O ++ [e]) A B := by
  obtain ⟨A0, e1, hA⟩ := h.fA
  obtain ⟨B0, e2, hB⟩ := h.sB
  refine ⟨⟨A0 ++ [e], by rw [e1, List.append_assoc]; rfl, snoc_of e hA⟩, ⟨B0, e2, more_of e hB⟩, up_snoc h.up hG, ?_, ?_⟩
  · intro o ho x hx
    rcases List.mem_append.1 ho with ho | ho
    · exact h.le o ho x (by rcases hx with hx | hx; exact .inl (List.mem_cons_of_mem _ hx); exact .inr hx)
    · rw [List.mem_singleton.1 ho]; exact hl x hx
  · intro o ho
    rcases List.mem_append.1 ho with ho | ho
    · exact h.fst o ho
    · rw [List.mem_singleton.1 ho, List.find?_append, up_find hf (by rw [e1]; exact List.mem_append_right _ (List.mem_cons_self ..)) (alike_refl e)]
      rfl
theorem Two.putB {f s O A B : List Ent} {e : Ent} (h : Two f s O A (e :: B)) (hs : Up s) (hl : ∀ x ∈ A, Goes e x) (hl2 : Least e A B) (hG : ∀ o ∈ O, Goes o e) : Two f s (O ++ [e]) A B := by
  obtain ⟨A0, e1, hA⟩ := h.fA
  obtain ⟨B0, e2, hB⟩ := h.sB
  refine ⟨⟨A0, e1, more_of e hA⟩, ⟨B0 ++ [e], by rw [e2, List.append_assoc]; rfl, snoc_of e hB⟩, up_snoc h.up hG, ?_, ?_⟩
  · intro o ho x hx
    rcases List.mem_append.1 ho with ho | ho
    · exact h.le o ho x (by rcases hx with hx | hx; exact .inl hx; exact .inr (List.mem_cons_of_mem _ hx))
    · rw [List.mem_singleton.1 ho]; exact hl2 x hx
  · intro o ho
    rcases List.mem_append.1 ho with ho | ho
    · exact h.fst o ho
    · rw [List.mem_singleton.1 ho, List.find?_append]
      have hn : f.find? (alike e) = none := by
        rw [List.find?_eq_none]
        intro x hx ha
        rw [e1] at hx
        rcases List.mem_append.1 hx with hx | hx
        · obtain ⟨o', ho', h'⟩ := hA x hx
          exact goes_not_alike (hG o' ho') (alike_trans h' (alike_comm ha))
        · exact goes_not_alike (hl x hx) ha
      rw [hn, up_find hs (by rw [e2]; exact List.mem_append_right _ (List.mem_cons_self ..)) (alike_refl e)]
      rfl
theorem up_drop_tail {l : List Ent} {e : Ent} {A : List Ent} {A0 : List Ent} (h : Up l) (he : l = A0 ++ (e :: A)) : ∀ x ∈ A, Goes e x := by
  rw [he] at h
  exact (up_append.1 h).2.1.1
/-- The first row's entry is taken. -/
theorem Two.leastA {f s O A B : List Ent} {e : Ent} (h : Two f s O (e :: A) B) (hf : Up f) (hs : Up s) (hb : ∀ b, B.head? = some b → ahead b e = false) : Least e A B := by
  obtain ⟨A0, e1, _⟩ := h.fA
  obtain ⟨B0, e2, _⟩ := h.sB
  intro x hx
  rcases hx with hx | hx
  · exact .inl (up_drop_tail hf e1 x hx)
  · cases B with
    | nil => cases hx
    | cons b B =>
      have h1 := hb b rfl
      have h2 : Goes e b ∨ alike e b = true := by
        rcases goes_cases e b with g | g | g
        · exact .inl g
        · exact .inr g
        · rw [goes_iff, h1] at g; cases g
      rcases List.mem_cons.1 hx with rfl | hx
      · exact h2
      · have h3 := up_drop_tail hs e2 x hx
        rcases h2 with h2 | h2
        · exact .inl (goes_trans' h2 h3)
        · exact .inl (alike_goes h2 h3)
theorem Two.leastB {f s O A B : List Ent} {e : Ent} (h : Two f s O A (e :: B)) (hf : Up f) (hs : Up s) (hb : ∀ a, A.head? = some a → ahead e a = true) : (∀ x ∈ A, Goes e x) ∧ Least e A B := by
  obtain ⟨A0, e1, _⟩ := h.fA
  obtain ⟨B0, e2, _⟩ := h.sB
  have h1 : ∀ x ∈ A, Goes e x := by
    intro x hx
    cases A with
    | nil => cases hx
    | cons a A =>
      have h2 : Goes e a := hb a rfl
      rcases List.mem_cons.1 hx with rfl | hx
      · exact h2
      · exact goes_trans' h2 (up_drop_tail hf e1 x hx)
  exact ⟨h1, fun x hx => by rcases hx with hx | hx; exact .inl (h1 x hx); exact .inl (up_drop_tail hs e2 x hx)⟩
/-- Held against the last one. -/
theorem Two.last {f s O A B : List Ent} {o e : Ent} (h : Two f s O A B) (hl : O.getLast? = some o) (he : e ∈ A ∨ e ∈ B) : (ahead o e = true → ∀ x ∈ O, Goes x e) ∧ (ahead o e = false → alike o e = true) := by
  have ho : o ∈ O := List.mem_of_getLast? hl
  obtain ⟨O', rfl⟩ : ∃ O', O = O' ++ [o] := by
    rcases List.eq_nil_or_concat O with h0 | ⟨O', z, h0⟩
    · rw [h0] at hl; cases hl
    · rw [List.concat_eq_append] at h0
      rw [h0, List.getLast?_concat] at hl
      cases hl
      exact ⟨O', h0⟩
  refine ⟨fun ha x hx => ?_, fun ha => ?_⟩
  · rcases List.mem_append.1 hx with hx | hx
    · exact goes_trans' ((up_append.1 h.up).2.2 x hx o (List.mem_singleton.2 rfl)) ha
    · rw [List.mem_singleton.1 hx]; exact ha
  · rcases h.le o ho e he with g | g
    · rw [goes_iff, ha] at g; cases g
    · exact g
/-- What is seen of one key's entries. -/
def seen (s : Int) (g : List Ent) : List Ent := match g.find? (fun e => decide (e.seq ≤ s)) with
  | some e => if e.gone then [] else [e]
  | none => []
/-- What is seen. -/
def vis (l : List Ent) (s : Int) : List Ent := ((parts oneKey l).map (seen s)).flatten
/-- Of one key's entries, those that somebody asks for. -/
def asked : Bool → List Ent → List Int → List Ent
  | _, [], _ => []
  | b, e :: l, pins => if b || pins.any (fun p => decide (e.seq ≤ p)) then e :: asked false l (pins.filter fun p => decide (p < e.seq)) else asked false l (pins.filter fun p => decide (p < e.seq))
/-- Without the last ones that are gone. -/
def strip (l : List Ent) : List Ent := (l.reverse.dropWhile (·.gone)).reverse
def kept (pins : List Int) (bottom : Bool) (g : List Ent) : List Ent := if bottom then strip (asked true g pins) else asked true g pins
def prune (l : List Ent) (pins : List Int) (bottom : Bool) : List Ent := ((parts oneKey l).map (kept pins bottom)).flatten
/-- One key's entries more. -/
def pack (most : Int) (out : List (List Ent)) (g : List Ent) : List (List Ent) := match out.getLast? with
  | none => [g]
  | some z => if most < (z.length : Int) + (g.length : Int) then out ++ [g] else out.dropLast ++ [z ++ g]
def split (l : List Ent) (most : Int) : List (List Ent) := (parts oneKey l).foldl (pack most) []
theorem asked_congr : ∀ (b : Bool) (l : List Ent) (p q : List Int), (∀ x, x ∈ p ↔ x ∈ q) → asked b l p = asked b l q
  | _, [], _, _, _ => rfl
  | b, e :: l, p, q, h => by
    have h1 : p.any (fun p => decide (e.seq ≤ p)) = q.any (fun p => decide (e.seq ≤ p)) := by
      rw [Bool.eq_iff_iff, List.any_eq_true, List.any_eq_true]
      exact ⟨fun ⟨x, hx, k⟩ => ⟨x, (h x).1 hx, k⟩, fun ⟨x, hx, k⟩ => ⟨x, (h x).2 hx, k⟩⟩
    have h2 := asked_congr false l (p.filter fun p => decide (p < e.seq)) (q.filter fun p => decide (p < e.seq)) (fun x => by simp only [List.mem_filter, h x])
    rw [asked, asked, h1, h2]
end Go.Proofs.Ytgdggeacjfhkkaa.Mg
