/- The document's groups, first and keep over plain lists; no walk. -/
import Derived.Test.YtgdggeacjfhkkaaM0
namespace Go.Proofs.Ytgdggeacjfhkkaa.Mg
open Go.Proofs.Ytgdggeacjfhkkaa
open Go.Proofs.Ytgdggeacjfhkkaa.Sk (Ent)

/-- One more that is not together with the last one. -/
theorem parts_new {α : Type} {p : α → α → Bool} : ∀ (l : List α) (x : α), (∀ y, l.getLast? = some y → p y x = false) → parts p (l ++ [x]) = parts p l ++ [[x]]
  | [], _, _ => rfl
  | [a], x, h => by
    show parts p (a :: x :: []) = _
    rw [parts_no (h a rfl)]
    rfl
  | a :: b :: l, x, h => by
    have ih := parts_new (p := p) (b :: l) x (fun y hy => h y (by rw [List.getLast?_cons_cons]; exact hy))
    obtain ⟨g, gs, h0⟩ := parts_ne p b l
    cases hp : p a b with
    | true =>
      rw [h0, List.cons_append] at ih
      rw [List.cons_append, List.cons_append] at *
      rw [parts_yes ih hp, parts_yes h0 hp]
      rfl
    | false =>
      rw [List.cons_append, List.cons_append] at *
      rw [parts_no hp, parts_no hp, ih]
      rfl
/-- One more that is. -/
theorem parts_grow {α : Type} {p : α → α → Bool} : ∀ (l : List α) (x y : α) (pre : List (List α)) (z : List α), l.getLast? = some y → p y x = true → parts p l = pre ++ [z] → parts p (l ++ [x]) = pre ++ [z ++ [x]]
  | [], _, _, _, _, h, _, _ => by cases h
  | [a], x, y, pre, z, h, hp, h1 => by
    have h : a = y := by simpa using h
    subst h
    rw [parts_one] at h1
    cases pre with
    | nil =>
      cases h1
      show parts p (a :: x :: []) = _
      rw [parts_yes (parts_one p x) hp]
      rfl
    | cons q pre => simp at h1
  | a :: b :: l, x, y, pre, z, h, hp, h1 => by
    have ih := parts_grow (p := p) (b :: l) x y
    rw [List.getLast?_cons_cons] at h
    obtain ⟨g, gs, h0⟩ := parts_ne p b l
    cases hq : p a b with
    | true =>
      rw [parts_yes h0 hq] at h1
      cases pre with
      | nil =>
        rw [List.nil_append, List.cons.injEq] at h1
        obtain ⟨rfl, rfl⟩ := h1
        have h2 := ih [] (b :: g) h hp h0
        rw [List.nil_append, List.cons_append] at h2
        show parts p (a :: b :: (l ++ [x])) = _
        rw [parts_yes h2 hq]
        rfl
      | cons q pre =>
        rw [List.cons_append, List.cons.injEq] at h1
        obtain ⟨rfl, rfl⟩ := h1
        have h2 := ih ((b :: g) :: pre) z h hp h0
        rw [List.cons_append, List.cons_append] at h2
        show parts p (a :: b :: (l ++ [x])) = _
        rw [parts_yes h2 hq]
        rfl
    | false =>
      rw [parts_no hq] at h1
      cases pre with
      | nil =>
        rw [h0] at h1
        simp at h1
      | cons q pre =>
        rw [List.cons_append, List.cons.injEq] at h1
        obtain ⟨rfl, h1⟩ := h1
        have h2 := ih pre z h hp h1
        rw [List.cons_append] at h2
        show parts p (a :: b :: (l ++ [x])) = _
        rw [parts_no hq, h2]
        rfl
/-- The place of the first one that is not above s. -/
def fst (s : Int) : List Ent → Option Nat
  | [] => none
  | e :: l => if e.seq ≤ s then some 0 else (fst s l).map (· + 1)
/-- That place as the document tells it. -/
def fstI (s : Int) (g : List Ent) : Int := match fst s g with
  | some i => (i : Int)
  | none => -1
theorem fst_end (s : Int) : ∀ g : List Ent, (∀ (j : Nat) (x : Ent), g[j]? = some x → ¬ x.seq ≤ s) → fst s g = none
  | [], _ => rfl
  | e :: l, h => by
    rw [fst, if_neg (h 0 e rfl), fst_end s l (fun j x hx => h (j + 1) x hx)]
    rfl
theorem fst_at (s : Int) : ∀ (g : List Ent) (k : Nat) (e : Ent), g[k]? = some e → e.seq ≤ s → (∀ (j : Nat) (x : Ent), j < k → g[j]? = some x → ¬ x.seq ≤ s) → fst s g = some k
  | [], k, e, h, _, _ => by simp at h
  | a :: l, 0, e, h, h1, _ => by
    cases h
    rw [fst, if_pos h1]
  | a :: l, k + 1, e, h, h1, h2 => by
    rw [fst, if_neg (h2 0 a (by omega) rfl), fst_at s l k e h h1 (fun j x hj hx => h2 (j + 1) x (by omega) hx)]
    rfl
theorem fst_some (s : Int) : ∀ (g : List Ent) (k : Nat), fst s g = some k → ∃ e, g[k]? = some e ∧ g.find? (fun e => decide (e.seq ≤ s)) = some e
  | [], k, h => by cases h
  | a :: l, k, h => by
    rw [fst] at h
    by_cases ha : a.seq ≤ s
    · rw [if_pos ha] at h
      cases h
      exact ⟨a, rfl, by rw [List.find?_cons, decide_eq_true ha]⟩
    · rw [if_neg ha] at h
      cases hf : fst s l with
      | none => rw [hf] at h; cases h
      | some j =>
        rw [hf] at h
        cases h
        obtain ⟨e, h1, h2⟩ := fst_some s l j hf
        exact ⟨e, h1, by rw [List.find?_cons, decide_eq_false ha]; exact h2⟩
theorem fst_none (s : Int) : ∀ g : List Ent, fst s g = none → g.find? (fun e => decide (e.seq ≤ s)) = none
  | [], _ => rfl
  | a :: l, h => by
    rw [fst] at h
    by_cases ha : a.seq ≤ s
    · rw [if_pos ha] at h; cases h
    · rw [if_neg ha] at h
      cases hf : fst s l with
      | none => rw [List.find?_cons, decide_eq_false ha]; exact fst_none s l hf
      | some j => rw [hf] at h; cases h
/-- Those at the places that are told. -/
def pickF {α : Type} (f : Nat → Bool) : List α → List α
  | [] => []
  | e :: l => if f 0 then e :: pickF (fun i => f (i + 1)) l else pickF (fun i => f (i + 1)) l
theorem pick_snoc {α : Type} : ∀ (f : Nat → Bool) (l : List α) (x : α), pickF f (l ++ [x]) = pickF f l ++ (if f l.length then [x] else [])
  | f, [], x => by
    show (if f 0 then x :: pickF _ [] else pickF _ []) = [] ++ _
    rw [List.nil_append]
    rfl
  | f, a :: l, x => by
    rw [List.cons_append, pickF, pickF, pick_snoc (fun i => f (i + 1)) l x, List.length_cons]
    split <;> rfl
theorem pick_map {α β : Type} (h : α → β) : ∀ (f : Nat → Bool) (l : List α), (pickF f l).map h = pickF f (l.map h)
  | _, [] => rfl
  | f, a :: l => by
    rw [List.map_cons, pickF, pickF, ← pick_map h (fun i => f (i + 1)) l]
    split <;> rfl
theorem pick_len {α : Type} : ∀ (f : Nat → Bool) (l : List α), (pickF f l).length ≤ l.length
  | _, [] => Nat.le_refl _
  | f, a :: l => by
    have := pick_len (fun i => f (i + 1)) l
    rw [pickF, List.length_cons]
    split
    · rw [List.length_cons]; omega
    · omega
theorem pick_congr {α : Type} : ∀ (f f' : Nat → Bool) (l : List α), (∀ i, i < l.length → f i = f' i) → pickF f l = pickF f' l
  | _, _, [], _ => rfl
  | f, f', a :: l, h => by
    rw [pickF, pickF, h 0 (by simp), pick_congr (fun i => f (i + 1)) (fun i => f' (i + 1)) l (fun i hi => h (i + 1) (by simpa using hi))]
/-- Whether a place is kept, by the first one and by pins. -/
def keepF (b : Bool) (g : List Ent) (pins : List Int) (i : Nat) : Bool := (b && i == 0) || pins.any (fun p => fst p g == some i)
theorem asked_pick : ∀ (b : Bool) (g : List Ent) (pins : List Int), asked b g pins = pickF (keepF b g pins) g
  | _, [], _ => rfl
  | b, e :: l, pins => by
    have h0 : keepF b (e :: l) pins 0 = (b || pins.any (fun p => decide (e.seq ≤ p))) := by
      unfold keepF
      congr 1
      · simp
      · congr 1
        funext p
        rw [fst]
        by_cases hp : e.seq ≤ p
        · rw [if_pos hp, decide_eq_true hp]; rfl
        · rw [if_neg hp, decide_eq_false hp]
          cases fst p l <;> rfl
    have h1 : (fun i => keepF b (e :: l) pins (i + 1)) = keepF false l (pins.filter fun p => decide (p < e.seq)) := by
      funext i
      unfold keepF
      rw [List.any_filter]
      have e1 : (b && (i + 1 == 0)) = (false && (i == 0)) := by simp
      rw [e1]
      congr 1
      congr 1
      funext p
      rw [fst]
      by_cases hp : e.seq ≤ p
      · rw [if_pos hp, decide_eq_false (by omega)]; rfl
      · rw [if_neg hp, decide_eq_true (by omega)]
        cases fst p l with
        | none => rfl
        | some j =>
          rw [Bool.true_and, Bool.eq_iff_iff]
          simp
    rw [asked, pickF, h0, h1, ← asked_pick false l]
theorem keepF_more {b : Bool} {g : List Ent} {pins : List Int} {k : Nat} {p : Int} (h : pins[k]? = some p) (i : Nat) : keepF b g (pins.take (k + 1)) i = (keepF b g (pins.take k) i || (fst p g == some i)) := by
  unfold keepF
  rw [List.take_add_one, h, List.any_append, Bool.or_assoc]
  simp
end Go.Proofs.Ytgdggeacjfhkkaa.Mg
