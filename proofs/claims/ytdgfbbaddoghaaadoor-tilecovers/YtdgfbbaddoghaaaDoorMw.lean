/- Ways down a tree of leaves, as the program goes them, over plain lists; no walk. -/
import Derived.Test.YtdgfbbaddoghaaaDoorMu
namespace Go.Proofs.YtdgfbbaddoghaaaDoor.Mt

/-- What stands beside a way: from, to, ahead of it? -/
structure Sd where
  a : Nat
  b : Nat
  ah : Bool
/-- What stands beside the way down from a to b, to the leaf i, the lowest first; where the leaves begin at which it ends. -/
def wayF (E : Nat → Nat → Bool) (i : Nat) : Nat → Nat → Nat → List Sd × Nat
  | 0, a, _ => ([], a)
  | f + 1, a, b => if E a b = true ∨ b - a ≤ 1 then ([], a)
    else if i < a + cut (b - a) then ((wayF E i f a (a + cut (b - a))).1 ++ [⟨a + cut (b - a), b, false⟩], (wayF E i f a (a + cut (b - a))).2)
    else ((wayF E i f (a + cut (b - a)) b).1 ++ [⟨a, a + cut (b - a), true⟩], (wayF E i f (a + cut (b - a)) b).2)
theorem ways_lt {a b f : Nat} (h : ¬ b - a ≤ 1) (hf : b - a ≤ f + 1) : a + cut (b - a) - a ≤ f ∧ b - (a + cut (b - a)) ≤ f := by
  have h1 := cut_lt (n := b - a) (by omega)
  have h2 := cut_pos (b - a)
  omega
theorem wayF_eq (E : Nat → Nat → Bool) (i : Nat) : ∀ (f g a b : Nat), b - a ≤ f → b - a ≤ g → wayF E i f a b = wayF E i g a b
  | 0, 0, _, _, _, _ => rfl
  | 0, g + 1, a, b, hf, _ => by
    show _ = (if E a b = true ∨ b - a ≤ 1 then _ else _)
    rw [if_pos (.inr (by omega))]
    rfl
  | f + 1, 0, a, b, _, hg => by
    show (if E a b = true ∨ b - a ≤ 1 then _ else _) = _
    rw [if_pos (.inr (by omega))]
    rfl
  | f + 1, g + 1, a, b, hf, hg => by
    show (if E a b = true ∨ b - a ≤ 1 then _ else _) = (if E a b = true ∨ b - a ≤ 1 then _ else _)
    by_cases h : E a b = true ∨ b - a ≤ 1
    · rw [if_pos h, if_pos h]
    · have h0 : ¬ b - a ≤ 1 := fun e => h (.inr e)
      have h1 := ways_lt h0 hf
      have h2 := ways_lt h0 hg
      rw [if_neg h, if_neg h, wayF_eq E i f g _ _ h1.1 h2.1, wayF_eq E i f g _ _ h1.2 h2.2]
def way (E : Nat → Nat → Bool) (i : Nat) (a b : Nat) : List Sd × Nat := wayF E i (b - a) a b
theorem way_step {E : Nat → Nat → Bool} {i a b : Nat} (h : E a b = false) (h2 : 2 ≤ b - a) : way E i a b = if i < a + cut (b - a) then ((way E i a (a + cut (b - a))).1 ++ [⟨a + cut (b - a), b, false⟩], (way E i a (a + cut (b - a))).2) else ((way E i (a + cut (b - a)) b).1 ++ [⟨a, a + cut (b - a), true⟩], (way E i (a + cut (b - a)) b).2) := by
  obtain ⟨f, hf⟩ : ∃ f, b - a = f + 1 := ⟨b - a - 1, by omega⟩
  have h1 := ways_lt (a := a) (b := b) (f := f) (by omega) (by omega)
  unfold way
  rw [← wayF_eq E i f _ _ _ h1.1 (Nat.le_refl _), ← wayF_eq E i f _ _ _ h1.2 (Nat.le_refl _)]
  have e : wayF E i (b - a) a b = wayF E i (f + 1) a b := by rw [hf]
  rw [e]
  show (if E a b = true ∨ b - a ≤ 1 then _ else _) = _
  rw [if_neg (by rw [h]; simp; omega)]
theorem way_end {E : Nat → Nat → Bool} {i a b : Nat} (h : E a b = true) : way E i a b = ([], a) := by
  unfold way
  cases hl : b - a with
  | zero => rfl
  | succ f =>
    show (if E a b = true ∨ b - a ≤ 1 then _ else _) = _
    rw [if_pos (.inl h)]
theorem way_left {E : Nat → Nat → Bool} {i a b : Nat} (h : E a b = false) (h2 : 2 ≤ b - a) (hi : i < a + cut (b - a)) : way E i a b = ((way E i a (a + cut (b - a))).1 ++ [⟨a + cut (b - a), b, false⟩], (way E i a (a + cut (b - a))).2) := by rw [way_step h h2, if_pos hi]
theorem way_right {E : Nat → Nat → Bool} {i a b : Nat} (h : E a b = false) (h2 : 2 ≤ b - a) (hi : ¬ i < a + cut (b - a)) : way E i a b = ((way E i (a + cut (b - a)) b).1 ++ [⟨a, a + cut (b - a), true⟩], (way E i (a + cut (b - a)) b).2) := by rw [way_step h h2, if_neg hi]
/-- All that stand beside lie within. -/
theorem way_in {E : Nat → Nat → Bool} {i : Nat} (hE : ∀ a, a ≤ i → i < a + 1 → E a (a + 1) = true) : ∀ (d a b : Nat), b - a = d → a ≤ i → i < b → (∀ s ∈ (way E i a b).1, a ≤ s.a ∧ s.a < s.b ∧ s.b ≤ b) ∧ a ≤ (way E i a b).2 ∧ (way E i a b).2 ≤ i ∧ (way E i a b).1.length ≤ lv d := by
  intro d
  induction d using Nat.strongRecOn with
  | _ d ih =>
    intro a b hd ha hb
    cases hee : E a b with
    | true => rw [way_end hee]; exact ⟨fun s hs => (by cases hs), Nat.le_refl _, ha, Nat.zero_le _⟩
    | false =>
      have h2 : 2 ≤ b - a := by
        rcases Nat.lt_or_ge (b - a) 2 with h | h
        · have : b = a + 1 := by omega
          subst this
          rw [hE a ha (by omega)] at hee
          cases hee
        · exact h
      have hlt := cut_lt h2
      have hpo := cut_pos (b - a)
      have hv := lv_pos h2
      by_cases hi : i < a + cut (b - a)
      · obtain ⟨h3, h4, h5, h6⟩ := ih (cut (b - a)) (by omega) a (a + cut (b - a)) (by omega) ha hi
        rw [cut_lv] at h6
        rw [way_left hee h2 hi]
        refine ⟨fun s hs => ?_, h4, h5, ?_⟩
        · rcases List.mem_append.1 hs with h | h
          · have := h3 s h; omega
          · rw [List.mem_singleton.1 h]; simp only; omega
        · simp only [List.length_append, List.length_cons, List.length_nil]
          rw [← hd]
          omega
      · obtain ⟨h3, h4, h5, h6⟩ := ih (b - a - cut (b - a)) (by omega) (a + cut (b - a)) b (by omega) (by omega) hb
        have h7 := cut_rest h2
        rw [way_right hee h2 hi]
        refine ⟨fun s hs => ?_, by simp only; omega, h5, ?_⟩
        · rcases List.mem_append.1 hs with h | h
          · have := h3 s h; omega
          · rw [List.mem_singleton.1 h]; simp only; omega
        · simp only [List.length_append, List.length_cons, List.length_nil]
          rw [← hd]
          omega
/-- The ends of the two ways. -/
def leafE (a b : Nat) : Bool := decide (b - a = 1)
def endE (m : Nat) (_ b : Nat) : Bool := decide (b = m)
theorem leafE_one {i : Nat} (a : Nat) (_ : a ≤ i) (_ : i < a + 1) : leafE a (a + 1) = true := by unfold leafE; simp
theorem endE_one {m : Nat} (h1 : 1 ≤ m) (a : Nat) (h : a ≤ m - 1) (h2 : m - 1 < a + 1) : endE m a (a + 1) = true := by unfold endE; simp; omega
variable {α : Type} (nd : α → α → α) (z : α)
/-- Leaves from a to b. -/
def piece (l : List α) (a b : Nat) : List α := (l.take b).drop a
theorem piece_len {l : List α} {a b : Nat} (hb : b ≤ l.length) : (piece l a b).length = b - a := by unfold piece; rw [List.length_drop, List.length_take]; omega
theorem piece_take (l : List α) (a b k : Nat) (h : a + k ≤ b) : (piece l a b).take k = piece l a (a + k) := by
  unfold piece
  rw [List.take_drop, List.take_take, Nat.min_eq_left (by omega)]
theorem piece_drop (l : List α) (a b k : Nat) : (piece l a b).drop k = piece l (a + k) b := by
  unfold piece
  rw [List.drop_drop]
theorem piece_all (l : List α) : piece l 0 l.length = l := by unfold piece; simp
/-- The way to a leaf has a path's sides, and lays a path's hashes. -/
theorem way_leaf (l : List α) (i : Nat) : ∀ (d a b : Nat), b - a = d → a ≤ i → i < b → b ≤ l.length →
    (way leafE i a b).1.map (fun s => root nd z (piece l s.a s.b)) = path nd z (piece l a b) (i - a) := by
  intro d
  induction d using Nat.strongRecOn with
  | _ d ih =>
    intro a b hd ha hb hbl
    have hlen := piece_len (l := l) (a := a) hbl
    cases hee : leafE a b with
    | true =>
      have h1 : b - a = 1 := by unfold leafE at hee; simpa using hee
      rw [way_end hee, path_one nd z (by omega)]
      rfl
    | false =>
      have h1 : ¬ b - a = 1 := by unfold leafE at hee; simpa using hee
      have h2 : 2 ≤ b - a := by omega
      have hlt := cut_lt h2
      have hpo := cut_pos (b - a)
      by_cases hi : i < a + cut (b - a)
      · have h3 := ih (cut (b - a)) (by omega) a (a + cut (b - a)) (by omega) ha hi (by omega)
        rw [way_left hee h2 hi, path_left nd z (by omega) (by rw [hlen]; omega), hlen, piece_take l a b _ (by omega), piece_drop, List.map_append, h3]
        rfl
      · have h3 := ih (b - a - cut (b - a)) (by omega) (a + cut (b - a)) b (by omega) (by omega) hb hbl
        rw [way_right hee h2 hi, path_right nd z (by omega) (by rw [hlen]; omega), hlen, piece_take l a b _ (by omega), piece_drop, List.map_append, h3, show i - (a + cut (b - a)) = i - a - cut (b - a) by omega]
        rfl
theorem way_sides (i : Nat) : ∀ (d a b : Nat), b - a = d → a ≤ i → i < b → (way leafE i a b).1.map (fun s => !s.ah) = sides (i - a) (b - a) := by
  intro d
  induction d using Nat.strongRecOn with
  | _ d ih =>
    intro a b hd ha hb
    cases hee : leafE a b with
    | true =>
      have h1 : b - a = 1 := by unfold leafE at hee; simpa using hee
      rw [way_end hee, sides_one (by omega)]
      rfl
    | false =>
      have h1 : ¬ b - a = 1 := by unfold leafE at hee; simpa using hee
      have h2 : 2 ≤ b - a := by omega
      have hlt := cut_lt h2
      have hpo := cut_pos (b - a)
      by_cases hi : i < a + cut (b - a)
      · have h3 := ih (cut (b - a)) (by omega) a (a + cut (b - a)) (by omega) ha hi
        rw [way_left hee h2 hi, sides_left h2 (by omega), List.map_append, h3, show a + cut (b - a) - a = cut (b - a) by omega]
        rfl
      · have h3 := ih (b - a - cut (b - a)) (by omega) (a + cut (b - a)) b (by omega) (by omega) hb
        rw [way_right hee h2 hi, sides_right h2 (by omega), List.map_append, h3, show i - (a + cut (b - a)) = i - a - cut (b - a) by omega, show b - (a + cut (b - a)) = b - a - cut (b - a) by omega]
        rfl
/-- The way to the end of the first m lays a proof's hashes. -/
theorem way_sub (l : List α) (m : Nat) (h1 : 1 ≤ m) : ∀ (d a b : Nat), b - a = d → a < m → m ≤ b → b ≤ l.length → ∀ own : Bool,
    sub nd z (m - a) (piece l a b) own = (if own && decide ((way (endE m) (m - 1) a b).2 = a) then [] else [root nd z (piece l (way (endE m) (m - 1) a b).2 m)]) ++ (way (endE m) (m - 1) a b).1.map (fun s => root nd z (piece l s.a s.b)) := by
  intro d
  induction d using Nat.strongRecOn with
  | _ d ih =>
    intro a b hd ha hb hbl own
    have hlen := piece_len (l := l) (a := a) hbl
    cases hee : endE m a b with
    | true =>
      have hbm : b = m := by unfold endE at hee; simpa using hee
      subst hbm
      rw [way_end hee, sub_all nd z (by omega)]
      cases own <;> simp
    | false =>
      have hbm : ¬ b = m := by unfold endE at hee; simpa using hee
      have h2 : 2 ≤ b - a := by omega
      have hlt := cut_lt h2
      have hpo := cut_pos (b - a)
      by_cases hi : m - 1 < a + cut (b - a)
      · have h3 := ih (cut (b - a)) (by omega) a (a + cut (b - a)) (by omega) ha (by omega) (by omega) own
        rw [way_left hee h2 hi, sub_left nd z (by omega) (by omega) own (by rw [hlen]; omega), hlen, piece_take l a b _ (by omega), piece_drop, h3, List.map_append, ← List.append_assoc]
        rfl
      · have h3 := ih (b - a - cut (b - a)) (by omega) (a + cut (b - a)) b (by omega) (by omega) hb hbl false
        have h4 := (way_in (E := endE m) (endE_one h1) (b - a - cut (b - a)) (a + cut (b - a)) b (by omega) (by omega) (by omega)).2.1
        have h5 : decide ((way (endE m) (m - 1) (a + cut (b - a)) b).2 = a) = false := decide_eq_false (by omega)
        rw [way_right hee h2 hi, sub_right nd z (by omega) (by omega) own (by rw [hlen]; omega), hlen, piece_take l a b _ (by omega), piece_drop, show m - a - cut (b - a) = m - (a + cut (b - a)) by omega, h3, List.map_append, h5, ← List.append_assoc]
        simp
/-- What comes at the top of the first leaves, and of all. -/
def both (x : α × α) : List Sd → List α → α × α
  | s :: ss, p :: ps => both (if s.ah then nd p x.1 else x.1, if s.ah then nd p x.2 else nd x.2 p) ss ps
  | _, _ => x
theorem both_snoc : ∀ (ss : List Sd) (ps : List α) (x : α × α) (s : Sd) (p : α), ss.length = ps.length →
    both nd x (ss ++ [s]) (ps ++ [p]) = (if s.ah then nd p (both nd x ss ps).1 else (both nd x ss ps).1, if s.ah then nd p (both nd x ss ps).2 else nd (both nd x ss ps).2 p)
  | [], [], x, s, p, _ => rfl
  | t :: ss, q :: ps, x, s, p, h => by
    have := both_snoc ss ps (if t.ah then nd q x.1 else x.1, if t.ah then nd q x.2 else nd x.2 q) s p (by simpa using h)
    simpa [both] using this
  | [], _ :: _, _, _, _, h => by simp at h
  | _ :: _, [], _, _, _, h => by simp at h
/-- How many hashes a check takes. -/
def need (m : Nat) (own : Bool) (a b : Nat) : Nat := (if own && decide ((way (endE m) (m - 1) a b).2 = a) then 0 else 1) + (way (endE m) (m - 1) a b).1.length
theorem nx_take (e : α) (t : List α) (k : Nat) (bad : Bool) : (nx e (if k ≤ t.length then (t.drop k, bad) else ([], true))).2 = if k + 1 ≤ t.length then (t.drop (k + 1), bad) else ([], true) := by
  by_cases h : k < t.length
  · rw [if_pos (by omega), if_pos (by omega), List.drop_eq_getElem_cons h]
    rfl
  · by_cases h2 : k = t.length
    · subst h2
      rw [if_pos (by omega), if_neg (by omega), List.drop_length]
      rfl
    · rw [if_neg (by omega), if_neg (by omega)]
      rfl
theorem way_left_rest (e old : α) (m : Nat) (h1 : 1 ≤ m) : ∀ (d a b : Nat), b - a = d → a < m → m ≤ b → ∀ (own : Bool) (t : List α) (bad : Bool),
    (walk nd e (m - a) (b - a) own old (t, bad)).2 = if need m own a b ≤ t.length then (t.drop (need m own a b), bad) else ([], true) := by
  intro d
  induction d using Nat.strongRecOn with
  | _ d ih =>
    intro a b hd ha hb own t bad
    cases hee : endE m a b with
    | true =>
      have hbm : b = m := by unfold endE at hee; simpa using hee
      subst hbm
      rw [walk_all nd e (by omega)]
      unfold need
      rw [way_end hee]
      cases own with
      | true => simp
      | false =>
        have := nx_take e t 0 bad
        simpa using this
    | false =>
      have hbm : ¬ b = m := by unfold endE at hee; simpa using hee
      have h2 : 2 ≤ b - a := by omega
      have hlt := cut_lt h2
      have hpo := cut_pos (b - a)
      by_cases hi : m - 1 < a + cut (b - a)
      · have h3 := ih (cut (b - a)) (by omega) a (a + cut (b - a)) (by omega) ha (by omega) own t bad
        have hn : need m own a b = need m own a (a + cut (b - a)) + 1 := by
          unfold need
          rw [way_left hee h2 hi]
          simp only [List.length_append, List.length_cons, List.length_nil]
          omega
        rw [show a + cut (b - a) - a = cut (b - a) by omega] at h3
        rw [walk_left nd e (by omega) (by omega) (by omega), hn]
        simp only
        rw [h3, nx_take]
      · have h3 := ih (b - a - cut (b - a)) (by omega) (a + cut (b - a)) b (by omega) (by omega) hb false t bad
        have h4 := (way_in (E := endE m) (endE_one h1) (b - a - cut (b - a)) (a + cut (b - a)) b (by omega) (by omega) (by omega)).2.1
        have h5 : decide ((way (endE m) (m - 1) (a + cut (b - a)) b).2 = a) = false := decide_eq_false (by omega)
        have hn : need m own a b = need m false (a + cut (b - a)) b + 1 := by
          unfold need
          rw [way_right hee h2 hi]
          simp only [List.length_append, List.length_cons, List.length_nil, h5, Bool.and_false, Bool.false_and]
          simp
          omega
        rw [show b - (a + cut (b - a)) = b - a - cut (b - a) by omega, show m - (a + cut (b - a)) = m - a - cut (b - a) by omega] at h3
        rw [walk_right nd e (by omega) (by omega) (by omega), hn]
        simp only
        rw [h3, nx_take]
/-- What a check comes to. -/
theorem way_both (e old : α) (m : Nat) (h1 : 1 ≤ m) : ∀ (d a b : Nat), b - a = d → a < m → m ≤ b → ∀ (own : Bool) (x : α) (p r : List α) (bad : Bool), p.length = (way (endE m) (m - 1) a b).1.length →
    walk nd e (m - a) (b - a) own old ((if own && decide ((way (endE m) (m - 1) a b).2 = a) then p else x :: p) ++ r, bad) = (both nd (if own && decide ((way (endE m) (m - 1) a b).2 = a) then (old, old) else (x, x)) (way (endE m) (m - 1) a b).1 p, (r, bad)) := by
  intro d
  induction d using Nat.strongRecOn with
  | _ d ih =>
    intro a b hd ha hb own x p r bad hp
    cases hee : endE m a b with
    | true =>
      have hbm : b = m := by unfold endE at hee; simpa using hee
      subst hbm
      rw [way_end hee] at hp ⊢
      have hp0 : p = [] := List.length_eq_zero_iff.1 hp
      subst hp0
      rw [walk_all nd e (by omega)]
      cases own <;> simp [both, nx]
    | false =>
      have hbm : ¬ b = m := by unfold endE at hee; simpa using hee
      have h2 : 2 ≤ b - a := by omega
      have hlt := cut_lt h2
      have hpo := cut_pos (b - a)
      by_cases hi : m - 1 < a + cut (b - a)
      · rw [way_left hee h2 hi] at hp ⊢
        simp only [List.length_append, List.length_cons, List.length_nil] at hp
        obtain ⟨q, y, rfl⟩ : ∃ q y, p = q ++ [y] := ⟨p.dropLast, p.getLast (by intro h; subst h; simp at hp), (List.dropLast_concat_getLast _).symm⟩
        simp only [List.length_append, List.length_cons, List.length_nil] at hp
        have h3 := ih (cut (b - a)) (by omega) a (a + cut (b - a)) (by omega) ha (by omega) own x q (y :: r) bad (by omega)
        rw [show a + cut (b - a) - a = cut (b - a) by omega] at h3
        simp only at h3 ⊢
        obtain ⟨cc, hcc⟩ : ∃ cc, (own && decide ((way (endE m) (m - 1) a (a + cut (b - a))).2 = a)) = cc := ⟨_, rfl⟩
        rw [hcc] at h3 ⊢
        have e1 : (if cc then q ++ [y] else x :: (q ++ [y])) ++ r = (if cc then q else x :: q) ++ y :: r := by cases cc <;> simp
        rw [e1, walk_left nd e (by omega) (by omega) (by omega), h3, both_snoc nd _ _ _ _ _ (by omega)]
        rfl
      · have h4 := (way_in (E := endE m) (endE_one h1) (b - a - cut (b - a)) (a + cut (b - a)) b (by omega) (by omega) (by omega)).2.1
        have h5 : decide ((way (endE m) (m - 1) (a + cut (b - a)) b).2 = a) = false := decide_eq_false (by omega)
        rw [way_right hee h2 hi] at hp ⊢
        simp only [List.length_append, List.length_cons, List.length_nil] at hp
        obtain ⟨q, y, rfl⟩ : ∃ q y, p = q ++ [y] := ⟨p.dropLast, p.getLast (by intro h; subst h; simp at hp), (List.dropLast_concat_getLast _).symm⟩
        simp only [List.length_append, List.length_cons, List.length_nil] at hp
        have h3 := ih (b - a - cut (b - a)) (by omega) (a + cut (b - a)) b (by omega) (by omega) hb false x q (y :: r) bad (by omega)
        rw [show b - (a + cut (b - a)) = b - a - cut (b - a) by omega, show m - (a + cut (b - a)) = m - a - cut (b - a) by omega] at h3
        simp only [h5, Bool.and_false, Bool.false_and, if_neg (show ¬ (false = true) by decide)] at h3 ⊢
        rw [walk_right nd e (by omega) (by omega) (by omega), show (x :: (q ++ [y])) ++ r = (x :: q) ++ y :: r by simp, h3, both_snoc nd _ _ _ _ _ (by omega)]
        rfl
end Go.Proofs.YtdgfbbaddoghaaaDoor.Mt
