/- Proofs of beginnings, and what two climbs to one root tell, over plain lists; no walk. -/
import Derived.Test.YtdgfbbaddoghaaaDoorMt
namespace Go.Proofs.YtdgfbbaddoghaaaDoor.Mt

variable {α : Type} (nd : α → α → α) (z : α)
/-- S(m, l, own). -/
def subF : Nat → Nat → List α → Bool → List α
  | 0, _, l, own => if own then [] else [root nd z l]
  | f + 1, m, l, own => if m = l.length ∨ l.length ≤ 1 then (if own then [] else [root nd z l])
    else if m ≤ cut l.length then subF f m (l.take (cut l.length)) own ++ [root nd z (l.drop (cut l.length))]
    else subF f (m - cut l.length) (l.drop (cut l.length)) false ++ [root nd z (l.take (cut l.length))]
theorem subF_eq : ∀ (f g m : Nat) (l : List α) (own : Bool), l.length ≤ f → l.length ≤ g → subF nd z f m l own = subF nd z g m l own
  | 0, 0, _, _, _, _, _ => rfl
  | 0, g + 1, m, l, own, hf, _ => by
    show _ = (if m = l.length ∨ l.length ≤ 1 then _ else _)
    rw [if_pos (.inr (by omega))]
    rfl
  | f + 1, 0, m, l, own, _, hg => by
    show (if m = l.length ∨ l.length ≤ 1 then _ else _) = _
    rw [if_pos (.inr (by omega))]
    rfl
  | f + 1, g + 1, m, l, own, hf, hg => by
    show (if m = l.length ∨ l.length ≤ 1 then _ else _) = (if m = l.length ∨ l.length ≤ 1 then _ else _)
    by_cases h : m = l.length ∨ l.length ≤ 1
    · rw [if_pos h, if_pos h]
    · have h0 : ¬ l.length ≤ 1 := fun e => h (.inr e)
      have h1 := parts_lt h0 hf
      have h2 := parts_lt h0 hg
      rw [if_neg h, if_neg h, subF_eq f g _ _ _ h1.1 h2.1, subF_eq f g _ _ _ h1.2 h2.2]
def sub (m : Nat) (l : List α) (own : Bool) : List α := subF nd z l.length m l own
theorem sub_step {m : Nat} {l : List α} (h1 : m < l.length) (h0 : 1 ≤ m) (own : Bool) : sub nd z m l own = if m ≤ cut l.length then sub nd z m (l.take (cut l.length)) own ++ [root nd z (l.drop (cut l.length))] else sub nd z (m - cut l.length) (l.drop (cut l.length)) false ++ [root nd z (l.take (cut l.length))] := by
  obtain ⟨f, hf⟩ : ∃ f, l.length = f + 1 := ⟨l.length - 1, by omega⟩
  have h2 := parts_lt (l := l) (f := f) (by omega) (by omega)
  unfold sub
  rw [← subF_eq nd z f _ _ _ _ h2.1 (Nat.le_refl _), ← subF_eq nd z f _ _ _ _ h2.2 (Nat.le_refl _)]
  conv => lhs; rw [hf]
  show (if m = l.length ∨ l.length ≤ 1 then _ else _) = _
  rw [if_neg (by omega)]
theorem sub_all {m : Nat} {l : List α} (h : m = l.length) (own : Bool) : sub nd z m l own = if own then [] else [root nd z l] := by
  unfold sub
  cases hl : l.length with
  | zero => rfl
  | succ f =>
    show (if m = l.length ∨ l.length ≤ 1 then _ else _) = _
    rw [if_pos (.inl h)]
theorem sub_left {m : Nat} {l : List α} (h1 : m < l.length) (h0 : 1 ≤ m) (own : Bool) (hm : m ≤ cut l.length) : sub nd z m l own = sub nd z m (l.take (cut l.length)) own ++ [root nd z (l.drop (cut l.length))] := by rw [sub_step nd z h1 h0, if_pos hm]
theorem sub_right {m : Nat} {l : List α} (h1 : m < l.length) (h0 : 1 ≤ m) (own : Bool) (hm : ¬ m ≤ cut l.length) : sub nd z m l own = sub nd z (m - cut l.length) (l.drop (cut l.length)) false ++ [root nd z (l.take (cut l.length))] := by rw [sub_step nd z h1 h0, if_neg hm]
/-- One hash is taken; e, if there is none. -/
def nx (e : α) (t : List α × Bool) : α × (List α × Bool) := match t.1 with | [] => (e, ([], true)) | a :: r => (a, (r, t.2))
/-- The roots of the first m and of all n, by hashes taken in order. -/
def wkEnd (e : α) (own : Bool) (old : α) (t : List α × Bool) : (α × α) × (List α × Bool) := if own then ((old, old), t) else (((nx e t).1, (nx e t).1), (nx e t).2)
def wkL (e : α) (r : (α × α) × (List α × Bool)) : (α × α) × (List α × Bool) := ((r.1.1, nd r.1.2 (nx e r.2).1), (nx e r.2).2)
def wkR (e : α) (r : (α × α) × (List α × Bool)) : (α × α) × (List α × Bool) := ((nd (nx e r.2).1 r.1.1, nd (nx e r.2).1 r.1.2), (nx e r.2).2)
def walkF (e : α) : Nat → Nat → Nat → Bool → α → List α × Bool → (α × α) × (List α × Bool)
  | 0, _, _, own, old, t => wkEnd e own old t
  | f + 1, m, n, own, old, t => if m = n ∨ n ≤ 1 then wkEnd e own old t
    else if m ≤ cut n then wkL nd e (walkF e f m (cut n) own old t) else wkR nd e (walkF e f (m - cut n) (n - cut n) false old t)
theorem walkF_eq (e : α) : ∀ (f g m n : Nat) (own : Bool) (old : α) (t : List α × Bool), n ≤ f → n ≤ g → walkF nd e f m n own old t = walkF nd e g m n own old t
  | 0, 0, _, _, _, _, _, _, _ => rfl
  | 0, g + 1, m, n, own, old, t, hf, _ => by
    show _ = (if m = n ∨ n ≤ 1 then _ else _)
    rw [if_pos (.inr (by omega))]
    rfl
  | f + 1, 0, m, n, own, old, t, _, hg => by
    show (if m = n ∨ n ≤ 1 then _ else _) = _
    rw [if_pos (.inr (by omega))]
    rfl
  | f + 1, g + 1, m, n, own, old, t, hf, hg => by
    show (if m = n ∨ n ≤ 1 then _ else _) = (if m = n ∨ n ≤ 1 then _ else _)
    by_cases h : m = n ∨ n ≤ 1
    · rw [if_pos h, if_pos h]
    · have h0 : ¬ n ≤ 1 := fun e => h (.inr e)
      have h1 := nums_lt h0 hf
      have h2 := nums_lt h0 hg
      rw [if_neg h, if_neg h, walkF_eq e f g _ _ _ _ _ h1.1 h2.1, walkF_eq e f g _ _ _ _ _ h1.2 h2.2]
def walk (e : α) (m n : Nat) (own : Bool) (old : α) (t : List α × Bool) : (α × α) × (List α × Bool) := walkF nd e n m n own old t
theorem walk_step (e : α) {m n : Nat} (h1 : m < n) (h0 : 1 ≤ m) (own : Bool) (old : α) (t : List α × Bool) : walk nd e m n own old t = if m ≤ cut n then wkL nd e (walk nd e m (cut n) own old t) else wkR nd e (walk nd e (m - cut n) (n - cut n) false old t) := by
  obtain ⟨f, hf⟩ : ∃ f, n = f + 1 := ⟨n - 1, by omega⟩
  have h2 := nums_lt (n := n) (f := f) (by omega) (by omega)
  unfold walk
  rw [← walkF_eq nd e f _ _ _ _ _ _ h2.1 (Nat.le_refl _), ← walkF_eq nd e f _ _ _ _ _ _ h2.2 (Nat.le_refl _)]
  subst hf
  show (if m = f + 1 ∨ f + 1 ≤ 1 then _ else _) = _
  rw [if_neg (by omega)]
theorem walk_all (e : α) {m n : Nat} (h : m = n) (own : Bool) (old : α) (t : List α × Bool) : walk nd e m n own old t = if own then ((old, old), t) else (((nx e t).1, (nx e t).1), (nx e t).2) := by
  unfold walk
  cases n with
  | zero => rfl
  | succ f =>
    show (if m = f + 1 ∨ f + 1 ≤ 1 then _ else _) = _
    rw [if_pos (.inl h)]
    rfl
theorem walk_left (e : α) {m n : Nat} (h1 : m < n) (h0 : 1 ≤ m) (hm : m ≤ cut n) (own : Bool) (old : α) (t : List α × Bool) :
    walk nd e m n own old t = (((walk nd e m (cut n) own old t).1.1, nd (walk nd e m (cut n) own old t).1.2 (nx e (walk nd e m (cut n) own old t).2).1), (nx e (walk nd e m (cut n) own old t).2).2) := by
  rw [walk_step nd e h1 h0, if_pos hm]
  rfl
theorem walk_right (e : α) {m n : Nat} (h1 : m < n) (h0 : 1 ≤ m) (hm : ¬ m ≤ cut n) (own : Bool) (old : α) (t : List α × Bool) :
    walk nd e m n own old t = ((nd (nx e (walk nd e (m - cut n) (n - cut n) false old t).2).1 (walk nd e (m - cut n) (n - cut n) false old t).1.1, nd (nx e (walk nd e (m - cut n) (n - cut n) false old t).2).1 (walk nd e (m - cut n) (n - cut n) false old t).1.2), (nx e (walk nd e (m - cut n) (n - cut n) false old t).2).2) := by
  rw [walk_step nd e h1 h0, if_neg hm]
  rfl
/-- A beginning that goes past the cut is cut there too. -/
theorem root_take {l : List α} {m : Nat} (h2 : m ≤ l.length) (hm : ¬ m ≤ cut l.length) : root nd z (l.take m) = nd (root nd z (l.take (cut l.length))) (root nd z ((l.drop (cut l.length)).take (m - cut l.length))) := by
  have hp := cut_pos l.length
  have hl : (l.take m).length = m := by rw [List.length_take]; omega
  have hc : cut m = cut l.length := cut_is (j := lv l.length - 1) rfl (by omega) (Nat.le_trans h2 (cut_two (by omega)))
  rw [root_two nd z (l := l.take m) (by omega), hl, hc, List.take_take, Nat.min_eq_left (by omega), List.drop_take]
/-- What S lays brings both roots. -/
theorem sub_walk (e : α) : ∀ (n : Nat) (l : List α), l.length = n → ∀ (m : Nat) (own : Bool) (old : α) (r : List α) (bad : Bool), 1 ≤ m → m ≤ n → (own = true → old = root nd z (l.take m)) →
    walk nd e m n own old (sub nd z m l own ++ r, bad) = ((root nd z (l.take m), root nd z l), (r, bad)) := by
  intro n
  induction n using Nat.strongRecOn with
  | _ n ih =>
    intro l hl m own old r bad h0 hmn ho
    by_cases hm : m = n
    · have hall : l.take m = l := List.take_of_length_le (by omega)
      rw [walk_all nd e hm, sub_all nd z (by omega)]
      cases own with
      | true => rw [hall] at ho; rw [if_pos rfl, if_pos rfl, ho rfl, hall]; rfl
      | false => rw [hall]; rfl
    · have hlt : m < n := by omega
      have hc := cut_lt (n := n) (by omega)
      have hp := cut_pos n
      by_cases hk : m ≤ cut n
      · have h3 := ih (cut n) hc (l.take (cut n)) (by rw [List.length_take]; omega) m own old (root nd z (l.drop (cut n)) :: r) bad h0 hk (fun h => by rw [List.take_take, Nat.min_eq_left hk]; exact ho h)
        rw [List.take_take, Nat.min_eq_left hk] at h3
        rw [walk_left nd e hlt h0 hk, sub_left nd z (by omega) h0 own (by rw [hl]; exact hk), hl, List.append_assoc, List.singleton_append, h3, root_two nd z (l := l) (by omega), hl]
        rfl
      · have h3 := ih (n - cut n) (by omega) (l.drop (cut n)) (by rw [List.length_drop]; omega) (m - cut n) false old (root nd z (l.take (cut n)) :: r) bad (by omega) (by omega) (fun h => by cases h)
        have h4 := root_take nd z (l := l) (m := m) (by omega) (by rw [hl]; exact hk)
        rw [hl] at h4
        rw [walk_right nd e hlt h0 hk, sub_right nd z (by omega) h0 own (by rw [hl]; exact hk), hl, List.append_assoc, List.singleton_append, h3, h4, root_two nd z (l := l) (by omega), hl]
        rfl
theorem sub_len : ∀ (n : Nat) (l : List α), l.length = n → ∀ (m : Nat) (own : Bool), 1 ≤ m → m ≤ n → (sub nd z m l own).length ≤ lv n + 1 := by
  intro n
  induction n using Nat.strongRecOn with
  | _ n ih =>
    intro l hl m own h0 hmn
    by_cases hm : m = n
    · rw [sub_all nd z (by omega)]
      cases own <;> simp
    · have hc := cut_lt (n := n) (by omega)
      have hp := cut_pos n
      have hv := lv_pos (n := n) (by omega)
      by_cases hk : m ≤ cut n
      · have h3 := ih (cut n) hc (l.take (cut n)) (by rw [List.length_take]; omega) m own h0 hk
        rw [cut_lv] at h3
        rw [sub_left nd z (by omega) h0 own (by rw [hl]; exact hk), hl, List.length_append]
        simp only [List.length_cons, List.length_nil]
        omega
      · have h3 := ih (n - cut n) (by omega) (l.drop (cut n)) (by rw [List.length_drop]; omega) (m - cut n) false (by omega) (by omega)
        have h4 := cut_rest (n := n) (by omega)
        rw [sub_right nd z (by omega) h0 own (by rw [hl]; exact hk), hl, List.length_append]
        simp only [List.length_cons, List.length_nil]
        omega
/-- The leaf and each node's hash, from the leaf on. -/
def climb (x : α) : List Bool → List α → List α
  | b :: s, p :: ps => x :: climb (up nd x b p) s ps
  | _, _ => [x]
theorem climb_len : ∀ (x : α) (s : List Bool) (p : List α), s.length = p.length → (climb nd x s p).length = s.length + 1
  | x, [], [], _ => rfl
  | x, b :: s, p :: ps, h => by
    have := climb_len (up nd x b p) s ps (by simpa using h)
    simp only [climb, List.length_cons, this]
  | x, [], _ :: _, h => by simp at h
  | x, _ :: _, [], h => by simp at h
theorem climb_at : ∀ (x : α) (s : List Bool) (p : List α), s.length = p.length → ∀ i, i ≤ s.length → (climb nd x s p)[i]? = some (top nd x (s.take i) (p.take i))
  | x, [], [], _, i, hi => by
    have : i = 0 := by simpa using hi
    subst this
    rfl
  | x, b :: s, p :: ps, h, 0, _ => by simp [climb, top]
  | x, b :: s, p :: ps, h, i + 1, hi => by
    have := climb_at (up nd x b p) s ps (by simpa using h) i (by simpa using hi)
    simp only [climb, List.getElem?_cons_succ, this]
    simp [top]
  | x, [], _ :: _, h, _, _ => by simp at h
  | x, _ :: _, [], h, _, _ => by simp at h
/-- The first place, from the root on, at which what is summed is not the same, its hash being the same. -/
def coll {β : Type} [DecidableEq α] [DecidableEq β] (X Y : Nat → α) (I J : Nat → β) : Nat → Option (β × β)
  | 0 => none
  | i + 1 => if X (i + 1) = Y (i + 1) then (if I i = J i then coll X Y I J i else some (I i, J i)) else none
theorem coll_some {β : Type} [DecidableEq α] [DecidableEq β] {X Y : Nat → α} {I J : Nat → β} : ∀ {n : Nat} {l r : β}, coll X Y I J n = some (l, r) → l ≠ r ∧ ∃ i, i < n ∧ l = I i ∧ r = J i ∧ X (i + 1) = Y (i + 1)
  | 0, _, _, h => by cases h
  | n + 1, l, r, h => by
    unfold coll at h
    split at h
    · rename_i h1
      split at h
      · obtain ⟨h2, i, h3, h4⟩ := coll_some h
        exact ⟨h2, i, by omega, h4⟩
      · rename_i h2
        simp only [Option.some.injEq, Prod.mk.injEq] at h
        obtain ⟨rfl, rfl⟩ := h
        exact ⟨h2, n, by omega, rfl, rfl, h1⟩
    · cases h
theorem coll_found {β : Type} [DecidableEq α] [DecidableEq β] {X Y : Nat → α} {I J : Nat → β} : ∀ {n : Nat}, X n = Y n → (∀ i, i < n → I i = J i → X i = Y i) → X 0 ≠ Y 0 → (coll X Y I J n).isSome = true
  | 0, h, _, h0 => absurd h h0
  | n + 1, h, hs, h0 => by
    unfold coll
    rw [if_pos h]
    split
    · rename_i h1
      exact coll_found (hs n (by omega) h1) (fun i hi => hs i (by omega)) h0
    · rfl
end Go.Proofs.YtdgfbbaddoghaaaDoor.Mt
