/- Trees over leaves: cuts, roots, paths, proofs, over plain lists; no walk. -/
import Derived.Test.YtdgfbbaddoghaaaDoorK
namespace Go.Proofs.YtdgfbbaddoghaaaDoor.Mt

/-- How many levels a tree of n leaves has. -/
def lv (n : Nat) : Nat := if n ≤ 1 then 0 else Nat.log2 (n - 1) + 1
/-- The greatest power of two that is less than n. -/
def cut (n : Nat) : Nat := 2 ^ (lv n - 1)
theorem le_lv (n : Nat) : n ≤ 2 ^ lv n := by
  unfold lv
  split
  · simpa using by assumption
  · have := @Nat.lt_log2_self (n - 1)
    omega
theorem lv_le {n j : Nat} (h : n ≤ 2 ^ j) : lv n ≤ j := by
  unfold lv
  split
  · exact Nat.zero_le _
  · exact (Nat.log2_lt (by omega)).2 (by omega)
theorem lv_mono {a b : Nat} (h : a ≤ b) : lv a ≤ lv b := lv_le (Nat.le_trans h (le_lv b))
theorem lv_pow (j : Nat) : lv (2 ^ j) = j := by
  refine Nat.le_antisymm (lv_le (Nat.le_refl _)) ?_
  have := le_lv (2 ^ j)
  exact (Nat.pow_le_pow_iff_right (by decide)).1 this
theorem lv_pos {n : Nat} (h : 2 ≤ n) : 1 ≤ lv n := by
  unfold lv
  rw [if_neg (by omega)]
  omega
theorem lv_one {n : Nat} (h : n ≤ 1) : lv n = 0 := by unfold lv; rw [if_pos h]
theorem cut_pos (n : Nat) : 1 ≤ cut n := Nat.one_le_two_pow
theorem cut_lt {n : Nat} (h : 2 ≤ n) : cut n < n := by
  have h1 : lv n = Nat.log2 (n - 1) + 1 := by unfold lv; rw [if_neg (by omega)]
  have h2 := @Nat.log2_self_le (n - 1) (by omega)
  unfold cut
  rw [h1, Nat.add_sub_cancel]
  omega
theorem cut_two {n : Nat} (h : 2 ≤ n) : n ≤ 2 * cut n := by
  have h1 := le_lv n
  have h2 := lv_pos h
  unfold cut
  rw [← Nat.pow_succ', show (lv n - 1).succ = lv n by omega]
  exact h1
theorem cut_lv {n : Nat} : lv (cut n) = lv n - 1 := lv_pow _
theorem cut_rest {n : Nat} (h : 2 ≤ n) : lv (n - cut n) ≤ lv n - 1 := by
  have := cut_two h
  exact lv_le (by show n - cut n ≤ cut n; omega)
theorem cut_is {n k j : Nat} (hk : k = 2 ^ j) (h1 : k < n) (h2 : n ≤ 2 * k) : cut n = k := by
  have h3 : lv n = j + 1 := by
    refine Nat.le_antisymm (lv_le (by rw [Nat.pow_succ]; omega)) ?_
    have h4 := le_lv n
    have h5 : 2 ^ j < 2 ^ lv n := by omega
    exact (Nat.pow_lt_pow_iff_right (by decide)).1 h5
  unfold cut
  rw [h3, Nat.add_sub_cancel, hk]

variable {α : Type} (nd : α → α → α) (z : α)
/-- The root. -/
def rootF : Nat → List α → α
  | 0, l => l.headD z
  | f + 1, l => if l.length ≤ 1 then l.headD z else nd (rootF f (l.take (cut l.length))) (rootF f (l.drop (cut l.length)))
theorem parts_lt {l : List α} {f : Nat} (h : ¬ l.length ≤ 1) (hf : l.length ≤ f + 1) : (l.take (cut l.length)).length ≤ f ∧ (l.drop (cut l.length)).length ≤ f := by
  have h1 := cut_lt (n := l.length) (by omega)
  have h2 := cut_pos l.length
  rw [List.length_take, List.length_drop]
  omega
theorem rootF_eq : ∀ (f g : Nat) (l : List α), l.length ≤ f → l.length ≤ g → rootF nd z f l = rootF nd z g l
  | 0, 0, _, _, _ => rfl
  | 0, g + 1, l, hf, _ => by
    show _ = (if l.length ≤ 1 then _ else _)
    rw [if_pos (by omega)]
    rfl
  | f + 1, 0, l, _, hg => by
    show (if l.length ≤ 1 then _ else _) = _
    rw [if_pos (by omega)]
    rfl
  | f + 1, g + 1, l, hf, hg => by
    show (if l.length ≤ 1 then _ else _) = (if l.length ≤ 1 then _ else _)
    by_cases h : l.length ≤ 1
    · rw [if_pos h, if_pos h]
    · have h1 := parts_lt h hf
      have h2 := parts_lt h hg
      rw [if_neg h, if_neg h, rootF_eq f g _ h1.1 h2.1, rootF_eq f g _ h1.2 h2.2]
def root (l : List α) : α := rootF nd z l.length l
theorem root_nil : root nd z [] = z := rfl
theorem root_one (a : α) : root nd z [a] = a := rfl
theorem root_two {l : List α} (h : 2 ≤ l.length) : root nd z l = nd (root nd z (l.take (cut l.length))) (root nd z (l.drop (cut l.length))) := by
  obtain ⟨f, hf⟩ : ∃ f, l.length = f + 1 := ⟨l.length - 1, by omega⟩
  have h1 := parts_lt (l := l) (f := f) (by omega) (by omega)
  unfold root
  rw [← rootF_eq nd z f _ _ h1.1 (Nat.le_refl _), ← rootF_eq nd z f _ _ h1.2 (Nat.le_refl _)]
  conv => lhs; rw [hf]
  show (if l.length ≤ 1 then _ else _) = _
  rw [if_neg (by omega)]
/-- A leaf's path. -/
def pathF : Nat → List α → Nat → List α
  | 0, _, _ => []
  | f + 1, l, i => if l.length ≤ 1 then []
    else if i < cut l.length then pathF f (l.take (cut l.length)) i ++ [root nd z (l.drop (cut l.length))]
    else pathF f (l.drop (cut l.length)) (i - cut l.length) ++ [root nd z (l.take (cut l.length))]
theorem pathF_eq : ∀ (f g : Nat) (l : List α) (i : Nat), l.length ≤ f → l.length ≤ g → pathF nd z f l i = pathF nd z g l i
  | 0, 0, _, _, _, _ => rfl
  | 0, g + 1, l, i, hf, _ => by
    show _ = (if l.length ≤ 1 then _ else _)
    rw [if_pos (by omega)]
    rfl
  | f + 1, 0, l, i, _, hg => by
    show (if l.length ≤ 1 then _ else _) = _
    rw [if_pos (by omega)]
    rfl
  | f + 1, g + 1, l, i, hf, hg => by
    show (if l.length ≤ 1 then _ else _) = (if l.length ≤ 1 then _ else _)
    by_cases h : l.length ≤ 1
    · rw [if_pos h, if_pos h]
    · have h1 := parts_lt h hf
      have h2 := parts_lt h hg
      rw [if_neg h, if_neg h, pathF_eq f g _ _ h1.1 h2.1, pathF_eq f g _ _ h1.2 h2.2]
def path (l : List α) (i : Nat) : List α := pathF nd z l.length l i
theorem path_step {l : List α} (h : 2 ≤ l.length) (i : Nat) : path nd z l i = if i < cut l.length then path nd z (l.take (cut l.length)) i ++ [root nd z (l.drop (cut l.length))] else path nd z (l.drop (cut l.length)) (i - cut l.length) ++ [root nd z (l.take (cut l.length))] := by
  obtain ⟨f, hf⟩ : ∃ f, l.length = f + 1 := ⟨l.length - 1, by omega⟩
  have h1 := parts_lt (l := l) (f := f) (by omega) (by omega)
  unfold path
  rw [← pathF_eq nd z f _ _ _ h1.1 (Nat.le_refl _), ← pathF_eq nd z f _ _ _ h1.2 (Nat.le_refl _)]
  conv => lhs; rw [hf]
  show (if l.length ≤ 1 then _ else _) = _
  rw [if_neg (by omega)]
theorem path_one {l : List α} (h : l.length ≤ 1) (i : Nat) : path nd z l i = [] := by
  match l, h with
  | [], _ => rfl
  | [_], _ => rfl
theorem path_left {l : List α} (h : 2 ≤ l.length) {i : Nat} (hi : i < cut l.length) : path nd z l i = path nd z (l.take (cut l.length)) i ++ [root nd z (l.drop (cut l.length))] := by rw [path_step nd z h, if_pos hi]
theorem path_right {l : List α} (h : 2 ≤ l.length) {i : Nat} (hi : ¬ i < cut l.length) : path nd z l i = path nd z (l.drop (cut l.length)) (i - cut l.length) ++ [root nd z (l.take (cut l.length))] := by rw [path_step nd z h, if_neg hi]
/-- At each node of a path, from the leaf on: is the leaf on the left? -/
def sidesF : Nat → Nat → Nat → List Bool
  | 0, _, _ => []
  | f + 1, i, n => if n ≤ 1 then [] else if i < cut n then sidesF f i (cut n) ++ [true] else sidesF f (i - cut n) (n - cut n) ++ [false]
theorem nums_lt {n f : Nat} (h : ¬ n ≤ 1) (hf : n ≤ f + 1) : cut n ≤ f ∧ n - cut n ≤ f := by
  have h1 := cut_lt (n := n) (by omega)
  have h2 := cut_pos n
  omega
theorem sidesF_eq : ∀ (f g i n : Nat), n ≤ f → n ≤ g → sidesF f i n = sidesF g i n
  | 0, 0, _, _, _, _ => rfl
  | 0, g + 1, i, n, hf, _ => by
    show _ = (if n ≤ 1 then _ else _)
    rw [if_pos (by omega)]
    rfl
  | f + 1, 0, i, n, _, hg => by
    show (if n ≤ 1 then _ else _) = _
    rw [if_pos (by omega)]
    rfl
  | f + 1, g + 1, i, n, hf, hg => by
    show (if n ≤ 1 then _ else _) = (if n ≤ 1 then _ else _)
    by_cases h : n ≤ 1
    · rw [if_pos h, if_pos h]
    · have h1 := nums_lt h hf
      have h2 := nums_lt h hg
      rw [if_neg h, if_neg h, sidesF_eq f g _ _ h1.1 h2.1, sidesF_eq f g _ _ h1.2 h2.2]
def sides (i n : Nat) : List Bool := sidesF n i n
theorem sides_step {n : Nat} (h : 2 ≤ n) (i : Nat) : sides i n = if i < cut n then sides i (cut n) ++ [true] else sides (i - cut n) (n - cut n) ++ [false] := by
  obtain ⟨f, hf⟩ : ∃ f, n = f + 1 := ⟨n - 1, by omega⟩
  have h1 := nums_lt (n := n) (f := f) (by omega) (by omega)
  unfold sides
  rw [← sidesF_eq f _ _ _ h1.1 (Nat.le_refl _), ← sidesF_eq f _ _ _ h1.2 (Nat.le_refl _)]
  subst hf
  show (if f + 1 ≤ 1 then _ else _) = _
  rw [if_neg (by omega)]
theorem sides_one {n : Nat} (h : n ≤ 1) (i : Nat) : sides i n = [] := by
  match n, h with
  | 0, _ => rfl
  | 1, _ => rfl
theorem sides_left {n : Nat} (h : 2 ≤ n) {i : Nat} (hi : i < cut n) : sides i n = sides i (cut n) ++ [true] := by rw [sides_step h, if_pos hi]
theorem sides_right {n : Nat} (h : 2 ≤ n) {i : Nat} (hi : ¬ i < cut n) : sides i n = sides (i - cut n) (n - cut n) ++ [false] := by rw [sides_step h, if_neg hi]
/-- One node up. -/
def up (x : α) (b : Bool) (p : α) : α := if b then nd x p else nd p x
/-- What comes of a leaf. -/
def top (x : α) (s : List Bool) (p : List α) : α := (s.zip p).foldl (fun x q => up nd x q.1 q.2) x
theorem top_snoc (x : α) {s : List Bool} {p : List α} (h : s.length = p.length) (b : Bool) (q : α) : top nd x (s ++ [b]) (p ++ [q]) = up nd (top nd x s p) b q := by
  unfold top
  rw [List.zip_append h, List.foldl_append]
  rfl
/-- A path has as many as there are sides, and brings the root. -/
theorem path_top : ∀ (n : Nat) (l : List α), l.length = n → ∀ i a, l[i]? = some a → (sides i n).length = (path nd z l i).length ∧ top nd a (sides i n) (path nd z l i) = root nd z l := by
  intro n
  induction n using Nat.strongRecOn with
  | _ n ih =>
    intro l hl i a ha
    have hin := (List.getElem?_eq_some_iff.1 ha).1
    by_cases h1 : n ≤ 1
    · rw [sides_one h1, path_one nd z (by omega)]
      refine ⟨rfl, ?_⟩
      match l, hl, ha, hin with
      | [b], _, ha, hin =>
        have : i = 0 := by simp at hin; omega
        subst this
        simp at ha
        rw [root_one, ha]
        rfl
      | [], _, _, hin => simp at hin
      | _ :: _ :: _, hl, _, _ => simp at hl; omega
    · have h2 : 2 ≤ n := by omega
      have hlt := cut_lt h2
      have hpo := cut_pos n
      by_cases hi : i < cut n
      · obtain ⟨e1, e2⟩ := ih (cut n) hlt (l.take (cut n)) (by rw [List.length_take]; omega) i a (by rw [List.getElem?_take_of_lt hi]; exact ha)
        rw [sides_left h2 hi, path_left nd z (by omega) (by rw [hl]; exact hi), root_two nd z (l := l) (by omega), hl]
        refine ⟨by rw [List.length_append, List.length_append, e1]; rfl, ?_⟩
        rw [top_snoc nd a e1, e2]
        rfl
      · obtain ⟨e1, e2⟩ := ih (n - cut n) (by omega) (l.drop (cut n)) (by rw [List.length_drop]; omega) (i - cut n) a (by rw [List.getElem?_drop, show cut n + (i - cut n) = i by omega]; exact ha)
        rw [sides_right h2 hi, path_right nd z (by omega) (by rw [hl]; exact hi), root_two nd z (l := l) (by omega), hl]
        refine ⟨by rw [List.length_append, List.length_append, e1]; rfl, ?_⟩
        rw [top_snoc nd a e1, e2]
        rfl
/-- How long a path is. -/
theorem sides_len : ∀ (n i : Nat), i < n → (sides i n).length ≤ lv n := by
  intro n
  induction n using Nat.strongRecOn with
  | _ n ih =>
    intro i hi
    by_cases h1 : n ≤ 1
    · rw [sides_one h1]; exact Nat.zero_le _
    · have h2 : 2 ≤ n := by omega
      have hlt := cut_lt h2
      have hpo := cut_pos n
      have hlp := lv_pos h2
      by_cases hc : i < cut n
      · have h3 := ih (cut n) hlt i hc
        rw [cut_lv] at h3
        rw [sides_left h2 hc, List.length_append]
        simp only [List.length_cons, List.length_nil]
        omega
      · have h3 := ih (n - cut n) (by omega) (i - cut n) (by omega)
        have h4 := cut_rest h2
        rw [sides_right h2 hc, List.length_append]
        simp only [List.length_cons, List.length_nil]
        omega
theorem sides_perfect : ∀ (j i : Nat), i < 2 ^ j → (sides i (2 ^ j)).length = j := by
  intro j
  induction j with
  | zero => intro i _; rw [sides_one (Nat.le_refl _)]; rfl
  | succ j ih =>
    intro i hi
    have h2 : 2 ≤ 2 ^ (j + 1) := by rw [Nat.pow_succ]; have := @Nat.one_le_two_pow j; omega
    have hc : cut (2 ^ (j + 1)) = 2 ^ j := by unfold cut; rw [lv_pow, Nat.add_sub_cancel]
    have hs : 2 ^ (j + 1) - 2 ^ j = 2 ^ j := by rw [Nat.pow_succ]; omega
    by_cases h : i < 2 ^ j
    · rw [sides_left h2 (by rw [hc]; exact h), hc, List.length_append, ih i h]; rfl
    · rw [sides_right h2 (by rw [hc]; exact h), hc, hs, List.length_append, ih (i - 2 ^ j) (by rw [Nat.pow_succ] at hi; omega)]; rfl
end Go.Proofs.YtdgfbbaddoghaaaDoor.Mt
