/- What is seen and kept of a row, over plain lists; no walk. -/
import Derived.Test.YtimgdhdfefldpaaM9
namespace Go.Proofs.Ytimgdhdfefldpaa.Mg
open Go.Proofs.Ytimgdhdfefldpaa
open Go.Proofs.Ytimgdhdfefldpaa.Sk (Ent Goes Up)

theorem find_asked {p : Int} : ∀ (b : Bool) (g : List Ent) (pins : List Int), p ∈ pins → (asked b g pins).find? (fun e => decide (e.seq ≤ p)) = g.find? (fun e => decide (e.seq ≤ p))
  | _, [], _, _ => rfl
  | b, e :: l, pins, hp => by
    rw [asked]
    by_cases h : e.seq ≤ p
    · rw [if_pos (by rw [Bool.or_eq_true]; exact .inr (List.any_eq_true.2 ⟨p, hp, decide_eq_true h⟩)), List.find?_cons, List.find?_cons, decide_eq_true h]
    · have hf : p ∈ pins.filter (fun q => decide (q < e.seq)) := List.mem_filter.2 ⟨hp, decide_eq_true (by omega)⟩
      have ih := find_asked false l _ hf
      rw [List.find?_cons, decide_eq_false h]
      split
      · rw [List.find?_cons, decide_eq_false h]; exact ih
      · exact ih
theorem find_first {p : Int} {e : Ent} {l : List Ent} (pins : List Int) (h : e.seq ≤ p) : (asked true (e :: l) pins).find? (fun e => decide (e.seq ≤ p)) = some e := by
  rw [asked, if_pos (by simp), List.find?_cons, decide_eq_true h]
theorem mem_while : ∀ (l : List Ent) (x : Ent), x ∈ l.takeWhile (·.gone) → x.gone = true
  | [], _, h => by cases h
  | a :: l, x, h => by
    rw [List.takeWhile_cons] at h
    split at h
    · rename_i ha
      rcases List.mem_cons.1 h with rfl | h
      · exact ha
      · exact mem_while l x h
    · cases h
theorem strip_cut (k : List Ent) : ∃ t, k = strip k ++ t ∧ ∀ x ∈ t, x.gone = true := by
  refine ⟨(k.reverse.takeWhile (·.gone)).reverse, ?_, fun x hx => ?_⟩
  · unfold strip
    rw [← List.reverse_append, List.takeWhile_append_dropWhile, List.reverse_reverse]
  · have := List.mem_reverse.1 hx
    exact mem_while _ x this
theorem seen_find {s : Int} {g g' : List Ent} (h : g.find? (fun e => decide (e.seq ≤ s)) = g'.find? (fun e => decide (e.seq ≤ s))) : seen s g = seen s g' := by unfold seen; rw [h]
theorem seen_strip (s : Int) (k : List Ent) : seen s (strip k) = seen s k := by
  obtain ⟨t, h, ht⟩ := strip_cut k
  conv => rhs; rw [h]
  unfold seen
  rw [List.find?_append]
  cases hf : (strip k).find? (fun e => decide (e.seq ≤ s)) with
  | some e => rfl
  | none =>
    simp only [Option.none_or]
    cases hg : t.find? (fun e => decide (e.seq ≤ s)) with
    | none => rfl
    | some e =>
      simp only
      rw [if_pos (ht e (List.mem_of_find?_eq_some hg))]
theorem seen_kept {p : Int} {pins : List Int} (b : Bool) (g : List Ent) (h : p ∈ pins ∨ ∀ e ∈ g, e.seq ≤ p) : seen p (kept pins b g) = seen p g := by
  have h1 : seen p (asked true g pins) = seen p g := by
    rcases h with h | h
    · exact seen_find (find_asked true g pins h)
    · cases g with
      | nil => rfl
      | cons e l => exact seen_find ((find_first pins (h e (List.mem_cons_self ..))).trans (by rw [List.find?_cons, decide_eq_true (h e (List.mem_cons_self ..))]))
  unfold kept
  split
  · rw [seen_strip]; exact h1
  · exact h1
theorem asked_sub : ∀ (b : Bool) (g : List Ent) (pins : List Int), (asked b g pins).Sublist g
  | _, [], _ => List.Sublist.refl _
  | b, e :: l, pins => by
    have ih := asked_sub false l (pins.filter fun p => decide (p < e.seq))
    rw [asked]
    split
    · exact ih.cons_cons e
    · exact ih.cons e
theorem strip_sub (k : List Ent) : (strip k).Sublist k := by
  obtain ⟨t, h, _⟩ := strip_cut k
  conv => rhs; rw [h]
  exact List.sublist_append_left _ _
theorem kept_sub (pins : List Int) (b : Bool) (g : List Ent) : (kept pins b g).Sublist g := by
  unfold kept
  split
  · exact (strip_sub _).trans (asked_sub _ _ _)
  · exact asked_sub _ _ _
theorem asked_twice : ∀ (b : Bool) (g : List Ent) (pins : List Int), asked b (asked b g pins) pins = asked b g pins
  | _, [], _ => rfl
  | b, e :: l, pins => by
    have ih := asked_twice false l (pins.filter fun p => decide (p < e.seq))
    rw [asked]
    split
    · rename_i h
      rw [asked, if_pos h, ih]
    · rename_i h
      have hb : b = false := by cases b; rfl; simp at h
      have hp : pins.filter (fun p => decide (p < e.seq)) = pins := by
        rw [List.filter_eq_self]
        intro x hx
        rw [Bool.or_eq_true, not_or] at h
        have h2 := h.2
        rw [List.any_eq_true] at h2
        refine decide_eq_true ?_
        rcases Int.lt_or_le x e.seq with h3 | h3
        · exact h3
        · exact absurd ⟨x, hx, decide_eq_true h3⟩ h2
      rw [hp] at ih ⊢
      rw [hb]
      exact ih
theorem asked_app : ∀ (b : Bool) (A T : List Ent) (pins : List Int), ∃ T', asked b (A ++ T) pins = asked b A pins ++ T' ∧ T'.length ≤ T.length
  | b, [], T, pins => ⟨asked b T pins, rfl, asked_len b T pins⟩
  | b, e :: A, T, pins => by
    obtain ⟨T', h1, h2⟩ := asked_app false A T (pins.filter fun p => decide (p < e.seq))
    refine ⟨T', ?_, h2⟩
    rw [List.cons_append, asked, asked, h1]
    split
    · rfl
    · rfl
theorem strip_twice (k : List Ent) : strip (strip k) = strip k := by
  unfold strip
  rw [List.reverse_reverse]
  congr 1
  cases h : k.reverse.dropWhile (·.gone) with
  | nil => rfl
  | cons x l =>
    have hx : ¬ x.gone = true := by
      have := List.head?_dropWhile_not (·.gone) k.reverse
      rw [h] at this
      simpa using this
    rw [List.dropWhile_cons, if_neg hx]
theorem kept_twice (pins : List Int) (b : Bool) (g : List Ent) : kept pins b (kept pins b g) = kept pins b g := by
  unfold kept
  cases b with
  | false => exact asked_twice true g pins
  | true =>
    simp only [if_true]
    obtain ⟨t, h, _⟩ := strip_cut (asked true g pins)
    obtain ⟨T', h1, h2⟩ := asked_app true (strip (asked true g pins)) t pins
    rw [← h, asked_twice] at h1
    have h3 := asked_len true (strip (asked true g pins)) pins
    have h4 := congrArg List.length h
    have h5 := congrArg List.length h1
    rw [List.length_append] at h4 h5
    have h6 : asked true (strip (asked true g pins)) pins = strip (asked true g pins) := by
      have h7 : strip (asked true g pins) ++ t = asked true (strip (asked true g pins)) pins ++ T' := by rw [← h, ← h1]
      exact (List.append_inj h7 (by omega)).1.symm
    rw [h6, strip_twice]
/-- Entries of one key, and behind them those of others. -/
theorem parts_app {k : List UInt8} : ∀ {A B : List Ent}, A ≠ [] → (∀ x ∈ A, x.key = k) → (∀ x, B.head? = some x → x.key ≠ k) → parts oneKey (A ++ B) = A :: parts oneKey B
  | [], _, h, _, _ => absurd rfl h
  | [a], [], _, _, _ => rfl
  | [a], b :: B, _, h1, h2 => by
    have : oneKey a b = false := decide_eq_false (fun e => h2 b rfl (by rw [← e]; exact h1 a (List.mem_cons_self ..)))
    exact parts_no this
  | a :: a' :: A, B, _, h1, h2 => by
    have ih := parts_app (A := a' :: A) (B := B) (by simp) (fun x hx => h1 x (List.mem_cons_of_mem _ hx)) h2
    have hk : oneKey a a' = true := decide_eq_true ((h1 a (List.mem_cons_self ..)).trans (h1 a' (by simp)).symm)
    exact parts_yes ih hk
theorem up_cut : ∀ {l : List Ent} {k : List UInt8}, Up l → (∀ x ∈ l, x.key = k ∨ less k x.key = true) → ∃ A B, l = A ++ B ∧ (∀ x ∈ A, x.key = k) ∧ ∀ x ∈ B, less k x.key = true
  | [], _, _, _ => ⟨[], [], rfl, (fun _ h => by cases h), (fun _ h => by cases h)⟩
  | a :: l, k, hu, h => by
    obtain ⟨A, B, e, hA, hB⟩ := up_cut hu.2 (fun x hx => h x (List.mem_cons_of_mem _ hx))
    rcases h a (List.mem_cons_self ..) with ha | ha
    · exact ⟨a :: A, B, by rw [e]; rfl, fun x hx => by rcases List.mem_cons.1 hx with rfl | hx; exact ha; exact hA x hx, hB⟩
    · refine ⟨[], a :: l, rfl, (fun _ h => by cases h), fun x hx => ?_⟩
      rcases List.mem_cons.1 hx with rfl | hx
      · exact ha
      · have := hu.1 x hx
        unfold Goes Sk.aheadOf at this
        split at this
        · rename_i e; rw [← e]; exact ha
        · exact less_trans ha this
/-- A row's first key, and what is behind it. -/
theorem up_dec {a : Ent} {l : List Ent} (hu : Up (a :: l)) : ∃ A B, a :: l = A ++ B ∧ A ≠ [] ∧ (∀ x ∈ A, x.key = a.key) ∧ (∀ x ∈ B, less a.key x.key = true) ∧ B.length < (a :: l).length := by
  obtain ⟨A, B, e, hA, hB⟩ := up_cut (k := a.key) hu.2 (fun x hx => by
    have := hu.1 x hx
    unfold Goes Sk.aheadOf at this
    split at this
    · rename_i e; exact .inl e.symm
    · exact .inr this)
  refine ⟨a :: A, B, by rw [e]; rfl, by simp, fun x hx => by rcases List.mem_cons.1 hx with rfl | hx; rfl; exact hA x hx, hB, ?_⟩
  rw [e]
  simp
  omega
theorem less_ne {k k' : List UInt8} (h : less k k' = true) : k' ≠ k := fun e => by rw [e, less_irrefl] at h; cases h
theorem vis_app {k : List UInt8} {A B : List Ent} (s : Int) (h1 : ∀ x ∈ A, x.key = k) (h2 : ∀ x, B.head? = some x → x.key ≠ k) : vis (A ++ B) s = seen s A ++ vis B s := by
  cases A with
  | nil => rfl
  | cons a A =>
    unfold vis
    rw [parts_app (by simp) h1 h2]
    rfl
theorem prune_app {k : List UInt8} {A B : List Ent} (pins : List Int) (b : Bool) (h1 : ∀ x ∈ A, x.key = k) (h2 : ∀ x, B.head? = some x → x.key ≠ k) : prune (A ++ B) pins b = kept pins b A ++ prune B pins b := by
  cases A with
  | nil =>
    have : kept pins b [] = [] := by unfold kept; split <;> rfl
    rw [this]
    rfl
  | cons a A =>
    unfold prune
    rw [parts_app (by simp) h1 h2]
    rfl
theorem prune_sub (l : List Ent) (pins : List Int) (b : Bool) : (prune l pins b).Sublist l := by
  have h : ∀ gs : List (List Ent), ((gs.map (kept pins b)).flatten).Sublist gs.flatten := fun gs => by
    induction gs with
    | nil => exact List.Sublist.refl _
    | cons g gs ih => exact (kept_sub pins b g).append ih
  have := h (parts oneKey l)
  rwa [parts_flat] at this
theorem head_ne {k : List UInt8} {B : List Ent} (h : ∀ x ∈ B, less k x.key = true) : ∀ x, B.head? = some x → x.key ≠ k := fun x hx => less_ne (h x (List.mem_of_mem_head? hx))
theorem vis_prune {p : Int} {pins : List Int} (b : Bool) : ∀ (n : Nat) (l : List Ent), l.length ≤ n → Up l → (p ∈ pins ∨ ∀ e ∈ l, e.seq ≤ p) → vis (prune l pins b) p = vis l p
  | 0, l, hn, _, _ => by rw [List.length_eq_zero_iff.1 (Nat.le_zero.1 hn)]; rfl
  | n + 1, [], _, _, _ => rfl
  | n + 1, a :: l, hn, hu, h => by
    obtain ⟨A, B, e, _, hA, hB, hl⟩ := up_dec hu
    have hu2 := hu
    rw [e] at hu2
    have ih := vis_prune (p := p) (pins := pins) b n B (by omega) (up_append.1 hu2).2.1 (by
      rcases h with h | h
      · exact .inl h
      · exact .inr (fun x hx => h x (by rw [e]; exact List.mem_append_right _ hx)))
    have hk : ∀ x ∈ kept pins b A, x.key = a.key := fun x hx => hA x ((kept_sub pins b A).mem hx)
    have hp : ∀ x ∈ prune B pins b, less a.key x.key = true := fun x hx => hB x ((prune_sub B pins b).mem hx)
    rw [e, prune_app pins b hA (head_ne hB), vis_app p hk (head_ne hp), vis_app p hA (head_ne hB), ih, seen_kept b A (by
      rcases h with h | h
      · exact .inl h
      · exact .inr (fun x hx => h x (by rw [e]; exact List.mem_append_left _ hx)))]
theorem prune_twice {pins : List Int} (b : Bool) : ∀ (n : Nat) (l : List Ent), l.length ≤ n → Up l → prune (prune l pins b) pins b = prune l pins b
  | 0, l, hn, _ => by rw [List.length_eq_zero_iff.1 (Nat.le_zero.1 hn)]; rfl
  | n + 1, [], _, _ => rfl
  | n + 1, a :: l, hn, hu => by
    obtain ⟨A, B, e, _, hA, hB, hl⟩ := up_dec hu
    have hu2 := hu
    rw [e] at hu2
    have ih := prune_twice (pins := pins) b n B (by omega) (up_append.1 hu2).2.1
    have hk : ∀ x ∈ kept pins b A, x.key = a.key := fun x hx => hA x ((kept_sub pins b A).mem hx)
    have hp : ∀ x ∈ prune B pins b, less a.key x.key = true := fun x hx => hB x ((prune_sub B pins b).mem hx)
    rw [e, prune_app pins b hA (head_ne hB), prune_app pins b hk (head_ne hp), ih, kept_twice]
theorem up_sub : ∀ {l m : List Ent}, l.Sublist m → Up m → Up l
  | _, _, .slnil, _ => trivial
  | _, _, .cons a h, hm => up_sub h hm.2
  | _, _, .cons_cons a h, hm => ⟨fun b hb => hm.1 b (h.mem hb), up_sub h hm.2⟩
end Go.Proofs.Ytimgdhdfefldpaa.Mg
