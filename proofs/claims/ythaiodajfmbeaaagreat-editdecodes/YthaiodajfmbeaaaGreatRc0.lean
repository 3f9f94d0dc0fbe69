/- The document's Check over plain lists: it is the program's; no walk. -/
import Derived.Test.YthaiodajfmbeaaaGreatHg
namespace Go.Proofs.YthaiodajfmbeaaaGreat.Ed
/-- The document's order. -/
def rahead (a b : Nt) : Bool := if a.level ≠ b.level then decide (a.level < b.level) else if a.level = 0 then decide (b.num < a.num) else less a.first b.first
theorem rahead_iff {a b : Nt} : rahead a b = true ↔ ahead a b := by
  rw [ahead_iff]
  unfold rahead
  by_cases h1 : a.level = b.level
  · rw [if_neg (fun h => h h1)]
    by_cases h2 : a.level = 0
    · rw [if_pos h2, decide_eq_true_iff]
      exact ⟨fun h => .inr ⟨h1, .inl ⟨h2, h⟩⟩, fun h => by rcases h with h | ⟨_, ⟨_, h⟩ | ⟨h, _⟩⟩ <;> omega⟩
    · rw [if_neg h2]
      refine ⟨fun h => .inr ⟨h1, .inr ⟨h2, h⟩⟩, fun h => ?_⟩
      rcases h with h | ⟨_, ⟨h, _⟩ | ⟨_, h⟩⟩
      · omega
      · exact absurd h h2
      · exact h
  · rw [if_pos h1, decide_eq_true_iff]
    refine ⟨fun h => .inl h, fun h => ?_⟩
    rcases h with h | ⟨h, _⟩
    · exact h
    · exact absurd h h1
/-- What the document asks of a note and of the one ahead of it. -/
def okP (p m : Nt) : Bool := rahead p m && !(decide (0 < m.level) && decide (p.level = m.level) && !less p.last m.first)
def okD (l : List Nt) (next : Int) (i : Nat) : Bool :=
  match l[i]? with
  | none => true
  | some m => mayBe m && decide (m.num < next) && (match i with
    | 0 => true
    | j + 1 => match l[j]? with
      | some p => okP p m
      | none => true) && (nums (l.take i)).all (fun z => decide (z ≠ m.num))
def notesD (l : List Nt) (next : Int) : Bool := decide (l.length ≤ 4096) && (List.range l.length).all (okD l next)
theorem okD_zero {l : List Nt} {next : Int} {m : Nt} (h : l[0]? = some m) : okD l next 0 = (mayBe m && decide (m.num < next)) := by unfold okD; rw [h]; simp [nums]
theorem okD_succ {l : List Nt} {next : Int} {j : Nat} {p m : Nt} (h : l[j + 1]? = some m) (h2 : l[j]? = some p) : okD l next (j + 1) = (mayBe m && decide (m.num < next) && okP p m && (nums (l.take (j + 1))).all (fun z => decide (z ≠ m.num))) := by unfold okD; rw [h]; simp only [h2]
theorem okD_bad {l : List Nt} {next : Int} {k : Nat} {m : Nt} (h : l[k]? = some m) (h2 : (mayBe m && decide (m.num < next)) = false) : okD l next k = false := by unfold okD; rw [h]; simp only [h2, Bool.false_and]
theorem notesD_no {l : List Nt} {next : Int} {k : Nat} (hk : k < l.length) (h : okD l next k = false) : notesD l next = false := by
  have : (List.range l.length).all (okD l next) = false := by
    cases hs : (List.range l.length).all (okD l next) with
    | false => rfl
    | true => rw [List.all_eq_true.1 hs k (List.mem_range.2 hk)] at h; cases h
  unfold notesD
  rw [this, Bool.and_false]
theorem notesD_yes {l : List Nt} {next : Int} (h1 : l.length ≤ 4096) (h : ∀ k, k < l.length → okD l next k = true) : notesD l next = true := by
  unfold notesD
  rw [decide_eq_true h1, List.all_eq_true.2 (fun k hk => h k (List.mem_range.1 hk))]
  rfl
theorem notesD_eq (l : List Nt) (next : Int) : notesD l next = notesOk l next := by
  rw [Bool.eq_iff_iff]
  refine ⟨fun h => ?_, fun h => ?_⟩
  · unfold notesD at h
    simp only [Bool.and_eq_true] at h
    have hl := of_decide_eq_true h.1
    have hk : ∀ k, k < l.length → okD l next k = true := fun k hk => List.all_eq_true.1 h.2 k (List.mem_range.2 hk)
    refine notes_yes hl (sorted_yes (fun j hj => ?_)) ?_ (fun k hkl => ?_)
    · have h1 := hk (j + 1) hj
      rw [okD_succ (List.getElem?_eq_getElem hj) (List.getElem?_eq_getElem (by omega))] at h1
      simp only [Bool.and_eq_true] at h1
      have h2 := h1.1.2
      unfold okP at h2
      simp only [Bool.and_eq_true] at h2
      have h3 := rahead_iff.1 h2.1
      unfold okS
      rw [List.getElem?_eq_getElem (show j < l.length by omega), List.getElem?_eq_getElem hj]
      simp only [Bool.not_eq_true', decide_eq_false_iff_not]
      exact fun e => ahead_irrefl _ (ahead_trans h3 e)
    · unfold twice
      have : (nums l).Nodup := by
        refine List.pairwise_iff_getElem.2 fun i j hi hj hij => ?_
        unfold nums at hi hj
        rw [List.length_map] at hi hj
        obtain ⟨q, rfl⟩ : ∃ q, j = q + 1 := ⟨j - 1, by omega⟩
        have h1 := hk (q + 1) hj
        rw [okD_succ (List.getElem?_eq_getElem hj) (List.getElem?_eq_getElem (by omega))] at h1
        simp only [Bool.and_eq_true] at h1
        have h2 := List.all_eq_true.1 h1.2 (l[i]).num (by
          unfold nums
          refine List.mem_map_of_mem ?_
          rw [List.mem_iff_getElem]
          exact ⟨i, by rw [List.length_take]; omega, by rw [List.getElem_take]⟩)
        have h3 := of_decide_eq_true h2
        unfold nums
        rw [List.getElem_map, List.getElem_map]
        exact h3
      rw [decide_eq_true this]
      rfl
    · have h1 := hk k hkl
      cases k with
      | zero =>
        rw [okD_zero (List.getElem?_eq_getElem hkl)] at h1
        rw [okN_zero (List.getElem?_eq_getElem hkl)]
        exact h1
      | succ j =>
        rw [okD_succ (List.getElem?_eq_getElem hkl) (List.getElem?_eq_getElem (by omega))] at h1
        rw [okN_succ (List.getElem?_eq_getElem hkl) (List.getElem?_eq_getElem (by omega))]
        simp only [Bool.and_eq_true] at h1 ⊢
        refine ⟨h1.1.1, ?_⟩
        have h2 := h1.1.2
        unfold okP at h2
        simp only [Bool.and_eq_true, Bool.not_eq_true'] at h2
        have h3 := h2.2
        unfold meets
        rw [Bool.not_eq_true']
        by_cases e1 : (l[j]'(by omega)).level = (l[j + 1]).level
        · by_cases e0 : 0 < (l[j + 1]).level
          · rw [decide_eq_true e0, decide_eq_true e1] at h3
            rw [decide_eq_true e1, decide_eq_true (by omega)]
            simpa using h3
          · rw [decide_eq_false (show ¬ 0 < (l[j]'(by omega)).level by omega)]; simp
        · rw [decide_eq_false e1]; simp
  · refine notesD_yes (notes_len h) (fun k hk => ?_)
    have hm := notes_may h (List.getElem_mem hk)
    have hn := notes_nodup h
    cases k with
    | zero =>
      rw [okD_zero (List.getElem?_eq_getElem hk), hm.1, decide_eq_true hm.2]
      rfl
    | succ j =>
      have hs := notes_step h (List.getElem?_eq_getElem (show j < l.length by omega)) (List.getElem?_eq_getElem hk)
      rw [okD_succ (List.getElem?_eq_getElem hk) (List.getElem?_eq_getElem (by omega)), hm.1, decide_eq_true hm.2]
      have h1 : okP (l[j]'(by omega)) (l[j + 1]) = true := by
        unfold okP
        rw [rahead_iff.2 hs, Bool.true_and, Bool.not_eq_true']
        by_cases e1 : (l[j]'(by omega)).level = (l[j + 1]).level
        · by_cases e0 : 0 < (l[j + 1]).level
          · have : notesOk l next = true := h
            unfold notesOk at this
            simp only [Bool.and_eq_true] at this
            have h2 := List.all_eq_true.1 this.2 (j + 1) (List.mem_range.2 hk)
            rw [okN_succ (List.getElem?_eq_getElem hk) (List.getElem?_eq_getElem (show j < l.length by omega))] at h2
            simp only [Bool.and_eq_true, Bool.not_eq_true'] at h2
            have h3 := h2.2
            unfold meets at h3
            rw [decide_eq_true e1, decide_eq_true (show 0 < (l[j]'(by omega)).level by omega)] at h3
            rw [decide_eq_true e0, decide_eq_true e1]
            simpa using h3
          · rw [decide_eq_false e0]; simp
        · rw [decide_eq_false e1]; simp
      have h2 : (nums (l.take (j + 1))).all (fun z => decide (z ≠ (l[j + 1]).num)) = true := by
        rw [List.all_eq_true]
        intro z hz
        unfold nums at hz
        obtain ⟨m, hm2, rfl⟩ := List.mem_map.1 hz
        obtain ⟨i, hi, rfl⟩ := List.mem_iff_getElem.1 hm2
        rw [List.length_take] at hi
        rw [List.getElem_take]
        have := List.pairwise_iff_getElem.1 hn i (j + 1) (by unfold nums; rw [List.length_map]; omega) (by unfold nums; rw [List.length_map]; omega) (by omega)
        unfold nums at this
        rw [List.getElem_map, List.getElem_map] at this
        exact decide_eq_true this
      rw [h1, h2]
      rfl
end Go.Proofs.YthaiodajfmbeaaaGreat.Ed
