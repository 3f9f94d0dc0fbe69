/- Versions over plain lists: what Apply makes; one order alone; no walk. -/
import Derived.Test.YthaiodajfmbeaaaGreatH7
namespace Go.Proofs.YthaiodajfmbeaaaGreat.Ed

/-- None goes ahead of an earlier one. -/
def Weak (l : List Nt) : Prop := l.Pairwise fun a b => ¬ ahead b a
theorem perm_uniq : ∀ {l1 l2 : List Nt}, l1.Perm l2 → l1.Pairwise ahead → Weak l2 → l1 = l2
  | [], l2, hp, _, _ => (List.nil_perm.1 hp).symm
  | a :: t, [], hp, _, _ => by have := hp.length_eq; simp at this
  | a :: t, b :: s, hp, h1, h2 => by
    obtain ⟨h1a, h1t⟩ := List.pairwise_cons.1 h1
    obtain ⟨h2b, h2s⟩ := List.pairwise_cons.1 h2
    have hab : a = b := by
      rcases Classical.em (a = b) with h | h
      · exact h
      · have ha : a ∈ s := by
          have : a ∈ b :: s := hp.mem_iff.1 (by simp)
          rcases List.mem_cons.1 this with e | e
          · exact absurd e h
          · exact e
        have hb : b ∈ t := by
          have : b ∈ a :: t := hp.mem_iff.2 (by simp)
          rcases List.mem_cons.1 this with e | e
          · exact absurd e.symm h
          · exact e
        exact absurd (h1a b hb) (h2b a ha)
    subst hab
    rw [perm_uniq (List.Perm.cons_inv hp) h1t h2s]
/-- Of notes that may be, each goes ahead of the next one. -/
theorem notes_step {l : List Nt} {next : Int} (h : notesOk l next = true) {j : Nat} {a b : Nt} (ha : l[j]? = some a) (hb : l[j + 1]? = some b) : ahead a b := by
  unfold notesOk at h
  simp only [Bool.and_eq_true, Bool.not_eq_true'] at h
  obtain ⟨⟨⟨_, hs⟩, ht⟩, ho⟩ := h
  have hj : j + 1 < l.length := (List.getElem?_eq_some_iff.1 hb).1
  have h1 := List.all_eq_true.1 hs j (List.mem_range.2 (by omega))
  have h2 := List.all_eq_true.1 ho (j + 1) (List.mem_range.2 hj)
  have h3 := List.all_eq_true.1 ho j (List.mem_range.2 (by omega))
  rw [okN_succ hb ha] at h2
  unfold okS at h1
  rw [ha, hb] at h1
  simp only [Bool.not_eq_true', decide_eq_false_iff_not] at h1
  simp only [Bool.and_eq_true, Bool.not_eq_true'] at h2
  have hma : mayBe a = true := by
    unfold okN at h3
    rw [ha] at h3
    simp only [Bool.and_eq_true] at h3
    exact h3.1.1
  have hnum : a.num ≠ b.num := by
    have hn : (nums l).Nodup := by
      unfold twice at ht
      simpa using ht
    have hp := List.pairwise_iff_getElem.1 hn j (j + 1) (by unfold nums; rw [List.length_map]; omega) (by unfold nums; rw [List.length_map]; omega) (by omega)
    have e1 : (nums l)[j]? = some a.num := by unfold nums; rw [List.getElem?_map, ha]; rfl
    have e2 : (nums l)[j + 1]? = some b.num := by unfold nums; rw [List.getElem?_map, hb]; rfl
    obtain ⟨_, e1⟩ := List.getElem?_eq_some_iff.1 e1
    obtain ⟨_, e2⟩ := List.getElem?_eq_some_iff.1 e2
    rw [e1, e2] at hp
    exact hp
  have h1' : ¬ ahead b a := h1
  rw [ahead_iff] at h1'
  rw [ahead_iff]
  rcases Int.lt_trichotomy a.level b.level with hl | hl | hl
  · exact .inl hl
  · refine .inr ⟨hl, ?_⟩
    rcases Classical.em (a.level = 0) with h0 | h0
    · refine .inl ⟨h0, ?_⟩
      have : ¬ a.num < b.num := fun e => h1' (.inr ⟨hl.symm, .inl ⟨by omega, e⟩⟩)
      omega
    · refine .inr ⟨h0, ?_⟩
      unfold mayBe at hma
      simp only [Bool.and_eq_true, decide_eq_true_eq, Bool.not_eq_true'] at hma
      have hm := h2.2
      unfold meets at hm
      have hlv : (0 : Int) ≤ a.level := hma.1.1.1.1.1.1.2
      have hlt : 0 < a.level := by omega
      simp only [hl, decide_true, Bool.true_and] at hm
      rw [hl] at hlt
      simp only [hlt, decide_true, Bool.true_and, Bool.not_eq_false'] at hm
      have hfl : less a.last a.first = false := hma.2
      cases q : less a.first a.last with
      | true => exact less_trans q hm
      | false =>
        have := less_total q hfl
        rw [this]
        exact hm
  · exact absurd (.inl hl) h1'
theorem notes_strict {l : List Nt} {next : Int} (h : notesOk l next = true) : l.Pairwise ahead := by
  rw [List.pairwise_iff_getElem]
  have key : ∀ d i (hi : i < l.length) (hj : i + d + 1 < l.length), ahead l[i] l[i + d + 1] := by
    intro d
    induction d with
    | zero => exact fun i hi hj => notes_step h (List.getElem?_eq_getElem hi) (List.getElem?_eq_getElem hj)
    | succ d ih => exact fun i hi hj => ahead_trans (ih i hi (by omega)) (notes_step h (j := i + d + 1) (List.getElem?_eq_getElem (by omega)) (List.getElem?_eq_getElem hj))
  intro i j hi hj hij
  obtain ⟨d, rfl⟩ : ∃ d, j = i + d + 1 := ⟨j - i - 1, by omega⟩
  exact key d i hi hj
/-- Whichever order a sort has left: it is the one. -/
theorem notes_uniq {l1 l2 : List Nt} {next : Int} (hp : l1.Perm l2) (h1 : Weak l1) (h2 : Weak l2) : notesOk l1 next = notesOk l2 next ∧ (notesOk l1 next = true → l1 = l2) := by
  have a : notesOk l1 next = true → l1 = l2 := fun h => perm_uniq hp (notes_strict h) h2
  have b : notesOk l2 next = true → l2 = l1 := fun h => perm_uniq hp.symm (notes_strict h) h1
  refine ⟨?_, a⟩
  cases q1 : notesOk l1 next with
  | true => rw [← a q1, q1]
  | false =>
    cases q2 : notesOk l2 next with
    | false => rfl
    | true => rw [b q2] at q2; rw [q1] at q2; exact q2
/-- Notes in order. -/
def srt (l : List Nt) : List Nt := l.mergeSort fun a b => !decide (order b a < 0)
theorem srt_perm (l : List Nt) : (srt l).Perm l := List.mergeSort_perm _ _
theorem srt_weak (l : List Nt) : Weak (srt l) := by
  have h := List.pairwise_mergeSort (le := fun a b : Nt => !decide (order b a < 0)) (fun a b c h1 h2 => by
    simp only [Bool.not_eq_true', decide_eq_false_iff_not] at h1 h2 ⊢
    exact apart_trans h2 h1) (fun a b => by
    rcases Classical.em (order b a < 0) with h | h
    · have : ¬ order a b < 0 := fun e => ahead_irrefl _ (ahead_trans h e)
      simp [this]
    · simp [h]) l
  unfold Weak
  rw [List.pairwise_iff_getElem] at h ⊢
  intro i j hi hj hij
  have := h i j hi hj hij
  simp only [Bool.not_eq_true', decide_eq_false_iff_not] at this
  exact this
/-- The notes whose Nums are not dropped. -/
def kept (l : List Nt) (drop : List Int) : List Nt := l.filter fun m => !drop.contains m.num
/-- What a version becomes, if it may. -/
def after (v : Ver) (drop : List Int) (add : List Nt) : Ver := ⟨v.gen + 1, v.next, v.log, v.seq, srt (kept v.tabs drop ++ add)⟩
def applies (v : Ver) (drop : List Int) (add : List Nt) : Bool := chk v && decide ((kept v.tabs drop).length + drop.length = v.tabs.length) && chk (after v drop add)
/-- Whichever order a sort has left behind: the version is the one. -/
theorem after_uniq {v : Ver} {drop : List Int} {add l : List Nt} (hp : l.Perm (kept v.tabs drop ++ add)) (hw : Weak l) : chk ⟨v.gen + 1, v.next, v.log, v.seq, l⟩ = chk (after v drop add) ∧ (chk (after v drop add) = true → l = (after v drop add).tabs) := by
  have u := notes_uniq (next := v.next) (hp.trans (srt_perm _).symm) hw (srt_weak _)
  refine ⟨?_, fun h => ?_⟩
  · unfold chk after
    simp only
    rw [u.1]
  · refine u.2 ?_
    rw [u.1]
    unfold chk after at h
    simp only [Bool.and_eq_true] at h
    exact h.2
theorem chk_parts {v : Ver} (h : chk v = true) : isNum v.gen = true ∧ isNum v.next = true ∧ isNum v.log = true ∧ isNum v.seq = true ∧ notesOk v.tabs v.next = true := by
  unfold chk at h
  simp only [Bool.and_eq_true] at h
  exact ⟨h.1.1.1.1, h.1.1.1.2, h.1.1.2, h.1.2, h.2⟩
theorem isNum_bounds {n : Int} (h : isNum n = true) : 0 ≤ n ∧ n ≤ 1099511627776 := by
  unfold isNum at h
  simpa using h
theorem notes_len {l : List Nt} {next : Int} (h : notesOk l next = true) : l.length ≤ 4096 := by
  unfold notesOk at h
  simp only [Bool.and_eq_true] at h
  exact of_decide_eq_true h.1.1.1
theorem notes_may {l : List Nt} {next : Int} (h : notesOk l next = true) {m : Nt} (hm : m ∈ l) : mayBe m = true ∧ m.num < next := by
  unfold notesOk at h
  simp only [Bool.and_eq_true] at h
  obtain ⟨i, hi⟩ := List.getElem?_of_mem hm
  have h1 := List.all_eq_true.1 h.2 i (List.mem_range.2 (List.getElem?_eq_some_iff.1 hi).1)
  unfold okN at h1
  rw [hi] at h1
  simp only [Bool.and_eq_true] at h1
  exact ⟨h1.1.1, of_decide_eq_true h1.1.2⟩
theorem may_keys {m : Nt} (h : mayBe m = true) : m.first.length ≤ 64 ∧ m.last.length ≤ 64 := by
  unfold mayBe isKey at h
  simp only [Bool.and_eq_true, decide_eq_true_eq] at h
  exact ⟨h.1.1.2.2, h.1.2.2⟩
theorem notes_nodup {l : List Nt} {next : Int} (h : notesOk l next = true) : (nums l).Nodup := by
  unfold notesOk at h
  simp only [Bool.and_eq_true, Bool.not_eq_true'] at h
  have := h.1.2
  unfold twice at this
  simpa using this
end Go.Proofs.YthaiodajfmbeaaaGreat.Ed
