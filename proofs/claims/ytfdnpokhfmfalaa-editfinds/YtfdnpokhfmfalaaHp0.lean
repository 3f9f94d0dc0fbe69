/- EditFinds over plain lists; no walk. -/
import Derived.Test.YtfdnpokhfmfalaaHg
import Derived.Test.YtfdnpokhfmfalaaHa
namespace Go.Proofs.Ytfdnpokhfmfalaa.Ed
theorem apart_step {l : List Nt} {next : Int} (h : notesOk l next = true) {j : Nat} {a b : Nt} (ha : l[j]? = some a) (hb : l[j + 1]? = some b) (hl : a.level = b.level) (h0 : 0 < b.level) : less a.last b.first = true := by
  unfold notesOk at h
  simp only [Bool.and_eq_true] at h
  have h2 := List.all_eq_true.1 h.2 (j + 1) (List.mem_range.2 (List.getElem?_eq_some_iff.1 hb).1)
  rw [okN_succ hb ha] at h2
  simp only [Bool.and_eq_true, Bool.not_eq_true'] at h2
  have hm := h2.2
  unfold meets at hm
  have h0' : 0 < a.level := by omega
  rw [decide_eq_true hl, decide_eq_true h0', Bool.true_and, Bool.true_and] at hm
  simpa using hm
theorem level_mono {l : List Nt} {next : Int} (h : notesOk l next = true) {i j : Nat} (hi : i < l.length) (hj : j < l.length) (hij : i < j) : (l[i]).level ≤ (l[j]).level := by
  have hs := List.pairwise_iff_getElem.1 (notes_strict h) i j hi hj hij
  rw [ahead_iff] at hs
  rcases hs with h | ⟨h, _⟩ <;> omega
theorem apart_far {l : List Nt} {next : Int} (h : notesOk l next = true) : ∀ (d j : Nat) (hj : j < l.length) (hi : j + d + 1 < l.length), (l[j]).level = (l[j + d + 1]).level → 0 < (l[j + d + 1]).level → less (l[j]).last (l[j + d + 1]).first = true
  | 0, j, hj, hi, hl, h0 => apart_step h (List.getElem?_eq_getElem hj) (List.getElem?_eq_getElem hi) hl h0
  | d + 1, j, hj, hi, hl, h0 => by
    have hm : j + d + 1 < l.length := by omega
    have m1 := level_mono h hj hm (by omega)
    have m2 := level_mono h hm hi (by omega)
    have e1 : (l[j]).level = (l[j + d + 1]).level := by omega
    have s1 := apart_far h d j hj hm e1 (by omega)
    have s2 := apart_step h (List.getElem?_eq_getElem hm) (List.getElem?_eq_getElem hi) (by omega) h0
    have hmay := (notes_may h (List.getElem_mem hm)).1
    have hle : less (l[j + d + 1]).last (l[j + d + 1]).first = false := by
      unfold mayBe at hmay
      simp only [Bool.and_eq_true, Bool.not_eq_true'] at hmay
      exact hmay.2
    have s3 : less (l[j + d + 1]).first (l[j + (d + 1) + 1]).first = true := by
      cases q : less (l[j + d + 1]).first (l[j + d + 1]).last with
      | true => exact less_trans q s2
      | false =>
        have := less_total q hle
        rw [this]
        exact s2
    exact less_trans s1 s3
/-- Two of one level above 0 do not both span a key. -/
theorem one_only {l : List Nt} {next : Int} (h : notesOk l next = true) {i j : Nat} {a b : Nt} (hij : j < i) (ha : l[j]? = some a) (hb : l[i]? = some b) (k : List UInt8) (hl : a.level = b.level) (h0 : 0 < b.level) (h1 : spans b k = true) : spans a k = false := by
  obtain ⟨hj, rfl⟩ := List.getElem?_eq_some_iff.1 ha
  obtain ⟨hi, rfl⟩ := List.getElem?_eq_some_iff.1 hb
  obtain ⟨d, rfl⟩ : ∃ d, i = j + d + 1 := ⟨i - j - 1, by omega⟩
  have hs := apart_far h d j hj hi hl h0
  unfold spans at h1 ⊢
  simp only [Bool.and_eq_true, Bool.not_eq_true'] at h1
  cases q : less (l[j]).last k with
  | true => simp
  | false =>
    exfalso
    cases q2 : less k (l[j]).last with
    | true =>
      have := less_trans q2 hs
      rw [h1.1] at this
      cases this
    | false =>
      have e := less_total q2 q
      rw [← e] at hs
      rw [h1.1] at hs
      cases hs
theorem find_len_le (l : List Nt) (k : List UInt8) (i : Nat) : (find (l.take i) k).length ≤ (find l k).length := by
  unfold find
  rw [List.length_map, List.length_map]
  have : (l.take i).filter (fun m => spans m k) ++ (l.drop i).filter (fun m => spans m k) = l.filter (fun m => spans m k) := by rw [← List.filter_append, List.take_append_drop]
  rw [← this, List.length_append]
  omega
theorem find_at {l : List Nt} {k : List UInt8} {i : Nat} {m : Nt} (h : l[i]? = some m) (hs : spans m k = true) : (find l k)[(find (l.take i) k).length]? = some m.num := by
  have e : find l k = find (l.take i) k ++ (m.num :: find (l.drop (i + 1)) k) := by
    have hl : i < l.length := (List.getElem?_eq_some_iff.1 h).1
    have hd : l.drop i = m :: l.drop (i + 1) := by
      rw [List.drop_eq_getElem_cons hl]
      rw [List.getElem?_eq_getElem hl] at h
      cases h
      rfl
    conv => lhs; rw [← List.take_append_drop i l]
    unfold find
    rw [List.filter_append, List.map_append, hd, List.filter_cons_of_pos (by simpa using hs)]
    rfl
  rw [e, List.getElem?_append_right (Nat.le_refl _), Nat.sub_self]
  rfl
end Go.Proofs.Ytfdnpokhfmfalaa.Ed
