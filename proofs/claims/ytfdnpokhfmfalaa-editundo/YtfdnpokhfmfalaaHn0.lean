/- EditUndo over plain lists; no walk. -/
import Derived.Test.YtfdnpokhfmfalaaHg
namespace Go.Proofs.Ytfdnpokhfmfalaa.Ed
theorem srt_eq0 {l l2 : List Nt} {next : Int} (hp : l2.Perm l) (h : notesOk l2 next = true) : srt l = l2 := (perm_uniq (hp.trans (srt_perm l).symm) (notes_strict h) (srt_weak l)).symm
theorem kept_nil (l : List Nt) : kept l [] = l := by unfold kept; exact List.filter_eq_self.2 (fun _ _ => rfl)
theorem after_len {v : Ver} {add : List Nt} : (after v [] add).tabs.length = v.tabs.length + add.length := by
  unfold after
  simp only
  rw [(srt_perm _).length_eq, kept_nil, List.length_append]
theorem applies_parts {v : Ver} {drop : List Int} {add : List Nt} (h : applies v drop add = true) : chk v = true ∧ chk (after v drop add) = true := by
  unfold applies at h
  simp only [Bool.and_eq_true] at h
  exact ⟨h.1.1, h.2⟩
/-- What was added, dropped again. -/
theorem undo_kept {v : Ver} {add : List Nt} (h : applies v [] add = true) : (kept (after v [] add).tabs (nums add)).Perm v.tabs := by
  obtain ⟨_, h2⟩ := applies_parts h
  have hn := notes_nodup (chk_parts h2).2.2.2.2
  have hp : (after v [] add).tabs.Perm (v.tabs ++ add) := by
    have := srt_perm (kept v.tabs [] ++ add)
    rw [kept_nil] at this
    unfold after
    simp only
    rw [kept_nil]
    exact this
  have hn2 : (nums (v.tabs ++ add)).Nodup := by
    have : (nums (after v [] add).tabs).Perm (nums (v.tabs ++ add)) := hp.map _
    exact this.nodup_iff.1 hn
  unfold kept
  refine (hp.filter _).trans ?_
  rw [List.filter_append]
  have e1 : add.filter (fun m => !(nums add).contains m.num) = [] := by
    rw [List.filter_eq_nil_iff]
    intro m hm
    have : m.num ∈ nums add := List.mem_map_of_mem hm
    have h3 : (nums add).contains m.num = true := List.contains_iff_mem.2 this
    rw [h3]
    decide
  have e2 : v.tabs.filter (fun m => !(nums add).contains m.num) = v.tabs := by
    rw [List.filter_eq_self]
    intro m hm
    unfold nums at hn2
    rw [List.map_append] at hn2
    have hd := (List.nodup_append.1 hn2).2.2 m.num (List.mem_map_of_mem hm)
    have : ¬ m.num ∈ nums add := fun e => hd m.num e rfl
    have h3 : (nums add).contains m.num = false := by
      rw [Bool.eq_false_iff]
      exact fun e => this (List.contains_iff_mem.1 e)
    rw [h3]
    rfl
  rw [e1, e2, List.append_nil]
theorem undo_tabs {v : Ver} {add : List Nt} (h : applies v [] add = true) : (after (after v [] add) (nums add) []).tabs = v.tabs := by
  obtain ⟨h1, _⟩ := applies_parts h
  have hk := undo_kept h
  unfold after
  simp only
  rw [List.append_nil]
  exact srt_eq0 (next := v.next) hk.symm (chk_parts h1).2.2.2.2
theorem undo_chk {v : Ver} {add : List Nt} (h : applies v [] add = true) : applies (after v [] add) (nums add) [] = isNum (v.gen + 1 + 1) := by
  obtain ⟨h1, h2⟩ := applies_parts h
  obtain ⟨_, q2, q3, q4, q5⟩ := chk_parts h1
  have hl : (kept (after v [] add).tabs (nums add)).length + (nums add).length = (after v [] add).tabs.length := by
    rw [(undo_kept h).length_eq, after_len]
    unfold nums
    rw [List.length_map]
  have ht := undo_tabs h
  unfold applies
  rw [h2, decide_eq_true hl, Bool.true_and, Bool.true_and]
  unfold chk
  rw [ht]
  show (isNum (v.gen + 1 + 1) && isNum v.next && isNum v.log && isNum v.seq && notesOk v.tabs v.next) = _
  rw [q2, q3, q4, q5]
  simp
theorem undo_most {v : Ver} {add : List Nt} (h : applies v [] add = true) (h2 : applies (after v [] add) (nums add) [] = false) : v.gen + 1 = 1099511627776 := by
  rw [undo_chk h] at h2
  have h3 := isNum_bounds (chk_parts (applies_parts h).2).1
  have h4 : (after v [] add).gen = v.gen + 1 := rfl
  rw [h4] at h3
  unfold isNum at h2
  simp only [Bool.and_eq_false_iff, decide_eq_false_iff_not] at h2
  omega
end Go.Proofs.Ytfdnpokhfmfalaa.Ed
