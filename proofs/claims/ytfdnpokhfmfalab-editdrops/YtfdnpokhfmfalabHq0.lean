/- EditDrops over plain lists; no walk. -/
import Derived.Test.YtfdnpokhfmfalabHg
namespace Go.Proofs.Ytfdnpokhfmfalab.Ed
theorem kept_all (l : List Nt) : kept l (nums l) = [] := by
  unfold kept
  rw [List.filter_eq_nil_iff]
  intro m hm
  have h3 : (nums l).contains m.num = true := List.contains_iff_mem.2 (List.mem_map_of_mem hm)
  rw [h3]
  decide
theorem drops_tabs (v : Ver) : (after v (nums v.tabs) []).tabs = [] := by
  unfold after
  simp only
  rw [kept_all, List.append_nil]
  exact List.length_eq_zero_iff.1 (by rw [(srt_perm _).length_eq]; rfl)
theorem drops_yes {v : Ver} (h : chk v = true) (hg : v.gen ≠ 1099511627776) : applies v (nums v.tabs) [] = true := by
  obtain ⟨q1, q2, q3, q4, _⟩ := chk_parts h
  have hb := isNum_bounds q1
  have hl : (kept v.tabs (nums v.tabs)).length + (nums v.tabs).length = v.tabs.length := by
    rw [kept_all]
    unfold nums
    rw [List.length_map]
    simp
  unfold applies
  rw [h, decide_eq_true hl, Bool.true_and, Bool.true_and]
  unfold chk
  rw [drops_tabs]
  show (isNum (v.gen + 1) && isNum v.next && isNum v.log && isNum v.seq && notesOk [] v.next) = true
  have e : isNum (v.gen + 1) = true := by
    unfold isNum
    rw [decide_eq_true (by omega), decide_eq_true (by omega)]
    rfl
  rw [q2, q3, q4, e]
  rfl
theorem drops_none {v : Ver} (h : v.tabs = []) : applies v [0] [] = false := by
  unfold applies
  have : decide ((kept v.tabs [0]).length + [(0 : Int)].length = v.tabs.length) = false := by rw [h]; decide
  rw [this, Bool.and_false, Bool.false_and]
end Go.Proofs.Ytfdnpokhfmfalab.Ed
