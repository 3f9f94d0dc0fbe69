/- What is seen earlier and later, over plain lists; no walk. -/
import Derived.Test.YtimgdhdfefldpabNm
namespace Go.Proofs.Ytimgdhdfefldpab.Mg
open Go.Proofs.Ytimgdhdfefldpab
open Go.Proofs.Ytimgdhdfefldpab.Sk (Ent Goes Up)
theorem seen_mem {s : Int} {g : List Ent} {e : Ent} (h : e ∈ seen s g) : g.find? (fun e => decide (e.seq ≤ s)) = some e ∧ e.gone = false := by
  unfold seen at h
  split at h
  · rename_i f hf
    split at h
    · cases h
    · rename_i hg
      rw [List.mem_singleton.1 h]
      exact ⟨hf, by simpa using hg⟩
  · cases h
theorem vis_mem {l : List Ent} {s : Int} {e : Ent} (h : e ∈ vis l s) : e ∈ l ∧ e.gone = false ∧ e.seq ≤ s := by
  unfold vis at h
  obtain ⟨t, ht, het⟩ := List.mem_flatten.1 h
  obtain ⟨g, hg, rfl⟩ := List.mem_map.1 ht
  obtain ⟨h1, h2⟩ := seen_mem het
  have h3 := List.find?_some h1
  refine ⟨?_, h2, by simpa using h3⟩
  have := parts_flat oneKey l
  rw [← this]
  exact List.mem_flatten.2 ⟨g, hg, List.mem_of_find?_eq_some h1⟩
theorem seen_one (s : Int) (g : List Ent) : (seen s g).length ≤ 1 := by
  unfold seen
  split
  · split <;> simp
  · simp
/-- The keys that are seen rise. -/
theorem vis_rise {s : Int} : ∀ (n : Nat) (l : List Ent), l.length ≤ n → Up l → (vis l s).Pairwise (fun a b => less a.key b.key = true)
  | 0, l, hn, _ => by rw [List.length_eq_zero_iff.1 (Nat.le_zero.1 hn)]; exact List.Pairwise.nil
  | n + 1, [], _, _ => List.Pairwise.nil
  | n + 1, a :: l, hn, hu => by
    obtain ⟨A, B, e, _, hA, hB, hl⟩ := up_dec hu
    have hu2 := hu
    rw [e] at hu2
    have ih := vis_rise (s := s) n B (by omega) (up_append.1 hu2).2.1
    rw [e, vis_app s hA (head_ne hB), List.pairwise_append]
    refine ⟨?_, ih, fun x hx y hy => ?_⟩
    · have := seen_one s A
      match seen s A, this with
      | [], _ => exact List.Pairwise.nil
      | [z], _ => exact List.pairwise_singleton _ _
      | _ :: _ :: _, h => simp at h
    · have h1 := List.mem_of_find?_eq_some (seen_mem hx).1
      rw [hA x h1]
      exact hB y (vis_mem hy).1
theorem find_later {a b : Int} (hab : a ≤ b) {k : List UInt8} : ∀ {A : List Ent}, Up A → (∀ x ∈ A, x.key = k) → ∀ {x y : Ent}, A.find? (fun e => decide (e.seq ≤ a)) = some x → A.find? (fun e => decide (e.seq ≤ b)) = some y → x.seq ≤ y.seq
  | [], _, _, _, _, h, _ => by cases h
  | z :: A, hu, hk, x, y, hx, hy => by
    rw [List.find?_cons] at hx hy
    by_cases hb : z.seq ≤ b
    · rw [decide_eq_true hb] at hy
      cases hy
      by_cases ha : z.seq ≤ a
      · rw [decide_eq_true ha] at hx
        cases hx
        exact Int.le_refl _
      · rw [decide_eq_false ha] at hx
        have h1 := hu.1 x (List.mem_of_find?_eq_some hx)
        unfold Goes Sk.aheadOf at h1
        rw [if_pos ((hk z (List.mem_cons_self ..)).trans (hk x (List.mem_cons_of_mem _ (List.mem_of_find?_eq_some hx))).symm)] at h1
        have := of_decide_eq_true h1
        omega
    · rw [decide_eq_false hb] at hy
      rw [decide_eq_false (by omega)] at hx
      exact find_later hab hu.2 (fun x hx => hk x (List.mem_cons_of_mem _ hx)) hx hy
theorem vis_later {a b : Int} (hab : a ≤ b) : ∀ (n : Nat) (l : List Ent), l.length ≤ n → Up l → ∀ {x y : Ent}, x ∈ vis l a → y ∈ vis l b → x.key = y.key → x.seq ≤ y.seq
  | 0, l, hn, _, x, y, hx, _, _ => by rw [List.length_eq_zero_iff.1 (Nat.le_zero.1 hn)] at hx; cases hx
  | n + 1, [], _, _, x, y, hx, _, _ => by cases hx
  | n + 1, c :: l, hn, hu, x, y, hx, hy, hxy => by
    obtain ⟨A, B, e, _, hA, hB, hl⟩ := up_dec hu
    have hu2 := hu
    rw [e] at hu2 hx hy
    rw [vis_app a hA (head_ne hB)] at hx
    rw [vis_app b hA (head_ne hB)] at hy
    rcases List.mem_append.1 hx with hx | hx
    · rcases List.mem_append.1 hy with hy | hy
      · exact find_later hab (up_append.1 hu2).1 hA (seen_mem hx).1 (seen_mem hy).1
      · have h1 := hB y (vis_mem hy).1
        rw [← hxy, hA x (List.mem_of_find?_eq_some (seen_mem hx).1), less_irrefl] at h1
        cases h1
    · rcases List.mem_append.1 hy with hy | hy
      · have h1 := hB x (vis_mem hx).1
        rw [hxy, hA y (List.mem_of_find?_eq_some (seen_mem hy).1), less_irrefl] at h1
        cases h1
      · exact vis_later hab n B (by omega) (up_append.1 hu2).2.1 hx hy hxy
end Go.Proofs.Ytimgdhdfefldpab.Mg
