/- The document's Apply over plain lists; no walk. -/
import Derived.Test.YtbahldabcieiaaaRc0
namespace Go.Proofs.Ytbahldabcieiaaa.Ed

theorem weak_put {l : List Nt} {m : Nt} {k : Nat} (hw : Weak l) (h1 : ∀ (j : Nat) (x : Nt), j < k → l[j]? = some x → rahead x m = true) (h2 : ∀ x, l[k]? = some x → rahead x m = false) : Weak (l.take k ++ [m] ++ l.drop k) := by
  have hs : Weak (l.take k ++ l.drop k) := by rw [List.take_append_drop]; exact hw
  obtain ⟨pa, pb, pc⟩ := List.pairwise_append.1 hs
  have ha : ∀ a ∈ l.take k, ahead a m := fun a ha => by
    obtain ⟨j, hj⟩ := List.mem_iff_getElem?.1 ha
    rw [List.getElem?_take] at hj
    split at hj
    · rename_i hjk
      exact rahead_iff.1 (h1 j a hjk hj)
    · cases hj
  have hb : ∀ b ∈ l.drop k, ¬ ahead b m := fun b hb => by
    have h3 : ∀ x, (l.drop k)[0]? = some x → ¬ ahead x m := fun x hx e => by
      rw [List.getElem?_drop, Nat.add_zero] at hx
      have := h2 x hx
      rw [rahead_iff.2 e] at this
      cases this
    cases hd : l.drop k with
    | nil => rw [hd] at hb; cases hb
    | cons b0 B =>
      rw [hd] at hb pb h3
      have h4 := h3 b0 rfl
      rcases List.mem_cons.1 hb with rfl | hb
      · exact h4
      · exact apart_trans ((List.pairwise_cons.1 pb).1 b hb) h4
  refine List.pairwise_append.2 ⟨List.pairwise_append.2 ⟨pa, List.pairwise_singleton _ _, fun a haa b hbb => ?_⟩, pb, fun a haa b hbb => ?_⟩
  · rw [List.mem_singleton.1 hbb]
    exact fun e => ahead_irrefl _ (ahead_trans (ha a haa) e)
  · rcases List.mem_append.1 haa with haa | haa
    · exact pc a haa b hbb
    · rw [List.mem_singleton.1 haa]
      exact hb b hbb
theorem put_perm (l : List Nt) (m : Nt) (k : Nat) : (l.take k ++ [m] ++ l.drop k).Perm (l ++ [m]) := by
  have h : (l.take k ++ ([m] ++ l.drop k)).Perm (l.take k ++ (l.drop k ++ [m])) := List.Perm.append_left _ List.perm_append_comm
  rw [List.append_assoc]
  refine h.trans ?_
  rw [← List.append_assoc, List.take_append_drop]
/-- How far the document has come with the notes that are added. -/
structure Puts (K add : List Nt) (i : Nat) (D : List Nt) : Prop where
  perm : D.Perm (K ++ add.take i)
  weak : Weak D
theorem Puts.next {K add D : List Nt} {i k : Nat} {m : Nt} (h : Puts K add i D) (hm : add[i]? = some m) (h1 : ∀ (j : Nat) (x : Nt), j < k → D[j]? = some x → rahead x m = true) (h2 : ∀ x, D[k]? = some x → rahead x m = false) : Puts K add (i + 1) (D.take k ++ [m] ++ D.drop k) := by
  refine ⟨(put_perm D m k).trans ?_, weak_put h.weak h1 h2⟩
  rw [List.take_add_one, hm, ← List.append_assoc]
  exact List.Perm.append_right _ h.perm
theorem kept_weak {v : Ver} (h : chk v = true) (drop : List Int) : Weak (kept v.tabs drop) := by
  have h1 := notes_strict (chk_parts h).2.2.2.2
  exact ((h1.imp fun {a b} hab hba => ahead_irrefl _ (ahead_trans hab hba)).filter _)
theorem Puts.start {v : Ver} (h : chk v = true) (drop : List Int) (add : List Nt) : Puts (kept v.tabs drop) add 0 (kept v.tabs drop) := ⟨by rw [List.take_zero, List.append_nil], kept_weak h drop⟩
/-- Whether a number to be dropped is a note's, and none ahead of it. -/
def okDr (l : List Nt) (drop : List Int) (i : Nat) : Bool :=
  match drop[i]? with
  | some d => (nums l).contains d && !((drop.take i).contains d)
  | none => true
def dropsD (l : List Nt) (drop : List Int) : Bool := (List.range drop.length).all (okDr l drop)
theorem hits_step (d : Int) (ds : List Int) : ∀ l : List Nt, (nums l).Nodup → (l.filter fun m => (ds ++ [d]).contains m.num).length = (l.filter fun m => ds.contains m.num).length + (if (nums l).contains d && !(ds.contains d) then 1 else 0)
  | [], _ => rfl
  | m :: l, h => by
    have hc := List.nodup_cons.1 (show (m.num :: nums l).Nodup from h)
    have ih := hits_step d ds l hc.2
    have e0 : (ds ++ [d]).contains m.num = (ds.contains m.num || m.num == d) := by rw [Bool.eq_iff_iff]; simp
    have e1 : (nums (m :: l)).contains d = (d == m.num || (nums l).contains d) := by
      show (m.num :: nums l).contains d = _
      rw [List.contains_cons]
    rw [List.filter_cons, List.filter_cons, e0, e1]
    by_cases hd : m.num = d
    · have h2 : (nums l).contains d = false := by
        rw [← hd]
        simpa using hc.1
      rw [h2] at ih ⊢
      have h3 : (m.num == d) = true := by simpa using hd
      have h4 : (d == m.num) = true := by simpa using hd.symm
      rw [h3, h4, Bool.or_true, if_pos rfl, List.length_cons, ih]
      rw [hd]
      cases hds : ds.contains d with
      | true => simp
      | false => simp
    · have h3 : (m.num == d) = false := by simpa using hd
      have h4 : (d == m.num) = false := by simpa using fun e => hd e.symm
      rw [h3, h4, Bool.or_false, Bool.false_or]
      cases hm : ds.contains m.num with
      | true => rw [if_pos rfl, if_pos rfl, List.length_cons, List.length_cons, ih]; omega
      | false => rw [if_neg (by decide), if_neg (by decide), ih]
theorem kept_hits (ds : List Int) : ∀ l : List Nt, (kept l ds).length + (l.filter fun m => ds.contains m.num).length = l.length
  | [] => rfl
  | m :: l => by
    have ih := kept_hits ds l
    unfold kept at ih ⊢
    rw [List.filter_cons, List.filter_cons]
    cases h : ds.contains m.num with
    | true => rw [if_neg (by decide), if_pos rfl, List.length_cons, List.length_cons]; omega
    | false => rw [if_pos (by decide), if_neg (by decide), List.length_cons, List.length_cons]; omega
theorem hits_le {l : List Nt} (h : (nums l).Nodup) (drop : List Int) : ∀ k, k ≤ drop.length → (l.filter fun m => (drop.take k).contains m.num).length ≤ k ∧ ((l.filter fun m => (drop.take k).contains m.num).length = k ↔ ∀ i, i < k → okDr l drop i = true)
  | 0, _ => by
    have : (l.filter fun m => (drop.take 0).contains m.num) = [] := List.filter_eq_nil_iff.2 (fun m _ => by simp)
    rw [this]
    exact ⟨Nat.le_refl _, fun _ i hi => by omega, fun _ => rfl⟩
  | k + 1, hk => by
    obtain ⟨h1, h2⟩ := hits_le h drop k (by omega)
    have hd : drop[k]? = some drop[k] := List.getElem?_eq_getElem (by omega)
    have h3 := hits_step drop[k] (drop.take k) l h
    have e : drop.take (k + 1) = drop.take k ++ [drop[k]] := by rw [List.take_add_one, hd]; rfl
    have ok : okDr l drop k = ((nums l).contains drop[k] && !((drop.take k).contains drop[k])) := by unfold okDr; rw [hd]
    rw [← ok, ← e] at h3
    rw [h3]
    cases ho : okDr l drop k with
    | true =>
      rw [if_pos rfl]
      refine ⟨by omega, fun h4 i hi => ?_, fun h4 => ?_⟩
      · rcases Nat.lt_or_ge i k with hlt | hge
        · exact h2.1 (by omega) i hlt
        · obtain rfl : i = k := by omega
          exact ho
      · have := h2.2 (fun i hi => h4 i (by omega))
        omega
    | false =>
      rw [if_neg (by decide)]
      refine ⟨by omega, fun h4 => by omega, fun h4 => ?_⟩
      have := h4 k (by omega)
      rw [ho] at this
      cases this
theorem drops_eq {l : List Nt} (h : (nums l).Nodup) (drop : List Int) : dropsD l drop = decide ((kept l drop).length + drop.length = l.length) := by
  have h1 := (hits_le h drop drop.length (Nat.le_refl _)).2
  rw [List.take_length] at h1
  have h2 := kept_hits drop l
  rw [Bool.eq_iff_iff, decide_eq_true_iff]
  unfold dropsD
  rw [List.all_eq_true]
  refine ⟨fun h3 => ?_, fun h3 i hi => ?_⟩
  · have := h1.2 (fun i hi => h3 i (List.mem_range.2 hi))
    omega
  · exact h1.1 (by omega) i (List.mem_range.1 hi)
theorem drops_no {l : List Nt} {drop : List Int} {k : Nat} (hk : k < drop.length) (h : okDr l drop k = false) : dropsD l drop = false := by
  cases hs : dropsD l drop with
  | false => rfl
  | true =>
    unfold dropsD at hs
    rw [List.all_eq_true.1 hs k (List.mem_range.2 hk)] at h
    cases h
theorem drops_yes {l : List Nt} {drop : List Int} (h : ∀ i, i < drop.length → okDr l drop i = true) : dropsD l drop = true := by
  unfold dropsD
  exact List.all_eq_true.2 fun i hi => h i (List.mem_range.1 hi)
/-- What the document answers: the version, if it may be. -/
theorem doc_applies {v : Ver} {drop : List Int} {add D : List Nt} (hv : chk v = true) (hd : dropsD v.tabs drop = true) (hp : Puts (kept v.tabs drop) add add.length D) :
    applies v drop add = chk ⟨v.gen + 1, v.next, v.log, v.seq, D⟩ ∧ (chk ⟨v.gen + 1, v.next, v.log, v.seq, D⟩ = true → (after v drop add) = ⟨v.gen + 1, v.next, v.log, v.seq, D⟩) := by
  have hperm := hp.perm
  rw [List.take_length] at hperm
  obtain ⟨h1, h2⟩ := after_uniq hperm hp.weak
  have hn := notes_nodup (chk_parts hv).2.2.2.2
  rw [drops_eq hn] at hd
  refine ⟨?_, fun h3 => ?_⟩
  · unfold applies
    rw [hv, hd, h1]
    rfl
  · rw [h1] at h3
    have h4 := h2 h3
    rw [h4]
    rfl
theorem doc_no {v : Ver} {drop : List Int} {add : List Nt} (h : chk v = false ∨ (chk v = true ∧ dropsD v.tabs drop = false)) : applies v drop add = false := by
  unfold applies
  rcases h with h | ⟨hv, h⟩
  · rw [h]; rfl
  · rw [drops_eq (notes_nodup (chk_parts hv).2.2.2.2)] at h
    rw [h, Bool.and_false]
    rfl
end Go.Proofs.Ytbahldabcieiaaa.Ed
