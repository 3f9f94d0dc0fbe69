/- A drawn region whose last operation waits for all the others: that operation may be parted from it; no walk. -/
/- A drawn region's last operation parted from it, as one step; operations taken by hand; no walk. -/
import Derived.Test.YtogphpejdnhnjaaGreatDoorJoinHk
namespace Go.Proofs.YtogphpejdnhnjaaGreatDoor
open Go.RowKit

/-- The region's post, ahead of its last operation. -/
def LastQ (P : Program) (o : Oper) (Q : Exit → Act → World → Prop) : Exit → Act → World → Prop
  | .normal, a, w => o.wp P a w (fun a' w' => Q .normal a' w') Q
  | .exit i, a, w => Q (.exit i) a w
  | .ret, a, w => Q .ret a w
  | .panic c, a, w => Q (.panic c) a w
  | .outgrown, a, w => Q .outgrown a w
  | .goto i, a, w => Q (.goto i) a w
section
variable {P : Program} {md : Region.Mode} {ops ops' : Array Oper} {Q : Exit → Act → World → Prop} {L : Nat} {o o' : Oper}
theorem wp_lastQ {p : Oper} {a : Act} {w : World} {K K' : Act → World → Prop} (hK : ∀ a w, K a w → K' a w) (h : p.wp P a w K (LastQ P o Q)) : p.wp P a w K' Q := by
  unfold Oper.wp at *
  generalize (execOp a.eval p).run P w = r at *
  cases r with
  | ok n w' =>
    cases n with
    | enter f args =>
      refine Calls.mono h fun e w'' he => ?_
      cases e with
      | returned u => exact hK _ _ he
      | panicked c => exact he
      | outgrown => exact he
    | row row args => exact Rows.mono h fun u w'' he => hK _ _ he
    | value u => exact hK _ _ h
    | skip => exact hK _ _ h
    | defer d => exact hK _ _ h
    | _ => exact h
  | halt x w' => cases x <;> exact h
theorem ready_same (hsz : ops'.size = ops.size) (hL : ops[L]? = some o) (hL' : ops'[L]? = some o') (hsame : ∀ j, j ≠ L → ops'[j]? = ops[j]?) (haf : o'.after = o.after) (listed : Array Bool) : Region.ready md ops' listed = Region.ready md ops listed := by
  unfold Region.ready
  rw [hsz]
  refine List.filter_congr fun i _ => ?_
  by_cases h : i = L
  · subst h; rw [hL, hL']; simp [haf]
  · rw [hsame i h]
theorem yielded_same (hL : ops[L]? = some o) (hL' : ops'[L]? = some o') (hsame : ∀ j, j ≠ L → ops'[j]? = ops[j]?) (hd : o.dst = none) (hd' : o'.dst = none) (t : Array Value) : yielded ops' t = yielded ops t := by
  funext j
  unfold yielded
  by_cases h : j = L
  · subst h; rw [hL, hL']; simp [hd, hd']
  · rw [hsame j h]
theorem getD_flip {l : Array Bool} {j : Nat} (hj : j < l.size) : l.getD j false = l.getD j true := by simp [Array.getD, hj]
theorem ready_some (htop : ∀ (j : Nat) (oj : Oper), ops[j]? = some oj → ∀ e ∈ oj.after, e.on < j) {listed : Array Bool} (hs : listed.size = ops.size) : ∀ j, listed.getD j true = false → Region.ready md ops listed ≠ [] := by
  intro j
  induction j using Nat.strongRecOn with
  | _ j ih =>
    intro hj hn
    have hlt : j < listed.size := by
      rcases Nat.lt_or_ge j listed.size with h | h
      · exact h
      · rw [Array.getD_eq_getD_getElem?, Array.getElem?_eq_none h] at hj; cases hj
    have hmem : j ∈ Region.ready md ops listed := by
      refine mem_ready.2 ⟨hj, ops[j]'(by omega), Array.getElem?_eq_getElem _, fun e he _ => ?_⟩
      have hel := htop j _ (Array.getElem?_eq_getElem (by omega)) e he
      rw [getD_flip (by omega)]
      cases hx : listed.getD e.on true with
      | true => rfl
      | false => exact absurd hn (ih e.on hel hx)
    rw [hn] at hmem
    cases hmem
theorem ready_last (hL : ops[L]? = some o) (hall : ∀ j, j < ops.size → j ≠ L → ∃ e ∈ o.after, e.on = j ∧ Region.binds md e = true) {listed : Array Bool} (hs : listed.size = ops.size) (hr : L ∈ Region.ready md ops listed) : Region.ready md ops (listed.setIfInBounds L true) = [] := by
  obtain ⟨_, o2, ho2, hw⟩ := mem_ready.1 hr
  rw [hL] at ho2
  cases ho2
  rw [List.eq_nil_iff_forall_not_mem]
  intro j hj
  obtain ⟨hf, oj, hoj, _⟩ := mem_ready.1 hj
  have hjl : j < ops.size := (Array.getElem?_eq_some_iff.1 hoj).1
  by_cases h : j = L
  · subst h
    simp [Array.getD, hs, hjl] at hf
  · obtain ⟨e, he, he2, hb⟩ := hall j hjl h
    have := hw e he hb
    rw [he2, getD_flip (by omega)] at this
    have h3 : (listed.setIfInBounds L true).getD j true = listed.getD j true := by
      simp only [Array.getD_eq_getD_getElem?, Array.getElem?_setIfInBounds, if_neg (fun e => h (Eq.symm e))]
    rw [h3, this] at hf
    cases hf
theorem wpAny_last (hsz : ops'.size = ops.size) (hL : ops[L]? = some o) (hL' : ops'[L]? = some o') (hsame : ∀ j, j ≠ L → ops'[j]? = ops[j]?) (haf : o'.after = o.after) (hd : o.dst = none) (hd' : o'.dst = none) (hg : o.guard = none) (hg' : o'.guard = none)
    (hop : ∀ (a : Act) (w : World), ∃ v, (execOp a.eval o').run P w = .ok (.value v) w) (hask : ∀ (a : Act) (w : World), ¬ o'.asks P a w)
    (htop : ∀ (j : Nat) (oj : Oper), ops[j]? = some oj → ∀ e ∈ oj.after, e.on < j) (hall : ∀ j, j < ops.size → j ≠ L → ∃ e ∈ o.after, e.on = j ∧ Region.binds md e = true) :
    ∀ (fuel : Nat) (listed : Array Bool) (a : Act) (w : World), listed.size = ops.size → listed.getD L true = false → wpAny P md ops' (LastQ P o Q) fuel listed a w → wpAny P md ops Q fuel listed a w := by
  intro fuel
  induction fuel with
  | zero =>
    intro listed a w hs hl h
    exact absurd ((ready_same hsz hL hL' hsame haf listed).symm.trans h.1) (ready_some htop hs L hl)
  | succ fuel ih =>
    intro listed a w hs hl h
    refine ⟨fun h0 => absurd h0 (ready_some htop hs L hl), fun i hi => ?_⟩
    have h1 := h.2 i (by rw [ready_same hsz hL hL' hsame haf]; exact hi)
    by_cases hiL : i = L
    · subst hiL
      have hnil := ready_last hL hall hs hi
      have hnil' := (ready_same hsz hL hL' hsame haf (listed.setIfInBounds i true)).trans hnil
      unfold wpOp at h1 ⊢
      simp only [hL'] at h1
      simp only [hL]
      rw [if_pos (by simp [Region.wanted, hg'])] at h1
      rw [if_pos (by simp [Region.wanted, hg])]
      rcases h1 with h1 | h1
      · obtain ⟨v, hv⟩ := hop a w
        unfold Oper.wp at h1
        rw [hv] at h1
        have h2 : wpAny P md ops' (LastQ P o Q) fuel (listed.setIfInBounds i true) (a.put o'.dst v) w := h1
        rw [hd'] at h2
        have h3 : LastQ P o Q .normal a w := by
          cases fuel with
          | zero => exact h2.2
          | succ n => exact h2.1 hnil'
        refine .inl (Oper.wp_mono (fun a' w' hq => ?_) (show o.wp P a w (fun a' w' => Q .normal a' w') Q from h3))
        cases fuel with
        | zero => exact ⟨hnil, hq⟩
        | succ n => exact ⟨fun _ => hq, fun k hk => by rw [hnil] at hk; cases hk⟩
      · exact absurd h1.1 (hask a w)
    · have hnext : ∀ a w, wpAny P md ops' (LastQ P o Q) fuel (listed.setIfInBounds i true) a w → wpAny P md ops Q fuel (listed.setIfInBounds i true) a w := fun a w hh => by
        refine ih _ a w (by simp [hs]) ?_ hh
        simp only [Array.getD_eq_getD_getElem?, Array.getElem?_setIfInBounds, if_neg hiL] at hl ⊢
        exact hl
      unfold wpOp at h1 ⊢
      rw [hsame i hiL] at h1
      cases ho : ops[i]? with
      | none => rw [ho] at h1; exact hnext a w h1
      | some oi =>
        rw [ho] at h1
        simp only at h1 ⊢
        rw [yielded_same hL hL' hsame hd hd'] at h1
        split
        · rename_i hw
          rw [if_pos hw] at h1
          rcases h1 with h1 | ⟨h1, h2⟩
          · exact .inl (wp_lastQ hnext h1)
          · exact .inr ⟨h1, h2⟩
        · rename_i hw
          rw [if_neg hw] at h1
          exact hnext _ _ h1
end
end Go.Proofs.YtogphpejdnhnjaaGreatDoor
namespace Go.Proofs.YtogphpejdnhnjaaGreatDoor
open Go.RowKit

section
variable {P : Program} {md : Region.Mode} {ops ops' : Array Oper} {Q : Exit → Act → World → Prop} {L : Nat} {o o' : Oper}
/-- What an operation that has come up waits for has come up. -/
def ShutL (md : Region.Mode) (ops : Array Oper) (listed : Array Bool) : Prop := ∀ (j : Nat) (oj : Oper), ops[j]? = some oj → listed.getD j false = true → ∀ e ∈ oj.after, Region.binds md e = true → listed.getD e.on false = true
/-- The last operation waits for each other one, or for one that waits for it. -/
def Waits (md : Region.Mode) (ops : Array Oper) (L : Nat) (o : Oper) : Prop := ∀ j, j < ops.size → j ≠ L → ∃ e ∈ o.after, Region.binds md e = true ∧ (e.on = j ∨ ∃ om, ops[e.on]? = some om ∧ ∃ f ∈ om.after, Region.binds md f = true ∧ f.on = j)
theorem getD_set_keep {l : Array Bool} {i j : Nat} (h : l.getD j false = true) : (l.setIfInBounds i true).getD j false = true := by
  simp only [Array.getD_eq_getD_getElem?, Array.getElem?_setIfInBounds] at h ⊢
  split
  · split
    · rfl
    · rename_i h1 h2
      subst h1
      rw [Array.getElem?_eq_none (by omega)] at h
      exact h
  · exact h
theorem ShutL.set {listed : Array Bool} (h : ShutL md ops listed) (_hs : listed.size = ops.size) {i : Nat} (hi : i ∈ Region.ready md ops listed) : ShutL md ops (listed.setIfInBounds i true) := by
  intro j oj hj hl e he hb
  obtain ⟨_, o2, ho2, hw⟩ := mem_ready.1 hi
  by_cases hji : j = i
  · subst hji
    rw [hj] at ho2
    cases ho2
    exact getD_set_keep (hw e he hb)
  · refine getD_set_keep (h j oj hj ?_ e he hb)
    simp only [Array.getD_eq_getD_getElem?, Array.getElem?_setIfInBounds, if_neg (Ne.symm hji)] at hl ⊢
    exact hl
theorem ready_last2 (hL : ops[L]? = some o) (hall : Waits md ops L o) {listed : Array Bool} (hs : listed.size = ops.size) (hc : ShutL md ops listed) (hr : L ∈ Region.ready md ops listed) : Region.ready md ops (listed.setIfInBounds L true) = [] := by
  obtain ⟨_, o2, ho2, hw⟩ := mem_ready.1 hr
  rw [hL] at ho2
  cases ho2
  rw [List.eq_nil_iff_forall_not_mem]
  intro j hj
  obtain ⟨hf, oj, hoj, _⟩ := mem_ready.1 hj
  have hjl : j < ops.size := (Array.getElem?_eq_some_iff.1 hoj).1
  by_cases h : j = L
  · subst h
    simp [Array.getD, hs, hjl] at hf
  · have hlist : listed.getD j false = true := by
      obtain ⟨e, he, hb, h2⟩ := hall j hjl h
      have h1 := hw e he hb
      rcases h2 with rfl | ⟨om, hom, f, hfm, hbf, rfl⟩
      · exact h1
      · exact hc e.on om hom h1 f hfm hbf
    rw [getD_flip (by omega)] at hlist
    have h3 : (listed.setIfInBounds L true).getD j true = listed.getD j true := by
      simp only [Array.getD_eq_getD_getElem?, Array.getElem?_setIfInBounds, if_neg (fun e => h (Eq.symm e))]
    rw [h3, hlist] at hf
    cases hf
theorem wpAny_last2 (hsz : ops'.size = ops.size) (hL : ops[L]? = some o) (hL' : ops'[L]? = some o') (hsame : ∀ j, j ≠ L → ops'[j]? = ops[j]?) (haf : o'.after = o.after) (hd : o.dst = none) (hd' : o'.dst = none) (hg : o.guard = none) (hg' : o'.guard = none)
    (hop : ∀ (a : Act) (w : World), ∃ v, (execOp a.eval o').run P w = .ok (.value v) w) (hask : ∀ (a : Act) (w : World), ¬ o'.asks P a w)
    (htop : ∀ (j : Nat) (oj : Oper), ops[j]? = some oj → ∀ e ∈ oj.after, e.on < j) (hall : Waits md ops L o) :
    ∀ (fuel : Nat) (listed : Array Bool) (a : Act) (w : World), listed.size = ops.size → listed.getD L true = false → ShutL md ops listed → wpAny P md ops' (LastQ P o Q) fuel listed a w → wpAny P md ops Q fuel listed a w := by
  intro fuel
  induction fuel with
  | zero =>
    intro listed a w hs hl hc h
    exact absurd ((ready_same hsz hL hL' hsame haf listed).symm.trans h.1) (ready_some htop hs L hl)
  | succ fuel ih =>
    intro listed a w hs hl hc h
    refine ⟨fun h0 => absurd h0 (ready_some htop hs L hl), fun i hi => ?_⟩
    have h1 := h.2 i (by rw [ready_same hsz hL hL' hsame haf]; exact hi)
    by_cases hiL : i = L
    · subst hiL
      have hnil := ready_last2 hL hall hs hc hi
      have hnil' := (ready_same hsz hL hL' hsame haf (listed.setIfInBounds i true)).trans hnil
      unfold wpOp at h1 ⊢
      simp only [hL'] at h1
      simp only [hL]
      rw [if_pos (by simp [Region.wanted, hg'])] at h1
      rw [if_pos (by simp [Region.wanted, hg])]
      rcases h1 with h1 | h1
      · obtain ⟨v, hv⟩ := hop a w
        unfold Oper.wp at h1
        rw [hv] at h1
        have h2 : wpAny P md ops' (LastQ P o Q) fuel (listed.setIfInBounds i true) (a.put o'.dst v) w := h1
        rw [hd'] at h2
        have h3 : LastQ P o Q .normal a w := by
          cases fuel with
          | zero => exact h2.2
          | succ n => exact h2.1 hnil'
        refine .inl (Oper.wp_mono (fun a' w' hq => ?_) (show o.wp P a w (fun a' w' => Q .normal a' w') Q from h3))
        cases fuel with
        | zero => exact ⟨hnil, hq⟩
        | succ n => exact ⟨fun _ => hq, fun k hk => by rw [hnil] at hk; cases hk⟩
      · exact absurd h1.1 (hask a w)
    · have hnext : ∀ a w, wpAny P md ops' (LastQ P o Q) fuel (listed.setIfInBounds i true) a w → wpAny P md ops Q fuel (listed.setIfInBounds i true) a w := fun a w hh => by
        refine ih _ a w (by simp [hs]) ?_ (hc.set hs hi) hh
        simp only [Array.getD_eq_getD_getElem?, Array.getElem?_setIfInBounds, if_neg hiL] at hl ⊢
        exact hl
      unfold wpOp at h1 ⊢
      rw [hsame i hiL] at h1
      cases ho : ops[i]? with
      | none => rw [ho] at h1; exact hnext a w h1
      | some oi =>
        rw [ho] at h1
        simp only at h1 ⊢
        rw [yielded_same hL hL' hsame hd hd'] at h1
        split
        · rename_i hw
          rw [if_pos hw] at h1
          rcases h1 with h1 | ⟨h1, h2⟩
          · exact .inl (wp_lastQ hnext h1)
          · exact .inr ⟨h1, h2⟩
        · rename_i hw
          rw [if_neg hw] at h1
          exact hnext _ _ h1
end
/-- An operation that does nothing, in another's place. -/
def mute (o : Oper) : Oper := { o with dst := none, op := .move (.const (.int .i64 0)), guard := none }
def topB (ops : Array Oper) : Bool := (List.range ops.size).all fun j => match ops[j]? with
  | some oj => oj.after.toList.all (fun e => decide (e.on < j))
  | none => true
def allB (ops : Array Oper) (L : Nat) (o : Oper) : Bool := (List.range ops.size).all fun j => j == L || o.after.toList.any (fun e => Region.binds .any e && (e.on == j || match ops[e.on]? with
  | some om => om.after.toList.any (fun f => Region.binds .any f && f.on == j)
  | none => false))
theorem wp_region_parted {P : Program} {id : Nat} {ops : Array Oper} {Q : Exit → Act → World → Prop} {a : Act} {w : World} (S : World → Prop) (L : Nat) (o : Oper) (hm : P.follows .mixedOrders = true) (hL : ops[L]? = some o) (hd : o.dst = none) (hg : o.guard = none) (htop : topB ops = true) (hall : allB ops L o = true) (hS : S w.drew)
    (h : S w.drew → wpAnyH P .any (ops.setIfInBounds L (mute o)) (LastQ P o Q) S ops.size (Array.replicate ops.size false) a w.drew) : (Code.region id ops true).wp P Q a w := by
  have hlt : L < ops.size := (Array.getElem?_eq_some_iff.1 hL).1
  refine wp_region_any hm ?_
  refine wpAny_last2 (ops' := ops.setIfInBounds L (mute o)) (L := L) (o := o) (o' := mute o) (by simp) hL (by simp [hlt]) (fun j hj => by simp [Ne.symm hj]) rfl hd rfl hg rfl (fun a w => ⟨_, by simp [execOp, mute]; rfl⟩) (fun a w ha => by
    have h1 := ha.1
    have h2 : ((execOp a.eval (mute o)).runT P w #[]).2 = #[] := rfl
    rw [h2] at h1
    simp at h1) ?_ ?_ _ _ _ _ (by simp) (by simp [Array.getD, hlt]) (fun j oj _ hl => by simp [Array.getD] at hl) (wpAny_of_held _ _ _ _ (h hS))
  · intro j oj hj e he
    have := List.all_eq_true.1 htop j (List.mem_range.2 (Array.getElem?_eq_some_iff.1 hj).1)
    simp only [hj] at this
    have := List.all_eq_true.1 this e (by simpa using he)
    simpa using this
  · intro j hj hne
    have := List.all_eq_true.1 hall j (List.mem_range.2 hj)
    simp only [Bool.or_eq_true, beq_iff_eq, hne, false_or] at this
    obtain ⟨e, he, h2⟩ := List.any_eq_true.1 this
    simp only [Bool.and_eq_true, Bool.or_eq_true, beq_iff_eq] at h2
    refine ⟨e, by simpa using he, h2.1, ?_⟩
    rcases h2.2 with h3 | h3
    · exact .inl h3
    · right
      cases hom : ops[e.on]? with
      | none => rw [hom] at h3; cases h3
      | some om =>
        rw [hom] at h3
        simp only at h3
        obtain ⟨f, hf, h4⟩ := List.any_eq_true.1 h3
        simp only [Bool.and_eq_true, beq_iff_eq] at h4
        exact ⟨om, rfl, f, by simpa using hf, h4.1, h4.2⟩
end Go.Proofs.YtogphpejdnhnjaaGreatDoor
