/- Stage 4 over plain lists: what follows; no walk. -/
import Derived.Test.YtfjhfecjbheipaaDm
namespace Go.Proofs.Ytfjhfecjbheipaa.Dk
theorem tick_files (d : Disk) : (tick d).2.files = d.files ∧ (tick d).2.cap = d.cap := by
  unfold tick
  split <;> exact ⟨rfl, rfl⟩
theorem guard_inr {dark ok : Bool} {r : Nat ⊕ List File} {l : List File} (h : guard dark ok r = .inr l) : ok = true ∧ dark = false ∧ r = .inr l := by
  unfold guard at h
  cases ok <;> cases dark <;> simp at h
  exact ⟨rfl, rfl, h⟩
/-- What the files of a raw write are like. -/
structure Fine (c : Nat) (l m : List File) (a b : List UInt8) : Prop where
  rising : Rising m
  names : ∀ f ∈ m, named f.name = true
  safes : ∀ f ∈ m, f.safe ≤ f.bytes.length
  room : used m ≤ c
  keeps : ∀ g ∈ l, g.name ≠ a → g.name ≠ b → g ∈ m
  count : m.length ≤ l.length + 1
theorem plan_fine {c : Nat} {l m : List File} {dark : Bool} {k : Nat} {a b t : List UInt8} (hr : Rising l) (hn : ∀ f ∈ l, named f.name = true) (hs : ∀ f ∈ l, f.safe ≤ f.bytes.length) (hu : used l ≤ c)
    (h : plan c l dark k a b t = .inr m) : Fine c l m a b := by
  unfold plan at h
  split at h
  · obtain ⟨ok, _, h⟩ := guard_inr h
    have ha : named a = true := by simp at ok; exact ok.1
    unfold planAppend at h
    split at h
    · rename_i f hf
      have hfm := look_some hf
      split at h
      · cases h
      · rename_i hc
        cases h
        refine ⟨put_rising _ hr, fun g hg => ?_, fun g hg => ?_, ?_, fun g hg h1 _ => ?_, put_length _ _⟩
        · rcases put_mem hg with rfl | ⟨h1, _⟩
          · exact hn f hfm.1
          · exact hn g h1
        · rcases put_mem hg with rfl | ⟨h1, _⟩
          · have := hs f hfm.1
            simp; omega
          · exact hs g h1
        · have := used_put_old (f := { f with bytes := f.bytes ++ t }) (g := f) hr (by simpa [hfm.2] using hf)
          simp [cost] at this
          omega
        · exact put_keeps hg (by simpa [hfm.2] using h1)
    · rename_i hf
      split at h
      · cases h
      · rename_i hc
        cases h
        refine ⟨put_rising _ hr, fun g hg => ?_, fun g hg => ?_, ?_, fun g hg h1 _ => ?_, put_length _ _⟩
        · rcases put_mem hg with rfl | ⟨h1, _⟩
          · exact ha
          · exact hn g h1
        · rcases put_mem hg with rfl | ⟨h1, _⟩
          · simp
          · exact hs g h1
        · have := used_put_new (f := ⟨a, 0, t⟩) hf
          simp [cost] at this
          omega
        · exact put_keeps hg h1
  · obtain ⟨ok, _, h⟩ := guard_inr h
    unfold planSync at h
    split at h
    · rename_i f hf
      have hfm := look_some hf
      cases h
      refine ⟨put_rising _ hr, fun g hg => ?_, fun g hg => ?_, ?_, fun g hg h1 _ => ?_, put_length _ _⟩
      · rcases put_mem hg with rfl | ⟨h1, _⟩
        · exact hn f hfm.1
        · exact hn g h1
      · rcases put_mem hg with rfl | ⟨h1, _⟩
        · exact Nat.le_refl _
        · exact hs g h1
      · have := used_put_old (f := { f with safe := f.bytes.length }) (g := f) hr (by simpa [hfm.2] using hf)
        simp [cost] at this
        omega
      · exact put_keeps hg (by simpa [hfm.2] using h1)
    · cases h
  · obtain ⟨ok, _, h⟩ := guard_inr h
    have hb : named b = true := by simp at ok; exact ok.2
    unfold planRename at h
    split at h
    · rename_i f hf
      have hfm := look_some hf
      split at h
      · cases h
      · rename_i hc
        cases h
        refine ⟨put_rising _ (drop_rising _ hr), fun g hg => ?_, fun g hg => ?_, ?_, fun g hg h1 h2 => ?_, ?_⟩
        · rcases put_mem hg with rfl | ⟨h1, _⟩
          · exact hb
          · exact hn g (drop_mem.1 h1).1
        · rcases put_mem hg with rfl | ⟨h1, _⟩
          · exact hs f hfm.1
          · exact hs g (drop_mem.1 h1).1
        · have hd := used_drop hr hf
          have hfa : f.name.length = a.length := by rw [hfm.2]
          by_cases hab : a = b
          · subst hab
            have := used_put_new (l := drop l a) (f := { f with name := a }) (look_dropped l a)
            simp [cost] at this hd
            omega
          · have hlk := look_drop (l := l) hab
            unfold wants at hc
            cases hg : look l b with
            | none =>
              rw [hg] at hc hlk
              have := used_put_new (l := drop l a) (f := { f with name := b }) hlk
              simp [cost] at this hd hc
              omega
            | some g =>
              rw [hg] at hc hlk
              have := used_put_old (l := drop l a) (f := { f with name := b }) (drop_rising _ hr) hlk
              simp only [if_neg hab] at hc
              simp [cost] at this hd hc
              omega
        · exact put_keeps (drop_mem.2 ⟨hg, h1⟩) h2
        · have h1 := put_length (drop l a) { f with name := b }
          have h2 := drop_less hf
          omega
    · cases h
  · obtain ⟨ok, _, h⟩ := guard_inr h
    unfold planRemove at h
    split at h
    · rename_i f hf
      cases h
      refine ⟨drop_rising _ hr, fun g hg => hn g (drop_mem.1 hg).1, fun g hg => hs g (drop_mem.1 hg).1, ?_, fun g hg h1 _ => drop_mem.2 ⟨hg, h1⟩, ?_⟩
      · have := used_drop hr hf
        omega
      · have := drop_length l a
        omega
    · cases h
theorem plan_dark {c : Nat} {l m : List File} {dark : Bool} {k : Nat} {a b t : List UInt8} (h : plan c l dark k a b t = .inr m) : dark = false := by
  unfold plan at h
  split at h <;> exact (guard_inr h).2.1

/-- A raw write: its error, and the disk as it was; or done; or the cut. -/
theorem raw_cases (d : Disk) (k : Nat) (a b t : List UInt8) : (∃ e, plan d.cap d.files d.dark k a b t = .inl e ∧ raw d k a b t = (e, d)) ∨
    (∃ m, plan d.cap d.files d.dark k a b t = .inr m ∧ raw d k a b t = write d m) := by
  unfold raw
  cases h : plan d.cap d.files d.dark k a b t with
  | inl e => exact .inl ⟨e, rfl, rfl⟩
  | inr m => exact .inr ⟨m, rfl, rfl⟩
theorem raw_good {d : Disk} (k : Nat) (a b t : List UInt8) (g : Good d) : Good (raw d k a b t).2 := by
  rcases raw_cases d k a b t with ⟨e, _, h⟩ | ⟨m, hp, h⟩
  · rw [h]; exact g
  · rw [h]
    have hf := plan_fine g.rising g.names g.safes g.room hp
    have hd := plan_dark hp
    unfold write tick
    cases hl : d.left with
    | none => exact ⟨hf.rising, hf.names, hf.safes, hf.room, fun _ => rfl⟩
    | some j =>
      cases j with
      | zero => exact ⟨g.rising, g.names, g.safes, g.room, fun _ => rfl⟩
      | succ j => exact ⟨hf.rising, hf.names, hf.safes, hf.room, fun h => by simp [hd] at h⟩
/-- A raw write turns no file but those that it names (DiskApart). -/
theorem raw_keeps {d : Disk} (k : Nat) (a b t : List UInt8) (g : Good d) : (∀ f ∈ d.files, f.name ≠ a → f.name ≠ b → f ∈ (raw d k a b t).2.files) ∧ (raw d k a b t).2.files.length ≤ d.files.length + 1 := by
  rcases raw_cases d k a b t with ⟨e, _, h⟩ | ⟨m, hp, h⟩
  · rw [h]; exact ⟨fun f hf _ _ => hf, by simp⟩
  · rw [h]
    have hf := plan_fine g.rising g.names g.safes g.room hp
    unfold write
    split
    · exact ⟨hf.keeps, hf.count⟩
    · rw [(tick_files d).1]
      exact ⟨fun f hf _ _ => hf, by simp⟩
/-- A renamed file has its bytes, and what is sure of them (DiskMoves). -/
theorem rename_moves {d : Disk} {a b t : List UInt8} (g : Good d) (h : (raw d 2 a b t).1 = 0) :
    ∃ f, look d.files a = some f ∧ look (raw d 2 a b t).2.files b = some { f with name := b } ∧ ((look (raw d 2 a b t).2.files a).isSome = true ↔ a = b) := by
  rcases raw_cases d 2 a b t with ⟨e, hp, hx⟩ | ⟨m, hp, hx⟩
  · rw [hx] at h
    simp only [plan] at hp
    unfold guard at hp
    split at hp
    · split at hp
      · cases hp; cases h
      · unfold planRename at hp
        split at hp
        · split at hp <;> cases hp
          cases h
        · cases hp; cases h
    · cases hp; cases h
  · have hf := plan_fine g.rising g.names g.safes g.room hp
    simp only [plan] at hp
    obtain ⟨_, _, hp⟩ := guard_inr hp
    unfold planRename at hp
    split at hp
    · rename_i f hl
      split at hp
      · cases hp
      · cases hp
        rw [hx] at h ⊢
        unfold write at h ⊢
        split at h
        · rename_i ht
          rw [if_pos ht]
          refine ⟨f, hl, look_mem hf.rising (f := { f with name := b }) (put_self _ _), ?_⟩
          simp only []
          constructor
          · intro hs
            by_cases hab : a = b
            · exact hab
            · exfalso
              cases hk : look (put (drop d.files a) { f with name := b }) a with
              | none => rw [hk] at hs; cases hs
              | some q =>
                obtain ⟨q1, q2⟩ := look_some hk
                rcases put_mem q1 with rfl | ⟨q3, _⟩
                · exact hab q2.symm
                · exact (drop_mem.1 q3).2 q2
          · rintro rfl
            rw [look_mem hf.rising (f := { f with name := a }) (put_self _ _)]
            rfl
        · cases h
    · cases hp
/-- Where a raw write is not done, no file has turned. -/
theorem raw_refused {d : Disk} {k : Nat} {a b t : List UInt8} (h : (raw d k a b t).1 ≠ 0) : (raw d k a b t).2.files = d.files := by
  rcases raw_cases d k a b t with ⟨e, _, hx⟩ | ⟨m, _, hx⟩
  · rw [hx]
  · rw [hx] at h ⊢
    unfold write at h ⊢
    split
    · rename_i ht; rw [if_pos ht] at h; simp at h
    · exact (tick_files d).1

theorem kept_le {f : File} (p : Nat) (h : f.safe ≤ f.bytes.length) : f.safe + p % (f.bytes.length - f.safe + 1) ≤ f.bytes.length := by
  have := Nat.mod_lt p (show 0 < f.bytes.length - f.safe + 1 by omega)
  omega
theorem kept_kept {f : File} (p q : Nat) (h : f.safe ≤ f.bytes.length) : kept (kept f p) q = kept f p := by
  have hk := kept_le p h
  have hl : (kept f p).bytes.length = (kept f p).safe := by simp [kept]; omega
  unfold kept at hl ⊢
  simp only [] at hl ⊢
  rw [hl]
  simp [Nat.mod_one, List.take_take]
theorem keptAll_length : ∀ (l : List File) (ps : List Nat), (keptAll l ps).length = l.length
  | [], ps => by cases ps <;> rfl
  | f :: t, [] => by simp [keptAll, keptAll_length t []]
  | f :: t, p :: ps => by simp [keptAll, keptAll_length t ps]
/-- What a pick is, where there are fewer. -/
def pick (ps : List Nat) (i : Nat) : Nat := ps.getD i 0
theorem keptAll_at : ∀ (l : List File) (ps : List Nat) (i : Nat), (keptAll l ps)[i]? = (l[i]?).map fun f => kept f (pick ps i)
  | [], ps, i => by cases ps <;> simp [keptAll]
  | f :: t, [], i => by
    cases i with
    | zero => simp [keptAll, pick]
    | succ i => simp [keptAll, keptAll_at t [] i, pick]
  | f :: t, p :: ps, i => by
    cases i with
    | zero => simp [keptAll, pick]
    | succ i => simp [keptAll, keptAll_at t ps i, pick]
/-- A second crash turns nothing (DiskSure). -/
theorem crash_twice {l : List File} (h : ∀ f ∈ l, f.safe ≤ f.bytes.length) (ps qs : List Nat) : keptAll (keptAll l ps) qs = keptAll l ps := by
  apply List.ext_getElem?
  intro i
  rw [keptAll_at, keptAll_at]
  cases hi : l[i]? with
  | none => rfl
  | some f => simp [kept_kept _ _ (h f (List.mem_of_getElem? hi))]
theorem kept_name (f : File) (p : Nat) : (kept f p).name = f.name := rfl
theorem keptAll_mem {l : List File} {ps : List Nat} {g : File} (h : g ∈ keptAll l ps) : ∃ f ∈ l, ∃ p, g = kept f p := by
  obtain ⟨i, hi⟩ := List.getElem?_of_mem h
  rw [keptAll_at] at hi
  cases hf : l[i]? with
  | none => rw [hf] at hi; cases hi
  | some f =>
    rw [hf] at hi
    exact ⟨f, List.mem_of_getElem? hf, _, (Option.some.inj hi).symm⟩
theorem keptAll_rising : ∀ {l : List File} (ps : List Nat), Rising l → Rising (keptAll l ps)
  | [], ps, _ => by cases ps <;> trivial
  | f :: t, [], h => by
    refine ⟨fun g hg => ?_, keptAll_rising [] h.2⟩
    obtain ⟨k, hk, p, rfl⟩ := keptAll_mem hg
    exact h.1 k hk
  | f :: t, p :: ps, h => by
    refine ⟨fun g hg => ?_, keptAll_rising ps h.2⟩
    obtain ⟨k, hk, p, rfl⟩ := keptAll_mem hg
    exact h.1 k hk
theorem kept_cost {f : File} (p : Nat) (h : f.safe ≤ f.bytes.length) : cost (kept f p) ≤ cost f := by
  have := kept_le p h
  simp [cost, kept]
  omega
theorem keptAll_used : ∀ {l : List File} (ps : List Nat), (∀ f ∈ l, f.safe ≤ f.bytes.length) → used (keptAll l ps) ≤ used l
  | [], ps, _ => by cases ps <;> exact Nat.le_refl _
  | f :: t, [], h => by
    have h1 := keptAll_used (l := t) [] (fun g hg => h g (by simp [hg]))
    have h2 := kept_cost 0 (h f (by simp))
    simp only [keptAll, used]
    omega
  | f :: t, p :: ps, h => by
    have h1 := keptAll_used (l := t) ps (fun g hg => h g (by simp [hg]))
    have h2 := kept_cost p (h f (by simp))
    simp only [keptAll, used]
    omega
theorem crash_good {d : Disk} (ps : List Nat) (g : Good d) : Good (crash d ps) := by
  refine ⟨keptAll_rising ps g.rising, fun f hf => ?_, fun f hf => ?_, Nat.le_trans (keptAll_used ps g.safes) g.room, fun h => by cases h⟩
  · obtain ⟨k, hk, p, rfl⟩ := keptAll_mem hf
    exact g.names k hk
  · obtain ⟨k, hk, p, rfl⟩ := keptAll_mem hf
    have := kept_le p (g.safes k hk)
    simp [kept]
    omega
theorem cut_good {d : Disk} (n : Int) (g : Good d) : Good (cut d n).2 := by
  unfold cut
  split
  · exact g
  · cases hd : d.dark with
    | true => simpa [hd] using g
    | false => exact ⟨g.rising, g.names, g.safes, g.room, fun h => by simp at h⟩
theorem new_good (c : Nat) : Good ⟨c, [], 0, none, false⟩ := ⟨trivial, fun _ h => (by cases h), fun _ h => (by cases h), Nat.zero_le _, fun _ => rfl⟩

/-- As far as the cut two disks go alike, the one with a cut and the one without (DiskCuts). -/
def Alike (c : Nat) (d r : Disk) : Prop := d.cap = r.cap ∧ d.files = r.files ∧ d.done = r.done ∧ d.dark = false ∧ r.dark = false ∧ r.left = none ∧ r.done ≤ c ∧ d.left = some (c - r.done)
theorem alike_step {c : Nat} {d r : Disk} (k : Nat) (a b t : List UInt8) (h : Alike c d r) (hlt : r.done < c) : (raw d k a b t).1 = (raw r k a b t).1 ∧ Alike c (raw d k a b t).2 (raw r k a b t).2 := by
  obtain ⟨h1, h2, h3, h4, h5, h6, h7, h8⟩ := h
  have hp : plan d.cap d.files d.dark k a b t = plan r.cap r.files r.dark k a b t := by rw [h1, h2, h4, h5]
  unfold raw
  rw [hp]
  cases plan r.cap r.files r.dark k a b t with
  | inl e => exact ⟨rfl, h1, h2, h3, h4, h5, h6, h7, h8⟩
  | inr m =>
    obtain ⟨j, hj⟩ : ∃ j, c - r.done = j + 1 := ⟨c - r.done - 1, by omega⟩
    rw [hj] at h8
    simp only [act, write, tick, h6, h8, if_true]
    refine ⟨trivial, h1, rfl, ?_, h4, h5, rfl, ?_, ?_⟩
    · simp [h3]
    · show r.done + 1 ≤ c
      omega
    · show some j = some (c - (r.done + 1))
      congr 1
      omega
/-- Behind the cut nothing is done. -/
def Stopped (c : Nat) (d r : Disk) : Prop := d.files = r.files ∧ d.done = c ∧ (d.dark = true ∨ d.left = some 0)
theorem stopped_of {c : Nat} {d r : Disk} (h : Alike c d r) (hc : ¬ r.done < c) : Stopped c d r := by
  obtain ⟨_, h2, h3, _, _, _, h7, h8⟩ := h
  refine ⟨h2, by omega, .inr ?_⟩
  rw [h8]
  congr 1
  omega
theorem stopped_step {c : Nat} {d r : Disk} (k : Nat) (a b t : List UInt8) (h : Stopped c d r) : (raw d k a b t).2.done = d.done ∧ Stopped c (raw d k a b t).2 r := by
  obtain ⟨h1, h2, h3⟩ := h
  rcases raw_cases d k a b t with ⟨e, _, hx⟩ | ⟨m, hp, hx⟩
  · rw [hx]
    exact ⟨rfl, h1, h2, h3⟩
  · have hd := plan_dark hp
    rcases h3 with h3 | h3
    · rw [hd] at h3; cases h3
    · rw [hx]
      simp only [write, tick, h3]
      exact ⟨rfl, h1, h2, .inl rfl⟩
theorem put_less {A : List File} {f : File} (h : ∀ g ∈ A, less g.name f.name = true) : put A f = A ++ [f] := by
  induction A with
  | nil => rfl
  | cons a t ih =>
    simp only [put, List.cons_append]
    rw [if_pos (h a (by simp)), ih (fun g hg => h g (by simp [hg]))]
theorem put_snoc_ge {A : List File} {f k : File} (h : ∀ g ∈ A, less g.name f.name = true) (hk : less k.name f.name = false) : put (A ++ [k]) f = A ++ [f] ++ (if k.name = f.name then [] else [k]) := by
  induction A with
  | nil =>
    simp only [List.nil_append, put, hk]
    by_cases e : k.name = f.name <;> simp [e]
  | cons a t ih =>
    simp only [put, List.cons_append]
    rw [if_pos (h a (by simp)), ih (fun g hg => h g (by simp [hg]))]
theorem put_snoc_done {A : List File} {f k : File} (hr : Rising (A ++ [k])) (h : ∃ g ∈ A, less g.name f.name = false) : put (A ++ [k]) f = put A f ++ [k] ∧ k.name ≠ f.name := by
  induction A with
  | nil => obtain ⟨g, hg, _⟩ := h; cases hg
  | cons a t ih =>
    have hak : less a.name k.name = true := hr.1 k (by simp)
    by_cases ha : less a.name f.name = true
    · obtain ⟨g, hg, h2⟩ := h
      rcases List.mem_cons.1 hg with rfl | hg
      · rw [ha] at h2; cases h2
      · obtain ⟨i1, i2⟩ := ih hr.2 ⟨g, hg, h2⟩
        refine ⟨?_, i2⟩
        simp only [put, List.cons_append]
        rw [if_pos ha, if_pos ha, i1]
        simp
    · have hlt : less f.name k.name = true := by
        by_cases e : a.name = f.name
        · rw [← e]; exact hak
        · have : less f.name a.name = true := by
            cases hx : less f.name a.name with
            | true => rfl
            | false => exact absurd (less_total (by simpa using ha) hx) e
          exact less_trans this hak
      refine ⟨?_, fun e => by rw [e, less_irrefl] at hlt; cases hlt⟩
      simp only [put, List.cons_append]
      rw [if_neg ha, if_neg ha]
      split <;> simp
theorem rising_take {l : List File} (h : Rising l) (n : Nat) : Rising (l.take n) := by
  induction l generalizing n with
  | nil => simp [Rising]
  | cons a t ih =>
    cases n with
    | zero => simp [Rising]
    | succ n => exact ⟨fun g hg => h.1 g (List.mem_of_mem_take hg), ih h.2 n⟩
theorem drop_snoc (A : List File) (k : File) (n : List UInt8) : drop (A ++ [k]) n = drop A n ++ (if k.name = n then [] else [k]) := by
  induction A with
  | nil => simp only [List.nil_append, drop]
  | cons a t ih =>
    simp only [drop, List.cons_append]
    split
    · exact ih
    · rw [ih]; rfl
theorem used_snoc (A : List File) (k : File) : used (A ++ [k]) = used A + cost k := by
  induction A with
  | nil => simp [used]
  | cons a t ih => simp only [used, List.cons_append, ih]; omega
theorem look_snoc (A : List File) (k : File) (n : List UInt8) (h : look A n = none) : look (A ++ [k]) n = if k.name = n then some k else none := by
  induction A with
  | nil => rfl
  | cons a t ih =>
    simp only [look] at h
    simp only [look, List.cons_append]
    split at h
    · cases h
    · rename_i hn; rw [if_neg hn]; exact ih h
theorem look_take_some {l : List File} {i : Nat} {f : File} {n : List UInt8} (hl : l[i]? = some f) (h : look (l.take i) n = none) (hn : f.name = n) : look l n = some f := by
  induction l generalizing i with
  | nil => simp at hl
  | cons a t ih =>
    cases i with
    | zero =>
      simp only [List.getElem?_cons_zero, Option.some.injEq] at hl
      subst hl
      simp [look, hn]
    | succ i =>
      simp only [List.take_succ_cons, look] at h
      simp only [look]
      split at h
      · cases h
      · rename_i ha
        rw [if_neg ha]
        exact ih (by simpa using hl) h
/-- Which names a raw write names, and whether its bytes may be. -/
def okay (k : Nat) (a b t : List UInt8) : Bool :=
  match k with
  | 0 => named a && decide (t.length ≤ 4096)
  | 1 => named a
  | 2 => named a && named b
  | _ => named a
def planOf (c : Nat) (l : List File) (k : Nat) (a b t : List UInt8) : Nat ⊕ List File :=
  match k with
  | 0 => planAppend c l a t
  | 1 => planSync l a
  | 2 => planRename c l a b
  | _ => planRemove l a
theorem plan_eq (c : Nat) (l : List File) (dark : Bool) (k : Nat) (a b t : List UInt8) : plan c l dark k a b t = guard dark (okay k a b t) (planOf c l k a b t) := by
  match k with
  | 0 => rfl
  | 1 => rfl
  | 2 => rfl
  | _ + 3 => rfl
theorem raw_arg {d : Disk} {k : Nat} {a b t : List UInt8} (h : okay k a b t = false) : raw d k a b t = (1, d) := by simp [raw, plan_eq, guard, h, act]
theorem raw_dark {d : Disk} {k : Nat} {a b t : List UInt8} (h : okay k a b t = true) (hd : d.dark = true) : raw d k a b t = (5, d) := by simp [raw, plan_eq, guard, h, hd, act]
theorem raw_own {d : Disk} {k : Nat} {a b t : List UInt8} {e : Nat} (h : okay k a b t = true) (hd : d.dark = false) (hp : planOf d.cap d.files k a b t = .inl e) : raw d k a b t = (e, d) := by simp [raw, plan_eq, guard, h, hd, hp, act]
theorem raw_do {d : Disk} {k : Nat} {a b t : List UInt8} {l : List File} (h : okay k a b t = true) (hd : d.dark = false) (hp : planOf d.cap d.files k a b t = .inr l) : raw d k a b t = write d l := by simp [raw, plan_eq, guard, h, hd, hp, act]
theorem write_cut {d : Disk} {l : List File} (h : (tick d).1 = false) : write d l = (5, (tick d).2) := by simp [write, h]
theorem write_go {d : Disk} {l : List File} (h : (tick d).1 = true) : write d l = (0, { (tick d).2 with files := l }) := by simp [write, h]
theorem wants_over {l : List File} {a b nm : List UInt8} {sf : Nat} {fb : List UInt8} (h : look l b = some ⟨nm, sf, fb⟩) (hne : ¬ b = a) : wants l a b = (b.length : Int) - a.length - (16 + (b.length : Int) + (fb.length : Int)) := by
  have hn : nm = b := (look_some h).2
  subst hn
  have hne' : ¬ a = nm := fun e => hne e.symm
  simp only [wants, h, hne', if_false, cost]
  omega
theorem wants_new {l : List File} {a b : List UInt8} (h : look l b = none) : wants l a b = (b.length : Int) - a.length := by simp only [wants, h]
theorem wants_same {l : List File} {a : List UInt8} : wants l a a = 0 := by
  unfold wants
  split
  · rw [if_pos rfl]; omega
  · omega
theorem rename_full {c : Nat} {l : List File} {a b nm t : List UInt8} {sf : Nat} {fb : List UInt8} (h : look l a = some ⟨nm, sf, fb⟩) (hw : (c : Int) - used l < wants l a b) : planOf c l 2 a b t = .inl 4 := by
  simp only [planOf, planRename, h]
  rw [if_pos hw]
theorem rename_room {c : Nat} {l : List File} {a b nm t : List UInt8} {sf : Nat} {fb : List UInt8} (h : look l a = some ⟨nm, sf, fb⟩) (hw : ¬ (c : Int) - used l < wants l a b) : planOf c l 2 a b t = .inr (put (drop l a) ⟨b, sf, fb⟩) := by
  simp only [planOf, planRename, h]
  rw [if_neg hw]
end Go.Proofs.Ytfjhfecjbheipaa.Dk
