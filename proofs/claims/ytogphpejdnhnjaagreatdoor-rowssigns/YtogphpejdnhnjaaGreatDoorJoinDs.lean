/- Stage 4 of the document over plain lists: files by name, raw writes, a cut, a crash; no walk. -/
/- Stage 4 over plain lists: what follows; no walk. -/
/- Frames by blocks; a map of files as it lies, and the plain list that it stands for; no walk. -/
import Derived.Test.YtogphpejdnhnjaaGreatDoorJoinMp
import Derived.Test.YtogphpejdnhnjaaGreatDoorRw
namespace Go.Proofs.YtogphpejdnhnjaaGreatDoor.Dk
structure File where
  name : List UInt8
  safe : Nat
  bytes : List UInt8

/-- May a name be? -/
def named (s : List UInt8) : Bool := decide (1 ≤ s.length) && decide (s.length ≤ 100) && s.all (fun b => !(b == 0))
/-- What a file costs; what all cost. -/
def cost (f : File) : Nat := 16 + f.name.length + f.bytes.length
def used : List File → Nat
  | [] => 0
  | f :: t => cost f + used t
/-- A file by its name. -/
def look : List File → List UInt8 → Option File
  | [], _ => none
  | f :: t, n => if f.name = n then some f else look t n
/-- A file in its place, or in another one's. -/
def put : List File → File → List File
  | [], f => [f]
  | g :: t, f => if less g.name f.name then g :: put t f else if g.name = f.name then f :: t else f :: g :: t
/-- All but one. -/
def drop : List File → List UInt8 → List File
  | [], _ => []
  | g :: t, n => if g.name = n then drop t n else g :: drop t n
/-- Rising by name. -/
def Rising : List File → Prop
  | [] => True
  | f :: t => (∀ g ∈ t, less f.name g.name = true) ∧ Rising t

structure Disk where
  cap : Nat
  files : List File
  done : Nat
  left : Option Nat
  dark : Bool

/-- A raw write is to be done: false where it is the cut. -/
def tick (d : Disk) : Bool × Disk :=
  match d.left with
  | none => (true, { d with done := d.done + 1 })
  | some 0 => (false, { d with dark := true, left := none })
  | some (k + 1) => (true, { d with done := d.done + 1, left := some k })
/-- It is done with these files, or it is the cut. -/
def write (d : Disk) (l : List File) : Nat × Disk := if (tick d).1 then (0, { (tick d).2 with files := l }) else (5, (tick d).2)
/-- An error, or the files that a raw write would leave. -/
def act (d : Disk) : Nat ⊕ List File → Nat × Disk
  | .inl e => (e, d)
  | .inr l => write d l
/-- Ahead of all else: what may not be; the power. -/
def guard (dark ok : Bool) (r : Nat ⊕ List File) : Nat ⊕ List File := if ok then (if dark then .inl 5 else r) else .inl 1
def planAppend (c : Nat) (l : List File) (n b : List UInt8) : Nat ⊕ List File :=
  match look l n with
  | some f => if c < used l + b.length then .inl 4 else .inr (put l { f with bytes := f.bytes ++ b })
  | none => if c < used l + (b.length + 16 + n.length) then .inl 4 else .inr (put l ⟨n, 0, b⟩)
def planSync (l : List File) (n : List UInt8) : Nat ⊕ List File :=
  match look l n with
  | some f => .inr (put l { f with safe := f.bytes.length })
  | none => .inl 3
/-- How much more room a rename wants. -/
def wants (l : List File) (a b : List UInt8) : Int :=
  match look l b with
  | some g => if a = b then (b.length : Int) - a.length else (b.length : Int) - a.length - cost g
  | none => (b.length : Int) - a.length
def planRename (c : Nat) (l : List File) (a b : List UInt8) : Nat ⊕ List File :=
  match look l a with
  | some f => if (c : Int) - used l < wants l a b then .inl 4 else .inr (put (drop l a) { f with name := b })
  | none => .inl 3
def planRemove (l : List File) (n : List UInt8) : Nat ⊕ List File :=
  match look l n with
  | some _ => .inr (drop l n)
  | none => .inl 3
/-- The four raw writes. -/
def plan (c : Nat) (l : List File) (dark : Bool) (k : Nat) (a b t : List UInt8) : Nat ⊕ List File :=
  match k with
  | 0 => guard dark (named a && decide (t.length ≤ 4096)) (planAppend c l a t)
  | 1 => guard dark (named a) (planSync l a)
  | 2 => guard dark (named a && named b) (planRename c l a b)
  | _ => guard dark (named a) (planRemove l a)
def raw (d : Disk) (k : Nat) (a b t : List UInt8) : Nat × Disk := act d (plan d.cap d.files d.dark k a b t)
def cut (d : Disk) (k : Int) : Nat × Disk := if k < 0 then (1, d) else (0, if d.dark then d else { d with left := some k.toNat })
/-- What a crash leaves of a file. -/
def kept (f : File) (p : Nat) : File := ⟨f.name, f.safe + p % (f.bytes.length - f.safe + 1), f.bytes.take (f.safe + p % (f.bytes.length - f.safe + 1))⟩
def keptAll : List File → List Nat → List File
  | [], _ => []
  | f :: t, [] => kept f 0 :: keptAll t []
  | f :: t, p :: ps => kept f p :: keptAll t ps
def crash (d : Disk) (ps : List Nat) : Disk := { d with files := keptAll d.files ps, left := none, dark := false }

/-- What holds of every disk. -/
structure Good (d : Disk) : Prop where
  rising : Rising d.files
  names : ∀ f ∈ d.files, named f.name = true
  safes : ∀ f ∈ d.files, f.safe ≤ f.bytes.length
  room : used d.files ≤ d.cap
  lit : d.dark = true → d.left = none

theorem look_some {l : List File} {n : List UInt8} {f : File} (h : look l n = some f) : f ∈ l ∧ f.name = n := by
  induction l with
  | nil => simp [look] at h
  | cons g t ih =>
    simp only [look] at h
    split at h
    · rename_i hg
      cases h
      exact ⟨by simp, hg⟩
    · exact ⟨by simp [(ih h).1], (ih h).2⟩
theorem look_none {l : List File} {n : List UInt8} (h : look l n = none) : ∀ f ∈ l, f.name ≠ n := by
  induction l with
  | nil => simp
  | cons g t ih =>
    simp only [look] at h
    split at h
    · cases h
    · rename_i hg
      intro f hf
      rcases List.mem_cons.1 hf with rfl | hf
      · exact hg
      · exact ih h f hf
theorem look_mem {l : List File} {f : File} (hr : Rising l) (h : f ∈ l) : look l f.name = some f := by
  induction l with
  | nil => simp at h
  | cons g t ih =>
    simp only [look]
    rcases List.mem_cons.1 h with rfl | h
    · rw [if_pos rfl]
    · have := hr.1 f h
      rw [if_neg (fun e => by rw [e, less_irrefl] at this; cases this)]
      exact ih hr.2 h
theorem put_mem {l : List File} {f g : File} (h : g ∈ put l f) : g = f ∨ (g ∈ l ∧ (Rising l → g.name ≠ f.name)) := by
  induction l with
  | nil => simp [put] at h; exact .inl h
  | cons k t ih =>
    simp only [put] at h
    split at h
    · rename_i hk
      rcases List.mem_cons.1 h with rfl | h
      · exact .inr ⟨by simp, fun _ e => by rw [e, less_irrefl] at hk; cases hk⟩
      · rcases ih h with rfl | ⟨h1, h2⟩
        · exact .inl rfl
        · exact .inr ⟨by simp [h1], fun hr => h2 hr.2⟩
    · split at h
      · rename_i hk he
        rcases List.mem_cons.1 h with rfl | h
        · exact .inl rfl
        · refine .inr ⟨by simp [h], fun hr e => ?_⟩
          have := hr.1 g h
          rw [he, e, less_irrefl] at this
          cases this
      · rename_i hk he
        rcases List.mem_cons.1 h with rfl | h
        · exact .inl rfl
        · refine .inr ⟨h, fun hr e => ?_⟩
          rcases List.mem_cons.1 h with rfl | h
          · exact he e
          · have h1 := hr.1 g h
            rw [e] at h1
            exact hk h1
theorem put_self (l : List File) (f : File) : f ∈ put l f := by
  induction l with
  | nil => simp [put]
  | cons k t ih =>
    simp only [put]
    split
    · simp [ih]
    · split <;> simp
theorem put_keeps {l : List File} {f g : File} (h : g ∈ l) (hn : g.name ≠ f.name) : g ∈ put l f := by
  induction l with
  | nil => simp at h
  | cons k t ih =>
    simp only [put]
    split
    · rcases List.mem_cons.1 h with rfl | h
      · simp
      · simp [ih h]
    · split
      · rename_i he
        rcases List.mem_cons.1 h with rfl | h
        · exact absurd he hn
        · simp [h]
      · rw [List.mem_cons]
        exact .inr h
theorem put_rising {l : List File} (f : File) (hr : Rising l) : Rising (put l f) := by
  induction l with
  | nil => exact ⟨by simp, trivial⟩
  | cons k t ih =>
    simp only [put]
    split
    · rename_i hk
      refine ⟨fun g hg => ?_, ih hr.2⟩
      rcases put_mem hg with rfl | ⟨h1, _⟩
      · exact hk
      · exact hr.1 g h1
    · split
      · rename_i hk he
        refine ⟨fun g hg => ?_, hr.2⟩
        rw [← he]
        exact hr.1 g hg
      · rename_i hk he
        have hlt : less f.name k.name = true := by
          cases hx : less f.name k.name with
          | true => rfl
          | false => exact absurd (less_total (by simpa using hk) hx) he
        refine ⟨fun g hg => ?_, hr⟩
        rcases List.mem_cons.1 hg with rfl | hg
        · exact hlt
        · exact less_trans hlt (hr.1 g hg)
theorem drop_mem {l : List File} {n : List UInt8} {g : File} : g ∈ drop l n ↔ g ∈ l ∧ g.name ≠ n := by
  induction l with
  | nil => simp [drop]
  | cons k t ih =>
    simp only [drop]
    split
    · rename_i hk
      rw [ih, List.mem_cons]
      constructor
      · rintro ⟨h1, h2⟩
        exact ⟨.inr h1, h2⟩
      · rintro ⟨rfl | h1, h2⟩
        · exact absurd hk h2
        · exact ⟨h1, h2⟩
    · rename_i hk
      rw [List.mem_cons, List.mem_cons, ih]
      constructor
      · rintro (rfl | ⟨h1, h2⟩)
        · exact ⟨.inl rfl, hk⟩
        · exact ⟨.inr h1, h2⟩
      · rintro ⟨rfl | h1, h2⟩
        · exact .inl rfl
        · exact .inr ⟨h1, h2⟩
theorem drop_rising {l : List File} (n : List UInt8) (hr : Rising l) : Rising (drop l n) := by
  induction l with
  | nil => trivial
  | cons k t ih =>
    simp only [drop]
    split
    · exact ih hr.2
    · exact ⟨fun g hg => hr.1 g (drop_mem.1 hg).1, ih hr.2⟩
/-- What all cost, one file in another's place. -/
theorem used_put_new {l : List File} {f : File} (h : look l f.name = none) : used (put l f) = used l + cost f := by
  induction l with
  | nil => simp [put, used]
  | cons k t ih =>
    simp only [look] at h
    split at h
    · cases h
    · rename_i hk
      simp only [put]
      split
      · simp only [used, ih h]; omega
      · simp only [used]
        omega
theorem used_put_old {l : List File} {f g : File} (hr : Rising l) (h : look l f.name = some g) : used (put l f) + cost g = used l + cost f := by
  induction l with
  | nil => simp [look] at h
  | cons k t ih =>
    simp only [look] at h
    split at h
    · rename_i hk
      cases h
      have : ¬ less g.name f.name = true := by rw [hk, less_irrefl]; simp
      simp only [put]
      rw [if_neg this, if_pos hk]
      simp only [used]
      omega
    · rename_i hk
      have hm := (look_some h).1
      have hn := (look_some h).2
      have hlt := hr.1 g hm
      rw [hn] at hlt
      simp only [put, hlt, if_true, used]
      have := ih hr.2 h
      omega
theorem drop_none {l : List File} {n : List UInt8} (h : ∀ f ∈ l, f.name ≠ n) : drop l n = l := by
  induction l with
  | nil => rfl
  | cons k t ih =>
    simp only [drop]
    rw [if_neg (h k (by simp)), ih (fun f hf => h f (by simp [hf]))]
theorem used_drop {l : List File} {n : List UInt8} {g : File} (hr : Rising l) (h : look l n = some g) : used (drop l n) + cost g = used l := by
  induction l with
  | nil => simp [look] at h
  | cons k t ih =>
    simp only [look] at h
    simp only [drop]
    split at h
    · rename_i hk
      cases h
      rw [if_pos hk, drop_none, used]
      · omega
      · intro f hf e
        have := hr.1 f hf
        rw [e, hk, less_irrefl] at this
        cases this
    · rename_i hk
      rw [if_neg hk]
      simp only [used]
      have := ih hr.2 h
      omega
theorem look_drop {l : List File} {a b : List UInt8} (h : a ≠ b) : look (drop l a) b = look l b := by
  induction l with
  | nil => rfl
  | cons k t ih =>
    simp only [drop, look]
    split
    · rename_i hk
      rw [if_neg (by rw [hk]; exact h), ih]
    · simp only [look]
      split
      · rfl
      · exact ih
theorem look_dropped (l : List File) (a : List UInt8) : look (drop l a) a = none := by
  induction l with
  | nil => rfl
  | cons k t ih =>
    simp only [drop]
    split
    · exact ih
    · rename_i hk
      simp only [look]
      rw [if_neg hk, ih]
theorem put_length (l : List File) (f : File) : (put l f).length ≤ l.length + 1 := by
  induction l with
  | nil => simp [put]
  | cons k t ih =>
    simp only [put]
    split
    · simp; omega
    · split <;> simp
theorem drop_length (l : List File) (n : List UInt8) : (drop l n).length ≤ l.length := by
  induction l with
  | nil => simp [drop]
  | cons k t ih =>
    simp only [drop]
    split <;> simp <;> omega
theorem drop_less {l : List File} {n : List UInt8} {g : File} (h : look l n = some g) : (drop l n).length + 1 ≤ l.length := by
  induction l with
  | nil => simp [look] at h
  | cons k t ih =>
    simp only [look] at h
    simp only [drop]
    split at h
    · rename_i hk
      rw [if_pos hk]
      have := drop_length t n
      simp; omega
    · rename_i hk
      rw [if_neg hk]
      have := ih h
      simp; omega
end Go.Proofs.YtogphpejdnhnjaaGreatDoor.Dk
namespace Go.Proofs.YtogphpejdnhnjaaGreatDoor.Dk
theorem tick_files (d : Disk) : (tick d).2.files = d.files ∧ (tick d).2.cap = d.cap := by
  unfold tick
  split <;> exact ⟨rfl, rfl⟩
theorem guard_inr {dark ok : Bool} {r : Nat ⊕ List File} {l : List File} (h : guard dark ok r = .inr l) : ok = true ∧ dark = false ∧ r = .inr l := by
  unfold guard at h
  cases ok <;> cases dark <;> simp at h
  exact ⟨rfl, rfl, h⟩
/-- What the files of a raw write are like. -/
structure Fine (c : Nat) (l m : List File) (a b : List UInt8) : Prop where
  rising : Rising m
  names : ∀ f ∈ m, named f.name = true
  safes : ∀ f ∈ m, f.safe ≤ f.bytes.length
  room : used m ≤ c
  keeps : ∀ g ∈ l, g.name ≠ a → g.name ≠ b → g ∈ m
  count : m.length ≤ l.length + 1
theorem plan_fine {c : Nat} {l m : List File} {dark : Bool} {k : Nat} {a b t : List UInt8} (hr : Rising l) (hn : ∀ f ∈ l, named f.name = true) (hs : ∀ f ∈ l, f.safe ≤ f.bytes.length) (hu : used l ≤ c)
    (h : plan c l dark k a b t = .inr m) : Fine c l m a b := by
  unfold plan at h
  split at h
  · obtain ⟨ok, _, h⟩ := guard_inr h
    have ha : named a = true := by simp at ok; exact ok.1
    unfold planAppend at h
    split at h
    · rename_i f hf
      have hfm := look_some hf
      split at h
      · cases h
      · rename_i hc
        cases h
        refine ⟨put_rising _ hr, fun g hg => ?_, fun g hg => ?_, ?_, fun g hg h1 _ => ?_, put_length _ _⟩
        · rcases put_mem hg with rfl | ⟨h1, _⟩
          · exact hn f hfm.1
          · exact hn g h1
        · rcases put_mem hg with rfl | ⟨h1, _⟩
          · have := hs f hfm.1
            simp; omega
          · exact hs g h1
        · have := used_put_old (f := { f with bytes := f.bytes ++ t }) (g := f) hr (by simpa [hfm.2] using hf)
          simp [cost] at this
          omega
        · exact put_keeps hg (by simpa [hfm.2] using h1)
    · rename_i hf
      split at h
      · cases h
      · rename_i hc
        cases h
        refine ⟨put_rising _ hr, fun g hg => ?_, fun g hg => ?_, ?_, fun g hg h1 _ => ?_, put_length _ _⟩
        · rcases put_mem hg with rfl | ⟨h1, _⟩
          · exact ha
          · exact hn g h1
        · rcases put_mem hg with rfl | ⟨h1, _⟩
          · simp
          · exact hs g h1
        · have := used_put_new (f := ⟨a, 0, t⟩) hf
          simp [cost] at this
          omega
        · exact put_keeps hg h1
  · obtain ⟨ok, _, h⟩ := guard_inr h
    unfold planSync at h
    split at h
    · rename_i f hf
      have hfm := look_some hf
      cases h
      refine ⟨put_rising _ hr, fun g hg => ?_, fun g hg => ?_, ?_, fun g hg h1 _ => ?_, put_length _ _⟩
      · rcases put_mem hg with rfl | ⟨h1, _⟩
        · exact hn f hfm.1
        · exact hn g h1
      · rcases put_mem hg with rfl | ⟨h1, _⟩
        · exact Nat.le_refl _
        · exact hs g h1
      · have := used_put_old (f := { f with safe := f.bytes.length }) (g := f) hr (by simpa [hfm.2] using hf)
        simp [cost] at this
        omega
      · exact put_keeps hg (by simpa [hfm.2] using h1)
    · cases h
  · obtain ⟨ok, _, h⟩ := guard_inr h
    have hb : named b = true := by simp at ok; exact ok.2
    unfold planRename at h
    split at h
    · rename_i f hf
      have hfm := look_some hf
      split at h
      · cases h
      · rename_i hc
        cases h
        refine ⟨put_rising _ (drop_rising _ hr), fun g hg => ?_, fun g hg => ?_, ?_, fun g hg h1 h2 => ?_, ?_⟩
        · rcases put_mem hg with rfl | ⟨h1, _⟩
          · exact hb
          · exact hn g (drop_mem.1 h1).1
        · rcases put_mem hg with rfl | ⟨h1, _⟩
          · exact hs f hfm.1
          · exact hs g (drop_mem.1 h1).1
        · have hd := used_drop hr hf
          have hfa : f.name.length = a.length := by rw [hfm.2]
          by_cases hab : a = b
          · subst hab
            have := used_put_new (l := drop l a) (f := { f with name := a }) (look_dropped l a)
            simp [cost] at this hd
            omega
          · have hlk := look_drop (l := l) hab
            unfold wants at hc
            cases hg : look l b with
            | none =>
              rw [hg] at hc hlk
              have := used_put_new (l := drop l a) (f := { f with name := b }) hlk
              simp [cost] at this hd hc
              omega
            | some g =>
              rw [hg] at hc hlk
              have := used_put_old (l := drop l a) (f := { f with name := b }) (drop_rising _ hr) hlk
              simp only [if_neg hab] at hc
              simp [cost] at this hd hc
              omega
        · exact put_keeps (drop_mem.2 ⟨hg, h1⟩) h2
        · have h1 := put_length (drop l a) { f with name := b }
          have h2 := drop_less hf
          omega
    · cases h
  · obtain ⟨ok, _, h⟩ := guard_inr h
    unfold planRemove at h
    split at h
    · rename_i f hf
      cases h
      refine ⟨drop_rising _ hr, fun g hg => hn g (drop_mem.1 hg).1, fun g hg => hs g (drop_mem.1 hg).1, ?_, fun g hg h1 _ => drop_mem.2 ⟨hg, h1⟩, ?_⟩
      · have := used_drop hr hf
        omega
      · have := drop_length l a
        omega
    · cases h
theorem plan_dark {c : Nat} {l m : List File} {dark : Bool} {k : Nat} {a b t : List UInt8} (h : plan c l dark k a b t = .inr m) : dark = false := by
  unfold plan at h
  split at h <;> exact (guard_inr h).2.1

/-- A raw write: its error, and the disk as it was; or done; or the cut. -/
theorem raw_cases (d : Disk) (k : Nat) (a b t : List UInt8) : (∃ e, plan d.cap d.files d.dark k a b t = .inl e ∧ raw d k a b t = (e, d)) ∨
    (∃ m, plan d.cap d.files d.dark k a b t = .inr m ∧ raw d k a b t = write d m) := by
  unfold raw
  cases h : plan d.cap d.files d.dark k a b t with
  | inl e => exact .inl ⟨e, rfl, rfl⟩
  | inr m => exact .inr ⟨m, rfl, rfl⟩
theorem raw_good {d : Disk} (k : Nat) (a b t : List UInt8) (g : Good d) : Good (raw d k a b t).2 := by
  rcases raw_cases d k a b t with ⟨e, _, h⟩ | ⟨m, hp, h⟩
  · rw [h]; exact g
  · rw [h]
    have hf := plan_fine g.rising g.names g.safes g.room hp
    have hd := plan_dark hp
    unfold write tick
    cases hl : d.left with
    | none => exact ⟨hf.rising, hf.names, hf.safes, hf.room, fun _ => rfl⟩
    | some j =>
      cases j with
      | zero => exact ⟨g.rising, g.names, g.safes, g.room, fun _ => rfl⟩
      | succ j => exact ⟨hf.rising, hf.names, hf.safes, hf.room, fun h => by simp [hd] at h⟩
/-- A raw write turns no file but those that it names (DiskApart). -/
theorem raw_keeps {d : Disk} (k : Nat) (a b t : List UInt8) (g : Good d) : (∀ f ∈ d.files, f.name ≠ a → f.name ≠ b → f ∈ (raw d k a b t).2.files) ∧ (raw d k a b t).2.files.length ≤ d.files.length + 1 := by
  rcases raw_cases d k a b t with ⟨e, _, h⟩ | ⟨m, hp, h⟩
  · rw [h]; exact ⟨fun f hf _ _ => hf, by simp⟩
  · rw [h]
    have hf := plan_fine g.rising g.names g.safes g.room hp
    unfold write
    split
    · exact ⟨hf.keeps, hf.count⟩
    · rw [(tick_files d).1]
      exact ⟨fun f hf _ _ => hf, by simp⟩
/-- A renamed file has its bytes, and what is sure of them (DiskMoves). -/
theorem rename_moves {d : Disk} {a b t : List UInt8} (g : Good d) (h : (raw d 2 a b t).1 = 0) :
    ∃ f, look d.files a = some f ∧ look (raw d 2 a b t).2.files b = some { f with name := b } ∧ ((look (raw d 2 a b t).2.files a).isSome = true ↔ a = b) := by
  rcases raw_cases d 2 a b t with ⟨e, hp, hx⟩ | ⟨m, hp, hx⟩
  · rw [hx] at h
    simp only [plan] at hp
    unfold guard at hp
    split at hp
    · split at hp
      · cases hp; cases h
      · unfold planRename at hp
        split at hp
        · split at hp <;> cases hp
          cases h
        · cases hp; cases h
    · cases hp; cases h
  · have hf := plan_fine g.rising g.names g.safes g.room hp
    simp only [plan] at hp
    obtain ⟨_, _, hp⟩ := guard_inr hp
    unfold planRename at hp
    split at hp
    · rename_i f hl
      split at hp
      · cases hp
      · cases hp
        rw [hx] at h ⊢
        unfold write at h ⊢
        split at h
        · rename_i ht
          rw [if_pos ht]
          refine ⟨f, hl, look_mem hf.rising (f := { f with name := b }) (put_self _ _), ?_⟩
          simp only []
          constructor
          · intro hs
            by_cases hab : a = b
            · exact hab
            · exfalso
              cases hk : look (put (drop d.files a) { f with name := b }) a with
              | none => rw [hk] at hs; cases hs
              | some q =>
                obtain ⟨q1, q2⟩ := look_some hk
                rcases put_mem q1 with rfl | ⟨q3, _⟩
                · exact hab q2.symm
                · exact (drop_mem.1 q3).2 q2
          · rintro rfl
            rw [look_mem hf.rising (f := { f with name := a }) (put_self _ _)]
            rfl
        · cases h
    · cases hp
/-- Where a raw write is not done, no file has turned. -/
theorem raw_refused {d : Disk} {k : Nat} {a b t : List UInt8} (h : (raw d k a b t).1 ≠ 0) : (raw d k a b t).2.files = d.files := by
  rcases raw_cases d k a b t with ⟨e, _, hx⟩ | ⟨m, _, hx⟩
  · rw [hx]
  · rw [hx] at h ⊢
    unfold write at h ⊢
    split
    · rename_i ht; rw [if_pos ht] at h; simp at h
    · exact (tick_files d).1

theorem kept_le {f : File} (p : Nat) (h : f.safe ≤ f.bytes.length) : f.safe + p % (f.bytes.length - f.safe + 1) ≤ f.bytes.length := by
  have := Nat.mod_lt p (show 0 < f.bytes.length - f.safe + 1 by omega)
  omega
theorem kept_kept {f : File} (p q : Nat) (h : f.safe ≤ f.bytes.length) : kept (kept f p) q = kept f p := by
  have hk := kept_le p h
  have hl : (kept f p).bytes.length = (kept f p).safe := by simp [kept]; omega
  unfold kept at hl ⊢
  simp only [] at hl ⊢
  rw [hl]
  simp [Nat.mod_one, List.take_take]
theorem keptAll_length : ∀ (l : List File) (ps : List Nat), (keptAll l ps).length = l.length
  | [], ps => by cases ps <;> rfl
  | f :: t, [] => by simp [keptAll, keptAll_length t []]
  | f :: t, p :: ps => by simp [keptAll, keptAll_length t ps]
/-- What a pick is, where there are fewer. -/
def pick (ps : List Nat) (i : Nat) : Nat := ps.getD i 0
theorem keptAll_at : ∀ (l : List File) (ps : List Nat) (i : Nat), (keptAll l ps)[i]? = (l[i]?).map fun f => kept f (pick ps i)
  | [], ps, i => by cases ps <;> simp [keptAll]
  | f :: t, [], i => by
    cases i with
    | zero => simp [keptAll, pick]
    | succ i => simp [keptAll, keptAll_at t [] i, pick]
  | f :: t, p :: ps, i => by
    cases i with
    | zero => simp [keptAll, pick]
    | succ i => simp [keptAll, keptAll_at t ps i, pick]
/-- A second crash turns nothing (DiskSure). -/
theorem crash_twice {l : List File} (h : ∀ f ∈ l, f.safe ≤ f.bytes.length) (ps qs : List Nat) : keptAll (keptAll l ps) qs = keptAll l ps := by
  apply List.ext_getElem?
  intro i
  rw [keptAll_at, keptAll_at]
  cases hi : l[i]? with
  | none => rfl
  | some f => simp [kept_kept _ _ (h f (List.mem_of_getElem? hi))]
theorem kept_name (f : File) (p : Nat) : (kept f p).name = f.name := rfl
theorem keptAll_mem {l : List File} {ps : List Nat} {g : File} (h : g ∈ keptAll l ps) : ∃ f ∈ l, ∃ p, g = kept f p := by
  obtain ⟨i, hi⟩ := List.getElem?_of_mem h
  rw [keptAll_at] at hi
  cases hf : l[i]? with
  | none => rw [hf] at hi; cases hi
  | some f =>
    rw [hf] at hi
    exact ⟨f, List.mem_of_getElem? hf, _, (Option.some.inj hi).symm⟩
theorem keptAll_rising : ∀ {l : List File} (ps : List Nat), Rising l → Rising (keptAll l ps)
  | [], ps, _ => by cases ps <;> trivial
  | f :: t, [], h => by
    refine ⟨fun g hg => ?_, keptAll_rising [] h.2⟩
    obtain ⟨k, hk, p, rfl⟩ := keptAll_mem hg
    exact h.1 k hk
  | f :: t, p :: ps, h => by
    refine ⟨fun g hg => ?_, keptAll_rising ps h.2⟩
    obtain ⟨k, hk, p, rfl⟩ := keptAll_mem hg
    exact h.1 k hk
theorem kept_cost {f : File} (p : Nat) (h : f.safe ≤ f.bytes.length) : cost (kept f p) ≤ cost f := by
  have := kept_le p h
  simp [cost, kept]
  omega
theorem keptAll_used : ∀ {l : List File} (ps : List Nat), (∀ f ∈ l, f.safe ≤ f.bytes.length) → used (keptAll l ps) ≤ used l
  | [], ps, _ => by cases ps <;> exact Nat.le_refl _
  | f :: t, [], h => by
    have h1 := keptAll_used (l := t) [] (fun g hg => h g (by simp [hg]))
    have h2 := kept_cost 0 (h f (by simp))
    simp only [keptAll, used]
    omega
  | f :: t, p :: ps, h => by
    have h1 := keptAll_used (l := t) ps (fun g hg => h g (by simp [hg]))
    have h2 := kept_cost p (h f (by simp))
    simp only [keptAll, used]
    omega
theorem crash_good {d : Disk} (ps : List Nat) (g : Good d) : Good (crash d ps) := by
  refine ⟨keptAll_rising ps g.rising, fun f hf => ?_, fun f hf => ?_, Nat.le_trans (keptAll_used ps g.safes) g.room, fun h => by cases h⟩
  · obtain ⟨k, hk, p, rfl⟩ := keptAll_mem hf
    exact g.names k hk
  · obtain ⟨k, hk, p, rfl⟩ := keptAll_mem hf
    have := kept_le p (g.safes k hk)
    simp [kept]
    omega
theorem cut_good {d : Disk} (n : Int) (g : Good d) : Good (cut d n).2 := by
  unfold cut
  split
  · exact g
  · cases hd : d.dark with
    | true => simpa [hd] using g
    | false => exact ⟨g.rising, g.names, g.safes, g.room, fun h => by simp at h⟩
theorem new_good (c : Nat) : Good ⟨c, [], 0, none, false⟩ := ⟨trivial, fun _ h => (by cases h), fun _ h => (by cases h), Nat.zero_le _, fun _ => rfl⟩

/-- As far as the cut two disks go alike, the one with a cut and the one without (DiskCuts). -/
def Alike (c : Nat) (d r : Disk) : Prop := d.cap = r.cap ∧ d.files = r.files ∧ d.done = r.done ∧ d.dark = false ∧ r.dark = false ∧ r.left = none ∧ r.done ≤ c ∧ d.left = some (c - r.done)
theorem alike_step {c : Nat} {d r : Disk} (k : Nat) (a b t : List UInt8) (h : Alike c d r) (hlt : r.done < c) : (raw d k a b t).1 = (raw r k a b t).1 ∧ Alike c (raw d k a b t).2 (raw r k a b t).2 := by
  obtain ⟨h1, h2, h3, h4, h5, h6, h7, h8⟩ := h
  have hp : plan d.cap d.files d.dark k a b t = plan r.cap r.files r.dark k a b t := by rw [h1, h2, h4, h5]
  unfold raw
  rw [hp]
  cases plan r.cap r.files r.dark k a b t with
  | inl e => exact ⟨rfl, h1, h2, h3, h4, h5, h6, h7, h8⟩
  | inr m =>
    obtain ⟨j, hj⟩ : ∃ j, c - r.done = j + 1 := ⟨c - r.done - 1, by omega⟩
    rw [hj] at h8
    simp only [act, write, tick, h6, h8, if_true]
    refine ⟨trivial, h1, rfl, ?_, h4, h5, rfl, ?_, ?_⟩
    · simp [h3]
    · show r.done + 1 ≤ c
      omega
    · show some j = some (c - (r.done + 1))
      congr 1
      omega
/-- Behind the cut nothing is done. -/
def Stopped (c : Nat) (d r : Disk) : Prop := d.files = r.files ∧ d.done = c ∧ (d.dark = true ∨ d.left = some 0)
theorem stopped_of {c : Nat} {d r : Disk} (h : Alike c d r) (hc : ¬ r.done < c) : Stopped c d r := by
  obtain ⟨_, h2, h3, _, _, _, h7, h8⟩ := h
  refine ⟨h2, by omega, .inr ?_⟩
  rw [h8]
  congr 1
  omega
theorem stopped_step {c : Nat} {d r : Disk} (k : Nat) (a b t : List UInt8) (h : Stopped c d r) : (raw d k a b t).2.done = d.done ∧ Stopped c (raw d k a b t).2 r := by
  obtain ⟨h1, h2, h3⟩ := h
  rcases raw_cases d k a b t with ⟨e, _, hx⟩ | ⟨m, hp, hx⟩
  · rw [hx]
    exact ⟨rfl, h1, h2, h3⟩
  · have hd := plan_dark hp
    rcases h3 with h3 | h3
    · rw [hd] at h3; cases h3
    · rw [hx]
      simp only [write, tick, h3]
      exact ⟨rfl, h1, h2, .inl rfl⟩
theorem put_less {A : List File} {f : File} (h : ∀ g ∈ A, less g.name f.name = true) : put A f = A ++ [f] := by
  induction A with
  | nil => rfl
  | cons a t ih =>
    simp only [put, List.cons_append]
    rw [if_pos (h a (by simp)), ih (fun g hg => h g (by simp [hg]))]
theorem put_snoc_ge {A : List File} {f k : File} (h : ∀ g ∈ A, less g.name f.name = true) (hk : less k.name f.name = false) : put (A ++ [k]) f = A ++ [f] ++ (if k.name = f.name then [] else [k]) := by
  induction A with
  | nil =>
    simp only [List.nil_append, put, hk]
    by_cases e : k.name = f.name <;> simp [e]
  | cons a t ih =>
    simp only [put, List.cons_append]
    rw [if_pos (h a (by simp)), ih (fun g hg => h g (by simp [hg]))]
theorem put_snoc_done {A : List File} {f k : File} (hr : Rising (A ++ [k])) (h : ∃ g ∈ A, less g.name f.name = false) : put (A ++ [k]) f = put A f ++ [k] ∧ k.name ≠ f.name := by
  induction A with
  | nil => obtain ⟨g, hg, _⟩ := h; cases hg
  | cons a t ih =>
    have hak : less a.name k.name = true := hr.1 k (by simp)
    by_cases ha : less a.name f.name = true
    · obtain ⟨g, hg, h2⟩ := h
      rcases List.mem_cons.1 hg with rfl | hg
      · rw [ha] at h2; cases h2
      · obtain ⟨i1, i2⟩ := ih hr.2 ⟨g, hg, h2⟩
        refine ⟨?_, i2⟩
        simp only [put, List.cons_append]
        rw [if_pos ha, if_pos ha, i1]
        simp
    · have hlt : less f.name k.name = true := by
        by_cases e : a.name = f.name
        · rw [← e]; exact hak
        · have : less f.name a.name = true := by
            cases hx : less f.name a.name with
            | true => rfl
            | false => exact absurd (less_total (by simpa using ha) hx) e
          exact less_trans this hak
      refine ⟨?_, fun e => by rw [e, less_irrefl] at hlt; cases hlt⟩
      simp only [put, List.cons_append]
      rw [if_neg ha, if_neg ha]
      split <;> simp
theorem rising_take {l : List File} (h : Rising l) (n : Nat) : Rising (l.take n) := by
  induction l generalizing n with
  | nil => simp [Rising]
  | cons a t ih =>
    cases n with
    | zero => simp [Rising]
    | succ n => exact ⟨fun g hg => h.1 g (List.mem_of_mem_take hg), ih h.2 n⟩
theorem drop_snoc (A : List File) (k : File) (n : List UInt8) : drop (A ++ [k]) n = drop A n ++ (if k.name = n then [] else [k]) := by
  induction A with
  | nil => simp only [List.nil_append, drop]
  | cons a t ih =>
    simp only [drop, List.cons_append]
    split
    · exact ih
    · rw [ih]; rfl
theorem used_snoc (A : List File) (k : File) : used (A ++ [k]) = used A + cost k := by
  induction A with
  | nil => simp [used]
  | cons a t ih => simp only [used, List.cons_append, ih]; omega
theorem look_snoc (A : List File) (k : File) (n : List UInt8) (h : look A n = none) : look (A ++ [k]) n = if k.name = n then some k else none := by
  induction A with
  | nil => rfl
  | cons a t ih =>
    simp only [look] at h
    simp only [look, List.cons_append]
    split at h
    · cases h
    · rename_i hn; rw [if_neg hn]; exact ih h
theorem look_take_some {l : List File} {i : Nat} {f : File} {n : List UInt8} (hl : l[i]? = some f) (h : look (l.take i) n = none) (hn : f.name = n) : look l n = some f := by
  induction l generalizing i with
  | nil => simp at hl
  | cons a t ih =>
    cases i with
    | zero =>
      simp only [List.getElem?_cons_zero, Option.some.injEq] at hl
      subst hl
      simp [look, hn]
    | succ i =>
      simp only [List.take_succ_cons, look] at h
      simp only [look]
      split at h
      · cases h
      · rename_i ha
        rw [if_neg ha]
        exact ih (by simpa using hl) h
/-- Which names a raw write names, and whether its bytes may be. -/
def okay (k : Nat) (a b t : List UInt8) : Bool :=
  match k with
  | 0 => named a && decide (t.length ≤ 4096)
  | 1 => named a
  | 2 => named a && named b
  | _ => named a
def planOf (c : Nat) (l : List File) (k : Nat) (a b t : List UInt8) : Nat ⊕ List File :=
  match k with
  | 0 => planAppend c l a t
  | 1 => planSync l a
  | 2 => planRename c l a b
  | _ => planRemove l a
theorem plan_eq (c : Nat) (l : List File) (dark : Bool) (k : Nat) (a b t : List UInt8) : plan c l dark k a b t = guard dark (okay k a b t) (planOf c l k a b t) := by
  match k with
  | 0 => rfl
  | 1 => rfl
  | 2 => rfl
  | _ + 3 => rfl
theorem raw_arg {d : Disk} {k : Nat} {a b t : List UInt8} (h : okay k a b t = false) : raw d k a b t = (1, d) := by simp [raw, plan_eq, guard, h, act]
theorem raw_dark {d : Disk} {k : Nat} {a b t : List UInt8} (h : okay k a b t = true) (hd : d.dark = true) : raw d k a b t = (5, d) := by simp [raw, plan_eq, guard, h, hd, act]
theorem raw_own {d : Disk} {k : Nat} {a b t : List UInt8} {e : Nat} (h : okay k a b t = true) (hd : d.dark = false) (hp : planOf d.cap d.files k a b t = .inl e) : raw d k a b t = (e, d) := by simp [raw, plan_eq, guard, h, hd, hp, act]
theorem raw_do {d : Disk} {k : Nat} {a b t : List UInt8} {l : List File} (h : okay k a b t = true) (hd : d.dark = false) (hp : planOf d.cap d.files k a b t = .inr l) : raw d k a b t = write d l := by simp [raw, plan_eq, guard, h, hd, hp, act]
theorem write_cut {d : Disk} {l : List File} (h : (tick d).1 = false) : write d l = (5, (tick d).2) := by simp [write, h]
theorem write_go {d : Disk} {l : List File} (h : (tick d).1 = true) : write d l = (0, { (tick d).2 with files := l }) := by simp [write, h]
theorem wants_over {l : List File} {a b nm : List UInt8} {sf : Nat} {fb : List UInt8} (h : look l b = some ⟨nm, sf, fb⟩) (hne : ¬ b = a) : wants l a b = (b.length : Int) - a.length - (16 + (b.length : Int) + (fb.length : Int)) := by
  have hn : nm = b := (look_some h).2
  subst hn
  have hne' : ¬ a = nm := fun e => hne e.symm
  simp only [wants, h, hne', if_false, cost]
  omega
theorem wants_new {l : List File} {a b : List UInt8} (h : look l b = none) : wants l a b = (b.length : Int) - a.length := by simp only [wants, h]
theorem wants_same {l : List File} {a : List UInt8} : wants l a a = 0 := by
  unfold wants
  split
  · rw [if_pos rfl]; omega
  · omega
theorem rename_full {c : Nat} {l : List File} {a b nm t : List UInt8} {sf : Nat} {fb : List UInt8} (h : look l a = some ⟨nm, sf, fb⟩) (hw : (c : Int) - used l < wants l a b) : planOf c l 2 a b t = .inl 4 := by
  simp only [planOf, planRename, h]
  rw [if_pos hw]
theorem rename_room {c : Nat} {l : List File} {a b nm t : List UInt8} {sf : Nat} {fb : List UInt8} (h : look l a = some ⟨nm, sf, fb⟩) (hw : ¬ (c : Int) - used l < wants l a b) : planOf c l 2 a b t = .inr (put (drop l a) ⟨b, sf, fb⟩) := by
  simp only [planOf, planRename, h]
  rw [if_neg hw]
end Go.Proofs.YtogphpejdnhnjaaGreatDoor.Dk
namespace Go.Proofs.YtogphpejdnhnjaaGreatDoor
open Go.RowKit
open Dk (File Disk)

/-- But for the blocks of U, and new ones, w' is as w was. -/
structure Kept (U : Nat → Prop) (w w' : World) : Prop where
  os : w'.os = w.os
  tape : w'.tape = w.tape
  output : w'.output = w.output
  size : w.heap.size ≤ w'.heap.size
  block : ∀ k, k < w.heap.size → ¬ U k → w'.heap[k]? = w.heap[k]?
theorem Kept.refl (U : Nat → Prop) (w : World) : Kept U w w := ⟨rfl, rfl, rfl, Nat.le_refl _, fun _ _ _ => rfl⟩
theorem Kept.trans {U : Nat → Prop} {a b c : World} (h : Kept U a b) (k : Kept U b c) : Kept U a c :=
  ⟨k.os.trans h.os, k.tape.trans h.tape, k.output.trans h.output, Nat.le_trans h.size k.size, fun i hi hu => (k.block i (Nat.lt_of_lt_of_le hi h.size) hu).trans (h.block i hi hu)⟩
theorem Kept.trans' {U V : Nat → Prop} {a b c : World} (h : Kept U a b) (k : Kept V b c) (hv : ∀ g, g < a.heap.size → V g → U g) : Kept U a c :=
  ⟨k.os.trans h.os, k.tape.trans h.tape, k.output.trans h.output, Nat.le_trans h.size k.size, fun i hi hu => (k.block i (Nat.lt_of_lt_of_le hi h.size) (fun e => hu (hv i hi e))).trans (h.block i hi hu)⟩
theorem Kept.wide {U V : Nat → Prop} {a b : World} (h : Kept U a b) (hv : ∀ g, g < a.heap.size → U g → V g) : Kept V a b :=
  ⟨h.os, h.tape, h.output, h.size, fun i hi hu => h.block i hi (fun e => hu (hv i hi e))⟩
theorem Kept.of_below {U : Nat → Prop} {w w' : World} (h : Below w.heap.size w w') : Kept U w w' := ⟨h.os, h.tape, h.output, h.size, fun k hk _ => h.block k hk⟩
theorem Kept.below {U : Nat → Prop} {w w' : World} {B : Nat} (h : Kept U w w') (hB : B ≤ w.heap.size) (hU : ∀ g, U g → B ≤ g) : Below B w w' :=
  ⟨h.os, h.tape, h.output, h.size, fun k hk => h.block k (by omega) (fun e => by have := hU k e; omega)⟩
theorem Kept.drew {U : Nat → Prop} {a w : World} (h : Kept U a w) : Kept U a w.drew := ⟨h.os, h.tape, h.output, h.size, h.block⟩
theorem Kept.alloc {U : Nat → Prop} {a w : World} (h : Kept U a w) (o : Obj) : Kept U a (w.alloc o) := h.trans (Kept.of_below ((Below.refl _ w).alloc (Nat.le_refl _) o))
theorem Kept.setCell {U : Nat → Prop} {a w : World} (h : Kept U a w) {p : Addr} (hp : U p.block ∨ a.heap.size ≤ p.block) (u : Value) : Kept U a (w.setCell p u) :=
  ⟨h.os, h.tape, h.output, by simp only [World.setCell, Array.size_modify]; exact h.size, fun k hk hu => by
    rw [Below.heap_setCell w p u k (fun e => by rcases hp with hp | hp; exact hu (e ▸ hp); omega)]
    exact h.block k hk hu⟩
theorem Kept.grown {U : Nat → Prop} {a w w' : World} {row : Option Nat} (h : Kept U a w) (hg : w.grownBy w' row) (hr : ∀ k, row = some k → U k ∨ a.heap.size ≤ k) : Kept U a w' :=
  ⟨hg.os.trans h.os, hg.tape.trans h.tape, hg.output.trans h.output, Nat.le_trans h.size hg.size, fun k hk hu => by
    rw [hg.block k (Nat.lt_of_lt_of_le hk h.size) (fun e => by rcases hr k e.symm with h1 | h1; exact hu h1; omega)]
    exact h.block k hk hu⟩
theorem Kept.cell {U : Nat → Prop} {w w' : World} (h : Kept U w w') {p : Addr} (hp : p.block < w.heap.size) (hu : ¬ U p.block) : w'.cell? p = w.cell? p := World.cell?_of_block (w := w) (h.block p.block hp hu)

/-- It holds in w, whatever becomes of the blocks of U. -/
def Steady (U : Nat → Prop) (w : World) (A : World → Prop) : Prop := ∀ w', Kept U w w' → A w'
theorem Steady.here {U : Nat → Prop} {w : World} {A : World → Prop} (h : Steady U w A) : A w := h w (Kept.refl U w)
theorem Steady.next {U : Nat → Prop} {w w' : World} {A : World → Prop} (h : Steady U w A) (k : Kept U w w') : Steady U w' A := fun w'' k' => h w'' (k.trans k')
theorem Steady.next' {U V : Nat → Prop} {w w' : World} {A : World → Prop} (h : Steady U w A) (k : Kept U w w') (hv : ∀ g, g < w.heap.size → V g → U g) : Steady V w' A := fun w'' k' => h w'' (k.trans' k' hv)
theorem Steady.below {U : Nat → Prop} {w w' : World} {A : World → Prop} (h : Steady U w A) (k : Below w.heap.size w w') : Steady U w' A := h.next (Kept.of_below k)
theorem own_steady {U : Nat → Prop} {w : World} {B t k n : Nat} {v : Value} {xs : List Value} (h : w.ownsRow B t k v n xs) (hU : ∀ g, U g → g < B) : Steady U w fun w' => w'.ownsRow B t k v n xs := by
  intro w' hk
  rcases h.2 with h0 | ⟨g, cap, cur, hv, hb, hg, r⟩
  · exact ⟨h.1, .inl h0⟩
  · refine ⟨h.1, .inr ⟨g, cap, cur, hv, hb, ?_, r⟩⟩
    have hlt : g < w.heap.size := (Array.getElem?_eq_some_iff.1 hg).1
    rw [hk.block g hlt (fun e => by have := hU g e; omega)]
    exact hg
theorem own_block {w w' : World} {B t k n : Nat} {v : Value} {xs : List Value} (h : w.ownsRow B t k v n xs) (hk : ∀ g, v.ownBlock = some g → w'.heap[g]? = w.heap[g]?) : w'.ownsRow B t k v n xs := by
  rcases h.2 with h0 | ⟨g, cap, cur, rfl, hb, hg, r⟩
  · exact ⟨h.1, .inl h0⟩
  · exact ⟨h.1, .inr ⟨g, cap, cur, rfl, hb, (hk g rfl).trans hg, r⟩⟩
theorem own_base {w : World} {B B' t k n : Nat} {v : Value} {xs : List Value} (h : w.ownsRow B t k v n xs) (hb : ∀ g, v.ownBlock = some g → B' ≤ g) : w.ownsRow B' t k v n xs := by
  rcases h.2 with h0 | ⟨g, cap, cur, rfl, _, r⟩
  · exact ⟨h.1, .inl h0⟩
  · exact ⟨h.1, .inr ⟨g, cap, cur, rfl, hb g rfl, r⟩⟩

/-- A file as the map holds it. -/
def filev (s : Int) (v : Value) : Value := .agg #[.int .i64 s, v]
def arr : Value → Option Nat
  | .agg cs => (cs.getD 1 (.bool false)).ownBlock
  | _ => none
theorem arr_filev (s : Int) (v : Value) : arr (filev s v) = v.ownBlock := rfl
def Fits (w : World) (v : Value) (f : File) : Prop := ∃ sv, v = filev f.safe sv ∧ w.ownsRow 0 5 1 sv f.bytes.length (bv f.bytes)
theorem Fits.same {w w' : World} {v : Value} {f : File} (h : Fits w v f) (hb : ∀ g, arr v = some g → w'.heap[g]? = w.heap[g]?) : Fits w' v f := by
  obtain ⟨sv, rfl, ho⟩ := h
  exact ⟨sv, rfl, own_block ho hb⟩
/-- Entry by entry; those of the names in E aside. -/
def Rel (w : World) (E : List UInt8 → Prop) : List Named → List File → Prop
  | [], [] => True
  | x :: l, f :: fs => x.1 = f.name ∧ (¬ E f.name → Fits w x.2 f) ∧ Rel w E l fs
  | _, _ => False
def Nobody (_ : List UInt8) : Prop := False
theorem Rel.length {w : World} {E : List UInt8 → Prop} : ∀ {l : List Named} {fs : List File}, Rel w E l fs → l.length = fs.length
  | [], [], _ => rfl
  | _ :: l, _ :: fs, h => by simp [Rel.length h.2.2]
  | [], _ :: _, h => h.elim
  | _ :: _, [], h => h.elim
theorem Rel.names {w : World} {E : List UInt8 → Prop} : ∀ {l : List Named} {fs : List File}, Rel w E l fs → l.map (·.1) = fs.map (·.name)
  | [], [], _ => rfl
  | _ :: l, _ :: fs, h => by simp [Rel.names h.2.2, h.1]
  | [], _ :: _, h => h.elim
  | _ :: _, [], h => h.elim
theorem Rel.turn {w w' : World} {E E' : List UInt8 → Prop} (hE : ∀ n, E n → E' n) : ∀ {l : List Named} {fs : List File}, Rel w E l fs → (∀ x ∈ l, ¬ E' x.1 → ∀ g, arr x.2 = some g → w'.heap[g]? = w.heap[g]?) → Rel w' E' l fs
  | [], [], _, _ => trivial
  | x :: l, f :: fs, h, hb => ⟨h.1, fun he => (h.2.1 (fun e => he (hE _ e))).same (hb x (by simp) (by rw [h.1]; exact he)), Rel.turn hE h.2.2 (fun y hy => hb y (by simp [hy]))⟩
  | [], _ :: _, h, _ => h.elim
  | _ :: _, [], h, _ => h.elim
theorem Rel.none {w : World} {E : List UInt8 → Prop} {n : List UInt8} : ∀ {l : List Named} {fs : List File}, Rel w E l fs → Dk.look fs n = none → seek l n = none
  | [], [], _, _ => rfl
  | x :: l, f :: fs, h, hl => by
    simp only [Dk.look] at hl
    split at hl
    · cases hl
    · rename_i hn
      simp only [seek]
      rw [if_neg (by rw [h.1]; exact hn)]
      exact Rel.none h.2.2 hl
  | [], _ :: _, h, _ => h.elim
  | _ :: _, [], h, _ => h.elim
theorem Rel.some {w : World} {E : List UInt8 → Prop} {n : List UInt8} {f : File} : ∀ {l : List Named} {fs : List File}, Rel w E l fs → Dk.look fs n = some f → ∃ v, seek l n = some v ∧ (n, v) ∈ l ∧ (¬ E n → Fits w v f)
  | [], [], _, hl => by cases hl
  | x :: l, g :: fs, h, hl => by
    simp only [Dk.look] at hl
    split at hl
    · rename_i hn
      cases hl
      have hx : x.1 = n := h.1.trans hn
      refine ⟨x.2, by simp only [seek]; rw [if_pos hx], by rw [← hx]; simp, fun he => h.2.1 (by rw [hn]; exact he)⟩
    · rename_i hn
      obtain ⟨v, h1, h2, h3⟩ := Rel.some h.2.2 hl
      refine ⟨v, ?_, by simp [h2], h3⟩
      simp only [seek]
      rw [if_neg (by rw [h.1]; exact hn)]
      exact h1
  | [], _ :: _, h, _ => h.elim
  | _ :: _, [], h, _ => h.elim
theorem Rel.lay {w : World} {v : Value} {f : File} (hf : Fits w v f) : ∀ {l : List Named} {fs : List File}, Up l → Rel w (fun n => n = f.name) l fs → Rel w Nobody (lay l f.name v) (Dk.put fs f)
  | [], [], _, _ => ⟨rfl, fun _ => hf, trivial⟩
  | x :: l, g :: fs, hu, h => by
    have rest : (∀ y ∈ l, less f.name y.1 = true) → Rel w Nobody l fs := fun hlt => by
      have go : ∀ {l : List Named} {fs : List File}, (∀ y ∈ l, less f.name y.1 = true) → Rel w (fun n => n = f.name) l fs → Rel w Nobody l fs := by
        intro l
        induction l with
        | nil => intro fs _ h; cases fs <;> exact h
        | cons y t ih =>
          intro fs hl h
          cases fs with
          | nil => exact h
          | cons k ks => exact ⟨h.1, fun _ => h.2.1 (fun e => by have := hl y (by simp); rw [h.1, e, less_irrefl] at this; cases this), ih (fun z hz => hl z (by simp [hz])) h.2.2⟩
      exact go hlt h.2.2
    simp only [Go.Proofs.YtogphpejdnhnjaaGreatDoor.lay, Dk.put]
    rw [h.1]
    split
    · rename_i hlt
      exact ⟨h.1, fun _ => h.2.1 (fun e => by rw [e, less_irrefl] at hlt; cases hlt), Rel.lay hf hu.2 h.2.2⟩
    · rename_i hlt
      split
      · rename_i he
        exact ⟨rfl, fun _ => hf, rest (fun y hy => by rw [← he, ← h.1]; exact hu.1 y hy)⟩
      · rename_i he
        have hfg : less f.name g.name = true := by
          cases hx : less f.name g.name with
          | true => rfl
          | false => exact absurd (less_total (by simpa using hlt) hx) he
        exact ⟨rfl, fun _ => hf, h.1, fun _ => h.2.1 he, rest (fun y hy => less_trans hfg (by rw [← h.1]; exact hu.1 y hy))⟩
  | [], _ :: _, _, h => h.elim
  | _ :: _, [], _, h => h.elim
theorem Rel.strike {w : World} {E : List UInt8 → Prop} (n : List UInt8) : ∀ {l : List Named} {fs : List File}, Rel w E l fs → Rel w E (strike l n) (Dk.drop fs n)
  | [], [], _ => trivial
  | x :: l, g :: fs, h => by
    simp only [Go.Proofs.YtogphpejdnhnjaaGreatDoor.strike, Dk.drop]
    rw [h.1]
    split
    · exact Rel.strike n h.2.2
    · exact ⟨h.1, h.2.1, Rel.strike n h.2.2⟩
  | [], _ :: _, h => h.elim
  | _ :: _, [], h => h.elim
theorem lay_mem {l : List Named} {n : List UInt8} {v : Value} (hu : Up l) {y : Named} (h : y ∈ lay l n v) : y = (n, v) ∨ (y ∈ l ∧ y.1 ≠ n) := by
  induction l with
  | nil => simp [lay] at h; exact .inl h
  | cons x t ih =>
    simp only [lay] at h
    split at h
    · rename_i hx
      rcases List.mem_cons.1 h with rfl | h
      · exact .inr ⟨by simp, fun e => by rw [e, less_irrefl] at hx; cases hx⟩
      · rcases ih hu.2 h with rfl | ⟨h1, h2⟩
        · exact .inl rfl
        · exact .inr ⟨by simp [h1], h2⟩
    · split at h
      · rename_i hx he
        rcases List.mem_cons.1 h with rfl | h
        · exact .inl rfl
        · exact .inr ⟨by simp [h], fun e => by have := hu.1 y h; rw [he, e, less_irrefl] at this; cases this⟩
      · rename_i hx he
        have hlt : less n x.1 = true := by
          cases hh : less n x.1 with
          | true => rfl
          | false => exact absurd (less_total (by simpa using hx) hh) he
        rcases List.mem_cons.1 h with rfl | h
        · exact .inl rfl
        · refine .inr ⟨h, fun e => ?_⟩
          rcases List.mem_cons.1 h with rfl | h
          · exact he e
          · have := less_trans hlt (hu.1 y h)
            rw [e, less_irrefl] at this
            cases this

/-- Where the map and the files' bytes lie. -/
structure Foot (S : Nat → Prop) (m : Nat) (l : List Named) : Prop where
  mine : S m
  arrs : ∀ x ∈ l, ∀ g, arr x.2 = some g → S g ∧ g ≠ m
  apart : ∀ x ∈ l, ∀ y ∈ l, x.1 ≠ y.1 → ∀ g, arr x.2 = some g → arr y.2 ≠ some g
theorem Foot.lay {S S' : Nat → Prop} {m : Nat} {l : List Named} (h : Foot S m l) (hu : Up l) {n : List UInt8} {v : Value} (hs : ∀ g, S g → S' g) (hv : ∀ g, arr v = some g → S' g ∧ g ≠ m ∧ ∀ y ∈ l, y.1 ≠ n → arr y.2 ≠ some g) : Foot S' m (lay l n v) := by
  refine ⟨hs _ h.mine, fun x hx g hg => ?_, fun x hx y hy hne g hg => ?_⟩
  · rcases lay_mem hu hx with rfl | ⟨h1, h2⟩
    · exact ⟨(hv g hg).1, (hv g hg).2.1⟩
    · exact ⟨hs _ (h.arrs x h1 g hg).1, (h.arrs x h1 g hg).2⟩
  · rcases lay_mem hu hx with rfl | ⟨h1, h2⟩
    · rcases lay_mem hu hy with rfl | ⟨h3, h4⟩
      · exact absurd rfl hne
      · exact (hv g hg).2.2 y h3 h4
    · rcases lay_mem hu hy with rfl | ⟨h3, h4⟩
      · intro e
        exact (hv g e).2.2 x h1 h2 hg
      · exact h.apart x h1 y h3 hne g hg
theorem Foot.strike {S : Nat → Prop} {m : Nat} {l : List Named} (h : Foot S m l) (n : List UInt8) : Foot S m (strike l n) :=
  ⟨h.mine, fun x hx => h.arrs x (strike_mem hx).1, fun x hx y hy => h.apart x (strike_mem hx).1 y (strike_mem hy).1⟩
theorem Foot.wide {S S' : Nat → Prop} {m : Nat} {l : List Named} (h : Foot S m l) (hs : ∀ g, S g → S' g) : Foot S' m l :=
  ⟨hs _ h.mine, fun x hx g hg => ⟨hs _ (h.arrs x hx g hg).1, (h.arrs x hx g hg).2⟩, h.apart⟩
theorem MapIs.same {P : Program} {k : TypeId} {w w' : World} {b : Nat} {l : List Named} (h : MapIs P k w b l) (hb : w'.heap[b]? = w.heap[b]?) : MapIs P k w' b l := by
  obtain ⟨hu, es, clock, h1, h2⟩ := h
  exact ⟨hu, es, clock, hb.trans h1, h2⟩
end Go.Proofs.YtogphpejdnhnjaaGreatDoor
