/- Stage 4 of the document over plain lists: files by name, raw writes, a cut, a crash; no walk. -/
import Derived.Test.YtfjhfecjbheipaaKl
namespace Go.Proofs.Ytfjhfecjbheipaa.Dk
structure File where
  name : List UInt8
  safe : Nat
  bytes : List UInt8

/-- May a name be? -/
def named (s : List UInt8) : Bool := decide (1 ≤ s.length) && decide (s.length ≤ 100) && s.all (fun b => !(b == 0))
/-- What a file costs; what all cost. -/
def cost (f : File) : Nat := 16 + f.name.length + f.bytes.length
def used : List File → Nat
  | [] => 0
  | f :: t => cost f + used t
/-- A file by its name. -/
def look : List File → List UInt8 → Option File
  | [], _ => none
  | f :: t, n => if f.name = n then some f else look t n
/-- A file in its place, or in another one's. -/
def put : List File → File → List File
  | [], f => [f]
  | g :: t, f => if less g.name f.name then g :: put t f else if g.name = f.name then f :: t else f :: g :: t
/-- All but one. -/
def drop : List File → List UInt8 → List File
  | [], _ => []
  | g :: t, n => if g.name = n then drop t n else g :: drop t n
/-- Rising by name. -/
def Rising : List File → Prop
  | [] => True
  | f :: t => (∀ g ∈ t, less f.name g.name = true) ∧ Rising t

structure Disk where
  cap : Nat
  files : List File
  done : Nat
  left : Option Nat
  dark : Bool

/-- A raw write is to be done: false where it is the cut. -/
def tick (d : Disk) : Bool × Disk :=
  match d.left with
  | none => (true, { d with done := d.done + 1 })
  | some 0 => (false, { d with dark := true, left := none })
  | some (k + 1) => (true, { d with done := d.done + 1, left := some k })
/-- It is done with these files, or it is the cut. -/
def write (d : Disk) (l : List File) : Nat × Disk := if (tick d).1 then (0, { (tick d).2 with files := l }) else (5, (tick d).2)
/-- An error, or the files that a raw write would leave. -/
def act (d : Disk) : Nat ⊕ List File → Nat × Disk
  | .inl e => (e, d)
  | .inr l => write d l
/-- Ahead of all else: what may not be; the power. -/
def guard (dark ok : Bool) (r : Nat ⊕ List File) : Nat ⊕ List File := if ok then (if dark then .inl 5 else r) else .inl 1
def planAppend (c : Nat) (l : List File) (n b : List UInt8) : Nat ⊕ List File :=
  match look l n with
  | some f => if c < used l + b.length then .inl 4 else .inr (put l { f with bytes := f.bytes ++ b })
  | none => if c < used l + (b.length + 16 + n.length) then .inl 4 else .inr (put l ⟨n, 0, b⟩)
def planSync (l : List File) (n : List UInt8) : Nat ⊕ List File :=
  match look l n with
  | some f => .inr (put l { f with safe := f.bytes.length })
  | none => .inl 3
/-- How much more room a rename wants. -/
def wants (l : List File) (a b : List UInt8) : Int :=
  match look l b with
  | some g => if a = b then (b.length : Int) - a.length else (b.length : Int) - a.length - cost g
  | none => (b.length : Int) - a.length
def planRename (c : Nat) (l : List File) (a b : List UInt8) : Nat ⊕ List File :=
  match look l a with
  | some f => if (c : Int) - used l < wants l a b then .inl 4 else .inr (put (drop l a) { f with name := b })
  | none => .inl 3
def planRemove (l : List File) (n : List UInt8) : Nat ⊕ List File :=
  match look l n with
  | some _ => .inr (drop l n)
  | none => .inl 3
/-- The four raw writes. -/
def plan (c : Nat) (l : List File) (dark : Bool) (k : Nat) (a b t : List UInt8) : Nat ⊕ List File :=
  match k with
  | 0 => guard dark (named a && decide (t.length ≤ 4096)) (planAppend c l a t)
  | 1 => guard dark (named a) (planSync l a)
  | 2 => guard dark (named a && named b) (planRename c l a b)
  | _ => guard dark (named a) (planRemove l a)
def raw (d : Disk) (k : Nat) (a b t : List UInt8) : Nat × Disk := act d (plan d.cap d.files d.dark k a b t)
def cut (d : Disk) (k : Int) : Nat × Disk := if k < 0 then (1, d) else (0, if d.dark then d else { d with left := some k.toNat })
/-- What a crash leaves of a file. -/
def kept (f : File) (p : Nat) : File := ⟨f.name, f.safe + p % (f.bytes.length - f.safe + 1), f.bytes.take (f.safe + p % (f.bytes.length - f.safe + 1))⟩
def keptAll : List File → List Nat → List File
  | [], _ => []
  | f :: t, [] => kept f 0 :: keptAll t []
  | f :: t, p :: ps => kept f p :: keptAll t ps
def crash (d : Disk) (ps : List Nat) : Disk := { d with files := keptAll d.files ps, left := none, dark := false }

/-- What holds of every disk. -/
structure Good (d : Disk) : Prop where
  rising : Rising d.files
  names : ∀ f ∈ d.files, named f.name = true
  safes : ∀ f ∈ d.files, f.safe ≤ f.bytes.length
  room : used d.files ≤ d.cap
  lit : d.dark = true → d.left = none

theorem look_some {l : List File} {n : List UInt8} {f : File} (h : look l n = some f) : f ∈ l ∧ f.name = n := by
  induction l with
  | nil => simp [look] at h
  | cons g t ih =>
    simp only [look] at h
    split at h
    · rename_i hg
      cases h
      exact ⟨by simp, hg⟩
    · exact ⟨by simp [(ih h).1], (ih h).2⟩
theorem look_none {l : List File} {n : List UInt8} (h : look l n = none) : ∀ f ∈ l, f.name ≠ n := by
  induction l with
  | nil => simp
  | cons g t ih =>
    simp only [look] at h
    split at h
    · cases h
    · rename_i hg
      intro f hf
      rcases List.mem_cons.1 hf with rfl | hf
      · exact hg
      · exact ih h f hf
theorem look_mem {l : List File} {f : File} (hr : Rising l) (h : f ∈ l) : look l f.name = some f := by
  induction l with
  | nil => simp at h
  | cons g t ih =>
    simp only [look]
    rcases List.mem_cons.1 h with rfl | h
    · rw [if_pos rfl]
    · have := hr.1 f h
      rw [if_neg (fun e => by rw [e, less_irrefl] at this; cases this)]
      exact ih hr.2 h
theorem put_mem {l : List File} {f g : File} (h : g ∈ put l f) : g = f ∨ (g ∈ l ∧ (Rising l → g.name ≠ f.name)) := by
  induction l with
  | nil => simp [put] at h; exact .inl h
  | cons k t ih =>
    simp only [put] at h
    split at h
    · rename_i hk
      rcases List.mem_cons.1 h with rfl | h
      · exact .inr ⟨by simp, fun _ e => by rw [e, less_irrefl] at hk; cases hk⟩
      · rcases ih h with rfl | ⟨h1, h2⟩
        · exact .inl rfl
        · exact .inr ⟨by simp [h1], fun hr => h2 hr.2⟩
    · split at h
      · rename_i hk he
        rcases List.mem_cons.1 h with rfl | h
        · exact .inl rfl
        · refine .inr ⟨by simp [h], fun hr e => ?_⟩
          have := hr.1 g h
          rw [he, e, less_irrefl] at this
          cases this
      · rename_i hk he
        rcases List.mem_cons.1 h with rfl | h
        · exact .inl rfl
        · refine .inr ⟨h, fun hr e => ?_⟩
          rcases List.mem_cons.1 h with rfl | h
          · exact he e
          · have h1 := hr.1 g h
            rw [e] at h1
            exact hk h1
theorem put_self (l : List File) (f : File) : f ∈ put l f := by
  induction l with
  | nil => simp [put]
  | cons k t ih =>
    simp only [put]
    split
    · simp [ih]
    · split <;> simp
theorem put_keeps {l : List File} {f g : File} (h : g ∈ l) (hn : g.name ≠ f.name) : g ∈ put l f := by
  induction l with
  | nil => simp at h
  | cons k t ih =>
    simp only [put]
    split
    · rcases List.mem_cons.1 h with rfl | h
      · simp
      · simp [ih h]
    · split
      · rename_i he
        rcases List.mem_cons.1 h with rfl | h
        · exact absurd he hn
        · simp [h]
      · rw [List.mem_cons]
        exact .inr h
theorem put_rising {l : List File} (f : File) (hr : Rising l) : Rising (put l f) := by
  induction l with
  | nil => exact ⟨by simp, trivial⟩
  | cons k t ih =>
    simp only [put]
    split
    · rename_i hk
      refine ⟨fun g hg => ?_, ih hr.2⟩
      rcases put_mem hg with rfl | ⟨h1, _⟩
      · exact hk
      · exact hr.1 g h1
    · split
      · rename_i hk he
        refine ⟨fun g hg => ?_, hr.2⟩
        rw [← he]
        exact hr.1 g hg
      · rename_i hk he
        have hlt : less f.name k.name = true := by
          cases hx : less f.name k.name with
          | true => rfl
          | false => exact absurd (less_total (by simpa using hk) hx) he
        refine ⟨fun g hg => ?_, hr⟩
        rcases List.mem_cons.1 hg with rfl | hg
        · exact hlt
        · exact less_trans hlt (hr.1 g hg)
theorem drop_mem {l : List File} {n : List UInt8} {g : File} : g ∈ drop l n ↔ g ∈ l ∧ g.name ≠ n := by
  induction l with
  | nil => simp [drop]
  | cons k t ih =>
    simp only [drop]
    split
    · rename_i hk
      rw [ih, List.mem_cons]
      constructor
      · rintro ⟨h1, h2⟩
        exact ⟨.inr h1, h2⟩
      · rintro ⟨rfl | h1, h2⟩
        · exact absurd hk h2
        · exact ⟨h1, h2⟩
    · rename_i hk
      rw [List.mem_cons, List.mem_cons, ih]
      constructor
      · rintro (rfl | ⟨h1, h2⟩)
        · exact ⟨.inl rfl, hk⟩
        · exact ⟨.inr h1, h2⟩
      · rintro ⟨rfl | h1, h2⟩
        · exact .inl rfl
        · exact .inr ⟨h1, h2⟩
theorem drop_rising {l : List File} (n : List UInt8) (hr : Rising l) : Rising (drop l n) := by
  induction l with
  | nil => trivial
  | cons k t ih =>
    simp only [drop]
    split
    · exact ih hr.2
    · exact ⟨fun g hg => hr.1 g (drop_mem.1 hg).1, ih hr.2⟩
/-- What all cost, one file in another's place. -/
theorem used_put_new {l : List File} {f : File} (h : look l f.name = none) : used (put l f) = used l + cost f := by
  induction l with
  | nil => simp [put, used]
  | cons k t ih =>
    simp only [look] at h
    split at h
    · cases h
    · rename_i hk
      simp only [put]
      split
      · simp only [used, ih h]; omega
      · simp only [used]
        omega
theorem used_put_old {l : List File} {f g : File} (hr : Rising l) (h : look l f.name = some g) : used (put l f) + cost g = used l + cost f := by
  induction l with
  | nil => simp [look] at h
  | cons k t ih =>
    simp only [look] at h
    split at h
    · rename_i hk
      cases h
      have : ¬ less g.name f.name = true := by rw [hk, less_irrefl]; simp
      simp only [put]
      rw [if_neg this, if_pos hk]
      simp only [used]
      omega
    · rename_i hk
      have hm := (look_some h).1
      have hn := (look_some h).2
      have hlt := hr.1 g hm
      rw [hn] at hlt
      simp only [put, hlt, if_true, used]
      have := ih hr.2 h
      omega
theorem drop_none {l : List File} {n : List UInt8} (h : ∀ f ∈ l, f.name ≠ n) : drop l n = l := by
  induction l with
  | nil => rfl
  | cons k t ih =>
    simp only [drop]
    rw [if_neg (h k (by simp)), ih (fun f hf => h f (by simp [hf]))]
theorem used_drop {l : List File} {n : List UInt8} {g : File} (hr : Rising l) (h : look l n = some g) : used (drop l n) + cost g = used l := by
  induction l with
  | nil => simp [look] at h
  | cons k t ih =>
    simp only [look] at h
    simp only [drop]
    split at h
    · rename_i hk
      cases h
      rw [if_pos hk, drop_none, used]
      · omega
      · intro f hf e
        have := hr.1 f hf
        rw [e, hk, less_irrefl] at this
        cases this
    · rename_i hk
      rw [if_neg hk]
      simp only [used]
      have := ih hr.2 h
      omega
theorem look_drop {l : List File} {a b : List UInt8} (h : a ≠ b) : look (drop l a) b = look l b := by
  induction l with
  | nil => rfl
  | cons k t ih =>
    simp only [drop, look]
    split
    · rename_i hk
      rw [if_neg (by rw [hk]; exact h), ih]
    · simp only [look]
      split
      · rfl
      · exact ih
theorem look_dropped (l : List File) (a : List UInt8) : look (drop l a) a = none := by
  induction l with
  | nil => rfl
  | cons k t ih =>
    simp only [drop]
    split
    · exact ih
    · rename_i hk
      simp only [look]
      rw [if_neg hk, ih]
theorem put_length (l : List File) (f : File) : (put l f).length ≤ l.length + 1 := by
  induction l with
  | nil => simp [put]
  | cons k t ih =>
    simp only [put]
    split
    · simp; omega
    · split <;> simp
theorem drop_length (l : List File) (n : List UInt8) : (drop l n).length ≤ l.length := by
  induction l with
  | nil => simp [drop]
  | cons k t ih =>
    simp only [drop]
    split <;> simp <;> omega
theorem drop_less {l : List File} {n : List UInt8} {g : File} (h : look l n = some g) : (drop l n).length + 1 ≤ l.length := by
  induction l with
  | nil => simp [look] at h
  | cons k t ih =>
    simp only [look] at h
    simp only [drop]
    split at h
    · rename_i hk
      rw [if_pos hk]
      have := drop_length t n
      simp; omega
    · rename_i hk
      rw [if_neg hk]
      have := ih h
      simp; omega
end Go.Proofs.Ytfjhfecjbheipaa.Dk
