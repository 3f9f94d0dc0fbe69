/- Files loaded, over plain lists: what may be loaded, and the disk that it makes; no walk. -/
import Derived.Test.YtfjhfecjbheipaaPe
namespace Go.Proofs.Ytfjhfecjbheipaa
open Go.RowKit
open Dk (File Disk)

def ldE (e : Ent) : File := ⟨e.name, e.safe.toNat, e.bytes⟩
/-- May this one come behind those? -/
def okE (fs : List File) (e : Ent) : Bool := Dk.named e.name && !(Dk.look fs e.name).isSome && decide (0 ≤ e.safe) && decide (e.safe ≤ (e.bytes.length : Int))
def ldAll : List File → List Ent → Option (List File)
  | fs, [] => some fs
  | fs, e :: t => if okE fs e then ldAll (Dk.put fs (ldE e)) t else none
/-- A bound of what they cost. -/
def bulk : List Ent → Nat
  | [] => 0
  | e :: t => 116 + e.bytes.length + bulk t
/-- What loading answers: an error, or the disk. -/
def ldOf (cap : Int) (es : List Ent) : Nat ⊕ Disk :=
  if cap < 0 ∨ 1099511627776 < cap then .inl 1 else
  match ldAll [] es with
  | none => .inl 1
  | some fs => if cap < (Dk.used fs : Int) then .inl 4 else .inr ⟨cap.toNat, fs, 0, none, false⟩
theorem okE_true {fs : List File} {e : Ent} (h : okE fs e = true) : Dk.named e.name = true ∧ Dk.look fs e.name = none ∧ 0 ≤ e.safe ∧ e.safe ≤ (e.bytes.length : Int) := by
  unfold okE at h
  simp only [Bool.and_eq_true, decide_eq_true_eq, Bool.not_eq_true'] at h
  refine ⟨h.1.1.1, ?_, h.1.2, h.2⟩
  cases hx : Dk.look fs e.name with
  | none => rfl
  | some f => have := h.1.1.2; rw [hx] at this; cases this
theorem ldAll_app (l r : List Ent) : ∀ fs, ldAll fs (l ++ r) = (ldAll fs l).bind fun x => ldAll x r := by
  induction l with
  | nil => intro fs; rfl
  | cons e t ih =>
    intro fs
    simp only [List.cons_append, ldAll]
    split
    · exact ih _
    · rfl
theorem ldAll_next {es : List Ent} {t : Nat} {e : Ent} {x : List File} (he : es[t]? = some e) (hx : ldAll [] (es.take t) = some x) (ho : okE x e = true) : ldAll [] (es.take (t + 1)) = some (Dk.put x (ldE e)) := by
  rw [List.take_add_one, he, ldAll_app, hx]
  show (if okE x e = true then _ else _) = _
  rw [if_pos ho]
  rfl
theorem ldAll_bad {es : List Ent} {t : Nat} {e : Ent} {x : List File} (he : es[t]? = some e) (hx : ldAll [] (es.take t) = some x) (ho : okE x e = false) : ldAll [] es = none := by
  have hd : es = es.take t ++ (e :: es.drop (t + 1)) := by
    have ht : t < es.length := (List.getElem?_eq_some_iff.1 he).1
    have h1 := List.take_append_drop t es
    have h2 : es.drop t = e :: es.drop (t + 1) := by
      rw [List.drop_eq_getElem_cons ht]
      congr 1
      exact (List.getElem?_eq_some_iff.1 he).2
    rw [h2] at h1
    exact h1.symm
  rw [hd, ldAll_app, hx]
  show (if okE x e = true then _ else _) = _
  rw [if_neg (by rw [ho]; decide)]
/-- What holds of files that were loaded. -/
structure Ldd (fs : List File) : Prop where
  rising : Dk.Rising fs
  names : ∀ f ∈ fs, Dk.named f.name = true
  safes : ∀ f ∈ fs, f.safe ≤ f.bytes.length
theorem Ldd.nil : Ldd [] := ⟨trivial, (fun f hf => by cases hf), (fun f hf => by cases hf)⟩
theorem Ldd.next {fs : List File} {e : Ent} (h : Ldd fs) (ho : okE fs e = true) : Ldd (Dk.put fs (ldE e)) ∧ (Dk.put fs (ldE e)).length ≤ fs.length + 1 ∧ Dk.used (Dk.put fs (ldE e)) ≤ Dk.used fs + (116 + e.bytes.length) ∧ Dk.used (Dk.put fs (ldE e)) = Dk.used fs + (16 + e.name.length + e.bytes.length) := by
  obtain ⟨h1, h2, h3, h4⟩ := okE_true ho
  have h5 := (named_true h1).2.1
  have h6 := Dk.used_put_new (l := fs) (f := ldE e) h2
  have h7 : Dk.cost (ldE e) = 16 + e.name.length + e.bytes.length := rfl
  refine ⟨⟨Dk.put_rising _ h.rising, fun f hf => ?_, fun f hf => ?_⟩, Dk.put_length _ _, by omega, by omega⟩
  · rcases Dk.put_mem hf with rfl | ⟨hf, _⟩
    · exact h1
    · exact h.names f hf
  · rcases Dk.put_mem hf with rfl | ⟨hf, _⟩
    · show e.safe.toNat ≤ e.bytes.length
      omega
    · exact h.safes f hf
theorem ldAll_ldd : ∀ (es : List Ent) (fs x : List File), Ldd fs → ldAll fs es = some x → Ldd x ∧ x.length ≤ fs.length + es.length ∧ Dk.used x ≤ Dk.used fs + bulk es
  | [], fs, x, h, hx => by
    cases hx
    exact ⟨h, Nat.le_refl _, Nat.le_refl _⟩
  | e :: t, fs, x, h, hx => by
    simp only [ldAll] at hx
    split at hx
    · rename_i ho
      obtain ⟨h1, h2, h3, _⟩ := h.next ho
      obtain ⟨k1, k2, k3⟩ := ldAll_ldd t _ _ h1 hx
      refine ⟨k1, ?_, ?_⟩
      · simp only [List.length_cons]; omega
      · simp only [bulk]; omega
    · cases hx
theorem bulk_app (a b : List Ent) : bulk (a ++ b) = bulk a + bulk b := by
  induction a with
  | nil => simp [bulk]
  | cons e t ih => simp only [List.cons_append, bulk, ih]; omega
theorem bulk_take (es : List Ent) (t : Nat) : bulk (es.take t) ≤ bulk es := by
  have h := bulk_app (es.take t) (es.drop t)
  rw [List.take_append_drop] at h
  omega
theorem bulk_mem {es : List Ent} {e : Ent} (h : e ∈ es) : e.bytes.length ≤ bulk es := by
  induction es with
  | nil => cases h
  | cons k t ih =>
    rcases List.mem_cons.1 h with rfl | h
    · simp only [bulk]; omega
    · have := ih h
      simp only [bulk]; omega
theorem Ldd.good {fs : List File} (h : Ldd fs) {cap : Nat} (hc : Dk.used fs ≤ cap) : Dk.Good ⟨cap, fs, 0, none, false⟩ := ⟨h.rising, h.names, h.safes, hc, fun _ => rfl⟩
/-- The disk that was loaded. -/
theorem ldOf_good {cap : Int} {es : List Ent} {d : Disk} (h : ldOf cap es = .inr d) : 0 ≤ cap ∧ cap ≤ 1099511627776 ∧ ∃ fs, ldAll [] es = some fs ∧ d = ⟨cap.toNat, fs, 0, none, false⟩ ∧ (Dk.used fs : Int) ≤ cap ∧ Dk.Good d := by
  unfold ldOf at h
  split at h
  · cases h
  rename_i hc
  split at h
  · cases h
  rename_i fs hfs
  split at h
  · cases h
  rename_i hu
  cases h
  obtain ⟨k1, _, _⟩ := ldAll_ldd es [] fs Ldd.nil hfs
  exact ⟨by omega, by omega, fs, hfs, rfl, by omega, k1.good (by omega)⟩
end Go.Proofs.Ytfjhfecjbheipaa
