/- The walk of step, all its operations; played. -/
import Derived.Test.YtfjhfecjbheipaaSu
namespace Go.Proofs.Ytfjhfecjbheipaa
open Go.RowKit
open Dk (File Disk)
variable {X : World → Prop}

theorem step_any (w0 : World) (S : Nat → Prop) (w : World) (b q : Nat) (d r : Disk) (o : OpE) (h : Both X w0 S w b q d r) (hh : opKind.held w0 o) (hf : Fine o) (hd0 : d.done ≤ 4611686018427387904) (hr0 : r.done ≤ 4611686018427387904) :
    Calls Try.prog 8 #[.pointer (some ⟨b, 0, none⟩), .pointer (some ⟨q, 0, none⟩), .agg (opKind.vals o).toArray] w fun e w' => ∃ S' x, e = .returned (.bool x) ∧ (x = true ↔ (opOn (tag o.what) o d).1 = (opOn (tag o.what) o r).1) ∧ Both X w0 S' w' b q (opOn (tag o.what) o d).2 (opOn (tag o.what) o r).2 := by
  by_cases k0 : tag o.what = 0
  · have e1 : ∀ d, opOn (tag o.what) o d = (((Dk.raw d 0 o.a [] o.data).1, [], false), (Dk.raw d 0 o.a [] o.data).2) := fun d => by unfold opOn; rw [if_pos (.inl k0)]
    refine (step_append0 w0 S w b q d r o h hh hf hd0 hr0 k0).mono ?_
    rintro e w' ⟨S', x, rfl, hx, hB⟩
    rw [e1, e1]
    exact ⟨S', x, rfl, by rw [hx]; simp, hB⟩
  by_cases k1 : tag o.what = 1
  · have e1 : ∀ d, opOn (tag o.what) o d = (((Dk.raw d 0 o.a [] o.data).1, [], false), (Dk.raw d 0 o.a [] o.data).2) := fun d => by unfold opOn; rw [if_pos (.inr k1)]
    refine (step_append1 w0 S w b q d r o h hh hf hd0 hr0 k1).mono ?_
    rintro e w' ⟨S', x, rfl, hx, hB⟩
    rw [e1, e1]
    exact ⟨S', x, rfl, by rw [hx]; simp, hB⟩
  by_cases k2 : tag o.what = 2
  · have e1 : ∀ d, opOn (tag o.what) o d = (((Dk.raw d 1 o.a [] []).1, [], false), (Dk.raw d 1 o.a [] []).2) := fun d => by unfold opOn; rw [k2]; rfl
    refine (step_sync w0 S w b q d r o h hh hf hd0 hr0 k2).mono ?_
    rintro e w' ⟨S', x, rfl, hx, hB⟩
    rw [e1, e1]
    exact ⟨S', x, rfl, by rw [hx]; simp, hB⟩
  by_cases k3 : tag o.what = 3
  · have e1 : ∀ d, opOn (tag o.what) o d = (((Dk.raw d 2 o.a o.b []).1, [], false), (Dk.raw d 2 o.a o.b []).2) := fun d => by unfold opOn; rw [k3]; rfl
    refine (step_rename w0 S w b q d r o h hh hf hd0 hr0 k3).mono ?_
    rintro e w' ⟨S', x, rfl, hx, hB⟩
    rw [e1, e1]
    exact ⟨S', x, rfl, by rw [hx]; simp, hB⟩
  by_cases k4 : tag o.what = 4
  · have e1 : ∀ d, opOn (tag o.what) o d = (((Dk.raw d 3 o.a [] []).1, [], false), (Dk.raw d 3 o.a [] []).2) := fun d => by unfold opOn; rw [k4]; rfl
    refine (step_remove w0 S w b q d r o h hh hf hd0 hr0 k4).mono ?_
    rintro e w' ⟨S', x, rfl, hx, hB⟩
    rw [e1, e1]
    exact ⟨S', x, rfl, by rw [hx]; simp, hB⟩
  by_cases k5 : tag o.what = 5
  · have e1 : ∀ d, opOn (tag o.what) o d = (((Dk.cut d o.n).1, [], false), (Dk.cut d o.n).2) := fun d => by unfold opOn; rw [k5]; rfl
    refine (step_cut w0 S w b q d r o h hh hf hd0 hr0 k5).mono ?_
    rintro e w' ⟨S', x, rfl, hx, hB⟩
    rw [e1, e1]
    exact ⟨S', x, rfl, by rw [hx]; simp, hB⟩
  by_cases k6 : tag o.what = 6
  · have e1 : ∀ d, opOn (tag o.what) o d = ((0, [], false), Dk.crash d (o.picks.map up)) := fun d => by unfold opOn; rw [k6]; rfl
    refine (step_crash w0 S w b q d r o h hh hf hd0 hr0 k6).mono ?_
    rintro e w' ⟨S', x, rfl, hx, hB⟩
    rw [e1, e1]
    exact ⟨S', x, rfl, by rw [hx]; simp, hB⟩
  have e1 : ∀ d, opOn (tag o.what) o d = (((readOf d.files o.a).1, (readOf d.files o.a).2, (Dk.look d.files o.a).isSome), d) := fun d => by
    unfold opOn; rw [if_neg (by omega), if_neg k2, if_neg k3, if_neg k4, if_neg k5, if_neg k6]
  refine (step_read w0 S w b q d r o h hh hf hd0 hr0 (fun j j0 j6 => ?_)).mono ?_
  · rw [beq_eq_false_iff_ne]
    intro e
    omega
  rintro e w' ⟨x, rfl, hx, hB⟩
  rw [e1, e1]
  refine ⟨S, x, rfl, ?_, hB⟩
  rw [hx]
  simp [Prod.ext_iff, and_assoc]
theorem raw_done (d : Disk) (k : Nat) (a b t : List UInt8) : (Dk.raw d k a b t).2.done ≤ d.done + 1 ∧ (Dk.raw d k a b t).2.cap = d.cap := by
  rcases Dk.raw_cases d k a b t with ⟨e, _, h⟩ | ⟨l, _, h⟩
  · rw [h]; exact ⟨Nat.le_succ _, rfl⟩
  · rw [h]
    obtain ⟨c, f, n, lf, dk⟩ := d
    unfold Dk.write Dk.tick
    rcases lf with _ | _ | k
    · simp
    · simp
    · simp
theorem opOn_done (k : Int) (o : OpE) (d : Disk) : (opOn k o d).2.done ≤ d.done + 1 ∧ (opOn k o d).2.cap = d.cap := by
  unfold opOn
  split
  · exact raw_done _ _ _ _ _
  split
  · exact raw_done _ _ _ _ _
  split
  · exact raw_done _ _ _ _ _
  split
  · exact raw_done _ _ _ _ _
  split
  · unfold Dk.cut
    split
    · exact ⟨Nat.le_succ _, rfl⟩
    · split <;> exact ⟨Nat.le_succ _, rfl⟩
  split
  · exact ⟨Nat.le_succ _, rfl⟩
  · exact ⟨Nat.le_succ _, rfl⟩
end Go.Proofs.Ytfjhfecjbheipaa
