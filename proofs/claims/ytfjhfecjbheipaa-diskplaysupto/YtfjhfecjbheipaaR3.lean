/- The document's disk and its plain files; the walk of its step; what its raw writes leave; no other walk. -/
import Derived.Test.YtfjhfecjbheipaaR2
namespace Go.Proofs.Ytfjhfecjbheipaa
open Go.RowKit
open Dk (File Disk)

/-- The document's disk r at block q, whatever becomes of the blocks of F. -/
structure RefAt (F : Nat → Prop) (w : World) (q : Nat) (ao : Option Addr) (n c : Nat) (es : List Ent) (r : Disk) : Prop where
  box : RBox w q (r.cap : Int) (.slice ao n c) (r.done : Int) (leftOf r.left) r.dark
  rows : Rows4 (beside F q) w ao n c es r.files
  good : Dk.Good r
  capb : r.cap ≤ 1099511627776
  out : ¬ F q
  lt : ∀ g, F g → g < w.heap.size
  leftb : ∀ k, r.left = some k → (k : Int) < 9223372036854775808
def Ref (F : Nat → Prop) (w : World) (q : Nat) (r : Disk) : Prop := ∃ ao n c es, RefAt F w q ao n c es r
theorem RefAt.few {F : Nat → Prop} {w : World} {q : Nat} {ao : Option Addr} {n c : Nat} {es : List Ent} {r : Disk} (h : RefAt F w q ao n c es r) : n ≤ 1099511627776 := by
  have h1 := used_ge r.files
  have h2 := h.good.room
  have h3 := h.capb
  have h4 := h.rows.len
  omega
theorem RefAt.move {F F' : Nat → Prop} {w w' : World} {q : Nat} {ao : Option Addr} {n c : Nat} {es : List Ent} {r : Disk} (h : RefAt F w q ao n c es r) (hk : Kept F w w') (hf : ∀ g, g < w.heap.size → F' g → F g) (hq : ¬ F' q) (hl : ∀ g, F' g → g < w'.heap.size) : RefAt F' w' q ao n c es r :=
  ⟨h.box.same (hk.block q h.box.lt h.out), ⟨h.rows.rows.next' (hk.wide (fun g _ e => .inl e)) (fun g hg e => by
    rcases e with e | e
    · exact .inl (hf g hg e)
    · exact .inr e), h.rows.same, h.rows.len⟩, h.good, h.capb, hq, hl, h.leftb⟩
theorem RefAt.below {F : Nat → Prop} {w w' : World} {q : Nat} {ao : Option Addr} {n c : Nat} {es : List Ent} {r : Disk} (h : RefAt F w q ao n c es r) (hk : Below w.heap.size w w') : RefAt F w' q ao n c es r :=
  h.move (Kept.of_below hk) (fun _ _ e => e) h.out (fun g hg => Nat.lt_of_lt_of_le (h.lt g hg) hk.size)
theorem RefAt.inside {F : Nat → Prop} {w : World} {q : Nat} {ao : Option Addr} {n c : Nat} {es : List Ent} {r : Disk} (h : RefAt F w q ao n c es r) : ∀ g, beside F q g → g < w.heap.size := fun g hg => by
  rcases hg with hg | hg
  · exact h.lt g hg
  · rw [hg]; exact h.box.lt
/-- What a call on the document's disk leaves. -/
def RefPost (F : Nat → Prop) (w : World) (q : Nat) (x : Nat × Disk) (e : Ending) (w' : World) : Prop := e = .returned (.int .i64 (x.1 : Int)) ∧ Ref F w' q x.2 ∧ Kept (At q) w w'
theorem RefAt.stay {F : Nat → Prop} {w w' : World} {q : Nat} {ao : Option Addr} {n c : Nat} {es : List Ent} {r : Disk} (h : RefAt F w q ao n c es r) (hk : Below w.heap.size w w') : Ref F w' q r ∧ Kept (At q) w w' := ⟨⟨_, _, _, _, h.below hk⟩, Kept.of_below hk⟩
/-- The same rows, the counts turned. -/
theorem RefAt.turn {F : Nat → Prop} {w w' : World} {q : Nat} {ao : Option Addr} {n c : Nat} {es : List Ent} {r r' : Disk} (h : RefAt F w q ao n c es r) (hk : Kept (At q) w w') (hb : RBox w' q (r'.cap : Int) (.slice ao n c) (r'.done : Int) (leftOf r'.left) r'.dark) (hf : r'.files = r.files) (hg : Dk.Good r') (hc : r'.cap = r.cap) (hl : ∀ k, r'.left = some k → (k : Int) < 9223372036854775808) : RefAt F w' q ao n c es r' :=
  ⟨hb, by rw [hf]; exact h.rows.next (hk.wide (fun g _ e => .inr e)), hg, by rw [hc]; exact h.capb, h.out, fun g hgf => Nat.lt_of_lt_of_le (h.lt g hgf) hk.size, hl⟩
theorem tick_good {d : Disk} (hg : Dk.Good d) (hd : d.dark = false) : Dk.Good (Dk.tick d).2 := by
  unfold Dk.tick
  cases hl : d.left with
  | none => exact ⟨hg.rising, hg.names, hg.safes, hg.room, fun _ => rfl⟩
  | some k =>
    cases k with
    | zero => exact ⟨hg.rising, hg.names, hg.safes, hg.room, fun _ => rfl⟩
    | succ k => exact ⟨hg.rising, hg.names, hg.safes, hg.room, fun e => by rw [show ({ d with done := d.done + 1, left := some k } : Disk).dark = d.dark from rfl, hd] at e; cases e⟩
theorem rstep_ref (F : Nat → Prop) (q : Nat) (ao : Option Addr) (n c : Nat) (es : List Ent) (r : Disk) (w : World) (h : RefAt F w q ao n c es r) (hd : r.dark = false) (ho : r.done ≤ 4611686018427387904) :
    Calls Try.prog 51 #[.pointer (some ⟨q, 0, none⟩)] w fun e w' => e = .returned (.bool (Dk.tick r).1) ∧ RefAt F w' q ao n c es (Dk.tick r).2 ∧ Kept (At q) w w' := by
  have gd := tick_good h.good hd
  have hbx := h.box
  cases hl : r.left with
  | none =>
    have et : Dk.tick r = (true, { r with done := r.done + 1 }) := by unfold Dk.tick; rw [hl]
    rw [hl] at hbx
    refine (rstep_none q _ _ _ _ w hbx (by omega) (by omega)).mono ?_
    rintro e w' ⟨rfl, hb', hk⟩
    rw [et] at gd ⊢
    refine ⟨rfl, h.turn hk ?_ rfl gd rfl (fun k e => by rw [show ({ r with done := r.done + 1 } : Disk).left = r.left from rfl, hl] at e; cases e), hk⟩
    rw [show ({ r with done := r.done + 1 } : Disk).left = r.left from rfl, hl, show ((({ r with done := r.done + 1 } : Disk).done : Nat) : Int) = (r.done : Int) + 1 from by simp]
    exact hb'
  | some k =>
    cases k with
    | zero =>
      have et : Dk.tick r = (false, { r with dark := true, left := none }) := by unfold Dk.tick; rw [hl]
      rw [hl] at hbx
      refine (rstep_cut q _ _ _ _ w hbx).mono ?_
      rintro e w' ⟨rfl, hb', hk⟩
      rw [et] at gd ⊢
      exact ⟨rfl, h.turn hk hb' rfl gd rfl (fun k e => by cases e), hk⟩
    | succ k =>
      have et : Dk.tick r = (true, { r with done := r.done + 1, left := some k }) := by unfold Dk.tick; rw [hl]
      have hkb := h.leftb _ hl
      rw [hl] at hbx
      have e1 : leftOf (some (k + 1)) = (k : Int) + 1 := by simp [leftOf]
      rw [e1] at hbx
      refine (rstep_some q _ _ _ k _ w hbx (by omega) (by omega) (by omega)).mono ?_
      rintro e w' ⟨rfl, hb', hk⟩
      rw [et] at gd ⊢
      refine ⟨rfl, h.turn hk ?_ rfl gd rfl (fun k' e => by cases e; omega), hk⟩
      rw [show ((({ r with done := r.done + 1, left := some k } : Disk).done : Nat) : Int) = (r.done : Int) + 1 from by simp]
      exact hb'
/-- Behind put and drop. -/
theorem RefAt.files {F : Nat → Prop} {w w' : World} {q : Nat} {ao : Option Addr} {n c : Nat} {es : List Ent} {r : Disk} {fs : List File} {ao' : Option Addr} {c' : Nat} {es' : List Ent} (h : RefAt F w q ao n c es r) (hk : Kept (At q) w w') (hb : RBox w' q (r.cap : Int) (.slice ao' fs.length c') (r.done : Int) (leftOf r.left) r.dark) (hr : Rows4 (beside F q) w' ao' fs.length c' es' fs) (hg : Dk.Good { r with files := fs }) : RefAt F w' q ao' fs.length c' es' { r with files := fs } :=
  ⟨hb, hr, hg, h.capb, h.out, fun g hgf => Nat.lt_of_lt_of_le (h.lt g hgf) hk.size, h.leftb⟩
end Go.Proofs.Ytfjhfecjbheipaa
