/- What a raw write of the program's does to its memory, apart from its own walk; the walk of disk's count on a disk. -/
import Derived.Test.YtfjhfecjbheipaaD3
namespace Go.Proofs.Ytfjhfecjbheipaa
open Go.RowKit
open Dk (File Disk)

theorem MemAt.stay {S : Nat → Prop} {w w' : World} {b m : Nat} {l : List Named} {left : Int} {d : Disk} (h : MemAt S w b m l left d) (hk : Below w.heap.size w w') : Mem (more S w w') w' b d ∧ Kept (Go.Proofs.Ytfjhfecjbheipaa.mine S b) w w' := by
  refine ⟨⟨m, l, left, (h.below hk).wide (fun g hg => .inl hg) (fun e => ?_) (fun g hg => ?_)⟩, Kept.of_below hk⟩
  · rcases e with e | e
    · exact h.out e
    · have := h.box.lt; omega
  · rcases hg with hg | hg
    · exact Nat.lt_of_lt_of_le (h.lt g hg) hk.size
    · exact hg.2
theorem MemAt.grow {S : Nat → Prop} {w w1 w2 : World} {b m : Nat} {l : List Named} {left : Int} {d : Disk} (hw : b < w.heap.size) (hs : ¬ S b) (hS : ∀ g, S g → g < w2.heap.size) (h : MemAt S w2 b m l left d) (h1 : Kept (Go.Proofs.Ytfjhfecjbheipaa.mine S b) w w1) (h2 : Kept (Go.Proofs.Ytfjhfecjbheipaa.mine S b) w1 w2) : Mem (more S w w2) w2 b d ∧ Kept (Go.Proofs.Ytfjhfecjbheipaa.mine S b) w w2 := by
  refine ⟨⟨m, l, left, h.wide (fun g hg => .inl hg) (fun e => ?_) (fun g hg => ?_)⟩, h1.trans h2⟩
  · rcases e with e | e
    · exact hs e
    · omega
  · rcases hg with hg | hg
    · exact hS g hg
    · exact hg.2
/-- A file laid in. -/
theorem MemAt.laid {S S' : Nat → Prop} {w w' : World} {b m : Nat} {l : List Named} {left : Int} {d : Disk} {n : List UInt8} {v : Value} {f : File} {fs : List File} (h : MemAt S w b m l left d) (hmap : MapIs Try.prog 9 w' m (lay l n v)) (hfit : Fits w' v f) (hname : f.name = n) (hfs : fs = Dk.put d.files f)
    (hkeep : ∀ x ∈ l, x.1 ≠ n → ∀ g, arr x.2 = some g → w'.heap[g]? = w.heap[g]?) (hbox : Box w' b m ((d.cap : Int) - (Dk.used fs : Int)) left d.dark (d.done : Int))
    (hv : ∀ g, arr v = some g → S' g ∧ g ≠ m ∧ ∀ y ∈ l, y.1 ≠ n → arr y.2 ≠ some g) (hss : ∀ g, S g → S' g) (hb : ¬ S' b) (hlt : ∀ g, S' g → g < w'.heap.size) (hg : Dk.Good { d with files := fs }) : MemAt S' w' b m (lay l n v) left { d with files := fs } :=
  ⟨hg, h.capb, hbox, hmap, by
    subst hname
    show Rel w' Nobody (lay l f.name v) fs
    rw [hfs]
    exact Rel.lay hfit h.map.1 (h.rel.turn (fun _ e => e.elim) (fun x hx hne g hgx => hkeep x hx hne g hgx)), h.foot.lay h.map.1 hss hv, hb, hlt, h.lefts, h.range⟩
/-- A file struck. -/
theorem MemAt.struck {S : Nat → Prop} {w w' : World} {b m : Nat} {l : List Named} {left : Int} {d : Disk} {n : List UInt8} {fs : List File} (h : MemAt S w b m l left d) (hmap : MapIs Try.prog 9 w' m (strike l n)) (hfs : fs = Dk.drop d.files n)
    (hkeep : ∀ x ∈ l, x.1 ≠ n → ∀ g, arr x.2 = some g → w'.heap[g]? = w.heap[g]?) (hbox : Box w' b m ((d.cap : Int) - (Dk.used fs : Int)) left d.dark (d.done : Int)) (hsz : w.heap.size ≤ w'.heap.size) (hg : Dk.Good { d with files := fs }) : MemAt S w' b m (strike l n) left { d with files := fs } := by
  refine ⟨hg, h.capb, hbox, hmap, ?_, h.foot.strike n, h.out, fun g hgs => Nat.lt_of_lt_of_le (h.lt g hgs) hsz, h.lefts, h.range⟩
  show Rel w' Nobody (strike l n) fs
  rw [hfs]
  have h1 : Rel w Nobody (strike l n) (Dk.drop d.files n) := Rel.strike n h.rel
  exact h1.turn (fun _ e => e) (fun x hx _ g hgx => hkeep x (strike_mem hx).1 (strike_mem hx).2 g hgx)

theorem count_mem (S : Nat → Prop) (b m : Nat) (l : List Named) (left : Int) (d : Disk) (w : World) (h : MemAt S w b m l left d) (hd : d.dark = false) (ho : d.done ≤ 4611686018427387904) :
    Calls Try.prog 46 #[.pointer (some ⟨b, 0, none⟩)] w fun e w' => ∃ left', e = .returned (.int .i64 (if (Dk.tick d).1 then 0 else 5)) ∧ MemAt S w' b m l left' (Dk.tick d).2 ∧ Kept (At b) w w' := by
  have hbx := h.box
  have hlf := h.lefts hd
  have hne : ∀ g, S g → ¬ At b g := fun g hg e => h.out (by rw [← (show g = b from e)]; exact hg)
  have core : ∀ {w' : World} {left' : Int} {d' : Disk}, Kept (At b) w w' → Box w' b m ((d'.cap : Int) - (Dk.used d'.files : Int)) left' d'.dark (d'.done : Int) → Dk.Good d' → d'.cap = d.cap → d'.files = d.files → (d'.dark = false → left' = leftOf d'.left) → (-1 ≤ left' ∧ left' < 9223372036854775808) → MemAt S w' b m l left' d' := by
    intro w' left' d' hk hb hg hc hf hl hr
    refine ⟨hg, by rw [hc]; exact h.capb, hb, h.map.same (hk.block m (h.lt m h.foot.mine) (hne m h.foot.mine)), ?_, h.foot, h.out, fun g hgs => Nat.lt_of_lt_of_le (h.lt g hgs) hk.size, hl, hr⟩
    rw [hf]
    exact h.rel.turn (fun _ e => e) (fun x hx _ g hgx => hk.block g (h.lt g (h.foot.arrs x hx g hgx).1) (hne g (h.foot.arrs x hx g hgx).1))
  have gd : Dk.Good (Dk.tick d).2 := by
    unfold Dk.tick
    cases hl : d.left with
    | none => exact ⟨h.good.rising, h.good.names, h.good.safes, h.good.room, fun _ => rfl⟩
    | some k =>
      cases k with
      | zero => exact ⟨h.good.rising, h.good.names, h.good.safes, h.good.room, fun _ => rfl⟩
      | succ k => exact ⟨h.good.rising, h.good.names, h.good.safes, h.good.room, fun e => by rw [show ({ d with done := d.done + 1, left := some k } : Disk).dark = d.dark from rfl, hd] at e; cases e⟩
  have hr := h.range
  cases hl : d.left with
  | none =>
    have et : Dk.tick d = (true, { d with done := d.done + 1 }) := by unfold Dk.tick; rw [hl]
    rw [hl] at hlf
    rw [hlf] at hbx
    refine (count_none b m _ d.dark _ w hbx (by omega) (by omega)).mono ?_
    rintro e w' ⟨rfl, hb', hk⟩
    rw [et] at gd ⊢
    refine ⟨-1, rfl, core hk ?_ gd rfl rfl (fun _ => by rw [show ({ d with done := d.done + 1 } : Disk).left = d.left from rfl, hl]; rfl) (by omega), hk⟩
    show Box w' b m _ _ _ ((d.done + 1 : Nat) : Int)
    rw [show ((d.done + 1 : Nat) : Int) = (d.done : Int) + 1 from by omega]
    exact hb'
  | some k =>
    cases k with
    | zero =>
      have et : Dk.tick d = (false, { d with dark := true, left := none }) := by unfold Dk.tick; rw [hl]
      rw [hl] at hlf
      rw [hlf] at hbx
      refine (count_cut b m _ d.dark _ w hbx).mono ?_
      rintro e w' ⟨rfl, hb', hk⟩
      rw [et] at gd ⊢
      exact ⟨0, rfl, core hk hb' gd rfl rfl (fun e => by cases e) (by omega), hk⟩
    | succ k =>
      have et : Dk.tick d = (true, { d with done := d.done + 1, left := some k }) := by unfold Dk.tick; rw [hl]
      rw [hl] at hlf
      have e1 : leftOf (some (k + 1)) = (k : Int) + 1 := by simp [leftOf]
      rw [e1] at hlf
      rw [hlf] at hbx
      refine (count_some b m _ k d.dark _ w hbx (by omega) (by omega) (by omega)).mono ?_
      rintro e w' ⟨rfl, hb', hk⟩
      rw [et] at gd ⊢
      refine ⟨(k : Int), rfl, core hk ?_ gd rfl rfl (fun _ => rfl) (by omega), hk⟩
      show Box w' b m _ _ _ ((d.done + 1 : Nat) : Int)
      rw [show ((d.done + 1 : Nat) : Int) = (d.done : Int) + 1 from by omega]
      exact hb'
theorem used_ge (l : List File) : 16 * l.length ≤ Dk.used l := by
  induction l with
  | nil => simp [Dk.used]
  | cons f t ih => simp only [Dk.used, List.length_cons, Dk.cost]; omega
theorem MemAt.few {S : Nat → Prop} {w : World} {b m : Nat} {l : List Named} {left : Int} {d : Disk} (h : MemAt S w b m l left d) : l.length < maxLen ∧ l.length ≤ 1099511627776 := by
  have h1 := h.rel.length
  have h2 := used_ge d.files
  have h3 := h.good.room
  have h4 := h.capb
  unfold maxLen
  omega
theorem used_mem {l : List File} {f : File} (h : f ∈ l) : Dk.cost f ≤ Dk.used l := by
  induction l with
  | nil => cases h
  | cons g t ih =>
    rcases List.mem_cons.1 h with rfl | h
    · simp only [Dk.used]; omega
    · have := ih h
      simp only [Dk.used]; omega
/-- A cell of a block of the call's own, behind what turns the disk alone. -/
theorem local_cell {w w' : World} {b i : Nat} {o : Obj} {v : Value} (hk : Kept (At b) (w.alloc o) w') (hb : b < w.heap.size) (hc : (w.alloc o).cell? ⟨w.heap.size, i, none⟩ = some v) : w'.cell? ⟨w.heap.size, i, none⟩ = some v := by
  rw [hk.cell (p := ⟨w.heap.size, i, none⟩) (by simp) (fun e => by have : w.heap.size = b := e; omega)]
  exact hc
theorem one_name (w : World) (n : List UInt8) (t : TypeId) : RSrc strKind (w.alloc (.cells #[.string ⟨n.toArray⟩] t)) (some ⟨w.heap.size, 0, none⟩) 1 1 [n] :=
  ⟨rfl, Nat.le_refl _, (fun e => by cases e), fun ad had j u hu => by
    cases had
    have := rec_cells (k := strKind) w t n j u (by simpa [rv] using hu)
    exact this, fun _ _ => trivial⟩
theorem two_names (w : World) (n n2 : List UInt8) (t : TypeId) : RSrc strKind (w.alloc (.cells #[.string ⟨n.toArray⟩, .string ⟨n2.toArray⟩] t)) (some ⟨w.heap.size, 0, none⟩) 2 2 [n, n2] :=
  ⟨rfl, Nat.le_refl _, (fun e => by cases e), fun ad had j u hu => by
    cases had
    rw [Addr.add_mid, Nat.zero_add, cell_of_row _ _ _ _ _ _ (heap_alloc_new w _)]
    simpa [rv, strKind] using hu, fun _ _ => trivial⟩
end Go.Proofs.Ytfjhfecjbheipaa
