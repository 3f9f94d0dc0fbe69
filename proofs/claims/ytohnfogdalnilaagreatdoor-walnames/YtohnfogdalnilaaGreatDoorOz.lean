/- A disk that was made since a world; what is asked of it. -/
import Derived.Test.YtohnfogdalnilaaGreatDoorD9
import Derived.Test.YtohnfogdalnilaaGreatDoorNw
import Derived.Lib.SlBytesConst
namespace Go.Proofs.YtohnfogdalnilaaGreatDoor
open Go.RowKit
open Dk (File Disk)

theorem below_cell {w w' : World} (h : Below w.heap.size w w') {p : Addr} {v : Value} (hc : w.cell? p = some v) : w'.cell? p = some v := by rw [h.cell (World.block_lt_of_cell? w _ hc)]; exact hc
/-- A disk of which all but the blocks of U was made since w; nothing of w but these blocks has turned. -/
structure Own (U : Nat → Prop) (w : World) (S : Nat → Prop) (W : World) (b : Nat) (d : Disk) : Prop where
  mem : Mem S W b d
  news : ∀ g, S g → U g ∨ w.heap.size ≤ g
  at_ : U b ∨ w.heap.size ≤ b
  bel : Kept U w W
theorem Own.next {U : Nat → Prop} {w : World} {S : Nat → Prop} {W W' : World} {b : Nat} {d : Disk} (h : Own U w S W b d) (hb : Below W.heap.size W W') : Own U w S W' b d := ⟨h.mem.below hb, h.news, h.at_, h.bel.trans (Kept.of_below hb)⟩
theorem Own.mines {U : Nat → Prop} {w : World} {S : Nat → Prop} {W : World} {b : Nat} {d : Disk} (h : Own U w S W b d) : ∀ g, Go.Proofs.YtohnfogdalnilaaGreatDoor.mine S b g → (U g ∨ w.heap.size ≤ g) ∧ g < W.heap.size := fun g hg => by
  rcases hg with hg | hg
  · exact ⟨h.news g hg, h.mem.lt.1 g hg⟩
  · rw [hg]; exact ⟨h.at_, h.mem.lt.2.1⟩
theorem Own.raw {U : Nat → Prop} {w : World} {S : Nat → Prop} {W W' : World} {b : Nat} {d : Disk} {r : Nat × Disk} {e : Ending} (h : Own U w S W b d) (hr : RawPost S W b r e W') : e = .returned (.int .i64 (r.1 : Int)) ∧ Own U w (more S W W') W' b r.2 :=
  ⟨hr.1, hr.2.1, fun g hg => by
    rcases hg with hg | hg
    · exact h.news g hg
    · exact .inr (Nat.le_trans h.bel.size hg.1), h.at_, h.bel.trans' hr.2.2 (fun g hl hg => by
      rcases (h.mines g hg).1 with h1 | h1
      · exact h1
      · omega)⟩
theorem Own.start {S : Nat → Prop} {W : World} {b : Nat} {d : Disk} (h : Mem S W b d) : Own (Go.Proofs.YtohnfogdalnilaaGreatDoor.mine S b) W S W b d := ⟨h, fun _ hg => .inl (.inl hg), .inl (.inr rfl), Kept.refl _ _⟩
/-- A call on a disk that was made since w. -/
theorem Own.then {U : Nat → Prop} {w : World} {S S' : Nat → Prop} {W W' : World} {b : Nat} {d d' : Disk} (h : Own U w S W b d) (h' : Own (Go.Proofs.YtohnfogdalnilaaGreatDoor.mine S b) W S' W' b d') : Own U w S' W' b d' :=
  ⟨h'.mem, fun g hg => by
    rcases h'.news g hg with h1 | h1
    · exact (h.mines g h1).1
    · exact .inr (Nat.le_trans h.bel.size h1), h.at_, h.bel.trans' h'.bel (fun g hl hg => by
      rcases (h.mines g hg).1 with h1 | h1
      · exact h1
      · omega)⟩
theorem Own.below {w : World} {S : Nat → Prop} {W : World} {b : Nat} {d : Disk} (h : Own (fun _ => False) w S W b d) : Below w.heap.size w W := h.bel.below (Nat.le_refl _) (fun _ e => e.elim)
theorem block_steady {U : Nat → Prop} {w : World} {g : Nat} {o : Obj} (h : w.heap[g]? = some o) (hg : ¬ U g) : Steady U w fun w => w.heap[g]? = some o := fun _ hk => (hk.block g (Array.getElem?_eq_some_iff.1 h).1 hg).trans h
theorem Src.block {w : World} {g n : Nat} {l : List UInt8} {fr : Nat × Nat} (h : w.heap[g]? = some (.cells (bv l).toArray 5 fr)) (hl : l.length = n) : Src w (some ⟨g, 0, none⟩) n n l :=
  ⟨hl, Nat.le_refl _, (fun e => by cases e), fun ad had j u hu => by
    cases had
    rw [Addr.add_mid, Nat.zero_add, cell_of_row _ _ _ _ _ _ h]
    simpa using hu⟩
theorem conv_const (w : World) (C : Array Value) (n c : Nat) : (convert 25 25 (.slice (some ⟨w.heap.size, 0, none⟩) n c)).run Tryz.prog (w.alloc (.cells C 5)) = .ok (.slice (some ⟨w.heap.size, 0, none⟩) n c) (w.alloc (.cells C 5 (C.size, C.size + 1))) :=
  Lib.run_convert_bytes_const w 25 5 C n c Tryz.underlying25 Tryz.underlying5
theorem read_mem (S : Nat → Prop) (b : Nat) (d : Disk) (n : List UInt8) (w : World) (h : Mem S w b d) (hn : n.length ≤ maxLen) :
    Calls Tryz.prog 46 #[.pointer (some ⟨b, 0, none⟩), .string ⟨n.toArray⟩] w fun e w' => ∃ v, e = .returned (.tuple #[v, .int .i64 ((readOf d.files n).1 : Int)]) ∧ New w w' v (readOf d.files n).2.length (readOf d.files n).2 := by
  cases hna : Dk.named n with
  | false =>
    have e1 : readOf d.files n = (1, []) := by unfold readOf; rw [hna]; rfl
    rw [e1]
    refine (read_arg S b d n w h hna).mono ?_
    rintro e w' ⟨rfl, hb⟩
    exact ⟨_, rfl, World.ownsRow_nil _ _ _ _, hb⟩
  | true =>
    cases hx : Dk.look d.files n with
    | none =>
      have e1 : readOf d.files n = (3, []) := by unfold readOf; rw [hna, hx]; rfl
      rw [e1]
      refine (read_none S b d n w h hn hna hx).mono ?_
      rintro e w' ⟨rfl, hb⟩
      exact ⟨_, rfl, World.ownsRow_nil _ _ _ _, hb⟩
    | some f =>
      obtain ⟨nm, sf, fb⟩ := f
      have e1 : readOf d.files n = (0, fb) := by unfold readOf; rw [hna, hx]; rfl
      rw [e1]
      have hfl : fb.length ≤ 140737488355328 := by
        obtain ⟨m, l, left, hM⟩ := h
        have h1 := used_mem (Dk.look_some hx).1
        have h2 := hM.good.room
        have h3 := hM.capb
        simp only [Dk.cost] at h1
        omega
      exact read_some S b d n nm sf fb w h hn hna hx hfl

theorem free_mem (S : Nat → Prop) (b : Nat) (d : Disk) (w : World) (h : Mem S w b d) : Calls Tryz.prog 52 #[.pointer (some ⟨b, 0, none⟩)] w fun e w' => e = .returned (.int .i64 ((d.cap : Int) - (Dk.used d.files : Int))) ∧ Below w.heap.size w w' := by
  obtain ⟨m, l, left, h⟩ := h
  exact free_box b m _ left _ _ w h.box
theorem ops_mem (S : Nat → Prop) (b : Nat) (d : Disk) (w : World) (h : Mem S w b d) : Calls Tryz.prog 14 #[.pointer (some ⟨b, 0, none⟩)] w fun e w' => e = .returned (.int .i64 (d.done : Int)) ∧ Below w.heap.size w w' := by
  obtain ⟨m, l, left, h⟩ := h
  exact ops_box b m _ left _ _ w h.box
theorem off_mem (S : Nat → Prop) (b : Nat) (d : Disk) (w : World) (h : Mem S w b d) : Calls Tryz.prog 50 #[.pointer (some ⟨b, 0, none⟩)] w fun e w' => e = .returned (.bool d.dark) ∧ Below w.heap.size w w' := by
  obtain ⟨m, l, left, h⟩ := h
  exact off_box b m _ left _ _ w h.box

end Go.Proofs.YtohnfogdalnilaaGreatDoor
