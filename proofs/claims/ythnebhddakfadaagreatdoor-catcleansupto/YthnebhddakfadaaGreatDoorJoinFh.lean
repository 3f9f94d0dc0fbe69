/- What a disk's blocks hold; what is watched beside them; no walk. -/
/- The walk of cat's write. -/
import Derived.Test.YthnebhddakfadaaGreatDoorJoinFg
import Derived.Test.YthnebhddakfadaaGreatDoorJoinFb
import Derived.Test.YthnebhddakfadaaGreatDoorJoinOz
namespace Go.Proofs.YthnebhddakfadaaGreatDoor
open Go.RowKit
open Dk (File Disk)

theorem rel_tag {w : World} : ∀ {l : List Named} {fs : List File}, Rel w Nobody l fs → ∀ x ∈ l, ∀ g, arr x.2 = some g → ∃ cur, w.heap[g]? = some (.cells cur 5 (0, 0))
  | [], _, _, _, hx, _, _ => by cases hx
  | y :: l, f :: fs, h, x, hx, g, hg => by
    rcases List.mem_cons.1 hx with rfl | hx
    · obtain ⟨sv, e, ho⟩ := h.2.1 (fun e => e)
      rw [e] at hg
      exact own_tag ho hg
    · exact rel_tag h.2.2 x hx g hg
  | _ :: _, [], h, _, _, _, _ => h.elim
/-- The blocks of a disk, and no others. -/
def Fit (m : Nat) (l : List Named) (g : Nat) : Prop := g = m ∨ ∃ x ∈ l, arr x.2 = some g
theorem MemAt.fit {S : Nat → Prop} {w : World} {b m : Nat} {l : List Named} {left : Int} {d : Disk} (h : MemAt S w b m l left d) : MemAt (Fit m l) w b m l left d ∧ (∀ g, Fit m l g → S g) := by
  have hs : ∀ g, Fit m l g → S g := fun g hg => by
    rcases hg with rfl | ⟨x, hx, hg⟩
    · exact h.foot.mine
    · exact (h.foot.arrs x hx g hg).1
  exact ⟨⟨h.good, h.capb, h.box, h.map, h.rel, ⟨.inl rfl, fun x hx g hg => ⟨.inr ⟨x, hx, hg⟩, (h.foot.arrs x hx g hg).2⟩, h.foot.apart⟩, fun e => h.out (hs _ e), fun g hg => h.lt g (hs g hg), h.lefts, h.range⟩, hs⟩
/-- What a block of a disk's may hold: bytes, the disk itself, no cells that are none of a call's. -/
def DObj (o : Obj) : Prop := (∀ cs t fz, o = .cells cs t fz → t = 5 ∨ t = 92) ∧ ∀ x, o ≠ .deferred x
theorem DObj.no {cs : Array Value} {t : TypeId} {fz : Nat × Nat} (h1 : t ≠ 5) (h2 : t ≠ 92) : ¬ DObj (.cells cs t fz) := fun h => by
  rcases h.1 cs t fz rfl with h | h
  · exact h1 h
  · exact h2 h
theorem DObj.none (x : Option (List Deferred)) : ¬ DObj (.deferred x) := fun h => h.2 x rfl
theorem MemAt.dobj {w : World} {b m : Nat} {l : List Named} {left : Int} {d : Disk} (h : MemAt (Fit m l) w b m l left d) {g : Nat} {o : Obj} (hg : Go.Proofs.YthnebhddakfadaaGreatDoor.mine (Fit m l) b g) (ho : w.heap[g]? = some o) : DObj o := by
  rcases hg with (rfl | ⟨x, hx, hg⟩) | rfl
  · obtain ⟨_, es, clock, h1, _⟩ := h.map
    rw [h1] at ho
    cases ho
    exact ⟨fun cs t fz e => (by cases e), fun x e => by cases e⟩
  · obtain ⟨cur, hc⟩ := rel_tag h.rel x hx g hg
    rw [hc] at ho
    cases ho
    exact ⟨fun cs t fz e => (by cases e; exact .inl rfl), fun x e => by cases e⟩
  · have hb := h.box
    unfold Box at hb
    rw [hb] at ho
    cases ho
    exact ⟨fun cs t fz e => (by cases e; exact .inr rfl), fun x e => by cases e⟩
/-- A disk whose blocks are its own alone. -/
structure OwnF (S0 : Nat → Prop) (w : World) (b m : Nat) (W : World) (D : Disk) : Prop where
  ex : ∃ l left, MemAt (Fit m l) W b m l left D ∧ Own (Go.Proofs.YthnebhddakfadaaGreatDoor.mine S0 b) w (Fit m l) W b D
theorem Own.f {S0 S : Nat → Prop} {w W : World} {b : Nat} {D : Disk} (h : Own (Go.Proofs.YthnebhddakfadaaGreatDoor.mine S0 b) w S W b D) : ∃ m, m < W.heap.size ∧ OwnF S0 w b m W D := by
  obtain ⟨m, l, left, hm⟩ := h.mem
  obtain ⟨hf, hs⟩ := hm.fit
  exact ⟨m, hm.lt m hm.foot.mine, ⟨l, left, hf, ⟨⟨m, l, left, hf⟩, fun g hg => h.news g (hs g hg), h.at_, h.bel⟩⟩⟩
section
variable {S0 : Nat → Prop} {w : World} {b m : Nat} {W W' : World} {D : Disk}
theorem OwnF.own (h : OwnF S0 w b m W D) : ∃ S, Own (Go.Proofs.YthnebhddakfadaaGreatDoor.mine S0 b) w S W b D := by
  obtain ⟨l, left, _, h2⟩ := h.ex
  exact ⟨_, h2⟩
theorem OwnF.next (h : OwnF S0 w b m W D) (hb : Below W.heap.size W W') : OwnF S0 w b m W' D := by
  obtain ⟨l, left, h1, h2⟩ := h.ex
  exact ⟨l, left, h1.below hb, h2.next hb⟩
theorem OwnF.kept (h : OwnF S0 w b m W D) : Kept (Go.Proofs.YthnebhddakfadaaGreatDoor.mine S0 b) w W := by
  obtain ⟨S, h1⟩ := h.own
  exact h1.bel
/-- Blocks turn that are none of a disk's. -/
theorem OwnF.turn (h : OwnF S0 w b m W D) {U : Nat → Prop} (hk : Kept U W W') (hU : ∀ g, U g → w.heap.size ≤ g ∧ ∃ o, W.heap[g]? = some o ∧ ¬ DObj o) : OwnF S0 w b m W' D := by
  obtain ⟨l, left, h1, h2⟩ := h.ex
  have n1 : ∀ g, Go.Proofs.YthnebhddakfadaaGreatDoor.mine (Fit m l) b g → ¬ U g := fun g hg hu => by
    obtain ⟨_, o, ho, hd⟩ := hU g hu
    exact hd (h1.dobj hg ho)
  have h3 := h1.kept hk (fun g hg => n1 g (.inl hg)) (n1 b (.inr rfl))
  exact ⟨l, left, h3, ⟨m, l, left, h3⟩, h2.news, h2.at_, h2.bel.trans' hk (fun g hl hu => by have := (hU g hu).1; omega)⟩
/-- A block that turns, at or beyond the disk's map, and is no cells. -/
theorem OwnF.grown (h : OwnF S0 w b m W D) {row : Option Nat} (hg : W.grownBy W' row) {B : Nat} (hmB : m < B) (hB : w.heap.size ≤ B) (hr : ∀ r, row = some r → B ≤ r ∧ ∃ o : Obj, W.heap[r]? = some o ∧ o.isCells = false) : OwnF S0 w b m W' D := by
  obtain ⟨l, left, h1, h2⟩ := h.ex
  have hk : Kept (fun g => some g = row) W W' := (Kept.refl _ W).grown hg (fun k e => .inl e.symm)
  have n1 : ∀ g, Go.Proofs.YthnebhddakfadaaGreatDoor.mine (Fit m l) b g → ¬ some g = row := fun g hg hu => by
    obtain ⟨h3, o, ho, hc⟩ := hr g hu.symm
    rcases hg with (rfl | ⟨x, hx, hg⟩) | rfl
    · omega
    · obtain ⟨cur, hcu⟩ := rel_tag h1.rel x hx g hg
      rw [hcu] at ho
      cases ho
      cases hc
    · have hb := h1.box
      unfold Box at hb
      rw [hb] at ho
      cases ho
      cases hc
  have h3 := h1.kept hk (fun g hg => n1 g (.inl hg)) (n1 b (.inr rfl))
  exact ⟨l, left, h3, ⟨m, l, left, h3⟩, h2.news, h2.at_, h2.bel.trans' hk (fun g hl hu => by have := (hr g hu.symm).1; omega)⟩
/-- A raw write, its map where it lay. -/
theorem OwnF.rawM (h : OwnF S0 w b m W D) {B : Nat} (hmB : m < B) {l : List Named} {left : Int} (h1 : MemAt (Fit m l) W b m l left D) (h2 : Own (Go.Proofs.YthnebhddakfadaaGreatDoor.mine S0 b) w (Fit m l) W b D) {r : Nat × Disk} {e : Ending} (hr : RawPostM (Fit m l) W b m r e W') :
    e = .returned (.int .i64 (r.1 : Int)) ∧ OwnF S0 w b m W' r.2 ∧ KeepsFrom B W W' ∧ ∀ (g : Nat) (o : Obj), W.heap[g]? = some o → ¬ DObj o → W'.heap[g]? = some o := by
  obtain ⟨e1, ⟨l2, left2, h3⟩, h4⟩ := hr
  obtain ⟨hf, hs⟩ := h3.fit
  have keep1 : ∀ (g : Nat) (o : Obj), W.heap[g]? = some o → ¬ DObj o → W'.heap[g]? = some o := fun g o ho hd => (h4.block g (Array.getElem?_eq_some_iff.1 ho).1 (fun e => hd (h1.dobj e ho))).trans ho
  refine ⟨e1, ⟨l2, left2, hf, ⟨m, l2, left2, hf⟩, fun g hg => ?_, h2.at_, h2.bel.trans' h4 (fun g hl hg => ?_)⟩, ⟨h4.size, fun k o hB hk ho => ?_⟩, keep1⟩
  · rcases hs g hg with h5 | h5
    · exact h2.news g h5
    · exact .inr (Nat.le_trans h2.bel.size h5.1)
  · rcases (h2.mines g hg).1 with h5 | h5
    · exact h5
    · omega
  · refine (h4.block k (Array.getElem?_eq_some_iff.1 hk).1 (fun e => ?_)).trans hk
    rcases e with (rfl | ⟨x, hx, hg⟩) | rfl
    · omega
    · obtain ⟨cur, hcu⟩ := rel_tag h1.rel x hx k hg
      rw [hcu] at hk
      cases hk
      cases ho
    · have hb := h1.box
      unfold Box at hb
      rw [hb] at hk
      cases hk
      cases ho
/-- A raw write. -/
theorem OwnF.raw {l : List Named} {left : Int} (h1 : MemAt (Fit m l) W b m l left D) (h2 : Own (Go.Proofs.YthnebhddakfadaaGreatDoor.mine S0 b) w (Fit m l) W b D) {r : Nat × Disk} {e : Ending} (hr : RawPost (Fit m l) W b r e W') :
    e = .returned (.int .i64 (r.1 : Int)) ∧ (∃ m', m' < W'.heap.size ∧ OwnF S0 w b m' W' r.2) ∧ W.heap.size ≤ W'.heap.size ∧ ∀ (g : Nat) (o : Obj), W.heap[g]? = some o → ¬ DObj o → W'.heap[g]? = some o := by
  obtain ⟨h3, h4⟩ := h2.raw hr
  exact ⟨h3, h4.f, hr.2.2.size, fun g o ho hd => (hr.2.2.block g (Array.getElem?_eq_some_iff.1 ho).1 (fun e => hd (h1.dobj e ho))).trans ho⟩
end
/-- w' is as w was, but for the marks. -/
structure Shut2 (Ds : List Nat) (w w' : World) : Prop where
  os : w'.os = w.os
  tape : w'.tape = w.tape
  output : w'.output = w.output
  size : w.heap.size = w'.heap.size
  block : ∀ k, k ∉ Ds → w'.heap[k]? = w.heap[k]?
theorem leaves_marks2 {F : Fence} {n : Nat} {P : Program} {fn : Func} {tmps : Array Value} {R : Ending → World → Prop} {B : Nat} : ∀ (Ds : List Nat) (W : World), Marks B W Ds →
    (∀ W', Shut2 Ds W W' → LeavesInM F n P fn tmps R [] .returning W') → LeavesInM F n P fn tmps R (Ds.map markOf) .returning W
  | [], W, _, h => h W ⟨rfl, rfl, rfl, rfl, fun _ _ => rfl⟩
  | D :: Ds, W, hM, h => by
    have hD := hM.each D List.mem_cons_self
    refine ⟨by simp, .inl ⟨D, _, rfl, run_takeDeferred hD, ?_⟩⟩
    have hne : ∀ k, k ≠ D → (W.putObj D (.deferred none)).heap[k]? = W.heap[k]? := fun k hk => World.putObj_heap_other hk
    refine leaves_marks2 Ds _ ⟨(List.nodup_cons.1 hM.nodup).2, fun x hx => hM.far x (List.mem_cons_of_mem _ hx), fun x hx => ?_⟩ (fun W' hs => h W' ?_)
    · rw [hne x (fun e => (List.nodup_cons.1 hM.nodup).1 (e ▸ hx))]
      exact hM.each x (List.mem_cons_of_mem _ hx)
    · exact ⟨hs.os, hs.tape, hs.output, by rw [← hs.size]; simp, fun k hk => (hs.block k (fun e => hk (List.mem_cons_of_mem _ e))).trans (hne k (fun e => hk (by rw [e]; exact List.mem_cons_self)))⟩
theorem OwnF.shut {S0 : Nat → Prop} {w : World} {b m : Nat} {W W' : World} {D : Disk} (h : OwnF S0 w b m W D) {Ds : List Nat} (hM : Marks w.heap.size W Ds) (hs : Shut2 Ds W W') : OwnF S0 w b m W' D :=
  h.turn (U := fun g => g ∈ Ds) ⟨hs.os, hs.tape, hs.output, Nat.le_of_eq hs.size, fun k _ hk => hs.block k hk⟩ (fun g hg => ⟨hM.far g hg, _, hM.each g hg, DObj.none _⟩)
theorem walGo_at {d : Disk} {N fr : List UInt8} {k : Nat} {D : Disk} (hk : k = (fr.length + 4095) / 4096) (h : adds d N ((List.range k).map (chunkOf fr)) = (0, D)) : walGo d N fr = Dk.raw D 1 N [] [] := walGo_last (by unfold chunksOf; rw [← hk]; exact h)
theorem walGo_cut {d : Disk} {N fr : List UInt8} {k E : Nat} {D : Disk} (hE : E ≠ 0) (hk : k ≤ (fr.length + 4095) / 4096) (h : adds d N ((List.range k).map (chunkOf fr)) = (E, D)) : walGo d N fr = (E, D) := walGo_stop hE (by
  unfold chunksOf
  have h1 := adds_stop N (((List.range ((fr.length + 4095) / 4096)).drop k).map (chunkOf fr)) hE _ _ h
  rw [← List.map_append] at h1
  have h2 : List.range k = (List.range ((fr.length + 4095) / 4096)).take k := by
    rw [List.take_range, Nat.min_eq_left hk]
  rw [h2, List.take_append_drop] at h1
  exact h1)
theorem wrt_snoc (f : List UInt8 × List UInt8) : ∀ (l : List (List UInt8 × List UInt8)) (d D : Disk), wrt d l = (0, D) → wrt d (l ++ [f]) = walGo D f.1 f.2
  | [], d, D, h => by
    simp only [wrt, Prod.mk.injEq] at h
    rw [← h.2]
    simp only [List.nil_append, wrt]
    split
    · rename_i h1
      cases hr : walGo d f.1 f.2 with
      | mk a b => rw [hr] at h1; simp only at h1; rw [h1]
    · rfl
  | g :: t, d, D, h => by
    simp only [List.cons_append, wrt] at h ⊢
    split at h
    · rename_i h1
      rw [if_pos h1]
      exact wrt_snoc f t _ D h
    · rename_i h1
      rw [h] at h1
      exact absurd rfl h1
theorem wrt_stop (us : List (List UInt8 × List UInt8)) : ∀ (l : List (List UInt8 × List UInt8)) (d : Disk) (E : Nat) (D : Disk), E ≠ 0 → wrt d l = (E, D) → wrt d (l ++ us) = (E, D)
  | [], d, E, D, hE, h => by
    simp only [wrt, Prod.mk.injEq] at h
    exact absurd h.1.symm hE
  | g :: t, d, E, D, hE, h => by
    simp only [List.cons_append, wrt] at h ⊢
    split at h
    · rename_i h1
      rw [if_pos h1]
      exact wrt_stop us t _ E D hE h
    · rename_i h1
      rw [if_neg h1]
      exact h
end Go.Proofs.YthnebhddakfadaaGreatDoor
namespace Go.Proofs.YthnebhddakfadaaGreatDoor
open Go.RowKit Go.Shelf
open Dk (File Disk)
attribute [local go_sem] Oper.semAt_some

theorem marks_more {B D : Nat} {W : World} {Ds : List Nat} (h : Marks B W Ds) (hD : B ≤ D) (hl : ∀ x ∈ Ds, x < D) (hK : W.heap[D]? = some (.deferred (some []))) : Marks B W (D :: Ds) :=
  ⟨List.nodup_cons.2 ⟨fun h1 => by have := hl D h1; omega, h.nodup⟩, fun x hx => by
    rcases List.mem_cons.1 hx with rfl | hx
    · exact hD
    · exact h.far x hx, fun x hx => by
    rcases List.mem_cons.1 hx with rfl | hx
    · exact hK
    · exact h.each x hx⟩
/-- Between two files: the disk, the boxes, the marks. -/
structure WrI (w : World) (S0 : Nat → Prop) (b bd br : Nat) (Ds : List Nat) (rv : Value) (W : World) (D : Disk) : Prop where
  disk : ∃ m, m < W.heap.size ∧ OwnF S0 w b m W D
  cd : W.heap[bd]? = some (.cells #[.pointer (some ⟨b, 0, none⟩)] 28)
  cr : W.heap[br]? = some (.cells #[rv] 51)
  marks : Marks w.heap.size W Ds
theorem WrI.answer {w : World} {S0 : Nat → Prop} {b bd br : Nat} {Ds : List Nat} {rv : Value} {W : World} {D : Disk} (h : WrI w S0 b bd br Ds rv W D) (hw : w.heap.size ≤ br) (x : Value) : WrI w S0 b bd br Ds x (W.setCell ⟨br, 0, none⟩ x) D := by
  have hne : ∀ (g : Nat) (o : Obj), W.heap[g]? = some o → (∀ fz, o ≠ .cells #[rv] 51 fz) → g ≠ br := fun g o ho hx e => by
    rw [e, h.cr] at ho
    cases ho
    exact hx _ rfl
  have k1 : ∀ g, g ≠ br → (W.setCell ⟨br, 0, none⟩ x).heap[g]? = W.heap[g]? := fun g hg => Below.heap_setCell W ⟨br, 0, none⟩ x g hg
  have hk : Kept (fun g => g = br) W (W.setCell ⟨br, 0, none⟩ x) := (Kept.refl (fun g => g = br) W).setCell (p := ⟨br, 0, none⟩) (.inl (show br = br from rfl)) _
  obtain ⟨m, hm, hd⟩ := h.disk
  exact ⟨⟨m, by simp only [World.setCell, Array.size_modify]; exact hm, hd.turn hk (fun g hg => by subst hg; exact ⟨hw, _, h.cr, DObj.no (by decide) (by decide)⟩)⟩, (k1 bd (hne bd _ h.cd (fun fz e => by cases e))).trans h.cd, set_row h.cr 0 x, ⟨h.marks.nodup, h.marks.far, fun y hy => (k1 y (hne y _ (h.marks.each y hy) (fun fz e => by cases e))).trans (h.marks.each y hy)⟩⟩
/-- The marks are taken away. -/
theorem WrI.end {w : World} {S0 : Nat → Prop} {b bd br : Nat} {Ds : List Nat} {rv : Value} {W W' : World} {D : Disk} (h : WrI w S0 b bd br Ds rv W D) (hs : Shut2 Ds W W') : W'.cell? ⟨br, 0, none⟩ = some rv ∧ ∃ S', Own (Go.Proofs.YthnebhddakfadaaGreatDoor.mine S0 b) w S' W' b D := by
  obtain ⟨m, hm, hd⟩ := h.disk
  refine ⟨?_, (hd.shut h.marks hs).own⟩
  have h1 : br ∉ Ds := fun e => by
    have := h.marks.each br e
    rw [h.cr] at this
    cases this
  exact cell_of_row _ _ _ _ _ _ ((hs.block br h1).trans h.cr)
/-- Between two chunks of a file. -/
structure ChI (w : World) (S0 : Nat → Prop) (b m bd br bx bs bn B : Nat) (N : List UInt8) (v : Value) (L : Nat) (Ds : List Nat) (rv : Value) (W : World) (D : Disk) : Prop where
  disk : OwnF S0 w b m W D
  cd : W.heap[bd]? = some (.cells #[.pointer (some ⟨b, 0, none⟩)] 28)
  cr : W.heap[br]? = some (.cells #[rv] 51)
  cx : W.heap[bx]? = some (.cells #[.string ⟨N.toArray⟩, .int .i64 0, v] 70)
  cs : W.heap[bs]? = some (.cells #[v] 25)
  cn : W.heap[bn]? = some (.cells #[.int .i64 4096] 3)
  marks : Marks w.heap.size W Ds
  mB : m < B
  size : B ≤ W.heap.size
  lows : bd < B ∧ br < B ∧ bx < B ∧ bs < B ∧ bn < B ∧ ∀ D ∈ Ds, D < B
section
variable {w : World} {S0 : Nat → Prop} {b m bd br bx bs bn B : Nat} {N : List UInt8} {v rv : Value} {L : Nat} {Ds : List Nat} {W W' : World} {D : Disk}
theorem ChI.turn (h : ChI w S0 b m bd br bx bs bn B N v L Ds rv W D) (hwB : w.heap.size ≤ B) {row : Option Nat} (hg : W.grownBy W' row) (hr : ∀ r, row = some r → B ≤ r ∧ ∃ o : Obj, W.heap[r]? = some o ∧ o.isCells = false) : ChI w S0 b m bd br bx bs bn B N v L Ds rv W' D := by
  have hl := h.lows
  have hs := h.size
  have lowB : ∀ g, g < B → some g ≠ row := fun g hl e => by have := (hr g e.symm).1; omega
  have k1 : ∀ g, g < B → W'.heap[g]? = W.heap[g]? := fun g hg1 => hg.block g (by omega) (lowB g hg1)
  exact ⟨h.disk.grown hg h.mB hwB hr, (k1 bd hl.1).trans h.cd, (k1 br hl.2.1).trans h.cr, (k1 bx hl.2.2.1).trans h.cx, (k1 bs hl.2.2.2.1).trans h.cs, (k1 bn hl.2.2.2.2.1).trans h.cn, ⟨h.marks.nodup, h.marks.far, fun x hx => (k1 x (hl.2.2.2.2.2 x hx)).trans (h.marks.each x hx)⟩, h.mB, Nat.le_trans hs hg.size, hl⟩
theorem ChI.keeps (h : ChI w S0 b m bd br bx bs bn B N v L Ds rv W D) {D' : Disk} (hd : OwnF S0 w b m W' D') (hk : ∀ (g : Nat) (o : Obj), W.heap[g]? = some o → ¬ DObj o → W'.heap[g]? = some o) (hsz : W.heap.size ≤ W'.heap.size) : ChI w S0 b m bd br bx bs bn B N v L Ds rv W' D' :=
  ⟨hd, hk _ _ h.cd (DObj.no (by decide) (by decide)), hk _ _ h.cr (DObj.no (by decide) (by decide)), hk _ _ h.cx (DObj.no (by decide) (by decide)), hk _ _ h.cs (DObj.no (by decide) (by decide)), hk _ _ h.cn (DObj.no (by decide) (by decide)), ⟨h.marks.nodup, h.marks.far, fun x hx => hk _ _ (h.marks.each x hx) (DObj.none _)⟩, h.mB, Nat.le_trans h.size hsz, h.lows⟩
/-- The answer is laid into its box. -/
theorem ChI.answer (h : ChI w S0 b m bd br bx bs bn B N v L Ds rv W D) (hw : w.heap.size ≤ br) (x : Value) : ChI w S0 b m bd br bx bs bn B N v L Ds x (W.setCell ⟨br, 0, none⟩ x) D := by
  have hne : ∀ (g : Nat) (o : Obj), W.heap[g]? = some o → (∀ fz, o ≠ .cells #[rv] 51 fz) → g ≠ br := fun g o ho hx e => by
    rw [e, h.cr] at ho
    cases ho
    exact hx _ rfl
  have k1 : ∀ g, g ≠ br → (W.setCell ⟨br, 0, none⟩ x).heap[g]? = W.heap[g]? := fun g hg => Below.heap_setCell W ⟨br, 0, none⟩ x g hg
  have hk : Kept (fun g => g = br) W (W.setCell ⟨br, 0, none⟩ x) := (Kept.refl (fun g => g = br) W).setCell (p := ⟨br, 0, none⟩) (.inl (show br = br from rfl)) _
  refine ⟨h.disk.turn hk (fun g hg => by subst hg; exact ⟨hw, _, h.cr, DObj.no (by decide) (by decide)⟩), (k1 bd (hne bd _ h.cd (fun fz e => by cases e))).trans h.cd, set_row h.cr 0 x, (k1 bx (hne bx _ h.cx (fun fz e => by cases e))).trans h.cx, (k1 bs (hne bs _ h.cs (fun fz e => by cases e))).trans h.cs, (k1 bn (hne bn _ h.cn (fun fz e => by cases e))).trans h.cn, ⟨h.marks.nodup, h.marks.far, fun y hy => (k1 y (hne y _ (h.marks.each y hy) (fun fz e => by cases e))).trans (h.marks.each y hy)⟩, h.mB, by simp only [World.setCell, Array.size_modify]; exact h.size, h.lows⟩
theorem ChI.kp (h : ChI w S0 b m bd br bx bs bn B N v L Ds rv W D) {rv' : Value} {D' : Disk} (h' : ChI w S0 b m bd br bx bs bn B N v L Ds rv' W' D') : KpC bs bn W W' := by
  have e1 : W.cell? ⟨bs, 0, none⟩ = some v := cell_of_row _ _ _ _ _ _ h.cs
  have e2 : W'.cell? ⟨bs, 0, none⟩ = some v := cell_of_row _ _ _ _ _ _ h'.cs
  have e3 : W.cell? ⟨bn, 0, none⟩ = some (.int .i64 4096) := cell_of_row _ _ _ _ _ _ h.cn
  have e4 : W'.cell? ⟨bn, 0, none⟩ = some (.int .i64 4096) := cell_of_row _ _ _ _ _ _ h'.cn
  exact ⟨fun u hu => by rw [e1] at hu; rw [e2, hu], fun u hu => by rw [e3] at hu; rw [e4, hu]⟩
theorem ChI.wr (h : ChI w S0 b m bd br bx bs bn B N v L Ds rv W D) {K : Nat} (hwB : w.heap.size ≤ B) (hB : B ≤ K) (hK : W.heap[K]? = some (.deferred (some []))) : WrI w S0 b bd br (K :: Ds) rv W D :=
  ⟨⟨m, Nat.lt_of_lt_of_le h.mB h.size, h.disk⟩, h.cd, h.cr, marks_more h.marks (Nat.le_trans hwB hB) (fun x hx => Nat.lt_of_lt_of_le (h.lows.2.2.2.2.2 x hx) hB) hK⟩
end
theorem src_cell {w : World} {p : Option Addr} {n c : Nat} {l : List UInt8} (h : Src w p n c l) (x : Nat) : Src w (cka p x) (gl n x) (gl n x) (chunkOf l x) := by
  have hl := h.len
  have hg : gl n x = min (n - x * 4096) 4096 := by unfold gl; omega
  have hc : (chunkOf l x).length = gl n x := by unfold chunkOf; rw [List.length_take, List.length_drop, hl, hg]; omega
  rcases Nat.eq_zero_or_pos (gl n x) with h0 | h0
  · have h1 : chunkOf l x = [] := List.length_eq_zero_iff.1 (by rw [hc, h0])
    rw [h0, h1]
    cases p with
    | none => exact Src.none_of rfl (fun _ => rfl)
    | some ad =>
      obtain ⟨ab, ao, am⟩ := ad
      cases am with
      | none => exact Src.none_of rfl (fun e => by cases e)
      | some z => exact Src.none_of rfl (fun e => by cases e)
  · obtain ⟨bb, off, rfl, _, _⟩ := h.form (by omega)
    have h2 := h.tailS (x * 4096) (by omega)
    have h3 := (h2.head (gl n x) (by omega))
    have h4 : (l.drop (x * 4096)).take (gl n x) = chunkOf l x := by
      unfold chunkOf
      rcases Nat.le_total (n - x * 4096) 4096 with h5 | h5
      · rw [List.take_of_length_le (by rw [List.length_drop]; omega), List.take_of_length_le (by rw [List.length_drop]; omega)]
      · rw [show gl n x = 4096 by omega]
    rw [h4] at h3
    show Src w (some ⟨bb, off + 4096 * x, none⟩) _ _ _
    rw [Nat.mul_comm 4096 x]
    exact ⟨h3.len, Nat.le_refl _, (fun e => by cases e), h3.cells⟩

theorem gl_chunks (n : Nat) : cnt n = (n + 4095) / 4096 := rfl
set_option maxHeartbeats 4000000 in
set_option maxRecDepth 100000 in
theorem write_own (S : Nat → Prop) (w : World) (b : Nat) (d : Disk) (ao : Option Addr) (n c : Nat) (es : List WF) (hM : Mem S w b d) (hF : Steady (Go.Proofs.YthnebhddakfadaaGreatDoor.mine S b) w fun w => RSrc wfK w ao n c es) (hn : n ≤ 1000) (hes : ∀ e ∈ es, Dk.named e.name = true ∧ e.bytes.length ≤ 10000000) (hdn : d.done ≤ 4611680000000000000) :
    Calls Tryz.prog 56 #[.pointer (some ⟨b, 0, none⟩), .slice ao n c] w fun e w' => ∃ S', e = .returned (.int .i64 ((wrt d (es.map WF.pair)).1 : Int)) ∧ Own (Go.Proofs.YthnebhddakfadaaGreatDoor.mine S b) w S' w' b (wrt d (es.map WF.pair)).2 := by
  have HF := keep hF
  have HES := keep hes
  have HL : Hid (es.length = n) := (hF w (Kept.refl _ _)).len
  have DN := keep hdn
  have HGD := keep hM.good
  obtain ⟨W1, hW1⟩ : ∃ W1, (w.alloc (.cells #[.pointer (some ⟨b, 0, none⟩)] 28)).alloc (.cells #[.int .i64 0] 51) = W1 := ⟨_, rfl⟩
  have b1 : Hid (Below w.heap.size w W1) := by rw [← hW1]; exact ((Below.refl _ _).alloc (Nat.le_refl _) _).alloc (by simp) _
  have I0 : Hid (WrI w S b w.heap.size (w.heap.size + 1) [] (.int .i64 0) W1 d) := by
    have h1 := heap_alloc_new (w.alloc (.cells #[.pointer (some ⟨b, 0, none⟩)] 28)) (.cells #[.int .i64 0] 51)
    rw [World.size_alloc] at h1
    refine ⟨((Own.start hM).next b1.out).f, ?_, by rw [← hW1]; exact h1, Marks.nil _ _⟩
    rw [← hW1]; exact (Below.heap_alloc _ _ _ (by simp)).trans (heap_alloc_new w _)
  obtain ⟨fs, hfs⟩ : ∃ fs, es.map WF.pair = fs := ⟨_, rfl⟩
  have HFS := keep hfs
  rw [hfs]
  clear hF hes hM hdn b1 hfs
  rw [← callsIn_wide (n := 8)]
  refine callsIn_of_wp_marks Tryz.func56 rfl trivial ?_ rfl
  simp only [Tryz.ntmps56, List.size_toArray, List.length_cons, List.length_nil, Nat.reduceAdd, Nat.reduceSub, Array.replicate_succ, Array.replicate_zero, List.push_toArray, List.append_toArray, List.nil_append, List.cons_append]
  gi_wp2_with fail
  refine wpIn_loop (fun a W => ∃ (k : Nat) (Ds : List Nat) (D : Disk) (v6 v9 v13 v14 v15 v16 v17 v18 v28 v29 v30 v31 v32 v33 v34 v35 : Value), k ≤ n ∧ Hid (wrt d (fs.take k) = (0, D) ∧ WrI w S b w.heap.size (w.heap.size + 1) Ds (.int .i64 0) W D ∧ D.done ≤ 4611680000000000000 + 10000001 * k) ∧
      a = { tmps := #[.pointer (some ⟨b, 0, none⟩), .slice ao n c, .pointer (some ⟨w.heap.size, 0, none⟩), undef, .pointer (some ⟨w.heap.size + 1, 0, none⟩), undef, v6, undef, undef, v9, .slice ao n c, .int .i64 (n : Int), .int .i64 (k : Int), v13, v14, v15, v16, v17, v18, undef, undef, undef, undef, undef, undef, undef, undef, undef, v28, v29, v30, v31, v32, v33, v34, v35], defers := Ds.map markOf })
    (fun a _ => n - (intOf (a.tmps.getD 12 undef)).toNat) ⟨0, [], d, _, _, _, _, _, _, _, _, _, _, _, _, _, _, _, _, Nat.zero_le _, ⟨rfl, I0.out, by have := DN.out; omega⟩, rfl⟩ ?_
  clear I0
  rintro a W ⟨k, Ds, D, v6, v9, v13, v14, v15, v16, v17, v18, v28, v29, v30, v31, v32, v33, v34, v35, hk, hI, rfl⟩
  by_cases hlt : k < n
  · have hKW : Hid (Kept (Go.Proofs.YthnebhddakfadaaGreatDoor.mine S b) w W) := by
      obtain ⟨m, _, h⟩ := hI.out.2.1.disk
      exact h.kept
    have hsrc := HF.out W hKW.out
    obtain ⟨g, off, rfl, _, _⟩ := hsrc.form wfK_ok (by omega)
    obtain ⟨e, he⟩ : ∃ e, es[k]? = some e := ⟨es[k]'(by rw [HL.out]; exact hlt), List.getElem?_eq_getElem _⟩
    obtain ⟨p0, p1, p2⟩ := wf_cells hsrc he
    have HEL := keep (HES.out e (List.mem_of_getElem? he))
    have HXS : Hid (∀ w', Kept (Go.Proofs.YthnebhddakfadaaGreatDoor.mine S b) w w' → Src w' e.p e.bytes.length e.c e.bytes) := fun w' h => (HF.out w' h).held e (List.mem_of_getElem? he)
    have TK : Hid (fs.take (k + 1) = fs.take k ++ [(e.name, e.bytes)]) := by
      show _ = _
      rw [← HFS.out, List.take_add_one, List.getElem?_map, he]
      rfl
    have FULL : Hid (∀ E D2, E ≠ 0 → wrt d (fs.take (k + 1)) = (E, D2) → wrt d fs = (E, D2)) := fun E D2 hE h1 => by
      have h2 := wrt_stop (fs.drop (k + 1)) (fs.take (k + 1)) d E D2 hE h1
      rwa [List.take_append_drop] at h2
    have WS : Hid (wrt d (fs.take (k + 1)) = walGo D e.name e.bytes) := by
      show _ = _
      rw [TK.out]
      exact wrt_snoc _ _ _ _ hI.out.1
    obtain ⟨nm, xp, xc, fr⟩ := e
    simp only at p0 p1 p2 HEL HXS WS
    have hlt1 : (k : Int) < (n : Int) := by omega
    have hk0 : (0 : Int) ≤ (k : Int) := by omega
    obtain ⟨FL, hFL⟩ : ∃ FL, fr.length = FL := ⟨_, rfl⟩
    have HFL := keep hFL
    rw [hFL] at p2 HEL HXS
    clear hFL he hsrc
    gi_wp2_with fail
    obtain ⟨m, hm0, hd0⟩ := hI.out.2.1.disk
    have hcd := hI.out.2.1.cd
    have hcr := hI.out.2.1.cr
    have hmk := hI.out.2.1.marks
    obtain ⟨W2, hW2⟩ : ∃ W2, W.alloc (.cells #[.string ⟨nm.toArray⟩, .int .i64 0, .slice xp FL xc] 70) = W2 := ⟨_, rfl⟩
    rw [hW2]
    have c2 : Hid (Below W.heap.size W W2) := by rw [← hW2]; exact (Below.refl _ _).alloc (Nat.le_refl _) _
    have g2 : Hid (W2.heap[W.heap.size]? = some (.cells #[.string ⟨nm.toArray⟩, .int .i64 0, .slice xp FL xc] 70)) := by rw [← hW2]; exact heap_alloc_new W _
    have s2 : Hid (W2.heap.size = W.heap.size + 1) := by show _ = _; rw [← hW2]; simp
    refine ⟨trivial, ?_⟩
    refine (callsIn_wide.2 (chunk_any xp FL xc W2)).mono ?_
    rintro e w9 ⟨rfl, hw9⟩
    obtain ⟨bs, hbs⟩ : ∃ bs, W2.heap.size = bs := ⟨_, rfl⟩
    have c9 : Hid (Below W2.heap.size W2 w9) := by rw [hw9]; exact ((Below.refl _ _).alloc (Nat.le_refl _) _).alloc (by simp) _
    have z9 : Hid (w9.heap.size = bs + 2) := by show _ = _; rw [hw9, ← hbs]; simp
    have n9 : Hid (w9.heap[bs + 1]? = some (.cells #[.int .i64 4096] 3)) := by
      have h1 := heap_alloc_new (W2.alloc (.cells #[.slice xp FL xc] 25)) (.cells #[.int .i64 4096] 3)
      rw [World.size_alloc, hbs] at h1
      rw [hw9]; exact h1
    have q9 : Hid (w9.heap[bs]? = some (.cells #[.slice xp FL xc] 25)) := by
      rw [hw9, ← hbs]; exact (Below.heap_alloc _ _ _ (by simp)).trans (heap_alloc_new W2 _)
    rw [hbs]
    have B9 := keep (c2.out.trans (c9.out.mono c2.out.size))
    have hbsW : Hid (bs = W.heap.size + 1) := by show _ = _; rw [← hbs]; exact s2.out
    have hwW : Hid (w.heap.size ≤ W.heap.size) := hd0.kept.size
    have hwB : Hid (w.heap.size ≤ bs + 2) := by show _ ≤ _; have := hwW.out; have := hbsW.out; omega
    have C0 : Hid (ChI w S b m w.heap.size (w.heap.size + 1) W.heap.size bs (bs + 1) (bs + 2) nm (.slice xp FL xc) FL Ds (.int .i64 0) w9 D) := by
      have hb := hbsW.out
      have lt : ∀ g o, W.heap[g]? = some o → g < bs + 2 := fun g o ho => by have := (Array.getElem?_eq_some_iff.1 ho).1; omega
      have old : ∀ g o, W.heap[g]? = some o → w9.heap[g]? = some o := fun g o ho => (B9.out.block g (Array.getElem?_eq_some_iff.1 ho).1).trans ho
      exact ⟨hd0.next B9.out, old _ _ hcd, old _ _ hcr, (c9.out.block _ (by rw [s2.out]; omega)).trans g2.out, q9.out, n9.out, ⟨hmk.nodup, hmk.far, fun x hx => old _ _ (hmk.each x hx)⟩, by omega, by rw [z9.out]; exact Nat.le_refl _, lt _ _ hcd, lt _ _ hcr, by omega, by omega, by omega, fun x hx => lt _ _ (hmk.each x hx)⟩
    have HX9 : Hid (Src w9 xp FL xc fr) := HXS.out w9 (C0.out.disk.kept)
    have cs9 : w9.cell? ⟨bs, 0, none⟩ = some (.slice xp FL xc) := cell_of_row _ _ _ _ _ _ q9.out
    have cn9 : w9.cell? ⟨bs + 1, 0, none⟩ = some (.int .i64 4096) := cell_of_row _ _ _ _ _ _ n9.out
    have HDD : Hid (D.done ≤ 4611680000000000000 + 10000001 * k) := hI.out.2.2
    have HN100 : Hid (nm.length ≤ 100) := (named_len HEL.out.1).2
    have STD : Hid (∀ (D' : Disk) (W1 : World) (l2 : List Named), Own (Go.Proofs.YthnebhddakfadaaGreatDoor.mine S b) w (Fit m l2) W1 b D' → ∀ x, Steady (Go.Proofs.YthnebhddakfadaaGreatDoor.mine (Fit m l2) b) W1 fun w' => Src w' (cka xp x) (gl FL x) (gl FL x) (chunkOf fr x)) := fun D' W1 l2 h2 x W' hk => src_cell (HXS.out W' (h2.bel.trans' hk (fun g hl hg => by
      rcases (h2.mines g hg).1 with h3 | h3
      · exact h3
      · omega))) x
    have CL : Hid (∀ x, (chunkOf fr x).length = gl FL x) := fun x => by
      have h1 := HFL.out
      unfold chunkOf gl
      rw [List.length_take, List.length_drop, h1]
      omega
    clear hw9 hW2 hbs hm0 hd0 hcd hcr hmk p0 p1 p2 c2 c9 g2 s2
    gi_wp2_with fail
    refine wpIn_rangeFunc_ownG (α := Nat) (F := Fence.wide) rfl (by decide) (gf := 149) (lb := #[.pointer (some ⟨bs, 0, none⟩), .pointer (some ⟨bs + 1, 0, none⟩)]) rfl trivial (enters_of Tryz.func149 (by kernel_rfl) rfl)
      (chunk_stops 7 (by decide) bs (bs + 1) xp FL xc fr (by have := HEL.out.2; omega) w9 cs9 cn9 HX9.out) KpC.t KpC.b (Below.refl _ _) (fun _ => rfl)
      (fun pre W' => ∃ D', adds D nm (pre.map (chunkOf fr)) = (0, D') ∧ ChI w S b m w.heap.size (w.heap.size + 1) W.heap.size bs (bs + 1) (bs + 2) nm (.slice xp FL xc) FL Ds (.int .i64 0) W' D')
      (fun cc pre W' => cc = .ret ∧ ∃ (E : Nat) (D' : Disk), E ≠ 0 ∧ adds D nm (pre.map (chunkOf fr)) = (E, D') ∧ ChI w S b m w.heap.size (w.heap.size + 1) W.heap.size bs (bs + 1) (bs + 2) nm (.slice xp FL xc) FL Ds (.int .i64 (E : Int)) W' D')
      (fun pre W1 W2 row h hg hr => by obtain ⟨D', h1, h2⟩ := h; exact ⟨D', h1, h2.turn hwB.out hg (fun r e => by have := hr r e; rw [z9.out] at this; exact this)⟩)
      (fun cc pre W1 W2 row h hg hr => by obtain ⟨h0, E, D', h1, h2, h3⟩ := h; exact ⟨h0, E, D', h1, h2, h3.turn hwB.out hg (fun r e => by have := hr r e; rw [z9.out] at this; exact this)⟩)
      ⟨D, rfl, C0.out⟩
      (fun x => { tmps := #[.pointer (some ⟨b, 0, none⟩), .slice (some ⟨g, off, none⟩) n c, .pointer (some ⟨w.heap.size, 0, none⟩), undef, .pointer (some ⟨w.heap.size + 1, 0, none⟩), undef, .pointer (some ⟨W.heap.size, 0, none⟩), .slice (cka xp x) (gl FL x) (gl FL x), undef, v9, .slice (some ⟨g, off, none⟩) n c, .int .i64 (n : Int), .int .i64 (k : Int), .bool true, .pointer (some ⟨g, off + k * 3, none⟩), .agg #[.string ⟨nm.toArray⟩, .int .i64 0, .slice xp FL xc], .pointer (some ⟨W.heap.size, 2, none⟩), .slice xp FL xc, .func (.func 149) #[] #[.pointer (some ⟨bs, 0, none⟩), .pointer (some ⟨bs + 1, 0, none⟩)], .slice (cka xp x) (gl FL x) (gl FL x), undef, undef, undef, undef, undef, undef, undef, undef, v28, v29, v30, v31, v32, v33, v34, v35], defers := [] }) ?assign ?body ?done ?stop
    case assign =>
      intro l x W K hK
      gi_wp2
      exact hK
    case body =>
      rintro l pre x W1 ⟨D', hA, hC⟩ hlt2
      obtain ⟨l2, left2, h1, h2⟩ := hC.disk.ex
      have hdD : D'.done ≤ 4611686018427387904 := by
        have h3 := adds_done nm (pre.map (chunkOf fr)) D
        rw [hA, List.length_map] at h3
        have h4 := HDD.out
        have h5 := HEL.out.2
        rw [gl_chunks] at hlt2
        simp only at h3
        omega
      have AP := append_rawM (Fit m l2) b D' nm (chunkOf fr x) (cka xp x) (gl FL x) W1 m l2 left2 h1 (by have := HN100.out; unfold maxLen; omega) (by rw [CL.out]; exact STD.out D' W1 l2 h2 x) hdD []
      rw [CL.out] at AP
      have HAP := keep AP
      have y0 : W1.cell? ⟨w.heap.size, 0, none⟩ = some (.pointer (some ⟨b, 0, none⟩)) := cell_of_row _ _ _ _ _ _ hC.cd
      have y2 : W1.cell? ⟨W.heap.size, 0, none⟩ = some (.string ⟨nm.toArray⟩) := cell_of_row _ _ _ _ _ _ hC.cx
      have HC := keep hC
      have HA := keep hA
      have H1 := keep h1
      have H2 := keep h2
      clear hC hA AP h1 h2 hlt2 hdD
      gi_wp2_with fail
      refine ⟨trivial, ?_⟩
      refine (CallsIn.inRound l (callsIn_wide.2 HAP.out)).mono ?_
      intro e W3 hr
      obtain ⟨rfl, hd2, hkf, hk2⟩ := HC.out.disk.rawM HC.out.mB H1.out H2.out hr
      have hC2 := HC.out.keeps hd2 hk2 hkf.size
      have hsn : Hid (adds D nm ((pre ++ [x]).map (chunkOf fr)) = Dk.raw D' 0 nm [] (chunkOf fr x)) := by
        show _ = _
        rw [List.map_append, List.map_cons, List.map_nil, adds_snoc, HA.out]
        rfl
      have KF : Hid (KeepsFrom w9.heap.size W1 W3) := by
        show KeepsFrom w9.heap.size W1 W3
        rw [z9.out]
        exact hkf
      have C2 := keep hC2
      obtain ⟨X, hX⟩ : ∃ X, Dk.raw D' 0 nm [] (chunkOf fr x) = X := ⟨_, rfl⟩
      rw [hX] at hsn C2 ⊢
      obtain ⟨E, D2⟩ := X
      simp only at C2 ⊢
      clear hr hkf hd2 hk2 hC2 hX HAP
      by_cases hE : E = 0
      · subst hE
        gi_wp2
        exact ⟨KF.out, HC.out.kp C2.out, D2, hsn.out, C2.out⟩
      · have hE1 : ((E : Int) == 0) = false := by rw [beq_eq_false_iff_ne]; omega
        have z1 : W3.cell? ⟨w.heap.size + 1, 0, none⟩ = some (.int .i64 0) := cell_of_row _ _ _ _ _ _ C2.out.cr
        have z2 : W3.frozen? ⟨w.heap.size + 1, 0, none⟩ = false := by simp [World.frozen?, C2.out.cr]
        have HE := keep hE
        clear hE
        gi_wp2
        exact ⟨KF.out.trans ((KeepsOthers.setCell W3 ⟨w.heap.size + 1, 0, none⟩ (.int .i64 (E : Int))).from _), rfl, E, D2, HE.out, hsn.out, C2.out.answer (by omega) _⟩
    case done =>
      rintro K ys W1 hD rfl ⟨D', hA, hC⟩ hK
      rw [z9.out] at hD
      obtain ⟨l2, left2, h1, h2⟩ := hC.disk.ex
      have hdD0 : D'.done ≤ 4611680000000000000 + 10000001 * k + 10000000 := by
        have h3 := adds_done nm ((List.range (cnt FL)).map (chunkOf fr)) D
        rw [hA, List.length_map, List.length_range, gl_chunks] at h3
        have h4 := HDD.out
        have h5 := HEL.out.2
        simp only at h3
        omega
      have HD0 := keep hdD0
      have SY := sync_raw (Fit m l2) b D' nm W1 ⟨m, l2, left2, h1⟩ (by have := HN100.out; unfold maxLen; omega) (by omega) [] []
      have HSY := keep SY
      have y0 : W1.cell? ⟨w.heap.size, 0, none⟩ = some (.pointer (some ⟨b, 0, none⟩)) := cell_of_row _ _ _ _ _ _ hC.cd
      have y2 : W1.cell? ⟨W.heap.size, 0, none⟩ = some (.string ⟨nm.toArray⟩) := cell_of_row _ _ _ _ _ _ hC.cx
      have hgo : Hid (walGo D nm fr = Dk.raw D' 1 nm [] []) := walGo_at (by rw [gl_chunks, HFL.out]) hA
      have HC := keep hC
      have HW := keep (hC.wr hwB.out hD hK)
      have H1 := keep h1
      have H2 := keep h2
      clear hA hK hD SY hC h1 h2 hdD0
      gi_wp2_with fail
      refine ⟨trivial, ?_⟩
      refine (callsIn_wide.2 HSY.out).mono ?_
      intro e W3 hr
      obtain ⟨rfl, hdk, hsz, hk2⟩ := OwnF.raw H1.out H2.out hr
      have hW3 : WrI w S b w.heap.size (w.heap.size + 1) (K :: Ds) (.int .i64 0) W3 (Dk.raw D' 1 nm [] []).2 := ⟨hdk, hk2 _ _ HW.out.cd (DObj.no (by decide) (by decide)), hk2 _ _ HW.out.cr (DObj.no (by decide) (by decide)), ⟨HW.out.marks.nodup, HW.out.marks.far, fun x hx => hk2 _ _ (HW.out.marks.each x hx) (DObj.none _)⟩⟩
      have W3I := keep hW3
      have RD : Hid ((Dk.raw D' 1 nm [] []).2.done ≤ D'.done + 1) := raw_done _ _ _ _ _
      obtain ⟨X, hX⟩ : ∃ X, Dk.raw D' 1 nm [] [] = X := ⟨_, rfl⟩
      rw [hX] at W3I hgo RD ⊢
      obtain ⟨E, D2⟩ := X
      simp only at W3I RD ⊢
      rw [hgo.out] at WS
      clear hr hdk hsz hk2 hW3 hX HSY y0 y2
      by_cases hE : E = 0
      · subst hE
        gi_wp2
        refine ⟨⟨k + 1, K :: Ds, D2, _, _, _, _, _, _, _, _, _, _, _, _, _, _, _, _, by omega, ⟨WS.out, W3I.out, by have := HD0.out; have := RD.out; omega⟩, rfl⟩, ?_⟩
        simp [intOf]
        omega
      · have hE1 : ((E : Int) == 0) = false := by rw [beq_eq_false_iff_ne]; omega
        have z1 : W3.cell? ⟨w.heap.size + 1, 0, none⟩ = some (.int .i64 0) := cell_of_row _ _ _ _ _ _ W3I.out.cr
        have z2 : W3.frozen? ⟨w.heap.size + 1, 0, none⟩ = false := by simp [World.frozen?, W3I.out.cr]
        have W4I := keep (W3I.out.answer (by omega) (.int .i64 (E : Int)))
        have FU := keep (FULL.out E D2 hE WS.out)
        clear hE
        gi_wp2
        refine leaves_marks2 (B := w.heap.size) (K :: Ds) _ W4I.out.marks (fun W' hs => ⟨.int .i64 (E : Int), ?_, ?_⟩)
        · have hc5 := (W4I.out.end hs).1
          simp [results, Tryz.f56, go_sem, hc5]
        · obtain ⟨S', hO⟩ := (W4I.out.end hs).2
          rw [FU.out]
          first | exact ⟨S', rfl, hO⟩ | exact ⟨rfl, S', hO⟩
    case stop =>
      rintro K cc pre W1 hD ⟨kk, hkk, rfl⟩ ⟨rfl, E, D', hE, hA, hC⟩ hK
      rw [z9.out] at hD
      have hgo : walGo D nm fr = (E, D') := walGo_cut hE (by rw [HFL.out]; exact hkk) hA
      rw [hgo] at WS
      have FU := keep (FULL.out E D' hE WS.out)
      have W4I := keep (hC.wr hwB.out hD hK)
      clear hC hA hgo hE hK hkk
      gi_wp2
      refine leaves_marks2 (B := w.heap.size) (K :: Ds) _ W4I.out.marks (fun W' hs => ⟨.int .i64 (E : Int), ?_, ?_⟩)
      · have hc5 := (W4I.out.end hs).1
        simp [results, Tryz.f56, go_sem, hc5]
      · obtain ⟨S', hO⟩ := (W4I.out.end hs).2
        rw [FU.out]
        first | exact ⟨S', rfl, hO⟩ | exact ⟨rfl, S', hO⟩
  · obtain rfl : k = n := by omega
    have hlt1 : ¬ (k : Int) < (k : Int) := by omega
    have h1 := hI.out.1
    rw [List.take_of_length_le (by rw [← HFS.out, List.length_map, HL.out]; exact Nat.le_refl _)] at h1
    have H1 := keep h1
    have z1 : W.cell? ⟨w.heap.size + 1, 0, none⟩ = some (.int .i64 0) := cell_of_row _ _ _ _ _ _ hI.out.2.1.cr
    have z2 : W.frozen? ⟨w.heap.size + 1, 0, none⟩ = false := by simp [World.frozen?, hI.out.2.1.cr]
    have W4I := keep (hI.out.2.1.answer (by omega) (.int .i64 0))
    clear h1
    gi_wp2
    refine leaves_marks2 (B := w.heap.size) Ds _ W4I.out.marks (fun W' hs => ⟨.int .i64 0, ?_, ?_⟩)
    · have hc5 := (W4I.out.end hs).1
      simp [results, Tryz.f56, go_sem, hc5]
    · obtain ⟨S', hO⟩ := (W4I.out.end hs).2
      rw [H1.out]
      first | exact ⟨S', rfl, hO⟩ | exact ⟨rfl, S', hO⟩
end Go.Proofs.YthnebhddakfadaaGreatDoor
