/- What holds between two chunks of wal's Add; no walk. -/
import Derived.Test.YtohnfogdalnilaaDoorWe
namespace Go.Proofs.YtohnfogdalnilaaDoor
open Go.RowKit Go.Shelf
open Dk (File Disk)

theorem own_tag {w : World} {B t k n : Nat} {v : Value} {xs : List Value} (h : w.ownsRow B t k v n xs) {g : Nat} (hg : v.ownBlock = some g) : ∃ cur, w.heap[g]? = some (.cells cur t (0, 0)) := by
  rcases h.2 with ⟨rfl, _⟩ | ⟨g', cap, cur, rfl, _, hh, _⟩
  · cases hg
  · cases hg
    exact ⟨cur, hh⟩
theorem rel_tag {w : World} : ∀ {l : List Named} {fs : List File}, Rel w Nobody l fs → ∀ x ∈ l, ∀ g, arr x.2 = some g → ∃ cur, w.heap[g]? = some (.cells cur 5 (0, 0))
  | [], _, _, _, hx, _, _ => by cases hx
  | y :: l, f :: fs, h, x, hx, g, hg => by
    rcases List.mem_cons.1 hx with rfl | hx
    · obtain ⟨sv, e, ho⟩ := h.2.1 (fun e => e)
      rw [e] at hg
      exact own_tag ho hg
    · exact rel_tag h.2.2 x hx g hg
  | _ :: _, [], h, _, _, _, _ => h.elim
/-- The blocks of a disk, and no others. -/
def Fit (m : Nat) (l : List Named) (g : Nat) : Prop := g = m ∨ ∃ x ∈ l, arr x.2 = some g
theorem MemAt.fit {S : Nat → Prop} {w : World} {b m : Nat} {l : List Named} {left : Int} {d : Disk} (h : MemAt S w b m l left d) : MemAt (Fit m l) w b m l left d ∧ (∀ g, Fit m l g → S g) := by
  have hs : ∀ g, Fit m l g → S g := fun g hg => by
    rcases hg with rfl | ⟨x, hx, hg⟩
    · exact h.foot.mine
    · exact (h.foot.arrs x hx g hg).1
  exact ⟨⟨h.good, h.capb, h.box, h.map, h.rel, ⟨.inl rfl, fun x hx g hg => ⟨.inr ⟨x, hx, hg⟩, (h.foot.arrs x hx g hg).2⟩, h.foot.apart⟩, fun e => h.out (hs _ e), fun g hg => h.lt g (hs g hg), h.lefts, h.range⟩, hs⟩

/-- Between two chunks: the disk is at b, its map at m; what lay when Add began lies below Z, what the loop made at or beyond B. -/
structure Lay (U : Nat → Prop) (w0 : World) (m b bd br bn Z B : Nat) (N : List UInt8) (v : Value) (fr : List UInt8) (rv : Value) (D : Disk) (S : Nat → Prop) (W : World) : Prop where
  mem : ∃ l left, MemAt S W b m l left D
  tight : ∀ g, S g → g ≠ m → ∃ cs t fz, W.heap[g]? = some (.cells cs t fz)
  low : ∀ g, S g → g < Z ∨ B ≤ g
  news : ∀ g, S g → U g ∨ w0.heap.size ≤ g
  at_ : U b ∨ w0.heap.size ≤ b
  bel : Kept U w0 W
  row : W.ownsRow Z 5 1 v fr.length (bv fr)
  rowl : ∀ g, v.ownBlock = some g → g < B
  cd : W.heap[bd]? = some (.cells #[.pointer (some ⟨b, 0, none⟩)] 25)
  cr : W.heap[br]? = some (.cells #[rv] 26)
  cn : W.heap[bn]? = some (.cells #[.string ⟨N.toArray⟩] 9)
  size : B ≤ W.heap.size
  zb : Z ≤ B
  mz : m < Z
  bz : b < Z
  boxes : Z ≤ bd ∧ bd < B ∧ Z ≤ br ∧ br < B ∧ Z ≤ bn ∧ bn < B ∧ bd ≠ br ∧ bn ≠ br ∧ w0.heap.size ≤ br
section
variable {U : Nat → Prop} {w0 : World} {m b bd br bn Z B : Nat} {N : List UInt8} {v : Value} {fr : List UInt8} {rv : Value} {D : Disk} {S : Nat → Prop} {W W' : World}
theorem Lay.blt (h : Lay U w0 m b bd br bn Z B N v fr rv D S W) : b < W.heap.size := by
  obtain ⟨l, left, hm⟩ := h.mem
  exact hm.box.lt
theorem Lay.cells_b (h : Lay U w0 m b bd br bn Z B N v fr rv D S W) : ∃ cs t fz, W.heap[b]? = some (.cells cs t fz) := by
  obtain ⟨l, left, hm⟩ := h.mem
  exact ⟨_, _, _, hm.box⟩
theorem Lay.lt (h : Lay U w0 m b bd br bn Z B N v fr rv D S W) : ∀ g, S g → g < W.heap.size := by
  obtain ⟨l, left, hm⟩ := h.mem
  exact hm.lt
theorem Lay.aside (h : Lay U w0 m b bd br bn Z B N v fr rv D S W) {g : Nat} (h1 : Z ≤ g) (h2 : g < B) : ¬ Go.Proofs.YtohnfogdalnilaaDoor.mine S b g := fun e => by
  have := h.bz
  rcases e with e | e
  · have := h.low g e; omega
  · omega
/-- A block that is no cells, and lies beyond B, is turned: nothing is. -/
theorem Lay.turn (h : Lay U w0 m b bd br bn Z B N v fr rv D S W) {row : Option Nat} (hg : W.grownBy W' row) (hr : ∀ r, row = some r → B ≤ r ∧ ∃ o : Obj, W.heap[r]? = some o ∧ o.isCells = false) : Lay U w0 m b bd br bn Z B N v fr rv D S W' := by
  have hz := h.zb
  have hmz := h.mz
  have hbz := h.bz
  have nS : ∀ g, S g → some g ≠ row := fun g hs e => by
    obtain ⟨h1, o, ho, hc⟩ := hr g e.symm
    obtain ⟨cs, t, fz, hh⟩ := h.tight g hs (by omega)
    rw [hh] at ho
    cases ho
    cases hc
  have nb : some b ≠ row := fun e => by have := (hr b e.symm).1; omega
  have lowB : ∀ g, g < B → some g ≠ row := fun g hl e => by have := (hr g e.symm).1; omega
  have hk : Kept (fun g => some g = row) W W' := (Kept.refl _ W).grown hg (fun k e => .inl e.symm)
  have hbs := h.boxes
  have hsz := h.size
  obtain ⟨l, left, hm⟩ := h.mem
  refine ⟨⟨l, left, hm.kept hk (fun g hs => nS g hs) nb⟩, fun g hs hne => ?_, h.low, h.news, h.at_, h.bel.grown hg (fun j e => .inr (by have := (hr j e).1; have := h.boxes.2.2.2.2.2.2.2.2; omega)), own_block h.row (fun g hgg => hg.block g (own_size h.row hgg) (lowB g (h.rowl g hgg))), h.rowl,
    (hg.block bd (by omega) (lowB bd hbs.2.1)).trans h.cd, (hg.block br (by omega) (lowB br hbs.2.2.2.1)).trans h.cr, (hg.block bn (by omega) (lowB bn hbs.2.2.2.2.2.1)).trans h.cn, Nat.le_trans hsz hg.size, hz, hmz, hbz, hbs⟩
  obtain ⟨cs, t, fz, hh⟩ := h.tight g hs hne
  exact ⟨cs, t, fz, (hg.block g (h.lt g hs) (nS g hs)).trans hh⟩
/-- A raw write on the disk. -/
theorem Lay.raw (h : Lay U w0 m b bd br bn Z B N v fr rv D S W) {r : Nat × Disk} {e : Ending} (hr : RawPostM S W b m r e W') : e = .returned (.int .i64 (r.1 : Int)) ∧ KeepsFrom B W W' ∧ ∃ S', Lay U w0 m b bd br bn Z B N v fr rv r.2 S' W' := by
  obtain ⟨h1, ⟨l, left, h2⟩, h3⟩ := hr
  obtain ⟨hf, hsub⟩ := h2.fit
  have hz := h.zb
  have hmz := h.mz
  have hbz := h.bz
  have hbs := h.boxes
  have hsz := h.size
  have keepB : ∀ g, Z ≤ g → g < B → W'.heap[g]? = W.heap[g]? := fun g hg1 hg2 => h3.block g (by omega) (h.aside hg1 hg2)
  have hlow : ∀ g, more S W W' g → g < Z ∨ B ≤ g := fun g hg => by
    rcases hg with hg | hg
    · exact h.low g hg
    · omega
  have hnew : ∀ g, more S W W' g → U g ∨ w0.heap.size ≤ g := fun g hg => by
    rcases hg with hg | hg
    · exact h.news g hg
    · exact .inr (by have := h.bel.size; omega)
  refine ⟨h1, ⟨h3.size, fun k o hB hk ho => ?_⟩, Fit m l, ⟨l, left, hf⟩, fun g hg hne => ?_, fun g hg => hlow g (hsub g hg), fun g hg => hnew g (hsub g hg), h.at_, h.bel.trans' h3 (fun g hl hg => ?_), own_block h.row (fun g hgg => keepB g (h.row.lt g hgg).1 (h.rowl g hgg)), h.rowl,
    (keepB bd hbs.1 hbs.2.1).trans h.cd, (keepB br hbs.2.2.1 hbs.2.2.2.1).trans h.cr, (keepB bn hbs.2.2.2.2.1 hbs.2.2.2.2.2.1).trans h.cn, Nat.le_trans hsz h3.size, hz, hmz, hbz, hbs⟩
  · refine (h3.block k (Array.getElem?_eq_some_iff.1 hk).1 (fun e => ?_)).trans hk
    rcases e with e | e
    · obtain ⟨cs, t, fz, hh⟩ := h.tight k e (by omega)
      rw [hh] at hk
      cases hk
      cases ho
    · omega
  · rcases hg with rfl | ⟨x, hx, hg⟩
    · exact absurd rfl hne
    · obtain ⟨cur, hc⟩ := rel_tag hf.rel x hx g hg
      exact ⟨_, _, _, hc⟩
  · rcases hg with hg | hg
    · rcases h.news g hg with h1 | h1
      · exact h1
      · omega
    · subst hg
      rcases h.at_ with h1 | h1
      · exact h1
      · omega
/-- The answer is laid into its box. -/
theorem Lay.answer (h : Lay U w0 m b bd br bn Z B N v fr rv D S W) (x : Value) : Lay U w0 m b bd br bn Z B N v fr x D S (W.setCell ⟨br, 0, none⟩ x) := by
  have hbs := h.boxes
  have hsz := h.size
  have hbz := h.bz
  have hk : Kept (fun g => g = br) W (W.setCell ⟨br, 0, none⟩ x) := (Kept.refl (fun g => g = br) W).setCell (p := ⟨br, 0, none⟩) (.inl (show br = br from rfl)) _
  have other : ∀ g, g ≠ br → (W.setCell ⟨br, 0, none⟩ x).heap[g]? = W.heap[g]? := fun g hg => Below.heap_setCell W ⟨br, 0, none⟩ x g hg
  have nS : ∀ g, S g → ¬ g = br := fun g hs e => by have := h.low g hs; omega
  obtain ⟨l, left, hm⟩ := h.mem
  refine ⟨⟨l, left, hm.kept hk nS (by omega)⟩, fun g hs hne => ?_, h.low, h.news, h.at_, h.bel.setCell (p := ⟨br, 0, none⟩) (.inr hbs.2.2.2.2.2.2.2.2) _, ?_, h.rowl, (other bd hbs.2.2.2.2.2.2.1).trans h.cd, set_row h.cr 0 x, (other bn hbs.2.2.2.2.2.2.2.1).trans h.cn, by simp only [World.setCell, Array.size_modify]; exact hsz, h.zb, h.mz, hbz, hbs⟩
  · obtain ⟨cs, t, fz, hh⟩ := h.tight g hs hne
    exact ⟨cs, t, fz, (other g (nS g hs)).trans hh⟩
  · refine own_block h.row (fun g hgg => other g (fun e => ?_))
    obtain ⟨cur, hc⟩ := own_tag h.row hgg
    rw [e, h.cr] at hc
    exact absurd hc (by simp)
theorem Lay.own (h : Lay U w0 m b bd br bn Z B N v fr rv D S W) : Own U w0 S W b D := by
  obtain ⟨l, left, hm⟩ := h.mem
  exact ⟨⟨m, l, left, hm⟩, h.news, h.at_, h.bel⟩
theorem Lay.answered (h : Lay U w0 m b bd br bn Z B N v fr rv D S W) : W.cell? ⟨br, 0, none⟩ = some rv := cell_of_row _ _ _ _ _ _ h.cr
/-- The loop ended early: the block for deferred calls is emptied. -/
theorem Lay.stop (h : Lay U w0 m b bd br bn Z B N v fr rv D S W) {K : Nat} (hB : B ≤ K) (hK : W.heap[K]? = some (.deferred (some []))) : Own U w0 S (W.putObj K (.deferred none)) b D ∧ (W.putObj K (.deferred none)).cell? ⟨br, 0, none⟩ = some rv := by
  have h1 := h.turn (grownBy_putObj' W K (.deferred none)) (fun r e => by cases e; exact ⟨hB, _, hK, rfl⟩)
  exact ⟨h1.own, h1.answered⟩
/-- The last raw write behind the loop. -/
theorem Lay.last (h : Lay U w0 m b bd br bn Z B N v fr rv D S W) {K : Nat} (hB : B ≤ K) (hK : W.heap[K]? = some (.deferred (some []))) {r : Nat × Disk} {e : Ending} (hr : RawPost S W b r e W') (x : Value) :
    W'.cell? ⟨br, 0, none⟩ = some rv ∧ W'.frozen? ⟨br, 0, none⟩ = false ∧ (W'.setCell ⟨br, 0, none⟩ x).heap[K]? = some (.deferred (some [])) ∧ ((W'.setCell ⟨br, 0, none⟩ x).putObj K (.deferred none)).cell? ⟨br, 0, none⟩ = some x ∧ Own U w0 (more S W W') ((W'.setCell ⟨br, 0, none⟩ x).putObj K (.deferred none)) b r.2 := by
  have hbs := h.boxes
  have hsz := h.size
  have hbz := h.bz
  have hzb := h.zb
  have hKl : K < W.heap.size := (Array.getElem?_eq_some_iff.1 hK).1
  have nK : ¬ Go.Proofs.YtohnfogdalnilaaDoor.mine S b K := fun e => by
    rcases e with e | e
    · obtain ⟨cs, t, fz, hh⟩ := h.tight K e (by have := h.mz; omega)
      rw [hh] at hK
      cases hK
    · omega
  have hbr : W'.heap[br]? = some (.cells #[rv] 26) := (hr.2.2.block br (by omega) (h.aside hbs.2.2.1 hbs.2.2.2.1)).trans h.cr
  have hK' : W'.heap[K]? = some (.deferred (some [])) := (hr.2.2.block K hKl nK).trans hK
  have hKs : (W'.setCell ⟨br, 0, none⟩ x).heap[K]? = some (.deferred (some [])) := (Below.heap_setCell W' ⟨br, 0, none⟩ x K (by simp; omega)).trans hK'
  have hO := h.own.raw hr
  have k1 : Kept (fun g => g = br ∨ g = K) W' ((W'.setCell ⟨br, 0, none⟩ x).putObj K (.deferred none)) := ((Kept.refl (fun g => g = br ∨ g = K) W').setCell (p := ⟨br, 0, none⟩) (.inl (.inl rfl)) x).grown (grownBy_putObj' _ K _) (fun k e => by cases e; exact .inl (.inr rfl))
  refine ⟨cell_of_row _ _ _ _ _ _ hbr, by simp [World.frozen?, hbr], hKs, ?_, ?_, hO.2.news, hO.2.at_, hO.2.bel.trans' k1 (fun g hl hg => ?_)⟩
  · have h1 := set_row hbr 0 x
    have h2 : ((W'.setCell ⟨br, 0, none⟩ x).putObj K (.deferred none)).heap[br]? = (W'.setCell ⟨br, 0, none⟩ x).heap[br]? := World.putObj_heap_other (by omega)
    exact cell_of_row _ _ _ _ _ _ (h2.trans h1)
  · refine hO.2.mem.kept k1 (fun g hg e => ?_) (fun e => by omega)
    rcases hg with hg | hg
    · rcases e with e | e
      · have := h.low g hg; omega
      · exact nK (by rw [← e]; exact .inl hg)
    · omega
  · exfalso
    have := hbs.2.2.2.2.2.2.2.2
    have := h.bel.size
    rcases hg with hg | hg <;> omega
end
end Go.Proofs.YtohnfogdalnilaaDoor
