/- What holds between two chunks of wal's Add; no walk. -/
/- The walk of wal's Add: the frame is laid. -/
import Derived.Test.YtohnfogdalnilaaGreatDoorWe
namespace Go.Proofs.YtohnfogdalnilaaGreatDoor
open Go.RowKit Go.Shelf
open Dk (File Disk)

theorem own_tag {w : World} {B t k n : Nat} {v : Value} {xs : List Value} (h : w.ownsRow B t k v n xs) {g : Nat} (hg : v.ownBlock = some g) : ∃ cur, w.heap[g]? = some (.cells cur t (0, 0)) := by
  rcases h.2 with ⟨rfl, _⟩ | ⟨g', cap, cur, rfl, _, hh, _⟩
  · cases hg
  · cases hg
    exact ⟨cur, hh⟩
theorem rel_tag {w : World} : ∀ {l : List Named} {fs : List File}, Rel w Nobody l fs → ∀ x ∈ l, ∀ g, arr x.2 = some g → ∃ cur, w.heap[g]? = some (.cells cur 5 (0, 0))
  | [], _, _, _, hx, _, _ => by cases hx
  | y :: l, f :: fs, h, x, hx, g, hg => by
    rcases List.mem_cons.1 hx with rfl | hx
    · obtain ⟨sv, e, ho⟩ := h.2.1 (fun e => e)
      rw [e] at hg
      exact own_tag ho hg
    · exact rel_tag h.2.2 x hx g hg
  | _ :: _, [], h, _, _, _, _ => h.elim
/-- The blocks of a disk, and no others. -/
def Fit (m : Nat) (l : List Named) (g : Nat) : Prop := g = m ∨ ∃ x ∈ l, arr x.2 = some g
theorem MemAt.fit {S : Nat → Prop} {w : World} {b m : Nat} {l : List Named} {left : Int} {d : Disk} (h : MemAt S w b m l left d) : MemAt (Fit m l) w b m l left d ∧ (∀ g, Fit m l g → S g) := by
  have hs : ∀ g, Fit m l g → S g := fun g hg => by
    rcases hg with rfl | ⟨x, hx, hg⟩
    · exact h.foot.mine
    · exact (h.foot.arrs x hx g hg).1
  exact ⟨⟨h.good, h.capb, h.box, h.map, h.rel, ⟨.inl rfl, fun x hx g hg => ⟨.inr ⟨x, hx, hg⟩, (h.foot.arrs x hx g hg).2⟩, h.foot.apart⟩, fun e => h.out (hs _ e), fun g hg => h.lt g (hs g hg), h.lefts, h.range⟩, hs⟩

/-- Between two chunks: the disk is at b, its map at m; what lay when Add began lies below Z, what the loop made at or beyond B. -/
structure Lay (U : Nat → Prop) (w0 : World) (m b bd br bn Z B : Nat) (N : List UInt8) (v : Value) (fr : List UInt8) (rv : Value) (D : Disk) (S : Nat → Prop) (W : World) : Prop where
  mem : ∃ l left, MemAt S W b m l left D
  tight : ∀ g, S g → g ≠ m → ∃ cs t fz, W.heap[g]? = some (.cells cs t fz)
  low : ∀ g, S g → g < Z ∨ B ≤ g
  news : ∀ g, S g → U g ∨ w0.heap.size ≤ g
  at_ : U b ∨ w0.heap.size ≤ b
  bel : Kept U w0 W
  row : W.ownsRow Z 5 1 v fr.length (bv fr)
  rowl : ∀ g, v.ownBlock = some g → g < B
  cd : W.heap[bd]? = some (.cells #[.pointer (some ⟨b, 0, none⟩)] 28)
  cr : W.heap[br]? = some (.cells #[rv] 49)
  cn : W.heap[bn]? = some (.cells #[.string ⟨N.toArray⟩] 9)
  size : B ≤ W.heap.size
  zb : Z ≤ B
  mz : m < Z
  bz : b < Z
  boxes : Z ≤ bd ∧ bd < B ∧ Z ≤ br ∧ br < B ∧ Z ≤ bn ∧ bn < B ∧ bd ≠ br ∧ bn ≠ br ∧ w0.heap.size ≤ br
section
variable {U : Nat → Prop} {w0 : World} {m b bd br bn Z B : Nat} {N : List UInt8} {v : Value} {fr : List UInt8} {rv : Value} {D : Disk} {S : Nat → Prop} {W W' : World}
theorem Lay.blt (h : Lay U w0 m b bd br bn Z B N v fr rv D S W) : b < W.heap.size := by
  obtain ⟨l, left, hm⟩ := h.mem
  exact hm.box.lt
theorem Lay.cells_b (h : Lay U w0 m b bd br bn Z B N v fr rv D S W) : ∃ cs t fz, W.heap[b]? = some (.cells cs t fz) := by
  obtain ⟨l, left, hm⟩ := h.mem
  exact ⟨_, _, _, hm.box⟩
theorem Lay.lt (h : Lay U w0 m b bd br bn Z B N v fr rv D S W) : ∀ g, S g → g < W.heap.size := by
  obtain ⟨l, left, hm⟩ := h.mem
  exact hm.lt
theorem Lay.aside (h : Lay U w0 m b bd br bn Z B N v fr rv D S W) {g : Nat} (h1 : Z ≤ g) (h2 : g < B) : ¬ Go.Proofs.YtohnfogdalnilaaGreatDoor.mine S b g := fun e => by
  have := h.bz
  rcases e with e | e
  · have := h.low g e; omega
  · omega
/-- A block that is no cells, and lies beyond B, is turned: nothing is. -/
theorem Lay.turn (h : Lay U w0 m b bd br bn Z B N v fr rv D S W) {row : Option Nat} (hg : W.grownBy W' row) (hr : ∀ r, row = some r → B ≤ r ∧ ∃ o : Obj, W.heap[r]? = some o ∧ o.isCells = false) : Lay U w0 m b bd br bn Z B N v fr rv D S W' := by
  have hz := h.zb
  have hmz := h.mz
  have hbz := h.bz
  have nS : ∀ g, S g → some g ≠ row := fun g hs e => by
    obtain ⟨h1, o, ho, hc⟩ := hr g e.symm
    obtain ⟨cs, t, fz, hh⟩ := h.tight g hs (by omega)
    rw [hh] at ho
    cases ho
    cases hc
  have nb : some b ≠ row := fun e => by have := (hr b e.symm).1; omega
  have lowB : ∀ g, g < B → some g ≠ row := fun g hl e => by have := (hr g e.symm).1; omega
  have hk : Kept (fun g => some g = row) W W' := (Kept.refl _ W).grown hg (fun k e => .inl e.symm)
  have hbs := h.boxes
  have hsz := h.size
  obtain ⟨l, left, hm⟩ := h.mem
  refine ⟨⟨l, left, hm.kept hk (fun g hs => nS g hs) nb⟩, fun g hs hne => ?_, h.low, h.news, h.at_, h.bel.grown hg (fun j e => .inr (by have := (hr j e).1; have := h.boxes.2.2.2.2.2.2.2.2; omega)), own_block h.row (fun g hgg => hg.block g (own_size h.row hgg) (lowB g (h.rowl g hgg))), h.rowl,
    (hg.block bd (by omega) (lowB bd hbs.2.1)).trans h.cd, (hg.block br (by omega) (lowB br hbs.2.2.2.1)).trans h.cr, (hg.block bn (by omega) (lowB bn hbs.2.2.2.2.2.1)).trans h.cn, Nat.le_trans hsz hg.size, hz, hmz, hbz, hbs⟩
  obtain ⟨cs, t, fz, hh⟩ := h.tight g hs hne
  exact ⟨cs, t, fz, (hg.block g (h.lt g hs) (nS g hs)).trans hh⟩
/-- A raw write on the disk. -/
theorem Lay.raw (h : Lay U w0 m b bd br bn Z B N v fr rv D S W) {r : Nat × Disk} {e : Ending} (hr : RawPostM S W b m r e W') : e = .returned (.int .i64 (r.1 : Int)) ∧ KeepsFrom B W W' ∧ ∃ S', Lay U w0 m b bd br bn Z B N v fr rv r.2 S' W' := by
  obtain ⟨h1, ⟨l, left, h2⟩, h3⟩ := hr
  obtain ⟨hf, hsub⟩ := h2.fit
  have hz := h.zb
  have hmz := h.mz
  have hbz := h.bz
  have hbs := h.boxes
  have hsz := h.size
  have keepB : ∀ g, Z ≤ g → g < B → W'.heap[g]? = W.heap[g]? := fun g hg1 hg2 => h3.block g (by omega) (h.aside hg1 hg2)
  have hlow : ∀ g, more S W W' g → g < Z ∨ B ≤ g := fun g hg => by
    rcases hg with hg | hg
    · exact h.low g hg
    · omega
  have hnew : ∀ g, more S W W' g → U g ∨ w0.heap.size ≤ g := fun g hg => by
    rcases hg with hg | hg
    · exact h.news g hg
    · exact .inr (by have := h.bel.size; omega)
  refine ⟨h1, ⟨h3.size, fun k o hB hk ho => ?_⟩, Fit m l, ⟨l, left, hf⟩, fun g hg hne => ?_, fun g hg => hlow g (hsub g hg), fun g hg => hnew g (hsub g hg), h.at_, h.bel.trans' h3 (fun g hl hg => ?_), own_block h.row (fun g hgg => keepB g (h.row.lt g hgg).1 (h.rowl g hgg)), h.rowl,
    (keepB bd hbs.1 hbs.2.1).trans h.cd, (keepB br hbs.2.2.1 hbs.2.2.2.1).trans h.cr, (keepB bn hbs.2.2.2.2.1 hbs.2.2.2.2.2.1).trans h.cn, Nat.le_trans hsz h3.size, hz, hmz, hbz, hbs⟩
  · refine (h3.block k (Array.getElem?_eq_some_iff.1 hk).1 (fun e => ?_)).trans hk
    rcases e with e | e
    · obtain ⟨cs, t, fz, hh⟩ := h.tight k e (by omega)
      rw [hh] at hk
      cases hk
      cases ho
    · omega
  · rcases hg with rfl | ⟨x, hx, hg⟩
    · exact absurd rfl hne
    · obtain ⟨cur, hc⟩ := rel_tag hf.rel x hx g hg
      exact ⟨_, _, _, hc⟩
  · rcases hg with hg | hg
    · rcases h.news g hg with h1 | h1
      · exact h1
      · omega
    · subst hg
      rcases h.at_ with h1 | h1
      · exact h1
      · omega
/-- The answer is laid into its box. -/
theorem Lay.answer (h : Lay U w0 m b bd br bn Z B N v fr rv D S W) (x : Value) : Lay U w0 m b bd br bn Z B N v fr x D S (W.setCell ⟨br, 0, none⟩ x) := by
  have hbs := h.boxes
  have hsz := h.size
  have hbz := h.bz
  have hk : Kept (fun g => g = br) W (W.setCell ⟨br, 0, none⟩ x) := (Kept.refl (fun g => g = br) W).setCell (p := ⟨br, 0, none⟩) (.inl (show br = br from rfl)) _
  have other : ∀ g, g ≠ br → (W.setCell ⟨br, 0, none⟩ x).heap[g]? = W.heap[g]? := fun g hg => Below.heap_setCell W ⟨br, 0, none⟩ x g hg
  have nS : ∀ g, S g → ¬ g = br := fun g hs e => by have := h.low g hs; omega
  obtain ⟨l, left, hm⟩ := h.mem
  refine ⟨⟨l, left, hm.kept hk nS (by omega)⟩, fun g hs hne => ?_, h.low, h.news, h.at_, h.bel.setCell (p := ⟨br, 0, none⟩) (.inr hbs.2.2.2.2.2.2.2.2) _, ?_, h.rowl, (other bd hbs.2.2.2.2.2.2.1).trans h.cd, set_row h.cr 0 x, (other bn hbs.2.2.2.2.2.2.2.1).trans h.cn, by simp only [World.setCell, Array.size_modify]; exact hsz, h.zb, h.mz, hbz, hbs⟩
  · obtain ⟨cs, t, fz, hh⟩ := h.tight g hs hne
    exact ⟨cs, t, fz, (other g (nS g hs)).trans hh⟩
  · refine own_block h.row (fun g hgg => other g (fun e => ?_))
    obtain ⟨cur, hc⟩ := own_tag h.row hgg
    rw [e, h.cr] at hc
    exact absurd hc (by simp)
theorem Lay.own (h : Lay U w0 m b bd br bn Z B N v fr rv D S W) : Own U w0 S W b D := by
  obtain ⟨l, left, hm⟩ := h.mem
  exact ⟨⟨m, l, left, hm⟩, h.news, h.at_, h.bel⟩
theorem Lay.answered (h : Lay U w0 m b bd br bn Z B N v fr rv D S W) : W.cell? ⟨br, 0, none⟩ = some rv := cell_of_row _ _ _ _ _ _ h.cr
/-- The loop ended early: the block for deferred calls is emptied. -/
theorem Lay.stop (h : Lay U w0 m b bd br bn Z B N v fr rv D S W) {K : Nat} (hB : B ≤ K) (hK : W.heap[K]? = some (.deferred (some []))) : Own U w0 S (W.putObj K (.deferred none)) b D ∧ (W.putObj K (.deferred none)).cell? ⟨br, 0, none⟩ = some rv := by
  have h1 := h.turn (grownBy_putObj' W K (.deferred none)) (fun r e => by cases e; exact ⟨hB, _, hK, rfl⟩)
  exact ⟨h1.own, h1.answered⟩
/-- The last raw write behind the loop. -/
theorem Lay.last (h : Lay U w0 m b bd br bn Z B N v fr rv D S W) {K : Nat} (hB : B ≤ K) (hK : W.heap[K]? = some (.deferred (some []))) {r : Nat × Disk} {e : Ending} (hr : RawPost S W b r e W') (x : Value) :
    W'.cell? ⟨br, 0, none⟩ = some rv ∧ W'.frozen? ⟨br, 0, none⟩ = false ∧ (W'.setCell ⟨br, 0, none⟩ x).heap[K]? = some (.deferred (some [])) ∧ ((W'.setCell ⟨br, 0, none⟩ x).putObj K (.deferred none)).cell? ⟨br, 0, none⟩ = some x ∧ Own U w0 (more S W W') ((W'.setCell ⟨br, 0, none⟩ x).putObj K (.deferred none)) b r.2 := by
  have hbs := h.boxes
  have hsz := h.size
  have hbz := h.bz
  have hzb := h.zb
  have hKl : K < W.heap.size := (Array.getElem?_eq_some_iff.1 hK).1
  have nK : ¬ Go.Proofs.YtohnfogdalnilaaGreatDoor.mine S b K := fun e => by
    rcases e with e | e
    · obtain ⟨cs, t, fz, hh⟩ := h.tight K e (by have := h.mz; omega)
      rw [hh] at hK
      cases hK
    · omega
  have hbr : W'.heap[br]? = some (.cells #[rv] 49) := (hr.2.2.block br (by omega) (h.aside hbs.2.2.1 hbs.2.2.2.1)).trans h.cr
  have hK' : W'.heap[K]? = some (.deferred (some [])) := (hr.2.2.block K hKl nK).trans hK
  have hKs : (W'.setCell ⟨br, 0, none⟩ x).heap[K]? = some (.deferred (some [])) := (Below.heap_setCell W' ⟨br, 0, none⟩ x K (by simp; omega)).trans hK'
  have hO := h.own.raw hr
  have k1 : Kept (fun g => g = br ∨ g = K) W' ((W'.setCell ⟨br, 0, none⟩ x).putObj K (.deferred none)) := ((Kept.refl (fun g => g = br ∨ g = K) W').setCell (p := ⟨br, 0, none⟩) (.inl (.inl rfl)) x).grown (grownBy_putObj' _ K _) (fun k e => by cases e; exact .inl (.inr rfl))
  refine ⟨cell_of_row _ _ _ _ _ _ hbr, by simp [World.frozen?, hbr], hKs, ?_, ?_, hO.2.news, hO.2.at_, hO.2.bel.trans' k1 (fun g hl hg => ?_)⟩
  · have h1 := set_row hbr 0 x
    have h2 : ((W'.setCell ⟨br, 0, none⟩ x).putObj K (.deferred none)).heap[br]? = (W'.setCell ⟨br, 0, none⟩ x).heap[br]? := World.putObj_heap_other (by omega)
    exact cell_of_row _ _ _ _ _ _ (h2.trans h1)
  · refine hO.2.mem.kept k1 (fun g hg e => ?_) (fun e => by omega)
    rcases hg with hg | hg
    · rcases e with e | e
      · have := h.low g hg; omega
      · exact nK (by rw [← e]; exact .inl hg)
    · omega
  · exfalso
    have := hbs.2.2.2.2.2.2.2.2
    have := h.bel.size
    rcases hg with hg | hg <;> omega
end
end Go.Proofs.YtohnfogdalnilaaGreatDoor
namespace Go.Proofs.YtohnfogdalnilaaGreatDoor
open Go.RowKit Go.Shelf
open Dk (File Disk)
attribute [local go_sem] Oper.semAt_some

set_option maxHeartbeats 2000000 in
set_option maxRecDepth 100000 in
theorem add_go (S : Nat → Prop) (b : Nat) (d : Disk) (n : Int) (ao : Option Addr) (m c : Nat) (w : World) (ht : Tab w) (hw : 0 < w.heap.size) (h : isSeg n = true) (hm : m ≤ 1048576) (U : Nat → Prop) (w0 : World) (hO : Own U w0 S w b d) (body : List UInt8) (hs : ∀ w', Below w.heap.size w w' → Src w' ao m c body) (hd : d.dark = false) (hf : ¬ (d.cap : Int) - (Dk.used d.files : Int) < (roomOf d (segName n) (frame body).length : Int)) (hdn : d.done ≤ 4611686018427380000) :
    Calls Tryz.prog 20 #[.pointer (some ⟨b, 0, none⟩), .int .i64 n, .slice ao m c] w fun e w' => ∃ S', e = .returned (.int .i64 ((walGo d (segName n) (frame body)).1 : Int)) ∧ Own U w0 S' w' b (walGo d (segName n) (frame body)).2 := by
  have hM := hO.mem
  have HO := keep hO
  obtain ⟨W1, hW1⟩ : ∃ W1, (w.alloc (.cells #[.pointer (some ⟨b, 0, none⟩)] 28)).alloc (.cells #[.int .i64 0] 49) = W1 := ⟨_, rfl⟩
  have b1 : Hid (Below w.heap.size w W1) := by rw [← hW1]; exact ((Below.refl _ _).alloc (Nat.le_refl _) _).alloc (by simp) _
  have s1 : Hid (W1.heap.size = w.heap.size + 2) := by rw [← hW1]; show _ = _; simp
  have g0 : Hid (W1.heap[w.heap.size]? = some (.cells #[.pointer (some ⟨b, 0, none⟩)] 28)) := by
    rw [← hW1]; exact (Below.heap_alloc _ _ _ (by simp)).trans (heap_alloc_new w _)
  have g1 : Hid (W1.heap[w.heap.size + 1]? = some (.cells #[.int .i64 0] 49)) := by
    have := heap_alloc_new (w.alloc (.cells #[.pointer (some ⟨b, 0, none⟩)] 28)) (.cells #[.int .i64 0] 49)
    rw [World.size_alloc] at this
    rw [← hW1]; exact this
  have hN := keep (name_any n W1 (ht.below b1.out hw))
  have hne := segName_ne h
  have hnd := keep (segName_named h)
  have hnl := keep (segName_len h)
  obtain ⟨N, hNN⟩ : ∃ N, segName n = N := ⟨_, rfl⟩
  rw [hNN] at hN hne hnd hnl hf ⊢
  clear ht h
  rw [← callsIn_wide (n := 8)]
  refine callsIn_of_wp_marks Tryz.func20 rfl trivial ?_ rfl
  simp only [Tryz.ntmps20, List.size_toArray, List.length_cons, List.length_nil, Nat.reduceAdd, Nat.reduceSub, Array.replicate_succ, Array.replicate_zero, List.push_toArray, List.append_toArray, List.nil_append, List.cons_append]
  gi_wp2_with fail
  refine ⟨trivial, ?_⟩
  refine (callsIn_wide.2 hN.out).mono ?_
  rintro e w2 ⟨rfl, hb⟩
  obtain ⟨W3, hW3⟩ : ∃ W3, w2.alloc (.cells #[.string ⟨N.toArray⟩] 9) = W3 := ⟨_, rfl⟩
  have b3 : Hid (Below W1.heap.size W1 W3) := by rw [← hW3]; exact hb.alloc hb.size _
  have q0 := keep ((b3.out.block w.heap.size (by rw [s1.out]; omega)).trans g0.out)
  have q1 := keep ((b3.out.block (w.heap.size + 1) (by rw [s1.out]; omega)).trans g1.out)
  have q2 : Hid (W3.heap[w2.heap.size]? = some (.cells #[.string ⟨N.toArray⟩] 9)) := by rw [← hW3]; exact heap_alloc_new w2 _
  have c0 : W3.cell? ⟨w.heap.size, 0, none⟩ = some (.pointer (some ⟨b, 0, none⟩)) := cell_of_row _ _ _ _ _ _ q0.out
  have c1 : W3.cell? ⟨w.heap.size + 1, 0, none⟩ = some (.int .i64 0) := cell_of_row _ _ _ _ _ _ q1.out
  have c2 : W3.cell? ⟨w2.heap.size, 0, none⟩ = some (.string ⟨N.toArray⟩) := cell_of_row _ _ _ _ _ _ q2.out
  have f1 : W3.frozen? ⟨w.heap.size + 1, 0, none⟩ = false := by simp [World.frozen?, q1.out]
  have B3 := keep (b1.out.trans (b3.out.mono b1.out.size))
  have sz3 : Hid (w.heap.size + 2 ≤ w2.heap.size ∧ w2.heap.size < W3.heap.size) := ⟨by have := hb.size; rw [s1.out] at this; exact this, (Array.getElem?_eq_some_iff.1 q2.out).1⟩
  clear hb hN
  have HS := keep hs
  have HBL : Hid (body.length ≤ 1048576) := by have := (hs w (Below.refl _ _)).len; show _ ≤ _; omega
  clear hs
  have HM3 := keep (hM.below B3.out)
  have KC : Hid (∀ w', Below W3.heap.size W3 w' → Below w.heap.size w w' ∧ Mem S w' b d ∧ w'.cell? ⟨w.heap.size, 0, none⟩ = some (.pointer (some ⟨b, 0, none⟩)) ∧ w'.cell? ⟨w.heap.size + 1, 0, none⟩ = some (.int .i64 0) ∧ w'.cell? ⟨w2.heap.size, 0, none⟩ = some (.string ⟨N.toArray⟩) ∧ w'.frozen? ⟨w.heap.size + 1, 0, none⟩ = false) := fun w' hb' => ⟨B3.out.trans (hb'.mono B3.out.size), HM3.out.below hb', below_cell hb' c0, below_cell hb' c1, below_cell hb' c2, by
    have := (hb'.block (w.heap.size + 1) (by have := sz3.out; omega)).trans q1.out
    simp [World.frozen?, this]⟩
  clear hW1 hM hO
  have hm1 : ¬ (1048576 : Int) < (m : Int) := by omega
  gi_wp2_with fail
  refine ⟨trivial, ?_⟩
  refine (callsIn_wide.2 (isNone_mem S b d N W3 HM3.out hnd.out)).mono ?_
  rintro e w4 ⟨rfl, hb4⟩
  have B4 := keep hb4
  obtain ⟨_, x4, x40, x41, x42, x43⟩ := KC.out w4 B4.out
  have M4 := keep x4
  clear hb4 x4 c0 c1 c2 f1
  gi_wp2_with fail
  refine ⟨trivial, ?_⟩
  refine (callsIn_wide.2 (off_mem S b d w4 M4.out)).mono ?_
  rintro e w5 ⟨rfl, hb5⟩
  have B5 := keep (B4.out.trans (hb5.mono B4.out.size))
  obtain ⟨bel5, x5, x50, x51, x52, x53⟩ := KC.out w5 B5.out
  have M5 := keep x5
  have BL5 := keep bel5
  clear hb5 x5 bel5 x40 x41 x42 x43 M4
  rw [hd]
  gi_wp2_with fail
  refine ⟨trivial, ?_⟩
  have PF := putFrame_any none 0 0 [] ao m c body w5 (by omega) (src_nil w5) (HS.out w5 BL5.out)
  refine (callsIn_wide.2 PF).mono ?_
  rintro e w6 ⟨v6, rfl, hv6⟩
  simp only [Nat.zero_add, List.nil_append] at hv6
  have NV := keep hv6
  obtain ⟨a6, k6, rfl, hs6, hk6⟩ := hv6.src
  have B6 := keep (B5.out.trans (hv6.2.mono B5.out.size))
  obtain ⟨bel6, x6, x60, x61, x62, x63⟩ := KC.out w6 B6.out
  have M6 := keep x6
  have BL6 := keep bel6
  clear hv6 x6 bel6 x50 x51 x52 x53 M5 PF hs6
  gi_wp2_with fail
  have KW : Hid (∀ w', Below w6.heap.size w6 w' → Below W3.heap.size W3 w') := fun w' h => B6.out.trans (h.mono B6.out.size)
  have FM : Hid (∀ w', Below w6.heap.size w6 w' → Calls Tryz.prog 52 #[.pointer (some ⟨b, 0, none⟩)] w' fun e w'' => e = .returned (.int .i64 ((d.cap : Int) - (Dk.used d.files : Int))) ∧ Below w6.heap.size w6 w'') := fun w' hb' => by
    refine (free_mem S b d w' (KC.out w' (KW.out w' hb')).2.1).mono ?_
    rintro e w'' ⟨rfl, hb''⟩
    exact ⟨rfl, hb'.trans (hb''.mono hb'.size)⟩
  have hfl : (frame body).length ≤ 1048589 := by
    have h1 := frame_length body
    have h2 := num_le body.length (by have := HBL.out; omega)
    have h3 := HBL.out
    omega
  have RM : Hid (∀ w', Below w6.heap.size w6 w' → Calls Tryz.prog 53 #[.pointer (some ⟨b, 0, none⟩), .string ⟨N.toArray⟩, .slice a6 (frame body).length k6] w' fun e w'' => e = .returned (.int .i64 (roomOf d N (frame body).length : Int)) ∧ Below w6.heap.size w6 w'') := fun w' hb' => by
    refine (room_mem S b d N a6 (frame body).length k6 w' (KC.out w' (KW.out w' hb')).2.1 (by rw [hnl.out]; omega) (by omega)).mono ?_
    rintro e w'' ⟨rfl, hb''⟩
    exact ⟨rfl, hb'.trans (hb''.mono hb'.size)⟩
  have KS : Hid (∀ w', Below w6.heap.size w6 w' → w'.cell? ⟨w.heap.size, 0, none⟩ = some (.pointer (some ⟨b, 0, none⟩)) ∧ w'.cell? ⟨w2.heap.size, 0, none⟩ = some (.string ⟨N.toArray⟩)) := fun w' hb' => ⟨(KC.out w' (KW.out w' hb')).2.2.1, (KC.out w' (KW.out w' hb')).2.2.2.2.1⟩
  obtain ⟨L6, hL6⟩ : ∃ L6, (frame body).length = L6 := ⟨_, rfl⟩
  rw [hL6] at RM hfl NV hf ⊢
  have HL6 := keep hL6
  clear hL6
  rw [wpIn_wide]
  go_region_held3 (fun w' => w'.cell? ⟨w.heap.size, 0, none⟩ = some (.pointer (some ⟨b, 0, none⟩)) ∧ w'.cell? ⟨w2.heap.size, 0, none⟩ = some (.string ⟨N.toArray⟩))
    (first | exact KS.out _ (Below.refl _ _) | exact KS.out _ (Below.refl _ _).drew | exact KS.out _ b7.out | exact KS.out _ b7.out.drew | exact KS.out _ b8.out | exact KS.out _ b8.out.drew)
    (first
      | (go_at_call 52; refine (FM.out _ (by first | exact Below.refl _ _ | exact (Below.refl _ _).drew)).mono ?_; rintro e w7 ⟨rfl, hb7⟩; have b7 := keep hb7; clear hb7)
      | (go_at_call 53; refine (RM.out _ (by first | exact b7.out | exact b7.out.drew)).mono ?_; rintro e w8 ⟨rfl, hb8⟩; have b8 := keep hb8; clear hb8))
  obtain ⟨bel8, x8, x80, x81, x82, x83⟩ := KC.out w8 (KW.out w8 b8.out)
  have M8 := keep x8
  have BL8 := keep bel8
  clear x8 bel8 x60 x61 x62 x63 M6
  gi_wp2_with fail
  refine ⟨trivial, ?_⟩
  refine (chunks_in Fence.wide 7 trivial rfl a6 L6 k6 w8).mono ?_
  rintro e w9 ⟨rfl, hw9⟩
  have b9 : Hid (Below w8.heap.size w8 w9) := by rw [hw9]; exact (Below.refl _ _).alloc (Nat.le_refl _) _
  have q9 : Hid (w9.cell? ⟨w8.heap.size, 0, none⟩ = some (.slice a6 L6 k6) ∧ w9.heap.size = w8.heap.size + 1) := by
    rw [hw9]
    exact ⟨cell_of_row _ _ _ _ _ _ (heap_alloc_new w8 _), by simp⟩
  clear hw9
  obtain ⟨bel9, x9, x90, x91, x92, x93⟩ := KC.out w9 (KW.out w9 (b8.out.trans (b9.out.mono b8.out.size)))
  clear x80 x81 x82 x83
  have sz9 : Hid (w.heap.size + 2 ≤ w2.heap.size ∧ w2.heap.size < w9.heap.size) := ⟨sz3.out.1, Nat.lt_of_lt_of_le sz3.out.2 (KW.out w9 (b8.out.trans (b9.out.mono b8.out.size))).size⟩
  obtain ⟨g0, hg0, hrow⟩ : ∃ g0, a6 = some ⟨g0, 0, none⟩ ∧ w9.ownsRow w.heap.size 5 1 (.slice a6 L6 k6) L6 (bv (frame body)) := by
    have h1 : w9.ownsRow w5.heap.size 5 1 (.slice a6 L6 k6) L6 (bv (frame body)) := own_block NV.out.1 (fun g hg => (b8.out.trans (b9.out.mono b8.out.size)).block g (own_size NV.out.1 hg))
    have h2 := own_base (B' := w.heap.size) h1 (fun g hg => Nat.le_trans BL5.out.size (h1.lt g hg).1)
    have h3 := num_pos body.length
    have h4 := frame_length body
    have h5 := HL6.out
    rcases h2.2 with ⟨e, _⟩ | ⟨g, cap, cur, e, _⟩
    · cases e; omega
    · cases e; exact ⟨g, rfl, h2⟩
  subst hg0
  have hk6' : L6 ≤ k6 := by have := NV.out.1; rcases this.2 with ⟨e, _⟩ | ⟨g, cap, cur, e, _, _, h, _⟩ <;> cases e <;> omega
  have FRL : Hid ((frame body).length = L6) := HL6.out
  obtain ⟨fr, hfr⟩ : ∃ fr, frame body = fr := ⟨_, rfl⟩
  rw [hfr] at hrow FRL
  have HFR := keep hfr
  obtain ⟨m', l', left', hm'⟩ := HO.out.mem
  obtain ⟨hfit, hsub⟩ := hm'.fit
  have hf9 := hfit.below bel9
  have L0 : Hid (Lay U w0 m' b w.heap.size (w.heap.size + 1) w2.heap.size w.heap.size w9.heap.size N (.slice (some ⟨g0, 0, none⟩) L6 k6) fr (.int .i64 0) d (Fit m' l') w9) := by
    have hz := sz9.out
    have hz3 := sz3.out
    have hB9 := KW.out w9 (b8.out.trans (b9.out.mono b8.out.size))
    refine ⟨⟨l', left', hf9⟩, fun g hg hne => ?_, fun g hg => .inl (hm'.lt g (hsub g hg)), fun g hg => HO.out.news g (hsub g hg), HO.out.at_, HO.out.bel.trans (Kept.of_below bel9), by rw [FRL.out]; exact hrow, fun g hg => own_size hrow hg, (hB9.block _ (by omega)).trans q0.out, (hB9.block _ (by omega)).trans q1.out, (hB9.block _ sz3.out.2).trans q2.out, Nat.le_refl _, bel9.size, hm'.lt m' hm'.foot.mine, hm'.box.lt, by have := HO.out.bel.size; omega⟩
    rcases hg with rfl | ⟨x, hx, hg⟩
    · exact absurd rfl hne
    · obtain ⟨cur, hc⟩ := rel_tag hf9.rel x hx g hg
      exact ⟨_, _, _, hc⟩
  have HQ9 := keep q9.out.1
  have HS9 := keep q9.out.2
  clear hf9 hfit hsub hm' hrow x9 x90 x91 x92 x93 bel9 NV hW3
  gi_wp2_with fail
  refine wpIn_rangeFunc_ownG (α := Nat) (F := Fence.wide) rfl (by decide) (gf := 93) (lb := #[.pointer (some ⟨w8.heap.size, 0, none⟩)]) rfl trivial (enters_of Tryz.func93 (by kernel_rfl) rfl)
    (chunks_stops Fence.wide 7 trivial rfl (by decide) w8.heap.size g0 0 L6 k6 hk6' hk6 w9 (by rw [HS9.out]; omega) HQ9.out) (fun _ _ => trivial) (fun _ _ _ _ _ _ _ _ => trivial) (Below.refl _ _) (fun _ => rfl)
    (fun pre W => ∃ S' D, adds d N (pre.map (chunkOf fr)) = (0, D) ∧ Lay U w0 m' b w.heap.size (w.heap.size + 1) w2.heap.size w.heap.size w9.heap.size N (.slice (some ⟨g0, 0, none⟩) L6 k6) fr (.int .i64 0) D S' W)
    (fun c pre W => c = .ret ∧ ∃ S' E D, E ≠ 0 ∧ adds d N (pre.map (chunkOf fr)) = (E, D) ∧ Lay U w0 m' b w.heap.size (w.heap.size + 1) w2.heap.size w.heap.size w9.heap.size N (.slice (some ⟨g0, 0, none⟩) L6 k6) fr (.int .i64 (E : Int)) D S' W)
    (fun pre W W' row h hg hr => by obtain ⟨S', D, h1, h2⟩ := h; exact ⟨S', D, h1, h2.turn hg hr⟩)
    (fun c pre W W' row h hg hr => by obtain ⟨h0, S', E, D, h1, h2, h3⟩ := h; exact ⟨h0, S', E, D, h1, h2, h3.turn hg hr⟩)
    ⟨Fit m' l', d, rfl, L0.out⟩ (fun x => { tmps := #[.pointer (some ⟨b, 0, none⟩), .int .i64 n, .slice ao m c, .pointer (some ⟨w.heap.size, 0, none⟩), undef, undef, .pointer (some ⟨w.heap.size + 1, 0, none⟩), .pointer (some ⟨w2.heap.size, 0, none⟩), .slice (some ⟨g0, 0, none⟩) L6 k6, chunkv g0 0 L6 k6 x, undef, .int .i64 n, .string ⟨N.toArray⟩, .string ⟨N.toArray⟩, .bool false, .bool false, .slice ao m c, .int .i64 (m : Int), .bool (decide ((1048576 : Int) < (m : Int))), .bool (decide ((1048576 : Int) < (m : Int))), .bool (decide ((1048576 : Int) < (m : Int))), .pointer (some ⟨b, 0, none⟩), .string ⟨N.toArray⟩, .bool false, .bool (decide ((1048576 : Int) < (m : Int))), .pointer (some ⟨b, 0, none⟩), .bool false, .slice ao m c, .slice (some ⟨g0, 0, none⟩) L6 k6, .pointer (some ⟨b, 0, none⟩), .int .i64 ((d.cap : Int) - (Dk.used d.files : Int)), .pointer (some ⟨b, 0, none⟩), .string ⟨N.toArray⟩, .slice (some ⟨g0, 0, none⟩) L6 k6, .int .i64 (roomOf d N L6 : Int), .bool (decide ((d.cap : Int) - (Dk.used d.files : Int) < (roomOf d N L6 : Int))), .slice (some ⟨g0, 0, none⟩) L6 k6, .func (.func 93) #[] #[.pointer (some ⟨w8.heap.size, 0, none⟩)], chunkv g0 0 L6 k6 x, undef, undef, undef, undef, undef, undef, undef, undef, undef, undef], defers := [] }) ?assign ?body ?done ?stop
  case assign =>
    intro l x W K hK
    gi_wp2
    exact hK
  case body =>
    rintro l pre x W ⟨S', D, hA, hL⟩ hlt
    obtain ⟨l2, left2, hm2⟩ := hL.mem
    have hcl : (chunkOf fr x).length = min (L6 - x * 4096) 4096 := by
      unfold chunkOf
      rw [List.length_take, List.length_drop, FRL.out, Nat.min_comm]
    have e : chunkv g0 0 L6 k6 x = .slice (some ⟨g0, x * 4096, none⟩) (chunkOf fr x).length (k6 - x * 4096) := by unfold chunkv; rw [hcl, Nat.zero_add]
    have hsrc : Steady (Go.Proofs.YtohnfogdalnilaaGreatDoor.mine S' b) W fun w => Src w (some ⟨g0, x * 4096, none⟩) (chunkOf fr x).length (k6 - x * 4096) (chunkOf fr x) := fun w' hk => by
      have h1 := own_block hL.row (fun g hgg => hk.block g (own_size hL.row hgg) (hL.aside (hL.row.lt g hgg).1 (hL.rowl g hgg)))
      obtain ⟨ao', c', e', h2, _⟩ := Src.of_own h1
      rw [FRL.out] at e' h2
      cases e'
      rcases Nat.lt_or_ge L6 (x * 4096) with h3 | h3
      · have h4 : chunkOf fr x = [] := by unfold chunkOf; rw [List.drop_of_length_le (by rw [FRL.out]; omega)]; rfl
        rw [h4]
        exact Src.none_of rfl (fun e => by cases e)
      · have h4 := h2.tailS (x * 4096) h3
        rw [Nat.zero_add] at h4
        have h5 := h4.head (min (L6 - x * 4096) 4096) (Nat.min_le_left _ _)
        rw [hcl]
        have h6 : (fr.drop (x * 4096)).take (min (L6 - x * 4096) 4096) = chunkOf fr x := by
          unfold chunkOf
          rcases Nat.le_total (L6 - x * 4096) 4096 with h7 | h7
          · rw [Nat.min_eq_left h7, List.take_of_length_le (by rw [List.length_drop, FRL.out]; omega), List.take_of_length_le (by rw [List.length_drop, FRL.out]; exact h7)]
          · rw [Nat.min_eq_right h7]
        rw [h6] at h5
        exact h5
    have hdD : D.done ≤ 4611686018427387904 := by
      have h1 := adds_done N (pre.map (chunkOf fr)) d
      rw [hA, List.length_map] at h1
      unfold chunkCount at hlt
      simp only at h1
      omega
    have AP := append_rawM S' b D N (chunkOf fr x) (some ⟨g0, x * 4096, none⟩) (k6 - x * 4096) W m' l2 left2 hm2 (by rw [hnl.out]; unfold maxLen; omega) hsrc hdD []
    have y0 : W.cell? ⟨w.heap.size, 0, none⟩ = some (.pointer (some ⟨b, 0, none⟩)) := cell_of_row _ _ _ _ _ _ hL.cd
    have y2 : W.cell? ⟨w2.heap.size, 0, none⟩ = some (.string ⟨N.toArray⟩) := cell_of_row _ _ _ _ _ _ hL.cn
    have HL := keep hL
    have HA := keep hA
    rw [hcl] at AP
    have HAP := keep AP
    have HCL := keep hcl
    rw [e]
    clear hL hA AP hsrc hm2 e hlt hdD
    gi_wp2_with fail
    refine ⟨trivial, ?_⟩
    refine (CallsIn.inRound l (callsIn_wide.2 HAP.out)).mono ?_
    intro e W2 hr
    obtain ⟨rfl, hkf, S2, hL2⟩ := HL.out.raw hr
    have hsn : Hid (adds d N ((pre ++ [x]).map (chunkOf fr)) = Dk.raw D 0 N [] (chunkOf fr x)) := by
      show _ = _
      rw [List.map_append, List.map_cons, List.map_nil, adds_snoc, HA.out]
      rfl
    have KF := keep hkf
    have HL2 := keep hL2
    obtain ⟨X, hX⟩ : ∃ X, Dk.raw D 0 N [] (chunkOf fr x) = X := ⟨_, rfl⟩
    rw [hX] at hsn HL2 ⊢
    obtain ⟨E, D2⟩ := X
    simp only at HL2 ⊢
    clear hr hkf hL2 hX HAP
    by_cases hE : E = 0
    · subst hE
      gi_wp2
      exact ⟨KF.out, trivial, S2, D2, hsn.out, HL2.out⟩
    · have hE1 : ((E : Int) == 0) = false := by rw [beq_eq_false_iff_ne]; omega
      have z1 : W2.cell? ⟨w.heap.size + 1, 0, none⟩ = some (.int .i64 0) := HL2.out.answered
      have z2 : W2.frozen? ⟨w.heap.size + 1, 0, none⟩ = false := by simp [World.frozen?, HL2.out.cr]
      have HE := keep hE
      clear hE
      gi_wp2
      exact ⟨KF.out.trans ((KeepsOthers.setCell W2 ⟨w.heap.size + 1, 0, none⟩ (.int .i64 (E : Int))).from _), rfl, S2, E, D2, HE.out, hsn.out, HL2.out.answer _⟩
  case done =>
    rintro K ys W hD rfl ⟨S', D, hA, hL⟩ hK
    have y0 : W.cell? ⟨w.heap.size, 0, none⟩ = some (.pointer (some ⟨b, 0, none⟩)) := cell_of_row _ _ _ _ _ _ hL.cd
    have y2 : W.cell? ⟨w2.heap.size, 0, none⟩ = some (.string ⟨N.toArray⟩) := cell_of_row _ _ _ _ _ _ hL.cn
    have hdD : D.done ≤ 4611686018427387904 := by
      have h1 := adds_done N ((List.range (chunkCount L6)).map (chunkOf fr)) d
      rw [hA, List.length_map, List.length_range] at h1
      unfold chunkCount at h1
      simp only at h1
      omega
    obtain ⟨l2, left2, hm2⟩ := hL.mem
    have SY := sync_raw S' b D N W ⟨m', l2, left2, hm2⟩ (by rw [hnl.out]; unfold maxLen; omega) hdD [] []
    have HSY := keep SY
    have HL := keep hL
    have HA := keep hA
    have HK := keep hK
    have HD := keep hD
    clear hL hA hK hD SY hm2
    gi_wp2_with fail
    refine ⟨trivial, ?_⟩
    refine (callsIn_wide.2 HSY.out).mono ?_
    intro e W2 hr
    have hr1 := hr.1
    subst hr1
    have hgo : Hid (walGo d N (frame body) = Dk.raw D 1 N [] []) := walGo_last (by
      unfold chunksOf
      rw [HFR.out, FRL.out]
      exact HA.out)
    obtain ⟨z1, z2, z3, z4, z5⟩ := HL.out.last HD.out HK.out hr (.int .i64 ((Dk.raw D 1 N [] []).1 : Int))
    have Z3 := keep z3
    have Z4 := keep z4
    have Z5 := keep z5
    obtain ⟨X, hX⟩ : ∃ X, Dk.raw D 1 N [] [] = X := ⟨_, rfl⟩
    rw [hX] at Z3 Z4 Z5 hgo ⊢
    clear z3 z4 z5 hr HSY hX
    gi_wp2
    refine ⟨by simp, .inl ⟨_, _, rfl, run_takeDeferred Z3.out, ?_⟩⟩
    refine ⟨.int .i64 (X.1 : Int), ?_, ?_⟩
    · have hc5 := Z4.out
      simp [results, Tryz.f20, go_sem, hc5]
    · rw [hgo.out]
      exact ⟨_, rfl, Z5.out⟩
  case stop =>
    rintro K c pre W hD ⟨k, hk, rfl⟩ ⟨rfl, S', E, D, hE, hA, hL⟩ hK
    have hgo : walGo d N (frame body) = (E, D) := walGo_stop hE (by
      unfold chunksOf
      rw [HFR.out, FRL.out]
      have h1 := adds_stop N (((List.range ((L6 + 4095) / 4096)).drop k).map (chunkOf fr)) hE _ _ hA
      rw [← List.map_append] at h1
      have h2 : List.range k = (List.range ((L6 + 4095) / 4096)).take k := by
        rw [List.take_range, Nat.min_eq_left (show k ≤ (L6 + 4095) / 4096 from hk)]
      rw [h2, List.take_append_drop] at h1
      exact h1)
    obtain ⟨hO, hc5⟩ := hL.stop hD hK
    have HO5 := keep hO
    have HGO := keep hgo
    clear hO hL hA hgo
    gi_wp2
    refine ⟨by simp, .inl ⟨_, _, rfl, run_takeDeferred hK, ?_⟩⟩
    refine ⟨.int .i64 (E : Int), ?_, ?_⟩
    · simp [results, Tryz.f20, go_sem, hc5]
    · rw [HGO.out]
      exact ⟨_, rfl, HO5.out⟩
end Go.Proofs.YtohnfogdalnilaaGreatDoor
