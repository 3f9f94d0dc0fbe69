/- The walk of step: an operation on both disks, the program's and the document's. -/
import Derived.Test.YtfjhfecjbheipaaS0
import Derived.Test.YtfjhfecjbheipaaRc4
import Derived.Test.YtfjhfecjbheipaaAw
import Derived.Test.YtfjhfecjbheipaaOp
namespace Go.Proofs.Ytfjhfecjbheipaa
open Go.RowKit
open Dk (File Disk)
variable {X : World → Prop}

/-- Both disks, made since w0; and what holds whatever is done with them. -/
structure Both (X : World → Prop) (w0 : World) (S : Nat → Prop) (w : World) (b q : Nat) (d r : Disk) : Prop where
  own : Own w0 S w b d
  ref : Ref (Go.Proofs.Ytfjhfecjbheipaa.mine S b) w q r
  at_q : w0.heap.size ≤ q
  side : Steady (beside (Go.Proofs.Ytfjhfecjbheipaa.mine S b) q) w X
theorem Ref.out {F : Nat → Prop} {w : World} {q : Nat} {r : Disk} (h : Ref F w q r) : ¬ F q ∧ q < w.heap.size := by
  obtain ⟨_, _, _, _, h⟩ := h
  exact ⟨h.out, h.box.lt⟩
theorem Both.next {w0 : World} {S : Nat → Prop} {w w' : World} {b q : Nat} {d r : Disk} (h : Both X w0 S w b q d r) (hb : Below w.heap.size w w') : Both X w0 S w' b q d r := by
  obtain ⟨ao, n, c, es, hr⟩ := h.ref
  exact ⟨h.own.next hb, ⟨ao, n, c, es, hr.below hb⟩, h.at_q, h.side.below hb⟩
theorem Both.left {w0 : World} {S : Nat → Prop} {w w' : World} {b q : Nat} {d r : Disk} {x : Nat × Disk} {e : Ending} (h : Both X w0 S w b q d r) (hp : RawPost S w b x e w') : e = .returned (.int .i64 (x.1 : Int)) ∧ Both X w0 (more S w w') w' b q x.2 r := by
  obtain ⟨ao, n, c, es, hr⟩ := h.ref
  have h1 := h.own.raw hp
  refine ⟨h1.1, h1.2, ⟨ao, n, c, es, hr.move hp.2.2 (fun g hg e => ?_) (fun e => ?_) (fun g e => ?_)⟩, h.at_q, h.side.next' (hp.2.2.wide (fun g _ e => .inl e)) (fun g hg e => ?_)⟩
  · rcases e with e | e
    · rcases e with e | e
      · exact .inl e
      · omega
    · exact .inr e
  · have hq := h.ref.out
    rcases e with e | e
    · rcases e with e | e
      · exact hq.1 (.inl e)
      · omega
    · exact hq.1 (.inr e)
  · exact (h1.2.mines g e).2
  · rcases e with e | e
    · rcases e with e | e
      · rcases e with e | e
        · exact .inl (.inl e)
        · omega
      · exact .inl (.inr e)
    · exact .inr e
theorem Both.right {w0 : World} {S : Nat → Prop} {w w' : World} {b q : Nat} {d r : Disk} {x : Nat × Disk} {e : Ending} (h : Both X w0 S w b q d r) (hp : RefPost (Go.Proofs.Ytfjhfecjbheipaa.mine S b) w q x e w') : e = .returned (.int .i64 (x.1 : Int)) ∧ Both X w0 S w' b q d x.2 := by
  have hq := h.ref.out.1
  refine ⟨hp.1, ⟨h.own.mem.kept hp.2.2 (fun g hg e => hq (by rw [← (show g = q from e)]; exact .inl hg)) (fun e => hq (.inr (show b = q from e).symm)), h.own.news, h.own.at_, h.own.bel.trans (hp.2.2.below h.own.bel.size (fun g e => by rw [(show g = q from e)]; exact h.at_q))⟩, hp.2.1, h.at_q, h.side.next (hp.2.2.wide (fun g _ e => .inr e))⟩
theorem Both.steady {w0 : World} {S : Nat → Prop} {w : World} {b q : Nat} {d r : Disk} (h : Both X w0 S w b q d r) {A : World → Prop} (hA : ∀ w', Below w0.heap.size w0 w' → A w') : Steady (Go.Proofs.Ytfjhfecjbheipaa.mine S b) w A ∧ Steady (beside (Go.Proofs.Ytfjhfecjbheipaa.mine S b) q) w A := by
  have hm := fun g hg => (h.own.mines g hg).1
  constructor
  · intro w' hk
    exact hA w' (h.own.bel.trans (hk.below h.own.bel.size hm))
  · intro w' hk
    refine hA w' (h.own.bel.trans (hk.below h.own.bel.size (fun g hg => ?_)))
    rcases hg with hg | hg
    · exact hm g hg
    · rw [hg]; exact h.at_q
/-- An operation on plain files: the answer, and the disk. -/
def opOn (k : Int) (o : OpE) (d : Disk) : (Nat × List UInt8 × Bool) × Disk :=
  if k = 0 ∨ k = 1 then (((Dk.raw d 0 o.a [] o.data).1, [], false), (Dk.raw d 0 o.a [] o.data).2)
  else if k = 2 then (((Dk.raw d 1 o.a [] []).1, [], false), (Dk.raw d 1 o.a [] []).2)
  else if k = 3 then (((Dk.raw d 2 o.a o.b []).1, [], false), (Dk.raw d 2 o.a o.b []).2)
  else if k = 4 then (((Dk.raw d 3 o.a [] []).1, [], false), (Dk.raw d 3 o.a [] []).2)
  else if k = 5 then (((Dk.cut d o.n).1, [], false), (Dk.cut d o.n).2)
  else if k = 6 then ((0, [], false), Dk.crash d (o.picks.map up))
  else (((readOf d.files o.a).1, (readOf d.files o.a).2, (Dk.look d.files o.a).isSome), d)
def tag (what : Int) : Int := bits BinOp.and IntKind.i64 what 7
theorem cut_mem (S : Nat → Prop) (b : Nat) (d : Disk) (z : Int) (w : World) (h : Mem S w b d) (hz : z < 9223372036854775808) :
    Calls Try.prog 36 #[.pointer (some ⟨b, 0, none⟩), .int .i64 z] w fun e w' => RawPost S w b (Dk.cut d z) e w' := by
  obtain ⟨m, l, left, h⟩ := h
  by_cases hn : z < 0
  · refine (cut_neg z hn b m _ left _ _ w h.box).mono ?_
    rintro e w' ⟨rfl, hb⟩
    have e1 : Dk.cut d z = (1, d) := by unfold Dk.cut; rw [if_pos hn]
    rw [e1]
    exact ⟨rfl, h.stay hb⟩
  · refine (cut_box z hn b m _ left _ _ w h.box).mono ?_
    rintro e w' ⟨rfl, hb, hk⟩
    have hne : ∀ g, S g → ¬ At b g := fun g hg e => h.out (by rw [← (show g = b from e)]; exact hg)
    have hg := Dk.cut_good z h.good
    have core : ∀ d' : Disk, d'.cap = d.cap → d'.files = d.files → d'.dark = d.dark → d'.done = d.done → Dk.Good d' → (d'.dark = false → z = leftOf d'.left) → MemAt S w' b m l z d' := by
      intro d' q1 q2 q3 q4 q5 q6
      refine ⟨q5, by rw [q1]; exact h.capb, by rw [q1, q2, q3, q4]; exact hb, h.map.same (hk.block m (h.lt m h.foot.mine) (hne m h.foot.mine)), ?_, h.foot, h.out, fun g hgs => Nat.lt_of_lt_of_le (h.lt g hgs) hk.size, q6, by omega⟩
      rw [q2]
      exact h.rel.turn (fun _ e => e) (fun x hx _ g hgx => hk.block g (h.lt g (h.foot.arrs x hx g hgx).1) (hne g (h.foot.arrs x hx g hgx).1))
    have hM : MemAt S w' b m l z (Dk.cut d z).2 := by
      cases hd : d.dark with
      | true =>
        have e1 : Dk.cut d z = (0, d) := by unfold Dk.cut; rw [if_neg hn, hd]; rfl
        rw [e1] at hg ⊢
        exact core d rfl rfl rfl rfl hg (fun e => by rw [hd] at e; cases e)
      | false =>
        have e1 : Dk.cut d z = (0, { d with left := some z.toNat }) := by unfold Dk.cut; rw [if_neg hn, hd]; rfl
        rw [e1] at hg ⊢
        exact core _ rfl rfl rfl rfl hg (fun _ => by show z = ((z.toNat : Nat) : Int); omega)
    have e2 : (Dk.cut d z).1 = 0 := by unfold Dk.cut; rw [if_neg hn]
    refine ⟨by rw [e2]; rfl, MemAt.grow h.box.lt h.out hM.lt hM (Kept.refl _ _) (hk.wide (fun g _ e => .inr e))⟩

/-- Disk's Read, all its cases. -/
theorem read_mem (S : Nat → Prop) (b : Nat) (d : Disk) (n : List UInt8) (w : World) (h : Mem S w b d) (hn : n.length ≤ maxLen) :
    Calls Try.prog 22 #[.pointer (some ⟨b, 0, none⟩), .string ⟨n.toArray⟩] w fun e w' => ∃ v, e = .returned (.tuple #[v, .int .i64 ((readOf d.files n).1 : Int)]) ∧ New w w' v (readOf d.files n).2.length (readOf d.files n).2 := by
  cases hna : Dk.named n with
  | false =>
    have e1 : readOf d.files n = (1, []) := by unfold readOf; rw [hna]; rfl
    rw [e1]
    refine (read_arg S b d n w h hna).mono ?_
    rintro e w' ⟨rfl, hb⟩
    exact ⟨_, rfl, World.ownsRow_nil _ _ _ _, hb⟩
  | true =>
    cases hx : Dk.look d.files n with
    | none =>
      have e1 : readOf d.files n = (3, []) := by unfold readOf; rw [hna, hx]; rfl
      rw [e1]
      refine (read_none S b d n w h hn hna hx).mono ?_
      rintro e w' ⟨rfl, hb⟩
      exact ⟨_, rfl, World.ownsRow_nil _ _ _ _, hb⟩
    | some f =>
      obtain ⟨nm, sf, fb⟩ := f
      have e1 : readOf d.files n = (0, fb) := by unfold readOf; rw [hna, hx]; rfl
      rw [e1]
      have hfl : fb.length ≤ 140737488355328 := by
        obtain ⟨m, l, left, hM⟩ := h
        have h1 := used_mem (Dk.look_some hx).1
        have h2 := hM.good.room
        have h3 := hM.capb
        simp only [Dk.cost] at h1
        omega
      exact read_some S b d n nm sf fb w h hn hna hx hfl

set_option maxHeartbeats 2000000 in
set_option maxRecDepth 100000 in
theorem step_append0 (w0 : World) (S : Nat → Prop) (w : World) (b q : Nat) (d r : Disk) (o : OpE) (h : Both X w0 S w b q d r) (hh : opKind.held w0 o) (hf : Fine o) (hd0 : d.done ≤ 4611686018427387904) (hr0 : r.done ≤ 4611686018427387904) (hk : tag o.what = 0) :
    Calls Try.prog 8 #[.pointer (some ⟨b, 0, none⟩), .pointer (some ⟨q, 0, none⟩), .agg (opKind.vals o).toArray] w fun e w' => ∃ S' x, e = .returned (.bool x) ∧ (x = true ↔ ((Dk.raw d 0 o.a [] o.data).1) = ((Dk.raw r 0 o.a [] o.data).1)) ∧ Both X w0 S' w' b q ((Dk.raw d 0 o.a [] o.data).2) ((Dk.raw r 0 o.a [] o.data).2) := by
  obtain ⟨wh, z, a, b2, da0, dc0, da, pp, pc, ps⟩ := o
  simp only [opKind]
  obtain ⟨W0, hW⟩ : ∃ W0, w.alloc (.cells #[.int .i64 wh, .int .i64 z, .string ⟨a.toArray⟩, .string ⟨b2.toArray⟩, .slice da0 da.length dc0, .slice pp ps.length pc] 38) = W0 := ⟨_, rfl⟩
  have B0 : Hid (Both X w0 S W0 b q d r) := by rw [← hW]; exact h.next ((Below.refl _ _).alloc (Nat.le_refl _) _)
  have g0 : Hid (W0.heap[w.heap.size]? = some (.cells #[.int .i64 wh, .int .i64 z, .string ⟨a.toArray⟩, .string ⟨b2.toArray⟩, .slice da0 da.length dc0, .slice pp ps.length pc] 38)) := by rw [← hW]; exact heap_alloc_new w _
  have hold : Hid (∀ g, Go.Proofs.Ytfjhfecjbheipaa.mine S b g → g < w.heap.size) := fun g hg => (h.own.mines g hg).2
  have hqw : Hid (q < w.heap.size) := h.ref.out.2
  have HF := keep hf
  have HH := keep hh
  have fo0 := hd0
  have fo1 := hr0
  have c0 := (cell_of_row _ _ _ _ _ _ g0.out : W0.cell? ⟨w.heap.size, 0, none⟩ = some (.int .i64 wh))
  have c1 := (cell_of_row _ _ _ _ _ _ g0.out : W0.cell? ⟨w.heap.size, 1, none⟩ = some (.int .i64 z))
  have c2 := (cell_of_row _ _ _ _ _ _ g0.out : W0.cell? ⟨w.heap.size, 2, none⟩ = some (.string ⟨a.toArray⟩))
  have c3 := (cell_of_row _ _ _ _ _ _ g0.out : W0.cell? ⟨w.heap.size, 3, none⟩ = some (.string ⟨b2.toArray⟩))
  have c4 := (cell_of_row _ _ _ _ _ _ g0.out : W0.cell? ⟨w.heap.size, 4, none⟩ = some (.slice da0 da.length dc0))
  have c5 := (cell_of_row _ _ _ _ _ _ g0.out : W0.cell? ⟨w.heap.size, 5, none⟩ = some (.slice pp ps.length pc))
  clear h hf hh
  have hK : bits BinOp.and IntKind.i64 wh 7 = 0 := hk
  clear hk
  have KEY1 : Hid (∀ e w1, RawPost S W0.drew b (Dk.raw d 0 a [] da) e w1 → ∃ S1, Hid (Both X w0 S1 w1 b q (Dk.raw d 0 a [] da).2 r) ∧ e = .returned (.int .i64 (((Dk.raw d 0 a [] da).1 : Nat) : Int)) ∧ Hid (∀ (o : Nat) (v : Value), W0.cell? ⟨w.heap.size, o, none⟩ = some v → w1.cell? ⟨w.heap.size, o, none⟩ = some v)) := by
    intro e w1 hp
    have h1 := (B0.out.next ((Below.refl W0.heap.size W0).drew)).left hp
    refine ⟨_, h1.2, h1.1, fun o v hc => ?_⟩
    rw [hp.2.2.cell (p := ⟨w.heap.size, o, none⟩) (World.block_lt_of_cell? W0 _ hc) (fun e => by have := hold.out _ e; simp at this)]
    exact hc
  have C1 := keep (append_raw S b d a da da0 dc0 W0.drew (B0.out.next ((Below.refl W0.heap.size W0).drew)).own.mem HF.out.a ((B0.out.next ((Below.refl W0.heap.size W0).drew)).steady (fun w' hb => (HH.out.1 : Src w0 da0 da.length dc0 da).below hb)).1 fo0 [])
  go_enter Try.func8, Try.ntmps8
  go_wp2_with fail
  clear hW
  go_region_held3 (fun w' => w'.cell? ⟨w.heap.size, 2, none⟩ = some (.string ⟨a.toArray⟩) ∧ w'.cell? ⟨w.heap.size, 4, none⟩ = some (.slice da0 da.length dc0)) (first | go_keep | exact ⟨K1.out _ _ c2, K1.out _ _ c4⟩ | exact ⟨K2.out _ _ (K1.out _ _ c2), K2.out _ _ (K1.out _ _ c4)⟩)
    (first
      | (go_at_call 19; refine C1.out.mono ?_; intro e w1 hp; obtain ⟨S1, B1, rfl, K1⟩ := KEY1.out e w1 hp; clear hp)
      | (go_at_call 30; refine (rappend_raw (Go.Proofs.Ytfjhfecjbheipaa.mine S1 b) q r a da da0 dc0 _ B1.out.ref (B1.out.steady (fun w' hb => (HH.out.1 : Src w0 da0 da.length dc0 da).below hb)).2 fo1 []).mono ?_; intro e w2 hp; obtain ⟨he2, hb2⟩ := B1.out.right hp; subst he2; have B2 := keep hb2; have K2 : Hid (∀ (o : Nat) (v : Value), w1.cell? ⟨w.heap.size, o, none⟩ = some v → w2.cell? ⟨w.heap.size, o, none⟩ = some v) := (fun o v hc => (by rw [hp.2.2.cell (p := ⟨w.heap.size, o, none⟩) (World.block_lt_of_cell? w1 _ hc) (fun e => by have h1 : w.heap.size = q := e; have h2 := hqw.out; omega)]; exact hc)); clear hp hb2))
  go_wp2
  go_ret
  exact ⟨S1, _, rfl, by rw [beq_iff_eq]; omega, B2.out⟩
set_option maxHeartbeats 2000000 in
set_option maxRecDepth 100000 in
theorem step_append1 (w0 : World) (S : Nat → Prop) (w : World) (b q : Nat) (d r : Disk) (o : OpE) (h : Both X w0 S w b q d r) (hh : opKind.held w0 o) (hf : Fine o) (hd0 : d.done ≤ 4611686018427387904) (hr0 : r.done ≤ 4611686018427387904) (hk : tag o.what = 1) :
    Calls Try.prog 8 #[.pointer (some ⟨b, 0, none⟩), .pointer (some ⟨q, 0, none⟩), .agg (opKind.vals o).toArray] w fun e w' => ∃ S' x, e = .returned (.bool x) ∧ (x = true ↔ ((Dk.raw d 0 o.a [] o.data).1) = ((Dk.raw r 0 o.a [] o.data).1)) ∧ Both X w0 S' w' b q ((Dk.raw d 0 o.a [] o.data).2) ((Dk.raw r 0 o.a [] o.data).2) := by
  obtain ⟨wh, z, a, b2, da0, dc0, da, pp, pc, ps⟩ := o
  simp only [opKind]
  obtain ⟨W0, hW⟩ : ∃ W0, w.alloc (.cells #[.int .i64 wh, .int .i64 z, .string ⟨a.toArray⟩, .string ⟨b2.toArray⟩, .slice da0 da.length dc0, .slice pp ps.length pc] 38) = W0 := ⟨_, rfl⟩
  have B0 : Hid (Both X w0 S W0 b q d r) := by rw [← hW]; exact h.next ((Below.refl _ _).alloc (Nat.le_refl _) _)
  have g0 : Hid (W0.heap[w.heap.size]? = some (.cells #[.int .i64 wh, .int .i64 z, .string ⟨a.toArray⟩, .string ⟨b2.toArray⟩, .slice da0 da.length dc0, .slice pp ps.length pc] 38)) := by rw [← hW]; exact heap_alloc_new w _
  have hold : Hid (∀ g, Go.Proofs.Ytfjhfecjbheipaa.mine S b g → g < w.heap.size) := fun g hg => (h.own.mines g hg).2
  have hqw : Hid (q < w.heap.size) := h.ref.out.2
  have HF := keep hf
  have HH := keep hh
  have fo0 := hd0
  have fo1 := hr0
  have c0 := (cell_of_row _ _ _ _ _ _ g0.out : W0.cell? ⟨w.heap.size, 0, none⟩ = some (.int .i64 wh))
  have c1 := (cell_of_row _ _ _ _ _ _ g0.out : W0.cell? ⟨w.heap.size, 1, none⟩ = some (.int .i64 z))
  have c2 := (cell_of_row _ _ _ _ _ _ g0.out : W0.cell? ⟨w.heap.size, 2, none⟩ = some (.string ⟨a.toArray⟩))
  have c3 := (cell_of_row _ _ _ _ _ _ g0.out : W0.cell? ⟨w.heap.size, 3, none⟩ = some (.string ⟨b2.toArray⟩))
  have c4 := (cell_of_row _ _ _ _ _ _ g0.out : W0.cell? ⟨w.heap.size, 4, none⟩ = some (.slice da0 da.length dc0))
  have c5 := (cell_of_row _ _ _ _ _ _ g0.out : W0.cell? ⟨w.heap.size, 5, none⟩ = some (.slice pp ps.length pc))
  clear h hf hh
  have hK : bits BinOp.and IntKind.i64 wh 7 = 1 := hk
  clear hk
  have KEY1 : Hid (∀ e w1, RawPost S W0.drew b (Dk.raw d 0 a [] da) e w1 → ∃ S1, Hid (Both X w0 S1 w1 b q (Dk.raw d 0 a [] da).2 r) ∧ e = .returned (.int .i64 (((Dk.raw d 0 a [] da).1 : Nat) : Int)) ∧ Hid (∀ (o : Nat) (v : Value), W0.cell? ⟨w.heap.size, o, none⟩ = some v → w1.cell? ⟨w.heap.size, o, none⟩ = some v)) := by
    intro e w1 hp
    have h1 := (B0.out.next ((Below.refl W0.heap.size W0).drew)).left hp
    refine ⟨_, h1.2, h1.1, fun o v hc => ?_⟩
    rw [hp.2.2.cell (p := ⟨w.heap.size, o, none⟩) (World.block_lt_of_cell? W0 _ hc) (fun e => by have := hold.out _ e; simp at this)]
    exact hc
  have C1 := keep (append_raw S b d a da da0 dc0 W0.drew (B0.out.next ((Below.refl W0.heap.size W0).drew)).own.mem HF.out.a ((B0.out.next ((Below.refl W0.heap.size W0).drew)).steady (fun w' hb => (HH.out.1 : Src w0 da0 da.length dc0 da).below hb)).1 fo0 [])
  go_enter Try.func8, Try.ntmps8
  go_wp2_with fail
  clear hW
  go_region_held3 (fun w' => w'.cell? ⟨w.heap.size, 2, none⟩ = some (.string ⟨a.toArray⟩) ∧ w'.cell? ⟨w.heap.size, 4, none⟩ = some (.slice da0 da.length dc0)) (first | go_keep | exact ⟨K1.out _ _ c2, K1.out _ _ c4⟩ | exact ⟨K2.out _ _ (K1.out _ _ c2), K2.out _ _ (K1.out _ _ c4)⟩)
    (first
      | (go_at_call 19; refine C1.out.mono ?_; intro e w1 hp; obtain ⟨S1, B1, rfl, K1⟩ := KEY1.out e w1 hp; clear hp)
      | (go_at_call 30; refine (rappend_raw (Go.Proofs.Ytfjhfecjbheipaa.mine S1 b) q r a da da0 dc0 _ B1.out.ref (B1.out.steady (fun w' hb => (HH.out.1 : Src w0 da0 da.length dc0 da).below hb)).2 fo1 []).mono ?_; intro e w2 hp; obtain ⟨he2, hb2⟩ := B1.out.right hp; subst he2; have B2 := keep hb2; have K2 : Hid (∀ (o : Nat) (v : Value), w1.cell? ⟨w.heap.size, o, none⟩ = some v → w2.cell? ⟨w.heap.size, o, none⟩ = some v) := (fun o v hc => (by rw [hp.2.2.cell (p := ⟨w.heap.size, o, none⟩) (World.block_lt_of_cell? w1 _ hc) (fun e => by have h1 : w.heap.size = q := e; have h2 := hqw.out; omega)]; exact hc)); clear hp hb2))
  go_wp2
  go_ret
  exact ⟨S1, _, rfl, by rw [beq_iff_eq]; omega, B2.out⟩
set_option maxHeartbeats 2000000 in
set_option maxRecDepth 100000 in
theorem step_sync (w0 : World) (S : Nat → Prop) (w : World) (b q : Nat) (d r : Disk) (o : OpE) (h : Both X w0 S w b q d r) (hh : opKind.held w0 o) (hf : Fine o) (hd0 : d.done ≤ 4611686018427387904) (hr0 : r.done ≤ 4611686018427387904) (hk : tag o.what = 2) :
    Calls Try.prog 8 #[.pointer (some ⟨b, 0, none⟩), .pointer (some ⟨q, 0, none⟩), .agg (opKind.vals o).toArray] w fun e w' => ∃ S' x, e = .returned (.bool x) ∧ (x = true ↔ ((Dk.raw d 1 o.a [] []).1) = ((Dk.raw r 1 o.a [] []).1)) ∧ Both X w0 S' w' b q ((Dk.raw d 1 o.a [] []).2) ((Dk.raw r 1 o.a [] []).2) := by
  obtain ⟨wh, z, a, b2, da0, dc0, da, pp, pc, ps⟩ := o
  simp only [opKind]
  obtain ⟨W0, hW⟩ : ∃ W0, w.alloc (.cells #[.int .i64 wh, .int .i64 z, .string ⟨a.toArray⟩, .string ⟨b2.toArray⟩, .slice da0 da.length dc0, .slice pp ps.length pc] 38) = W0 := ⟨_, rfl⟩
  have B0 : Hid (Both X w0 S W0 b q d r) := by rw [← hW]; exact h.next ((Below.refl _ _).alloc (Nat.le_refl _) _)
  have g0 : Hid (W0.heap[w.heap.size]? = some (.cells #[.int .i64 wh, .int .i64 z, .string ⟨a.toArray⟩, .string ⟨b2.toArray⟩, .slice da0 da.length dc0, .slice pp ps.length pc] 38)) := by rw [← hW]; exact heap_alloc_new w _
  have hold : Hid (∀ g, Go.Proofs.Ytfjhfecjbheipaa.mine S b g → g < w.heap.size) := fun g hg => (h.own.mines g hg).2
  have hqw : Hid (q < w.heap.size) := h.ref.out.2
  have HF := keep hf
  have HH := keep hh
  have fo0 := hd0
  have fo1 := hr0
  have c0 := (cell_of_row _ _ _ _ _ _ g0.out : W0.cell? ⟨w.heap.size, 0, none⟩ = some (.int .i64 wh))
  have c1 := (cell_of_row _ _ _ _ _ _ g0.out : W0.cell? ⟨w.heap.size, 1, none⟩ = some (.int .i64 z))
  have c2 := (cell_of_row _ _ _ _ _ _ g0.out : W0.cell? ⟨w.heap.size, 2, none⟩ = some (.string ⟨a.toArray⟩))
  have c3 := (cell_of_row _ _ _ _ _ _ g0.out : W0.cell? ⟨w.heap.size, 3, none⟩ = some (.string ⟨b2.toArray⟩))
  have c4 := (cell_of_row _ _ _ _ _ _ g0.out : W0.cell? ⟨w.heap.size, 4, none⟩ = some (.slice da0 da.length dc0))
  have c5 := (cell_of_row _ _ _ _ _ _ g0.out : W0.cell? ⟨w.heap.size, 5, none⟩ = some (.slice pp ps.length pc))
  clear h hf hh
  have hK : bits BinOp.and IntKind.i64 wh 7 = 2 := hk
  clear hk
  have KEY1 : Hid (∀ e w1, RawPost S W0.drew b (Dk.raw d 1 a [] []) e w1 → ∃ S1, Hid (Both X w0 S1 w1 b q (Dk.raw d 1 a [] []).2 r) ∧ e = .returned (.int .i64 (((Dk.raw d 1 a [] []).1 : Nat) : Int)) ∧ Hid (∀ (o : Nat) (v : Value), W0.cell? ⟨w.heap.size, o, none⟩ = some v → w1.cell? ⟨w.heap.size, o, none⟩ = some v)) := by
    intro e w1 hp
    have h1 := (B0.out.next ((Below.refl W0.heap.size W0).drew)).left hp
    refine ⟨_, h1.2, h1.1, fun o v hc => ?_⟩
    rw [hp.2.2.cell (p := ⟨w.heap.size, o, none⟩) (World.block_lt_of_cell? W0 _ hc) (fun e => by have := hold.out _ e; simp at this)]
    exact hc
  have C1 := keep (sync_raw S b d a W0.drew (B0.out.next ((Below.refl W0.heap.size W0).drew)).own.mem HF.out.a fo0 [] [])
  go_enter Try.func8, Try.ntmps8
  go_wp2_with fail
  clear hW
  go_region_held3 (fun w' => w'.cell? ⟨w.heap.size, 2, none⟩ = some (.string ⟨a.toArray⟩)) (first | go_keep | exact K1.out _ _ c2 | exact K2.out _ _ (K1.out _ _ c2))
    (first
      | (go_at_call 20; refine C1.out.mono ?_; intro e w1 hp; obtain ⟨S1, B1, rfl, K1⟩ := KEY1.out e w1 hp; clear hp)
      | (go_at_call 31; refine (rsync_raw (Go.Proofs.Ytfjhfecjbheipaa.mine S1 b) q r a _ B1.out.ref fo1 [] []).mono ?_; intro e w2 hp; obtain ⟨he2, hb2⟩ := B1.out.right hp; subst he2; have B2 := keep hb2; have K2 : Hid (∀ (o : Nat) (v : Value), w1.cell? ⟨w.heap.size, o, none⟩ = some v → w2.cell? ⟨w.heap.size, o, none⟩ = some v) := (fun o v hc => (by rw [hp.2.2.cell (p := ⟨w.heap.size, o, none⟩) (World.block_lt_of_cell? w1 _ hc) (fun e => by have h1 : w.heap.size = q := e; have h2 := hqw.out; omega)]; exact hc)); clear hp hb2))
  go_wp2
  go_ret
  exact ⟨S1, _, rfl, by rw [beq_iff_eq]; omega, B2.out⟩
set_option maxHeartbeats 2000000 in
set_option maxRecDepth 100000 in
theorem step_rename (w0 : World) (S : Nat → Prop) (w : World) (b q : Nat) (d r : Disk) (o : OpE) (h : Both X w0 S w b q d r) (hh : opKind.held w0 o) (hf : Fine o) (hd0 : d.done ≤ 4611686018427387904) (hr0 : r.done ≤ 4611686018427387904) (hk : tag o.what = 3) :
    Calls Try.prog 8 #[.pointer (some ⟨b, 0, none⟩), .pointer (some ⟨q, 0, none⟩), .agg (opKind.vals o).toArray] w fun e w' => ∃ S' x, e = .returned (.bool x) ∧ (x = true ↔ ((Dk.raw d 2 o.a o.b []).1) = ((Dk.raw r 2 o.a o.b []).1)) ∧ Both X w0 S' w' b q ((Dk.raw d 2 o.a o.b []).2) ((Dk.raw r 2 o.a o.b []).2) := by
  obtain ⟨wh, z, a, b2, da0, dc0, da, pp, pc, ps⟩ := o
  simp only [opKind]
  obtain ⟨W0, hW⟩ : ∃ W0, w.alloc (.cells #[.int .i64 wh, .int .i64 z, .string ⟨a.toArray⟩, .string ⟨b2.toArray⟩, .slice da0 da.length dc0, .slice pp ps.length pc] 38) = W0 := ⟨_, rfl⟩
  have B0 : Hid (Both X w0 S W0 b q d r) := by rw [← hW]; exact h.next ((Below.refl _ _).alloc (Nat.le_refl _) _)
  have g0 : Hid (W0.heap[w.heap.size]? = some (.cells #[.int .i64 wh, .int .i64 z, .string ⟨a.toArray⟩, .string ⟨b2.toArray⟩, .slice da0 da.length dc0, .slice pp ps.length pc] 38)) := by rw [← hW]; exact heap_alloc_new w _
  have hold : Hid (∀ g, Go.Proofs.Ytfjhfecjbheipaa.mine S b g → g < w.heap.size) := fun g hg => (h.own.mines g hg).2
  have hqw : Hid (q < w.heap.size) := h.ref.out.2
  have HF := keep hf
  have HH := keep hh
  have fo0 := hd0
  have fo1 := hr0
  have c0 := (cell_of_row _ _ _ _ _ _ g0.out : W0.cell? ⟨w.heap.size, 0, none⟩ = some (.int .i64 wh))
  have c1 := (cell_of_row _ _ _ _ _ _ g0.out : W0.cell? ⟨w.heap.size, 1, none⟩ = some (.int .i64 z))
  have c2 := (cell_of_row _ _ _ _ _ _ g0.out : W0.cell? ⟨w.heap.size, 2, none⟩ = some (.string ⟨a.toArray⟩))
  have c3 := (cell_of_row _ _ _ _ _ _ g0.out : W0.cell? ⟨w.heap.size, 3, none⟩ = some (.string ⟨b2.toArray⟩))
  have c4 := (cell_of_row _ _ _ _ _ _ g0.out : W0.cell? ⟨w.heap.size, 4, none⟩ = some (.slice da0 da.length dc0))
  have c5 := (cell_of_row _ _ _ _ _ _ g0.out : W0.cell? ⟨w.heap.size, 5, none⟩ = some (.slice pp ps.length pc))
  clear h hf hh
  have hK : bits BinOp.and IntKind.i64 wh 7 = 3 := hk
  clear hk
  have KEY1 : Hid (∀ e w1, RawPost S W0.drew b (Dk.raw d 2 a b2 []) e w1 → ∃ S1, Hid (Both X w0 S1 w1 b q (Dk.raw d 2 a b2 []).2 r) ∧ e = .returned (.int .i64 (((Dk.raw d 2 a b2 []).1 : Nat) : Int)) ∧ Hid (∀ (o : Nat) (v : Value), W0.cell? ⟨w.heap.size, o, none⟩ = some v → w1.cell? ⟨w.heap.size, o, none⟩ = some v)) := by
    intro e w1 hp
    have h1 := (B0.out.next ((Below.refl W0.heap.size W0).drew)).left hp
    refine ⟨_, h1.2, h1.1, fun o v hc => ?_⟩
    rw [hp.2.2.cell (p := ⟨w.heap.size, o, none⟩) (World.block_lt_of_cell? W0 _ hc) (fun e => by have := hold.out _ e; simp at this)]
    exact hc
  have C1 := keep (rename_raw S b d a b2 W0.drew (B0.out.next ((Below.refl W0.heap.size W0).drew)).own.mem fo0 [])
  go_enter Try.func8, Try.ntmps8
  go_wp2_with fail
  clear hW
  go_region_held3 (fun w' => w'.cell? ⟨w.heap.size, 2, none⟩ = some (.string ⟨a.toArray⟩) ∧ w'.cell? ⟨w.heap.size, 3, none⟩ = some (.string ⟨b2.toArray⟩)) (first | go_keep | exact ⟨K1.out _ _ c2, K1.out _ _ c3⟩ | exact ⟨K2.out _ _ (K1.out _ _ c2), K2.out _ _ (K1.out _ _ c3)⟩)
    (first
      | (go_at_call 32; refine C1.out.mono ?_; intro e w1 hp; obtain ⟨S1, B1, rfl, K1⟩ := KEY1.out e w1 hp; clear hp)
      | (go_at_call 33; refine (rrename_raw (Go.Proofs.Ytfjhfecjbheipaa.mine S1 b) q r a b2 _ B1.out.ref fo1 []).mono ?_; intro e w2 hp; obtain ⟨he2, hb2⟩ := B1.out.right hp; subst he2; have B2 := keep hb2; have K2 : Hid (∀ (o : Nat) (v : Value), w1.cell? ⟨w.heap.size, o, none⟩ = some v → w2.cell? ⟨w.heap.size, o, none⟩ = some v) := (fun o v hc => (by rw [hp.2.2.cell (p := ⟨w.heap.size, o, none⟩) (World.block_lt_of_cell? w1 _ hc) (fun e => by have h1 : w.heap.size = q := e; have h2 := hqw.out; omega)]; exact hc)); clear hp hb2))
  go_wp2
  go_ret
  exact ⟨S1, _, rfl, by rw [beq_iff_eq]; omega, B2.out⟩
set_option maxHeartbeats 2000000 in
set_option maxRecDepth 100000 in
theorem step_remove (w0 : World) (S : Nat → Prop) (w : World) (b q : Nat) (d r : Disk) (o : OpE) (h : Both X w0 S w b q d r) (hh : opKind.held w0 o) (hf : Fine o) (hd0 : d.done ≤ 4611686018427387904) (hr0 : r.done ≤ 4611686018427387904) (hk : tag o.what = 4) :
    Calls Try.prog 8 #[.pointer (some ⟨b, 0, none⟩), .pointer (some ⟨q, 0, none⟩), .agg (opKind.vals o).toArray] w fun e w' => ∃ S' x, e = .returned (.bool x) ∧ (x = true ↔ ((Dk.raw d 3 o.a [] []).1) = ((Dk.raw r 3 o.a [] []).1)) ∧ Both X w0 S' w' b q ((Dk.raw d 3 o.a [] []).2) ((Dk.raw r 3 o.a [] []).2) := by
  obtain ⟨wh, z, a, b2, da0, dc0, da, pp, pc, ps⟩ := o
  simp only [opKind]
  obtain ⟨W0, hW⟩ : ∃ W0, w.alloc (.cells #[.int .i64 wh, .int .i64 z, .string ⟨a.toArray⟩, .string ⟨b2.toArray⟩, .slice da0 da.length dc0, .slice pp ps.length pc] 38) = W0 := ⟨_, rfl⟩
  have B0 : Hid (Both X w0 S W0 b q d r) := by rw [← hW]; exact h.next ((Below.refl _ _).alloc (Nat.le_refl _) _)
  have g0 : Hid (W0.heap[w.heap.size]? = some (.cells #[.int .i64 wh, .int .i64 z, .string ⟨a.toArray⟩, .string ⟨b2.toArray⟩, .slice da0 da.length dc0, .slice pp ps.length pc] 38)) := by rw [← hW]; exact heap_alloc_new w _
  have hold : Hid (∀ g, Go.Proofs.Ytfjhfecjbheipaa.mine S b g → g < w.heap.size) := fun g hg => (h.own.mines g hg).2
  have hqw : Hid (q < w.heap.size) := h.ref.out.2
  have HF := keep hf
  have HH := keep hh
  have fo0 := hd0
  have fo1 := hr0
  have c0 := (cell_of_row _ _ _ _ _ _ g0.out : W0.cell? ⟨w.heap.size, 0, none⟩ = some (.int .i64 wh))
  have c1 := (cell_of_row _ _ _ _ _ _ g0.out : W0.cell? ⟨w.heap.size, 1, none⟩ = some (.int .i64 z))
  have c2 := (cell_of_row _ _ _ _ _ _ g0.out : W0.cell? ⟨w.heap.size, 2, none⟩ = some (.string ⟨a.toArray⟩))
  have c3 := (cell_of_row _ _ _ _ _ _ g0.out : W0.cell? ⟨w.heap.size, 3, none⟩ = some (.string ⟨b2.toArray⟩))
  have c4 := (cell_of_row _ _ _ _ _ _ g0.out : W0.cell? ⟨w.heap.size, 4, none⟩ = some (.slice da0 da.length dc0))
  have c5 := (cell_of_row _ _ _ _ _ _ g0.out : W0.cell? ⟨w.heap.size, 5, none⟩ = some (.slice pp ps.length pc))
  clear h hf hh
  have hK : bits BinOp.and IntKind.i64 wh 7 = 4 := hk
  clear hk
  have KEY1 : Hid (∀ e w1, RawPost S W0.drew b (Dk.raw d 3 a [] []) e w1 → ∃ S1, Hid (Both X w0 S1 w1 b q (Dk.raw d 3 a [] []).2 r) ∧ e = .returned (.int .i64 (((Dk.raw d 3 a [] []).1 : Nat) : Int)) ∧ Hid (∀ (o : Nat) (v : Value), W0.cell? ⟨w.heap.size, o, none⟩ = some v → w1.cell? ⟨w.heap.size, o, none⟩ = some v)) := by
    intro e w1 hp
    have h1 := (B0.out.next ((Below.refl W0.heap.size W0).drew)).left hp
    refine ⟨_, h1.2, h1.1, fun o v hc => ?_⟩
    rw [hp.2.2.cell (p := ⟨w.heap.size, o, none⟩) (World.block_lt_of_cell? W0 _ hc) (fun e => by have := hold.out _ e; simp at this)]
    exact hc
  have C1 := keep (remove_raw S b d a W0.drew (B0.out.next ((Below.refl W0.heap.size W0).drew)).own.mem HF.out.a fo0 [] [])
  go_enter Try.func8, Try.ntmps8
  go_wp2_with fail
  clear hW
  go_region_held3 (fun w' => w'.cell? ⟨w.heap.size, 2, none⟩ = some (.string ⟨a.toArray⟩)) (first | go_keep | exact K1.out _ _ c2 | exact K2.out _ _ (K1.out _ _ c2))
    (first
      | (go_at_call 34; refine C1.out.mono ?_; intro e w1 hp; obtain ⟨S1, B1, rfl, K1⟩ := KEY1.out e w1 hp; clear hp)
      | (go_at_call 35; refine (rremove_raw (Go.Proofs.Ytfjhfecjbheipaa.mine S1 b) q r a _ B1.out.ref fo1 [] []).mono ?_; intro e w2 hp; obtain ⟨he2, hb2⟩ := B1.out.right hp; subst he2; have B2 := keep hb2; have K2 : Hid (∀ (o : Nat) (v : Value), w1.cell? ⟨w.heap.size, o, none⟩ = some v → w2.cell? ⟨w.heap.size, o, none⟩ = some v) := (fun o v hc => (by rw [hp.2.2.cell (p := ⟨w.heap.size, o, none⟩) (World.block_lt_of_cell? w1 _ hc) (fun e => by have h1 : w.heap.size = q := e; have h2 := hqw.out; omega)]; exact hc)); clear hp hb2))
  go_wp2
  go_ret
  exact ⟨S1, _, rfl, by rw [beq_iff_eq]; omega, B2.out⟩
end Go.Proofs.Ytfjhfecjbheipaa
