/- A range over a function that turns memory of its own between the rounds: caller and iterator share one state; no walk. -/
/- All the first time: where an append's row lies; pieces that are asked one after another. -/
/- All the first time: what holds while pieces are asked one after another. -/
/- All the first time: the next entry; the walk of the iterator. -/
/- All the first time: the walk of the iterator, which asks each piece. -/
import Derived.Test.YtjblicgbdecbcaaGreatZQ8j
import Derived.Test.YtjblicgbdecbcaaGreatZB0
import Derived.Test.YtjblicgbdecbcaaGreatZQe
namespace Go.Proofs.YtjblicgbdecbcaaGreat
open Go.RowKit Go.Shelf

/-- The states go from s0, one round each: in state s the iterator hands out enc s, and the round leaves state nx s. -/
theorem rangeFunc_state {F : Fence} {n : Nat} {P : Program} {σ : Type} {g : Operand} {ps : Array Tmp} {assign body : Code} {Q : Exit → Act → World → Prop} {a : Act} {w : World}
    (hro : F.round = none) (h1 : 1 ≤ n) {gf : Nat} {lb : Array Value} (hg : a.eval g = .func (.func gf) #[] lb) (hFg : F.fn gf) (eg : ∀ args w, (callFunc gf args).run P w = .ok (.enter gf args) w)
    (I : σ → World → Prop) (enc : σ → Array Value) (nx : σ → σ) (more fin : σ → Prop) (s0 : σ) (hps : ∀ s, (enc s).size = ps.size)
    (hIa : ∀ s W o, I s W → I s (W.alloc o))
    (hIp : ∀ s W l o o', I s W → w.heap.size ≤ l → W.heap[l]? = some o → o.isCells = false → I s (W.putObj l o'))
    (h0 : I s0 w) (Ax : σ → Act → World → Prop)
    (hAp : ∀ s a' W l o o', Ax s a' W → w.heap.size ≤ l → W.heap[l]? = some o → o.isCells = false → Ax s a' (W.putObj l o'))
    (hseq : ∀ (l : Nat) (Bk : World → Prop), (∀ A B, Bk A → KeepsFrom w.heap.size A B → Bk B) →
      (∀ s W, I s W → more s → Bk W → YieldAt F (n - 1 - 1) P l (enc s) W fun e W' => e = .returned (.bool true) ∧ I (nx s) W' ∧ Bk W') →
      ∀ W, I s0 W → Bk W → CallsIn F (n - 1) P gf (#[.func (.yield l) #[] #[]] ++ lb) W fun e W' => (∃ v, e = .returned v) ∧ ∃ s, fin s ∧ I s W' ∧ Bk W')
    (hassign : ∀ (l : Nat) (s : σ) (W : World) (K : Act → World → Prop), I s W → more s → (∀ a' W', KeepsFrom w.heap.size W W' → I s W' → Ax s a' W' → K a' W') →
      assign.wpIn (F.inRound l) (n - 1 - 1) P (Exit.then K (fun _ _ _ => False)) { tmps := (ps.zip (enc s)).foldl (fun t (p, v) => t.setIfInBounds p v) a.tmps, defers := [] } W)
    (hbody : ∀ (l : Nat) (s : σ) (a' : Act) (W : World), I s W → more s → Ax s a' W → body.wpIn (F.inRound l) (n - 1 - 1) P (OnlyN fun _ W' => KeepsFrom w.heap.size W W' ∧ I (nx s) W') a' W)
    (hdone : ∀ (D : Nat) (s : σ) (W : World), w.heap.size ≤ D → fin s → I s W → W.heap[D]? = some (.deferred (some [])) → Q .normal { a with defers := { target := .collected D, args := #[] } :: a.defers } W) :
    (Code.rangeFunc g ps assign body).wpIn F n P Q a w := by
  refine wpIn_rangeFunc ?_
  intro fn hfn
  rw [hro]
  obtain ⟨rec, hrec⟩ : ∃ rec : LoopState → Loop, rec = fun st => { state := st, pending := none, fn, tmps := a.tmps, params := ps, assign, body, defers := w.heap.size } := ⟨_, rfl⟩
  obtain ⟨W1, hW1⟩ : ∃ W1, (w.alloc (.deferred (some []))).alloc (.loop (rec .ready)) = W1 := ⟨_, rfl⟩
  have hL1 : W1.heap[w.heap.size + 1]? = some (.loop (rec .ready)) := by
    have := World.alloc_heap_new (w.alloc (.deferred (some []))) (.loop (rec .ready))
    rw [World.size_alloc] at this
    rw [← hW1]; exact this
  have hK1 : W1.heap[w.heap.size]? = some (.deferred (some [])) := by
    rw [← hW1]; exact (Below.heap_alloc _ _ _ (by simp)).trans (World.alloc_heap_new w _)
  have hI1 : I s0 W1 := by rw [← hW1]; exact hIa _ _ _ (hIa _ _ _ h0)
  refine ⟨w.heap.size + 1, [{ target := .collected w.heap.size, args := #[] }], W1, { target := .fn (.func gf) lb, args := #[.func (.yield (w.heap.size + 1)) #[] #[]] }, W1, gf,
    #[.func (.yield (w.heap.size + 1)) #[] #[]] ++ lb, W1, ?_, ?_, ?_, ?_, fun _ => h1, ?_⟩
  · rw [← hW1, hrec]; exact run_enterLoop_outer _ _ _ _ _
  · simp only [resolve, hg]
    simp [go_sem]
  · intro f' hf'; simp [Target.leads] at hf'; subst hf'; exact hFg
  · simp [invoke, go_sem, eg]
  · refine (hseq (w.heap.size + 1) (fun W => W.heap[w.heap.size + 1]? = some (.loop (rec .ready)) ∧ W.heap[w.heap.size]? = some (.deferred (some [])))
      (fun A B hA hk => ⟨hk.same _ _ (by omega) hA.1 rfl, hk.same _ _ (Nat.le_refl _) hA.2 rfl⟩) ?_ W1 hI1 ⟨hL1, hK1⟩).mono ?_
    · rintro s W hi hm ⟨hl, hk⟩
      have hy := run_yield (P := P) (args := enc s) hl (by rw [hrec]; exact hps s)
      rw [hrec] at hy
      refine ⟨fn, _, assign, body, hy, roundIn_of_wpIn hfn (hassign _ s W _ hi hm ?_)⟩
      intro a' Wa hka hia hax
      have hla := hka.same _ _ (by omega) hl rfl
      have hkaD := hka.same _ _ (Nat.le_refl _) hk rfl
      have hlt : w.heap.size + 1 < Wa.heap.size := (Array.getElem?_eq_some_iff.1 hla).1
      refine ⟨_, run_beginRound hla (by rw [hrec]), ?_⟩
      have hl2 : (Wa.putObj (w.heap.size + 1) (.loop { rec .ready with state := .busy })).heap[w.heap.size + 1]? = some (.loop { rec .ready with state := .busy }) := World.putObj_heap_same hlt
      have hk2 : (Wa.putObj (w.heap.size + 1) (.loop { rec .ready with state := .busy })).heap[w.heap.size]? = some (.deferred (some [])) := (World.putObj_heap_other (by omega)).trans hkaD
      refine wpIn_mono (hbody _ s a' _ (hIp _ _ _ _ _ hia (by omega) hla rfl) hm (hAp _ _ _ _ _ _ hax (by omega) hla rfl)) ?_
      rintro e a3 W3 hp
      cases e with
      | normal =>
        obtain ⟨hk3, hi3⟩ := hp
        have hl3 := hk3.same _ _ (by omega) hl2 rfl
        have hr := run_endRound (P := P) none hl3
        have hend : { { rec .ready with state := .busy } with state := (if (none : Option Code).isNone then LoopState.ready else .done), pending := none } = rec .ready := by rw [hrec]; rfl
        refine ⟨_, _, hr, rfl, hIp _ _ _ _ _ hi3 (by omega) hl3 rfl, ?_, (World.putObj_heap_other (by omega)).trans (hk3.same _ _ (Nat.le_refl _) hk2 rfl)⟩
        rw [World.putObj_heap_same (Array.getElem?_eq_some_iff.1 hl3).1]
        rw [hrec]
        rfl
      | _ => exact (hp : False).elim
    · rintro e W2 ⟨⟨v, rfl⟩, s, hS, hi, hl, hk⟩
      exact ⟨none, _, by have := run_endLoop (P := P) hl (by rw [hrec]; simp); rw [hrec] at this; exact this, hdone _ s _ (Nat.le_refl _) hS (hIp _ _ _ _ _ hi (by omega) hl rfl) ((World.putObj_heap_other (by omega)).trans hk)⟩
end Go.Proofs.YtjblicgbdecbcaaGreat
namespace Go.Proofs.YtjblicgbdecbcaaGreat
open Go.RowKit Go.Shelf
open Sk (Ent)
attribute [local go_sem] Oper.semAt_some

/-- Where a row lies behind an append: where it lay, or in a new block. -/
theorem append_where_row {P : Program} {w w' : World} {t ty tF : TypeId} {i : TypeInfo} {z : Value} {base size bytes : Nat} (ht : P.underlying t = some (.slice tF)) (hi : P.info? tF = some i) (hz : i.zero = some z) (hsize : i.size = size) (hby : i.bytes = bytes)
    {v v' : Value} {n : Nat} {xs : List Value} (hown : w.ownsRow base tF size v n xs) {ad : Addr} {m c : Nat} {news : List Value} (hl : news.length = m * size) (hc : ∀ j u, news[j]? = some u → w.cell? (ad.add j) = some u) (h1 : ∀ u ∈ news, u.oneCell' = true) (hb : n + m ≤ maxLen) (hbytes : (n + m) * bytes ≤ 140737488355328)
    (hrun : (Builtin.append_ #[t, t] ty #[v, .slice (some ad) m c]).run P w = .ok v' w') : v'.ownBlock = v.ownBlock ∨ v'.ownBlock = some w.heap.size := by
  unfold maxLen at hb
  have hl' : news.length = m * i.size := by rw [hl, hsize]
  rcases hown.2 with ⟨rfl, rfl⟩ | ⟨g, cap, cur, rfl, hbg, hg, hnc, hcm, hcs, htake⟩
  · rcases Nat.eq_zero_or_pos m with h0 | h0
    · subst h0
      simp [Builtin.append_, run_underlying ht, sizeOf, typeInfo, hi, Builtin.lenOf, Builtin.firstCells, loadCells, loadCellsFrom] at hrun
      rw [← hrun.1]
      exact .inl rfl
    · have hmb : m * bytes ≤ 140737488355328 := by simpa using hbytes
      have hr := run_append_nil (P := P) w t ty tF i z ht hi hz ad m c news hl' hc h0 (by omega) (by rw [hby]; omega)
      rw [hr] at hrun
      cases hrun
      exact .inr rfl
  · by_cases hroom : n + m ≤ cap
    · have hfit : n * i.size + news.length ≤ cur.size := by
        rw [hl, hcs, hsize, ← Nat.add_mul]
        exact Nat.mul_le_mul_right _ hroom
      have hr := run_append_room (P := P) w t ty tF i ht hi g n cap cur hg ad m c news hl' hc h1 hroom hfit
      rw [hr] at hrun
      cases hrun
      exact .inl rfl
    · have hr := run_append_grow (P := P) w t ty tF i z ht hi hz ⟨g, 0, none⟩ n cap xs (by rw [hown.1, hsize]) (hown.cells (g := g) rfl) ad m c news hl' hc (by omega) (by omega) (growslice_fits (by omega) (by rw [hby]; exact hbytes))
      rw [hr] at hrun
      cases hrun
      exact .inr rfl
/-- append(v, e) as a step of a drawn region inside a fence; where its row lies then. -/
theorem stepIn_append_at {F : Fence} {n : Nat} {P : Program} {w : World} {ops : Array Oper} {o : Oper} {a : Act} {C : Act → World → Prop} {Q : Exit → Act → World → Prop} {Z : Prop} (hgd : o.guard = none) (s x : Operand) (t tF : TypeId)
    (ho : o.op = .call { callee := .builtin .append, args := #[s, x], argTypes := #[t, t] })
    (base : Nat) (i : TypeInfo) (z : Value) (ht : P.underlying t = some (.slice tF)) (hi : P.info? tF = some i) (hz : i.zero = some z)
    (hsize : i.size = 4) (hby : i.bytes = 64) (hzs : z.cells.size = 4)
    (v : Value) (k : Nat) (es : List EV) (hs : a.eval s = v) (hown : w.ownsRow base tF 4 v k (rv entKind es))
    (ad : Addr) (c : Nat) (e : EV) (hx : a.eval x = .slice (some ad) 1 c) (hcells : ∀ j u, (entKind.vals e)[j]? = some u → w.cell? (ad.add j) = some u)
    (hb : k + 1 ≤ maxLen) (hbytes : (k + 1) * 64 ≤ 140737488355328) (hbase : base ≤ w.heap.size)
    (h : ∀ v' w', w'.ownsRow base tF 4 v' (k + 1) (rv entKind (es ++ [e])) → w.grownBy w' v.ownBlock → (v'.ownBlock = v.ownBlock ∨ v'.ownBlock = some w.heap.size) → C (a.put o.dst v') w') : if Region.wanted o (yielded ops a.tmps) = true then Oper.wpIn F n P o a w C Q else Z := by
  have hw : Region.wanted o (yielded ops a.tmps) = true := by simp [Region.wanted, hgd]
  rw [if_pos hw]
  obtain ⟨v', w', hrun, r1, r2, _⟩ := run_append_own (P := P) w base t o.type tF i z 4 64 ht hi hz hsize hby hzs (by decide) v k (rv entKind es) hown ad 1 c (entKind.vals e) rfl hcells (entKind_ok.one e) hb hbytes hbase
  have hwh := append_where_row ht hi hz hsize hby hown (m := 1) (news := entKind.vals e) rfl hcells (entKind_ok.one e) hb hbytes hrun
  unfold Oper.wpIn
  refine ⟨?_, ?_⟩
  · simp [Oper.about, ho, resolve, Target.leads, Sem.run_pure]
  · rw [Oper.semAt_plain F _ _ (by rw [ho]; intro c hc'; cases hc')]
    simp [execOp, ho, resolve, invoke, builtin, hs, hx, hrun, Result.andThen]
    refine h v' w' ?_ r2 hwh
    rw [rv_append]
    simpa [rv] using r1
/-- A piece that was asked, with the blocks that its entries' bytes lie in. -/
structure PHeld (w : World) (d : DE) : Prop where
  done : PDone w d
  held : ∀ y ∈ d.ys, HeldT w y
/-- What a piece's asking leaves of it. -/
theorem Listed.pheld {w w' : World} {blk : Nat} {raw : List UInt8} {ea : Option Addr} {ec : Nat} {ys : List EV} (h : Listed w blk raw 1 0 ea ec ys w') : PHeld w' ⟨blk, ea, ec, ys⟩ := ⟨⟨h.row, h.ents⟩, h.held⟩
theorem PHeld.below {w w' : World} {d : DE} (h : PHeld w d) (hb : Below w.heap.size w w') : PHeld w' d := ⟨h.done.below hb, fun y hy => (h.held y hy).turn (T5.of_below hb)⟩
/-- A piece that was asked stands while the next one is. -/
theorem PHeld.other {w w' : World} {d : DE} {blk : Nat} {a b : Option Addr} {m c n e : Nat} {x y z : Int} (h : PHeld w d) (hne : d.blk ≠ blk) (hr : w.heap[blk]? = some (.cells #[.int .u32 x, .int .i32 y, .int .u32 z, .slice a m c, .slice b n e] 102)) (hk : Kept (· = blk) w w') : PHeld w' d :=
  ⟨⟨(hk.block d.blk (Array.getElem?_eq_some_iff.1 h.done.row).1 hne).trans h.done.row, rsrc_far hr no_bool5 no_byte5 hk h.done.ents⟩, fun y hy => (h.held y hy).turn (T5.of_kept hr (by decide) hk)⟩
/-- .. and while an own row of entries grows that lies elsewhere. -/
theorem PHeld.grown {w w' : World} {d : DE} (h : PHeld w d) {B n k : Nat} {v : Value} {xs : List Value} (hv : w.ownsRow B 37 k v n xs) (hg : w.grownBy w' v.ownBlock) (hfar : d.ys ≠ [] → ∀ ad, d.ea = some ad → ∀ g, v.ownBlock = some g → ad.block ≠ g) : PHeld w' d := by
  have hblk := (Array.getElem?_eq_some_iff.1 h.done.row).1
  refine ⟨⟨(hg.block d.blk hblk (fun e => ?_)).trans h.done.row, ?_⟩, fun y hy => (h.held y hy).turn (T5.of_grown hv (by decide) hg)⟩
  · obtain ⟨cur, hc⟩ := own_tag hv e.symm
    rw [h.done.row] at hc
    cases hc
  · have hR := h.done.ents
    refine ⟨hR.len, hR.cap, hR.nil, fun ad had j u hu => ?_, fun y hy => ((h.held y hy).turn (T5.of_grown hv (by decide) hg)).1⟩
    have h1 := hR.cells ad had j u hu
    have hab : (ad.add j).block = ad.block := by unfold Addr.add; split <;> rfl
    exact hg.cell h1 (fun e => hfar (fun e0 => by rw [e0] at hu; simp [rv] at hu) ad had _ e.symm hab.symm)
end Go.Proofs.YtjblicgbdecbcaaGreat
namespace Go.Proofs.YtjblicgbdecbcaaGreat
open Go.RowKit Go.Shelf
open Sk (Ent)

/-- Blocks of these types stand. -/
def Tags (S : TypeId → Prop) (W W' : World) : Prop := ∀ (g : Nat) (c : Array Value) (t : TypeId) (fr : Nat × Nat), W.heap[g]? = some (.cells c t fr) → S t → W'.heap[g]? = W.heap[g]?
theorem Tags.t5 {S : TypeId → Prop} {W W' : World} (h : Tags S W W') (h5 : S 5) : T5 W W' := fun g c fr hg => h g c 5 fr hg h5
theorem Tags.of_kept {S : TypeId → Prop} {W W' : World} {r : Nat} {cs : Array Value} {t : TypeId} {fr : Nat × Nat} (hr : W.heap[r]? = some (.cells cs t fr)) (hn : ¬ S t) (h : Kept (· = r) W W') : Tags S W W' := fun g c t' fr' hg hs => h.block g (Array.getElem?_eq_some_iff.1 hg).1 (fun e => by
  have e' : g = r := e
  rw [e', hr] at hg
  cases hg
  exact hn hs)
theorem Tags.of_below {S : TypeId → Prop} {W W' : World} (h : Below W.heap.size W W') : Tags S W W' := fun g _ _ _ hg _ => h.block g (Array.getElem?_eq_some_iff.1 hg).1
theorem Tags.trans {S : TypeId → Prop} {A B C : World} (h : Tags S A B) (k : Tags S B C) : Tags S A C := fun g c t fr hg hs => by
  have h1 := h g c t fr hg hs
  exact (k g c t fr (h1.trans hg) hs).trans h1
theorem Tags.sub {S S' : TypeId → Prop} {A B : World} (h : Tags S A B) (hs : ∀ t, S' t → S t) : Tags S' A B := fun g c t fr hg ht => h g c t fr hg (hs t ht)
/-- The table, its pieces' row, its filter, and the iterator's box. -/
structure TabOk (W : World) (tb Bt : Nat) (pa : Option Addr) (pc : Nat) (bl : List Nat) (Fl : List UInt8) : Prop where
  tab : ∃ fa fc, W.heap[tb]? = some (.cells #[.slice pa bl.length pc, .slice fa Fl.length fc] 67) ∧ RSrc ptrKind W pa bl.length pc bl ∧ Src W fa Fl.length fc Fl ∧ In5 W fa ∧ (∀ ad, pa = some ad → ∃ cur, W.heap[ad.block]? = some (.cells cur 68 (0, 0)))
  bt : W.heap[Bt]? = some (.cells #[.pointer (some ⟨tb, 0, none⟩)] 31)
def tagsT (t : TypeId) : Prop := t = 67 ∨ t = 68 ∨ t = 5 ∨ t = 31
theorem TabOk.turn {W W' : World} {tb Bt : Nat} {pa : Option Addr} {pc : Nat} {bl : List Nat} {Fl : List UInt8} (h : TabOk W tb Bt pa pc bl Fl) (ht : Tags tagsT W W') : TabOk W' tb Bt pa pc bl Fl := by
  obtain ⟨fa, fc, h1, h2, h3, h4, h5⟩ := h.tab
  have T := ht.t5 (.inr (.inr (.inl rfl)))
  refine ⟨⟨fa, fc, (ht _ _ _ _ h1 (.inl rfl)).trans h1, ⟨h2.len, h2.cap, h2.nil, fun ad had j u hu => ?_, fun _ _ => trivial⟩, src_turn h3 h4 T, h4.turn T, fun ad had => ?_⟩, (ht _ _ _ _ h.bt (.inr (.inr (.inr rfl)))).trans h.bt⟩
  · obtain ⟨cur, hc⟩ := h5 ad had
    have hab : (ad.add j).block = ad.block := by unfold Addr.add; split <;> rfl
    have hb := ht _ _ _ _ hc (.inr (.inl rfl))
    rw [World.cell?_of_block (a := ad.add j) (w := W) (by rw [hab]; exact hb)]
    exact h2.cells ad had j u hu
  · obtain ⟨cur, hc⟩ := h5 ad had
    exact ⟨cur, (ht _ _ _ _ hc (.inr (.inl rfl))).trans hc⟩
def tagsE (t : TypeId) : Prop := t = 5 ∨ t = 37 ∨ t = 22
theorem AllI.turn {w W W' : World} {Bx : Nat} {ds : List DE} {pre : List Nat} (h : AllI w Bx ds pre W) (ht : Tags tagsE W W') (hb : Below w.heap.size W W') : AllI w Bx ds pre W' := by
  obtain ⟨v, out, h1, h2, h3, h4, h5⟩ := h
  refine ⟨v, out, (ht _ _ _ _ h1 (.inr (.inr rfl))).trans h1, own_block h2 (fun g hg => ?_), fun y hy => (h3 y hy).tag5 (fun g cur hc => ht _ _ _ _ hc (.inl rfl)), h4, h5.trans hb⟩
  obtain ⟨cur, hc⟩ := own_tag h2 hg
  exact ht _ _ _ _ hc (.inr (.inl rfl))
theorem boxed_one {W : World} {Bx : Nat} {T : TypeId} {v v' : Value} (h : Boxed W Bx T v) (h' : Boxed W Bx T v') : v = v' := by
  have e : some (Obj.cells #[v] T (0, 0)) = some (Obj.cells #[v'] T (0, 0)) := h.symm.trans h'
  simpa using e
theorem evsD_append (ds : List DE) (d : DE) : evsD (ds ++ [d]) = evsD ds ++ d.ys := by simp [evsD]
theorem nthE_old {ds : List DE} {d : DE} {i : Nat} (h : i < (evsD ds).length) : nthE (ds ++ [d]) i = nthE ds i := by
  unfold nthE
  rw [evsD_append, List.getD_eq_getElem?_getD, List.getD_eq_getElem?_getD, List.getElem?_append_left h]
/-- While pieces are asked: ds were, j entries have come. -/
structure AskI (w : World) (Bx tb Bt : Nat) (pa : Option Addr) (pc : Nat) (ps : List PE) (Fl : List UInt8) (s : List DE × Nat) (W : World) : Prop where
  all : AllI w Bx s.1 (List.range s.2) W
  le : s.2 ≤ (evsD s.1).length
  far : ∀ v, Boxed W Bx 22 v → ∀ d ∈ s.1, d.ys ≠ [] → ∀ ad, d.ea = some ad → ∀ g, v.ownBlock = some g → ad.block ≠ g
  tab : TabOk W tb Bt pa pc (ps.map (·.blk)) Fl
  done : ∀ d ∈ s.1, PHeld W d
  few : s.1.length ≤ ps.length
  blks : s.1.map (·.blk) = (ps.take s.1.length).map (·.blk)
  ents : s.1.map (fun d => d.ys.map (·.e)) = (ps.take s.1.length).map (fun p => Tq.pl p.raw)
  raw : ∀ p ∈ ps.drop s.1.length, PRaw W p
theorem cell_any {W W' : World} (h : Tags (fun _ => True) W W') {p : Addr} {u : Value} (hc : W.cell? p = some u) : W'.cell? p = some u := by
  have hc' := hc
  unfold World.cell? at hc
  split at hc
  · rename_i c t fr hg
    rw [World.cell?_of_block (a := p) (h _ _ _ _ hg trivial)]
    exact hc'
  · cases hc
theorem PHeld.any {W W' : World} {d : DE} (h : PHeld W d) (ht : Tags (fun _ => True) W W') : PHeld W' d := by
  have T := ht.t5 trivial
  exact ⟨⟨(ht _ _ _ _ h.done.row trivial).trans h.done.row, h.done.ents.len, h.done.ents.cap, h.done.ents.nil, fun ad had j u hu => cell_any ht (h.done.ents.cells ad had j u hu), fun y hy => ((h.held y hy).turn T).1⟩, fun y hy => (h.held y hy).turn T⟩
/-- It stands while no row of cells turns. -/
theorem AskI.same {w W W' : World} {Bx tb Bt : Nat} {pa : Option Addr} {pc : Nat} {ps : List PE} {Fl : List UInt8} {s : List DE × Nat} (h : AskI w Bx tb Bt pa pc ps Fl s W) (ht : Tags (fun _ => True) W W') (hb : Below w.heap.size W W') : AskI w Bx tb Bt pa pc ps Fl s W' := by
  obtain ⟨v, out, h1, _⟩ := h.all
  refine ⟨h.all.turn (ht.sub fun _ _ => trivial) hb, h.le, fun v' hv' => h.far v' ?_, h.tab.turn (ht.sub fun _ _ => trivial), fun d hd => (h.done d hd).any ht, h.few, h.blks, h.ents, fun p hp => (h.raw p hp).turn (ht.t5 trivial) (ht _ _ _ _ (h.raw p hp).row trivial)⟩
  have h2 : Boxed W' Bx 22 v := (ht _ _ _ _ h1 trivial).trans h1
  rw [boxed_one hv' h2]
  exact h1
/-- The next piece is asked. -/
theorem AskI.ask {w W W' : World} {Bx tb Bt : Nat} {pa : Option Addr} {pc : Nat} {ps : List PE} {Fl : List UInt8} {ds : List DE} (hnd : (ps.map (·.blk)).Nodup) (hfar : ∀ p ∈ ps, w.heap.size ≤ p.blk) (h : AskI w Bx tb Bt pa pc ps Fl (ds, (evsD ds).length) W) {p : PE} (hp : ps[ds.length]? = some p)
    {ea : Option Addr} {ec : Nat} {ys : List EV} (hL : Listed W p.blk p.raw 1 0 ea ec ys W') : AskI w Bx tb Bt pa pc ps Fl (ds ++ [⟨p.blk, ea, ec, ys⟩], (evsD ds).length) W' := by
  obtain ⟨v, out, h1, h2, h3, h4, h5⟩ := h.all
  have hlt := (List.getElem?_eq_some_iff.1 hp).1
  have hdr : ps.drop ds.length = p :: ps.drop (ds.length + 1) := by
    rw [List.drop_eq_getElem_cons hlt]
    have := (List.getElem?_eq_some_iff.1 hp).2
    rw [this]
  have hR := h.raw p (by show p ∈ ps.drop ds.length; rw [hdr]; exact List.mem_cons_self)
  have hB : Below w.heap.size W W' := hL.kept.below h5.size (fun g hg => by have e : g = p.blk := hg; rw [e]; exact hfar p (List.mem_of_getElem? hp))
  have hx' : Boxed W' Bx 22 v := (Tags.of_kept (S := tagsE) hR.row (by unfold tagsE; decide) hL.kept _ _ _ _ h1 (.inr (.inr rfl))).trans h1
  have hne : ∀ d ∈ ds, d.blk ≠ p.blk := fun d hd e => by
    have hm : d.blk ∈ (ps.take ds.length).map (·.blk) := by rw [← h.blks]; exact List.mem_map_of_mem hd
    have hs : (ps.map (·.blk)) = (ps.take ds.length).map (·.blk) ++ (ps.drop ds.length).map (·.blk) := by rw [← List.map_append, List.take_append_drop]
    rw [hs, List.nodup_append] at hnd
    exact hnd.2.2 _ hm p.blk (by rw [hdr]; exact List.mem_cons_self) e
  have hne2 : ∀ q ∈ ps.drop (ds.length + 1), q.blk ≠ p.blk := fun q hq e => by
    have hs : (ps.map (·.blk)) = (ps.take ds.length).map (·.blk) ++ (ps.drop ds.length).map (·.blk) := by rw [← List.map_append, List.take_append_drop]
    rw [hs, List.nodup_append, hdr, List.map_cons, List.nodup_cons] at hnd
    exact hnd.2.1.1 (by rw [← e]; exact List.mem_map_of_mem hq)
  have htk : ps.take (ds.length + 1) = ps.take ds.length ++ [p] := by rw [List.take_add_one, hp]; rfl
  have hA : AllI w Bx ds (List.range (evsD ds).length) W' := h.all.turn (Tags.of_kept hR.row (by unfold tagsE; decide) hL.kept) hB
  refine ⟨?_, ?_, ?_, h.tab.turn (Tags.of_kept hR.row (by unfold tagsT; decide) hL.kept), ?_, ?_, ?_, ?_, ?_⟩
  · obtain ⟨v', out', k1, k2, k3, k4, k5⟩ := hA
    refine ⟨v', out', k1, k2, k3, k4.trans ?_, k5⟩
    refine List.map_congr_left fun i hi => ?_
    rw [nthE_old (List.mem_range.1 hi)]
  · show (evsD ds).length ≤ (evsD (ds ++ [_])).length
    rw [evsD_append, List.length_append]
    omega
  · intro v' hv' d hd hn0 ad had g hg
    rw [boxed_one hv' hx'] at hg
    rcases List.mem_append.1 hd with hd | hd
    · exact h.far v h1 d hd hn0 ad had g hg
    · rw [List.mem_singleton.1 hd] at had
      have := hL.far ad had
      have := own_size h2 hg
      omega
  · intro d hd
    rcases List.mem_append.1 hd with hd | hd
    · exact (h.done d hd).other (hne d hd) hR.row hL.kept
    · rw [List.mem_singleton.1 hd]
      exact hL.pheld
  · show (ds ++ [_]).length ≤ _
    rw [List.length_append]
    exact hlt
  · show (ds ++ [_]).map _ = (ps.take (ds ++ [_]).length).map _
    rw [List.length_append, List.length_singleton, htk, List.map_append, List.map_append, ← h.blks]
    rfl
  · show (ds ++ [_]).map _ = (ps.take (ds ++ [_]).length).map _
    rw [List.length_append, List.length_singleton, htk, List.map_append, List.map_append, ← h.ents]
    simp [hL.same]
  · intro q hq
    have hq' : q ∈ ps.drop (ds.length + 1) := by
      have e : (ds ++ [(⟨p.blk, ea, ec, ys⟩ : DE)]).length = ds.length + 1 := by simp
      rw [show ((ds ++ [(⟨p.blk, ea, ec, ys⟩ : DE)], (evsD ds).length).1).length = ds.length + 1 from e] at hq
      exact hq
    have hQ := h.raw q (by show q ∈ ps.drop ds.length; rw [hdr]; exact List.mem_cons_of_mem _ hq')
    exact hQ.turn (T5.of_kept hR.row (by decide) hL.kept) (hL.kept.block _ (Array.getElem?_eq_some_iff.1 hQ.row).1 (hne2 q hq'))
end Go.Proofs.YtjblicgbdecbcaaGreat
namespace Go.Proofs.YtjblicgbdecbcaaGreat
open Go.RowKit Go.Shelf
open Sk (Ent)
attribute [local go_sem] Oper.semAt_some

/-- One entry more. -/
theorem AskI.next {w W W6 w7 : World} {Bx tb Bt : Nat} {pa : Option Addr} {pc : Nat} {ps : List PE} {Fl : List UInt8} {ds : List DE} {j : Nat} (h : AskI w Bx tb Bt pa pc ps Fl (ds, j) W) (hj : j < (evsD ds).length) (hBx : w.heap.size ≤ Bx) {v v7 : Value} {out : List EV} {y : EV}
    (hx : Boxed W Bx 22 v) (ho : W.ownsRow w.heap.size 37 4 v out.length (rv entKind out)) (hh : ∀ y ∈ out, OwnE w.heap.size W y) (hm : out.map (·.e) = (List.range j).map (fun i => (nthE ds i).e)) (hb : Below w.heap.size w W)
    (b6 : Below W.heap.size W W6) (hy : OwnE w.heap.size W6 y) (he : y.e = (nthE ds j).e) (h7 : w7.ownsRow w.heap.size 37 4 v7 (out.length + 1) (rv entKind (out ++ [y]))) (g7 : W6.grownBy w7 v.ownBlock) (hwh : v7.ownBlock = v.ownBlock ∨ v7.ownBlock = some W6.heap.size) :
    Boxed w7 Bx 22 v ∧ KeepsOthers W (w7.setCell ⟨Bx, 0, none⟩ v7) ∧ AskI w Bx tb Bt pa pc ps Fl (ds, j + 1) (w7.setCell ⟨Bx, 0, none⟩ v7) := by
  obtain ⟨x7, KO, B8, hA⟩ := AllI.next (ds := ds) (pre := List.range j) (x := j) hx ho hh hm hb hBx b6 hy he h7 g7
  have o6 := own_block ho (fun g hg => b6.block g (own_size ho hg))
  have K8 := set_kept w7 Bx 0 v7
  have TS : Tags (fun t => t ≠ 37 ∧ t ≠ 22) W (w7.setCell ⟨Bx, 0, none⟩ v7) := by
    refine (Tags.of_below b6).trans (Tags.trans (B := w7) (fun g c t fr hg ht => g7.block g (Array.getElem?_eq_some_iff.1 hg).1 (fun e => ?_)) (Tags.of_kept x7 (fun ht => ht.2 rfl) K8))
    obtain ⟨cur, hc⟩ := own_tag o6 e.symm
    rw [hg] at hc
    cases hc
    exact ht.1 rfl
  refine ⟨x7, KO, ⟨by rw [List.range_succ]; exact hA, hj, ?_, h.tab.turn (TS.sub (fun t ht => by rcases ht with rfl | rfl | rfl | rfl <;> decide)), ?_, h.few, h.blks, h.ents, fun p hp => (h.raw p hp).turn (TS.t5 (by decide)) (TS _ _ _ _ (h.raw p hp).row (by decide))⟩⟩
  · intro v' hv' d hd hn0 ad had g hg
    rw [boxed_one hv' (x7.set v7)] at hg
    rcases hwh with e | e
    · exact h.far v hx d hd hn0 ad had g (by rw [← e]; exact hg)
    · rw [e] at hg
      cases hg
      intro e2
      have hP := (h.done d hd).done.ents
      obtain ⟨b, off, e0, hlt, _⟩ := hP.form entKind_ok (List.length_pos_iff.2 hn0)
      rw [e0] at had
      cases had
      have := b6.size
      simp only at e2
      omega
  · intro d hd
    have P6 := (h.done d hd).below b6
    have P7 := P6.grown o6 g7 (fun hn0 ad had g hg => h.far v hx d hd hn0 ad had g hg)
    obtain ⟨av, nv, cv, rfl⟩ : ∃ a n c, v = .slice a n c := by
      rcases o6.2 with ⟨e, _⟩ | ⟨g, cap, cur, e, _⟩
      · exact ⟨_, _, _, e⟩
      · exact ⟨_, _, _, e⟩
    refine ⟨⟨(TS _ _ _ _ (h.done d hd).done.row (by decide)).trans (h.done d hd).done.row, rsrc_far x7 ?_ ?_ K8 P7.done.ents⟩, fun y hy => (P7.held y hy).turn (T5.of_kept x7 (by decide) K8)⟩
    · intro i b
      cases i <;> simp
    · intro i b
      cases i <;> simp
end Go.Proofs.YtjblicgbdecbcaaGreat
namespace Go.Proofs.YtjblicgbdecbcaaGreat
open Go.RowKit Go.Shelf
open Sk (Ent)
attribute [local go_sem] Oper.semAt_some

theorem keepsFrom_kept {n0 : Nat} {W W' : World} {r : Nat} {cs : Array Value} {t : TypeId} {fr : Nat × Nat} (hr : W.heap[r]? = some (.cells cs t fr)) (hk : Kept (· = r) W W') : KeepsFrom n0 W W' := by
  refine KeepsOthers.from ⟨hk.size, fun k o hg hc => (hk.block k (Array.getElem?_eq_some_iff.1 hg).1 (fun e => ?_)).trans hg⟩ _
  have e' : k = r := e
  rw [e', hr] at hg
  cases hg
  cases hc
set_option maxHeartbeats 8000000 in
set_option maxRecDepth 100000 in
theorem each1_ask (nn : Nat) (hn : 1 ≤ nn) (l Bx tb Bt n0 : Nat) (pa : Option Addr) (pc : Nat) (ps : List PE) (Fl : List UInt8) (w : World) (hl : ps.length ≤ 64) (hps : ∀ p ∈ ps, (Tq.pl p.raw).length ≤ 64) (hnd : (ps.map (·.blk)).Nodup) (hfar : ∀ p ∈ ps, w.heap.size ≤ p.blk) (Bk : World → Prop) (hBk : ∀ A B, Bk A → KeepsFrom n0 A B → Bk B)
    (hY : ∀ s W, AskI w Bx tb Bt pa pc ps Fl s W → s.2 < (evsD s.1).length → Bk W → YieldAt Fence.wide (nn - 1) Tryz.prog l #[ev (nthE s.1 s.2)] W fun e W' => e = .returned (.bool true) ∧ AskI w Bx tb Bt pa pc ps Fl (s.1, s.2 + 1) W' ∧ Bk W')
    (W : World) (h0 : AskI w Bx tb Bt pa pc ps Fl ([], 0) W) (hb0 : Bk W) :
    CallsIn Fence.wide nn Tryz.prog 78 #[.func (.yield l) #[] #[], .pointer (some ⟨Bt, 0, none⟩)] W fun e W' => (∃ v, e = .returned v) ∧ ∃ s : List DE × Nat, (s.1.length = ps.length ∧ s.2 = (evsD s.1).length) ∧ AskI w Bx tb Bt pa pc ps Fl s W' ∧ Bk W' := by
  obtain ⟨fa, fc, h1, h2, _⟩ := h0.tab.tab
  have cB : W.cell? ⟨Bt, 0, none⟩ = some (.pointer (some ⟨tb, 0, none⟩)) := cell_of_row _ _ _ _ _ _ h0.tab.bt
  have H0 := keep h0
  have HK0 := keep hb0
  have HBK := keep hBk
  have HY := keep hY
  have PF := keep h2
  have HL := keep hps
  have c0 : W.cell? ⟨tb, 0, none⟩ = some (.slice pa (ps.map (·.blk)).length pc) := cell_of_row _ _ _ _ _ _ h1
  obtain ⟨N, hN⟩ : ∃ N, ps.length = N := ⟨_, rfl⟩
  have HN := keep hN
  rw [List.length_map, hN] at c0 PF
  rw [hN] at hl
  clear hBk hY h0 hb0 h1 h2 hN hps
  refine callsIn_of_wp Tryz.func78 rfl trivial ?_ rfl
  simp only [Tryz.ntmps78, List.size_toArray, List.length_cons, List.length_nil, Nat.reduceAdd, Nat.reduceSub, Array.replicate_succ, Array.replicate_zero, List.push_toArray, List.append_toArray, List.nil_append, List.cons_append]
  gi_wp2
  gi_loopw [14] (fun i wr => ∃ k : Nat, k ≤ N ∧ i = .int .i64 (k : Int) ∧ Hid (∃ ds : List DE, ds.length = k ∧ AskI w Bx tb Bt pa pc ps Fl (ds, (evsD ds).length) wr ∧ Bk wr)) (fun i _ => N - (intOf i).toNat)
  case atStart => exact ⟨0, by omega, rfl, [], rfl, H0.out, HK0.out⟩
  case round =>
    clear c0 cB H0 HK0
    obtain ⟨k, hk, rfl, hI⟩ := hrel
    obtain ⟨ds, hdk, hA, hBw⟩ := hI.out
    by_cases hkn : k < N
    · obtain ⟨pb, po, rfl, _, _⟩ := PF.out.form ptrKind_ok (by omega)
      obtain ⟨p, hp⟩ : ∃ p, ps[k]? = some p := ⟨ps[k]'(by rw [HN.out]; exact hkn), List.getElem?_eq_getElem _⟩
      obtain ⟨fa', fc', _, hpr, _⟩ := hA.tab.tab
      have p0 : wr.cell? ⟨pb, po + k, none⟩ = some (.pointer (some ⟨p.blk, 0, none⟩)) := ptr_cell hpr (i := k) (by rw [List.getElem?_map, hp]; rfl)
      have hpl := HL.out p (List.mem_of_getElem? hp)
      have hlt : ds.length < ps.length := by rw [hdk, HN.out]; exact hkn
      have hR := hA.raw p (by
        show p ∈ ps.drop ds.length
        rw [List.drop_eq_getElem_cons hlt]
        have e := (List.getElem?_eq_some_iff.1 (show ps[ds.length]? = some p by rw [hdk]; exact hp)).2
        rw [e]
        exact List.mem_cons_self)
      have LI := keep (list_first p.blk p.ra p.rc p.raw wr hR.row hR.src)
      have HR := keep hR
      have HA := keep hA
      have HB := keep hBw
      have HP : Hid (ps[ds.length]? = some p) := by show _ = _; rw [hdk]; exact hp
      have j0 : (0 : Int) ≤ (k : Int) := by omega
      have ll : (k : Int) < (N : Int) := by omega
      clear hp hpr hR hA hBw hI hlt
      gi_wp2_with fail
      refine ⟨trivial, ?_⟩
      refine (callsIn_wide.2 LI.out).mono ?_
      rintro e w2 ⟨ea, ec, ys, rfl, hL⟩
      have A2 := keep (HA.out.ask hnd hfar HP.out hL)
      have B2 := keep (HBK.out _ _ HB.out (keepsFrom_kept HR.out.row hL.kept))
      have hyl : ys.length ≤ 64 := by
        have := congrArg List.length hL.same
        rw [List.length_map] at this
        omega
      clear hL LI p0 HR HA HB HP
      obtain ⟨M, hM⟩ : ∃ M, ys.length = M := ⟨_, rfl⟩
      have HM := keep hM
      rw [hM] at hyl ⊢
      clear hM
      obtain ⟨d, hd⟩ : ∃ d : DE, d = ⟨p.blk, ea, ec, ys⟩ := ⟨_, rfl⟩
      have DY : Hid (d.ys = ys) := by show _ = _; rw [hd]
      have DA : Hid (d.ea = ea) := by show _ = _; rw [hd]
      rw [← hd] at A2
      clear hd
      gi_wp2
      gi_loopw [21] (fun i wr => ∃ j : Nat, j ≤ M ∧ i = .int .i64 (j : Int) ∧ Hid (AskI w Bx tb Bt (some ⟨pb, po, none⟩) pc ps Fl (ds ++ [d], (evsD ds).length + j) wr ∧ Bk wr)) (fun i _ => M - (intOf i).toNat)
      case atStart => exact ⟨0, by omega, rfl, A2.out, B2.out⟩
      case round =>
        clear A2 B2
        obtain ⟨j, hj, rfl, hI⟩ := hrel
        by_cases hjm : j < M
        · have ER := keep (hI.out.1.done d (List.mem_append.2 (.inr (List.mem_singleton.2 rfl)))).done.ents
          rw [DY.out, DA.out] at ER
          obtain ⟨eb, eo, hea, _, _⟩ := ER.out.form entKind_ok (by rw [HM.out]; omega)
          obtain ⟨y, hy⟩ : ∃ y, ys[j]? = some y := ⟨ys[j]'(by rw [HM.out]; exact hjm), List.getElem?_eq_getElem _⟩
          rw [hea] at ER
          obtain ⟨q0, q1, q2, q3⟩ := ent_cells ER.out hy
          have NT : Hid (nthE (ds ++ [d]) ((evsD ds).length + j) = y) := by
            have := nthE_at (ds := ds ++ [d]) (k := ds.length) (j := j) (d := d) (y := y) (by simp) (by rw [DY.out]; exact hy)
            rw [List.take_left'] at this
            · exact this
            · rfl
          obtain ⟨W5, hW5⟩ : ∃ W5, wr.alloc (.cells #[.slice y.kp y.e.key.length y.kc, .int .i64 y.e.seq, .bool y.e.gone, .slice y.vp y.e.val.length y.vc] 37) = W5 := ⟨_, rfl⟩
          have b5 : Hid (Below wr.heap.size wr W5) := by rw [← hW5]; exact (Below.refl _ _).alloc (Nat.le_refl _) _
          have g5 : Hid (W5.heap[wr.heap.size]? = some (.cells #[.slice y.kp y.e.key.length y.kc, .int .i64 y.e.seq, .bool y.e.gone, .slice y.vp y.e.val.length y.vc] 37)) := by rw [← hW5]; exact heap_alloc_new wr _
          have r0 : W5.cell? ⟨wr.heap.size, 0, none⟩ = some (.slice y.kp y.e.key.length y.kc) := cell_of_row _ _ _ _ _ _ g5.out
          have r1 : W5.cell? ⟨wr.heap.size, 1, none⟩ = some (.int .i64 y.e.seq) := cell_of_row _ _ _ _ _ _ g5.out
          have r2 : W5.cell? ⟨wr.heap.size, 2, none⟩ = some (.bool y.e.gone) := cell_of_row _ _ _ _ _ _ g5.out
          have r3 : W5.cell? ⟨wr.heap.size, 3, none⟩ = some (.slice y.vp y.e.val.length y.vc) := cell_of_row _ _ _ _ _ _ g5.out
          have hsz : w.heap.size ≤ wr.heap.size := by obtain ⟨_, _, _, _, _, _, hb⟩ := hI.out.1.all; exact hb.size
          have A5 := keep (hI.out.1.same (Tags.of_below b5.out) (b5.out.mono hsz))
          have K5 : Hid (Bk W5) := HBK.out _ _ hI.out.2 (by rw [← hW5]; exact (KeepsOthers.alloc _ _).from _)
          obtain ⟨fn, tmps, assign, body, hyl2, hR⟩ := HY.out _ W5 A5.out (by show _ < (evsD (ds ++ [d])).length; rw [evsD_append, List.length_append, DY.out, HM.out]; show (evsD ds).length + j < _; omega) K5.out
          rw [NT.out] at hyl2
          unfold ev at hyl2
          have jj0 : (0 : Int) ≤ (j : Int) := by omega
          have jll : (j : Int) < (M : Int) := by omega
          rw [hea]
          clear hI hy hea ER
          gi_wp2
          refine hR.mono ?_
          rintro e W3 ⟨rfl, hA3, hk3⟩
          have I3 : Hid (AskI w Bx tb Bt (some ⟨pb, po, none⟩) pc ps Fl (ds ++ [d], (evsD ds).length + (j + 1)) W3 ∧ Bk W3) := ⟨hA3, hk3⟩
          clear hA3 hk3
          gi_wp2
          go_roundw
          case rel => exact ⟨j + 1, by omega, by first | rfl | go_num, I3.out⟩
          case measure => simp [intOf]; omega
        · obtain rfl : j = M := by omega
          have jll : ¬ (j : Int) < (j : Int) := by omega
          have FI : Hid (∃ ds' : List DE, ds'.length = k + 1 ∧ AskI w Bx tb Bt (some ⟨pb, po, none⟩) pc ps Fl (ds', (evsD ds').length) wr ∧ Bk wr) := ⟨ds ++ [d], by rw [List.length_append, hdk]; rfl, by rw [evsD_append, List.length_append, DY.out, HM.out]; exact hI.out.1, hI.out.2⟩
          clear hI
          gi_wp2
          go_roundw
          case rel => exact ⟨k + 1, by omega, by first | rfl | go_num, FI.out⟩
          case measure => simp [intOf]; omega
    · obtain rfl : k = N := by omega
      have ll : ¬ (k : Int) < (k : Int) := by omega
      have EN : Hid (∃ s : List DE × Nat, (s.1.length = ps.length ∧ s.2 = (evsD s.1).length) ∧ AskI w Bx tb Bt pa pc ps Fl s wr ∧ Bk wr) := ⟨(ds, (evsD ds).length), ⟨by rw [HN.out]; exact hdk, rfl⟩, hA, hBw⟩
      clear hA hBw hI
      gi_wp2
      go_end0
      obtain ⟨⟨a, b⟩, hEN⟩ := EN.out
      exact ⟨⟨_, rfl⟩, a, b, hEN⟩
end Go.Proofs.YtjblicgbdecbcaaGreat
