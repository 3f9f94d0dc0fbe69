/- How far the document's Decode has come; no walk. -/
import Derived.Test.YthaiodajfmbeaaaGreatRd1
namespace Go.Proofs.YthaiodajfmbeaaaGreat
open Go.RowKit
open Ed (Nt)

/-- How far the document's Decode has come ahead of its loop. -/
structure Dq (w : World) (rd vb : Nat) (cs : Array Value) (L : List UInt8) (bad : Bool) (wr : World) : Prop where
  bel : Below w.heap.size w wr
  res : wr.heap[w.heap.size]? = some (.cells #[.int .i64 0, .int .i64 0, .int .i64 0, .int .i64 0, .slice none 0 0] 32)
  rdr : ∃ ao c, Rx w.heap.size wr rd ao L.length c L bad
  ver : wr.heap[vb]? = some (.cells cs 32)
  sep : w.heap.size < rd ∧ w.heap.size < vb
theorem Dq.ne {w : World} {rd vb : Nat} {cs : Array Value} {L : List UInt8} {bad : Bool} {wr : World} (h : Dq w rd vb cs L bad wr) : vb ≠ rd := fun e => by
  obtain ⟨a, c, hr⟩ := h.rdr
  have h1 := h.ver
  rw [e, hr.row] at h1
  cases h1
theorem Dq.num {w : World} {rd vb : Nat} {cs : Array Value} {L L' : List UInt8} {bad bad' : Bool} {wr w' : World} (h : Dq w rd vb cs L bad wr) (hk : Kept (AtB rd) wr w') (hr : ∃ a c, Rx w.heap.size w' rd a L'.length c L' bad') : Dq w rd vb cs L' bad' w' :=
  ⟨h.bel.trans (hk.below h.bel.size (fun g e => by rw [show g = rd from e]; exact Nat.le_of_lt h.sep.1)),
   (hk.block _ (Array.getElem?_eq_some_iff.1 h.res).1 (fun e => Nat.ne_of_lt h.sep.1 e)).trans h.res, hr,
   (hk.block _ (Array.getElem?_eq_some_iff.1 h.ver).1 (fun e => h.ne e)).trans h.ver, h.sep⟩
theorem Dq.put {w : World} {rd vb : Nat} {cs : Array Value} {L : List UInt8} {bad : Bool} {wr : World} (h : Dq w rd vb cs L bad wr) (i : Nat) (v : Value) : Dq w rd vb (cs.setIfInBounds i v) L bad (wr.setCell ⟨vb, i, none⟩ v) := by
  obtain ⟨a, c, hr⟩ := h.rdr
  refine ⟨h.bel.setCell (p := ⟨vb, i, none⟩) (Nat.le_of_lt h.sep.2) _, (Below.heap_setCell _ _ _ _ (fun e => Nat.ne_of_lt h.sep.2 e)).trans h.res, ⟨a, c, ?_⟩, set_row h.ver i v, h.sep⟩
  exact hr.on ((Below.refl _ _).setCell (p := ⟨vb, i, none⟩) (Nat.le_of_lt h.sep.2) _) (B5.of_set h.ver (by decide) v) (Below.heap_setCell _ _ _ _ (fun e => h.ne (show rd = vb from e).symm))
theorem Dq.cell {w : World} {rd vb : Nat} {cs : Array Value} {L : List UInt8} {bad : Bool} {wr : World} (h : Dq w rd vb cs L bad wr) (i : Nat) : wr.cell? ⟨vb, i, none⟩ = cs[i]? := by rw [cell_of_row _ _ _ _ _ _ h.ver]
theorem Dq.frozen {w : World} {rd vb : Nat} {cs : Array Value} {L : List UInt8} {bad : Bool} {wr : World} (h : Dq w rd vb cs L bad wr) (i : Nat) : wr.frozen? ⟨vb, i, none⟩ = false := by simp [World.frozen?, h.ver]
/-- How far a round has come. -/
structure DqR (w wr : World) (rd mb : Nat) (cs : Array Value) (L : List UInt8) (bad : Bool) (wk : World) : Prop where
  kept : Kept (AtB rd) wr wk
  rdr : ∃ ao c, Rx w.heap.size wk rd ao L.length c L bad
  mem : wk.heap[mb]? = some (.cells cs 53)
  new : wr.heap.size ≤ mb
  low : w.heap.size ≤ wr.heap.size
theorem DqR.ne {w wr : World} {rd mb : Nat} {cs : Array Value} {L : List UInt8} {bad : Bool} {wk : World} (h : DqR w wr rd mb cs L bad wk) : mb ≠ rd := fun e => by
  obtain ⟨a, c, hr⟩ := h.rdr
  have h1 := h.mem
  rw [e, hr.row] at h1
  cases h1
theorem DqR.num {w wr : World} {rd mb : Nat} {cs : Array Value} {L L' : List UInt8} {bad bad' : Bool} {wk w' : World} (h : DqR w wr rd mb cs L bad wk) (hk : Kept (AtB rd) wk w') (hr : ∃ a c, Rx w.heap.size w' rd a L'.length c L' bad') : DqR w wr rd mb cs L' bad' w' :=
  ⟨h.kept.trans hk, hr, (hk.block _ (Array.getElem?_eq_some_iff.1 h.mem).1 (fun e => h.ne e)).trans h.mem, h.new, h.low⟩
theorem DqR.put {w wr : World} {rd mb : Nat} {cs : Array Value} {L : List UInt8} {bad : Bool} {wk : World} (h : DqR w wr rd mb cs L bad wk) (i : Nat) (v : Value) : DqR w wr rd mb (cs.setIfInBounds i v) L bad (wk.setCell ⟨mb, i, none⟩ v) := by
  obtain ⟨a, c, hr⟩ := h.rdr
  refine ⟨h.kept.setCell (p := ⟨mb, i, none⟩) (.inr h.new) _, ⟨a, c, ?_⟩, set_row h.mem i v, h.new, h.low⟩
  exact hr.on ((Below.refl _ _).setCell (p := ⟨mb, i, none⟩) (Nat.le_trans h.low h.new) _) (B5.of_set h.mem (by decide) v) (Below.heap_setCell _ _ _ _ (fun e => h.ne (show rd = mb from e).symm))
theorem DqR.b5put {w wr : World} {rd mb : Nat} {cs : Array Value} {L : List UInt8} {bad : Bool} {wk : World} (h : DqR w wr rd mb cs L bad wk) (i : Nat) (v : Value) : B5 wk (wk.setCell ⟨mb, i, none⟩ v) := B5.of_set h.mem (by decide) v
theorem DqR.b5num {w wr : World} {rd mb : Nat} {cs : Array Value} {L : List UInt8} {bad : Bool} {wk w' : World} (h : DqR w wr rd mb cs L bad wk) (hk : Kept (AtB rd) wk w') : B5 wk w' := B5.of_kept hk (fun g e cur fr hgc => by
  obtain ⟨a, c, hr⟩ := h.rdr
  rw [show g = rd from e, hr.row] at hgc
  cases hgc)
theorem DqR.cell {w wr : World} {rd mb : Nat} {cs : Array Value} {L : List UInt8} {bad : Bool} {wk : World} (h : DqR w wr rd mb cs L bad wk) (i : Nat) : wk.cell? ⟨mb, i, none⟩ = cs[i]? := by rw [cell_of_row _ _ _ _ _ _ h.mem]
theorem DqR.frozen {w wr : World} {rd mb : Nat} {cs : Array Value} {L : List UInt8} {bad : Bool} {wk : World} (h : DqR w wr rd mb cs L bad wk) (i : Nat) : wk.frozen? ⟨mb, i, none⟩ = false := by simp [World.frozen?, h.mem]
/-- How far the loop has come: the notes ys are there, L is left. -/
structure DqI (w : World) (rd vb : Nat) (G N Lg Sq : Int) (K n : Nat) (l5 : List UInt8) (b5 : Bool) (ys : List MV) (v : Value) (L : List UInt8) (bad : Bool) (wr : World) : Prop where
  dq : Dq w rd vb #[.int .i64 G, .int .i64 N, .int .i64 Lg, .int .i64 Sq, v] L bad wr
  row : wr.ownsRow w.heap.size 53 5 v ys.length (rv metaKind ys)
  each : ∀ y ∈ ys, In5 wr y.fp ∧ In5 wr y.lp ∧ metaKind.held wr y
  plain : Ed.ddMs K l5 b5 = (ys.map (·.m) ++ (Ed.ddMs (K - ys.length) L bad).1, (Ed.ddMs (K - ys.length) L bad).2)
  len : ys.length ≤ K
  short : L.length ≤ n
theorem rOf_len (l : List UInt8) : (rOf l).length ≤ l.length := by
  unfold rOf
  cases hx : takeNum l with
  | none => simp
  | some p =>
    obtain ⟨x, r⟩ := p
    have := congrArg List.length (takeNum_some hx).2
    rw [List.length_append] at this
    simp
    omega
theorem ddML_len (l : List UInt8) : (Ed.ddML l).length ≤ l.length := by
  have h1 := rOf_len l
  have h2 := rOf_len (rOf l)
  have h3 := rOf_len (rOf (rOf l))
  have h4 := Ed.tR_len (rOf (rOf (rOf l))) 64
  have h5 := Ed.tR_len (Ed.tR (rOf (rOf (rOf l))) 64) 64
  unfold Ed.ddML
  omega
theorem DqI.next {w : World} {rd vb mb : Nat} {G N Lg Sq : Int} {K n : Nat} {l5 : List UInt8} {b5 : Bool} {ys : List MV} {v v7 : Value} {L : List UInt8} {wr w5 w7 : World} {y : MV} {cs : Array Value} (h : DqI w rd vb G N Lg Sq K n l5 b5 ys v L false wr) (hK : ys.length < K)
    (hc : DqR w wr rd mb cs (Ed.ddML L) (Ed.ddMB L) w5) (h5 : In5 w5 y.fp ∧ In5 w5 y.lp ∧ metaKind.held w5 y) (hy : y.m = Ed.ddM L) (ho : w7.ownsRow w.heap.size 53 5 v7 (ys.length + 1) (rv metaKind (ys ++ [y]))) (hg : (w5.alloc (Obj.cells (metaKind.vals y).toArray 53)).grownBy w7 v.ownBlock) :
    w7.heap[vb]? = some (.cells #[.int .i64 G, .int .i64 N, .int .i64 Lg, .int .i64 Sq, v] 32) ∧ DqI w rd vb G N Lg Sq K n l5 b5 (ys ++ [y]) v7 (Ed.ddML L) (Ed.ddMB L) (w7.setCell ⟨vb, 4, none⟩ v7) := by
  obtain ⟨W6, hW6⟩ : ∃ W6, w5.alloc (Obj.cells (metaKind.vals y).toArray 53) = W6 := ⟨_, rfl⟩
  have b56 : Below w5.heap.size w5 W6 := by rw [← hW6]; exact (Below.refl _ _).alloc (Nat.le_refl _) _
  rw [hW6] at hg
  obtain ⟨a0, c0, hR0⟩ := h.dq.rdr
  have k6 : Kept (AtB rd) wr W6 := hc.kept.trans (Kept.of_below b56)
  have row6 : W6.ownsRow w.heap.size 53 5 v ys.length (rv metaKind ys) := own_block h.row (fun g hg => k6.block g (own_size h.row hg) (fun e => by
    obtain ⟨cur, hcur⟩ := own_tag h.row hg
    rw [show g = rd from e, hR0.row] at hcur
    cases hcur))
  obtain ⟨a1, c1, hR1⟩ := hc.rdr
  have d6 : Dq w rd vb #[.int .i64 G, .int .i64 N, .int .i64 Lg, .int .i64 Sq, v] (Ed.ddML L) (Ed.ddMB L) W6 := h.dq.num k6 ⟨a1, c1, hR1.below b56⟩
  have keepB : ∀ (g : Nat) (c : Array Value) (t : TypeId) (fr : Nat × Nat), W6.heap[g]? = some (Obj.cells c t fr) → t ≠ 53 → w7.heap[g]? = W6.heap[g]? := fun g c t fr hgc hne => hg.block g (Array.getElem?_eq_some_iff.1 hgc).1 (fun e => by
    obtain ⟨cur, hc⟩ := own_tag row6 e.symm
    rw [hgc] at hc
    cases hc
    exact hne rfl)
  have t67 : B5 W6 w7 := fun g cur fr hgc => keepB g _ _ _ hgc (by decide)
  have z6 : w.heap.size ≤ W6.heap.size := d6.bel.size
  have z67 : Below w.heap.size W6 w7 := (Below.refl w.heap.size W6).grown hg z6 (fun j hj => (row6.lt j hj).1)
  have d7 : Dq w rd vb #[.int .i64 G, .int .i64 N, .int .i64 Lg, .int .i64 Sq, v] (Ed.ddML L) (Ed.ddMB L) w7 := by
    obtain ⟨a6, c6, hR6⟩ := d6.rdr
    exact ⟨d6.bel.trans z67, (keepB _ _ _ _ d6.res (by decide)).trans d6.res, ⟨a6, c6, hR6.on z67 t67 (keepB _ _ _ _ hR6.row (by decide))⟩, (keepB _ _ _ _ d6.ver (by decide)).trans d6.ver, d6.sep⟩
  have t78 : B5 w7 (w7.setCell ⟨vb, 4, none⟩ v7) := B5.of_set d7.ver (by decide) v7
  have t58 : B5 w5 (w7.setCell ⟨vb, 4, none⟩ v7) := ((B5.of_below b56).trans t67).trans t78
  have t05 : B5 wr w5 := B5.of_kept hc.kept (fun g e cur fr hgc => by
    rw [show g = rd from e, hR0.row] at hgc
    cases hgc)
  refine ⟨d7.ver, d7.put 4 v7, ?_, ?_, ?_, ?_, ?_⟩
  · rw [List.length_append]
    refine own_block ho (fun g hg => Below.heap_setCell _ _ _ g (fun e => ?_))
    obtain ⟨cur, hc⟩ := own_tag ho hg
    rw [show g = vb from e, d7.ver] at hc
    cases hc
  · have one : ∀ {a b : World} {z : MV}, B5 a b → In5 a z.fp ∧ In5 a z.lp ∧ metaKind.held a z → In5 b z.fp ∧ In5 b z.lp ∧ metaKind.held b z := fun {a b z} ht hz => ⟨hz.1.on ht, hz.2.1.on ht, src_on hz.2.2.1 hz.1 ht, src_on hz.2.2.2 hz.2.1 ht⟩
    intro z hz
    rcases List.mem_append.1 hz with hz | hz
    · exact one t58 (one t05 (h.each z hz))
    · rw [List.mem_singleton.1 hz]
      exact one t58 h5
  · have e1 : K - ys.length = (K - (ys.length + 1)) + 1 := by omega
    have e2 : Ed.ddMs (K - (ys.length + 1) + 1) L false = (Ed.ddM L :: (Ed.ddMs (K - (ys.length + 1)) (Ed.ddML L) (Ed.ddMB L)).1, (Ed.ddMs (K - (ys.length + 1)) (Ed.ddML L) (Ed.ddMB L)).2) := by
      rw [Ed.ddMs, if_neg (by decide)]
    rw [h.plain, e1, e2, List.map_append, List.length_append, List.append_assoc, ← hy]
    rfl
  · rw [List.length_append]
    exact hK
  · exact Nat.le_trans (ddML_len L) h.short
theorem numX {z rd : Nat} {L L' : List UInt8} {bad bad' : Bool} {x : Nat} (hz : nOf L = x) (hL : rOf L = L') (hd : (bad || Ed.ddB L) = bad') (hb : L.length ≤ 140737488355328) {w : World} {a : Option Addr} {c : Nat} (h : Rx z w rd a L.length c L bad) : Calls Tryz.prog 16 #[.pointer (some ⟨rd, 0, none⟩)] w (NumX z rd x L' bad' w) := by
  subst hz hL hd
  exact dnum_any rd a L.length c L bad w h hb
theorem txtX {z rd : Nat} {L L' : List UInt8} {bad bad' : Bool} {s : List UInt8} (hz : Ed.tS L 64 = s) (hL : Ed.tR L 64 = L') (hd : (bad || Ed.ddC L) = bad') (hb : L.length ≤ 140737488355328) {w : World} {a : Option Addr} {c : Nat} (h : Rx z w rd a L.length c L bad) : Calls Tryz.prog 17 #[.pointer (some ⟨rd, 0, none⟩)] w (TxtX z rd s L' bad' w) := by
  subst hz hL hd
  exact dtext_any rd a L.length c L bad w h hb
end Go.Proofs.YthaiodajfmbeaaaGreat
