/- How far read has come; no walk. -/
/- Rows of records: heads, tails, what is appended at a drawn step; no walk. -/
/- The walk of read. -/
/- The walk of Decode. -/
import Derived.Test.YthnebhddakfadaaGreatDoorJoinTf
import Derived.Test.YthnebhddakfadaaGreatDoorJoinFb
import Derived.Test.YthnebhddakfadaaGreatDoorJoinHm
import Derived.Deep.AppendLies
import Derived.Laws.AppendOwnNone
namespace Go.Proofs.YthnebhddakfadaaGreatDoor
open Go.RowKit
open Ed (Nt)

/-- Blocks of bytes stand. -/
def B5 (w w' : World) : Prop := ∀ (g : Nat) (cur : Array Value) (fr : Nat × Nat), w.heap[g]? = some (.cells cur 5 fr) → w'.heap[g]? = w.heap[g]?
theorem In5.on {w w' : World} {ao : Option Addr} (h : In5 w ao) (ht : B5 w w') : In5 w' ao := fun ad had => by
  obtain ⟨cur, fr, hg⟩ := h ad had
  exact ⟨cur, fr, (ht _ cur fr hg).trans hg⟩
theorem src_on {w w' : World} {ao : Option Addr} {m c : Nat} {l : List UInt8} (h : Src w ao m c l) (h5 : In5 w ao) (ht : B5 w w') : Src w' ao m c l :=
  ⟨h.len, h.cap, h.nil, fun ad had j u hu => by
    obtain ⟨cur, fr, hg⟩ := h5 ad had
    have e : (ad.add j).block = ad.block := add_block ad j
    rw [World.cell?_of_block (w := w) (a := ad.add j) (by rw [e]; exact ht _ cur fr hg)]
    exact h.cells ad had j u hu⟩
theorem B5.trans {a b c : World} (h : B5 a b) (k : B5 b c) : B5 a c := fun g cur fr hg => (k g cur fr ((h g cur fr hg).trans hg)).trans (h g cur fr hg)
theorem B5.of_below {w w' : World} (h : Below w.heap.size w w') : B5 w w' := fun g _ _ hg => h.block g (Array.getElem?_eq_some_iff.1 hg).1
theorem B5.of_kept {w w' : World} {U : Nat → Prop} (h : Kept U w w') (hU : ∀ g, U g → ∀ cur fr, w.heap[g]? ≠ some (.cells cur 5 fr)) : B5 w w' := fun g cur fr hg => h.block g (Array.getElem?_eq_some_iff.1 hg).1 (fun hu => hU g hu cur fr hg)
theorem B5.of_set {w : World} {b i : Nat} {c : Array Value} {t : TypeId} {fr : Nat × Nat} (h : w.heap[b]? = some (.cells c t fr)) (ht : t ≠ 5) (v : Value) : B5 w (w.setCell ⟨b, i, none⟩ v) := fun g cur f hg => Below.heap_setCell _ _ _ g (fun e => by
  rw [show g = b from e, h] at hg
  cases hg
  exact ht rfl)
/-- How far read has come: the notes ys are there, L is left. -/
structure RdI (w : World) (rd vb : Nat) (G N Lg Sq : Int) (K n : Nat) (l5 : List UInt8) (ys : List MV) (v : Value) (L : List UInt8) (wr : World) : Prop where
  bel : Below w.heap.size w wr
  rdr : ∃ ao c, Rd (· < w.heap.size) wr rd ao L.length c L
  ver : wr.heap[vb]? = some (.cells #[.int .i64 G, .int .i64 N, .int .i64 Lg, .int .i64 Sq, v] 50)
  row : wr.ownsRow w.heap.size 113 5 v ys.length (rv metaKind ys)
  each : ∀ y ∈ ys, In5 wr y.fp ∧ In5 wr y.lp ∧ metaKind.held wr y
  plain : Ed.rdMs K l5 = ys.map (·.m) ++ Ed.rdMs (K - ys.length) L
  len : ys.length ≤ K
  short : L.length ≤ n
theorem rdL_len (l : List UInt8) : (Ed.rdL l).length ≤ l.length := by unfold Ed.rdL; rw [List.length_drop]; omega
theorem rdT_len (l : List UInt8) : (Ed.rdT l).length ≤ l.length := by unfold Ed.rdT; rw [List.length_drop]; omega
theorem rdML_len (l : List UInt8) : (Ed.rdML l).length ≤ l.length := by
  have h1 := rdL_len l
  have h2 := rdL_len (Ed.rdL l)
  have h3 := rdL_len (Ed.rdL (Ed.rdL l))
  have h4 := rdT_len (Ed.rdL (Ed.rdL (Ed.rdL l)))
  have h5 := rdT_len (Ed.rdT (Ed.rdL (Ed.rdL (Ed.rdL l))))
  unfold Ed.rdML
  omega
/-- The five calls of a round are over: the reader went on, the note's texts are there. -/
structure RdC (w : World) (rd : Nat) (L : List UInt8) (wr w5 : World) (y : MV) : Prop where
  kept : Kept (AtB rd) wr w5
  rdr : ∃ ao c, Rd (· < w.heap.size) w5 rd ao (Ed.rdML L).length c (Ed.rdML L)
  five : In5 w5 y.fp ∧ In5 w5 y.lp ∧ metaKind.held w5 y
  val : y.m = Ed.rdM L
theorem RdI.next {w : World} {rd vb : Nat} {G N Lg Sq : Int} {K n : Nat} {l5 : List UInt8} {ys : List MV} {v v7 : Value} {L : List UInt8} {wr w5 w7 : World} {y : MV} (h : RdI w rd vb G N Lg Sq K n l5 ys v L wr) (hr : w.heap.size ≤ rd) (hv : w.heap.size ≤ vb) (hL : 0 < L.length) (hK : ys.length < K)
    (hc : RdC w rd L wr w5 y) (ho : w7.ownsRow w.heap.size 113 5 v7 (ys.length + 1) (rv metaKind (ys ++ [y]))) (hg : (w5.alloc (Obj.cells (metaKind.vals y).toArray 113)).grownBy w7 v.ownBlock) :
    w7.heap[vb]? = some (.cells #[.int .i64 G, .int .i64 N, .int .i64 Lg, .int .i64 Sq, v] 50) ∧ RdI w rd vb G N Lg Sq K n l5 (ys ++ [y]) v7 (Ed.rdML L) (w7.setCell ⟨vb, 4, none⟩ v7) := by
  obtain ⟨W6, hW6⟩ : ∃ W6, w5.alloc (Obj.cells (metaKind.vals y).toArray 113) = W6 := ⟨_, rfl⟩
  have b56 : Below w5.heap.size w5 W6 := by rw [← hW6]; exact (Below.refl _ _).alloc (Nat.le_refl _) _
  rw [hW6] at hg
  obtain ⟨a0, c0, hR0⟩ := h.rdr
  obtain ⟨a1, c1, hR1⟩ := hc.rdr
  have hvr : vb ≠ rd := fun e => by
    have h1 := h.ver
    rw [e, hR0.row] at h1
    cases h1
  have k6 : Kept (AtB rd) wr W6 := hc.kept.trans (Kept.of_below b56)
  have row6 : W6.ownsRow w.heap.size 113 5 v ys.length (rv metaKind ys) := own_block h.row (fun g hg => k6.block g (own_size h.row hg) (fun e => by
    obtain ⟨cur, hcur⟩ := own_tag h.row hg
    rw [show g = rd from e, hR0.row] at hcur
    cases hcur))
  have ver6 : W6.heap[vb]? = some (.cells #[.int .i64 G, .int .i64 N, .int .i64 Lg, .int .i64 Sq, v] 50) := (k6.block vb (Array.getElem?_eq_some_iff.1 h.ver).1 hvr).trans h.ver
  have keepB : ∀ (g : Nat) (c : Array Value) (t : TypeId) (fr : Nat × Nat), W6.heap[g]? = some (Obj.cells c t fr) → t ≠ 113 → w7.heap[g]? = W6.heap[g]? := fun g c t fr hgc hne => hg.block g (Array.getElem?_eq_some_iff.1 hgc).1 (fun e => by
    obtain ⟨cur, hc⟩ := own_tag row6 e.symm
    rw [hgc] at hc
    cases hc
    exact hne rfl)
  have ver7 : w7.heap[vb]? = some (.cells #[.int .i64 G, .int .i64 N, .int .i64 Lg, .int .i64 Sq, v] 50) := (keepB vb _ _ _ ver6 (by decide)).trans ver6
  have t67 : B5 W6 w7 := fun g cur fr hgc => keepB g _ _ _ hgc (by decide)
  have t78 : B5 w7 (w7.setCell ⟨vb, 4, none⟩ v7) := B5.of_set ver7 (by decide) v7
  have t58 : B5 w5 (w7.setCell ⟨vb, 4, none⟩ v7) := ((B5.of_below b56).trans t67).trans t78
  have t05 : B5 wr w5 := B5.of_kept hc.kept (fun g e cur fr hgc => by
    rw [show g = rd from e, hR0.row] at hgc
    cases hgc)
  have r6 := hR1.below b56
  have r7 : w7.heap[rd]? = _ := (keepB rd _ _ _ r6.row (by decide)).trans r6.row
  have b58 : Below w.heap.size w5 (w7.setCell ⟨vb, 4, none⟩ v7) := by
    have s5 : w.heap.size ≤ w5.heap.size := Nat.le_trans h.bel.size hc.kept.size
    exact ((b56.mono s5).grown hg (Nat.le_trans s5 b56.size) (fun j hj => (row6.lt j hj).1)).setCell (p := ⟨vb, 4, none⟩) hv _
  refine ⟨ver7, ?_, ?_, set_row ver7 4 v7, ?_, ?_, ?_, ?_, ?_⟩
  · have b6 : Below w.heap.size w W6 := h.bel.trans (k6.below h.bel.size (fun g e => by rw [show g = rd from e]; exact hr))
    exact (b6.grown hg b6.size (fun j hj => (row6.lt j hj).1)).setCell (p := ⟨vb, 4, none⟩) hv _
  · refine ⟨a1, c1, (Below.heap_setCell _ _ _ rd (fun e => hvr (show rd = vb from e).symm)).trans r7, ?_, hR1.far, hR1.free⟩
    exact hR1.src.below' (B := w.heap.size) (fun ad h1 _ => hR1.far ad h1) b58
  · rw [List.length_append]
    refine own_block ho (fun g hg => Below.heap_setCell _ _ _ g (fun e => ?_))
    obtain ⟨cur, hc⟩ := own_tag ho hg
    rw [show g = vb from e, ver7] at hc
    cases hc
  · have one : ∀ {a b : World} {z : MV}, B5 a b → In5 a z.fp ∧ In5 a z.lp ∧ metaKind.held a z → In5 b z.fp ∧ In5 b z.lp ∧ metaKind.held b z := fun {a b z} ht hz => ⟨hz.1.on ht, hz.2.1.on ht, src_on hz.2.2.1 hz.1 ht, src_on hz.2.2.2 hz.2.1 ht⟩
    intro z hz
    rcases List.mem_append.1 hz with hz | hz
    · exact one t58 (one t05 (h.each z hz))
    · rw [List.mem_singleton.1 hz]
      exact one t58 hc.five
  · have e1 : K - ys.length = (K - (ys.length + 1)) + 1 := by omega
    rw [h.plain, e1, List.map_append, List.length_append, List.append_assoc]
    have e2 : Ed.rdMs (K - (ys.length + 1) + 1) L = Ed.rdM L :: Ed.rdMs (K - (ys.length + 1)) (Ed.rdML L) := by
      rw [Ed.rdMs, if_neg (by omega)]
    rw [e2, ← hc.val]
    rfl
  · rw [List.length_append]
    exact hK
  · exact Nat.le_trans (rdML_len L) h.short
end Go.Proofs.YthnebhddakfadaaGreatDoor
namespace Go.Proofs.YthnebhddakfadaaGreatDoor
open Go.RowKit
open Ed (Nt)

theorem RSrc.head {α : Type} {k : Kind α} (K : k.Ok) {w : World} {ao : Option Addr} {n c : Nat} {es : List α} (h : RSrc k w ao n c es) (m : Nat) (hm : m ≤ n) : RSrc k w ao m c (es.take m) :=
  ⟨by rw [List.length_take, h.len]; omega, Nat.le_trans hm h.cap, fun e => ⟨by have := (h.nil e).1; omega, (h.nil e).2⟩, fun ad had j u hu => by
    obtain ⟨i, q, e, rfl, hq, he, hv⟩ := rv_get K hu
    have hi : es[i]? = some e := by
      rw [List.getElem?_take] at he
      split at he
      · exact he
      · cases he
    exact h.cells ad had _ u ((rv_at K q hi hq).trans hv), fun e he => h.held e (List.mem_of_mem_take he)⟩
theorem RSrc.tail {α : Type} {k : Kind α} (K : k.Ok) {w : World} {b off n c : Nat} {es : List α} (h : RSrc k w (some ⟨b, off, none⟩) n c es) (m : Nat) (hm : m ≤ n) : RSrc k w (some ⟨b, off + m * k.size, none⟩) (n - m) (c - m) (es.drop m) := by
  have hl := h.len
  have hc := h.cap
  refine ⟨by rw [List.length_drop]; omega, by omega, fun e => (by cases e), fun ad had j u hu => ?_, fun e he => h.held e (List.mem_of_mem_drop he)⟩
  cases had
  obtain ⟨p, q, e, rfl, hq, he, hv⟩ := rv_get K hu
  rw [List.getElem?_drop] at he
  have h1 := h.cells _ rfl ((m + p) * k.size + q) u ((rv_at K q he hq).trans hv)
  rw [Addr.add_mid] at h1 ⊢
  rw [show off + m * k.size + (p * k.size + q) = off + ((m + p) * k.size + q) by rw [Nat.add_mul]; omega]
  exact h1
/-- Where blocks are as they were, but for one of another kind. -/
theorem RSrc.grown {α : Type} {k : Kind α} {w w' : World} {ao : Option Addr} {n c : Nat} {es : List α} {row : Option Nat} (h : RSrc k w ao n c es) (hg : w.grownBy w' row) (hf : ∀ ad, ao = some ad → some ad.block ≠ row) (hh : ∀ e ∈ es, k.held w' e) : RSrc k w' ao n c es :=
  ⟨h.len, h.cap, h.nil, fun ad had j u hu => by
    have h1 := h.cells ad had j u hu
    have hb : (ad.add j).block = ad.block := by first | rfl | (unfold Addr.add; split <;> rfl) | simp [Addr.add]
    rw [World.cell?_of_block (w := w) (hg.block _ (World.block_lt_of_cell? w _ h1) (by rw [hb]; exact hf ad had))]
    exact h1, hh⟩
theorem own_sliceM {w : World} {B t k n : Nat} {v : Value} {xs : List Value} (h : w.ownsRow B t k v n xs) : ∃ ao c, v = .slice ao n c := by
  rcases h.2 with ⟨rfl, rfl⟩ | ⟨g, cap, cur, rfl, _⟩
  · exact ⟨_, _, rfl⟩
  · exact ⟨_, _, rfl⟩
theorem step_append_rows {P : Program} {w : World} {ops : Array Oper} {o : Oper} {a : Act} {K : Act → World → Prop} {Q : Exit → Act → World → Prop} {E : Prop} (hgd : o.guard = none) (s x : Operand) (t : TypeId)
    (ho : o.op = .call { callee := .builtin .append, args := #[s, x], argTypes := #[t, t] })
    (base : Nat) (e : TypeId) (i : TypeInfo) (z : Value) (size bytes : Nat) (ht : P.underlying t = some (.slice e)) (hi : P.info? e = some i) (hz : i.zero = some z)
    (hsize : i.size = size) (hby : i.bytes = bytes) (hzs : z.cells.size = size) (hsz : 0 < size)
    (v : Value) (n : Nat) (xs : List Value) (hs : a.eval s = v) (hown : w.ownsRow base e size v n xs)
    (ao : Option Addr) (m c : Nat) (news : List Value) (hx : a.eval x = .slice ao m c) (hnil : ao = none → m = 0 ∧ c = 0) (hl : news.length = m * size) (hnews : ∀ ad, ao = some ad → ∀ j u, news[j]? = some u → w.cell? (ad.add j) = some u) (h1 : ∀ u ∈ news, u.oneCell' = true)
    (h63 : n + m ≤ maxLen) (hbytes : (n + m) * bytes ≤ 140737488355328) (hbase : base ≤ w.heap.size)
    (h : ∀ a' cap w', w'.ownsRow base e size (.slice a' (n + m) cap) (n + m) (xs ++ news) → w.grownBy w' v.ownBlock → K (a.put o.dst (.slice a' (n + m) cap)) w') :
    if Region.wanted o (yielded ops a.tmps) = true then Oper.wp P o a w K Q else E := by
  have hw : Region.wanted o (yielded ops a.tmps) = true := by simp [Region.wanted, hgd]
  rw [if_pos hw]
  cases ao with
  | some ad =>
    obtain ⟨v', w', hr, h2, h3, _, _⟩ := run_append_own_at (P := P) w base t o.type e i z size bytes ht hi hz hsize hby hzs hsz v n xs hown ad m c news hl (hnews ad rfl) h1 h63 hbytes hbase
    obtain ⟨a', c', rfl⟩ := own_sliceM h2
    unfold Oper.wp execOp
    simp only [ho, resolve, invoke, builtin, Sem.run_bind, Sem.run_pure, Result.andThen_ok, List.map_toArray, List.map_cons, List.map_nil, hs, hx, hr]
    exact h a' c' w' h2 h3
  | none =>
    obtain ⟨rfl, rfl⟩ := hnil rfl
    obtain rfl : news = [] := List.length_eq_zero_iff.1 (by rw [hl, Nat.zero_mul])
    have hrun := run_append_owned_none (P := P) (w := w) base t o.type e i size ht hi v n xs hown
    obtain ⟨a', c', rfl⟩ := own_sliceM hown
    unfold Oper.wp
    simp [execOp, ho, resolve, invoke, builtin, hs, hx, hrun, Result.andThen]
    exact h a' c' w (by rw [List.append_nil]; exact hown) (World.grownBy.refl _ _)
theorem RSrc.built1M {w : World} {x : MV} {t : TypeId} (hx : metaKind.held w x) : RSrc metaKind (w.alloc (.cells (metaKind.vals x).toArray t)) (some ⟨w.heap.size, 0, none⟩) 1 1 [x] :=
  ⟨rfl, Nat.le_refl _, fun e => (by cases e), fun ad had j u hu => by
    cases had
    have h1 : (metaKind.vals x)[j]? = some u := by simpa [rv] using hu
    exact rec_cells (k := metaKind) w t x j u h1, fun e he => by
    rw [List.mem_singleton.1 he]
    exact metaKind_ok.below hx ((Below.refl _ _).alloc (Nat.le_refl _) _)⟩
end Go.Proofs.YthnebhddakfadaaGreatDoor
namespace Go.Proofs.YthnebhddakfadaaGreatDoor
open Go.RowKit
open Ed (Nt)

/-- How many notes a version in memory has. -/
def tabN (w : World) (b : Nat) : Nat := match w.cell? ⟨b, 4, none⟩ with
  | some (.slice _ n _) => n
  | _ => 0
theorem own_fiveX {w : World} {B t k n : Nat} {v : Value} {xs : List Value} (h : w.ownsRow B t k v n xs) {E T : Nat} {cs : Array Value} {fr : Nat × Nat} (hE : w.heap[E]? = some (.cells cs T fr)) (hT : T ≠ t) (a0 a1 a2 a3 a4 : Value) : (((((w.setCell ⟨E, 0, none⟩ a0).setCell ⟨E, 1, none⟩ a1).setCell ⟨E, 2, none⟩ a2).setCell ⟨E, 3, none⟩ a3).setCell ⟨E, 4, none⟩ a4).ownsRow B t k v n xs :=
  own_block h (fun j hj => by
    have hne : j ≠ E := fun e => by
      obtain ⟨cur, hcur⟩ := own_tag h hj
      rw [e, hE] at hcur
      cases hcur
      exact hT rfl
    have one : ∀ (W : World) (i : Nat) (u : Value), (W.setCell ⟨E, i, none⟩ u).heap[j]? = W.heap[j]? := fun W i u => Below.heap_setCell W ⟨E, i, none⟩ u j hne
    rw [one, one, one, one, one])
theorem B5.five {w : World} {E T : Nat} {cs : Array Value} {fr : Nat × Nat} (hE : w.heap[E]? = some (.cells cs T fr)) (hT : T ≠ 5) (a0 a1 a2 a3 a4 : Value) : B5 w (((((w.setCell ⟨E, 0, none⟩ a0).setCell ⟨E, 1, none⟩ a1).setCell ⟨E, 2, none⟩ a2).setCell ⟨E, 3, none⟩ a3).setCell ⟨E, 4, none⟩ a4) := fun g cur f hg => by
  have hne : g ≠ E := fun e => by
    rw [e, hE] at hg
    cases hg
    exact hT rfl
  have one : ∀ (W : World) (i : Nat) (u : Value), (W.setCell ⟨E, i, none⟩ u).heap[g]? = W.heap[g]? := fun W i u => Below.heap_setCell W ⟨E, i, none⟩ u g hne
  rw [one, one, one, one, one]
theorem rdMs_end {k : Nat} {L : List UInt8} (h : k = 0 ∨ L.length = 0) : Ed.rdMs k L = [] := by
  cases k with
  | zero => rfl
  | succ k =>
    rcases h with h | h
    · omega
    · rw [Ed.rdMs, if_pos h]
/-- A version's notes in memory of their own, their bytes in blocks of bytes. -/
def Firm (B : Nat) (w : World) (x : VV) : Prop := w.ownsRow B 113 5 (.slice x.p x.n x.c) x.n (rv metaKind x.es) ∧ ∀ y ∈ x.es, In5 w y.fp ∧ In5 w y.lp ∧ metaKind.held w y
theorem Firm.held {B : Nat} {w : World} {x : VV} (h : Firm B w x) : VV.held w x := by
  obtain ⟨q2, c2, e2, h2, _⟩ := RSrc.own metaKind_ok h.1 (fun y hy => (h.2 y hy).2.2)
  cases e2
  exact h2
theorem Firm.below {B : Nat} {w w' : World} {x : VV} (h : Firm B w x) (hb : Below w.heap.size w w') : Firm B w' x :=
  ⟨own_block h.1 (fun g hg => hb.block g (own_size h.1 hg)), fun y hy => ⟨(h.2 y hy).1.on (B5.of_below hb), (h.2 y hy).2.1.on (B5.of_below hb), metaKind_ok.below (h.2 y hy).2.2 hb⟩⟩
theorem Firm.five {B : Nat} {w : World} {x : VV} (h : Firm B w x) {E T : Nat} {cs : Array Value} {fr : Nat × Nat} (hE : w.heap[E]? = some (.cells cs T fr)) (h1 : T ≠ 113) (h2 : T ≠ 5) (a0 a1 a2 a3 a4 : Value) : Firm B (((((w.setCell ⟨E, 0, none⟩ a0).setCell ⟨E, 1, none⟩ a1).setCell ⟨E, 2, none⟩ a2).setCell ⟨E, 3, none⟩ a3).setCell ⟨E, 4, none⟩ a4) x :=
  have tb := B5.five hE h2 a0 a1 a2 a3 a4
  ⟨own_fiveX h.1 hE h1 a0 a1 a2 a3 a4, fun y hy => ⟨(h.2 y hy).1.on tb, (h.2 y hy).2.1.on tb, src_on (h.2 y hy).2.2.1 (h.2 y hy).1 tb, src_on (h.2 y hy).2.2.2 (h.2 y hy).2.1 tb⟩⟩
/-- A number is read. -/
def NumA (F : Nat → Prop) (rd : Nat) (z : Nat) (L' : List UInt8) (w : World) (e : Ending) (w' : World) : Prop := e = .returned (.int .i64 (z : Int)) ∧ Kept (AtB rd) w w' ∧ ∃ a2 c2, Rd F w' rd a2 L'.length c2 L'
/-- A text is read. -/
def TxtA (F : Nat → Prop) (rd : Nat) (s : List UInt8) (L' : List UInt8) (w : World) (e : Ending) (w' : World) : Prop := ∃ g cap, e = .returned (.slice (some ⟨g, 0, none⟩) s.length cap) ∧ In5 w' (some ⟨g, 0, none⟩) ∧ Src w' (some ⟨g, 0, none⟩) s.length cap s ∧ Kept (AtB rd) w w' ∧ ∃ a2 c2, Rd F w' rd a2 L'.length c2 L'
theorem numA {F : Nat → Prop} {rd : Nat} {L L' : List UInt8} {z : Nat} (hz : Ed.rdN L = z) (hL : Ed.rdL L = L') (hb : L.length ≤ 140737488355328) {w : World} {a : Option Addr} {c : Nat} (h : Rd F w rd a L.length c L) : Calls Tryz.prog 176 #[.pointer (some ⟨rd, 0, none⟩)] w (NumA F rd z L' w) := by
  subst hz hL
  refine (rnum_any rd a L.length c L w h hb).mono ?_
  rintro e w' ⟨h1, h2, h3⟩
  exact ⟨h1, h2, h3⟩
theorem txtA {F : Nat → Prop} {rd : Nat} {L L' s : List UInt8} (hz : Ed.rdS L = s) (hL : Ed.rdT L = L') (hb : L.length ≤ 140737488355328) {w : World} {a : Option Addr} {c : Nat} (h : Rd F w rd a L.length c L) : Calls Tryz.prog 177 #[.pointer (some ⟨rd, 0, none⟩)] w (TxtA F rd s L' w) := by
  subst hz hL
  refine (rtext_any rd a L.length c L w h hb).mono ?_
  rintro e w' ⟨g, cap, h1, _, h2, h3, h4, h5⟩
  exact ⟨g, cap, h1, h2, h3, h4, h5⟩

set_option maxHeartbeats 3000000 in
set_option maxRecDepth 100000 in
theorem read_any (ao : Option Addr) (c : Nat) (l : List UInt8) (w : World) (hs : Src w ao l.length c l) (hlt : ∀ ad, ao = some ad → ad.block < w.heap.size) (hn : l.length ≤ 140737488355328) :
    Calls Tryz.prog 141 #[.slice ao l.length c] w fun e w' => ∃ x : VV, e = .returned x.val ∧ x.v = Ed.rdV l ∧ VV.held w' x ∧ Firm w.heap.size w' x ∧ Below w.heap.size w w' := by
  obtain ⟨i0, hi0, hz0, hz1, hz2⟩ := info_partsM infoMeta
  obtain ⟨W1, hW1⟩ : ∃ W1, w.alloc (.cells #[.int .i64 0, .int .i64 0, .int .i64 0, .int .i64 0, .slice none 0 0] 50) = W1 := ⟨_, rfl⟩
  have b1 : Hid (Below w.heap.size w W1) := by rw [← hW1]; exact (Below.refl _ _).alloc (Nat.le_refl _) _
  have g1 : Hid (W1.heap[w.heap.size]? = some (.cells #[.int .i64 0, .int .i64 0, .int .i64 0, .int .i64 0, .slice none 0 0] 50)) := by rw [← hW1]; exact heap_alloc_new w _
  have z1 : Hid (W1.heap.size = w.heap.size + 1) := by rw [← hW1]; exact World.size_alloc _ _
  obtain ⟨M0, hM0⟩ : ∃ M0, l.length = M0 := ⟨_, rfl⟩
  obtain ⟨W2, hW2⟩ : ∃ W2, W1.alloc (.cells #[.slice ao M0 c] 216) = W2 := ⟨_, rfl⟩
  have b2 : Hid (Below W1.heap.size W1 W2) := by rw [← hW2]; exact (Below.refl _ _).alloc (Nat.le_refl _) _
  have R2 : Hid (Rd (· < w.heap.size) W2 W1.heap.size ao l.length c l) := ⟨by rw [← hW2, hM0]; exact heap_alloc_new W1 _, (hs.below b1.out).below b2.out, hlt, by have := z1.out; show ¬ W1.heap.size < w.heap.size; omega⟩
  obtain ⟨rd, hrd⟩ : ∃ rd, W1.heap.size = rd := ⟨_, rfl⟩
  rw [hrd] at R2
  have hwr : Hid (w.heap.size ≤ rd) := by have := z1.out; show _ ≤ _; omega
  have HLN := keep hn
  obtain ⟨l1, e1⟩ : ∃ x, Ed.rdL l = x := ⟨_, rfl⟩
  obtain ⟨l2, e2⟩ : ∃ x, Ed.rdL l1 = x := ⟨_, rfl⟩
  obtain ⟨l3, e3⟩ : ∃ x, Ed.rdL l2 = x := ⟨_, rfl⟩
  obtain ⟨l4, e4⟩ : ∃ x, Ed.rdL l3 = x := ⟨_, rfl⟩
  obtain ⟨l5, e5⟩ : ∃ x, Ed.rdL l4 = x := ⟨_, rfl⟩
  obtain ⟨G, f1⟩ : ∃ x, Ed.rdN l = x := ⟨_, rfl⟩
  obtain ⟨N, f2⟩ : ∃ x, Ed.rdN l1 = x := ⟨_, rfl⟩
  obtain ⟨Lg, f3⟩ : ∃ x, Ed.rdN l2 = x := ⟨_, rfl⟩
  obtain ⟨Sq, f4⟩ : ∃ x, Ed.rdN l3 = x := ⟨_, rfl⟩
  obtain ⟨Kn, f5⟩ : ∃ x, Ed.rdN l4 = x := ⟨_, rfl⟩
  have HV : Hid (Ed.rdV l = ⟨(G : Int), (N : Int), (Lg : Int), (Sq : Int), Ed.rdMs (min Kn 4096) l5⟩) := by
    show _ = _
    unfold Ed.rdV
    rw [f1, e1, f2, e2, f3, e3, f4, e4, f5, e5]
  have S1 : Hid (l1.length ≤ l.length) := by rw [← e1]; exact rdL_len l
  have S2 : Hid (l2.length ≤ l.length) := by rw [← e2]; exact Nat.le_trans (rdL_len l1) S1.out
  have S3 : Hid (l3.length ≤ l.length) := by rw [← e3]; exact Nat.le_trans (rdL_len l2) S2.out
  have S4 : Hid (l4.length ≤ l.length) := by rw [← e4]; exact Nat.le_trans (rdL_len l3) S3.out
  have S5 : Hid (l5.length ≤ l.length) := by rw [← e5]; exact Nat.le_trans (rdL_len l4) S4.out
  have N1 := keep (fun (w' : World) (a : Option Addr) (cc : Nat) (h : Rd (· < w.heap.size) w' rd a l.length cc l) => numA f1 e1 HLN.out h)
  have N2 := keep (fun (w' : World) (a : Option Addr) (cc : Nat) (h : Rd (· < w.heap.size) w' rd a l1.length cc l1) => numA f2 e2 (Nat.le_trans S1.out HLN.out) h)
  have N3 := keep (fun (w' : World) (a : Option Addr) (cc : Nat) (h : Rd (· < w.heap.size) w' rd a l2.length cc l2) => numA f3 e3 (Nat.le_trans S2.out HLN.out) h)
  have N4 := keep (fun (w' : World) (a : Option Addr) (cc : Nat) (h : Rd (· < w.heap.size) w' rd a l3.length cc l3) => numA f4 e4 (Nat.le_trans S3.out HLN.out) h)
  have N5 := keep (fun (w' : World) (a : Option Addr) (cc : Nat) (h : Rd (· < w.heap.size) w' rd a l4.length cc l4) => numA f5 e5 (Nat.le_trans S4.out HLN.out) h)
  have HM0 := keep hM0
  rw [hM0]
  have HE := keep hrd
  clear hs hlt hn e1 e2 e3 e4 e5 f1 f2 f3 f4 f5 hM0
  go_enter Tryz.func141, Tryz.ntmps141
  go_wp2_with fail
  refine (N1.out W2 ao c R2.out).mono ?_
  rintro e w3 ⟨rfl, hk, a3, c3, hr⟩
  have K3 := keep hk
  have R3 := keep hr
  clear hk hr hW1 hW2
  go_wp2_with fail
  refine (N2.out w3 a3 c3 R3.out).mono ?_
  rintro e w4 ⟨rfl, hk, a4, c4, hr⟩
  have K4 := keep (K3.out.trans hk)
  have R4 := keep hr
  clear hk hr
  go_wp2_with fail
  refine (N3.out w4 a4 c4 R4.out).mono ?_
  rintro e w5 ⟨rfl, hk, a5, c5, hr⟩
  have K5 := keep (K4.out.trans hk)
  have R5 := keep hr
  clear hk hr
  go_wp2_with fail
  refine (N4.out w5 a5 c5 R5.out).mono ?_
  rintro e w6 ⟨rfl, hk, a6, c6, hr⟩
  have K6 := keep (K5.out.trans hk)
  have R6 := keep hr
  clear hk hr
  obtain ⟨Wa, hWa⟩ : ∃ Wa, w6.alloc (.cells #[.int .i64 (G : Int), .int .i64 (N : Int), .int .i64 (Lg : Int), .int .i64 (Sq : Int), .slice none 0 0] 50) = Wa := ⟨_, rfl⟩
  have ga : Hid (Wa.heap[w6.heap.size]? = some (.cells #[.int .i64 (G : Int), .int .i64 (N : Int), .int .i64 (Lg : Int), .int .i64 (Sq : Int), .slice none 0 0] 50)) := by rw [← hWa]; exact heap_alloc_new w6 _
  have ca : Wa.cell? ⟨w6.heap.size, 4, none⟩ = some (.slice none 0 0) := cell_of_row _ _ _ _ _ _ ga.out
  have fa : Wa.frozen? ⟨w6.heap.size, 4, none⟩ = false := by simp [World.frozen?, ga.out]
  obtain ⟨W7, hW7⟩ : ∃ W7, Wa.setCell ⟨w6.heap.size, 4, none⟩ (.slice none 0 0) = W7 := ⟨_, rfl⟩
  have b7 : Hid (Below w6.heap.size w6 W7) := by rw [← hW7, ← hWa]; exact ((Below.refl _ _).alloc (Nat.le_refl _) _).setCell (p := ⟨w6.heap.size, 4, none⟩) (Nat.le_refl _) _
  have g7 : Hid (W7.heap[w6.heap.size]? = some (.cells #[.int .i64 (G : Int), .int .i64 (N : Int), .int .i64 (Lg : Int), .int .i64 (Sq : Int), .slice none 0 0] 50)) := by rw [← hW7]; exact (set_row ga.out 4 _).trans (by simp)
  have B2 := keep (b1.out.trans (b2.out.mono b1.out.size))
  have B6 : Hid (Below w.heap.size w w6) := B2.out.trans (K6.out.below B2.out.size (fun g e => by rw [show g = rd from e]; exact hwr.out))
  have B7 : Hid (Below w.heap.size w W7) := B6.out.trans (b7.out.mono B6.out.size)
  have hrv : Hid (rd < w6.heap.size) := R6.out.lt
  have G6 : Hid (w6.heap[w.heap.size]? = some (.cells #[.int .i64 0, .int .i64 0, .int .i64 0, .int .i64 0, .slice none 0 0] 50)) := by
    have h1 : W2.heap[w.heap.size]? = _ := (b2.out.block _ (by rw [z1.out]; omega)).trans g1.out
    exact (K6.out.block _ (Array.getElem?_eq_some_iff.1 h1).1 (fun e => by have h2 := HE.out; have h3 := z1.out; have h4 : w.heap.size = rd := e; omega)).trans h1
  have G7 : Hid (W7.heap[w.heap.size]? = _) := (b7.out.block _ (Array.getElem?_eq_some_iff.1 G6.out).1).trans G6.out
  clear hrd
  go_wp2_with fail
  refine (N5.out W7 a6 c6 (R6.out.below b7.out)).mono ?_
  rintro e w8 ⟨rfl, hk, a8, c8, hr⟩
  obtain ⟨vb, hvb⟩ : ∃ vb, w6.heap.size = vb := ⟨_, rfl⟩
  obtain ⟨KK, hK⟩ : ∃ KK, min Kn 4096 = KK := ⟨_, rfl⟩
  have hmin : min (Kn : Int) 4096 = (KK : Int) := by omega
  have hK4 : KK ≤ 4096 := by omega
  rw [hK] at HV
  have hwv : Hid (w.heap.size ≤ vb) := by rw [← hvb]; exact B6.out.size
  have G8 : Hid (w8.heap[w.heap.size]? = some (.cells #[.int .i64 0, .int .i64 0, .int .i64 0, .int .i64 0, .slice none 0 0] 50)) := (hk.block _ (Array.getElem?_eq_some_iff.1 G7.out).1 (fun e => by have h2 := HE.out; have h3 := z1.out; have h4 : w.heap.size = rd := e; omega)).trans G7.out
  have g8 : Hid (w8.heap[vb]? = some (.cells #[.int .i64 (G : Int), .int .i64 (N : Int), .int .i64 (Lg : Int), .int .i64 (Sq : Int), .slice none 0 0] 50)) := by
    rw [← hvb]
    exact (hk.block _ (Array.getElem?_eq_some_iff.1 g7.out).1 (fun e => by have h1 : w6.heap.size = rd := e; have h2 := hrv.out; omega)).trans g7.out
  have I8 : Hid (RdI w rd vb G N Lg Sq KK M0 l5 [] (.slice none 0 0) l5 w8 ∧ w8.heap[w.heap.size]? = some (.cells #[.int .i64 0, .int .i64 0, .int .i64 0, .int .i64 0, .slice none 0 0] 50)) := ⟨⟨B7.out.trans (hk.below B7.out.size (fun g e => by rw [show g = rd from e]; exact hwr.out)), ⟨a8, c8, hr⟩, g8.out, World.ownsRow_nil _ _ _ _, fun y hy => (by cases hy), rfl, Nat.zero_le _, by rw [← HM0.out]; exact S5.out⟩, G8.out⟩
  have wne : Hid (w.heap.size ≠ vb ∧ w.heap.size ≠ rd) := ⟨fun e => by have h2 := hrv.out; have h1 := hwr.out; omega, fun e => by have h2 := HE.out; have h3 := z1.out; omega⟩
  clear hk hr g8 g7 b7 R2 R3 R4 R5 R6 K3 K4 K5 K6 N1 N2 N3 N4 N5 b1 b2 B2 B6 B7 hrv G6 G7 G8 g1 hK
  go_wp2
  clear hmin hW7 hWa ca fa
  go_loopw [] (fun wr => ∃ (ys : List MV) (v : Value) (L : List UInt8), Hid (RdI w rd vb G N Lg Sq KK M0 l5 ys v L wr ∧ wr.heap[w.heap.size]? = some (.cells #[.int .i64 0, .int .i64 0, .int .i64 0, .int .i64 0, .slice none 0 0] 50))) (fun wr => KK - tabN wr vb)
  case atStart => exact ⟨[], _, l5, I8.out⟩
  case round =>
    obtain ⟨ys, v, L, hIJ⟩ := hrel
    have hI := keep hIJ.out.1
    have hRS := keep hIJ.out.2
    clear hIJ I8
    obtain ⟨q, cc, hvq⟩ := own_sliceM hI.out.row
    subst hvq
    obtain ⟨YN, hYN⟩ : ∃ YN, ys.length = YN := ⟨_, rfl⟩
    obtain ⟨LL, hLL⟩ : ∃ LL, L.length = LL := ⟨_, rfl⟩
    obtain ⟨ar, cr, hr⟩ := hI.out.rdr
    have RR := keep hr
    have cv : wr.cell? ⟨vb, 4, none⟩ = some (.slice q YN cc) := by rw [cell_of_row _ _ _ _ _ _ hI.out.ver]; rw [hYN]; rfl
    have crd : wr.cell? ⟨rd, 0, none⟩ = some (.slice ar LL cr) := by rw [← hLL]; exact hr.cell
    have hyK : YN ≤ KK := by rw [← hYN]; exact hI.out.len
    have hLn : LL ≤ M0 := by rw [← hLL]; exact hI.out.short
    have HYN := keep hYN
    have HLL := keep hLL
    have TN : Hid (tabN wr vb = YN) := by show tabN wr vb = YN; unfold tabN; rw [cv]
    clear hr hYN hLL
    by_cases hc : YN < KK ∧ 0 < LL
    · obtain ⟨hc1, hc2⟩ := hc
      have d1 : (YN : Int) < (KK : Int) := by omega
      have d2 : (0 : Int) < (LL : Int) := by omega
      have HRW : Hid (wr.ownsRow w.heap.size 113 5 (.slice q YN cc) YN (rv metaKind ys)) := by have := hI.out.row; rw [HYN.out] at this; exact this
      have CV : Hid (∀ w', Kept (fun g => AtB rd g ∨ (Value.slice q YN cc).ownBlock = some g) wr w' → w'.cell? ⟨vb, 4, none⟩ = some (.slice q YN cc) ∧ w'.frozen? ⟨vb, 4, none⟩ = false ∧ w'.heap[w.heap.size]? = wr.heap[w.heap.size]?) := fun w' hk => by
        have nv : ¬ (AtB rd vb ∨ (Value.slice q YN cc).ownBlock = some vb) := by
          rintro (e | e)
          · have h1 := hI.out.ver
            rw [show vb = rd from e, RR.out.row] at h1
            cases h1
          · obtain ⟨cur, h1⟩ := own_tag HRW.out e
            rw [hI.out.ver] at h1
            cases h1
        have h2 := (hk.block vb (Array.getElem?_eq_some_iff.1 hI.out.ver).1 nv).trans hI.out.ver
        refine ⟨by rw [cell_of_row _ _ _ _ _ _ h2, HYN.out]; rfl, by simp [World.frozen?, h2], ?_⟩
        refine hk.block _ (Array.getElem?_eq_some_iff.1 hRS.out).1 ?_
        rintro (e | e)
        · exact wne.out.2 e
        · obtain ⟨cur, h1⟩ := own_tag HRW.out e
          rw [hRS.out] at h1
          cases h1
      obtain ⟨m1, e1⟩ : ∃ x, Ed.rdL L = x := ⟨_, rfl⟩
      obtain ⟨m2, e2⟩ : ∃ x, Ed.rdL m1 = x := ⟨_, rfl⟩
      obtain ⟨m3, e3⟩ : ∃ x, Ed.rdL m2 = x := ⟨_, rfl⟩
      obtain ⟨m4, e4⟩ : ∃ x, Ed.rdT m3 = x := ⟨_, rfl⟩
      obtain ⟨m5, e5⟩ : ∃ x, Ed.rdT m4 = x := ⟨_, rfl⟩
      obtain ⟨n1, f1⟩ : ∃ x, Ed.rdN L = x := ⟨_, rfl⟩
      obtain ⟨n2, f2⟩ : ∃ x, Ed.rdN m1 = x := ⟨_, rfl⟩
      obtain ⟨n3, f3⟩ : ∃ x, Ed.rdN m2 = x := ⟨_, rfl⟩
      obtain ⟨t4, f4⟩ : ∃ x, Ed.rdS m3 = x := ⟨_, rfl⟩
      obtain ⟨t5, f5⟩ : ∃ x, Ed.rdS m4 = x := ⟨_, rfl⟩
      have ML : Hid (Ed.rdML L = m5) := by show _ = _; unfold Ed.rdML; rw [e1, e2, e3, e4, e5]
      have MM : Hid (Ed.rdM L = ⟨(n1 : Int), (n2 : Int), (n3 : Int), t4, t5⟩) := by show _ = _; unfold Ed.rdM; rw [f1, e1, f2, e2, f3, e3, f4, e4, f5]
      have ub : LL ≤ 140737488355328 := by have := HLN.out; have h2 := HM0.out; omega
      have s0 : Hid (L.length ≤ 140737488355328) := by rw [HLL.out]; exact ub
      have s1 : Hid (m1.length ≤ 140737488355328) := by rw [← e1]; exact Nat.le_trans (rdL_len L) s0.out
      have s2 : Hid (m2.length ≤ 140737488355328) := by rw [← e2]; exact Nat.le_trans (rdL_len m1) s1.out
      have s3 : Hid (m3.length ≤ 140737488355328) := by rw [← e3]; exact Nat.le_trans (rdL_len m2) s2.out
      have s4 : Hid (m4.length ≤ 140737488355328) := by rw [← e4]; exact Nat.le_trans (rdT_len m3) s3.out
      have N1 := keep (fun (w' : World) (a : Option Addr) (cc : Nat) (h : Rd (· < w.heap.size) w' rd a L.length cc L) => numA f1 e1 s0.out h)
      have N2 := keep (fun (w' : World) (a : Option Addr) (cc : Nat) (h : Rd (· < w.heap.size) w' rd a m1.length cc m1) => numA f2 e2 s1.out h)
      have N3 := keep (fun (w' : World) (a : Option Addr) (cc : Nat) (h : Rd (· < w.heap.size) w' rd a m2.length cc m2) => numA f3 e3 s2.out h)
      have N4 := keep (fun (w' : World) (a : Option Addr) (cc : Nat) (h : Rd (· < w.heap.size) w' rd a m3.length cc m3) => txtA f4 e4 s3.out h)
      have N5 := keep (fun (w' : World) (a : Option Addr) (cc : Nat) (h : Rd (· < w.heap.size) w' rd a m4.length cc m4) => txtA f5 e5 s4.out h)
      clear e1 e2 e3 e4 e5 f1 f2 f3 f4 f5
      go_wp2_with fail
      refine wp_region_parted (fun w' => Kept (fun g => AtB rd g ∨ (Value.slice q YN cc).ownBlock = some g) wr w') 16 _ (by kernel_rfl) rfl rfl rfl (by kernel_rfl) (by kernel_rfl) ((Kept.refl _ _).drew) (fun hHeld => ?_)
      simp only [List.setIfInBounds_toArray, List.set_cons_succ, List.set_cons_zero, mute]
      refine takeH (i := 0) 34 (v := .pointer (some ⟨vb, 4, none⟩)) rfl rfl (by kernel_rfl) (by kernel_rfl) (by kernel_rfl) (fun _ _ _ h => h) (Or.inl ⟨by rfl, ?_⟩) (by assumption) ?_
      · intro w' hSw'
        go_simp
      simp only [Act.put, List.setIfInBounds_toArray, List.set_cons_zero, List.set_cons_succ]
      refine takeH (i := 1) 35 (v := .slice q YN cc) rfl rfl (by kernel_rfl) (by kernel_rfl) (by kernel_rfl) (fun _ _ _ h => h) (Or.inl ⟨by rfl, ?_⟩) (by assumption) ?_
      · intro w' hSw'
        have cv' := (CV.out w' hSw').1
        go_simp
      simp only [Act.put, List.setIfInBounds_toArray, List.set_cons_zero, List.set_cons_succ]
      refine takeH (i := 2) 36 (v := .pointer (some ⟨rd, 0, none⟩)) rfl rfl (by kernel_rfl) (by kernel_rfl) (by kernel_rfl) (fun _ _ _ h => h) (Or.inl ⟨by rfl, ?_⟩) (by assumption) ?_
      · intro w' hSw'
        go_simp
      simp only [Act.put, List.setIfInBounds_toArray, List.set_cons_zero, List.set_cons_succ]
      refine takeH (i := 4) 38 (v := .pointer (some ⟨rd, 0, none⟩)) rfl rfl (by kernel_rfl) (by kernel_rfl) (by kernel_rfl) (fun _ _ _ h => h) (Or.inl ⟨by rfl, ?_⟩) (by assumption) ?_
      · intro w' hSw'
        go_simp
      simp only [Act.put, List.setIfInBounds_toArray, List.set_cons_zero, List.set_cons_succ]
      refine takeH (i := 6) 40 (v := .pointer (some ⟨rd, 0, none⟩)) rfl rfl (by kernel_rfl) (by kernel_rfl) (by kernel_rfl) (fun _ _ _ h => h) (Or.inl ⟨by rfl, ?_⟩) (by assumption) ?_
      · intro w' hSw'
        go_simp
      simp only [Act.put, List.setIfInBounds_toArray, List.set_cons_zero, List.set_cons_succ]
      refine takeH (i := 8) 42 (v := .pointer (some ⟨rd, 0, none⟩)) rfl rfl (by kernel_rfl) (by kernel_rfl) (by kernel_rfl) (fun _ _ _ h => h) (Or.inl ⟨by rfl, ?_⟩) (by assumption) ?_
      · intro w' hSw'
        go_simp
      simp only [Act.put, List.setIfInBounds_toArray, List.set_cons_zero, List.set_cons_succ]
      refine takeH (i := 10) 44 (v := .pointer (some ⟨rd, 0, none⟩)) rfl rfl (by kernel_rfl) (by kernel_rfl) (by kernel_rfl) (fun _ _ _ h => h) (Or.inl ⟨by rfl, ?_⟩) (by assumption) ?_
      · intro w' hSw'
        go_simp
      simp only [Act.put, List.setIfInBounds_toArray, List.set_cons_zero, List.set_cons_succ]
      refine wpAnyH_ready (rs := [3]) (by kernel_rfl) (by simp) ?_
      refine AllReadyH.cons rfl (fun K hK => ?_) AllReadyH.nil
      go_simp
      refine (N1.out _ _ _ (RR.out.below ((Below.refl _ _).drew))).mono ?_
      rintro e x1 ⟨rfl, hk, ar1, cr1, hr⟩
      have K1 := keep ((Kept.refl _ wr).drew.trans hk)
      have R1 := keep hr
      clear hk hr
      go_wp2_with fail
      refine hK.out _ _ (K1.out.wide (fun g _ e => .inl e)) (fun hA1 => ?_)
      clear hK K
      refine wpAnyH_ready (rs := [5]) (by kernel_rfl) (by simp) ?_
      refine AllReadyH.cons rfl (fun K hK => ?_) AllReadyH.nil
      go_simp
      refine (N2.out _ _ _ (R1.out)).mono ?_
      rintro e x2 ⟨rfl, hk, ar2, cr2, hr⟩
      have K2 := keep (K1.out.trans hk)
      have R2 := keep hr
      clear hk hr
      go_wp2_with fail
      refine hK.out _ _ (K2.out.wide (fun g _ e => .inl e)) (fun hA2 => ?_)
      clear hK K
      refine wpAnyH_ready (rs := [7]) (by kernel_rfl) (by simp) ?_
      refine AllReadyH.cons rfl (fun K hK => ?_) AllReadyH.nil
      go_simp
      refine (N3.out _ _ _ (R2.out)).mono ?_
      rintro e x3 ⟨rfl, hk, ar3, cr3, hr⟩
      have K3 := keep (K2.out.trans hk)
      have R3 := keep hr
      clear hk hr
      go_wp2_with fail
      refine hK.out _ _ (K3.out.wide (fun g _ e => .inl e)) (fun hA3 => ?_)
      clear hK K
      refine wpAnyH_ready (rs := [9]) (by kernel_rfl) (by simp) ?_
      refine AllReadyH.cons rfl (fun K hK => ?_) AllReadyH.nil
      go_simp
      refine (N4.out _ _ _ R3.out).mono ?_
      rintro e x4 ⟨g4, e4, rfl, h5, hs, hk, ar4, cr4, hr⟩
      have K4 := keep (K3.out.trans hk)
      have R4 := keep hr
      have F4 := keep h5
      have S4 := keep hs
      have P4 := keep hk
      clear hk hr h5 hs
      go_wp2_with fail
      refine hK.out _ _ (K4.out.wide (fun g _ e => .inl e)) (fun hA4 => ?_)
      clear hK K
      refine wpAnyH_ready (rs := [11]) (by kernel_rfl) (by simp) ?_
      refine AllReadyH.cons rfl (fun K hK => ?_) AllReadyH.nil
      go_simp
      refine (N5.out _ _ _ R4.out).mono ?_
      rintro e x5 ⟨g5, e5, rfl, h5, hs, hk, ar5, cr5, hr⟩
      have K5 := keep (K4.out.trans hk)
      have R5 := keep hr
      have F5 := keep h5
      have S5 := keep hs
      have P5 := keep hk
      clear hk hr h5 hs
      go_wp2_with fail
      refine hK.out _ _ (K5.out.wide (fun g _ e => .inl e)) (fun hA5 => ?_)
      clear hK K
      refine takeH (i := 12) 46 (v := .agg #[.int .i64 (n1 : Int), .int .i64 (n2 : Int), .int .i64 (n3 : Int), .slice (some ⟨g4, 0, none⟩) t4.length e4, .slice (some ⟨g5, 0, none⟩) t5.length e5]) rfl rfl (by kernel_rfl) (by kernel_rfl) (by kernel_rfl) (fun _ _ _ h => h) (Or.inl ⟨by rfl, ?_⟩) (by assumption) ?_
      · intro w' hSw'
        go_simp
      simp only [Act.put, List.setIfInBounds_toArray, List.set_cons_zero, List.set_cons_succ]
      have t45 : Hid (B5 x4 x5) := B5.of_kept P5.out (fun g e cur fr hgc => by rw [show g = rd from e, R4.out.row] at hgc; cases hgc)
      have YH : Hid (metaKind.held x5 ⟨some ⟨g4, 0, none⟩, e4, some ⟨g5, 0, none⟩, e5, ⟨(n1 : Int), (n2 : Int), (n3 : Int), t4, t5⟩⟩) := ⟨src_on S4.out F4.out t45.out, S5.out⟩
      have RC5 : Hid (RdC w rd L wr x5 ⟨some ⟨g4, 0, none⟩, e4, some ⟨g5, 0, none⟩, e5, ⟨(n1 : Int), (n2 : Int), (n3 : Int), t4, t5⟩⟩) := ⟨K5.out, by rw [ML.out]; exact ⟨_, _, R5.out⟩, ⟨F4.out.on t45.out, F5.out, YH.out⟩, by rw [MM.out]⟩
      obtain ⟨x6, hx6⟩ : ∃ x6, x5.alloc (.cells #[.int .i64 (n1 : Int), .int .i64 (n2 : Int), .int .i64 (n3 : Int), .slice (some ⟨g4, 0, none⟩) t4.length e4, .slice (some ⟨g5, 0, none⟩) t5.length e5] 113) = x6 := ⟨_, rfl⟩
      have b6 : Hid (Below x5.heap.size x5 x6) := by rw [← hx6]; exact (Below.refl _ _).alloc (Nat.le_refl _) _
      have XS : Hid (RSrc metaKind x6 (some ⟨x5.heap.size, 0, none⟩) 1 1 [⟨some ⟨g4, 0, none⟩, e4, some ⟨g5, 0, none⟩, e5, ⟨(n1 : Int), (n2 : Int), (n3 : Int), t4, t5⟩⟩]) := by rw [← hx6]; exact RSrc.built1M YH.out
      have K6 : Hid (Kept (fun g => AtB rd g ∨ (Value.slice q YN cc).ownBlock = some g) wr x6) := (K5.out.trans (Kept.of_below b6.out)).wide (fun g _ e => .inl e)
      have ZR6 : Hid (x6.ownsRow w.heap.size 113 5 (.slice q YN cc) YN (rv metaKind ys)) := own_block HRW.out (fun g hg => (K5.out.trans (Kept.of_below b6.out)).block g (own_size HRW.out hg) (fun e => by obtain ⟨cur, hcur⟩ := own_tag HRW.out hg; rw [show g = rd from e, RR.out.row] at hcur; cases hcur))
      have bs6 : Hid (w.heap.size ≤ x6.heap.size) := Nat.le_trans hI.out.bel.size K6.out.size
      refine wpAnyH_ready (rs := [13]) (by kernel_rfl) (by simp) ?_
      refine AllReadyH.cons rfl (fun K hK => ?_) AllReadyH.nil
      go_simp
      refine hK.out _ _ K6.out (fun hA6 => ?_)
      clear hK K
      refine wpAnyH_ready (rs := [14]) (by kernel_rfl) (by simp) ?_
      refine AllReadyH.cons rfl (fun K hK => ?_) AllReadyH.nil
      refine step_append_rows rfl _ _ 48 rfl w.heap.size 113 i0 _ 5 72 Tryz.underlying48 hi0 hz0 hz1 hz2 rfl (by decide) (.slice q YN cc) YN (rv metaKind ys) rfl ZR6.out (some ⟨x5.heap.size, 0, none⟩) 1 1 (rv metaKind [⟨some ⟨g4, 0, none⟩, e4, some ⟨g5, 0, none⟩, e5, ⟨(n1 : Int), (n2 : Int), (n3 : Int), t4, t5⟩⟩]) rfl (fun h => by cases h) rfl XS.out.cells (rv_one metaKind_ok _) (by unfold maxLen; omega) (by omega) bs6.out ?_
      intro a7 c7 w7 ho7 hg7
      have K7 : Hid (Kept (fun g => AtB rd g ∨ (Value.slice q YN cc).ownBlock = some g) wr w7) := K6.out.grown hg7 (fun k hk => .inl (.inr hk))
      obtain ⟨cv7, fv7, rs7⟩ := CV.out w7 K7.out
      have NX := hI.out.next (v7 := .slice a7 (YN + 1) c7) (w7 := w7) hwr.out hwv.out (by rw [HLL.out]; exact hc2) (by rw [HYN.out]; exact hc1) RC5.out (by rw [HYN.out, rv_append]; exact ho7) (by rw [HYN.out]; rw [← hx6] at hg7; exact hg7)
      have FN : Hid (RdI w rd vb G N Lg Sq KK M0 l5 (ys ++ [⟨some ⟨g4, 0, none⟩, e4, some ⟨g5, 0, none⟩, e5, ⟨(n1 : Int), (n2 : Int), (n3 : Int), t4, t5⟩⟩]) (.slice a7 (YN + 1) c7) (Ed.rdML L) (w7.setCell ⟨vb, 4, none⟩ (.slice a7 (YN + 1) c7))) := NX.2
      have FS : Hid ((w7.setCell ⟨vb, 4, none⟩ (.slice a7 (YN + 1) c7)).heap[w.heap.size]? = some (.cells #[.int .i64 0, .int .i64 0, .int .i64 0, .int .i64 0, .slice none 0 0] 50)) := (Below.heap_setCell w7 ⟨vb, 4, none⟩ _ _ wne.out.1).trans (rs7.trans hRS.out)
      have TF : Hid (tabN (w7.setCell ⟨vb, 4, none⟩ (.slice a7 (YN + 1) c7)) vb = YN + 1) := by show tabN _ vb = YN + 1; unfold tabN; rw [cell_of_row _ _ _ _ _ _ FN.out.ver]; rfl
      clear ho7 hg7 NX
      refine hK.out _ _ K7.out (fun hA7 => ?_)
      clear hK K
      refine takeH (i := 15) 49 (v := .pointer (some ⟨vb, 4, none⟩)) rfl rfl (by kernel_rfl) (by kernel_rfl) (by kernel_rfl) (fun _ _ _ h => h) (Or.inl ⟨by rfl, ?_⟩) (by assumption) ?_
      · intro w' hSw'
        go_simp
      simp only [Act.put, List.setIfInBounds_toArray]
      refine wpAnyH_ready (rs := [16]) (by kernel_rfl) (by simp) ?_
      refine AllReadyH.cons rfl (fun K hK => ?_) AllReadyH.nil
      go_simp
      refine hK.out _ _ K7.out (fun hA8 => ?_)
      clear hK K
      refine wpAnyH_done (by kernel_rfl) ?_ _
      unfold LastQ
      go_simp
      go_wp2
      go_roundw
      case rel => exact ⟨_, _, _, FN.out, FS.out⟩
      case measure => first | (rw [TF.out, TN.out]; omega) | (simp only [TF.out, TN.out]; omega)
    · have EP : Hid (KK - YN = 0 ∨ LL = 0) := by show _ ∨ _; omega
      have PL := hI.out.plain
      rw [HYN.out, rdMs_end (k := KK - YN) (L := L) (by rw [HLL.out]; exact EP.out), List.append_nil] at PL
      have XV : Hid (Ed.rdV l = ⟨(G : Int), (N : Int), (Lg : Int), (Sq : Int), ys.map (·.m)⟩) := by rw [← PL]; exact HV.out
      have HRW : Hid (wr.ownsRow w.heap.size 113 5 (.slice q YN cc) YN (rv metaKind ys)) := by have := hI.out.row; rw [HYN.out] at this; exact this
      have HEA := keep hI.out.each
      have BB := keep hI.out.bel
      have VE := hI.out.ver
      rw [HYN.out] at VE
      have t0 : wr.cell? ⟨vb, 0, none⟩ = some (.int .i64 (G : Int)) := cell_of_row _ _ _ _ _ _ VE
      have t1 : wr.cell? ⟨vb, 1, none⟩ = some (.int .i64 (N : Int)) := cell_of_row _ _ _ _ _ _ VE
      have t2 : wr.cell? ⟨vb, 2, none⟩ = some (.int .i64 (Lg : Int)) := cell_of_row _ _ _ _ _ _ VE
      have t3 : wr.cell? ⟨vb, 3, none⟩ = some (.int .i64 (Sq : Int)) := cell_of_row _ _ _ _ _ _ VE
      clear PL VE hI
      by_cases h1 : YN < KK
      · have h2 : LL = 0 := by omega
        have d1 : (YN : Int) < (KK : Int) := by omega
        subst h2
        have z0 : wr.cell? ⟨w.heap.size, 0, none⟩ = some (.int .i64 0) := cell_of_row _ _ _ _ _ _ hRS.out
        have y0 : wr.frozen? ⟨w.heap.size, 0, none⟩ = false := by simp [World.frozen?, hRS.out]
        have z1 : wr.cell? ⟨w.heap.size, 1, none⟩ = some (.int .i64 0) := cell_of_row _ _ _ _ _ _ hRS.out
        have y1 : wr.frozen? ⟨w.heap.size, 1, none⟩ = false := by simp [World.frozen?, hRS.out]
        have z2 : wr.cell? ⟨w.heap.size, 2, none⟩ = some (.int .i64 0) := cell_of_row _ _ _ _ _ _ hRS.out
        have y2 : wr.frozen? ⟨w.heap.size, 2, none⟩ = false := by simp [World.frozen?, hRS.out]
        have z3 : wr.cell? ⟨w.heap.size, 3, none⟩ = some (.int .i64 0) := cell_of_row _ _ _ _ _ _ hRS.out
        have y3 : wr.frozen? ⟨w.heap.size, 3, none⟩ = false := by simp [World.frozen?, hRS.out]
        have z4 : wr.cell? ⟨w.heap.size, 4, none⟩ = some (.slice none 0 0) := cell_of_row _ _ _ _ _ _ hRS.out
        have y4 : wr.frozen? ⟨w.heap.size, 4, none⟩ = false := by simp [World.frozen?, hRS.out]
        go_wp2
        refine ⟨rfl, .agg #[.int .i64 (G : Int), .int .i64 (N : Int), .int .i64 (Lg : Int), .int .i64 (Sq : Int), .slice q YN cc], ?_, ?_⟩
        · have r0 : (wr.setCell ⟨w.heap.size, 0, none⟩ (.int .i64 (G : Int))).cell? ⟨w.heap.size, 0, none⟩ = some (.int .i64 (G : Int)) := World.cell?_setCell_same' _ _ _ (by simp [go_sem, z0])
          have r1 : ((wr.setCell ⟨w.heap.size, 0, none⟩ (.int .i64 (G : Int))).setCell ⟨w.heap.size, 1, none⟩ (.int .i64 (N : Int))).cell? ⟨w.heap.size, 1, none⟩ = some (.int .i64 (N : Int)) := World.cell?_setCell_same' _ _ _ (by simp [go_sem, z1])
          have r2 : (((wr.setCell ⟨w.heap.size, 0, none⟩ (.int .i64 (G : Int))).setCell ⟨w.heap.size, 1, none⟩ (.int .i64 (N : Int))).setCell ⟨w.heap.size, 2, none⟩ (.int .i64 (Lg : Int))).cell? ⟨w.heap.size, 2, none⟩ = some (.int .i64 (Lg : Int)) := World.cell?_setCell_same' _ _ _ (by simp [go_sem, z2])
          have r3 : ((((wr.setCell ⟨w.heap.size, 0, none⟩ (.int .i64 (G : Int))).setCell ⟨w.heap.size, 1, none⟩ (.int .i64 (N : Int))).setCell ⟨w.heap.size, 2, none⟩ (.int .i64 (Lg : Int))).setCell ⟨w.heap.size, 3, none⟩ (.int .i64 (Sq : Int))).cell? ⟨w.heap.size, 3, none⟩ = some (.int .i64 (Sq : Int)) := World.cell?_setCell_same' _ _ _ (by simp [go_sem, z3])
          have r4 : (((((wr.setCell ⟨w.heap.size, 0, none⟩ (.int .i64 (G : Int))).setCell ⟨w.heap.size, 1, none⟩ (.int .i64 (N : Int))).setCell ⟨w.heap.size, 2, none⟩ (.int .i64 (Lg : Int))).setCell ⟨w.heap.size, 3, none⟩ (.int .i64 (Sq : Int))).setCell ⟨w.heap.size, 4, none⟩ (.slice q YN cc)).cell? ⟨w.heap.size, 4, none⟩ = some (.slice q YN cc) := World.cell?_setCell_same' _ _ _ (by simp [go_sem, z4])
          simp [results, Tryz.f141, go_sem, loadCells, loadCellsFrom, r0, r1, r2, r3, r4]
        · have FI : Firm w.heap.size wr ⟨q, YN, cc, (G : Int), (N : Int), (Lg : Int), (Sq : Int), ys⟩ := ⟨HRW.out, HEA.out⟩
          have FJ := FI.five hRS.out (by decide) (by decide) (.int .i64 (G : Int)) (.int .i64 (N : Int)) (.int .i64 (Lg : Int)) (.int .i64 (Sq : Int)) (.slice q YN cc)
          exact ⟨⟨q, YN, cc, (G : Int), (N : Int), (Lg : Int), (Sq : Int), ys⟩, rfl, by rw [XV.out]; rfl, FJ.held, FJ, (((((BB.out.setCell (p := ⟨w.heap.size, 0, none⟩) (Nat.le_refl _) _).setCell (p := ⟨w.heap.size, 1, none⟩) (Nat.le_refl _) _).setCell (p := ⟨w.heap.size, 2, none⟩) (Nat.le_refl _) _).setCell (p := ⟨w.heap.size, 3, none⟩) (Nat.le_refl _) _).setCell (p := ⟨w.heap.size, 4, none⟩) (Nat.le_refl _) _)⟩
      · have d1 : ¬ (YN : Int) < (KK : Int) := by omega
        have z0 : wr.cell? ⟨w.heap.size, 0, none⟩ = some (.int .i64 0) := cell_of_row _ _ _ _ _ _ hRS.out
        have y0 : wr.frozen? ⟨w.heap.size, 0, none⟩ = false := by simp [World.frozen?, hRS.out]
        have z1 : wr.cell? ⟨w.heap.size, 1, none⟩ = some (.int .i64 0) := cell_of_row _ _ _ _ _ _ hRS.out
        have y1 : wr.frozen? ⟨w.heap.size, 1, none⟩ = false := by simp [World.frozen?, hRS.out]
        have z2 : wr.cell? ⟨w.heap.size, 2, none⟩ = some (.int .i64 0) := cell_of_row _ _ _ _ _ _ hRS.out
        have y2 : wr.frozen? ⟨w.heap.size, 2, none⟩ = false := by simp [World.frozen?, hRS.out]
        have z3 : wr.cell? ⟨w.heap.size, 3, none⟩ = some (.int .i64 0) := cell_of_row _ _ _ _ _ _ hRS.out
        have y3 : wr.frozen? ⟨w.heap.size, 3, none⟩ = false := by simp [World.frozen?, hRS.out]
        have z4 : wr.cell? ⟨w.heap.size, 4, none⟩ = some (.slice none 0 0) := cell_of_row _ _ _ _ _ _ hRS.out
        have y4 : wr.frozen? ⟨w.heap.size, 4, none⟩ = false := by simp [World.frozen?, hRS.out]
        go_wp2
        refine ⟨rfl, .agg #[.int .i64 (G : Int), .int .i64 (N : Int), .int .i64 (Lg : Int), .int .i64 (Sq : Int), .slice q YN cc], ?_, ?_⟩
        · have r0 : (wr.setCell ⟨w.heap.size, 0, none⟩ (.int .i64 (G : Int))).cell? ⟨w.heap.size, 0, none⟩ = some (.int .i64 (G : Int)) := World.cell?_setCell_same' _ _ _ (by simp [go_sem, z0])
          have r1 : ((wr.setCell ⟨w.heap.size, 0, none⟩ (.int .i64 (G : Int))).setCell ⟨w.heap.size, 1, none⟩ (.int .i64 (N : Int))).cell? ⟨w.heap.size, 1, none⟩ = some (.int .i64 (N : Int)) := World.cell?_setCell_same' _ _ _ (by simp [go_sem, z1])
          have r2 : (((wr.setCell ⟨w.heap.size, 0, none⟩ (.int .i64 (G : Int))).setCell ⟨w.heap.size, 1, none⟩ (.int .i64 (N : Int))).setCell ⟨w.heap.size, 2, none⟩ (.int .i64 (Lg : Int))).cell? ⟨w.heap.size, 2, none⟩ = some (.int .i64 (Lg : Int)) := World.cell?_setCell_same' _ _ _ (by simp [go_sem, z2])
          have r3 : ((((wr.setCell ⟨w.heap.size, 0, none⟩ (.int .i64 (G : Int))).setCell ⟨w.heap.size, 1, none⟩ (.int .i64 (N : Int))).setCell ⟨w.heap.size, 2, none⟩ (.int .i64 (Lg : Int))).setCell ⟨w.heap.size, 3, none⟩ (.int .i64 (Sq : Int))).cell? ⟨w.heap.size, 3, none⟩ = some (.int .i64 (Sq : Int)) := World.cell?_setCell_same' _ _ _ (by simp [go_sem, z3])
          have r4 : (((((wr.setCell ⟨w.heap.size, 0, none⟩ (.int .i64 (G : Int))).setCell ⟨w.heap.size, 1, none⟩ (.int .i64 (N : Int))).setCell ⟨w.heap.size, 2, none⟩ (.int .i64 (Lg : Int))).setCell ⟨w.heap.size, 3, none⟩ (.int .i64 (Sq : Int))).setCell ⟨w.heap.size, 4, none⟩ (.slice q YN cc)).cell? ⟨w.heap.size, 4, none⟩ = some (.slice q YN cc) := World.cell?_setCell_same' _ _ _ (by simp [go_sem, z4])
          simp [results, Tryz.f141, go_sem, loadCells, loadCellsFrom, r0, r1, r2, r3, r4]
        · have FI : Firm w.heap.size wr ⟨q, YN, cc, (G : Int), (N : Int), (Lg : Int), (Sq : Int), ys⟩ := ⟨HRW.out, HEA.out⟩
          have FJ := FI.five hRS.out (by decide) (by decide) (.int .i64 (G : Int)) (.int .i64 (N : Int)) (.int .i64 (Lg : Int)) (.int .i64 (Sq : Int)) (.slice q YN cc)
          exact ⟨⟨q, YN, cc, (G : Int), (N : Int), (Lg : Int), (Sq : Int), ys⟩, rfl, by rw [XV.out]; rfl, FJ.held, FJ, (((((BB.out.setCell (p := ⟨w.heap.size, 0, none⟩) (Nat.le_refl _) _).setCell (p := ⟨w.heap.size, 1, none⟩) (Nat.le_refl _) _).setCell (p := ⟨w.heap.size, 2, none⟩) (Nat.le_refl _) _).setCell (p := ⟨w.heap.size, 3, none⟩) (Nat.le_refl _) _).setCell (p := ⟨w.heap.size, 4, none⟩) (Nat.le_refl _) _)⟩
end Go.Proofs.YthnebhddakfadaaGreatDoor
namespace Go.Proofs.YthnebhddakfadaaGreatDoor
open Go.RowKit
open Ed (Nt)

set_option maxHeartbeats 1000000 in
set_option maxRecDepth 100000 in
theorem equalX (ao : Option Addr) (m c : Nat) (l : List UInt8) (ao2 : Option Addr) (m2 c2 : Nat) (l2 : List UInt8) (w : World) (hs : Src w ao m c l) (hs2 : Src w ao2 m2 c2 l2) :
    Calls Tryz.prog 142 #[.slice ao m c, .slice ao2 m2 c2] w fun e w' => e = .returned (.bool (decide (l = l2))) ∧ w' = w := by
  have h1 := conv_src hs
  have h2 := conv_src hs2
  clear hs hs2
  go_enter Tryz.func142, Tryz.ntmps142
  go_wp2
  go_ret
  exact ⟨by rw [← list_beq]; rfl, rfl⟩
theorem Firm.base {B B' : Nat} {w : World} {x : VV} (h : Firm B w x) (hb : B' ≤ B) : Firm B' w x := ⟨own_base h.1 (fun g hg => Nat.le_trans hb (h.1.lt g hg).1), h.2⟩
theorem zeroV_firm (B : Nat) (w : World) : Firm B w zeroV := ⟨World.ownsRow_nil _ _ _ _, fun y hy => by cases hy⟩
/-- Decode's answer. -/
def DecA (l : List UInt8) (w : World) (e : Ending) (w' : World) : Prop :=
  (∃ y : VV, e = .returned (.tuple #[y.val, .int .i64 (if Ed.isVer l then 0 else 2)]) ∧ Firm w.heap.size w' y ∧ y.v = (if Ed.isVer l then Ed.rdV l else zeroV.v)) ∧ Below w.heap.size w w'
theorem DecA.no {l : List UInt8} {w w' : World} (h : Ed.isVer l = false) (hb : Below w.heap.size w w') : DecA l w (.returned (.tuple #[.agg #[.int .i64 0, .int .i64 0, .int .i64 0, .int .i64 0, .slice none 0 0], .int .i64 2])) w' :=
  ⟨⟨zeroV, by rw [h]; rfl, zeroV_firm _ _, by rw [h]; rfl⟩, hb⟩

set_option maxHeartbeats 3000000 in
set_option maxRecDepth 100000 in
theorem decode_any (ao : Option Addr) (m c : Nat) (l : List UInt8) (w : World) (hs : Src w ao m c l) (hlt : ∀ ad, ao = some ad → ad.block < w.heap.size) (hn : m ≤ 140737488355328) :
    Calls Tryz.prog 97 #[.slice ao m c] w fun e w' => DecA l w e w' := by
  obtain ⟨W1, hW1⟩ : ∃ W1, w.alloc (.cells #[.int .i64 0, .int .i64 0, .int .i64 0, .int .i64 0, .slice none 0 0] 50) = W1 := ⟨_, rfl⟩
  have b1 : Hid (Below w.heap.size w W1) := by rw [← hW1]; exact (Below.refl _ _).alloc (Nat.le_refl _) _
  have g1 : Hid (W1.heap[w.heap.size]? = some (.cells #[.int .i64 0, .int .i64 0, .int .i64 0, .int .i64 0, .slice none 0 0] 50)) := by rw [← hW1]; exact heap_alloc_new w _
  have HS := keep hs
  have hml := hs.len
  have RX : Hid (Calls Tryz.prog 141 #[.slice ao m c] W1 fun e w' => ∃ x : VV, e = .returned x.val ∧ x.v = Ed.rdV l ∧ VV.held w' x ∧ Firm W1.heap.size w' x ∧ Below W1.heap.size W1 w') := by
    have h1 := hs.below b1.out
    rw [← hml] at h1 ⊢
    exact read_any ao c l W1 h1 (fun ad h => Nat.lt_of_lt_of_le (hlt ad h) b1.out.size) (by omega)
  obtain ⟨V, hV⟩ : ∃ V, Ed.rdV l = V := ⟨_, rfl⟩
  rw [hV] at RX
  have HV := keep hV
  clear hs hlt hml hV
  go_enter Tryz.func97, Tryz.ntmps97
  go_wp2_with fail
  refine RX.out.mono ?_
  rintro e w2 ⟨x, rfl, hxv, hxh, hxf, hb2⟩
  have XF := keep hxf
  have B2 := keep (b1.out.trans (hb2.mono b1.out.size))
  have G2 : Hid (w2.heap[w.heap.size]? = some (.cells #[.int .i64 0, .int .i64 0, .int .i64 0, .int .i64 0, .slice none 0 0] 50)) := (hb2.block _ (Array.getElem?_eq_some_iff.1 g1.out).1).trans g1.out
  have XH := keep hxh
  have XV := keep hxv
  obtain ⟨xp, xn, xc, xgen, xnext, xlog, xseq, xes⟩ := x
  unfold VV.val
  simp only
  obtain ⟨W3, hW3⟩ : ∃ W3, w2.alloc (.cells #[.int .i64 xgen, .int .i64 xnext, .int .i64 xlog, .int .i64 xseq, .slice xp xn xc] 50) = W3 := ⟨_, rfl⟩
  have b3 : Hid (Below w2.heap.size w2 W3) := by rw [← hW3]; exact (Below.refl _ _).alloc (Nat.le_refl _) _
  have g3 : Hid (W3.heap[w2.heap.size]? = some (.cells #[.int .i64 xgen, .int .i64 xnext, .int .i64 xlog, .int .i64 xseq, .slice xp xn xc] 50)) := by rw [← hW3]; exact heap_alloc_new w2 _
  have B3 := keep (B2.out.trans (b3.out.mono B2.out.size))
  have EN := keep (encode_any ⟨xp, xn, xc, xgen, xnext, xlog, xseq, xes⟩ W3 (XH.out.below b3.out))
  rw [XV.out] at EN
  unfold EncA VV.val at EN
  simp only at EN
  have y0 : W3.cell? ⟨w2.heap.size, 0, none⟩ = some (.int .i64 xgen) := cell_of_row _ _ _ _ _ _ g3.out
  have y1 : W3.cell? ⟨w2.heap.size, 1, none⟩ = some (.int .i64 xnext) := cell_of_row _ _ _ _ _ _ g3.out
  have y2 : W3.cell? ⟨w2.heap.size, 2, none⟩ = some (.int .i64 xlog) := cell_of_row _ _ _ _ _ _ g3.out
  have y3 : W3.cell? ⟨w2.heap.size, 3, none⟩ = some (.int .i64 xseq) := cell_of_row _ _ _ _ _ _ g3.out
  have y4 : W3.cell? ⟨w2.heap.size, 4, none⟩ = some (.slice xp xn xc) := cell_of_row _ _ _ _ _ _ g3.out
  clear hxv hxh hxf hb2 RX
  cases hck : Ed.chk V with
  | false =>
    have e1 : chkN V = 1 := by unfold chkN; rw [hck]; rfl
    have NV : Ed.isVer l = false := by unfold Ed.isVer; rw [HV.out, hck]; rfl
    have NO := keep (fun w' => DecA.no (w := w) (w' := w') NV)
    rw [e1] at EN
    clear e1 NV hck
    go_wp2_with fail
    refine EN.out.mono ?_
    rintro e w4 ⟨a4, m4, c4, l4, rfl, hs4, hl4, hb4⟩
    have BZ := keep (B3.out.trans (hb4.mono B3.out.size))
    have GZ : Hid (w4.heap[w.heap.size]? = some (.cells #[.int .i64 0, .int .i64 0, .int .i64 0, .int .i64 0, .slice none 0 0] 50)) := by
      have h1 := (b3.out.block _ (Array.getElem?_eq_some_iff.1 G2.out).1).trans G2.out
      exact (hb4.block _ (Array.getElem?_eq_some_iff.1 h1).1).trans h1
    clear hs4 hl4 hb4 EN hW3 y0 y1 y2 y3 y4
    have z0 : w4.cell? ⟨w.heap.size, 0, none⟩ = some (.int .i64 0) := cell_of_row _ _ _ _ _ _ GZ.out
    have f0 : w4.frozen? ⟨w.heap.size, 0, none⟩ = false := by simp [World.frozen?, GZ.out]
    have z1 : w4.cell? ⟨w.heap.size, 1, none⟩ = some (.int .i64 0) := cell_of_row _ _ _ _ _ _ GZ.out
    have f1 : w4.frozen? ⟨w.heap.size, 1, none⟩ = false := by simp [World.frozen?, GZ.out]
    have z2 : w4.cell? ⟨w.heap.size, 2, none⟩ = some (.int .i64 0) := cell_of_row _ _ _ _ _ _ GZ.out
    have f2 : w4.frozen? ⟨w.heap.size, 2, none⟩ = false := by simp [World.frozen?, GZ.out]
    have z3 : w4.cell? ⟨w.heap.size, 3, none⟩ = some (.int .i64 0) := cell_of_row _ _ _ _ _ _ GZ.out
    have f3 : w4.frozen? ⟨w.heap.size, 3, none⟩ = false := by simp [World.frozen?, GZ.out]
    have z4 : w4.cell? ⟨w.heap.size, 4, none⟩ = some (.slice none 0 0) := cell_of_row _ _ _ _ _ _ GZ.out
    have f4 : w4.frozen? ⟨w.heap.size, 4, none⟩ = false := by simp [World.frozen?, GZ.out]
    go_wp2
    refine ⟨rfl, .tuple #[.agg #[.int .i64 0, .int .i64 0, .int .i64 0, .int .i64 0, .slice none 0 0], .int .i64 2], ?_, ?_⟩
    · have r0 : (w4.setCell ⟨w.heap.size, 0, none⟩ (.int .i64 0)).cell? ⟨w.heap.size, 0, none⟩ = some (.int .i64 0) := World.cell?_setCell_same' _ _ _ (by simp [go_sem, z0])
      have r1 : ((w4.setCell ⟨w.heap.size, 0, none⟩ (.int .i64 0)).setCell ⟨w.heap.size, 1, none⟩ (.int .i64 0)).cell? ⟨w.heap.size, 1, none⟩ = some (.int .i64 0) := World.cell?_setCell_same' _ _ _ (by simp [go_sem, z1])
      have r2 : (((w4.setCell ⟨w.heap.size, 0, none⟩ (.int .i64 0)).setCell ⟨w.heap.size, 1, none⟩ (.int .i64 0)).setCell ⟨w.heap.size, 2, none⟩ (.int .i64 0)).cell? ⟨w.heap.size, 2, none⟩ = some (.int .i64 0) := World.cell?_setCell_same' _ _ _ (by simp [go_sem, z2])
      have r3 : ((((w4.setCell ⟨w.heap.size, 0, none⟩ (.int .i64 0)).setCell ⟨w.heap.size, 1, none⟩ (.int .i64 0)).setCell ⟨w.heap.size, 2, none⟩ (.int .i64 0)).setCell ⟨w.heap.size, 3, none⟩ (.int .i64 0)).cell? ⟨w.heap.size, 3, none⟩ = some (.int .i64 0) := World.cell?_setCell_same' _ _ _ (by simp [go_sem, z3])
      have r4 : (((((w4.setCell ⟨w.heap.size, 0, none⟩ (.int .i64 0)).setCell ⟨w.heap.size, 1, none⟩ (.int .i64 0)).setCell ⟨w.heap.size, 2, none⟩ (.int .i64 0)).setCell ⟨w.heap.size, 3, none⟩ (.int .i64 0)).setCell ⟨w.heap.size, 4, none⟩ (.slice none 0 0)).cell? ⟨w.heap.size, 4, none⟩ = some (.slice none 0 0) := World.cell?_setCell_same' _ _ _ (by simp [go_sem, z4])
      simp [results, Tryz.f97, go_sem, loadCells, loadCellsFrom, r0, r1, r2, r3, r4]
    · exact NO.out _ (((((BZ.out.setCell (p := ⟨w.heap.size, 0, none⟩) (Nat.le_refl _) _).setCell (p := ⟨w.heap.size, 1, none⟩) (Nat.le_refl _) _).setCell (p := ⟨w.heap.size, 2, none⟩) (Nat.le_refl _) _).setCell (p := ⟨w.heap.size, 3, none⟩) (Nat.le_refl _) _).setCell (p := ⟨w.heap.size, 4, none⟩) (Nat.le_refl _) _)
  | true =>
    have e1 : chkN V = 0 := by unfold chkN; rw [hck]; rfl
    rw [e1, hck, if_pos rfl] at EN
    have HCK := keep hck
    clear e1 hck
    go_wp2_with fail
    refine EN.out.mono ?_
    rintro e w4 ⟨a4, m4, c4, l4, rfl, hs4, hl4, hb4⟩
    have BZ := keep (B3.out.trans (hb4.mono B3.out.size))
    have GZ : Hid (w4.heap[w.heap.size]? = some (.cells #[.int .i64 0, .int .i64 0, .int .i64 0, .int .i64 0, .slice none 0 0] 50)) := by
      have h1 := (b3.out.block _ (Array.getElem?_eq_some_iff.1 G2.out).1).trans G2.out
      exact (hb4.block _ (Array.getElem?_eq_some_iff.1 h1).1).trans h1
    have a0 := belowE hb4 y0
    have a1 := belowE hb4 y1
    have a2 := belowE hb4 y2
    have a3 := belowE hb4 y3
    have a4' := belowE hb4 y4
    have EQ := keep (equalX a4 m4 c4 l4 ao m c l w4 hs4 (HS.out.below BZ.out))
    have XF4 := keep ((XF.out.below b3.out).below hb4)
    have IV : Hid (Ed.isVer l = decide (l4 = l)) := by show _ = _; unfold Ed.isVer; rw [HV.out, HCK.out, hl4]; rfl
    clear hs4 hl4 hb4 EN hW3 y0 y1 y2 y3 y4
    by_cases he : l4 = l
    · rw [decide_eq_true he] at EQ IV
      clear he
      go_wp2_with fail
      refine EQ.out.mono ?_
      rintro e w5 ⟨rfl, rfl⟩
      clear EQ
      have z0 : w5.cell? ⟨w.heap.size, 0, none⟩ = some (.int .i64 0) := cell_of_row _ _ _ _ _ _ GZ.out
      have f0 : w5.frozen? ⟨w.heap.size, 0, none⟩ = false := by simp [World.frozen?, GZ.out]
      have z1 : w5.cell? ⟨w.heap.size, 1, none⟩ = some (.int .i64 0) := cell_of_row _ _ _ _ _ _ GZ.out
      have f1 : w5.frozen? ⟨w.heap.size, 1, none⟩ = false := by simp [World.frozen?, GZ.out]
      have z2 : w5.cell? ⟨w.heap.size, 2, none⟩ = some (.int .i64 0) := cell_of_row _ _ _ _ _ _ GZ.out
      have f2 : w5.frozen? ⟨w.heap.size, 2, none⟩ = false := by simp [World.frozen?, GZ.out]
      have z3 : w5.cell? ⟨w.heap.size, 3, none⟩ = some (.int .i64 0) := cell_of_row _ _ _ _ _ _ GZ.out
      have f3 : w5.frozen? ⟨w.heap.size, 3, none⟩ = false := by simp [World.frozen?, GZ.out]
      have z4 : w5.cell? ⟨w.heap.size, 4, none⟩ = some (.slice none 0 0) := cell_of_row _ _ _ _ _ _ GZ.out
      have f4 : w5.frozen? ⟨w.heap.size, 4, none⟩ = false := by simp [World.frozen?, GZ.out]
      go_wp2
      refine ⟨rfl, .tuple #[.agg #[.int .i64 xgen, .int .i64 xnext, .int .i64 xlog, .int .i64 xseq, .slice xp xn xc], .int .i64 0], ?_, ?_⟩
      · have r0 : (w5.setCell ⟨w.heap.size, 0, none⟩ (.int .i64 xgen)).cell? ⟨w.heap.size, 0, none⟩ = some (.int .i64 xgen) := World.cell?_setCell_same' _ _ _ (by simp [go_sem, z0])
        have r1 : ((w5.setCell ⟨w.heap.size, 0, none⟩ (.int .i64 xgen)).setCell ⟨w.heap.size, 1, none⟩ (.int .i64 xnext)).cell? ⟨w.heap.size, 1, none⟩ = some (.int .i64 xnext) := World.cell?_setCell_same' _ _ _ (by simp [go_sem, z1])
        have r2 : (((w5.setCell ⟨w.heap.size, 0, none⟩ (.int .i64 xgen)).setCell ⟨w.heap.size, 1, none⟩ (.int .i64 xnext)).setCell ⟨w.heap.size, 2, none⟩ (.int .i64 xlog)).cell? ⟨w.heap.size, 2, none⟩ = some (.int .i64 xlog) := World.cell?_setCell_same' _ _ _ (by simp [go_sem, z2])
        have r3 : ((((w5.setCell ⟨w.heap.size, 0, none⟩ (.int .i64 xgen)).setCell ⟨w.heap.size, 1, none⟩ (.int .i64 xnext)).setCell ⟨w.heap.size, 2, none⟩ (.int .i64 xlog)).setCell ⟨w.heap.size, 3, none⟩ (.int .i64 xseq)).cell? ⟨w.heap.size, 3, none⟩ = some (.int .i64 xseq) := World.cell?_setCell_same' _ _ _ (by simp [go_sem, z3])
        have r4 : (((((w5.setCell ⟨w.heap.size, 0, none⟩ (.int .i64 xgen)).setCell ⟨w.heap.size, 1, none⟩ (.int .i64 xnext)).setCell ⟨w.heap.size, 2, none⟩ (.int .i64 xlog)).setCell ⟨w.heap.size, 3, none⟩ (.int .i64 xseq)).setCell ⟨w.heap.size, 4, none⟩ (.slice xp xn xc)).cell? ⟨w.heap.size, 4, none⟩ = some (.slice xp xn xc) := World.cell?_setCell_same' _ _ _ (by simp [go_sem, z4])
        simp [results, Tryz.f97, go_sem, loadCells, loadCellsFrom, r0, r1, r2, r3, r4]
      · have FJ := XF4.out.five GZ.out (by decide) (by decide) (.int .i64 xgen) (.int .i64 xnext) (.int .i64 xlog) (.int .i64 xseq) (.slice xp xn xc)
        exact ⟨⟨⟨xp, xn, xc, xgen, xnext, xlog, xseq, xes⟩, by rw [IV.out]; rfl, FJ.base b1.out.size, by rw [IV.out, if_pos rfl, HV.out]; exact XV.out⟩, (((((BZ.out.setCell (p := ⟨w.heap.size, 0, none⟩) (Nat.le_refl _) _).setCell (p := ⟨w.heap.size, 1, none⟩) (Nat.le_refl _) _).setCell (p := ⟨w.heap.size, 2, none⟩) (Nat.le_refl _) _).setCell (p := ⟨w.heap.size, 3, none⟩) (Nat.le_refl _) _).setCell (p := ⟨w.heap.size, 4, none⟩) (Nat.le_refl _) _)⟩
    · rw [decide_eq_false he] at EQ IV
      have NO := keep (fun w' => DecA.no (w := w) (w' := w') IV.out)
      clear he
      go_wp2_with fail
      refine EQ.out.mono ?_
      rintro e w5 ⟨rfl, rfl⟩
      clear EQ a0 a1 a2 a3 a4'
      have z0 : w5.cell? ⟨w.heap.size, 0, none⟩ = some (.int .i64 0) := cell_of_row _ _ _ _ _ _ GZ.out
      have f0 : w5.frozen? ⟨w.heap.size, 0, none⟩ = false := by simp [World.frozen?, GZ.out]
      have z1 : w5.cell? ⟨w.heap.size, 1, none⟩ = some (.int .i64 0) := cell_of_row _ _ _ _ _ _ GZ.out
      have f1 : w5.frozen? ⟨w.heap.size, 1, none⟩ = false := by simp [World.frozen?, GZ.out]
      have z2 : w5.cell? ⟨w.heap.size, 2, none⟩ = some (.int .i64 0) := cell_of_row _ _ _ _ _ _ GZ.out
      have f2 : w5.frozen? ⟨w.heap.size, 2, none⟩ = false := by simp [World.frozen?, GZ.out]
      have z3 : w5.cell? ⟨w.heap.size, 3, none⟩ = some (.int .i64 0) := cell_of_row _ _ _ _ _ _ GZ.out
      have f3 : w5.frozen? ⟨w.heap.size, 3, none⟩ = false := by simp [World.frozen?, GZ.out]
      have z4 : w5.cell? ⟨w.heap.size, 4, none⟩ = some (.slice none 0 0) := cell_of_row _ _ _ _ _ _ GZ.out
      have f4 : w5.frozen? ⟨w.heap.size, 4, none⟩ = false := by simp [World.frozen?, GZ.out]
      go_wp2
      refine ⟨rfl, .tuple #[.agg #[.int .i64 0, .int .i64 0, .int .i64 0, .int .i64 0, .slice none 0 0], .int .i64 2], ?_, ?_⟩
      · have r0 : (w5.setCell ⟨w.heap.size, 0, none⟩ (.int .i64 0)).cell? ⟨w.heap.size, 0, none⟩ = some (.int .i64 0) := World.cell?_setCell_same' _ _ _ (by simp [go_sem, z0])
        have r1 : ((w5.setCell ⟨w.heap.size, 0, none⟩ (.int .i64 0)).setCell ⟨w.heap.size, 1, none⟩ (.int .i64 0)).cell? ⟨w.heap.size, 1, none⟩ = some (.int .i64 0) := World.cell?_setCell_same' _ _ _ (by simp [go_sem, z1])
        have r2 : (((w5.setCell ⟨w.heap.size, 0, none⟩ (.int .i64 0)).setCell ⟨w.heap.size, 1, none⟩ (.int .i64 0)).setCell ⟨w.heap.size, 2, none⟩ (.int .i64 0)).cell? ⟨w.heap.size, 2, none⟩ = some (.int .i64 0) := World.cell?_setCell_same' _ _ _ (by simp [go_sem, z2])
        have r3 : ((((w5.setCell ⟨w.heap.size, 0, none⟩ (.int .i64 0)).setCell ⟨w.heap.size, 1, none⟩ (.int .i64 0)).setCell ⟨w.heap.size, 2, none⟩ (.int .i64 0)).setCell ⟨w.heap.size, 3, none⟩ (.int .i64 0)).cell? ⟨w.heap.size, 3, none⟩ = some (.int .i64 0) := World.cell?_setCell_same' _ _ _ (by simp [go_sem, z3])
        have r4 : (((((w5.setCell ⟨w.heap.size, 0, none⟩ (.int .i64 0)).setCell ⟨w.heap.size, 1, none⟩ (.int .i64 0)).setCell ⟨w.heap.size, 2, none⟩ (.int .i64 0)).setCell ⟨w.heap.size, 3, none⟩ (.int .i64 0)).setCell ⟨w.heap.size, 4, none⟩ (.slice none 0 0)).cell? ⟨w.heap.size, 4, none⟩ = some (.slice none 0 0) := World.cell?_setCell_same' _ _ _ (by simp [go_sem, z4])
        simp [results, Tryz.f97, go_sem, loadCells, loadCellsFrom, r0, r1, r2, r3, r4]
      · exact NO.out _ (((((BZ.out.setCell (p := ⟨w.heap.size, 0, none⟩) (Nat.le_refl _) _).setCell (p := ⟨w.heap.size, 1, none⟩) (Nat.le_refl _) _).setCell (p := ⟨w.heap.size, 2, none⟩) (Nat.le_refl _) _).setCell (p := ⟨w.heap.size, 3, none⟩) (Nat.le_refl _) _).setCell (p := ⟨w.heap.size, 4, none⟩) (Nat.le_refl _) _)
end Go.Proofs.YthnebhddakfadaaGreatDoor
