/- How far read has come; no walk. -/
import Derived.Test.YtbahldabcieiaaaHw0
import Derived.Test.YtbahldabcieiaaaXn
namespace Go.Proofs.Ytbahldabcieiaaa
open Go.RowKit
open Ed (Nt)

/-- Blocks of bytes stand. -/
def B5 (w w' : World) : Prop := ∀ (g : Nat) (cur : Array Value) (fr : Nat × Nat), w.heap[g]? = some (.cells cur 5 fr) → w'.heap[g]? = w.heap[g]?
theorem In5.on {w w' : World} {ao : Option Addr} (h : In5 w ao) (ht : B5 w w') : In5 w' ao := fun ad had => by
  obtain ⟨cur, fr, hg⟩ := h ad had
  exact ⟨cur, fr, (ht _ cur fr hg).trans hg⟩
theorem src_on {w w' : World} {ao : Option Addr} {m c : Nat} {l : List UInt8} (h : Src w ao m c l) (h5 : In5 w ao) (ht : B5 w w') : Src w' ao m c l :=
  ⟨h.len, h.cap, h.nil, fun ad had j u hu => by
    obtain ⟨cur, fr, hg⟩ := h5 ad had
    have e : (ad.add j).block = ad.block := add_block ad j
    rw [World.cell?_of_block (w := w) (a := ad.add j) (by rw [e]; exact ht _ cur fr hg)]
    exact h.cells ad had j u hu⟩
theorem B5.trans {a b c : World} (h : B5 a b) (k : B5 b c) : B5 a c := fun g cur fr hg => (k g cur fr ((h g cur fr hg).trans hg)).trans (h g cur fr hg)
theorem B5.of_below {w w' : World} (h : Below w.heap.size w w') : B5 w w' := fun g _ _ hg => h.block g (Array.getElem?_eq_some_iff.1 hg).1
theorem B5.of_kept {w w' : World} {U : Nat → Prop} (h : Kept U w w') (hU : ∀ g, U g → ∀ cur fr, w.heap[g]? ≠ some (.cells cur 5 fr)) : B5 w w' := fun g cur fr hg => h.block g (Array.getElem?_eq_some_iff.1 hg).1 (fun hu => hU g hu cur fr hg)
theorem B5.of_set {w : World} {b i : Nat} {c : Array Value} {t : TypeId} {fr : Nat × Nat} (h : w.heap[b]? = some (.cells c t fr)) (ht : t ≠ 5) (v : Value) : B5 w (w.setCell ⟨b, i, none⟩ v) := fun g cur f hg => Below.heap_setCell _ _ _ g (fun e => by
  rw [show g = b from e, h] at hg
  cases hg
  exact ht rfl)
/-- How far read has come: the notes ys are there, L is left. -/
structure RdI (w : World) (rd vb : Nat) (G N Lg Sq : Int) (K n : Nat) (l5 : List UInt8) (ys : List MV) (v : Value) (L : List UInt8) (wr : World) : Prop where
  bel : Below w.heap.size w wr
  rdr : ∃ ao c, Rd (· < w.heap.size) wr rd ao L.length c L
  ver : wr.heap[vb]? = some (.cells #[.int .i64 G, .int .i64 N, .int .i64 Lg, .int .i64 Sq, v] 30)
  row : wr.ownsRow w.heap.size 52 5 v ys.length (rv metaKind ys)
  each : ∀ y ∈ ys, In5 wr y.fp ∧ In5 wr y.lp ∧ metaKind.held wr y
  plain : Ed.rdMs K l5 = ys.map (·.m) ++ Ed.rdMs (K - ys.length) L
  len : ys.length ≤ K
  short : L.length ≤ n
theorem rdL_len (l : List UInt8) : (Ed.rdL l).length ≤ l.length := by unfold Ed.rdL; rw [List.length_drop]; omega
theorem rdT_len (l : List UInt8) : (Ed.rdT l).length ≤ l.length := by unfold Ed.rdT; rw [List.length_drop]; omega
theorem rdML_len (l : List UInt8) : (Ed.rdML l).length ≤ l.length := by
  have h1 := rdL_len l
  have h2 := rdL_len (Ed.rdL l)
  have h3 := rdL_len (Ed.rdL (Ed.rdL l))
  have h4 := rdT_len (Ed.rdL (Ed.rdL (Ed.rdL l)))
  have h5 := rdT_len (Ed.rdT (Ed.rdL (Ed.rdL (Ed.rdL l))))
  unfold Ed.rdML
  omega
/-- The five calls of a round are over: the reader went on, the note's texts are there. -/
structure RdC (w : World) (rd : Nat) (L : List UInt8) (wr w5 : World) (y : MV) : Prop where
  kept : Kept (AtB rd) wr w5
  rdr : ∃ ao c, Rd (· < w.heap.size) w5 rd ao (Ed.rdML L).length c (Ed.rdML L)
  five : In5 w5 y.fp ∧ In5 w5 y.lp ∧ metaKind.held w5 y
  val : y.m = Ed.rdM L
theorem RdI.next {w : World} {rd vb : Nat} {G N Lg Sq : Int} {K n : Nat} {l5 : List UInt8} {ys : List MV} {v v7 : Value} {L : List UInt8} {wr w5 w7 : World} {y : MV} (h : RdI w rd vb G N Lg Sq K n l5 ys v L wr) (hr : w.heap.size ≤ rd) (hv : w.heap.size ≤ vb) (hL : 0 < L.length) (hK : ys.length < K)
    (hc : RdC w rd L wr w5 y) (ho : w7.ownsRow w.heap.size 52 5 v7 (ys.length + 1) (rv metaKind (ys ++ [y]))) (hg : (w5.alloc (Obj.cells (metaKind.vals y).toArray 52)).grownBy w7 v.ownBlock) :
    w7.heap[vb]? = some (.cells #[.int .i64 G, .int .i64 N, .int .i64 Lg, .int .i64 Sq, v] 30) ∧ RdI w rd vb G N Lg Sq K n l5 (ys ++ [y]) v7 (Ed.rdML L) (w7.setCell ⟨vb, 4, none⟩ v7) := by
  obtain ⟨W6, hW6⟩ : ∃ W6, w5.alloc (Obj.cells (metaKind.vals y).toArray 52) = W6 := ⟨_, rfl⟩
  have b56 : Below w5.heap.size w5 W6 := by rw [← hW6]; exact (Below.refl _ _).alloc (Nat.le_refl _) _
  rw [hW6] at hg
  obtain ⟨a0, c0, hR0⟩ := h.rdr
  obtain ⟨a1, c1, hR1⟩ := hc.rdr
  have hvr : vb ≠ rd := fun e => by
    have h1 := h.ver
    rw [e, hR0.row] at h1
    cases h1
  have k6 : Kept (AtB rd) wr W6 := hc.kept.trans (Kept.of_below b56)
  have row6 : W6.ownsRow w.heap.size 52 5 v ys.length (rv metaKind ys) := own_block h.row (fun g hg => k6.block g (own_size h.row hg) (fun e => by
    obtain ⟨cur, hcur⟩ := own_tag h.row hg
    rw [show g = rd from e, hR0.row] at hcur
    cases hcur))
  have ver6 : W6.heap[vb]? = some (.cells #[.int .i64 G, .int .i64 N, .int .i64 Lg, .int .i64 Sq, v] 30) := (k6.block vb (Array.getElem?_eq_some_iff.1 h.ver).1 hvr).trans h.ver
  have keepB : ∀ (g : Nat) (c : Array Value) (t : TypeId) (fr : Nat × Nat), W6.heap[g]? = some (Obj.cells c t fr) → t ≠ 52 → w7.heap[g]? = W6.heap[g]? := fun g c t fr hgc hne => hg.block g (Array.getElem?_eq_some_iff.1 hgc).1 (fun e => by
    obtain ⟨cur, hc⟩ := own_tag row6 e.symm
    rw [hgc] at hc
    cases hc
    exact hne rfl)
  have ver7 : w7.heap[vb]? = some (.cells #[.int .i64 G, .int .i64 N, .int .i64 Lg, .int .i64 Sq, v] 30) := (keepB vb _ _ _ ver6 (by decide)).trans ver6
  have t67 : B5 W6 w7 := fun g cur fr hgc => keepB g _ _ _ hgc (by decide)
  have t78 : B5 w7 (w7.setCell ⟨vb, 4, none⟩ v7) := B5.of_set ver7 (by decide) v7
  have t58 : B5 w5 (w7.setCell ⟨vb, 4, none⟩ v7) := ((B5.of_below b56).trans t67).trans t78
  have t05 : B5 wr w5 := B5.of_kept hc.kept (fun g e cur fr hgc => by
    rw [show g = rd from e, hR0.row] at hgc
    cases hgc)
  have r6 := hR1.below b56
  have r7 : w7.heap[rd]? = _ := (keepB rd _ _ _ r6.row (by decide)).trans r6.row
  have b58 : Below w.heap.size w5 (w7.setCell ⟨vb, 4, none⟩ v7) := by
    have s5 : w.heap.size ≤ w5.heap.size := Nat.le_trans h.bel.size hc.kept.size
    exact ((b56.mono s5).grown hg (Nat.le_trans s5 b56.size) (fun j hj => (row6.lt j hj).1)).setCell (p := ⟨vb, 4, none⟩) hv _
  refine ⟨ver7, ?_, ?_, set_row ver7 4 v7, ?_, ?_, ?_, ?_, ?_⟩
  · have b6 : Below w.heap.size w W6 := h.bel.trans (k6.below h.bel.size (fun g e => by rw [show g = rd from e]; exact hr))
    exact (b6.grown hg b6.size (fun j hj => (row6.lt j hj).1)).setCell (p := ⟨vb, 4, none⟩) hv _
  · refine ⟨a1, c1, (Below.heap_setCell _ _ _ rd (fun e => hvr (show rd = vb from e).symm)).trans r7, ?_, hR1.far, hR1.free⟩
    exact hR1.src.below' (B := w.heap.size) (fun ad h1 _ => hR1.far ad h1) b58
  · rw [List.length_append]
    refine own_block ho (fun g hg => Below.heap_setCell _ _ _ g (fun e => ?_))
    obtain ⟨cur, hc⟩ := own_tag ho hg
    rw [show g = vb from e, ver7] at hc
    cases hc
  · have one : ∀ {a b : World} {z : MV}, B5 a b → In5 a z.fp ∧ In5 a z.lp ∧ metaKind.held a z → In5 b z.fp ∧ In5 b z.lp ∧ metaKind.held b z := fun {a b z} ht hz => ⟨hz.1.on ht, hz.2.1.on ht, src_on hz.2.2.1 hz.1 ht, src_on hz.2.2.2 hz.2.1 ht⟩
    intro z hz
    rcases List.mem_append.1 hz with hz | hz
    · exact one t58 (one t05 (h.each z hz))
    · rw [List.mem_singleton.1 hz]
      exact one t58 hc.five
  · have e1 : K - ys.length = (K - (ys.length + 1)) + 1 := by omega
    rw [h.plain, e1, List.map_append, List.length_append, List.append_assoc]
    have e2 : Ed.rdMs (K - (ys.length + 1) + 1) L = Ed.rdM L :: Ed.rdMs (K - (ys.length + 1)) (Ed.rdML L) := by
      rw [Ed.rdMs, if_neg (by omega)]
    rw [e2, ← hc.val]
    rfl
  · rw [List.length_append]
    exact hK
  · exact Nat.le_trans (rdML_len L) h.short
end Go.Proofs.Ytbahldabcieiaaa
