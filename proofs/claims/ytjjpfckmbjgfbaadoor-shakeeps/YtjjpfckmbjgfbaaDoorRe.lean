/- A row of bytes that append may write into: the call's own, or one that a conversion has made; no walk. -/
import Derived.Test.YtjjpfckmbjgfbaaDoorRd
import Derived.Test.YtjjpfckmbjgfbaaDoorMd
namespace Go.Proofs.YtjjpfckmbjgfbaaDoor
open Go.RowKit
attribute [local go_sem] u8_xor

/-- A row of bytes of the call's own, or a marked one, that append may write into. -/
structure Wr (w : World) (base g n cap : Nat) (l : List UInt8) : Prop where
  ge : base ≤ g
  len : l.length = n
  cap_le : n ≤ cap
  max : cap ≤ maxLen
  row : ∃ cur lo hi, w.heap[g]? = some (.cells cur 5 (lo, hi)) ∧ cur.size = cap ∧ (cap ≤ lo ∨ hi = 0) ∧ ∀ i, i < n → cur[i]? = some (.int .u8 ((fn l i).toNat : Int))
theorem Wr.owns {w : World} {base g n cap : Nat} {l : List UInt8} (h : w.ownsRow base 5 1 (.slice (some ⟨g, 0, none⟩) n cap) n (bv l)) : Wr w base g n cap l := by
  have hl : l.length = n := by have := h.1; rw [bv_length] at this; omega
  rcases h.2 with ⟨h0, _⟩ | ⟨g', cap', cur, hv, hb, hg, hc, hm, hs, ht⟩
  · cases h0
  · cases hv
    refine ⟨hb, hl, hc, hm, cur, 0, 0, hg, by omega, .inr rfl, fun i hi => ?_⟩
    have := bv_at l i (by omega)
    rw [← ht, List.getElem?_take, if_pos (by omega)] at this
    rw [← this, Array.getElem?_toList]
theorem Wr.converted (w : World) (l : List UInt8) (m : Nat) (hm : l.length = m) (hmm : m ≤ maxLen) : Wr (Lib.bytesWorld w 5 ⟨l.toArray⟩) w.heap.size w.heap.size m (grownCap w m 0 5) l := by
  subst hm
  have hsz : (Lib.bytesCells w 5 ⟨l.toArray⟩).size = grownCap w l.length 0 5 := by
    have hge := grownCap_ge w l.length 0 5
    have e : (⟨l.toArray⟩ : ByteArray).size = l.length := rfl
    simp [Lib.bytesCells, e]
    omega
  refine ⟨Nat.le_refl _, rfl, grownCap_ge _ _ _ _, grownCap_le_maxLen _ _ _ _ hmm, _, _, _, Lib.bytesWorld_at_new w 5 ⟨l.toArray⟩, hsz, .inl (by omega), fun i hi => ?_⟩
  have h1 := Lib.bytesWorld_cell w 5 ⟨l.toArray⟩ i hi
  rw [cell_of_row _ _ _ _ _ _ (Lib.bytesWorld_at_new w 5 ⟨l.toArray⟩)] at h1
  exact h1
theorem Wr.src {w : World} {base g n cap : Nat} {l : List UInt8} (h : Wr w base g n cap l) : Src w (some ⟨g, 0, none⟩) n cap l := by
  obtain ⟨cur, lo, hi, hg, hs, hf, hc⟩ := h.row
  refine Src.mk_bytes h.len h.cap_le (fun i hi => ?_)
  rw [Nat.zero_add, cell_of_row _ _ _ _ _ _ hg]
  exact hc i hi
theorem Wr.lt {w : World} {base g n cap : Nat} {l : List UInt8} (h : Wr w base g n cap l) : g < w.heap.size := by
  obtain ⟨cur, lo, hi, hg, _⟩ := h.row
  exact (Array.getElem?_eq_some_iff.1 hg).1
theorem run_append_wr {P : Program} (w : World) (t ty : TypeId) (i : TypeInfo) (z : Value) (ht : P.underlying t = some (.slice 5)) (hi : P.info? 5 = some i) (hz : i.zero = some z) (hz1 : i.size = 1) (hz2 : i.bytes = 1) (hzs : z.cells.size = 1)
    (base g n cap : Nat) (k : List UInt8) (b : UInt8) (x : Value) (h : Wr w base g n cap k) (hx : _root_.Go.Src P 1 t x 1 (bv [b]) w) (hb : n + 1 ≤ 140737488355328) (hbase : base ≤ w.heap.size) :
    ∃ g' cap' w', (Builtin.append_ #[t, t] ty #[.slice (some ⟨g, 0, none⟩) n cap, x]).run P w = .ok (.slice (some ⟨g', 0, none⟩) (n + 1) cap') w' ∧ Wr w' base g' (n + 1) cap' (k ++ [b]) ∧ Below base w w' := by
  obtain ⟨cur, lo, hi', hg, hs, hf, hc⟩ := h.row
  have hx' : _root_.Go.Src P i.size t x 1 (bv [b]) w := by rw [hz1]; exact hx
  have hkl := h.len
  rcases Nat.lt_or_ge cap (n + 1) with hr | hr
  · have hold : (Builtin.firstCells i.size n (.slice (some ⟨g, 0, none⟩) n cap)).run P w.drew = .ok (bv k).toArray w.drew := by
      rw [hz1]
      exact run_firstCells_some w.drew 1 n ⟨g, 0, none⟩ n cap (bv k) (by rw [bv_length, hkl]; omega) (h.src.cells _ rfl)
    have hfit : Builtin.nextslicecap (n + 1) cap * i.bytes ≤ 281474976710656 := by
      rw [hz2]
      exact growslice_fits_wide hr (by omega)
    have hrun := run_append_grow_src w t t ty 5 i z ht hi hz (some ⟨g, 0, none⟩) n cap (bv k) hold x 1 (bv [b]) hx' hr (by omega) hfit
    have hge := grownCap_ge w (n + 1) cap 5
    have hh : (w.drew.alloc (.cells ((bv k ++ bv [b]).toArray ++ Builtin.zeroCells z.cells (grownCap w (n + 1) cap 5 - (n + 1))) 5)).heap[w.heap.size]? = some (.cells ((bv k ++ bv [b]).toArray ++ Builtin.zeroCells z.cells (grownCap w (n + 1) cap 5 - (n + 1))) 5) := heap_alloc_new w.drew _
    refine ⟨_, _, _, hrun, ⟨hbase, by simp; omega, hge, grownCap_le_maxLen _ _ _ _ (by unfold maxLen; omega), _, 0, 0, hh, ?_, .inr rfl, fun j hj => ?_⟩, (Below.refl _ _).drew.alloc hbase _⟩
    · simp only [Array.size_append, List.size_toArray, size_zeroCells, hzs, List.length_append, bv_length, hkl, List.length_cons, List.length_nil]
      omega
    · rw [Array.getElem?_append_left (by simp [bv_length]; omega), List.getElem?_toArray, ← bv_append]
      exact bv_at _ j (by simp; omega)
  · have hrun := run_append_room_src w t t ty 5 i ht hi g 0 n cap x 1 (bv [b]) hx' hr
      (fun j hj => by
        have hj0 : j = 0 := by rw [bv_length] at hj; simp at hj; omega
        subst hj0
        rw [hz1, cell_of_row _ _ _ _ _ _ hg]
        simp
        omega)
      (fun j hj => by
        have hj0 : j = 0 := by rw [bv_length] at hj; simp at hj; omega
        subst hj0
        simp [World.frozen?, hg, hz1]
        omega)
    rw [hz1] at hrun
    have e : w.setCells g (0 + n * 1) (bv [b]) = w.setRow g (cur.setIfInBounds n (.int .u8 (b.toNat : Int))) := by
      rw [Nat.zero_add, Nat.mul_one]
      exact setCell_eq_setRow w g n cur 5 (lo, hi') (.int .u8 (b.toNat : Int)) hg
    rw [e] at hrun
    refine ⟨g, cap, _, hrun, ⟨h.ge, by simp; omega, hr, h.max, _, lo, hi', setRow_heap w g cur _ 5 (lo, hi') hg, by simpa using hs, hf, fun j hj => ?_⟩, below_setRow (Below.refl _ _) h.ge _⟩
    rw [Array.getElem?_setIfInBounds]
    by_cases hjn : n = j
    · subst hjn
      rw [if_pos rfl, if_pos (by omega)]
      congr 3
      unfold fn
      rw [List.getD_eq_getElem?_getD, List.getElem?_append_right (by omega), hkl]
      simp
    · rw [if_neg hjn, hc j (by omega), fn_left _ _ _ (by omega)]
theorem wpList_append_wr {P : Program} {w : World} {ops : Array Oper} {rest : List Oper} {o : Oper} {a : Act} {Q : Exit → Act → World → Prop} (hgd : o.guard = none) (s x : Operand) (t : TypeId)
    (ho : o.op = .call { callee := .builtin .append, args := #[s, x], argTypes := #[t, t] })
    (i : TypeInfo) (z : Value) (ht : P.underlying t = some (.slice 5)) (hi : P.info? 5 = some i) (hz : i.zero = some z) (hz1 : i.size = 1) (hz2 : i.bytes = 1) (hzs : z.cells.size = 1)
    (base g n cap : Nat) (k : List UInt8) (b : UInt8) (v : Value) (hs : a.eval s = .slice (some ⟨g, 0, none⟩) n cap) (h : Wr w base g n cap k) (hv : a.eval x = v) (hx : _root_.Go.Src P 1 t v 1 (bv [b]) w) (hb : n + 1 ≤ 140737488355328) (hbase : base ≤ w.heap.size)
    (hK : ∀ g' cap' w', Wr w' base g' (n + 1) cap' (k ++ [b]) → Below base w w' → wpList P ops Q rest (a.put o.dst (.slice (some ⟨g', 0, none⟩) (n + 1) cap')) w') : wpList P ops Q (o :: rest) a w := by
  refine wpList_plain hgd fun K hK' => ?_
  obtain ⟨g', cap', w', hrun, h1, h2⟩ := run_append_wr w t o.type i z ht hi hz hz1 hz2 hzs base g n cap k b v h hx hb hbase
  unfold Oper.wp
  simp [execOp, ho, resolve, invoke, builtin, hs, hv, hrun, Result.andThen]
  exact hK' _ _ (hK g' cap' w' h1 h2)
theorem Wr.alloc {w : World} {base g n cap : Nat} {l : List UInt8} (h : Wr w base g n cap l) (o : Obj) : Wr (w.alloc o) base g n cap l := by
  obtain ⟨cur, lo, hi, hg, hs, hf, hc⟩ := h.row
  exact ⟨h.ge, h.len, h.cap_le, h.max, cur, lo, hi, (_root_.Go.heap_alloc_old w o h.lt).trans hg, hs, hf, hc⟩
end Go.Proofs.YtjjpfckmbjgfbaaDoor
