/- Rows in memory: beginnings, ends, what stays; no walk. -/
import Derived.Test.YtdgfbbaddoghaaaRw
import Derived.Test.YtdgfbbaddoghaaaMu
import Derived.Deep.RegionHeld3
namespace Go.Proofs.Ytdgfbbaddoghaaa
open Go.RowKit

theorem RSrc.head {α : Type} {k : Kind α} (K : k.Ok) {w : World} {ao : Option Addr} {n c : Nat} {es : List α} (h : RSrc k w ao n c es) (m : Nat) (hm : m ≤ n) : RSrc k w ao m c (es.take m) :=
  ⟨by rw [List.length_take, h.len]; omega, Nat.le_trans hm h.cap, fun e => ⟨by have := (h.nil e).1; omega, (h.nil e).2⟩, fun ad had j u hu => by
    obtain ⟨i, q, e, rfl, hq, he, hv⟩ := rv_get K hu
    have hi : es[i]? = some e := by
      rw [List.getElem?_take] at he
      split at he
      · exact he
      · cases he
    exact h.cells ad had _ u ((rv_at K q hi hq).trans hv), fun e he => h.held e (List.mem_of_mem_take he)⟩
theorem RSrc.tail {α : Type} {k : Kind α} (K : k.Ok) {w : World} {b off n c : Nat} {es : List α} (h : RSrc k w (some ⟨b, off, none⟩) n c es) (m : Nat) (hm : m ≤ n) : RSrc k w (some ⟨b, off + m * k.size, none⟩) (n - m) (c - m) (es.drop m) := by
  have hl := h.len
  have hc := h.cap
  refine ⟨by rw [List.length_drop]; omega, by omega, fun e => (by cases e), fun ad had j u hu => ?_, fun e he => h.held e (List.mem_of_mem_drop he)⟩
  cases had
  obtain ⟨p, q, e, rfl, hq, he, hv⟩ := rv_get K hu
  rw [List.getElem?_drop] at he
  have h1 := h.cells _ rfl ((m + p) * k.size + q) u ((rv_at K q he hq).trans hv)
  rw [Addr.add_mid] at h1 ⊢
  rw [show off + m * k.size + (p * k.size + q) = off + ((m + p) * k.size + q) by rw [Nat.add_mul]; omega]
  exact h1
theorem info_partsS {P : Program} {t : TypeId} {z : Value} {s b : Nat} (h : (P.info? t).map (fun i => (i.zero, i.size, i.bytes)) = some (some z, s, b)) : ∃ i, P.info? t = some i ∧ i.zero = some z ∧ i.size = s ∧ i.bytes = b := by
  cases hi : P.info? t with
  | none => rw [hi] at h; cases h
  | some i =>
    rw [hi] at h
    simp only [Option.map_some, Option.some.injEq, Prod.mk.injEq] at h
    exact ⟨i, rfl, h.1, h.2.1, h.2.2⟩
theorem own_low {w : World} {B B' t k n : Nat} {v : Value} {xs : List Value} (h : w.ownsRow B t k v n xs) (hb : B' ≤ B) : w.ownsRow B' t k v n xs := by
  rcases h.2 with h0 | ⟨g, cap, cur, rfl, h1, r⟩
  · exact ⟨h.1, .inl h0⟩
  · exact ⟨h.1, .inr ⟨g, cap, cur, rfl, Nat.le_trans hb h1, r⟩⟩
theorem own_next {w w' : World} {B t k n : Nat} {v : Value} {xs : List Value} (h : w.ownsRow B t k v n xs) (hb : Below w.heap.size w w') : w'.ownsRow B t k v n xs := by
  rcases h.2 with h0 | ⟨g, cap, cur, rfl, h1, h2, r⟩
  · exact ⟨h.1, .inl h0⟩
  · exact ⟨h.1, .inr ⟨g, cap, cur, rfl, h1, (hb.block g (Array.getElem?_eq_some_iff.1 h2).1).trans h2, r⟩⟩
theorem own_is {w : World} {B t k n : Nat} {v : Value} {xs : List Value} (h : w.ownsRow B t k v n xs) : ∃ ao c, v = .slice ao n c := by
  rcases h.2 with ⟨rfl, rfl⟩ | ⟨g, cap, cur, rfl, _⟩
  · exact ⟨_, _, rfl⟩
  · exact ⟨_, _, rfl⟩
theorem step_append_recS {α : Type} {k : Kind α} (K : k.Ok) {P : Program} {w : World} {ops : Array Oper} {o : Oper} {a : Act} {C : Act → World → Prop} {Q : Exit → Act → World → Prop} {E : Prop} (hgd : o.guard = none) (s x : Operand) (t tF : TypeId)
    (ho : o.op = .call { callee := .builtin .append, args := #[s, x], argTypes := #[t, t] })
    (base : Nat) (i : TypeInfo) (z : Value) (bytes : Nat) (ht : P.underlying t = some (.slice tF)) (hi : P.info? tF = some i) (hz : i.zero = some z)
    (hsize : i.size = k.size) (hby : i.bytes = bytes) (hzs : z.cells.size = k.size)
    (v : Value) (n : Nat) (es : List α) (hs : a.eval s = v) (hown : w.ownsRow base tF k.size v n (rv k es))
    (ad : Addr) (c : Nat) (e : α) (hx : a.eval x = .slice (some ad) 1 c) (hcells : ∀ j u, (k.vals e)[j]? = some u → w.cell? (ad.add j) = some u)
    (hb : n + 1 ≤ maxLen) (hbytes : (n + 1) * bytes ≤ 140737488355328) (hbase : base ≤ w.heap.size)
    (h : ∀ v' w', w'.ownsRow base tF k.size v' (n + 1) (rv k (es ++ [e])) → w.grownBy w' v.ownBlock → C (a.put o.dst v') w') : if Region.wanted o (yielded ops a.tmps) = true then Oper.wp P o a w C Q else E := by
  have hw : Region.wanted o (yielded ops a.tmps) = true := by simp [Region.wanted, hgd]
  rw [if_pos hw]
  obtain ⟨v', w', hrun, h1, h2, _⟩ := run_append_own (P := P) w base t o.type tF i z k.size bytes ht hi hz hsize hby hzs K.pos v n (rv k es) hown ad 1 c (k.vals e) (by rw [K.len, Nat.one_mul]) hcells (K.one e) hb hbytes hbase
  unfold Oper.wp
  simp [execOp, ho, resolve, invoke, builtin, hs, hx, hrun, Result.andThen]
  refine h v' w' ?_ h2
  rw [rv_append]
  simpa [rv] using h1
theorem own_one {w : World} {B t : Nat} {u : Value} (h : B ≤ w.heap.size) : (w.alloc (.cells #[u] t)).ownsRow B t 1 (.slice (some ⟨w.heap.size, 0, none⟩) 1 1) 1 [u] :=
  ⟨by simp, .inr ⟨_, _, _, rfl, h, heap_alloc_new w _, Nat.le_refl _, by decide, by simp, by simp⟩⟩
theorem below_cell {w w' : World} (hb : Below w.heap.size w w') {p : Addr} {v : Value} (h : w.cell? p = some v) : w'.cell? p = some v := by rw [hb.cell (World.block_lt_of_cell? w _ h)]; exact h
theorem take_snoc {α : Type} {l : List α} {k : Nat} {a : α} (h : l[k]? = some a) : l.take (k + 1) = l.take k ++ [a] := by rw [List.take_add_one, h]; rfl
theorem addr_block (ad : Addr) (j : Nat) : (ad.add j).block = ad.block := by unfold Addr.add; split <;> rfl
theorem put_row {w : World} {b : Nat} {c : Array Value} {t : TypeId} (h : w.heap[b]? = some (.cells c t (0, 0))) (i : Nat) (v : Value) : (w.setCell ⟨b, i, none⟩ v).heap[b]? = some (.cells (c.setIfInBounds i v) t (0, 0)) := by
  rw [setCell_eq_setRow w b i c t (0, 0) v h]; exact setRow_heap w b c _ t (0, 0) h
end Go.Proofs.Ytdgfbbaddoghaaa
