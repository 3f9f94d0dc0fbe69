/- A row appended to rows; rows read; no walk. -/
import Derived.Test.YtdgfbbaddoghaaaDoorTk
namespace Go.Proofs.YtdgfbbaddoghaaaDoor
open Go.RowKit
open Mt (Pos)

/-- append(v, y), y a row of nodes laid as a row of its own. -/
theorem wpList_append_row {P : Program} {w : World} {ops : Array Oper} {rest : List Oper} {o : Oper} {a : Act} {Q : Exit → Act → World → Prop} (hgd : o.guard = none) (s x : Operand) (t T TT : TypeId) (hT : T ≠ TT)
    (ho : o.op = .call { callee := .builtin .append, args := #[s, x], argTypes := #[t, t] })
    (base : Nat) (i : TypeInfo) (ht : P.underlying t = some (.slice TT)) (hi : P.info? TT = some i) (hz : i.zero = some (.slice none 0 0)) (hsize : i.size = 1) (hby : i.bytes = 24)
    (w0 : World) (v : Value) (pss : List (List Pos)) (hs : a.eval s = v) (hR : RowsV T TT w0 base v pss) (y : PV) (hy : (rowKind T).held w0 y) (hb : Below w0.heap.size w0 w)
    (ad : Addr) (hx : a.eval x = .slice (some ad) 1 1) (hc : w.cell? (ad.add 0) = some (.slice y.p y.ps.length y.c)) (hl : pss.length + 1 ≤ 1000) (hbase : base ≤ w.heap.size)
    (h : ∀ v' w', RowsV T TT w' base v' (pss ++ [y.ps]) → Below base w w' → wpList P ops Q rest (a.put o.dst v') w') : wpList P ops Q (o :: rest) a w := by
  obtain ⟨xs, h1, h2, h3⟩ := hR.is
  have hxl : pss.length = xs.length := by rw [← h1, List.length_map]
  rw [hxl] at h2 hl
  have o1 := own_next h2 hb
  refine wpList_append_rec (rowKind_ok T) hgd s x t TT ho base i (.slice none 0 0) 24 ht hi hz hsize hby rfl v xs.length xs hs o1 ad 1 y hx (fun j u hu => ?_) (by unfold maxLen; omega) (by omega) hbase ?_
  · have hj : j = 0 := by
      have := (List.getElem?_eq_some_iff.1 hu).1
      simp only [rowKind, List.length_cons, List.length_nil] at this
      omega
    subst hj
    simp only [rowKind, List.getElem?_cons_zero, Option.some.injEq] at hu
    rw [← hu]
    exact hc
  · intro v' w' ho2 hg
    have hm := RowsV.more hT h3 h2 hy hb ho2 hg
    rw [h1] at hm
    exact h v' w' hm ((Below.refl base w).grown hg hbase (fun k hk => (o1.lt k hk).1))
theorem RowsV.src {T TT : TypeId} {w : World} {B : Nat} {v : Value} {pss : List (List Pos)} (h : RowsV T TT w B v pss) : ∃ (ao : Option Addr) (c : Nat) (xs : List PV), v = .slice ao pss.length c ∧ xs.map (·.ps) = pss ∧ RSrc (rowKind T) w ao pss.length c xs ∧ c ≤ maxLen := by
  obtain ⟨xs, h1, h2, h3⟩ := h.is
  obtain ⟨ao, c, h4, h5, h6⟩ := RSrc.own (rowKind_ok T) h2 h3
  exact ⟨ao, c, xs, h4, h1, h5, h6⟩
theorem RowsV.srcOf {T TT : TypeId} {w : World} {B : Nat} {ao : Option Addr} {n c : Nat} {pss : List (List Pos)} (h : RowsV T TT w B (.slice ao n c) pss) : ∃ xs : List PV, xs.map (·.ps) = pss ∧ RSrc (rowKind T) w ao pss.length c xs := by
  obtain ⟨a2, c2, xs, e, h1, h2, _⟩ := h.src
  cases e
  exact ⟨xs, h1, h2⟩
theorem rows_at {T : TypeId} {w : World} {ao : Option Addr} {n c : Nat} {xs : List PV} (h : RSrc (rowKind T) w ao n c xs) (hn : 0 < n) : ∃ b off, ao = some ⟨b, off, none⟩ ∧ b < w.heap.size ∧ ∀ i x, xs[i]? = some x → w.cell? ⟨b, off + i, none⟩ = some (.slice x.p x.ps.length x.c) ∧ RSrc posKind w x.p x.ps.length x.c x.ps := by
  obtain ⟨b, off, h1, h2, h3⟩ := h.form (rowKind_ok T) hn
  refine ⟨b, off, h1, h2, fun i x hx => ⟨?_, ?_⟩⟩
  · have := h3 i x hx 0 _ rfl
    simpa [rowKind] using this
  · have := h.held x (List.mem_of_getElem? hx)
    obtain ⟨a2, c2, e, hr, _⟩ := RSrc.own posKind_ok (v := .slice x.p x.ps.length x.c) this (fun _ _ => trivial)
    cases e
    exact hr
theorem PosR.held {T : TypeId} {w w' : World} {ps : List Pos} {ao : Option Addr} {c : Nat} (h : w'.ownsRow w.heap.size T 2 (.slice ao ps.length c) ps.length (rv posKind ps)) : (rowKind T).held w' ⟨ao, c, ps⟩ := own_low h (Nat.zero_le _)
end Go.Proofs.YtdgfbbaddoghaaaDoor
