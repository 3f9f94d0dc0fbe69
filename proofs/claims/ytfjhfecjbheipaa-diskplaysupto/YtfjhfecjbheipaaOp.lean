/- The arguments of the statements opened: an operation, a slice of operations; no walk. -/
import Derived.Test.YtfjhfecjbheipaaKf
namespace Go.Proofs.Ytfjhfecjbheipaa
open Go.ChangeShapes Go.WideShapes Go.ChangeAt Go.RowKit Go.Deep

theorem base_types : BaseTypes Try.prog 9 3 35 := ⟨Try.underlying9, Try.underlying3, ⟨5, Try.underlying35, Try.underlying5, cells5⟩, by kernel_rfl, by kernel_rfl, by kernel_rfl⟩
theorem agg_of_cells {v : Value} {l : List Value} (h : v.cells.toList = l) (hl : l.length ≠ 1) : v = .agg l.toArray := by
  cases v with
  | agg cs => simp only [Value.cells] at h; subst h; rfl
  | _ => simp only [Value.cells] at h; subst h; exact absurd rfl hl
/-- An operation's bounds. -/
structure Fine (e : OpE) : Prop where
  what : -9223372036854775808 ≤ e.what ∧ e.what < 9223372036854775808
  n : -9223372036854775808 ≤ e.n ∧ e.n < 9223372036854775808
  a : e.a.length ≤ maxLen
  b : e.b.length ≤ maxLen
  d : e.dcap ≤ maxLen
  p : e.pcap ≤ maxLen
theorem open_op_here {H : Type} {enc : TypeId × Value → H} {W : World} {n : Nat} {cs : List Value} {x : DataW H × List MemPlace}
    (h : DataW.trod enc Try.prog W 0 (fun _ => true) true n 38 cs = some x) : ∃ e : OpE, cs = opKind.vals e ∧ opKind.held W e ∧ Fine e := by
  obtain ⟨e, h1, h2, b1, b2, _, b4, b5, b6, b7, _⟩ := open_op base_types Try.underlying36 (by kernel_rfl) Try.underlying38 (by kernel_rfl) ⟨rfl, rfl⟩ ⟨rfl, rfl⟩ ⟨rfl, rfl⟩ ⟨rfl, rfl⟩ ⟨rfl, rfl⟩ ⟨rfl, rfl⟩ h
  exact ⟨e, h1, h2, b1, b2, b4, b5, b6, b7⟩
/-- One operation among the arguments. -/
theorem open_op_arg {H : Type} {enc : TypeId × Value → H} {W : World} {v : Value} {d : DataW H} {p : List MemPlace} (h : DataW.Trod enc Try.prog W 0 (fun _ => true) true 38 v d p) : ∃ e : OpE, v = .agg (opKind.vals e).toArray ∧ opKind.held W e ∧ Fine e := by
  obtain ⟨fuel, hf⟩ := h
  obtain ⟨e, h1, h2, h3⟩ := open_op_here hf
  exact ⟨e, agg_of_cells h1 (by simp [opKind]), h2, h3⟩
set_option maxRecDepth 100000 in
/-- A slice of operations among the arguments. -/
theorem open_script {H : Type} {enc : TypeId × Value → H} {W : World} {v : Value} {d : DataW H} {p : List MemPlace} {base : Nat} (hv : Value.okWide Try.prog W .any base 23 v) (h : DataW.Trod enc Try.prog W 0 (fun _ => true) true 23 v d p) :
    ∃ ao m c es, v = .slice ao m c ∧ RSrc opKind W ao m c es ∧ c ≤ maxLen ∧ ∀ e ∈ es, Fine e := by
  obtain ⟨a0, len0, cap0, rfl⟩ := okWide_slice Try.underlying23 hv
  obtain ⟨fuel, hf⟩ := h
  obtain ⟨ao, m, c, es, h1, h2, h3, h4⟩ := open_recs opKind_ok (Q := fun e _ => Fine e) Try.underlying23 (by kernel_rfl) (fun m cs y hy => by
    obtain ⟨e, q1, q2, q3⟩ := open_op_here hy
    exact ⟨e, q1, q2, q3⟩) (v := .slice a0 len0 cap0) (by simpa only [Value.cells] using hf)
  refine ⟨ao, m, c, es, h1, h2, h3, fun e he => ?_⟩
  obtain ⟨i, hi⟩ := List.getElem?_of_mem he
  rcases h4 with ⟨h0, _⟩ | ⟨ds, sp, _, hl, _, hq⟩
  · have := (List.getElem?_eq_some_iff.1 hi).1
    rw [h2.len, h0] at this
    omega
  · have hlt := (List.getElem?_eq_some_iff.1 hi).1
    rw [h2.len, ← hl] at hlt
    exact hq i e _ hi (List.getElem?_eq_getElem hlt)
set_option maxRecDepth 100000 in
/-- A slice of numbers among the arguments. -/
theorem open_picks {H : Type} {enc : TypeId × Value → H} {W : World} {v : Value} {d : DataW H} {p : List MemPlace} {base : Nat} (hv : Value.okWide Try.prog W .any base 36 v) (h : DataW.Trod enc Try.prog W 0 (fun _ => true) true 36 v d p) :
    ∃ ao m c zs, v = .slice ao m c ∧ RSrc intKind W ao m c zs ∧ c ≤ maxLen := by
  obtain ⟨a0, len0, cap0, rfl⟩ := okWide_slice Try.underlying36 hv
  obtain ⟨fuel, hf⟩ := h
  obtain ⟨ao, m, c, l, h1, h2, h3, _⟩ := open_ints_of (v := .slice a0 len0 cap0) Try.underlying36 Try.underlying3 (by kernel_rfl) (by simpa only [Value.cells] using hf)
  exact ⟨ao, m, c, l, h1, h2, h3⟩
end Go.Proofs.Ytfjhfecjbheipaa
