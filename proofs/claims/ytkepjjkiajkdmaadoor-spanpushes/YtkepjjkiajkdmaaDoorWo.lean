/- A span among the arguments opened; no walk. -/
import Derived.Test.YtkepjjkiajkdmaaDoorQo
namespace Go.Proofs.YtkepjjkiajkdmaaDoor
open Go.ChangeShapes Go.WideShapes Go.ChangeAt Go.RowKit Go.Deep

theorem agg_of_cells {v : Value} {l : List Value} (h : v.cells.toList = l) (hl : l.length ≠ 1) : v = .agg l.toArray := by
  cases v with
  | agg cs => simp only [Value.cells] at h; subst h; rfl
  | _ => simp only [Value.cells] at h; subst h; exact absurd rfl hl
theorem trod_struct2 {H : Type} {enc : TypeId × Value → H} {P : Program} {w : World} {base : Nat} {spare : Nat → Bool} {held : Bool} {t : TypeId} {f0 f1 : Field} {fuel : Nat} {cs : List Value} {x : DataW H × List MemPlace} (ht : P.underlying t = some (.struct #[f0, f1])) (h : DataW.trod enc P w base spare held fuel t cs = some x) :
    ∃ y0 y1 n, cs.length = P.cellsOf t ∧ x.1 = .agg [y0.1, y1.1] ∧ DataW.trod enc P w base spare held n f0.type ((cs.drop f0.offset).take (P.cellsOf f0.type)) = some y0 ∧
      DataW.trod enc P w base spare held n f1.type ((cs.drop f1.offset).take (P.cellsOf f1.type)) = some y1 := by
  obtain ⟨xs, n, _, rfl, hl, hlen, hf⟩ := DataW.trod_struct ht h
  match xs, hlen with
  | [y0, y1], _ => exact ⟨y0, y1, n, hl, rfl, by simpa using hf 0 f0 rfl, by simpa using hf 1 f1 rfl⟩
theorem span_fields : ∃ f0 f1 : Field, Tryd.prog.underlying 24 = some (.struct #[f0, f1]) ∧ (f0.type = 3 ∧ f0.offset = 0) ∧ (f1.type = 22 ∧ f1.offset = 1) := ⟨_, _, Tryd.underlying24, ⟨rfl, rfl⟩, ⟨rfl, rfl⟩⟩
theorem cI16 : Tryd.prog.cellsOf 3 = 1 := by kernel_rfl
theorem cS16 : Tryd.prog.cellsOf 22 = 1 := by kernel_rfl
theorem cN16 : Tryd.prog.cellsOf 24 = 2 := by kernel_rfl
set_option maxRecDepth 100000 in
theorem weights_span {H : Type} {d0 d1 : DataW H} {n : Nat} (h : n ∈ d1.weights Tryd.prog 22) : n ∈ DataW.weights Tryd.prog 24 (.agg [d0, d1]) := by
  obtain ⟨f0, f1, hF, ⟨e0, _⟩, ⟨e1, _⟩⟩ := span_fields
  simp only [DataW.weights, hF, DataW.weightsEach, List.map_cons, List.map_nil, e0, e1, List.mem_append]
  exact .inr (.inl h)
set_option maxRecDepth 100000 in
/-- A span among the arguments. -/
theorem open_span {H : Type} {enc : TypeId × Value → H} {W : World} {v : Value} {d : DataW H} {p : List MemPlace} {ts : List TypeId} {ds : List (DataW H)} {j : Nat} (hsz : (DataW.weightsEach Tryd.prog ts ds).all (· ≤ reachBytes) = true) (ht : ts[j]? = some 24) (hd : ds[j]? = some d)
    (h : DataW.Trod enc Tryd.prog W 0 (fun _ => true) true 24 v d p) :
    ∃ n ao m c es, v = .agg #[.int .i64 n, .slice ao m c] ∧ RSrc strKind W ao m c es ∧ m ≤ 8796093021952 := by
  obtain ⟨fuel, hf⟩ := h
  obtain ⟨f0, f1, hF, ⟨e0, o0⟩, ⟨e1, o1⟩⟩ := span_fields
  obtain ⟨y0, y1, k, hl, hx, t0, t1⟩ := trod_struct2 hF hf
  rw [cN16] at hl
  obtain ⟨cs, hcs⟩ : ∃ cs, v.cells.toList = cs := ⟨_, rfl⟩
  rw [hcs] at hl t0 t1
  match cs, hl with
  | [v0, v1], _ =>
    rw [e0, o0, cI16] at t0
    rw [e1, o1, cS16] at t1
    simp at t0 t1
    obtain ⟨z0, hz0, _, _⟩ := DataW.trod_int Tryd.underlying3 t0
    simp only [List.cons.injEq, and_true] at hz0
    obtain ⟨ao, m, c, es, h1, h2, h3, h4⟩ := open_recs (enc := enc) (W := W) strKind_ok (Q := fun e y => y = .lit (.string e)) Tryd.underlying22 (by kernel_rfl) (fun m cs y hy => by
      obtain ⟨s, rfl, rfl, _⟩ := DataW.trod_string Tryd.underlying9 hy
      exact ⟨s.data.toList, by cases s; simp [strKind], trivial, rfl⟩) t1
    have hv : v = .agg #[.int .i64 z0, .slice ao m c] := by
      have := agg_of_cells hcs (by simp)
      rw [this, hz0, h1]
    have hcap := h2.cap
    refine ⟨z0, ao, m, c, es, hv, h2, ?_⟩
    rcases h4 with ⟨h0, _⟩ | ⟨xs, sp, hx1, hl1, hcl, _⟩
    · omega
    · have hd' : d = .agg [y0.1, y1.1] := hx
      have h8 := List.all_eq_true.1 hsz _ (DataW.weights_mem_each ht (hd' ▸ hd) ((xs.length + sp.length) * Tryd.prog.bytesOf 9) (weights_span (by rw [hx1]; simp [DataW.weights, Tryd.underlying22])))
      simp only [decide_eq_true_eq] at h8
      rw [bytes9, hcl] at h8
      unfold reachBytes at h8
      omega
end Go.Proofs.YtkepjjkiajkdmaaDoor
