/- The arguments of stage 8's statements opened: a slice of entries; no walk. -/
import Derived.Test.YtgdggeacjfhkkaaSj
import Derived.Test.YtgdggeacjfhkkaaO
namespace Go.Proofs.Ytgdggeacjfhkkaa
open Go.ChangeShapes Go.WideShapes Go.ChangeAt Go.RowKit
open Sk (Ent)

theorem open_bytesS {H : Type} {enc : TypeId × Value → H} {W : World} {n : Nat} {v : Value} {x : DataW H × List MemPlace} (h : DataW.trod enc Try.prog W 0 (fun _ => true) true n 34 [v] = some x) :
    ∃ ao m c l, v = .slice ao m c ∧ Src W ao m c l ∧ c ≤ maxLen := by
  rcases open_ints Try.underlying34 Try.underlying5 cells5 h with ⟨hcs, hx⟩ | ⟨a, len, cap, zs, hcs, _, hl, hm, hz, hx, hcell, hwz⟩
  · simp only [List.cons.injEq, and_true] at hcs
    exact ⟨none, 0, 0, [], hcs, Src.empty (fun _ => rfl), Nat.zero_le _⟩
  · simp only [List.cons.injEq, and_true] at hcs
    simp at hz
    refine ⟨some a, len, cap, bl (zs.take len), hcs, ?_, hm⟩
    refine ⟨by simp [bl]; omega, hl, (fun h => by cases h), fun ad had j u hu => ?_⟩
    cases had
    have hj : j < (bl (zs.take len)).length := by
      have := (List.getElem?_eq_some_iff.1 hu).1
      rwa [bv_length] at this
    have hj2 : j < (zs.take len).length := by simpa [bl] using hj
    rw [bv_at _ j hj] at hu
    cases hu
    rw [bl_at (zs.take len) j hj2 (fun n hn => hwz n (List.mem_of_mem_take hn)), hcell j (by simp at hj2; omega)]
    congr 2
    have h1 : j < len := by simp at hj2; omega
    rw [List.getD_eq_getElem?_getD, List.getD_eq_getElem?_getD, List.getElem?_take, if_pos h1]
theorem trod_struct4S {H : Type} {enc : TypeId × Value → H} {P : Program} {w : World} {base : Nat} {spare : Nat → Bool} {held : Bool} {t : TypeId} {f0 f1 f2 f3 : Field} {fuel : Nat} {cs : List Value} {x : DataW H × List MemPlace} (ht : P.underlying t = some (.struct #[f0, f1, f2, f3])) (h : DataW.trod enc P w base spare held fuel t cs = some x) :
    ∃ y0 y1 y2 y3 n, cs.length = P.cellsOf t ∧ DataW.trod enc P w base spare held n f0.type ((cs.drop f0.offset).take (P.cellsOf f0.type)) = some y0 ∧
      DataW.trod enc P w base spare held n f1.type ((cs.drop f1.offset).take (P.cellsOf f1.type)) = some y1 ∧ DataW.trod enc P w base spare held n f2.type ((cs.drop f2.offset).take (P.cellsOf f2.type)) = some y2 ∧
      DataW.trod enc P w base spare held n f3.type ((cs.drop f3.offset).take (P.cellsOf f3.type)) = some y3 := by
  obtain ⟨xs, n, _, rfl, hl, hlen, hf⟩ := DataW.trod_struct ht h
  match xs, hlen with
  | [y0, y1, y2, y3], _ => exact ⟨y0, y1, y2, y3, n, hl, by simpa using hf 0 f0 rfl, by simpa using hf 1 f1 rfl, by simpa using hf 2 f2 rfl, by simpa using hf 3 f3 rfl⟩
set_option maxRecDepth 100000 in
theorem entry_fields : ∃ f0 f1 f2 f3 : Field, Try.prog.underlying 36 = some (.struct #[f0, f1, f2, f3]) ∧ (f0.type = 34 ∧ f0.offset = 0) ∧ (f1.type = 3 ∧ f1.offset = 1) ∧ (f2.type = 4 ∧ f2.offset = 2) ∧ (f3.type = 34 ∧ f3.offset = 3) := ⟨_, _, _, _, Try.underlying36, ⟨rfl, rfl⟩, ⟨rfl, rfl⟩, ⟨rfl, rfl⟩, ⟨rfl, rfl⟩⟩
set_option maxRecDepth 100000 in
theorem cB : Try.prog.cellsOf 34 = 1 := by kernel_rfl
set_option maxRecDepth 100000 in
theorem cI : Try.prog.cellsOf 3 = 1 := by kernel_rfl
set_option maxRecDepth 100000 in
theorem cBo : Try.prog.cellsOf 4 = 1 := by kernel_rfl
set_option maxRecDepth 100000 in
theorem cE : Try.prog.cellsOf 36 = 4 := by kernel_rfl
set_option maxRecDepth 100000 in
/-- One entry. -/
theorem open_entry {H : Type} {enc : TypeId × Value → H} {W : World} {n : Nat} {cs : List Value} {x : DataW H × List MemPlace} (h : DataW.trod enc Try.prog W 0 (fun _ => true) true n 36 cs = some x) :
    ∃ e : EV, cs = entKind.vals e ∧ entKind.held W e ∧ e.e.key.length ≤ maxLen ∧ e.e.val.length ≤ maxLen := by
  obtain ⟨f0, f1, f2, f3, hF, ⟨e0, o0⟩, ⟨e1, o1⟩, ⟨e2, o2⟩, ⟨e3, o3⟩⟩ := entry_fields
  obtain ⟨y0, y1, y2, y3, k, hl, t0, t1, t2, t3⟩ := trod_struct4S hF h
  rw [cE] at hl
  match cs, hl with
  | [v0, v1, v2, v3], _ =>
    rw [e0, o0, cB] at t0
    rw [e1, o1, cI] at t1
    rw [e2, o2, cBo] at t2
    rw [e3, o3, cB] at t3
    simp at t0 t1 t2 t3
    obtain ⟨a0, m0, c0, l0, rfl, s0, k0⟩ := open_bytesS t0
    obtain ⟨z, hz, _, _⟩ := DataW.trod_int Try.underlying3 t1
    obtain ⟨g, hg, _⟩ := DataW.trod_bool Try.underlying4 t2
    obtain ⟨a3, m3, c3, l3, rfl, s3, k3⟩ := open_bytesS t3
    simp only [List.cons.injEq, and_true] at hz hg
    have h0 := s0.len
    have h3 := s3.len
    have q0 := s0.cap
    have q3 := s3.cap
    refine ⟨⟨a0, c0, a3, c3, ⟨l0, z, g, l3⟩⟩, ?_, ⟨?_, ?_⟩, ?_, ?_⟩
    · simp only [entKind]; rw [h0, h3, hz, hg]
    · show Src W a0 l0.length c0 l0; rw [h0]; exact s0
    · show Src W a3 l3.length c3 l3; rw [h3]; exact s3
    · show l0.length ≤ maxLen; omega
    · show l3.length ≤ maxLen; omega
set_option maxRecDepth 100000 in
/-- A slice of entries. -/
theorem open_ents {H : Type} {enc : TypeId × Value → H} {W : World} {v : Value} {d : DataW H} {p : List MemPlace} {base : Nat} (hv : Value.okWide Try.prog W .any base 24 v) (h : DataW.Trod enc Try.prog W 0 (fun _ => true) true 24 v d p) :
    ∃ ao m c es, v = .slice ao m c ∧ RSrc entKind W ao m c es ∧ c ≤ maxLen ∧ ∀ y ∈ es, y.e.key.length ≤ 9223372036854775807 ∧ y.e.val.length ≤ 9223372036854775807 := by
  obtain ⟨a0, len0, cap0, rfl⟩ := okWide_slice Try.underlying24 hv
  obtain ⟨fuel, hf⟩ := h
  obtain ⟨ao, m, c, es, h1, h2, h3, h4⟩ := open_recs (enc := enc) (W := W) entKind_ok (Q := fun o _ => o.e.key.length ≤ maxLen ∧ o.e.val.length ≤ maxLen) Try.underlying24 (by kernel_rfl) (fun m cs y hy => by
    obtain ⟨o, q1, q2, q3, q4⟩ := open_entry hy
    exact ⟨o, q1, q2, q3, q4⟩) (v := .slice a0 len0 cap0) (by simpa only [Value.cells] using hf)
  refine ⟨ao, m, c, es, h1, h2, h3, fun e he => ?_⟩
  obtain ⟨i, hi⟩ := List.getElem?_of_mem he
  rcases h4 with ⟨h0, _⟩ | ⟨ds, sp, _, hl, _, hq⟩
  · have := (List.getElem?_eq_some_iff.1 hi).1
    rw [h2.len, h0] at this
    omega
  · have hlt := (List.getElem?_eq_some_iff.1 hi).1
    rw [h2.len, ← hl] at hlt
    have := hq i e _ hi (List.getElem?_eq_getElem hlt)
    unfold maxLen at this
    omega
end Go.Proofs.Ytgdggeacjfhkkaa
