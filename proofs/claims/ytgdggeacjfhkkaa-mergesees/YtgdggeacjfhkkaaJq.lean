/- A slice of entries among the arguments, each within the form's reach; no walk. -/
import Derived.Test.YtgdggeacjfhkkaaJp
namespace Go.Proofs.Ytgdggeacjfhkkaa
open Go.ChangeShapes Go.WideShapes Go.ChangeAt Go.RowKit
open Sk (Ent)

theorem open_bytes_dat {H : Type} {enc : TypeId × Value → H} {W : World} {n : Nat} {v : Value} {x : DataW H × List MemPlace} (h : DataW.trod enc Try.prog W 0 (fun _ => true) true n 34 [v] = some x) :
    ∃ ao m c l, v = .slice ao m c ∧ Src W ao m c l ∧ (x.1 = .nil ∧ m = 0 ∨ ∃ elems spare, x.1 = .slice elems spare ∧ elems.length + spare.length = c) := by
  rcases open_ints Try.underlying34 Try.underlying5 cells5 h with ⟨hcs, hx⟩ | ⟨a, len, cap, zs, hcs, _, hl, hm, hz, hx, hcell, hwz⟩
  · simp only [List.cons.injEq, and_true] at hcs
    exact ⟨none, 0, 0, [], hcs, Src.empty (fun _ => rfl), .inl ⟨by rw [hx], rfl⟩⟩
  · simp only [List.cons.injEq, and_true] at hcs
    simp at hz
    refine ⟨some a, len, cap, bl (zs.take len), hcs, ?_, .inr ⟨_, _, by rw [hx], ?_⟩⟩
    · refine ⟨by simp [bl]; omega, hl, (fun h => by cases h), fun ad had j u hu => ?_⟩
      cases had
      have hj : j < (bl (zs.take len)).length := by
        have := (List.getElem?_eq_some_iff.1 hu).1
        rwa [bv_length] at this
      have hj2 : j < (zs.take len).length := by simpa [bl] using hj
      rw [bv_at _ j hj] at hu
      cases hu
      rw [bl_at (zs.take len) j hj2 (fun n hn => hwz n (List.mem_of_mem_take hn)), hcell j (by simp at hj2; omega)]
      congr 2
      have h1 : j < len := by simp at hj2; omega
      rw [List.getD_eq_getElem?_getD, List.getD_eq_getElem?_getD, List.getElem?_take, if_pos h1]
    · simp [lits]
      omega
theorem weights_all {H : Type} {P : Program} {e : TypeId} : ∀ {ds : List (DataW H)} {i : Nat} {d : DataW H}, ds[i]? = some d → ∀ n ∈ d.weights P e, n ∈ DataW.weightsAll P e ds
  | d0 :: ds, 0, d, hd, n, hn => by
    simp only [List.getElem?_cons_zero, Option.some.injEq] at hd
    subst hd
    simp only [DataW.weightsAll, List.mem_append]
    exact .inl hn
  | d0 :: ds, i + 1, d, hd, n, hn => by
    simp only [List.getElem?_cons_succ] at hd
    simp only [DataW.weightsAll, List.mem_append]
    exact .inr (weights_all hd n hn)
  | [], _, _, hd, _, _ => by simp at hd
/-- A datum of a byte slice, m long, of c places. -/
def ByDat {H : Type} (d : DataW H) (m c : Nat) : Prop := d = .nil ∧ m = 0 ∨ ∃ elems spare, d = .slice elems spare ∧ elems.length + spare.length = c
theorem trod_struct4D {H : Type} {enc : TypeId × Value → H} {P : Program} {w : World} {base : Nat} {spare : Nat → Bool} {held : Bool} {t : TypeId} {f0 f1 f2 f3 : Field} {fuel : Nat} {cs : List Value} {x : DataW H × List MemPlace} (ht : P.underlying t = some (.struct #[f0, f1, f2, f3])) (h : DataW.trod enc P w base spare held fuel t cs = some x) :
    ∃ y0 y1 y2 y3 n, cs.length = P.cellsOf t ∧ x.1 = .agg [y0.1, y1.1, y2.1, y3.1] ∧ DataW.trod enc P w base spare held n f0.type ((cs.drop f0.offset).take (P.cellsOf f0.type)) = some y0 ∧
      DataW.trod enc P w base spare held n f1.type ((cs.drop f1.offset).take (P.cellsOf f1.type)) = some y1 ∧ DataW.trod enc P w base spare held n f2.type ((cs.drop f2.offset).take (P.cellsOf f2.type)) = some y2 ∧
      DataW.trod enc P w base spare held n f3.type ((cs.drop f3.offset).take (P.cellsOf f3.type)) = some y3 := by
  obtain ⟨xs, n, _, rfl, hl, hlen, hf⟩ := DataW.trod_struct ht h
  match xs, hlen with
  | [y0, y1, y2, y3], _ => exact ⟨y0, y1, y2, y3, n, hl, rfl, by simpa using hf 0 f0 rfl, by simpa using hf 1 f1 rfl, by simpa using hf 2 f2 rfl, by simpa using hf 3 f3 rfl⟩
set_option maxRecDepth 100000 in
theorem open_entryD {H : Type} {enc : TypeId × Value → H} {W : World} {n : Nat} {cs : List Value} {x : DataW H × List MemPlace} (h : DataW.trod enc Try.prog W 0 (fun _ => true) true n 36 cs = some x) :
    ∃ e : EV, cs = entKind.vals e ∧ entKind.held W e ∧ ∃ d0 d1 d2 d3, x.1 = .agg [d0, d1, d2, d3] ∧ ByDat d0 e.e.key.length e.kc ∧ ByDat d3 e.e.val.length e.vc := by
  obtain ⟨f0, f1, f2, f3, hF, ⟨e0, o0⟩, ⟨e1, o1⟩, ⟨e2, o2⟩, ⟨e3, o3⟩⟩ := entry_fields
  obtain ⟨y0, y1, y2, y3, k, hl, hx, t0, t1, t2, t3⟩ := trod_struct4D hF h
  rw [cE] at hl
  match cs, hl with
  | [v0, v1, v2, v3], _ =>
    rw [e0, o0, cB] at t0
    rw [e1, o1, cI] at t1
    rw [e2, o2, cBo] at t2
    rw [e3, o3, cB] at t3
    simp at t0 t1 t2 t3
    obtain ⟨a0, m0, c0, l0, rfl, s0, k0⟩ := open_bytes_dat t0
    obtain ⟨z, hz, _, _⟩ := DataW.trod_int Try.underlying3 t1
    obtain ⟨g, hg, _⟩ := DataW.trod_bool Try.underlying4 t2
    obtain ⟨a3, m3, c3, l3, rfl, s3, k3⟩ := open_bytes_dat t3
    simp only [List.cons.injEq, and_true] at hz hg
    have h0 := s0.len
    have h3 := s3.len
    refine ⟨⟨a0, c0, a3, c3, ⟨l0, z, g, l3⟩⟩, ?_, ⟨?_, ?_⟩, y0.1, y1.1, y2.1, y3.1, hx, ?_, ?_⟩
    · simp only [entKind]; rw [h0, h3, hz, hg]
    · show Src W a0 l0.length c0 l0; rw [h0]; exact s0
    · show Src W a3 l3.length c3 l3; rw [h3]; exact s3
    · show ByDat y0.1 l0.length c0; rw [h0]; exact k0
    · show ByDat y3.1 l3.length c3; rw [h3]; exact k3
set_option maxRecDepth 100000 in
theorem bytesE : Try.prog.bytesOf 36 = 64 := by kernel_rfl
set_option maxRecDepth 100000 in
theorem weights_ent {H : Type} {d0 d1 d2 d3 : DataW H} {n : Nat} (h : n ∈ d0.weights Try.prog 34 ∨ n ∈ d3.weights Try.prog 34) : n ∈ DataW.weights Try.prog 36 (.agg [d0, d1, d2, d3]) := by
  obtain ⟨f0, f1, f2, f3, hF, ⟨e0, _⟩, ⟨e1, _⟩, ⟨e2, _⟩, ⟨e3, _⟩⟩ := entry_fields
  simp only [DataW.weights, hF, DataW.weightsEach, List.map_cons, List.map_nil, e0, e1, e2, e3, List.mem_append]
  rcases h with h | h
  · exact .inl h
  · exact .inr (.inr (.inr (.inl h)))
set_option maxRecDepth 100000 in
/-- A slice of entries. -/
theorem open_ents_reach {H : Type} {enc : TypeId × Value → H} {W : World} {v : Value} {d : DataW H} {p : List MemPlace} {base : Nat} {ts : List TypeId} {ds : List (DataW H)} {j : Nat} (hsz : (DataW.weightsEach Try.prog ts ds).all (· ≤ reachBytes) = true) (ht : ts[j]? = some 24) (hd : ds[j]? = some d)
    (hv : Value.okWide Try.prog W .any base 24 v) (h : DataW.Trod enc Try.prog W 0 (fun _ => true) true 24 v d p) :
    ∃ ao m c es, v = .slice ao m c ∧ RSrc entKind W ao m c es ∧ c ≤ maxLen ∧ (m ≤ 140737488355328 ∧ ∀ y ∈ es, y.e.key.length ≤ 140737488355328 ∧ y.e.val.length ≤ 140737488355328) := by
  obtain ⟨a0, len0, cap0, rfl⟩ := okWide_slice Try.underlying24 hv
  obtain ⟨fuel, hf⟩ := h
  obtain ⟨ao, m, c, es, h1, h2, h3, h4⟩ := open_recs (enc := enc) (W := W) entKind_ok (Q := fun e y => ∃ d0 d1 d2 d3, y = .agg [d0, d1, d2, d3] ∧ ByDat d0 e.e.key.length e.kc ∧ ByDat d3 e.e.val.length e.vc) Try.underlying24 (by kernel_rfl) (fun m cs y hy => by
    obtain ⟨o, q1, q2, q3⟩ := open_entryD hy
    exact ⟨o, q1, q2, q3⟩) (v := .slice a0 len0 cap0) (by simpa only [Value.cells] using hf)
  have hcap := h2.cap
  refine ⟨ao, m, c, es, h1, h2, h3, ?_⟩
  rcases h4 with ⟨h0, _⟩ | ⟨xs, sp, hx, hl, hcl, hq⟩
  · refine ⟨by omega, fun e he => ?_⟩
    have := h2.len
    rw [h0] at this
    rw [List.length_eq_zero_iff.1 this] at he
    cases he
  · have hx' : d = .slice xs sp := hx
    have hw := sized_slice hsz ht (hx' ▸ hd) Try.underlying24
    rw [bytesE, hcl] at hw
    unfold reachBytes at hw
    refine ⟨by omega, fun e he => ?_⟩
    obtain ⟨i, hi⟩ := List.getElem?_of_mem he
    have hlt := (List.getElem?_eq_some_iff.1 hi).1
    rw [h2.len, ← hl] at hlt
    have hd2 := List.getElem?_eq_getElem hlt
    have hs2 := h2.held e he
    have hk := hs2.1.cap
    have hvv := hs2.2.cap
    obtain ⟨d0, d1, d2, d3, hag, hk0, hk3⟩ := hq i e _ hi hd2
    rw [hag] at hd2
    have one : ∀ {dd : DataW H} {mm cc : Nat}, ByDat dd mm cc → mm ≤ cc → (∀ n, n ∈ dd.weights Try.prog 34 → n ∈ DataW.weights Try.prog 36 (DataW.agg [d0, d1, d2, d3])) → mm ≤ 140737488355328 := fun {dd mm cc} hb hle hin => by
      rcases hb with ⟨_, h0⟩ | ⟨el, sp2, h5, h6⟩
      · omega
      · have h7 : (el.length + sp2.length) * Try.prog.bytesOf 5 ∈ DataW.weights Try.prog 24 (DataW.slice xs sp) := by
          simp only [DataW.weights, Try.underlying24, List.mem_cons, List.mem_append]
          right; left
          refine weights_all hd2 _ (hin _ ?_)
          rw [h5]
          simp [DataW.weights, Try.underlying34]
        have h8 := List.all_eq_true.1 hsz _ (DataW.weights_mem_each ht (hx' ▸ hd) _ h7)
        simp only [decide_eq_true_eq] at h8
        rw [bytes5, h6] at h8
        unfold reachBytes at h8
        omega
    exact ⟨one hk0 hk (fun n hn => weights_ent (.inl hn)), one hk3 hvv (fun n hn => weights_ent (.inr hn))⟩
end Go.Proofs.Ytgdggeacjfhkkaa
