/- The arguments of stage 6's statements opened: a slice of operations, a slice of numbers; no walk. -/
/- The arguments of stage 6's statements opened, each byte slice within the form's reach; no walk. -/
/- The walks of filled and of SkipCounts. -/
/- A region whose answer is an entry that a call finds, stored in a new cell: both orders, one answer; no walk. -/
/- Entries in order: the version at its own number, the one behind it, and what a found one is. -/
/- What a scan tells: each key once, rising, its version; as many as keys in bounds that have one; no walk. -/
import Derived.Test.YthhnnfnfggandaaVn
import Derived.Test.YthhnnfnfggandaaO
import Derived.Test.YthhnnfnfggandaaXr
import Derived.Test.YthhnnfnfggandaaXe
import Derived.Test.YthhnnfnfggandaaXh
import Derived.Test.YthhnnfnfggandaaVk
import Derived.Deep.RegionHeld3
import Derived.Test.YthhnnfnfggandaaJoinXj
namespace Go.Proofs.Ythhnnfnfggandaa
open Go.ChangeShapes Go.WideShapes Go.ChangeAt Go.RowKit
open Sk (Ent)

theorem open_bytesS {H : Type} {enc : TypeId × Value → H} {W : World} {n : Nat} {v : Value} {x : DataW H × List MemPlace} (h : DataW.trod enc Try.prog W 0 (fun _ => true) true n 23 [v] = some x) :
    ∃ ao m c l, v = .slice ao m c ∧ Src W ao m c l ∧ c ≤ maxLen := by
  rcases open_ints Try.underlying23 Try.underlying5 cells5 h with ⟨hcs, hx⟩ | ⟨a, len, cap, zs, hcs, _, hl, hm, hz, hx, hcell, hwz⟩
  · simp only [List.cons.injEq, and_true] at hcs
    exact ⟨none, 0, 0, [], hcs, Src.empty (fun _ => rfl), Nat.zero_le _⟩
  · simp only [List.cons.injEq, and_true] at hcs
    simp at hz
    refine ⟨some a, len, cap, bl (zs.take len), hcs, ?_, hm⟩
    refine ⟨by simp [bl]; omega, hl, (fun h => by cases h), fun ad had j u hu => ?_⟩
    cases had
    have hj : j < (bl (zs.take len)).length := by
      have := (List.getElem?_eq_some_iff.1 hu).1
      rwa [bv_length] at this
    have hj2 : j < (zs.take len).length := by simpa [bl] using hj
    rw [bv_at _ j hj] at hu
    cases hu
    rw [bl_at (zs.take len) j hj2 (fun n hn => hwz n (List.mem_of_mem_take hn)), hcell j (by simp at hj2; omega)]
    congr 2
    have h1 : j < len := by simp at hj2; omega
    rw [List.getD_eq_getElem?_getD, List.getD_eq_getElem?_getD, List.getElem?_take, if_pos h1]
theorem trod_struct4S {H : Type} {enc : TypeId × Value → H} {P : Program} {w : World} {base : Nat} {spare : Nat → Bool} {held : Bool} {t : TypeId} {f0 f1 f2 f3 : Field} {fuel : Nat} {cs : List Value} {x : DataW H × List MemPlace} (ht : P.underlying t = some (.struct #[f0, f1, f2, f3])) (h : DataW.trod enc P w base spare held fuel t cs = some x) :
    ∃ y0 y1 y2 y3 n, cs.length = P.cellsOf t ∧ DataW.trod enc P w base spare held n f0.type ((cs.drop f0.offset).take (P.cellsOf f0.type)) = some y0 ∧
      DataW.trod enc P w base spare held n f1.type ((cs.drop f1.offset).take (P.cellsOf f1.type)) = some y1 ∧ DataW.trod enc P w base spare held n f2.type ((cs.drop f2.offset).take (P.cellsOf f2.type)) = some y2 ∧
      DataW.trod enc P w base spare held n f3.type ((cs.drop f3.offset).take (P.cellsOf f3.type)) = some y3 := by
  obtain ⟨xs, n, _, rfl, hl, hlen, hf⟩ := DataW.trod_struct ht h
  match xs, hlen with
  | [y0, y1, y2, y3], _ => exact ⟨y0, y1, y2, y3, n, hl, by simpa using hf 0 f0 rfl, by simpa using hf 1 f1 rfl, by simpa using hf 2 f2 rfl, by simpa using hf 3 f3 rfl⟩
theorem trod_struct5S {H : Type} {enc : TypeId × Value → H} {P : Program} {w : World} {base : Nat} {spare : Nat → Bool} {held : Bool} {t : TypeId} {f0 f1 f2 f3 f4 : Field} {fuel : Nat} {cs : List Value} {x : DataW H × List MemPlace} (ht : P.underlying t = some (.struct #[f0, f1, f2, f3, f4])) (h : DataW.trod enc P w base spare held fuel t cs = some x) :
    ∃ y0 y1 y2 y3 y4 n, cs.length = P.cellsOf t ∧ DataW.trod enc P w base spare held n f0.type ((cs.drop f0.offset).take (P.cellsOf f0.type)) = some y0 ∧
      DataW.trod enc P w base spare held n f1.type ((cs.drop f1.offset).take (P.cellsOf f1.type)) = some y1 ∧ DataW.trod enc P w base spare held n f2.type ((cs.drop f2.offset).take (P.cellsOf f2.type)) = some y2 ∧
      DataW.trod enc P w base spare held n f3.type ((cs.drop f3.offset).take (P.cellsOf f3.type)) = some y3 ∧ DataW.trod enc P w base spare held n f4.type ((cs.drop f4.offset).take (P.cellsOf f4.type)) = some y4 := by
  obtain ⟨xs, n, _, rfl, hl, hlen, hf⟩ := DataW.trod_struct ht h
  match xs, hlen with
  | [y0, y1, y2, y3, y4], _ => exact ⟨y0, y1, y2, y3, y4, n, hl, by simpa using hf 0 f0 rfl, by simpa using hf 1 f1 rfl, by simpa using hf 2 f2 rfl, by simpa using hf 3 f3 rfl, by simpa using hf 4 f4 rfl⟩
theorem entry_fields : ∃ f0 f1 f2 f3 : Field, Try.prog.underlying 34 = some (.struct #[f0, f1, f2, f3]) ∧ (f0.type = 23 ∧ f0.offset = 0) ∧ (f1.type = 3 ∧ f1.offset = 1) ∧ (f2.type = 4 ∧ f2.offset = 2) ∧ (f3.type = 23 ∧ f3.offset = 3) := ⟨_, _, _, _, Try.underlying34, ⟨rfl, rfl⟩, ⟨rfl, rfl⟩, ⟨rfl, rfl⟩, ⟨rfl, rfl⟩⟩
theorem op_fields : ∃ f0 f1 f2 f3 f4 : Field, Try.prog.underlying 36 = some (.struct #[f0, f1, f2, f3, f4]) ∧ (f0.type = 3 ∧ f0.offset = 0) ∧ (f1.type = 3 ∧ f1.offset = 1) ∧ (f2.type = 3 ∧ f2.offset = 2) ∧ (f3.type = 34 ∧ f3.offset = 3) ∧ (f4.type = 23 ∧ f4.offset = 7) := ⟨_, _, _, _, _, Try.underlying36, ⟨rfl, rfl⟩, ⟨rfl, rfl⟩, ⟨rfl, rfl⟩, ⟨rfl, rfl⟩, ⟨rfl, rfl⟩⟩
theorem cB : Try.prog.cellsOf 23 = 1 := by kernel_rfl
theorem cI : Try.prog.cellsOf 3 = 1 := by kernel_rfl
theorem cBo : Try.prog.cellsOf 4 = 1 := by kernel_rfl
theorem cE : Try.prog.cellsOf 34 = 4 := by kernel_rfl
theorem cO : Try.prog.cellsOf 36 = 8 := by kernel_rfl
/-- One entry. -/
theorem open_entry {H : Type} {enc : TypeId × Value → H} {W : World} {n : Nat} {cs : List Value} {x : DataW H × List MemPlace} (h : DataW.trod enc Try.prog W 0 (fun _ => true) true n 34 cs = some x) :
    ∃ e : EV, cs = entKind.vals e ∧ entKind.held W e ∧ e.e.key.length ≤ maxLen ∧ e.e.val.length ≤ maxLen := by
  obtain ⟨f0, f1, f2, f3, hF, ⟨e0, o0⟩, ⟨e1, o1⟩, ⟨e2, o2⟩, ⟨e3, o3⟩⟩ := entry_fields
  obtain ⟨y0, y1, y2, y3, k, hl, t0, t1, t2, t3⟩ := trod_struct4S hF h
  rw [cE] at hl
  match cs, hl with
  | [v0, v1, v2, v3], _ =>
    rw [e0, o0, cB] at t0
    rw [e1, o1, cI] at t1
    rw [e2, o2, cBo] at t2
    rw [e3, o3, cB] at t3
    simp at t0 t1 t2 t3
    obtain ⟨a0, m0, c0, l0, rfl, s0, k0⟩ := open_bytesS t0
    obtain ⟨z, hz, _, _⟩ := DataW.trod_int Try.underlying3 t1
    obtain ⟨g, hg, _⟩ := DataW.trod_bool Try.underlying4 t2
    obtain ⟨a3, m3, c3, l3, rfl, s3, k3⟩ := open_bytesS t3
    simp only [List.cons.injEq, and_true] at hz hg
    have h0 := s0.len
    have h3 := s3.len
    have q0 := s0.cap
    have q3 := s3.cap
    refine ⟨⟨a0, c0, a3, c3, ⟨l0, z, g, l3⟩⟩, ?_, ⟨?_, ?_⟩, ?_, ?_⟩
    · simp only [entKind]; rw [h0, h3, hz, hg]
    · show Src W a0 l0.length c0 l0; rw [h0]; exact s0
    · show Src W a3 l3.length c3 l3; rw [h3]; exact s3
    · show l0.length ≤ maxLen; omega
    · show l3.length ≤ maxLen; omega
/-- One operation. -/
theorem open_opS {H : Type} {enc : TypeId × Value → H} {W : World} {n : Nat} {cs : List Value} {x : DataW H × List MemPlace} (h : DataW.trod enc Try.prog W 0 (fun _ => true) true n 36 cs = some x) :
    ∃ o : OpS, cs = opsKind.vals o ∧ opsKind.held W o ∧ o.x.e.key.length ≤ maxLen ∧ o.x.e.val.length ≤ maxLen := by
  obtain ⟨f0, f1, f2, f3, f4, hF, ⟨e0, o0⟩, ⟨e1, o1⟩, ⟨e2, o2⟩, ⟨e3, o3⟩, ⟨e4, o4⟩⟩ := op_fields
  obtain ⟨y0, y1, y2, y3, y4, k, hl, t0, t1, t2, t3, t4⟩ := trod_struct5S hF h
  rw [cO] at hl
  match cs, hl with
  | [v0, v1, v2, v3, v4, v5, v6, v7], _ =>
    rw [e0, o0, cI] at t0
    rw [e1, o1, cI] at t1
    rw [e2, o2, cI] at t2
    rw [e3, o3, cE] at t3
    rw [e4, o4, cB] at t4
    simp at t0 t1 t2 t3 t4
    obtain ⟨z0, hz0, _, _⟩ := DataW.trod_int Try.underlying3 t0
    obtain ⟨z1, hz1, _, _⟩ := DataW.trod_int Try.underlying3 t1
    obtain ⟨z2, hz2, _, _⟩ := DataW.trod_int Try.underlying3 t2
    obtain ⟨e, he, hh, l1, l2⟩ := open_entry t3
    obtain ⟨a4, m4, c4, l4, rfl, s4, k4⟩ := open_bytesS t4
    simp only [List.cons.injEq, and_true] at hz0 hz1 hz2
    have h4 := s4.len
    simp only [entKind, List.cons.injEq, and_true] at he
    obtain ⟨r3, r4, r5, r6⟩ := he
    refine ⟨⟨z0, z1, z2, e, a4, c4, l4⟩, ?_, ⟨hh, ?_⟩, l1, l2⟩
    · simp only [opsKind]
      rw [hz0, hz1, hz2, r3, r4, r5, r6, h4]
    · show Src W a4 l4.length c4 l4
      rw [h4]
      exact s4
/-- A slice of operations. -/
theorem open_script {H : Type} {enc : TypeId × Value → H} {W : World} {v : Value} {d : DataW H} {p : List MemPlace} {base : Nat} (hv : Value.okWide Try.prog W .any base 22 v) (h : DataW.Trod enc Try.prog W 0 (fun _ => true) true 22 v d p) :
    ∃ ao m c es, v = .slice ao m c ∧ RSrc opsKind W ao m c es ∧ c ≤ maxLen ∧ ∀ o ∈ es, o.x.e.key.length ≤ maxLen ∧ o.x.e.val.length ≤ maxLen := by
  obtain ⟨a0, len0, cap0, rfl⟩ := okWide_slice Try.underlying22 hv
  obtain ⟨fuel, hf⟩ := h
  obtain ⟨ao, m, c, es, h1, h2, h3, h4⟩ := open_recs (enc := enc) (W := W) opsKind_ok (Q := fun o _ => o.x.e.key.length ≤ maxLen ∧ o.x.e.val.length ≤ maxLen) Try.underlying22 (by kernel_rfl) (fun m cs y hy => by
    obtain ⟨o, q1, q2, q3, q4⟩ := open_opS hy
    exact ⟨o, q1, q2, q3, q4⟩) (v := .slice a0 len0 cap0) (by simpa only [Value.cells] using hf)
  refine ⟨ao, m, c, es, h1, h2, h3, fun e he => ?_⟩
  obtain ⟨i, hi⟩ := List.getElem?_of_mem he
  rcases h4 with ⟨h0, _⟩ | ⟨ds, sp, _, hl, _, hq⟩
  · have := (List.getElem?_eq_some_iff.1 hi).1
    rw [h2.len, h0] at this
    omega
  · have hlt := (List.getElem?_eq_some_iff.1 hi).1
    rw [h2.len, ← hl] at hlt
    exact hq i e _ hi (List.getElem?_eq_getElem hlt)
/-- A slice of numbers. -/
theorem open_nums {H : Type} {enc : TypeId × Value → H} {W : World} {v : Value} {d : DataW H} {p : List MemPlace} {base : Nat} (hv : Value.okWide Try.prog W .any base 29 v) (h : DataW.Trod enc Try.prog W 0 (fun _ => true) true 29 v d p) :
    ∃ ao m c zs, v = .slice ao m c ∧ RSrc numKind W ao m c zs := by
  obtain ⟨a0, len0, cap0, rfl⟩ := okWide_slice Try.underlying29 hv
  obtain ⟨fuel, hf⟩ := h
  obtain ⟨ao, m, c, es, h1, h2, h3, _⟩ := open_recs (enc := enc) (W := W) numKind_ok (Q := fun _ _ => True) Try.underlying29 (by kernel_rfl) (fun m cs y hy => by
    obtain ⟨z, q1, _, _⟩ := DataW.trod_int Try.underlying3 hy
    exact ⟨z, q1, trivial, trivial⟩) (v := .slice a0 len0 cap0) (by simpa only [Value.cells] using hf)
  exact ⟨ao, m, c, es, h1, h2⟩
end Go.Proofs.Ythhnnfnfggandaa
namespace Go.Proofs.Ythhnnfnfggandaa
open Go.ChangeShapes Go.WideShapes Go.ChangeAt Go.RowKit
open Sk (Ent)

theorem open_bytes_dat {H : Type} {enc : TypeId × Value → H} {W : World} {n : Nat} {v : Value} {x : DataW H × List MemPlace} (h : DataW.trod enc Try.prog W 0 (fun _ => true) true n 23 [v] = some x) :
    ∃ ao m c l, v = .slice ao m c ∧ Src W ao m c l ∧ (x.1 = .nil ∧ m = 0 ∨ ∃ elems spare, x.1 = .slice elems spare ∧ elems.length + spare.length = c) := by
  rcases open_ints Try.underlying23 Try.underlying5 cells5 h with ⟨hcs, hx⟩ | ⟨a, len, cap, zs, hcs, _, hl, hm, hz, hx, hcell, hwz⟩
  · simp only [List.cons.injEq, and_true] at hcs
    exact ⟨none, 0, 0, [], hcs, Src.empty (fun _ => rfl), .inl ⟨by rw [hx], rfl⟩⟩
  · simp only [List.cons.injEq, and_true] at hcs
    simp at hz
    refine ⟨some a, len, cap, bl (zs.take len), hcs, ?_, .inr ⟨_, _, by rw [hx], ?_⟩⟩
    · refine ⟨by simp [bl]; omega, hl, (fun h => by cases h), fun ad had j u hu => ?_⟩
      cases had
      have hj : j < (bl (zs.take len)).length := by
        have := (List.getElem?_eq_some_iff.1 hu).1
        rwa [bv_length] at this
      have hj2 : j < (zs.take len).length := by simpa [bl] using hj
      rw [bv_at _ j hj] at hu
      cases hu
      rw [bl_at (zs.take len) j hj2 (fun n hn => hwz n (List.mem_of_mem_take hn)), hcell j (by simp at hj2; omega)]
      congr 2
      have h1 : j < len := by simp at hj2; omega
      rw [List.getD_eq_getElem?_getD, List.getD_eq_getElem?_getD, List.getElem?_take, if_pos h1]
    · simp [lits]
      omega
theorem weights_all {H : Type} {P : Program} {e : TypeId} : ∀ {ds : List (DataW H)} {i : Nat} {d : DataW H}, ds[i]? = some d → ∀ n ∈ d.weights P e, n ∈ DataW.weightsAll P e ds
  | d0 :: ds, 0, d, hd, n, hn => by
    simp only [List.getElem?_cons_zero, Option.some.injEq] at hd
    subst hd
    simp only [DataW.weightsAll, List.mem_append]
    exact .inl hn
  | d0 :: ds, i + 1, d, hd, n, hn => by
    simp only [List.getElem?_cons_succ] at hd
    simp only [DataW.weightsAll, List.mem_append]
    exact .inr (weights_all hd n hn)
  | [], _, _, hd, _, _ => by simp at hd
/-- A datum of a byte slice, m long, of c places. -/
def ByDat {H : Type} (d : DataW H) (m c : Nat) : Prop := d = .nil ∧ m = 0 ∨ ∃ elems spare, d = .slice elems spare ∧ elems.length + spare.length = c
theorem trod_struct4D {H : Type} {enc : TypeId × Value → H} {P : Program} {w : World} {base : Nat} {spare : Nat → Bool} {held : Bool} {t : TypeId} {f0 f1 f2 f3 : Field} {fuel : Nat} {cs : List Value} {x : DataW H × List MemPlace} (ht : P.underlying t = some (.struct #[f0, f1, f2, f3])) (h : DataW.trod enc P w base spare held fuel t cs = some x) :
    ∃ y0 y1 y2 y3 n, cs.length = P.cellsOf t ∧ x.1 = .agg [y0.1, y1.1, y2.1, y3.1] ∧ DataW.trod enc P w base spare held n f0.type ((cs.drop f0.offset).take (P.cellsOf f0.type)) = some y0 ∧
      DataW.trod enc P w base spare held n f1.type ((cs.drop f1.offset).take (P.cellsOf f1.type)) = some y1 ∧ DataW.trod enc P w base spare held n f2.type ((cs.drop f2.offset).take (P.cellsOf f2.type)) = some y2 ∧
      DataW.trod enc P w base spare held n f3.type ((cs.drop f3.offset).take (P.cellsOf f3.type)) = some y3 := by
  obtain ⟨xs, n, _, rfl, hl, hlen, hf⟩ := DataW.trod_struct ht h
  match xs, hlen with
  | [y0, y1, y2, y3], _ => exact ⟨y0, y1, y2, y3, n, hl, rfl, by simpa using hf 0 f0 rfl, by simpa using hf 1 f1 rfl, by simpa using hf 2 f2 rfl, by simpa using hf 3 f3 rfl⟩
theorem open_entryD {H : Type} {enc : TypeId × Value → H} {W : World} {n : Nat} {cs : List Value} {x : DataW H × List MemPlace} (h : DataW.trod enc Try.prog W 0 (fun _ => true) true n 34 cs = some x) :
    ∃ e : EV, cs = entKind.vals e ∧ entKind.held W e ∧ ∃ d0 d1 d2 d3, x.1 = .agg [d0, d1, d2, d3] ∧ ByDat d0 e.e.key.length e.kc ∧ ByDat d3 e.e.val.length e.vc := by
  obtain ⟨f0, f1, f2, f3, hF, ⟨e0, o0⟩, ⟨e1, o1⟩, ⟨e2, o2⟩, ⟨e3, o3⟩⟩ := entry_fields
  obtain ⟨y0, y1, y2, y3, k, hl, hx, t0, t1, t2, t3⟩ := trod_struct4D hF h
  rw [cE] at hl
  match cs, hl with
  | [v0, v1, v2, v3], _ =>
    rw [e0, o0, cB] at t0
    rw [e1, o1, cI] at t1
    rw [e2, o2, cBo] at t2
    rw [e3, o3, cB] at t3
    simp at t0 t1 t2 t3
    obtain ⟨a0, m0, c0, l0, rfl, s0, k0⟩ := open_bytes_dat t0
    obtain ⟨z, hz, _, _⟩ := DataW.trod_int Try.underlying3 t1
    obtain ⟨g, hg, _⟩ := DataW.trod_bool Try.underlying4 t2
    obtain ⟨a3, m3, c3, l3, rfl, s3, k3⟩ := open_bytes_dat t3
    simp only [List.cons.injEq, and_true] at hz hg
    have h0 := s0.len
    have h3 := s3.len
    refine ⟨⟨a0, c0, a3, c3, ⟨l0, z, g, l3⟩⟩, ?_, ⟨?_, ?_⟩, y0.1, y1.1, y2.1, y3.1, hx, ?_, ?_⟩
    · simp only [entKind]; rw [h0, h3, hz, hg]
    · show Src W a0 l0.length c0 l0; rw [h0]; exact s0
    · show Src W a3 l3.length c3 l3; rw [h3]; exact s3
    · show ByDat y0.1 l0.length c0; rw [h0]; exact k0
    · show ByDat y3.1 l3.length c3; rw [h3]; exact k3
theorem trod_struct5D {H : Type} {enc : TypeId × Value → H} {P : Program} {w : World} {base : Nat} {spare : Nat → Bool} {held : Bool} {t : TypeId} {f0 f1 f2 f3 f4 : Field} {fuel : Nat} {cs : List Value} {x : DataW H × List MemPlace} (ht : P.underlying t = some (.struct #[f0, f1, f2, f3, f4])) (h : DataW.trod enc P w base spare held fuel t cs = some x) :
    ∃ y0 y1 y2 y3 y4 n, cs.length = P.cellsOf t ∧ x.1 = .agg [y0.1, y1.1, y2.1, y3.1, y4.1] ∧ DataW.trod enc P w base spare held n f0.type ((cs.drop f0.offset).take (P.cellsOf f0.type)) = some y0 ∧
      DataW.trod enc P w base spare held n f1.type ((cs.drop f1.offset).take (P.cellsOf f1.type)) = some y1 ∧ DataW.trod enc P w base spare held n f2.type ((cs.drop f2.offset).take (P.cellsOf f2.type)) = some y2 ∧
      DataW.trod enc P w base spare held n f3.type ((cs.drop f3.offset).take (P.cellsOf f3.type)) = some y3 ∧ DataW.trod enc P w base spare held n f4.type ((cs.drop f4.offset).take (P.cellsOf f4.type)) = some y4 := by
  obtain ⟨xs, n, _, rfl, hl, hlen, hf⟩ := DataW.trod_struct ht h
  match xs, hlen with
  | [y0, y1, y2, y3, y4], _ => exact ⟨y0, y1, y2, y3, y4, n, hl, rfl, by simpa using hf 0 f0 rfl, by simpa using hf 1 f1 rfl, by simpa using hf 2 f2 rfl, by simpa using hf 3 f3 rfl, by simpa using hf 4 f4 rfl⟩
theorem open_opD {H : Type} {enc : TypeId × Value → H} {W : World} {n : Nat} {cs : List Value} {x : DataW H × List MemPlace} (h : DataW.trod enc Try.prog W 0 (fun _ => true) true n 36 cs = some x) :
    ∃ o : OpS, cs = opsKind.vals o ∧ opsKind.held W o ∧ ∃ p0 p1 p2 d0 d1 d2 d3 p4, x.1 = .agg [p0, p1, p2, .agg [d0, d1, d2, d3], p4] ∧ ByDat d0 o.x.e.key.length o.x.kc ∧ ByDat d3 o.x.e.val.length o.x.vc ∧ ByDat p4 o.to.length o.tc := by
  obtain ⟨f0, f1, f2, f3, f4, hF, ⟨e0, o0⟩, ⟨e1, o1⟩, ⟨e2, o2⟩, ⟨e3, o3⟩, ⟨e4, o4⟩⟩ := op_fields
  obtain ⟨y0, y1, y2, y3, y4, k, hl, hx, t0, t1, t2, t3, t4⟩ := trod_struct5D hF h
  rw [cO] at hl
  match cs, hl with
  | [v0, v1, v2, v3, v4, v5, v6, v7], _ =>
    rw [e0, o0, cI] at t0
    rw [e1, o1, cI] at t1
    rw [e2, o2, cI] at t2
    rw [e3, o3, cE] at t3
    rw [e4, o4, cB] at t4
    simp at t0 t1 t2 t3 t4
    obtain ⟨z0, hz0, _, _⟩ := DataW.trod_int Try.underlying3 t0
    obtain ⟨z1, hz1, _, _⟩ := DataW.trod_int Try.underlying3 t1
    obtain ⟨z2, hz2, _, _⟩ := DataW.trod_int Try.underlying3 t2
    obtain ⟨e, he, hh, d0, d1, d2, d3, hd, b0, b3⟩ := open_entryD t3
    obtain ⟨a4, m4, c4, l4, rfl, s4, k4⟩ := open_bytes_dat t4
    simp only [List.cons.injEq, and_true] at hz0 hz1 hz2
    have h4 := s4.len
    simp only [entKind, List.cons.injEq, and_true] at he
    obtain ⟨r3, r4, r5, r6⟩ := he
    refine ⟨⟨z0, z1, z2, e, a4, c4, l4⟩, ?_, ⟨hh, ?_⟩, y0.1, y1.1, y2.1, d0, d1, d2, d3, y4.1, by rw [hx, hd], b0, b3, ?_⟩
    · simp only [opsKind]
      rw [hz0, hz1, hz2, r3, r4, r5, r6, h4]
    · show Src W a4 l4.length c4 l4
      rw [h4]
      exact s4
    · show ByDat y4.1 l4.length c4
      rw [h4]
      exact k4
theorem weights_op {H : Type} {p0 p1 p2 d0 d1 d2 d3 p4 : DataW H} {n : Nat} (h : n ∈ d0.weights Try.prog 23 ∨ n ∈ d3.weights Try.prog 23 ∨ n ∈ p4.weights Try.prog 23) : n ∈ DataW.weights Try.prog 36 (.agg [p0, p1, p2, .agg [d0, d1, d2, d3], p4]) := by
  obtain ⟨g0, g1, g2, g3, gF, ⟨i0, _⟩, ⟨i1, _⟩, ⟨i2, _⟩, ⟨i3, _⟩⟩ := entry_fields
  obtain ⟨f0, f1, f2, f3, f4, hF, ⟨e0, _⟩, ⟨e1, _⟩, ⟨e2, _⟩, ⟨e3, _⟩, ⟨e4, _⟩⟩ := op_fields
  simp only [DataW.weights, hF, gF, DataW.weightsEach, List.map_cons, List.map_nil, e0, e1, e2, e3, e4, i0, i1, i2, i3, List.mem_append]
  rcases h with h | h | h
  · exact .inr (.inr (.inr (.inl (.inl h))))
  · exact .inr (.inr (.inr (.inl (.inr (.inr (.inr (.inl h)))))))
  · exact .inr (.inr (.inr (.inr (.inl h))))
set_option maxRecDepth 100000 in
/-- A slice of operations. -/
theorem open_script_reach {H : Type} {enc : TypeId × Value → H} {W : World} {v : Value} {d : DataW H} {p : List MemPlace} {base : Nat} {ts : List TypeId} {ds : List (DataW H)} {j : Nat} (hsz : (DataW.weightsEach Try.prog ts ds).all (· ≤ reachBytes) = true) (ht : ts[j]? = some 22) (hd : ds[j]? = some d)
    (hv : Value.okWide Try.prog W .any base 22 v) (h : DataW.Trod enc Try.prog W 0 (fun _ => true) true 22 v d p) :
    ∃ ao m c es, v = .slice ao m c ∧ RSrc opsKind W ao m c es ∧ c ≤ maxLen ∧ ∀ o ∈ es, o.fits := by
  obtain ⟨a0, len0, cap0, rfl⟩ := okWide_slice Try.underlying22 hv
  obtain ⟨fuel, hf⟩ := h
  obtain ⟨ao, m, c, es, h1, h2, h3, h4⟩ := open_recs (enc := enc) (W := W) opsKind_ok (Q := fun o y => ∃ p0 p1 p2 d0 d1 d2 d3 p4, y = .agg [p0, p1, p2, .agg [d0, d1, d2, d3], p4] ∧ ByDat d0 o.x.e.key.length o.x.kc ∧ ByDat d3 o.x.e.val.length o.x.vc ∧ ByDat p4 o.to.length o.tc) Try.underlying22 (by kernel_rfl) (fun m cs y hy => by
    obtain ⟨o, q1, q2, q3⟩ := open_opD hy
    exact ⟨o, q1, q2, q3⟩) (v := .slice a0 len0 cap0) (by simpa only [Value.cells] using hf)
  refine ⟨ao, m, c, es, h1, h2, h3, ?_⟩
  rcases h4 with ⟨h0, _⟩ | ⟨xs, sp, hx, hl, hcl, hq⟩
  · intro e he
    have := h2.len
    rw [h0] at this
    rw [List.length_eq_zero_iff.1 this] at he
    cases he
  · have hx' : d = .slice xs sp := hx
    intro e he
    obtain ⟨i, hi⟩ := List.getElem?_of_mem he
    have hlt := (List.getElem?_eq_some_iff.1 hi).1
    rw [h2.len, ← hl] at hlt
    have hd2 := List.getElem?_eq_getElem hlt
    have hs2 := h2.held e he
    have hk := hs2.1.1.cap
    have hvv := hs2.1.2.cap
    have hto := hs2.2.cap
    obtain ⟨p0, p1, p2, d0, d1, d2, d3, p4, hag, hk0, hk3, hk4⟩ := hq i e _ hi hd2
    rw [hag] at hd2
    have one : ∀ {dd : DataW H} {mm cc : Nat}, ByDat dd mm cc → mm ≤ cc → (∀ n, n ∈ dd.weights Try.prog 23 → n ∈ DataW.weights Try.prog 36 (DataW.agg [p0, p1, p2, .agg [d0, d1, d2, d3], p4])) → mm ≤ 140737488355328 := fun {dd mm cc} hb hle hin => by
      rcases hb with ⟨_, h0⟩ | ⟨el, sp2, h5, h6⟩
      · omega
      · have h7 : (el.length + sp2.length) * Try.prog.bytesOf 5 ∈ DataW.weights Try.prog 22 (DataW.slice xs sp) := by
          simp only [DataW.weights, Try.underlying22, List.mem_cons, List.mem_append]
          right; left
          refine weights_all hd2 _ (hin _ ?_)
          rw [h5]
          simp [DataW.weights, Try.underlying23]
        have h8 := List.all_eq_true.1 hsz _ (DataW.weights_mem_each ht (hx' ▸ hd) _ h7)
        simp only [decide_eq_true_eq] at h8
        rw [bytes5, h6] at h8
        unfold reachBytes at h8
        omega
    exact ⟨one hk0 hk (fun n hn => weights_op (.inl hn)), one hk3 hvv (fun n hn => weights_op (.inr (.inl hn))), one hk4 hto (fun n hn => weights_op (.inr (.inr hn)))⟩
end Go.Proofs.Ythhnnfnfggandaa
namespace Go.Proofs.Ythhnnfnfggandaa
open Go.RowKit
open Sk (Ent)

/-- What filled answers. -/
def FilledP (w0 : World) (e : Ending) (w' : World) : Prop := ∃ l r ns ys hs, e = .returned (.pointer (some ⟨l, 0, none⟩)) ∧ Twin w0 l ns r ys hs w' ∧ ns.length ≤ 60
/-- Both lists, new. -/
theorem twin_new (w0 w : World) (hb : Below w0.heap.size w0 w) : Twin w0 w.heap.size [] (w.alloc (.cells listZ 56)).heap.size [] [] ((w.alloc (.cells listZ 56)).alloc (.cells #[.slice none 0 0, .slice none 0 0] 31)) := by
  have b1 : Below w.heap.size w (w.alloc (.cells listZ 56)) := (Below.refl _ _).alloc (Nat.le_refl _) _
  have b2 : Below (w.alloc (.cells listZ 56)).heap.size (w.alloc (.cells listZ 56)) ((w.alloc (.cells listZ 56)).alloc (.cells #[.slice none 0 0, .slice none 0 0] 31)) := (Below.refl _ _).alloc (Nat.le_refl _) _
  have h1 := new_lmem w (B := w0.heap.size) hb.size
  exact ⟨h1.below b2, ⟨Nat.le_trans hb.size b1.size, ⟨.slice none 0 0, .slice none 0 0, heap_alloc_new _ _, Ents.nil _ _, World.ownsRow_nil _ _ _ _⟩, rfl, trivial, (fun y hy => by cases hy)⟩, rfl, (fun p hp => by cases hp), hb.trans ((b1.trans (b2.mono b1.size)).mono hb.size)⟩
end Go.Proofs.Ythhnnfnfggandaa
namespace Go.Proofs.Ythhnnfnfggandaa
open Go.RowKit
open Sk (Ent)

/-- An activation, some slots set. -/
def sets (a : Act) : List (Nat × Value) → Act
  | [] => a
  | (i, v) :: t => sets (a.put (some i) v) t
/-- An entry in a cell of its own, and what it holds. -/
structure GotE (wr : World) (e : Ent) (g : Nat) (y : EV) (w' : World) : Prop where
  same : y.e = e
  held : entKind.held w' y
  row : w'.heap[g]? = some (.cells #[.slice y.kp y.e.key.length y.kc, .int .i64 y.e.seq, .bool y.e.gone, .slice y.vp y.e.val.length y.vc] 34)
  bel : Below wr.heap.size wr w'
theorem src_far {w w' : World} {r : Nat} {cs : Array Value} {t : TypeId} {fr : Nat × Nat} (hr : w.heap[r]? = some (.cells cs t fr)) (hno : ∀ (i : Nat) (x : Int), cs[i]? ≠ some (.int .u8 x)) (hk : ∀ g, g < w.heap.size → g ≠ r → w'.heap[g]? = w.heap[g]?) {ao : Option Addr} {m c : Nat} {l : List UInt8} (h : Src w ao m c l) : Src w' ao m c l :=
  ⟨h.len, h.cap, h.nil, fun ad had j u hu => by
    have hc := h.cells ad had j u hu
    have hlt := World.block_lt_of_cell? w _ hc
    have hj := (List.getElem?_eq_some_iff.1 hu).1
    rw [bv_length] at hj
    rw [bv_at l j hj] at hu
    cases hu
    have hsp := World.cell?_spot hc
    obtain ⟨q, hq⟩ : ∃ q, ad.add j = q := ⟨_, rfl⟩
    rw [hq] at hc hlt hsp ⊢
    obtain ⟨qb, qo, qs⟩ := q
    simp only at hlt hsp
    subst hsp
    have hne : qb ≠ r := fun e => by
      subst e
      rw [cell_of_row _ _ _ _ _ _ hr] at hc
      exact hno _ _ hc
    exact (World.cell?_of_block (hk qb hlt hne)).trans hc⟩
theorem no_byteE {a b : Option Addr} {m c n d : Nat} {x : Int} {y : Bool} : ∀ (i : Nat) (z : Int), (#[Value.slice a m c, .int .i64 x, .bool y, .slice b n d] : Array Value)[i]? ≠ some (.int .u8 z)
  | 0, z => by simp
  | 1, z => by simp
  | 2, z => by simp
  | 3, z => by simp
  | n + 4, z => by simp
/-- The entry's four cells set in a new entry's block. -/
theorem got_store {wr w5 : World} {e : Ent} {g : Nat} {y : EV} (hg : w5.heap[g]? = some (.cells #[.slice none 0 0, .int .i64 0, .bool false, .slice none 0 0] 34)) (hgw : wr.heap.size ≤ g) (hb : Below wr.heap.size wr w5) (he : y.e = e) (hh : entKind.held w5 y) :
    GotE wr e g y ((((w5.setCell ⟨g, 0, none⟩ (.slice y.kp y.e.key.length y.kc)).setCell ⟨g, 1, none⟩ (.int .i64 y.e.seq)).setCell ⟨g, 2, none⟩ (.bool y.e.gone)).setCell ⟨g, 3, none⟩ (.slice y.vp y.e.val.length y.vc)) := by
  have h0 := set_row hg 0 (.slice y.kp y.e.key.length y.kc)
  have h1 := set_row h0 1 (.int .i64 y.e.seq)
  have h2 := set_row h1 2 (.bool y.e.gone)
  have h3 := set_row h2 3 (.slice y.vp y.e.val.length y.vc)
  have far : ∀ k, k < w5.heap.size → k ≠ g → ((((w5.setCell ⟨g, 0, none⟩ (.slice y.kp y.e.key.length y.kc)).setCell ⟨g, 1, none⟩ (.int .i64 y.e.seq)).setCell ⟨g, 2, none⟩ (.bool y.e.gone)).setCell ⟨g, 3, none⟩ (.slice y.vp y.e.val.length y.vc)).heap[k]? = w5.heap[k]? := fun k _ hk => by
    rw [Below.heap_setCell _ _ _ k hk, Below.heap_setCell _ _ _ k hk, Below.heap_setCell _ _ _ k hk, Below.heap_setCell _ _ _ k hk]
  refine ⟨he, ⟨src_far hg no_byteE far hh.1, src_far hg no_byteE far hh.2⟩, h3, ?_⟩
  exact ((((hb.setCell (p := ⟨g, 0, none⟩) hgw _).setCell (p := ⟨g, 1, none⟩) hgw _).setCell (p := ⟨g, 2, none⟩) hgw _).setCell (p := ⟨g, 3, none⟩) hgw _)
theorem got_alloc {wr w5 : World} {e : Ent} {y : EV} (hb : Below wr.heap.size wr w5) (he : y.e = e) (hh : entKind.held w5 y) :
    GotE wr e w5.heap.size y (w5.alloc (.cells #[.slice y.kp y.e.key.length y.kc, .int .i64 y.e.seq, .bool y.e.gone, .slice y.vp y.e.val.length y.vc] 34)) :=
  ⟨he, entKind_ok.below hh ((Below.refl _ _).alloc (Nat.le_refl _) _), heap_alloc_new w5 _, hb.alloc hb.size _⟩
theorem GotE.cells {wr w' w'' : World} {e : Ent} {g : Nat} {y : EV} (h : GotE wr e g y w') (hb : Below w'.heap.size w' w'') : w''.cell? ⟨g, 0, none⟩ = some (.slice y.kp y.e.key.length y.kc) ∧ w''.cell? ⟨g, 1, none⟩ = some (.int .i64 y.e.seq) ∧ w''.cell? ⟨g, 2, none⟩ = some (.bool y.e.gone) ∧ w''.cell? ⟨g, 3, none⟩ = some (.slice y.vp y.e.val.length y.vc) :=
  ⟨below_cell hb (cell_of_row _ _ _ _ _ _ h.row), below_cell hb (cell_of_row _ _ _ _ _ _ h.row), below_cell hb (cell_of_row _ _ _ _ _ _ h.row), below_cell hb (cell_of_row _ _ _ _ _ _ h.row)⟩
end Go.Proofs.Ythhnnfnfggandaa
namespace Go.Proofs.Ythhnnfnfggandaa.Sk
open Go.Proofs.Ythhnnfnfggandaa

theorem up_goes : ∀ {l : List Ent} {i j : Nat} {a b : Ent}, Up l → l[i]? = some a → l[j]? = some b → i < j → Goes a b
  | [], _, _, _, _, _, h, _, _ => by simp at h
  | x :: l, 0, j + 1, a, b, hu, ha, hb, _ => by
    have hx : x = a := by simpa using ha
    subst hx
    exact hu.1 b (List.mem_of_getElem? (by simpa using hb))
  | x :: l, i + 1, j + 1, a, b, hu, ha, hb, hij => up_goes (l := l) hu.2 (by simpa using ha) (by simpa using hb) (by omega)
  | _ :: _, _, 0, _, _, _, _, _, h => absurd h (Nat.not_lt_zero _)
/-- Who goes ahead of one of the same key has the greater number. -/
theorem goes_seq {a b : Ent} (h : Goes a b) (hk : a.key = b.key) : b.seq < a.seq := by
  unfold Goes aheadOf at h
  rw [if_pos hk] at h
  simpa using h
theorem goes_less {a b : Ent} (h : Goes a b) (hk : a.key ≠ b.key) : less a.key b.key = true := by
  unfold Goes aheadOf at h
  rwa [if_neg hk] at h
theorem none_before {l : List Ent} {p : Ent → Bool} {k : Nat} (h : ∀ i e, l[i]? = some e → i < k → p e = false) : (l.take k).find? p = none := by
  rw [List.find?_eq_none]
  intro e he
  obtain ⟨i, hi⟩ := List.mem_iff_getElem?.1 he
  have hik : i < k := by
    have := (List.getElem?_eq_some_iff.1 hi).1
    rw [List.length_take] at this
    omega
  rw [List.getElem?_take_of_lt hik] at hi
  rw [h i e hi hik]
  simp
/-- An entry is found at its own number. -/
theorem ver_own {l : List Ent} (hu : Up l) {i : Nat} {e : Ent} (he : l[i]? = some e) : hitE l e.key e.seq = some e := by
  rw [hit_vers hu]
  unfold verE
  refine find_at he (by simp [vers]) (none_before fun j d hd hj => ?_)
  have hg := up_goes hu hd he hj
  unfold vers
  by_cases hk : d.key = e.key
  · have := goes_seq hg hk
    have h2 : ¬ d.seq ≤ e.seq := by omega
    simp [h2]
  · simp [hk]
/-- Below an entry's number its key's next one is found. -/
theorem ver_next {l : List Ent} (hu : Up l) {i : Nat} {d e : Ent} (hd : l[i]? = some d) (he : l[i + 1]? = some e) (hk : d.key = e.key) : hitE l e.key (d.seq - 1) = some e ∧ e.seq < d.seq := by
  have h1 := goes_seq (up_goes hu hd he (by omega)) hk
  refine ⟨?_, h1⟩
  rw [hit_vers hu]
  unfold verE
  have h2 : e.seq ≤ d.seq - 1 := by omega
  refine find_at he (by simp [vers, h2]) (none_before fun j c hc hj => ?_)
  unfold vers
  by_cases hck : c.key = e.key
  · have h3 : ¬ c.seq ≤ d.seq - 1 := by
      by_cases hji : j = i
      · subst hji
        rw [hd] at hc
        obtain rfl : d = c := by simpa using hc
        omega
      · have := goes_seq (up_goes hu hc hd (by omega)) (hck.trans hk.symm)
        omega
    simp [h3]
  · simp [hck]
/-- Of two side by side, of other keys, the former's is the lesser. -/
theorem ver_rise {l : List Ent} (hu : Up l) {i : Nat} {d e : Ent} (hd : l[i]? = some d) (he : l[i + 1]? = some e) (hk : d.key ≠ e.key) : less d.key e.key = true := goes_less (up_goes hu hd he (by omega)) hk
/-- What is found is of the key, and not above what was asked. -/
theorem ver_found {l : List Ent} (hu : Up l) {key : List UInt8} {s : Int} {e : Ent} (h : hitE l key s = some e) : e.key = key ∧ e.seq ≤ s := by
  rw [hit_vers hu] at h
  have := List.find?_some h
  simpa [vers] using this
end Go.Proofs.Ythhnnfnfggandaa.Sk
namespace Go.Proofs.Ythhnnfnfggandaa.Sk
open Go.Proofs.Ythhnnfnfggandaa

/-- How far a scan has come. -/
structure ScanI (l : List Ent) (f t : List UInt8) (s : Int) (k : Nat) (D : List Ent) : Prop where
  each : ∀ x ∈ D, ∃ i, i < k ∧ l[i]? = some x ∧ outB f t s x = false ∧ ∀ j y, j < i → l[j]? = some y → y.key = x.key → s < y.seq
  up : D.Pairwise (fun a b => less a.key b.key = true)
  all : ∀ i y, i < k → l[i]? = some y → outB f t s y = false → ∃ x ∈ D, x.key = y.key
theorem outB_seq {f t : List UInt8} {s : Int} {x : Ent} (h : outB f t s x = false) : x.seq ≤ s := by
  simp only [outB, Bool.or_eq_false_iff, decide_eq_false_iff_not] at h
  omega
theorem outB_key {f t : List UInt8} {s : Int} {x y : Ent} (h : outB f t s x = false) (hk : y.key = x.key) (hs : y.seq ≤ s) : outB f t s y = false := by
  simp only [outB, Bool.or_eq_false_iff, decide_eq_false_iff_not] at h ⊢
  rw [hk]
  exact ⟨h.1, by omega⟩
theorem ScanI.last {l : List Ent} {f t : List UInt8} {s : Int} {k : Nat} {D : List Ent} (h : ScanI l f t s k D) (hu : Up l) {e : Ent} (he : l[k]? = some e) {x : Ent} (hx : x ∈ D) (hk : x.key = e.key) : lastKey D = some e.key := by
  have hne : D ≠ [] := fun e => by rw [e] at hx; cases hx
  have hD := List.dropLast_concat_getLast hne
  have hz : D.getLast hne ∈ D := List.getLast_mem hne
  obtain ⟨z, hzz⟩ : ∃ z, D.getLast hne = z := ⟨_, rfl⟩
  rw [hzz] at hD hz
  have hl : lastKey D = some z.key := by rw [← hD]; exact lastKey_snoc _ _
  rw [hl]
  rw [← hD] at hx
  rcases List.mem_append.1 hx with hx | hx
  · have hp := h.up
    rw [← hD, List.pairwise_append] at hp
    have h1 := hp.2.2 x hx z (by simp)
    obtain ⟨j, hj, hzj, _⟩ := h.each z hz
    have hg := up_goes hu hzj he hj
    by_cases hze : z.key = e.key
    · rw [hze]
    · have h2 := goes_less hg hze
      rw [hk] at h1
      rw [less_asymm h1] at h2
      cases h2
  · rw [← List.mem_singleton.1 hx, hk]
theorem ScanI.zero (l : List Ent) (f t : List UInt8) (s : Int) : ScanI l f t s 0 [] := ⟨fun x h => (by cases h), List.Pairwise.nil, fun i y h => absurd h (Nat.not_lt_zero _)⟩
theorem ScanI.next {l : List Ent} {f t : List UInt8} {s : Int} {k : Nat} {D : List Ent} (h : ScanI l f t s k D) (hu : Up l) {e : Ent} (he : l[k]? = some e) : ScanI l f t s (k + 1) (dstep f t s D e) := by
  have old : ∀ x ∈ D, ∃ i, i < k + 1 ∧ l[i]? = some x ∧ outB f t s x = false ∧ ∀ j y, j < i → l[j]? = some y → y.key = x.key → s < y.seq := fun x hx => by
    obtain ⟨i, hi, r⟩ := h.each x hx
    exact ⟨i, by omega, r⟩
  unfold dstep
  by_cases ho : outB f t s e = true
  · rw [if_pos ho]
    refine ⟨old, h.up, fun i y hi hy hn => ?_⟩
    rcases Nat.lt_or_ge i k with h1 | h1
    · exact h.all i y h1 hy hn
    · obtain rfl : i = k := by omega
      rw [he] at hy
      cases hy
      rw [ho] at hn
      cases hn
  · rw [if_neg ho]
    have hof : outB f t s e = false := by simpa using ho
    by_cases hk : lastKey D = some e.key
    · rw [if_pos hk]
      refine ⟨old, h.up, fun i y hi hy hn => ?_⟩
      rcases Nat.lt_or_ge i k with h1 | h1
      · exact h.all i y h1 hy hn
      · obtain rfl : i = k := by omega
        rw [he] at hy
        cases hy
        unfold lastKey at hk
        obtain ⟨z, hz, hze⟩ := Option.map_eq_some_iff.1 hk
        exact ⟨z, List.mem_of_getLast? hz, hze⟩
    · rw [if_neg hk]
      have none_ : ∀ x ∈ D, x.key ≠ e.key := fun x hx hxe => hk (h.last hu he hx hxe)
      refine ⟨fun x hx => ?_, ?_, fun i y hi hy hn => ?_⟩
      · rcases List.mem_append.1 hx with hx | hx
        · exact old x hx
        · rw [List.mem_singleton.1 hx]
          refine ⟨k, by omega, he, hof, fun j y hj hy hye => ?_⟩
          by_cases hys : y.seq ≤ s
          · obtain ⟨x, hx, hxk⟩ := h.all j y hj hy (outB_key hof hye hys)
            exact absurd (hxk.trans hye) (none_ x hx)
          · omega
      · rw [List.pairwise_append]
        refine ⟨h.up, by simp, fun a ha b hb => ?_⟩
        rw [List.mem_singleton.1 hb]
        obtain ⟨i, hi, hai, _⟩ := h.each a ha
        exact goes_less (up_goes hu hai he hi) (none_ a ha)
      · rcases Nat.lt_or_ge i k with h1 | h1
        · obtain ⟨x, hx, hxk⟩ := h.all i y h1 hy hn
          exact ⟨x, List.mem_append_left _ hx, hxk⟩
        · obtain rfl : i = k := by omega
          rw [he] at hy
          cases hy
          exact ⟨e, by simp, rfl⟩
theorem scan_all {l : List Ent} (hu : Up l) (f t : List UInt8) (s : Int) : ∀ k, k ≤ l.length → ScanI l f t s k (dscan (l.take k) f t s)
  | 0, _ => by simpa [dscan] using ScanI.zero l f t s
  | k + 1, hk => by
    have he : l[k]? = some l[k] := List.getElem?_eq_getElem hk
    rw [dscan_more he]
    exact (scan_all hu f t s k (by omega)).next hu he
theorem scan_is {l : List Ent} (hu : Up l) (f t : List UInt8) (s : Int) : ScanI l f t s l.length (scan l f t s) := by
  have h := scan_all hu f t s l.length (Nat.le_refl _)
  rw [List.take_length, scan_same hu] at h
  exact h
/-- What a scan tells of one entry. -/
theorem scan_one {l : List Ent} (hu : Up l) {f t : List UInt8} {s : Int} {i : Nat} {x : Ent} (hx : (scan l f t s)[i]? = some x) : hitE l x.key s = some x ∧ less x.key f = false ∧ (0 < t.length → less x.key t = true) := by
  obtain ⟨j, _, hj, ho, hb⟩ := (scan_is hu f t s).each x (List.mem_of_getElem? hx)
  refine ⟨?_, ?_, ?_⟩
  · rw [hit_vers hu]
    unfold verE
    refine find_at hj (by simp [vers, outB_seq ho]) (none_before fun q y hy hq => ?_)
    unfold vers
    by_cases hk : y.key = x.key
    · have := hb q y hq hy hk
      have h2 : ¬ y.seq ≤ s := by omega
      simp [h2]
    · simp [hk]
  · simp only [outB, Bool.or_eq_false_iff] at ho
    exact ho.1.1
  · intro ht
    simp only [outB, Bool.or_eq_false_iff, Bool.and_eq_false_iff, decide_eq_false_iff_not, Bool.not_eq_false'] at ho
    rcases ho.1.2 with h | h
    · omega
    · exact h
theorem scan_rise {l : List Ent} (hu : Up l) {f t : List UInt8} {s : Int} {i : Nat} {x y : Ent} (hx : (scan l f t s)[i]? = some x) (hy : (scan l f t s)[i + 1]? = some y) : less x.key y.key = true := by
  have hp := (scan_is hu f t s).up
  rw [List.pairwise_iff_getElem] at hp
  obtain ⟨h1, e1⟩ := List.getElem?_eq_some_iff.1 hx
  obtain ⟨h2, e2⟩ := List.getElem?_eq_some_iff.1 hy
  have := hp i (i + 1) h1 h2 (by omega)
  rwa [e1, e2] at this
/-- Is an entry's key not the one's ahead? -/
def firstK (l : List Ent) (k : Nat) : Bool :=
  match l[k]? with
  | none => false
  | some e => match k with
    | 0 => true
    | j + 1 => match l[j]? with
      | none => true
      | some a => !decide (a.key = e.key)
/-- Is it counted? -/
def cond (l : List Ent) (f t : List UInt8) (s : Int) (k : Nat) : Bool :=
  match l[k]? with
  | none => false
  | some e => firstK l k && (hitE l e.key s).isSome && !less e.key f && (decide (t.length = 0) || less e.key t)
def ctd (l : List Ent) (f t : List UInt8) (s : Int) : Nat → List (List UInt8)
  | 0 => []
  | k + 1 => ctd l f t s k ++ (if cond l f t s k then (l[k]?.map (·.key)).toList else [])
theorem ctd_mem {l : List Ent} {f t : List UInt8} {s : Int} {x : List UInt8} : ∀ {k : Nat}, x ∈ ctd l f t s k ↔ ∃ i e, i < k ∧ l[i]? = some e ∧ cond l f t s i = true ∧ e.key = x
  | 0 => by simp [ctd]
  | k + 1 => by
    simp only [ctd, List.mem_append]
    rw [ctd_mem (k := k)]
    constructor
    · rintro (⟨i, e, hi, h⟩ | h)
      · exact ⟨i, e, by omega, h⟩
      · split at h
        · rename_i hc
          cases hl : l[k]? with
          | none => rw [hl] at h; simp at h
          | some e =>
            rw [hl] at h
            simp only [Option.map_some, Option.toList_some, List.mem_singleton] at h
            exact ⟨k, e, by omega, hl, hc, h.symm⟩
        · cases h
    · rintro ⟨i, e, hi, hl, hc, hk⟩
      rcases Nat.lt_or_ge i k with h1 | h1
      · exact .inl ⟨i, e, h1, hl, hc, hk⟩
      · obtain rfl : i = k := by omega
        right
        rw [hc, hl]
        simp [hk]
theorem ctd_le (l : List Ent) (f t : List UInt8) (s : Int) : ∀ k, (ctd l f t s k).length ≤ k
  | 0 => Nat.le_refl _
  | k + 1 => by
    have := ctd_le l f t s k
    simp only [ctd, List.length_append]
    split
    · cases l[k]? <;> simp <;> omega
    · simp; omega
theorem cond_first {l : List Ent} {f t : List UInt8} {s : Int} {k : Nat} (h : cond l f t s k = true) : firstK l k = true := by
  unfold cond at h
  split at h
  · cases h
  · simp only [Bool.and_eq_true] at h
    exact h.1.1.1
/-- Ahead of a first one all keys are less. -/
theorem first_less {l : List Ent} (hu : Up l) {i k : Nat} {a e : Ent} (ha : l[i]? = some a) (he : l[k]? = some e) (hik : i < k) (hf : firstK l k = true) : less a.key e.key = true := by
  obtain ⟨j, rfl⟩ : ∃ j, k = j + 1 := ⟨k - 1, by omega⟩
  obtain ⟨b, hb⟩ : ∃ b, l[j]? = some b := ⟨l[j]'(by have := (List.getElem?_eq_some_iff.1 he).1; omega), List.getElem?_eq_getElem _⟩
  have hbe : b.key ≠ e.key := by
    simp only [firstK, he, hb, Bool.not_eq_true', decide_eq_false_iff_not] at hf
    exact hf
  have h1 := goes_less (up_goes hu hb he (by omega)) hbe
  rcases Nat.lt_or_ge i j with h2 | h2
  · have hg := up_goes hu ha hb h2
    by_cases hab : a.key = b.key
    · rw [hab]; exact h1
    · exact less_trans (goes_less hg hab) h1
  · obtain rfl : i = j := by omega
    rw [ha] at hb
    cases hb
    exact h1
theorem ctd_nodup {l : List Ent} (hu : Up l) (f t : List UInt8) (s : Int) : ∀ k, (ctd l f t s k).Nodup
  | 0 => List.nodup_nil
  | k + 1 => by
    simp only [ctd]
    split
    · rename_i hc
      cases hl : l[k]? with
      | none => simpa using ctd_nodup hu f t s k
      | some e =>
        refine List.nodup_append.2 ⟨ctd_nodup hu f t s k, by simp, fun a ha b hb hab => ?_⟩
        obtain ⟨i, x, hi, hx, _, rfl⟩ := ctd_mem.1 ha
        simp only [Option.map_some, Option.toList_some, List.mem_singleton] at hb
        have := first_less hu hx hl hi (cond_first hc)
        rw [hab, hb, less_irrefl] at this
        cases this
    · simpa using ctd_nodup hu f t s k
theorem first_of {l : List Ent} : ∀ {i : Nat} {e : Ent}, l[i]? = some e → ∃ j d, l[j]? = some d ∧ d.key = e.key ∧ firstK l j = true
  | 0, e, h => ⟨0, e, h, rfl, by simp [firstK, h]⟩
  | i + 1, e, h => by
    obtain ⟨a, ha⟩ : ∃ a, l[i]? = some a := ⟨l[i]'(by have := (List.getElem?_eq_some_iff.1 h).1; omega), List.getElem?_eq_getElem _⟩
    by_cases hk : a.key = e.key
    · obtain ⟨j, d, hd, hdk, hf⟩ := first_of ha
      exact ⟨j, d, hd, hdk.trans hk, hf⟩
    · exact ⟨i + 1, e, h, rfl, by simp [firstK, h, ha, hk]⟩
/-- As many are counted as the scan tells. -/
theorem ctd_scan {l : List Ent} (hu : Up l) (f t : List UInt8) (s : Int) : (ctd l f t s l.length).length = (scan l f t s).length := by
  have hS := scan_is hu f t s
  have hn : ((scan l f t s).map (·.key)).Nodup := by
    unfold List.Nodup
    rw [List.pairwise_map]
    refine hS.up.imp (fun {a b} h e => ?_)
    rw [e, less_irrefl] at h
    cases h
  have hp := (List.perm_ext_iff_of_nodup (ctd_nodup hu f t s l.length) hn).2 (fun x => ?_)
  · rw [hp.length_eq, List.length_map]
  · rw [ctd_mem]
    constructor
    · rintro ⟨i, e, _, he, hc, rfl⟩
      simp only [cond, he, Bool.and_eq_true, Bool.or_eq_true, decide_eq_true_eq, Bool.not_eq_true'] at hc
      obtain ⟨⟨⟨_, h2⟩, h3⟩, h4⟩ := hc
      obtain ⟨y, hy⟩ := Option.isSome_iff_exists.1 h2
      obtain ⟨hyk, hys⟩ := ver_found hu hy
      have hym : y ∈ l := by
        rw [hit_vers hu] at hy
        exact List.mem_of_find?_eq_some hy
      obtain ⟨j, hj⟩ := List.getElem?_of_mem hym
      obtain ⟨x, hx, hxk⟩ := hS.all j y (List.getElem?_eq_some_iff.1 hj).1 hj (by
        simp only [outB, Bool.or_eq_false_iff, Bool.and_eq_false_iff, decide_eq_false_iff_not, Bool.not_eq_false']
        rw [hyk]
        refine ⟨⟨h3, ?_⟩, by omega⟩
        rcases h4 with h4 | h4
        · exact .inl (by omega)
        · exact .inr h4)
      exact List.mem_map.2 ⟨x, hx, hxk.trans hyk⟩
    · intro hx
      obtain ⟨y, hy, rfl⟩ := List.mem_map.1 hx
      obtain ⟨q, hq⟩ := List.getElem?_of_mem hy
      obtain ⟨h1, h2, h3⟩ := scan_one hu hq
      obtain ⟨i, _, hi, _⟩ := hS.each y hy
      obtain ⟨j, d, hd, hdk, hf⟩ := first_of hi
      refine ⟨j, d, (List.getElem?_eq_some_iff.1 hd).1, hd, ?_, hdk⟩
      simp only [cond, hd, Bool.and_eq_true, Bool.or_eq_true, decide_eq_true_eq, Bool.not_eq_true']
      rw [hdk]
      refine ⟨⟨⟨hf, by rw [h1]; rfl⟩, h2⟩, ?_⟩
      rcases Nat.eq_zero_or_pos t.length with h0 | h0
      · exact .inl h0
      · exact .inr (h3 h0)
end Go.Proofs.Ythhnnfnfggandaa.Sk
