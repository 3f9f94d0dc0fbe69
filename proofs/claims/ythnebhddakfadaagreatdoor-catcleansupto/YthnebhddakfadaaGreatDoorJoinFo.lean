/- The walk of the document's Same of versions that are the same. -/
/- CatTwo's walk. -/
/- The arguments of stage 10's statements opened: a version, a slice of notes, a slice of ints; no walk. -/
/- A row of versions opened; no walk. -/
import Derived.Test.YthnebhddakfadaaGreatDoorJoinHm
import Derived.Test.YthnebhddakfadaaGreatDoorJoinFm
import Derived.Test.YthnebhddakfadaaGreatDoorH7
import Derived.Test.YthnebhddakfadaaGreatDoorJoinOi
namespace Go.Proofs.YthnebhddakfadaaGreatDoor
open Go.RowKit
open Ed (Nt)

end Go.Proofs.YthnebhddakfadaaGreatDoor
namespace Go.Proofs.YthnebhddakfadaaGreatDoor
open Go.RowKit
open Dk (File Disk)

/-- Between two saves. -/
structure TwI (w : World) (b k : Nat) (W : World) (d : Disk) : Prop where
  disk : ∃ S, DW w S W b d
  vn : Vn d
  cap : d.cap = 1099511627776
  done : d.done ≤ k * 2300000000000
theorem TwI.next {w : World} {b k : Nat} {W W' : World} {d : Disk} (h : TwI w b k W d) (hb : Below W.heap.size W W') : TwI w b k W' d := by
  obtain ⟨S, h1⟩ := h.disk
  exact ⟨⟨S, h1.next hb⟩, h.vn, h.cap, h.done⟩
theorem TwI.bel {w : World} {b k : Nat} {W : World} {d : Disk} (h : TwI w b k W d) : Below w.heap.size w W := by
  obtain ⟨S, h1⟩ := h.disk
  exact h1.bel
end Go.Proofs.YthnebhddakfadaaGreatDoor
namespace Go.Proofs.YthnebhddakfadaaGreatDoor
open Go.ChangeShapes Go.WideShapes Go.ChangeAt Go.RowKit
open Ed (Nt)

theorem open_bytes_dat {H : Type} {enc : TypeId × Value → H} {W : World} {n : Nat} {v : Value} {x : DataW H × List MemPlace} (h : DataW.trod enc Tryz.prog W 0 (fun _ => true) true n 25 [v] = some x) :
    ∃ ao m c l, v = .slice ao m c ∧ Src W ao m c l ∧ (x.1 = .nil ∧ m = 0 ∨ ∃ elems spare, x.1 = .slice elems spare ∧ elems.length + spare.length = c) := by
  rcases open_ints Tryz.underlying25 Tryz.underlying5 cells5 h with ⟨hcs, hx⟩ | ⟨a, len, cap, zs, hcs, _, hl, hm, hz, hx, hcell, hwz⟩
  · simp only [List.cons.injEq, and_true] at hcs
    exact ⟨none, 0, 0, [], hcs, Src.empty (fun _ => rfl), .inl ⟨by rw [hx], rfl⟩⟩
  · simp only [List.cons.injEq, and_true] at hcs
    simp at hz
    refine ⟨some a, len, cap, bl (zs.take len), hcs, ?_, .inr ⟨_, _, by rw [hx], ?_⟩⟩
    · refine ⟨by simp [bl]; omega, hl, (fun h => by cases h), fun ad had j u hu => ?_⟩
      cases had
      have hj : j < (bl (zs.take len)).length := by
        have := (List.getElem?_eq_some_iff.1 hu).1
        rwa [bv_length] at this
      have hj2 : j < (zs.take len).length := by simpa [bl] using hj
      rw [bv_at _ j hj] at hu
      cases hu
      rw [bl_at (zs.take len) j hj2 (fun n hn => hwz n (List.mem_of_mem_take hn)), hcell j (by simp at hj2; omega)]
      congr 2
      have h1 : j < len := by simp at hj2; omega
      rw [List.getD_eq_getElem?_getD, List.getD_eq_getElem?_getD, List.getElem?_take, if_pos h1]
    · simp [lits]
      omega
theorem weights_all {H : Type} {P : Program} {e : TypeId} : ∀ {ds : List (DataW H)} {i : Nat} {d : DataW H}, ds[i]? = some d → ∀ n ∈ d.weights P e, n ∈ DataW.weightsAll P e ds
  | d0 :: ds, 0, d, hd, n, hn => by
    simp only [List.getElem?_cons_zero, Option.some.injEq] at hd
    subst hd
    simp only [DataW.weightsAll, List.mem_append]
    exact .inl hn
  | d0 :: ds, i + 1, d, hd, n, hn => by
    simp only [List.getElem?_cons_succ] at hd
    simp only [DataW.weightsAll, List.mem_append]
    exact .inr (weights_all hd n hn)
  | [], _, _, hd, _, _ => by simp at hd
/-- A datum of a byte slice, m long, of c places. -/
def ByDat {H : Type} (d : DataW H) (m c : Nat) : Prop := d = .nil ∧ m = 0 ∨ ∃ elems spare, d = .slice elems spare ∧ elems.length + spare.length = c
theorem trod_struct5 {H : Type} {enc : TypeId × Value → H} {P : Program} {w : World} {base : Nat} {spare : Nat → Bool} {held : Bool} {t : TypeId} {f0 f1 f2 f3 f4 : Field} {fuel : Nat} {cs : List Value} {x : DataW H × List MemPlace} (ht : P.underlying t = some (.struct #[f0, f1, f2, f3, f4])) (h : DataW.trod enc P w base spare held fuel t cs = some x) :
    ∃ y0 y1 y2 y3 y4 n, cs.length = P.cellsOf t ∧ x.1 = .agg [y0.1, y1.1, y2.1, y3.1, y4.1] ∧ DataW.trod enc P w base spare held n f0.type ((cs.drop f0.offset).take (P.cellsOf f0.type)) = some y0 ∧
      DataW.trod enc P w base spare held n f1.type ((cs.drop f1.offset).take (P.cellsOf f1.type)) = some y1 ∧ DataW.trod enc P w base spare held n f2.type ((cs.drop f2.offset).take (P.cellsOf f2.type)) = some y2 ∧
      DataW.trod enc P w base spare held n f3.type ((cs.drop f3.offset).take (P.cellsOf f3.type)) = some y3 ∧ DataW.trod enc P w base spare held n f4.type ((cs.drop f4.offset).take (P.cellsOf f4.type)) = some y4 := by
  obtain ⟨xs, n, _, rfl, hl, hlen, hf⟩ := DataW.trod_struct ht h
  match xs, hlen with
  | [y0, y1, y2, y3, y4], _ => exact ⟨y0, y1, y2, y3, y4, n, hl, rfl, by simpa using hf 0 f0 rfl, by simpa using hf 1 f1 rfl, by simpa using hf 2 f2 rfl, by simpa using hf 3 f3 rfl, by simpa using hf 4 f4 rfl⟩
theorem note_fields : ∃ f0 f1 f2 f3 f4 : Field, Tryz.prog.underlying 73 = some (.struct #[f0, f1, f2, f3, f4]) ∧ (f0.type = 3 ∧ f0.offset = 0) ∧ (f1.type = 3 ∧ f1.offset = 1) ∧ (f2.type = 3 ∧ f2.offset = 2) ∧ (f3.type = 25 ∧ f3.offset = 3) ∧ (f4.type = 25 ∧ f4.offset = 4) := ⟨_, _, _, _, _, Tryz.underlying73, ⟨rfl, rfl⟩, ⟨rfl, rfl⟩, ⟨rfl, rfl⟩, ⟨rfl, rfl⟩, ⟨rfl, rfl⟩⟩
theorem ver_fields : ∃ f0 f1 f2 f3 f4 : Field, Tryz.prog.underlying 34 = some (.struct #[f0, f1, f2, f3, f4]) ∧ (f0.type = 3 ∧ f0.offset = 0) ∧ (f1.type = 3 ∧ f1.offset = 1) ∧ (f2.type = 3 ∧ f2.offset = 2) ∧ (f3.type = 3 ∧ f3.offset = 3) ∧ (f4.type = 32 ∧ f4.offset = 4) := ⟨_, _, _, _, _, Tryz.underlying34, ⟨rfl, rfl⟩, ⟨rfl, rfl⟩, ⟨rfl, rfl⟩, ⟨rfl, rfl⟩, ⟨rfl, rfl⟩⟩
theorem cB10 : Tryz.prog.cellsOf 25 = 1 := by kernel_rfl
theorem cI10 : Tryz.prog.cellsOf 3 = 1 := by kernel_rfl
theorem cM10 : Tryz.prog.cellsOf 73 = 5 := by kernel_rfl
theorem cS10 : Tryz.prog.cellsOf 32 = 1 := by kernel_rfl
theorem cV10 : Tryz.prog.cellsOf 34 = 5 := by kernel_rfl
theorem bytesM10 : Tryz.prog.bytesOf 73 = 72 := by kernel_rfl
set_option maxRecDepth 100000 in
/-- One note. -/
theorem open_note {H : Type} {enc : TypeId × Value → H} {W : World} {n : Nat} {cs : List Value} {x : DataW H × List MemPlace} (h : DataW.trod enc Tryz.prog W 0 (fun _ => true) true n 73 cs = some x) :
    ∃ e : MV, cs = metaKind.vals e ∧ metaKind.held W e ∧ ∃ d0 d1 d2 d3 d4, x.1 = .agg [d0, d1, d2, d3, d4] ∧ ByDat d3 e.m.first.length e.fc ∧ ByDat d4 e.m.last.length e.lc := by
  obtain ⟨f0, f1, f2, f3, f4, hF, ⟨e0, o0⟩, ⟨e1, o1⟩, ⟨e2, o2⟩, ⟨e3, o3⟩, ⟨e4, o4⟩⟩ := note_fields
  obtain ⟨y0, y1, y2, y3, y4, k, hl, hx, t0, t1, t2, t3, t4⟩ := trod_struct5 hF h
  rw [cM10] at hl
  match cs, hl with
  | [v0, v1, v2, v3, v4], _ =>
    rw [e0, o0, cI10] at t0
    rw [e1, o1, cI10] at t1
    rw [e2, o2, cI10] at t2
    rw [e3, o3, cB10] at t3
    rw [e4, o4, cB10] at t4
    simp at t0 t1 t2 t3 t4
    obtain ⟨z0, hz0, _, _⟩ := DataW.trod_int Tryz.underlying3 t0
    obtain ⟨z1, hz1, _, _⟩ := DataW.trod_int Tryz.underlying3 t1
    obtain ⟨z2, hz2, _, _⟩ := DataW.trod_int Tryz.underlying3 t2
    obtain ⟨a3, m3, c3, l3, rfl, s3, k3⟩ := open_bytes_dat t3
    obtain ⟨a4, m4, c4, l4, rfl, s4, k4⟩ := open_bytes_dat t4
    simp only [List.cons.injEq, and_true] at hz0 hz1 hz2
    have h3 := s3.len
    have h4 := s4.len
    refine ⟨⟨a3, c3, a4, c4, ⟨z0, z1, z2, l3, l4⟩⟩, ?_, ⟨?_, ?_⟩, y0.1, y1.1, y2.1, y3.1, y4.1, hx, ?_, ?_⟩
    · simp only [metaKind]; rw [h3, h4, hz0, hz1, hz2]
    · show Src W a3 l3.length c3 l3; rw [h3]; exact s3
    · show Src W a4 l4.length c4 l4; rw [h4]; exact s4
    · show ByDat y3.1 l3.length c3; rw [h3]; exact k3
    · show ByDat y4.1 l4.length c4; rw [h4]; exact k4
set_option maxRecDepth 100000 in
theorem weights_note {H : Type} {d0 d1 d2 d3 d4 : DataW H} {n : Nat} (h : n ∈ d3.weights Tryz.prog 25 ∨ n ∈ d4.weights Tryz.prog 25) : n ∈ DataW.weights Tryz.prog 73 (.agg [d0, d1, d2, d3, d4]) := by
  obtain ⟨f0, f1, f2, f3, f4, hF, ⟨e0, _⟩, ⟨e1, _⟩, ⟨e2, _⟩, ⟨e3, _⟩, ⟨e4, _⟩⟩ := note_fields
  simp only [DataW.weights, hF, DataW.weightsEach, List.map_cons, List.map_nil, e0, e1, e2, e3, e4, List.mem_append]
  rcases h with h | h
  · exact .inr (.inr (.inr (.inl h)))
  · exact .inr (.inr (.inr (.inr (.inl h))))
set_option maxRecDepth 100000 in
theorem weights_ver {H : Type} {d0 d1 d2 d3 d4 : DataW H} {n : Nat} (h : n ∈ d4.weights Tryz.prog 32) : n ∈ DataW.weights Tryz.prog 34 (.agg [d0, d1, d2, d3, d4]) := by
  obtain ⟨f0, f1, f2, f3, f4, hF, ⟨e0, _⟩, ⟨e1, _⟩, ⟨e2, _⟩, ⟨e3, _⟩, ⟨e4, _⟩⟩ := ver_fields
  simp only [DataW.weights, hF, DataW.weightsEach, List.map_cons, List.map_nil, e0, e1, e2, e3, e4, List.mem_append]
  exact .inr (.inr (.inr (.inr (.inl h))))
/-- Within the form's reach. -/
def Near (m : Nat) (es : List MV) : Prop := m ≤ 1954687338268 ∧ ∀ y ∈ es, y.m.first.length ≤ 140737488355328 ∧ y.m.last.length ≤ 140737488355328
set_option maxRecDepth 100000 in
theorem open_metasD {H : Type} {enc : TypeId × Value → H} {W : World} {fuel : Nat} {v : Value} {x : DataW H × List MemPlace} (h : DataW.trod enc Tryz.prog W 0 (fun _ => true) true fuel 32 [v] = some x) :
    ∃ ao m c es, v = .slice ao m c ∧ RSrc metaKind W ao m c es ∧ ((∀ n ∈ DataW.weights Tryz.prog 32 x.1, n ≤ reachBytes) → Near m es) := by
  obtain ⟨ao, m, c, es, h1, h2, h3, h4⟩ := open_recs (enc := enc) (W := W) metaKind_ok (Q := fun e y => ∃ d0 d1 d2 d3 d4, y = .agg [d0, d1, d2, d3, d4] ∧ ByDat d3 e.m.first.length e.fc ∧ ByDat d4 e.m.last.length e.lc) Tryz.underlying32 (by kernel_rfl) (fun m cs y hy => by
    obtain ⟨o, q1, q2, q3⟩ := open_note hy
    exact ⟨o, q1, q2, q3⟩) h
  have hcap := h2.cap
  refine ⟨ao, m, c, es, h1, h2, fun hw => ?_⟩
  rcases h4 with ⟨h0, _⟩ | ⟨xs, sp, hx, hl, hcl, hq⟩
  · refine ⟨by omega, fun e he => ?_⟩
    have := h2.len
    rw [h0] at this
    rw [List.length_eq_zero_iff.1 this] at he
    cases he
  · rw [hx] at hw
    have hw0 := hw ((xs.length + sp.length) * Tryz.prog.bytesOf 73) (by simp [DataW.weights, Tryz.underlying32])
    rw [bytesM10, hcl] at hw0
    unfold reachBytes at hw0
    refine ⟨by omega, fun e he => ?_⟩
    obtain ⟨i, hi⟩ := List.getElem?_of_mem he
    have hlt := (List.getElem?_eq_some_iff.1 hi).1
    rw [h2.len, ← hl] at hlt
    have hd2 := List.getElem?_eq_getElem hlt
    have hs2 := h2.held e he
    have hk := hs2.1.cap
    have hvv := hs2.2.cap
    obtain ⟨d0, d1, d2, d3, d4, hag, hk3, hk4⟩ := hq i e _ hi hd2
    rw [hag] at hd2
    have one : ∀ {dd : DataW H} {mm cc : Nat}, ByDat dd mm cc → mm ≤ cc → (∀ n, n ∈ dd.weights Tryz.prog 25 → n ∈ DataW.weights Tryz.prog 73 (DataW.agg [d0, d1, d2, d3, d4])) → mm ≤ 140737488355328 := fun {dd mm cc} hb hle hin => by
      rcases hb with ⟨_, h0⟩ | ⟨el, sp2, h5, h6⟩
      · omega
      · have h8 := hw ((el.length + sp2.length) * Tryz.prog.bytesOf 5) (by
          simp only [DataW.weights, Tryz.underlying32, List.mem_cons, List.mem_append]
          right; left
          refine weights_all hd2 _ (hin _ ?_)
          rw [h5]
          simp [DataW.weights, Tryz.underlying25])
        rw [bytes5, h6] at h8
        unfold reachBytes at h8
        omega
    exact ⟨one hk3 hk (fun n hn => weights_note (.inl hn)), one hk4 hvv (fun n hn => weights_note (.inr hn))⟩
set_option maxRecDepth 100000 in
/-- A version. -/
theorem open_ver {H : Type} {enc : TypeId × Value → H} {W : World} {v : Value} {d : DataW H} {p : List MemPlace} {base : Nat} (hv : Value.okWide Tryz.prog W .any base 34 v) (h : DataW.Trod enc Tryz.prog W 0 (fun _ => true) true 34 v d p) :
    ∃ x : VV, v = x.val ∧ VV.held W x ∧ ((∀ n ∈ DataW.weights Tryz.prog 34 d, n ≤ reachBytes) → Near x.n x.es) := by
  obtain ⟨f0, f1, f2, f3, f4, hF, ⟨e0, o0⟩, ⟨e1, o1⟩, ⟨e2, o2⟩, ⟨e3, o3⟩, ⟨e4, o4⟩⟩ := ver_fields
  obtain ⟨cs, rfl, _⟩ := okWide_struct hF hv
  obtain ⟨fuel, hf⟩ := h
  have hf' : DataW.trod enc Tryz.prog W 0 (fun _ => true) true fuel 34 cs.toList = some (d, p) := by simpa only [Value.cells] using hf
  obtain ⟨y0, y1, y2, y3, y4, k, hl, hx, t0, t1, t2, t3, t4⟩ := trod_struct5 hF hf'
  obtain ⟨cl⟩ := cs
  simp only at hl t0 t1 t2 t3 t4
  rw [cV10] at hl
  match cl, hl with
  | [v0, v1, v2, v3, v4], _ =>
    rw [e0, o0, cI10] at t0
    rw [e1, o1, cI10] at t1
    rw [e2, o2, cI10] at t2
    rw [e3, o3, cI10] at t3
    rw [e4, o4, cS10] at t4
    simp at t0 t1 t2 t3 t4
    obtain ⟨z0, hz0, _, _⟩ := DataW.trod_int Tryz.underlying3 t0
    obtain ⟨z1, hz1, _, _⟩ := DataW.trod_int Tryz.underlying3 t1
    obtain ⟨z2, hz2, _, _⟩ := DataW.trod_int Tryz.underlying3 t2
    obtain ⟨z3, hz3, _, _⟩ := DataW.trod_int Tryz.underlying3 t3
    obtain ⟨ao, m, c, es, rfl, hs, hnear⟩ := open_metasD t4
    simp only [List.cons.injEq, and_true] at hz0 hz1 hz2 hz3
    refine ⟨⟨ao, m, c, z0, z1, z2, z3, es⟩, ?_, hs, fun hw => hnear (fun n hn => hw n ?_)⟩
    · unfold VV.val
      rw [hz0, hz1, hz2, hz3]
    · have hx' : d = .agg [y0.1, y1.1, y2.1, y3.1, y4.1] := hx
      rw [hx']
      exact weights_ver hn
end Go.Proofs.YthnebhddakfadaaGreatDoor
namespace Go.Proofs.YthnebhddakfadaaGreatDoor
open Go.ChangeShapes Go.WideShapes Go.ChangeAt Go.RowKit
end Go.Proofs.YthnebhddakfadaaGreatDoor
