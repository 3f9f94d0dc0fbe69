/- The arguments of stage 6's statements opened, each byte slice within the form's reach; no walk. -/
/- The walks of filled and of SkipCounts. -/
/- The calls on no list. -/
/- The walk of SkipPlays. -/
import Derived.Test.YtlhblbaingojaaaVp
import Derived.Test.YtlhblbaingojaaaXr
import Derived.Test.YtlhblbaingojaaaXe
import Derived.Test.YtlhblbaingojaaaVl
import Derived.Test.YtlhblbaingojaaaVi
namespace Go.Proofs.Ytlhblbaingojaaa
open Go.ChangeShapes Go.WideShapes Go.ChangeAt Go.RowKit
open Sk (Ent)

theorem open_bytes_dat {H : Type} {enc : TypeId × Value → H} {W : World} {n : Nat} {v : Value} {x : DataW H × List MemPlace} (h : DataW.trod enc Try.prog W 0 (fun _ => true) true n 32 [v] = some x) :
    ∃ ao m c l, v = .slice ao m c ∧ Src W ao m c l ∧ (x.1 = .nil ∧ m = 0 ∨ ∃ elems spare, x.1 = .slice elems spare ∧ elems.length + spare.length = c) := by
  rcases open_ints Try.underlying32 Try.underlying5 cells5 h with ⟨hcs, hx⟩ | ⟨a, len, cap, zs, hcs, _, hl, hm, hz, hx, hcell, hwz⟩
  · simp only [List.cons.injEq, and_true] at hcs
    exact ⟨none, 0, 0, [], hcs, Src.empty (fun _ => rfl), .inl ⟨by rw [hx], rfl⟩⟩
  · simp only [List.cons.injEq, and_true] at hcs
    simp at hz
    refine ⟨some a, len, cap, bl (zs.take len), hcs, ?_, .inr ⟨_, _, by rw [hx], ?_⟩⟩
    · refine ⟨by simp [bl]; omega, hl, (fun h => by cases h), fun ad had j u hu => ?_⟩
      cases had
      have hj : j < (bl (zs.take len)).length := by
        have := (List.getElem?_eq_some_iff.1 hu).1
        rwa [bv_length] at this
      have hj2 : j < (zs.take len).length := by simpa [bl] using hj
      rw [bv_at _ j hj] at hu
      cases hu
      rw [bl_at (zs.take len) j hj2 (fun n hn => hwz n (List.mem_of_mem_take hn)), hcell j (by simp at hj2; omega)]
      congr 2
      have h1 : j < len := by simp at hj2; omega
      rw [List.getD_eq_getElem?_getD, List.getD_eq_getElem?_getD, List.getElem?_take, if_pos h1]
    · simp [lits]
      omega
theorem weights_all {H : Type} {P : Program} {e : TypeId} : ∀ {ds : List (DataW H)} {i : Nat} {d : DataW H}, ds[i]? = some d → ∀ n ∈ d.weights P e, n ∈ DataW.weightsAll P e ds
  | d0 :: ds, 0, d, hd, n, hn => by
    simp only [List.getElem?_cons_zero, Option.some.injEq] at hd
    subst hd
    simp only [DataW.weightsAll, List.mem_append]
    exact .inl hn
  | d0 :: ds, i + 1, d, hd, n, hn => by
    simp only [List.getElem?_cons_succ] at hd
    simp only [DataW.weightsAll, List.mem_append]
    exact .inr (weights_all hd n hn)
  | [], _, _, hd, _, _ => by simp at hd
/-- A datum of a byte slice, m long, of c places. -/
def ByDat {H : Type} (d : DataW H) (m c : Nat) : Prop := d = .nil ∧ m = 0 ∨ ∃ elems spare, d = .slice elems spare ∧ elems.length + spare.length = c
theorem trod_struct4D {H : Type} {enc : TypeId × Value → H} {P : Program} {w : World} {base : Nat} {spare : Nat → Bool} {held : Bool} {t : TypeId} {f0 f1 f2 f3 : Field} {fuel : Nat} {cs : List Value} {x : DataW H × List MemPlace} (ht : P.underlying t = some (.struct #[f0, f1, f2, f3])) (h : DataW.trod enc P w base spare held fuel t cs = some x) :
    ∃ y0 y1 y2 y3 n, cs.length = P.cellsOf t ∧ x.1 = .agg [y0.1, y1.1, y2.1, y3.1] ∧ DataW.trod enc P w base spare held n f0.type ((cs.drop f0.offset).take (P.cellsOf f0.type)) = some y0 ∧
      DataW.trod enc P w base spare held n f1.type ((cs.drop f1.offset).take (P.cellsOf f1.type)) = some y1 ∧ DataW.trod enc P w base spare held n f2.type ((cs.drop f2.offset).take (P.cellsOf f2.type)) = some y2 ∧
      DataW.trod enc P w base spare held n f3.type ((cs.drop f3.offset).take (P.cellsOf f3.type)) = some y3 := by
  obtain ⟨xs, n, _, rfl, hl, hlen, hf⟩ := DataW.trod_struct ht h
  match xs, hlen with
  | [y0, y1, y2, y3], _ => exact ⟨y0, y1, y2, y3, n, hl, rfl, by simpa using hf 0 f0 rfl, by simpa using hf 1 f1 rfl, by simpa using hf 2 f2 rfl, by simpa using hf 3 f3 rfl⟩
theorem open_entryD {H : Type} {enc : TypeId × Value → H} {W : World} {n : Nat} {cs : List Value} {x : DataW H × List MemPlace} (h : DataW.trod enc Try.prog W 0 (fun _ => true) true n 34 cs = some x) :
    ∃ e : EV, cs = entKind.vals e ∧ entKind.held W e ∧ ∃ d0 d1 d2 d3, x.1 = .agg [d0, d1, d2, d3] ∧ ByDat d0 e.e.key.length e.kc ∧ ByDat d3 e.e.val.length e.vc := by
  obtain ⟨f0, f1, f2, f3, hF, ⟨e0, o0⟩, ⟨e1, o1⟩, ⟨e2, o2⟩, ⟨e3, o3⟩⟩ := entry_fields
  obtain ⟨y0, y1, y2, y3, k, hl, hx, t0, t1, t2, t3⟩ := trod_struct4D hF h
  rw [cE] at hl
  match cs, hl with
  | [v0, v1, v2, v3], _ =>
    rw [e0, o0, cB] at t0
    rw [e1, o1, cI] at t1
    rw [e2, o2, cBo] at t2
    rw [e3, o3, cB] at t3
    simp at t0 t1 t2 t3
    obtain ⟨a0, m0, c0, l0, rfl, s0, k0⟩ := open_bytes_dat t0
    obtain ⟨z, hz, _, _⟩ := DataW.trod_int Try.underlying3 t1
    obtain ⟨g, hg, _⟩ := DataW.trod_bool Try.underlying4 t2
    obtain ⟨a3, m3, c3, l3, rfl, s3, k3⟩ := open_bytes_dat t3
    simp only [List.cons.injEq, and_true] at hz hg
    have h0 := s0.len
    have h3 := s3.len
    refine ⟨⟨a0, c0, a3, c3, ⟨l0, z, g, l3⟩⟩, ?_, ⟨?_, ?_⟩, y0.1, y1.1, y2.1, y3.1, hx, ?_, ?_⟩
    · simp only [entKind]; rw [h0, h3, hz, hg]
    · show Src W a0 l0.length c0 l0; rw [h0]; exact s0
    · show Src W a3 l3.length c3 l3; rw [h3]; exact s3
    · show ByDat y0.1 l0.length c0; rw [h0]; exact k0
    · show ByDat y3.1 l3.length c3; rw [h3]; exact k3
theorem trod_struct5D {H : Type} {enc : TypeId × Value → H} {P : Program} {w : World} {base : Nat} {spare : Nat → Bool} {held : Bool} {t : TypeId} {f0 f1 f2 f3 f4 : Field} {fuel : Nat} {cs : List Value} {x : DataW H × List MemPlace} (ht : P.underlying t = some (.struct #[f0, f1, f2, f3, f4])) (h : DataW.trod enc P w base spare held fuel t cs = some x) :
    ∃ y0 y1 y2 y3 y4 n, cs.length = P.cellsOf t ∧ x.1 = .agg [y0.1, y1.1, y2.1, y3.1, y4.1] ∧ DataW.trod enc P w base spare held n f0.type ((cs.drop f0.offset).take (P.cellsOf f0.type)) = some y0 ∧
      DataW.trod enc P w base spare held n f1.type ((cs.drop f1.offset).take (P.cellsOf f1.type)) = some y1 ∧ DataW.trod enc P w base spare held n f2.type ((cs.drop f2.offset).take (P.cellsOf f2.type)) = some y2 ∧
      DataW.trod enc P w base spare held n f3.type ((cs.drop f3.offset).take (P.cellsOf f3.type)) = some y3 ∧ DataW.trod enc P w base spare held n f4.type ((cs.drop f4.offset).take (P.cellsOf f4.type)) = some y4 := by
  obtain ⟨xs, n, _, rfl, hl, hlen, hf⟩ := DataW.trod_struct ht h
  match xs, hlen with
  | [y0, y1, y2, y3, y4], _ => exact ⟨y0, y1, y2, y3, y4, n, hl, rfl, by simpa using hf 0 f0 rfl, by simpa using hf 1 f1 rfl, by simpa using hf 2 f2 rfl, by simpa using hf 3 f3 rfl, by simpa using hf 4 f4 rfl⟩
theorem open_opD {H : Type} {enc : TypeId × Value → H} {W : World} {n : Nat} {cs : List Value} {x : DataW H × List MemPlace} (h : DataW.trod enc Try.prog W 0 (fun _ => true) true n 36 cs = some x) :
    ∃ o : OpS, cs = opsKind.vals o ∧ opsKind.held W o ∧ ∃ p0 p1 p2 d0 d1 d2 d3 p4, x.1 = .agg [p0, p1, p2, .agg [d0, d1, d2, d3], p4] ∧ ByDat d0 o.x.e.key.length o.x.kc ∧ ByDat d3 o.x.e.val.length o.x.vc ∧ ByDat p4 o.to.length o.tc := by
  obtain ⟨f0, f1, f2, f3, f4, hF, ⟨e0, o0⟩, ⟨e1, o1⟩, ⟨e2, o2⟩, ⟨e3, o3⟩, ⟨e4, o4⟩⟩ := op_fields
  obtain ⟨y0, y1, y2, y3, y4, k, hl, hx, t0, t1, t2, t3, t4⟩ := trod_struct5D hF h
  rw [cO] at hl
  match cs, hl with
  | [v0, v1, v2, v3, v4, v5, v6, v7], _ =>
    rw [e0, o0, cI] at t0
    rw [e1, o1, cI] at t1
    rw [e2, o2, cI] at t2
    rw [e3, o3, cE] at t3
    rw [e4, o4, cB] at t4
    simp at t0 t1 t2 t3 t4
    obtain ⟨z0, hz0, _, _⟩ := DataW.trod_int Try.underlying3 t0
    obtain ⟨z1, hz1, _, _⟩ := DataW.trod_int Try.underlying3 t1
    obtain ⟨z2, hz2, _, _⟩ := DataW.trod_int Try.underlying3 t2
    obtain ⟨e, he, hh, d0, d1, d2, d3, hd, b0, b3⟩ := open_entryD t3
    obtain ⟨a4, m4, c4, l4, rfl, s4, k4⟩ := open_bytes_dat t4
    simp only [List.cons.injEq, and_true] at hz0 hz1 hz2
    have h4 := s4.len
    simp only [entKind, List.cons.injEq, and_true] at he
    obtain ⟨r3, r4, r5, r6⟩ := he
    refine ⟨⟨z0, z1, z2, e, a4, c4, l4⟩, ?_, ⟨hh, ?_⟩, y0.1, y1.1, y2.1, d0, d1, d2, d3, y4.1, by rw [hx, hd], b0, b3, ?_⟩
    · simp only [opsKind]
      rw [hz0, hz1, hz2, r3, r4, r5, r6, h4]
    · show Src W a4 l4.length c4 l4
      rw [h4]
      exact s4
    · show ByDat y4.1 l4.length c4
      rw [h4]
      exact k4
theorem weights_op {H : Type} {p0 p1 p2 d0 d1 d2 d3 p4 : DataW H} {n : Nat} (h : n ∈ d0.weights Try.prog 32 ∨ n ∈ d3.weights Try.prog 32 ∨ n ∈ p4.weights Try.prog 32) : n ∈ DataW.weights Try.prog 36 (.agg [p0, p1, p2, .agg [d0, d1, d2, d3], p4]) := by
  obtain ⟨g0, g1, g2, g3, gF, ⟨i0, _⟩, ⟨i1, _⟩, ⟨i2, _⟩, ⟨i3, _⟩⟩ := entry_fields
  obtain ⟨f0, f1, f2, f3, f4, hF, ⟨e0, _⟩, ⟨e1, _⟩, ⟨e2, _⟩, ⟨e3, _⟩, ⟨e4, _⟩⟩ := op_fields
  simp only [DataW.weights, hF, gF, DataW.weightsEach, List.map_cons, List.map_nil, e0, e1, e2, e3, e4, i0, i1, i2, i3, List.mem_append]
  rcases h with h | h | h
  · exact .inr (.inr (.inr (.inl (.inl h))))
  · exact .inr (.inr (.inr (.inl (.inr (.inr (.inr (.inl h)))))))
  · exact .inr (.inr (.inr (.inr (.inl h))))
set_option maxRecDepth 100000 in
/-- A slice of operations. -/
theorem open_script_reach {H : Type} {enc : TypeId × Value → H} {W : World} {v : Value} {d : DataW H} {p : List MemPlace} {base : Nat} {ts : List TypeId} {ds : List (DataW H)} {j : Nat} (hsz : (DataW.weightsEach Try.prog ts ds).all (· ≤ reachBytes) = true) (ht : ts[j]? = some 22) (hd : ds[j]? = some d)
    (hv : Value.okWide Try.prog W .any base 22 v) (h : DataW.Trod enc Try.prog W 0 (fun _ => true) true 22 v d p) :
    ∃ ao m c es, v = .slice ao m c ∧ RSrc opsKind W ao m c es ∧ c ≤ maxLen ∧ ∀ o ∈ es, o.fits := by
  obtain ⟨a0, len0, cap0, rfl⟩ := okWide_slice Try.underlying22 hv
  obtain ⟨fuel, hf⟩ := h
  obtain ⟨ao, m, c, es, h1, h2, h3, h4⟩ := open_recs (enc := enc) (W := W) opsKind_ok (Q := fun o y => ∃ p0 p1 p2 d0 d1 d2 d3 p4, y = .agg [p0, p1, p2, .agg [d0, d1, d2, d3], p4] ∧ ByDat d0 o.x.e.key.length o.x.kc ∧ ByDat d3 o.x.e.val.length o.x.vc ∧ ByDat p4 o.to.length o.tc) Try.underlying22 (by kernel_rfl) (fun m cs y hy => by
    obtain ⟨o, q1, q2, q3⟩ := open_opD hy
    exact ⟨o, q1, q2, q3⟩) (v := .slice a0 len0 cap0) (by simpa only [Value.cells] using hf)
  refine ⟨ao, m, c, es, h1, h2, h3, ?_⟩
  rcases h4 with ⟨h0, _⟩ | ⟨xs, sp, hx, hl, hcl, hq⟩
  · intro e he
    have := h2.len
    rw [h0] at this
    rw [List.length_eq_zero_iff.1 this] at he
    cases he
  · have hx' : d = .slice xs sp := hx
    intro e he
    obtain ⟨i, hi⟩ := List.getElem?_of_mem he
    have hlt := (List.getElem?_eq_some_iff.1 hi).1
    rw [h2.len, ← hl] at hlt
    have hd2 := List.getElem?_eq_getElem hlt
    have hs2 := h2.held e he
    have hk := hs2.1.1.cap
    have hvv := hs2.1.2.cap
    have hto := hs2.2.cap
    obtain ⟨p0, p1, p2, d0, d1, d2, d3, p4, hag, hk0, hk3, hk4⟩ := hq i e _ hi hd2
    rw [hag] at hd2
    have one : ∀ {dd : DataW H} {mm cc : Nat}, ByDat dd mm cc → mm ≤ cc → (∀ n, n ∈ dd.weights Try.prog 32 → n ∈ DataW.weights Try.prog 36 (DataW.agg [p0, p1, p2, .agg [d0, d1, d2, d3], p4])) → mm ≤ 140737488355328 := fun {dd mm cc} hb hle hin => by
      rcases hb with ⟨_, h0⟩ | ⟨el, sp2, h5, h6⟩
      · omega
      · have h7 : (el.length + sp2.length) * Try.prog.bytesOf 5 ∈ DataW.weights Try.prog 22 (DataW.slice xs sp) := by
          simp only [DataW.weights, Try.underlying22, List.mem_cons, List.mem_append]
          right; left
          refine weights_all hd2 _ (hin _ ?_)
          rw [h5]
          simp [DataW.weights, Try.underlying32]
        have h8 := List.all_eq_true.1 hsz _ (DataW.weights_mem_each ht (hx' ▸ hd) _ h7)
        simp only [decide_eq_true_eq] at h8
        rw [bytes5, h6] at h8
        unfold reachBytes at h8
        omega
    exact ⟨one hk0 hk (fun n hn => weights_op (.inl hn)), one hk3 hvv (fun n hn => weights_op (.inr (.inl hn))), one hk4 hto (fun n hn => weights_op (.inr (.inr hn)))⟩
end Go.Proofs.Ytlhblbaingojaaa
namespace Go.Proofs.Ytlhblbaingojaaa
open Go.RowKit
open Sk (Ent)

/-- What filled answers. -/
def FilledP (w0 : World) (e : Ending) (w' : World) : Prop := ∃ l r ns ys hs, e = .returned (.pointer (some ⟨l, 0, none⟩)) ∧ Twin w0 l ns r ys hs w' ∧ ns.length ≤ 60
/-- Both lists, new. -/
theorem twin_new (w0 w : World) (hb : Below w0.heap.size w0 w) : Twin w0 w.heap.size [] (w.alloc (.cells listZ 60)).heap.size [] [] ((w.alloc (.cells listZ 60)).alloc (.cells #[.slice none 0 0, .slice none 0 0] 30)) := by
  have b1 : Below w.heap.size w (w.alloc (.cells listZ 60)) := (Below.refl _ _).alloc (Nat.le_refl _) _
  have b2 : Below (w.alloc (.cells listZ 60)).heap.size (w.alloc (.cells listZ 60)) ((w.alloc (.cells listZ 60)).alloc (.cells #[.slice none 0 0, .slice none 0 0] 30)) := (Below.refl _ _).alloc (Nat.le_refl _) _
  have h1 := new_lmem w (B := w0.heap.size) hb.size
  exact ⟨h1.below b2, ⟨Nat.le_trans hb.size b1.size, ⟨.slice none 0 0, .slice none 0 0, heap_alloc_new _ _, Ents.nil _ _, World.ownsRow_nil _ _ _ _⟩, rfl, trivial, (fun y hy => by cases hy)⟩, rfl, (fun p hp => by cases hp), hb.trans ((b1.trans (b2.mono b1.size)).mono hb.size)⟩
set_option maxHeartbeats 4000000 in
set_option maxRecDepth 100000 in
theorem filled_any (w0 : World) (ao : Option Addr) (m c : Nat) (es : List OpS) (w : World) (hb : Below w0.heap.size w0 w) (hs : RSrc opsKind w0 ao m c es) (hfit : ∀ o ∈ es, o.fits) :
    Calls Try.prog 27 #[.slice ao m c] w (FilledP w0) := by
  have H1 := keep hs
  have HF := keep hfit
  have hm := hs.len
  have B0 := keep hb
  have T0 := keep (twin_new w0 w hb)
  clear hs hfit hb
  go_enter Try.func27, Try.ntmps27
  go_wp2_with fail
  refine (new_raw w).mono ?_
  rintro e w1 ⟨rfl, hw1⟩
  rw [← hw1] at T0
  obtain ⟨W2, hW2⟩ : ∃ W2, w1.alloc (.cells #[.slice none 0 0, .slice none 0 0] 30) = W2 := ⟨_, rfl⟩
  rw [hW2] at T0
  obtain ⟨l, hl⟩ : ∃ l, w.heap.size = l := ⟨_, rfl⟩
  obtain ⟨r, hr⟩ : ∃ r, w1.heap.size = r := ⟨_, rfl⟩
  rw [hl, hr] at T0
  rw [hl]
  clear hw1 hl
  go_wp2
  clear hW2 hr
  go_loopw [5] (fun i wr => ∃ (k : Nat) (ns : List Nd) (ys : List EV) (hs : List Int), k ≤ m ∧ k ≤ 60 ∧ i = .int .i64 (k : Int) ∧ Hid (Twin w0 l ns r ys hs wr ∧ ns.length ≤ k)) (fun i _ => m - (intOf i).toNat)
  case atStart => exact ⟨0, [], [], [], Nat.zero_le _, Nat.zero_le _, rfl, T0.out, Nat.le_refl _⟩
  case round =>
    clear T0
    obtain ⟨k, ns, ys, hs, hk, hk60, rfl, hT⟩ := hrel
    by_cases hlt : k < m ∧ k < 60
    · obtain ⟨hlt1, hlt2⟩ := hlt
      obtain ⟨b, off, rfl, _, _⟩ := H1.out.form opsKind_ok (by omega)
      obtain ⟨o, ho⟩ : ∃ o, es[k]? = some o := ⟨es[k], List.getElem?_eq_getElem (by omega)⟩
      have ll1 : (k : Int) < (m : Int) := by omega
      have ll2 : (k : Int) < 60 := by omega
      have ll0 : (0 : Int) ≤ (k : Int) := by omega
      have hmem := List.mem_of_getElem? ho
      have hbl := hT.out.1.bel
      have c0 : wr.cell? ⟨b, off + k * 8, none⟩ = some (.int .i64 o.what) := below_cell hbl (op_cells H1.out ho 0 _ rfl)
      have c1 : wr.cell? ⟨b, off + k * 8 + 1, none⟩ = some (.int .i64 o.h) := below_cell hbl (op_cells H1.out ho 1 _ rfl)
      have c2 : wr.cell? ⟨b, off + k * 8 + 2, none⟩ = some (.int .i64 o.n) := below_cell hbl (op_cells H1.out ho 2 _ rfl)
      have c3 : wr.cell? ⟨b, off + k * 8 + 3, none⟩ = some (.slice o.x.kp o.x.e.key.length o.x.kc) := below_cell hbl (op_cells H1.out ho 3 _ rfl)
      have c4 : wr.cell? ⟨b, off + k * 8 + 4, none⟩ = some (.int .i64 o.x.e.seq) := below_cell hbl (op_cells H1.out ho 4 _ rfl)
      have c5 : wr.cell? ⟨b, off + k * 8 + 5, none⟩ = some (.bool o.x.e.gone) := below_cell hbl (op_cells H1.out ho 5 _ rfl)
      have c6 : wr.cell? ⟨b, off + k * 8 + 6, none⟩ = some (.slice o.x.vp o.x.e.val.length o.x.vc) := below_cell hbl (op_cells H1.out ho 6 _ rfl)
      have c7 : wr.cell? ⟨b, off + k * 8 + 7, none⟩ = some (.slice o.tp o.to.length o.tc) := below_cell hbl (op_cells H1.out ho 7 _ rfl)
      have ST := keep (step_two w0 l r ns ys hs o wr hT.out.1 (by have := hT.out.2; omega) (H1.out.held o hmem) (HF.out o hmem))
      unfold opv Stepped at ST
      clear ho hmem hbl
      obtain ⟨owhat, oh, on, ⟨xkp, xkc, xvp, xvc, ⟨xkey, xseq, xgone, xval⟩⟩, otp, otc, oto⟩ := o
      simp only at ST c0 c1 c2 c3 c4 c5 c6 c7
      go_wp2_with fail
      refine ST.out.mono ?_
      rintro e w2 ⟨rfl, ns2, ys2, hs2, ht2, hl2⟩
      have T2 := keep ht2
      have L2 : Hid (ns2.length ≤ k + 1) := by have := hT.out.2; show _ ≤ _; omega
      clear ht2 hl2 ST c0 c1 c2 c3 c4 c5 c6 c7
      go_wp2
      go_roundw
      case rel => exact ⟨k + 1, ns2, ys2, hs2, by omega, by omega, by first | rfl | go_num, T2.out, L2.out⟩
      case measure => simp [intOf]; omega
    · by_cases h1 : k < m
      · have ll1 : (k : Int) < (m : Int) := by omega
        have ll2 : ¬ (k : Int) < 60 := by omega
        go_wp2
        go_ret
        exact ⟨l, r, ns, ys, hs, rfl, hT.out.1, by have := hT.out.2; omega⟩
      · have ll1 : ¬ (k : Int) < (m : Int) := by omega
        go_wp2
        go_ret
        exact ⟨l, r, ns, ys, hs, rfl, hT.out.1, by have := hT.out.2; omega⟩
set_option maxHeartbeats 4000000 in
set_option maxRecDepth 100000 in
theorem counts_walk (ao : Option Addr) (m c : Nat) (es : List OpS) (w : World) (hs : RSrc opsKind w ao m c es) (hfit : ∀ o ∈ es, o.fits) :
    Calls Try.prog 8 #[.slice ao m c] w fun e w' => e = .returned (.bool true) ∧ Below w.heap.size w w' := by
  have H1 := keep hs
  have HF := keep hfit
  have AW := keep (awake_any w)
  clear hs hfit
  go_enter Try.func8, Try.ntmps8
  go_wp2_with fail
  refine AW.out.mono ?_
  rintro e w1 ⟨rfl, hb1⟩
  have B1 := keep hb1
  clear hb1 AW
  go_wp2_with fail
  refine (filled_any w ao m c es w1 B1.out H1.out HF.out).mono ?_
  rintro e w2 ⟨l, r, ns, ys, hs, rfl, hT, hl⟩
  have TW := keep hT
  have AL := keep (all_mem l ns w2 hT.one.mem (by omega))
  clear hT
  go_wp2_with fail
  refine AL.out.mono ?_
  rintro e w3 ⟨v, zs, rfl, hE, hz, hb3⟩
  obtain ⟨av, cv, rfl, hR, _⟩ := RSrc.own entKind_ok hE.row (fun z hz => (hE.each z hz).held)
  have SRC := keep hR
  have T3 := keep (TW.out.below hb3)
  have hzl : zs.length = ns.length := by
    have := congrArg List.length hz
    simpa using this
  have HZ : Hid (zs.map (·.e) = ents ns) := hz
  have MAY : Hid (∀ y ∈ zs, y.e.key.length ≤ 64 ∧ y.e.val.length ≤ 1024) := fun y hy => by
    have h1 : y.e ∈ ents ns := by rw [← HZ.out]; exact List.mem_map_of_mem hy
    obtain ⟨n, hn, he⟩ := List.mem_map.1 h1
    rw [← he]
    exact T3.out.one.mem.short n hn
  have SZ : Hid (∀ k, Sk.size ((zs.map (·.e)).take k) ≤ 1096000000) := fun k => by
    refine Nat.le_trans (size_le (fun e he => ?_)) ?_
    · obtain ⟨y, hy, rfl⟩ := List.mem_map.1 (List.mem_of_mem_take he)
      exact MAY.out y hy
    · rw [List.length_take, List.length_map]; omega
  have FULL : Hid ((zs.map (·.e)).take zs.length = zs.map (·.e)) := List.take_of_length_le (by simp)
  have CT := T3.out.one.count
  have SI := T3.out.one.size
  clear hE hz hb3 hR AL
  obtain ⟨N, hN⟩ : ∃ N, zs.length = N := ⟨_, rfl⟩
  have HN := keep hN
  have hNn : ns.length = N := by omega
  rw [hNn] at CT
  rw [hN] at SRC FULL ⊢
  have hN60 : N ≤ 60 := by omega
  have HCT := keep CT
  have HSI := keep SI
  clear hN hNn hzl hl CT SI
  go_wp2
  go_loopw [5, 7] (fun n i wr => ∃ k : Nat, k ≤ N ∧ n = .int .i64 ((Sk.size ((zs.map (·.e)).take k) : Nat) : Int) ∧ i = .int .i64 (k : Int) ∧ Hid (Below w3.heap.size w3 wr)) (fun _ i _ => N - (intOf i).toNat)
  case atStart => exact ⟨0, Nat.zero_le _, by simp [Sk.size], rfl, Below.refl _ _⟩
  case round =>
    obtain ⟨k, hk, rfl, rfl, hB⟩ := hrel
    by_cases hkn : k < N
    · obtain ⟨b, off, rfl, _, _⟩ := SRC.out.form entKind_ok (by omega)
      obtain ⟨y, hy⟩ : ∃ y, zs[k]? = some y := ⟨zs[k]'(by rw [HN.out]; exact hkn), List.getElem?_eq_getElem _⟩
      obtain ⟨p0, p1, p2, p3⟩ := ent_cells (SRC.out.below entKind_ok hB.out) hy
      have hym := MAY.out y (List.mem_of_getElem? hy)
      have MORE := keep (size_more (l := zs.map (·.e)) (k := k) (e := y.e) (by rw [List.getElem?_map, hy]; rfl))
      have hsz := SZ.out k
      obtain ⟨ykp, ykc, yvp, yvc, ⟨ykey, yseq, ygone, yval⟩⟩ := y
      simp only at p0 p1 p2 p3 hym MORE
      obtain ⟨z, hz⟩ : ∃ z, Sk.size ((zs.map (·.e)).take k) = z := ⟨_, rfl⟩
      rw [hz] at MORE hsz ⊢
      obtain ⟨yk, hyk⟩ : ∃ yk, ykey.length = yk := ⟨_, rfl⟩
      obtain ⟨yl, hyl⟩ : ∃ yl, yval.length = yl := ⟨_, rfl⟩
      rw [hyk] at p0 hym MORE
      rw [hyl] at p3 hym MORE
      clear hy hz hyk hyl
      have i0 : (0 : Int) ≤ (k : Int) := by omega
      have ll : (k : Int) < (N : Int) := by omega
      go_wp2_with fail
      go_quiet (fail)
      go_wp2
      go_roundw
      case rel => exact ⟨k + 1, by omega, by rw [MORE.out]; go_num, by go_num, hB.out.trans ((below_drewN (Below.refl _ _) _).mono hB.out.size)⟩
      case measure => simp [intOf]; omega
    · obtain rfl : k = N := by omega
      have ll : ¬ (k : Int) < (k : Int) := by omega
      have CN := keep (count_any l (k : Int) wr (below_cell hB.out HCT.out))
      have SN := keep (size_any l _ wr (below_cell hB.out HSI.out))
      have hsame : Sk.size ((zs.map (·.e)).take k) = Sk.size (ents ns) := by rw [FULL.out, HZ.out]
      rw [hsame]
      have BW := keep (T3.out.bel.trans (hB.out.mono T3.out.bel.size))
      clear hsame
      obtain ⟨z, hz⟩ : ∃ z, Sk.size (ents ns) = z := ⟨_, rfl⟩
      rw [hz] at SN ⊢
      clear hz
      go_wp2_with fail
      refine CN.out.mono ?_
      rintro e w4 ⟨rfl, rfl⟩
      go_wp2_with fail
      refine SN.out.mono ?_
      rintro e w5 ⟨rfl, rfl⟩
      go_wp2
      go_ret
      exact ⟨by simp, BW.out⟩
end Go.Proofs.Ytlhblbaingojaaa
namespace Go.Proofs.Ytlhblbaingojaaa
open Go.RowKit
open Sk (Ent)

set_option maxHeartbeats 1000000 in
set_option maxRecDepth 100000 in
theorem ncount (w : World) : Calls Try.prog 14 #[.pointer none] w fun e w' => e = .returned (.int .i64 0) ∧ w' = w := by
  go_enter Try.func14, Try.ntmps14
  go_wp2
  go_ret
  exact ⟨rfl, rfl⟩
set_option maxHeartbeats 1000000 in
set_option maxRecDepth 100000 in
theorem nsize (w : World) : Calls Try.prog 15 #[.pointer none] w fun e w' => e = .returned (.int .i64 0) ∧ w' = w := by
  go_enter Try.func15, Try.ntmps15
  go_wp2
  go_ret
  exact ⟨rfl, rfl⟩
set_option maxHeartbeats 1000000 in
set_option maxRecDepth 100000 in
theorem nlevel (z : Int) (w : World) : Calls Try.prog 22 #[.pointer none, .int .i64 z] w fun e w' => e = .returned (.slice none 0 0) ∧ w' = w := by
  go_enter Try.func22, Try.ntmps22
  go_wp2
  go_ret
  exact ⟨rfl, rfl⟩
set_option maxHeartbeats 1000000 in
set_option maxRecDepth 100000 in
theorem nall (w : World) : Calls Try.prog 18 #[.pointer none] w fun e w' => e = .returned (.slice none 0 0) ∧ w' = w := by
  have LV := keep (nlevel 1 w)
  go_enter Try.func18, Try.ntmps18
  go_wp2_with fail
  refine LV.out.mono ?_
  rintro e w1 ⟨rfl, rfl⟩
  go_wp2
  go_ret
  exact ⟨rfl, rfl⟩
set_option maxHeartbeats 1000000 in
set_option maxRecDepth 100000 in
theorem nfirst (f : Value) (w : World) : Calls Try.prog 32 #[.pointer none, f] w fun e w' => e = .returned (.pointer none) ∧ w' = w := by
  go_enter Try.func32, Try.ntmps32
  go_wp2
  go_ret
  exact ⟨rfl, rfl⟩
set_option maxHeartbeats 1000000 in
set_option maxRecDepth 100000 in
theorem nput (kp : Option Addr) (K kc : Nat) (seq : Int) (gone : Bool) (vp : Option Addr) (V vc : Nat) (hgt : Int) (w : World) : Calls Try.prog 20 #[.pointer none, .agg #[.slice kp K kc, .int .i64 seq, .bool gone, .slice vp V vc], .int .i64 hgt] w fun e w' => e = .returned (.int .i64 1) ∧ Below w.heap.size w w' := by
  obtain ⟨W1, hW1⟩ : ∃ W1, w.alloc (.cells #[.slice kp K kc, .int .i64 seq, .bool gone, .slice vp V vc] 34) = W1 := ⟨_, rfl⟩
  have b1 : Hid (Below w.heap.size w W1) := by rw [← hW1]; exact (Below.refl _ _).alloc (Nat.le_refl _) _
  go_enter Try.func20, Try.ntmps20
  go_wp2
  go_ret
  exact ⟨rfl, b1.out⟩
set_option maxHeartbeats 1000000 in
set_option maxRecDepth 100000 in
theorem nscan (fp : Option Addr) (F fc : Nat) (tp : Option Addr) (T tc : Nat) (s : Int) (w : World) : Calls Try.prog 21 #[.pointer none, .slice fp F fc, .slice tp T tc, .int .i64 s] w fun e w' => e = .returned (.slice none 0 0) ∧ Below w.heap.size w w' := by
  obtain ⟨W1, hW1⟩ : ∃ W1, w.alloc (.cells #[.slice fp F fc] 32) = W1 := ⟨_, rfl⟩
  have b1 : Hid (Below w.heap.size w W1) := by rw [← hW1]; exact (Below.refl _ _).alloc (Nat.le_refl _) _
  go_enter Try.func21, Try.ntmps21
  go_wp2_with fail
  refine (nfirst _ _).mono ?_
  rintro e w2 ⟨rfl, rfl⟩
  clear hW1
  go_wp2
  go_loopg [9, 10] 0 (fun g v p wr => v = .slice none 0 0 ∧ p = .pointer none ∧ Hid (Below w.heap.size w wr))
  case atStart => exact ⟨rfl, rfl, b1.out⟩
  case round =>
    obtain ⟨rfl, rfl, hB⟩ := hrel
    go_wp2
    go_ret
    exact ⟨rfl, hB.out⟩
set_option maxHeartbeats 2000000 in
set_option maxRecDepth 100000 in
theorem nget (kp : Option Addr) (K kc : Nat) (s : Int) (w : World) : Calls Try.prog 19 #[.pointer none, .slice kp K kc, .int .i64 s] w fun e w' => e = .returned (.tuple #[ev evZ, .bool false]) ∧ Below w.heap.size w w' := by
  obtain ⟨W1, hW1⟩ : ∃ W1, w.alloc (.cells #[.slice none 0 0, .int .i64 0, .bool false, .slice none 0 0] 34) = W1 := ⟨_, rfl⟩
  have b1 : Hid (Below w.heap.size w W1) := by rw [← hW1]; exact (Below.refl _ _).alloc (Nat.le_refl _) _
  have g1 : Hid (W1.heap[w.heap.size]? = some (.cells #[.slice none 0 0, .int .i64 0, .bool false, .slice none 0 0] 34)) := by rw [← hW1]; exact heap_alloc_new w _
  have AO := keep (aheadOf_any kp K kc s W1)
  go_enter Try.func19, Try.ntmps19
  go_wp2_with fail
  refine AO.out.mono ?_
  rintro e w2 ⟨rfl, hw2⟩
  have B2 : Hid (Below W1.heap.size W1 w2) := by rw [hw2]; exact ((Below.refl _ _).alloc (Nat.le_refl _) _).alloc (by simp) _
  clear hw2 AO
  go_wp2_with fail
  refine (nfirst _ _).mono ?_
  rintro e w3 ⟨rfl, rfl⟩
  have G3 : Hid (w3.heap[w.heap.size]? = some (.cells #[.slice none 0 0, .int .i64 0, .bool false, .slice none 0 0] 34)) := (B2.out.block _ (by rw [← hW1]; simp)).trans g1.out
  have BL := keep (b1.out.trans (B2.out.mono b1.out.size))
  have r0 : w3.cell? ⟨w.heap.size, 0, none⟩ = some (.slice none 0 0) := cell_of_row _ _ _ _ _ _ G3.out
  have r1 : w3.cell? ⟨w.heap.size, 1, none⟩ = some (.int .i64 0) := cell_of_row _ _ _ _ _ _ G3.out
  have r2 : w3.cell? ⟨w.heap.size, 2, none⟩ = some (.bool false) := cell_of_row _ _ _ _ _ _ G3.out
  have r3 : w3.cell? ⟨w.heap.size, 3, none⟩ = some (.slice none 0 0) := cell_of_row _ _ _ _ _ _ G3.out
  have f0 : w3.frozen? ⟨w.heap.size, 0, none⟩ = false := by simp [World.frozen?, G3.out]
  have f1 : w3.frozen? ⟨w.heap.size, 1, none⟩ = false := by simp [World.frozen?, G3.out]
  have f2 : w3.frozen? ⟨w.heap.size, 2, none⟩ = false := by simp [World.frozen?, G3.out]
  have f3 : w3.frozen? ⟨w.heap.size, 3, none⟩ = false := by simp [World.frozen?, G3.out]
  clear hW1
  go_wp2
  refine ⟨rfl, .tuple #[ev evZ, .bool false], ?_, rfl, ?_⟩
  · have s0 : (w3.setCell ⟨w.heap.size, 0, none⟩ (.slice none 0 0)).cell? ⟨w.heap.size, 0, none⟩ = some (.slice none 0 0) := World.cell?_setCell_same' _ _ _ (by simp [go_sem, r0])
    have s1 : ((w3.setCell ⟨w.heap.size, 0, none⟩ (.slice none 0 0)).setCell ⟨w.heap.size, 1, none⟩ (.int .i64 0)).cell? ⟨w.heap.size, 1, none⟩ = some (.int .i64 0) := World.cell?_setCell_same' _ _ _ (by simp [go_sem, r1])
    have s2 : (((w3.setCell ⟨w.heap.size, 0, none⟩ (.slice none 0 0)).setCell ⟨w.heap.size, 1, none⟩ (.int .i64 0)).setCell ⟨w.heap.size, 2, none⟩ (.bool false)).cell? ⟨w.heap.size, 2, none⟩ = some (.bool false) := World.cell?_setCell_same' _ _ _ (by simp [go_sem, r2])
    have s3 : ((((w3.setCell ⟨w.heap.size, 0, none⟩ (.slice none 0 0)).setCell ⟨w.heap.size, 1, none⟩ (.int .i64 0)).setCell ⟨w.heap.size, 2, none⟩ (.bool false)).setCell ⟨w.heap.size, 3, none⟩ (.slice none 0 0)).cell? ⟨w.heap.size, 3, none⟩ = some (.slice none 0 0) := World.cell?_setCell_same' _ _ _ (by simp [go_sem, r3])
    simp [results, Try.f19, go_sem, loadCells, loadCellsFrom, s0, s1, s2, s3, ev, evZ]
  · exact ((((BL.out.setCell (p := ⟨w.heap.size, 0, none⟩) (Nat.le_refl _) _).setCell (p := ⟨w.heap.size, 1, none⟩) (Nat.le_refl _) _).setCell (p := ⟨w.heap.size, 2, none⟩) (Nat.le_refl _) _).setCell (p := ⟨w.heap.size, 3, none⟩) (Nat.le_refl _) _)
end Go.Proofs.Ytlhblbaingojaaa
namespace Go.Proofs.Ytlhblbaingojaaa
open Go.RowKit
open Sk (Ent)

/-- A walk under a narrower condition is one under a wider. -/
theorem wpAnyH_narrow {P : Program} {md : Region.Mode} {ops : Array Oper} {Q : Exit → Act → World → Prop} {S1 S2 : World → Prop} (h12 : ∀ w, S2 w → S1 w) : ∀ (fuel : Nat) (listed : Array Bool) (a : Act) (w : World), wpAnyH P md ops Q S2 fuel listed a w → wpAnyH P md ops Q S1 fuel listed a w
  | 0, _, _, _, h => h
  | fuel + 1, _, _, _, h => ⟨h.1, fun i hi => wpOp_mono (fun a' w' h' => ⟨h12 w' h'.1, wpAnyH_narrow h12 fuel _ a' w' h'.2⟩) (h.2 i hi)⟩
set_option maxHeartbeats 4000000 in
set_option maxRecDepth 100000 in
theorem plays_walk (ao : Option Addr) (m c : Nat) (es : List OpS) (w : World) (hs : RSrc opsKind w ao m c es) (hfit : ∀ o ∈ es, o.fits) :
    Calls Try.prog 3 #[.slice ao m c] w fun e w' => e = .returned (.bool true) ∧ Below w.heap.size w w' := by
  have H1 := keep hs
  have HF := keep hfit
  have hm := hs.len
  have AW := keep (awake_any w)
  clear hs hfit
  go_enter Try.func3, Try.ntmps3
  go_wp2_with fail
  refine AW.out.mono ?_
  rintro e w1 ⟨rfl, hb1⟩
  have T0 := keep (twin_new w w1 hb1)
  clear hb1 AW
  go_wp2_with fail
  refine (new_raw w1).mono ?_
  rintro e w2 ⟨rfl, hw2⟩
  rw [← hw2] at T0
  obtain ⟨W3, hW3⟩ : ∃ W3, w2.alloc (.cells #[.slice none 0 0, .slice none 0 0] 30) = W3 := ⟨_, rfl⟩
  rw [hW3] at T0
  obtain ⟨l, hl⟩ : ∃ l, w1.heap.size = l := ⟨_, rfl⟩
  obtain ⟨r, hr⟩ : ∃ r, w2.heap.size = r := ⟨_, rfl⟩
  rw [hl, hr] at T0
  rw [hl]
  clear hw2 hl
  go_wp2
  clear hW3 hr
  go_loopw [6] (fun i wr => ∃ (k : Nat) (ns : List Nd) (ys : List EV) (hs : List Int), k ≤ m ∧ k ≤ 100 ∧ i = .int .i64 (k : Int) ∧ Hid (Twin w l ns r ys hs wr ∧ ns.length ≤ k)) (fun i _ => m - (intOf i).toNat)
  case atStart => exact ⟨0, [], [], [], Nat.zero_le _, Nat.zero_le _, rfl, T0.out, Nat.le_refl _⟩
  case round =>
    clear T0
    obtain ⟨k, ns, ys, hs, hk, hk60, rfl, hT⟩ := hrel
    by_cases hlt : k < m ∧ k < 100
    · obtain ⟨hlt1, hlt2⟩ := hlt
      obtain ⟨b, off, rfl, _, _⟩ := H1.out.form opsKind_ok (by omega)
      obtain ⟨o, ho⟩ : ∃ o, es[k]? = some o := ⟨es[k], List.getElem?_eq_getElem (by omega)⟩
      have ll1 : (k : Int) < (m : Int) := by omega
      have ll2 : (k : Int) < 100 := by omega
      have ll0 : (0 : Int) ≤ (k : Int) := by omega
      have hmem := List.mem_of_getElem? ho
      have hbl := keep hT.out.1.bel
      have CO : Hid (∀ w', Below w.heap.size w w' → w'.cell? ⟨b, off + k * 8, none⟩ = some (.int .i64 o.what) ∧ w'.cell? ⟨b, off + k * 8 + 1, none⟩ = some (.int .i64 o.h) ∧ w'.cell? ⟨b, off + k * 8 + 2, none⟩ = some (.int .i64 o.n) ∧ w'.cell? ⟨b, off + k * 8 + 3, none⟩ = some (.slice o.x.kp o.x.e.key.length o.x.kc) ∧ w'.cell? ⟨b, off + k * 8 + 4, none⟩ = some (.int .i64 o.x.e.seq) ∧ w'.cell? ⟨b, off + k * 8 + 5, none⟩ = some (.bool o.x.e.gone) ∧ w'.cell? ⟨b, off + k * 8 + 6, none⟩ = some (.slice o.x.vp o.x.e.val.length o.x.vc) ∧ w'.cell? ⟨b, off + k * 8 + 7, none⟩ = some (.slice o.tp o.to.length o.tc)) := fun w' hb => ⟨below_cell hb (op_cells H1.out ho 0 _ rfl), below_cell hb (op_cells H1.out ho 1 _ rfl), below_cell hb (op_cells H1.out ho 2 _ rfl), below_cell hb (op_cells H1.out ho 3 _ rfl), below_cell hb (op_cells H1.out ho 4 _ rfl), below_cell hb (op_cells H1.out ho 5 _ rfl), below_cell hb (op_cells H1.out ho 6 _ rfl), below_cell hb (op_cells H1.out ho 7 _ rfl)⟩
      have ST := keep (fun w' (hT' : Twin w l ns r ys hs w') => step_two w l r ns ys hs o w' hT' (by have := hT.out.2; omega) (H1.out.held o hmem) (HF.out o hmem))
      have CK := keep (fun w' => check_any o.x w' (by have := (HF.out o hmem).1; omega) (by have := (HF.out o hmem).2.1; omega))
      have RC := keep (fun w' => rcheck_any o.x w' (by have := (HF.out o hmem).1; omega) (by have := (HF.out o hmem).2.1; omega))
      obtain ⟨z, hz⟩ : ∃ z, chk o.x.e = z := ⟨_, rfl⟩
      rw [hz] at CK RC
      clear ho hmem hz
      unfold opv Stepped at ST
      unfold ev at CK RC
      obtain ⟨owhat, oh, on, ⟨xkp, xkc, xvp, xvc, ⟨xkey, xseq, xgone, xval⟩⟩, otp, otc, oto⟩ := o
      simp only at ST CK RC CO
      go_wp2_with fail
      refine wp_region_held_drew (S := fun w' => Below w.heap.size w w') (by kernel_rfl) (hbl.out.drew) (fun hHeld => ?_)
      refine takeH (i := 0) 30 (v := .pointer (some ⟨l, 0, none⟩)) rfl rfl (by kernel_rfl) (by kernel_rfl) (by kernel_rfl) (fun _ _ _ h => h) (Or.inl ⟨by rfl, ?_⟩) (by assumption) ?_
      · intro w' hSw'
        go_simp
      simp only [Act.put, List.setIfInBounds_toArray, List.set_cons_zero, List.set_cons_succ]
      refine takeH (i := 1) 31 (v := .pointer (some ⟨r, 0, none⟩)) rfl rfl (by kernel_rfl) (by kernel_rfl) (by kernel_rfl) (fun _ _ _ h => h) (Or.inl ⟨by rfl, ?_⟩) (by assumption) ?_
      · intro w' hSw'
        go_simp
      simp only [Act.put, List.setIfInBounds_toArray, List.set_cons_zero, List.set_cons_succ]
      refine takeH (i := 2) 32 (v := .slice (some ⟨b, off, none⟩) m c) rfl rfl (by kernel_rfl) (by kernel_rfl) (by kernel_rfl) (fun _ _ _ h => h) (Or.inl ⟨by rfl, ?_⟩) (by assumption) ?_
      · intro w' hSw'
        go_simp
      simp only [Act.put, List.setIfInBounds_toArray, List.set_cons_zero, List.set_cons_succ]
      refine takeH (i := 3) 33 (v := .int .i64 (k : Int)) rfl rfl (by kernel_rfl) (by kernel_rfl) (by kernel_rfl) (fun _ _ _ h => h) (Or.inl ⟨by rfl, ?_⟩) (by assumption) ?_
      · intro w' hSw'
        go_simp
      simp only [Act.put, List.setIfInBounds_toArray, List.set_cons_zero, List.set_cons_succ]
      refine takeH (i := 4) 34 (v := .pointer (some ⟨b, off + k * 8, none⟩)) rfl rfl (by kernel_rfl) (by kernel_rfl) (by kernel_rfl) (fun _ _ _ h => h) (Or.inl ⟨by rfl, ?_⟩) (by assumption) ?_
      · intro w' hSw'
        go_simp
      simp only [Act.put, List.setIfInBounds_toArray, List.set_cons_zero, List.set_cons_succ]
      refine takeH (i := 5) 35 (v := .agg #[.int .i64 owhat, .int .i64 oh, .int .i64 on, .slice xkp xkey.length xkc, .int .i64 xseq, .bool xgone, .slice xvp xval.length xvc, .slice otp oto.length otc]) rfl rfl (by kernel_rfl) (by kernel_rfl) (by kernel_rfl) (fun _ _ _ h => h) (Or.inl ⟨by rfl, ?_⟩) (by assumption) ?_
      · intro w' hSw'
        obtain ⟨d0, d1, d2, d3, d4, d5, d6, d7⟩ := CO.out w' hSw'
        go_simp
      simp only [Act.put, List.setIfInBounds_toArray, List.set_cons_zero, List.set_cons_succ]
      refine wpAnyH_ready (rs := [6]) (by kernel_rfl) (by simp) ?_
      refine AllReadyH.cons rfl (fun K hK => ?_) AllReadyH.nil
      go_simp
      refine (ST.out _ (hT.out.1.below (Below.refl _ _).drew)).mono ?_
      rintro e w2 ⟨rfl, ns2, ys2, hs2, ht2, hl2⟩
      have T2 := keep ht2
      have L2 : Hid (ns2.length ≤ k + 1) := by have := hT.out.2; show _ ≤ _; omega
      have B2 := keep ht2.bel
      clear hl2 ST
      go_wp2_with fail
      refine hK.out _ _ (B2.out) (fun hHeld1 => ?_)
      clear hK K
      have hlen2 := ht2.len
      have hents := ht2.ents
      obtain ⟨aL, cL, vH, hrow, hsrc, _, _⟩ := ht2.two.src
      clear ht2 hHeld1
      have hL2 := L2.out
      obtain ⟨N, hN⟩ : ∃ N, ys2.length = N := ⟨_, rfl⟩
      have HN := keep hN
      have hNn : ns2.length = N := by omega
      have HNn := keep hNn
      rw [hN] at hrow hsrc
      have LC : Hid (∀ w', Below w2.heap.size w2 w' → w'.cell? ⟨r, 0, none⟩ = some (.slice aL N cL)) := fun w' hb => below_cell hb (cell_of_row _ _ _ _ _ _ hrow)
      have SR := keep hsrc
      have CN := keep (fun w' (hb : Below w2.heap.size w2 w') => count_any l _ w' (below_cell hb T2.out.one.count))
      have SN := keep (fun w' (hb : Below w2.heap.size w2 w') => size_any l _ w' (below_cell hb T2.out.one.size))
      have RS := keep (fun w' (hb : Below w2.heap.size w2 w') => rsize_any w.heap.size r ys2 hs2 w' (T2.out.below hb).two (by omega))
      rw [hNn] at CN
      rw [hents] at SN
      obtain ⟨Z, hZ⟩ : ∃ Z, Sk.size (ys2.map (·.e)) = Z := ⟨_, rfl⟩
      rw [hZ] at SN RS
      have AL := keep (fun w' (hb : Below w2.heap.size w2 w') => all_mem l ns2 w' (T2.out.below hb).one.mem (by omega))
      have HE := keep hents
      clear hrow hsrc hents hZ hN
      refine wpAnyH_narrow (S2 := fun w' => Below w2.heap.size w2 w') (fun w' hb => B2.out.trans (hb.mono B2.out.size)) _ _ _ _ ?_
      have hHeld2 : (fun w' => Below w2.heap.size w2 w') w2 := Below.refl _ _
      refine takeH (i := 7) 37 (v := .bool false) rfl rfl (by kernel_rfl) (by kernel_rfl) (by kernel_rfl) (fun _ _ _ h => h) (Or.inl ⟨by rfl, ?_⟩) (by assumption) ?_
      · intro w' hSw'
        go_simp
      simp only [Act.put, List.setIfInBounds_toArray, List.set_cons_zero, List.set_cons_succ]
      refine takeH (i := 8) 38 (v := .bool false) rfl rfl (by kernel_rfl) (by kernel_rfl) (by kernel_rfl) (fun _ _ _ h => h) (Or.inl ⟨by rfl, ?_⟩) (by assumption) ?_
      · intro w' hSw'
        go_simp
      simp only [Act.put, List.setIfInBounds_toArray, List.set_cons_zero, List.set_cons_succ]
      refine takeH (i := 9) 39 (v := .slice (some ⟨b, off, none⟩) m c) rfl rfl (by kernel_rfl) (by kernel_rfl) (by kernel_rfl) (fun _ _ _ h => h) (Or.inl ⟨by rfl, ?_⟩) (by assumption) ?_
      · intro w' hSw'
        go_simp
      simp only [Act.put, List.setIfInBounds_toArray, List.set_cons_zero, List.set_cons_succ]
      refine takeH (i := 10) 40 (v := .int .i64 (k : Int)) rfl rfl (by kernel_rfl) (by kernel_rfl) (by kernel_rfl) (fun _ _ _ h => h) (Or.inl ⟨by rfl, ?_⟩) (by assumption) ?_
      · intro w' hSw'
        go_simp
      simp only [Act.put, List.setIfInBounds_toArray, List.set_cons_zero, List.set_cons_succ]
      refine takeH (i := 11) 41 (v := .pointer (some ⟨b, off + k * 8, none⟩)) rfl rfl (by kernel_rfl) (by kernel_rfl) (by kernel_rfl) (fun _ _ _ h => h) (Or.inl ⟨by rfl, ?_⟩) (by assumption) ?_
      · intro w' hSw'
        go_simp
      simp only [Act.put, List.setIfInBounds_toArray, List.set_cons_zero, List.set_cons_succ]
      refine takeH (i := 12) 42 (v := .pointer (some ⟨b, off + k * 8 + 3, none⟩)) rfl rfl (by kernel_rfl) (by kernel_rfl) (by kernel_rfl) (fun _ _ _ h => h) (Or.inl ⟨by rfl, ?_⟩) (by assumption) ?_
      · intro w' hSw'
        go_simp
      simp only [Act.put, List.setIfInBounds_toArray, List.set_cons_zero, List.set_cons_succ]
      refine takeH (i := 13) 43 (v := .agg #[.slice xkp xkey.length xkc, .int .i64 xseq, .bool xgone, .slice xvp xval.length xvc]) rfl rfl (by kernel_rfl) (by kernel_rfl) (by kernel_rfl) (fun _ _ _ h => h) (Or.inl ⟨by rfl, ?_⟩) (by assumption) ?_
      · intro w' hSw'
        obtain ⟨d0, d1, d2, d3, d4, d5, d6, d7⟩ := CO.out w' (B2.out.trans (hSw'.mono B2.out.size))
        go_simp
      simp only [Act.put, List.setIfInBounds_toArray, List.set_cons_zero, List.set_cons_succ]
      refine takeH (i := 15) 45 (v := .slice (some ⟨b, off, none⟩) m c) rfl rfl (by kernel_rfl) (by kernel_rfl) (by kernel_rfl) (fun _ _ _ h => h) (Or.inl ⟨by rfl, ?_⟩) (by assumption) ?_
      · intro w' hSw'
        go_simp
      simp only [Act.put, List.setIfInBounds_toArray, List.set_cons_zero, List.set_cons_succ]
      refine takeH (i := 16) 46 (v := .int .i64 (k : Int)) rfl rfl (by kernel_rfl) (by kernel_rfl) (by kernel_rfl) (fun _ _ _ h => h) (Or.inl ⟨by rfl, ?_⟩) (by assumption) ?_
      · intro w' hSw'
        go_simp
      simp only [Act.put, List.setIfInBounds_toArray, List.set_cons_zero, List.set_cons_succ]
      refine takeH (i := 17) 47 (v := .pointer (some ⟨b, off + k * 8, none⟩)) rfl rfl (by kernel_rfl) (by kernel_rfl) (by kernel_rfl) (fun _ _ _ h => h) (Or.inl ⟨by rfl, ?_⟩) (by assumption) ?_
      · intro w' hSw'
        go_simp
      simp only [Act.put, List.setIfInBounds_toArray, List.set_cons_zero, List.set_cons_succ]
      refine takeH (i := 18) 48 (v := .pointer (some ⟨b, off + k * 8 + 3, none⟩)) rfl rfl (by kernel_rfl) (by kernel_rfl) (by kernel_rfl) (fun _ _ _ h => h) (Or.inl ⟨by rfl, ?_⟩) (by assumption) ?_
      · intro w' hSw'
        go_simp
      simp only [Act.put, List.setIfInBounds_toArray, List.set_cons_zero, List.set_cons_succ]
      refine takeH (i := 19) 49 (v := .agg #[.slice xkp xkey.length xkc, .int .i64 xseq, .bool xgone, .slice xvp xval.length xvc]) rfl rfl (by kernel_rfl) (by kernel_rfl) (by kernel_rfl) (fun _ _ _ h => h) (Or.inl ⟨by rfl, ?_⟩) (by assumption) ?_
      · intro w' hSw'
        obtain ⟨d0, d1, d2, d3, d4, d5, d6, d7⟩ := CO.out w' (B2.out.trans (hSw'.mono B2.out.size))
        go_simp
      simp only [Act.put, List.setIfInBounds_toArray, List.set_cons_zero, List.set_cons_succ]
      refine wpAnyH_ready (rs := [14]) (by kernel_rfl) (by simp) ?_
      refine AllReadyH.cons rfl (fun K hK => ?_) AllReadyH.nil
      go_simp
      refine (CK.out _).mono ?_
      rintro e w3 ⟨rfl, hb3⟩
      have B3 := keep hb3
      clear hb3
      go_wp2_with fail
      refine hK.out _ _ (B3.out) (fun hHeld3 => ?_)
      clear hK K
      refine wpAnyH_ready (rs := [20]) (by kernel_rfl) (by simp) ?_
      refine AllReadyH.cons rfl (fun K hK => ?_) AllReadyH.nil
      go_simp
      refine (RC.out _).mono ?_
      rintro e w4 ⟨rfl, hb4⟩
      have B4 := keep (B3.out.trans (hb4.mono B3.out.size))
      clear hb4
      go_wp2_with fail
      refine hK.out _ _ (B4.out) (fun hHeld4 => ?_)
      clear hK K
      refine takeH (i := 21) 51 (v := .bool false) rfl rfl (by kernel_rfl) (by kernel_rfl) (by kernel_rfl) (fun _ _ _ h => h) (Or.inl ⟨by rfl, ?_⟩) (by assumption) ?_
      · intro w' hSw'
        go_simp
      simp only [Act.put, List.setIfInBounds_toArray, List.set_cons_zero, List.set_cons_succ]
      refine takeH (i := 0x16) 52 (v := .bool false) rfl rfl (by kernel_rfl) (by kernel_rfl) (by kernel_rfl) (fun _ _ _ h => h) (Or.inl ⟨by rfl, ?_⟩) (by assumption) ?_
      · intro w' hSw'
        go_simp
      simp only [Act.put, List.setIfInBounds_toArray, List.set_cons_zero, List.set_cons_succ]
      refine takeH (i := 23) 53 (v := .bool false) rfl rfl (by kernel_rfl) (by kernel_rfl) (by kernel_rfl) (fun _ _ _ h => h) (Or.inl ⟨by rfl, ?_⟩) (by assumption) ?_
      · intro w' hSw'
        go_simp
      simp only [Act.put, List.setIfInBounds_toArray, List.set_cons_zero, List.set_cons_succ]
      refine takeH (i := 24) 54 (v := .pointer (some ⟨l, 0, none⟩)) rfl rfl (by kernel_rfl) (by kernel_rfl) (by kernel_rfl) (fun _ _ _ h => h) (Or.inl ⟨by rfl, ?_⟩) (by assumption) ?_
      · intro w' hSw'
        go_simp
      simp only [Act.put, List.setIfInBounds_toArray, List.set_cons_zero, List.set_cons_succ]
      refine takeH (i := 26) 56 (v := .pointer (some ⟨r, 0, none⟩)) rfl rfl (by kernel_rfl) (by kernel_rfl) (by kernel_rfl) (fun _ _ _ h => h) (Or.inl ⟨by rfl, ?_⟩) (by assumption) ?_
      · intro w' hSw'
        go_simp
      simp only [Act.put, List.setIfInBounds_toArray, List.set_cons_zero, List.set_cons_succ]
      refine takeH (i := 27) 57 (v := .pointer (some ⟨r, 0, none⟩)) rfl rfl (by kernel_rfl) (by kernel_rfl) (by kernel_rfl) (fun _ _ _ h => h) (Or.inl ⟨by rfl, ?_⟩) (by assumption) ?_
      · intro w' hSw'
        go_simp
      simp only [Act.put, List.setIfInBounds_toArray, List.set_cons_zero, List.set_cons_succ]
      refine takeH (i := 28) 58 (v := .pointer (some ⟨r, 0, none⟩)) rfl rfl (by kernel_rfl) (by kernel_rfl) (by kernel_rfl) (fun _ _ _ h => h) (Or.inl ⟨by rfl, ?_⟩) (by assumption) ?_
      · intro w' hSw'
        go_simp
      simp only [Act.put, List.setIfInBounds_toArray, List.set_cons_zero, List.set_cons_succ]
      refine takeH (i := 29) 59 (v := .slice aL N cL) rfl rfl (by kernel_rfl) (by kernel_rfl) (by kernel_rfl) (fun _ _ _ h => h) (Or.inl ⟨by rfl, ?_⟩) (by assumption) ?_
      · intro w' hSw'
        have dr := LC.out w' hSw'
        go_simp
      simp only [Act.put, List.setIfInBounds_toArray, List.set_cons_zero, List.set_cons_succ]
      refine takeH (i := 30) 60 (v := .int .i64 (N : Int)) rfl rfl (by kernel_rfl) (by kernel_rfl) (by kernel_rfl) (fun _ _ _ h => h) (Or.inl ⟨by rfl, ?_⟩) (by assumption) ?_
      · intro w' hSw'
        go_simp
      simp only [Act.put, List.setIfInBounds_toArray, List.set_cons_zero, List.set_cons_succ]
      refine wpAnyH_ready (rs := [25]) (by kernel_rfl) (by simp) ?_
      refine AllReadyH.cons rfl (fun K hK => ?_) AllReadyH.nil
      go_simp
      refine (CN.out _ B4.out).mono ?_
      rintro e w5 ⟨rfl, rfl⟩
      go_wp2_with fail
      refine hK.out _ _ (B4.out) (fun hHeld5 => ?_)
      clear hK K
      refine takeH (i := 31) 61 (v := .bool false) rfl rfl (by kernel_rfl) (by kernel_rfl) (by kernel_rfl) (fun _ _ _ h => h) (Or.inl ⟨by rfl, ?_⟩) (by assumption) ?_
      · intro w' hSw'
        go_simp
      simp only [Act.put, List.setIfInBounds_toArray, List.set_cons_zero, List.set_cons_succ]
      refine takeH (i := 32) 62 (v := .bool false) rfl rfl (by kernel_rfl) (by kernel_rfl) (by kernel_rfl) (fun _ _ _ h => h) (Or.inl ⟨by rfl, ?_⟩) (by assumption) ?_
      · intro w' hSw'
        go_simp
      simp only [Act.put, List.setIfInBounds_toArray, List.set_cons_zero, List.set_cons_succ]
      refine takeH (i := 33) 63 (v := .bool false) rfl rfl (by kernel_rfl) (by kernel_rfl) (by kernel_rfl) (fun _ _ _ h => h) (Or.inl ⟨by rfl, ?_⟩) (by assumption) ?_
      · intro w' hSw'
        go_simp
      simp only [Act.put, List.setIfInBounds_toArray, List.set_cons_zero, List.set_cons_succ]
      refine takeH (i := 34) 64 (v := .pointer (some ⟨l, 0, none⟩)) rfl rfl (by kernel_rfl) (by kernel_rfl) (by kernel_rfl) (fun _ _ _ h => h) (Or.inl ⟨by rfl, ?_⟩) (by assumption) ?_
      · intro w' hSw'
        go_simp
      simp only [Act.put, List.setIfInBounds_toArray, List.set_cons_zero, List.set_cons_succ]
      refine takeH (i := 36) 66 (v := .pointer (some ⟨r, 0, none⟩)) rfl rfl (by kernel_rfl) (by kernel_rfl) (by kernel_rfl) (fun _ _ _ h => h) (Or.inl ⟨by rfl, ?_⟩) (by assumption) ?_
      · intro w' hSw'
        go_simp
      simp only [Act.put, List.setIfInBounds_toArray, List.set_cons_zero, List.set_cons_succ]
      refine wpAnyH_ready (rs := [35]) (by kernel_rfl) (by simp) ?_
      refine AllReadyH.cons rfl (fun K hK => ?_) AllReadyH.nil
      go_simp
      refine (SN.out _ B4.out).mono ?_
      rintro e w6 ⟨rfl, rfl⟩
      go_wp2_with fail
      refine hK.out _ _ (B4.out) (fun hHeld6 => ?_)
      clear hK K
      refine wpAnyH_ready (rs := [37]) (by kernel_rfl) (by simp) ?_
      refine AllReadyH.cons rfl (fun K hK => ?_) AllReadyH.nil
      go_simp
      refine (RS.out _ B4.out).mono ?_
      rintro e w7 ⟨rfl, hb7⟩
      have B7 := keep (B4.out.trans (hb7.mono B4.out.size))
      clear hb7
      go_wp2_with fail
      refine hK.out _ _ (B7.out) (fun hHeld7 => ?_)
      clear hK K
      refine takeH (i := 38) 68 (v := .bool false) rfl rfl (by kernel_rfl) (by kernel_rfl) (by kernel_rfl) (fun _ _ _ h => h) (Or.inl ⟨by rfl, ?_⟩) (by assumption) ?_
      · intro w' hSw'
        go_simp
      simp only [Act.put, List.setIfInBounds_toArray, List.set_cons_zero, List.set_cons_succ]
      refine takeH (i := 39) 69 (v := .bool false) rfl rfl (by kernel_rfl) (by kernel_rfl) (by kernel_rfl) (fun _ _ _ h => h) (Or.inl ⟨by rfl, ?_⟩) (by assumption) ?_
      · intro w' hSw'
        go_simp
      simp only [Act.put, List.setIfInBounds_toArray, List.set_cons_zero, List.set_cons_succ]
      refine takeH (i := 40) 70 (v := .bool false) rfl rfl (by kernel_rfl) (by kernel_rfl) (by kernel_rfl) (fun _ _ _ h => h) (Or.inl ⟨by rfl, ?_⟩) (by assumption) ?_
      · intro w' hSw'
        go_simp
      simp only [Act.put, List.setIfInBounds_toArray, List.set_cons_zero, List.set_cons_succ]
      refine takeH (i := 41) 71 (v := .pointer (some ⟨l, 0, none⟩)) rfl rfl (by kernel_rfl) (by kernel_rfl) (by kernel_rfl) (fun _ _ _ h => h) (Or.inl ⟨by rfl, ?_⟩) (by assumption) ?_
      · intro w' hSw'
        go_simp
      simp only [Act.put, List.setIfInBounds_toArray, List.set_cons_zero, List.set_cons_succ]
      refine takeH (i := 43) 73 (v := .pointer (some ⟨r, 0, none⟩)) rfl rfl (by kernel_rfl) (by kernel_rfl) (by kernel_rfl) (fun _ _ _ h => h) (Or.inl ⟨by rfl, ?_⟩) (by assumption) ?_
      · intro w' hSw'
        go_simp
      simp only [Act.put, List.setIfInBounds_toArray, List.set_cons_zero, List.set_cons_succ]
      refine takeH (i := 44) 74 (v := .pointer (some ⟨r, 0, none⟩)) rfl rfl (by kernel_rfl) (by kernel_rfl) (by kernel_rfl) (fun _ _ _ h => h) (Or.inl ⟨by rfl, ?_⟩) (by assumption) ?_
      · intro w' hSw'
        go_simp
      simp only [Act.put, List.setIfInBounds_toArray, List.set_cons_zero, List.set_cons_succ]
      refine takeH (i := 45) 75 (v := .pointer (some ⟨r, 0, none⟩)) rfl rfl (by kernel_rfl) (by kernel_rfl) (by kernel_rfl) (fun _ _ _ h => h) (Or.inl ⟨by rfl, ?_⟩) (by assumption) ?_
      · intro w' hSw'
        go_simp
      simp only [Act.put, List.setIfInBounds_toArray, List.set_cons_zero, List.set_cons_succ]
      refine takeH (i := 46) 76 (v := .slice aL N cL) rfl rfl (by kernel_rfl) (by kernel_rfl) (by kernel_rfl) (fun _ _ _ h => h) (Or.inl ⟨by rfl, ?_⟩) (by assumption) ?_
      · intro w' hSw'
        have dr := LC.out w' hSw'
        go_simp
      simp only [Act.put, List.setIfInBounds_toArray, List.set_cons_zero, List.set_cons_succ]
      refine wpAnyH_ready (rs := [42]) (by kernel_rfl) (by simp) ?_
      refine AllReadyH.cons rfl (fun K hK => ?_) AllReadyH.nil
      go_simp
      refine (AL.out _ B7.out).mono ?_
      rintro e w8 ⟨v8, z8, rfl, hE8, hz8, hb8⟩
      obtain ⟨a8, c8, rfl, hR8, _⟩ := RSrc.own entKind_ok hE8.row (fun z hz => (hE8.each z hz).held)
      have B8 := keep (B7.out.trans (hb8.mono B7.out.size))
      have hl8 : z8.length = N := by
        have h1 := congrArg List.length hz8
        rw [List.length_map, List.length_map] at h1
        rw [h1, HNn.out]
      rw [hl8] at hR8 ⊢
      have SY := keep (fun w' (hb : Below w8.heap.size w8 w') => same_yes a8 N c8 z8 aL cL ys2 w' (by omega) (hR8.below entKind_ok hb) (SR.out.below entKind_ok (B8.out.trans (hb.mono B8.out.size))) (hz8.trans HE.out))
      clear hE8 hz8 hb8 hR8 hl8
      go_wp2_with fail
      refine hK.out _ _ (B8.out) (fun hHeld8 => ?_)
      clear hK K
      refine wpAnyH_ready (rs := [47]) (by kernel_rfl) (by simp) ?_
      refine AllReadyH.cons rfl (fun K hK => ?_) AllReadyH.nil
      go_simp
      refine (SY.out _ (Below.refl _ _)).mono ?_
      rintro e w9 ⟨rfl, hb9⟩
      have B9 := keep (B8.out.trans (hb9.mono B8.out.size))
      clear hb9
      go_wp2_with fail
      refine hK.out _ _ (B9.out) (fun hHeld9 => ?_)
      clear hK K
      refine takeH (i := 48) 78 (v := .bool false) rfl rfl (by kernel_rfl) (by kernel_rfl) (by kernel_rfl) (fun _ _ _ h => h) (Or.inl ⟨by rfl, ?_⟩) (by assumption) ?_
      · intro w' hSw'
        go_simp
      simp only [Act.put, List.setIfInBounds_toArray, List.set_cons_zero, List.set_cons_succ]
      refine takeH (i := 49) 79 (v := .bool false) rfl rfl (by kernel_rfl) (by kernel_rfl) (by kernel_rfl) (fun _ _ _ h => h) (Or.inl ⟨by rfl, ?_⟩) (by assumption) ?_
      · intro w' hSw'
        go_simp
      simp only [Act.put, List.setIfInBounds_toArray, List.set_cons_zero, List.set_cons_succ]
      refine wpAnyH_done (by kernel_rfl) ?_ _
      have T9 := keep (T2.out.below B9.out)
      clear T2 CO CK RC LC SR CN SN RS AL HE SY
      go_wp2
      go_roundw
      case rel => exact ⟨k + 1, ns2, ys2, hs2, by omega, by omega, by first | rfl | go_num, T9.out, L2.out⟩
      case measure => simp [intOf]; omega
    · have TB := keep hT.out.1.bel
      have rest : Hid (∀ wr : World, Below w.heap.size w wr → True) := fun _ _ => trivial
      clear rest hT
      by_cases h1 : k < m
      · have ll1 : (k : Int) < (m : Int) := by omega
        have ll2 : ¬ (k : Int) < 100 := by omega
        have kc := conv_constS
        go_wp2_with fail
        refine (nget _ _ _ _ _).mono ?_
        rintro e w4 ⟨rfl, hb4⟩
        have b4 : Hid (Below w.heap.size w w4) := by
          have q := TB.out.alloc TB.out.size (.cells #[.int .u8 97] 5 (1, 2))
          exact q.trans (hb4.mono q.size)
        clear hb4
        unfold ev evZ
        simp only [List.length_nil]
        have kc2 : (convert 32 32 (.slice (some ⟨w4.heap.size + 1, 0, none⟩) 1 1)).run Try.prog ((w4.alloc (.cells #[.slice none 0 0, .int .i64 0, .bool false, .slice none 0 0] 34)).alloc (.cells #[.int .u8 97] 5)) = .ok (.slice (some ⟨w4.heap.size + 1, 0, none⟩) 1 1) ((w4.alloc (.cells #[.slice none 0 0, .int .i64 0, .bool false, .slice none 0 0] 34)).alloc (.cells #[.int .u8 97] 5 (1, 2))) := by
          have h := conv_constS (w4.alloc (.cells #[.slice none 0 0, .int .i64 0, .bool false, .slice none 0 0] 34)) #[.int .u8 97] 1 1
          rw [World.size_alloc] at h
          exact h
        go_wp2_with fail
        refine (nput _ _ _ _ _ _ _ _ _ _).mono ?_
        rintro e w5 ⟨rfl, hb5⟩
        have b5 : Hid (Below w.heap.size w w5) := by
          have q := b4.out.alloc b4.out.size (.cells #[.slice none 0 0, .int .i64 0, .bool false, .slice none 0 0] 34)
          have q2 := q.alloc q.size (.cells #[.int .u8 97] 5 (1, 2))
          exact q2.trans (hb5.mono q2.size)
        clear hb5
        go_wp2_with fail
        refine (ncount _).mono ?_
        rintro e w6 ⟨rfl, rfl⟩
        go_wp2_with fail
        refine (nsize _).mono ?_
        rintro e w7 ⟨rfl, rfl⟩
        go_wp2_with fail
        refine (nall _).mono ?_
        rintro e w8 ⟨rfl, rfl⟩
        go_wp2_with fail
        refine (nscan _ _ _ _ _ _ _ _).mono ?_
        rintro e w9 ⟨rfl, hb9⟩
        have b9 := keep (b5.out.trans (hb9.mono b5.out.size))
        clear hb9
        go_wp2_with fail
        refine (nlevel _ _).mono ?_
        rintro e w10 ⟨rfl, rfl⟩
        go_wp2
        go_ret
        exact ⟨rfl, b9.out⟩
      · have ll1 : ¬ (k : Int) < (m : Int) := by omega
        have kc := conv_constS
        go_wp2_with fail
        refine (nget _ _ _ _ _).mono ?_
        rintro e w4 ⟨rfl, hb4⟩
        have b4 : Hid (Below w.heap.size w w4) := by
          have q := TB.out.alloc TB.out.size (.cells #[.int .u8 97] 5 (1, 2))
          exact q.trans (hb4.mono q.size)
        clear hb4
        unfold ev evZ
        simp only [List.length_nil]
        have kc2 : (convert 32 32 (.slice (some ⟨w4.heap.size + 1, 0, none⟩) 1 1)).run Try.prog ((w4.alloc (.cells #[.slice none 0 0, .int .i64 0, .bool false, .slice none 0 0] 34)).alloc (.cells #[.int .u8 97] 5)) = .ok (.slice (some ⟨w4.heap.size + 1, 0, none⟩) 1 1) ((w4.alloc (.cells #[.slice none 0 0, .int .i64 0, .bool false, .slice none 0 0] 34)).alloc (.cells #[.int .u8 97] 5 (1, 2))) := by
          have h := conv_constS (w4.alloc (.cells #[.slice none 0 0, .int .i64 0, .bool false, .slice none 0 0] 34)) #[.int .u8 97] 1 1
          rw [World.size_alloc] at h
          exact h
        go_wp2_with fail
        refine (nput _ _ _ _ _ _ _ _ _ _).mono ?_
        rintro e w5 ⟨rfl, hb5⟩
        have b5 : Hid (Below w.heap.size w w5) := by
          have q := b4.out.alloc b4.out.size (.cells #[.slice none 0 0, .int .i64 0, .bool false, .slice none 0 0] 34)
          have q2 := q.alloc q.size (.cells #[.int .u8 97] 5 (1, 2))
          exact q2.trans (hb5.mono q2.size)
        clear hb5
        go_wp2_with fail
        refine (ncount _).mono ?_
        rintro e w6 ⟨rfl, rfl⟩
        go_wp2_with fail
        refine (nsize _).mono ?_
        rintro e w7 ⟨rfl, rfl⟩
        go_wp2_with fail
        refine (nall _).mono ?_
        rintro e w8 ⟨rfl, rfl⟩
        go_wp2_with fail
        refine (nscan _ _ _ _ _ _ _ _).mono ?_
        rintro e w9 ⟨rfl, hb9⟩
        have b9 := keep (b5.out.trans (hb9.mono b5.out.size))
        clear hb9
        go_wp2_with fail
        refine (nlevel _ _).mono ?_
        rintro e w10 ⟨rfl, rfl⟩
        go_wp2
        go_ret
        exact ⟨rfl, b9.out⟩
end Go.Proofs.Ytlhblbaingojaaa
