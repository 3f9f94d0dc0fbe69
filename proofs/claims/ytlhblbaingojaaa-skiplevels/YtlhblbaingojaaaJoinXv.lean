/- The arguments of stage 6's statements opened, each byte slice within the form's reach; no walk. -/
/- The walks of filled and of SkipCounts. -/
/- The walk of SkipLevels. -/
import Derived.Test.YtlhblbaingojaaaVp
import Derived.Test.YtlhblbaingojaaaXr
import Derived.Test.YtlhblbaingojaaaXe
import Derived.Test.YtlhblbaingojaaaRb
namespace Go.Proofs.Ytlhblbaingojaaa
open Go.ChangeShapes Go.WideShapes Go.ChangeAt Go.RowKit
open Sk (Ent)

theorem open_bytes_dat {H : Type} {enc : TypeId × Value → H} {W : World} {n : Nat} {v : Value} {x : DataW H × List MemPlace} (h : DataW.trod enc Try.prog W 0 (fun _ => true) true n 32 [v] = some x) :
    ∃ ao m c l, v = .slice ao m c ∧ Src W ao m c l ∧ (x.1 = .nil ∧ m = 0 ∨ ∃ elems spare, x.1 = .slice elems spare ∧ elems.length + spare.length = c) := by
  rcases open_ints Try.underlying32 Try.underlying5 cells5 h with ⟨hcs, hx⟩ | ⟨a, len, cap, zs, hcs, _, hl, hm, hz, hx, hcell, hwz⟩
  · simp only [List.cons.injEq, and_true] at hcs
    exact ⟨none, 0, 0, [], hcs, Src.empty (fun _ => rfl), .inl ⟨by rw [hx], rfl⟩⟩
  · simp only [List.cons.injEq, and_true] at hcs
    simp at hz
    refine ⟨some a, len, cap, bl (zs.take len), hcs, ?_, .inr ⟨_, _, by rw [hx], ?_⟩⟩
    · refine ⟨by simp [bl]; omega, hl, (fun h => by cases h), fun ad had j u hu => ?_⟩
      cases had
      have hj : j < (bl (zs.take len)).length := by
        have := (List.getElem?_eq_some_iff.1 hu).1
        rwa [bv_length] at this
      have hj2 : j < (zs.take len).length := by simpa [bl] using hj
      rw [bv_at _ j hj] at hu
      cases hu
      rw [bl_at (zs.take len) j hj2 (fun n hn => hwz n (List.mem_of_mem_take hn)), hcell j (by simp at hj2; omega)]
      congr 2
      have h1 : j < len := by simp at hj2; omega
      rw [List.getD_eq_getElem?_getD, List.getD_eq_getElem?_getD, List.getElem?_take, if_pos h1]
    · simp [lits]
      omega
theorem weights_all {H : Type} {P : Program} {e : TypeId} : ∀ {ds : List (DataW H)} {i : Nat} {d : DataW H}, ds[i]? = some d → ∀ n ∈ d.weights P e, n ∈ DataW.weightsAll P e ds
  | d0 :: ds, 0, d, hd, n, hn => by
    simp only [List.getElem?_cons_zero, Option.some.injEq] at hd
    subst hd
    simp only [DataW.weightsAll, List.mem_append]
    exact .inl hn
  | d0 :: ds, i + 1, d, hd, n, hn => by
    simp only [List.getElem?_cons_succ] at hd
    simp only [DataW.weightsAll, List.mem_append]
    exact .inr (weights_all hd n hn)
  | [], _, _, hd, _, _ => by simp at hd
/-- A datum of a byte slice, m long, of c places. -/
def ByDat {H : Type} (d : DataW H) (m c : Nat) : Prop := d = .nil ∧ m = 0 ∨ ∃ elems spare, d = .slice elems spare ∧ elems.length + spare.length = c
theorem trod_struct4D {H : Type} {enc : TypeId × Value → H} {P : Program} {w : World} {base : Nat} {spare : Nat → Bool} {held : Bool} {t : TypeId} {f0 f1 f2 f3 : Field} {fuel : Nat} {cs : List Value} {x : DataW H × List MemPlace} (ht : P.underlying t = some (.struct #[f0, f1, f2, f3])) (h : DataW.trod enc P w base spare held fuel t cs = some x) :
    ∃ y0 y1 y2 y3 n, cs.length = P.cellsOf t ∧ x.1 = .agg [y0.1, y1.1, y2.1, y3.1] ∧ DataW.trod enc P w base spare held n f0.type ((cs.drop f0.offset).take (P.cellsOf f0.type)) = some y0 ∧
      DataW.trod enc P w base spare held n f1.type ((cs.drop f1.offset).take (P.cellsOf f1.type)) = some y1 ∧ DataW.trod enc P w base spare held n f2.type ((cs.drop f2.offset).take (P.cellsOf f2.type)) = some y2 ∧
      DataW.trod enc P w base spare held n f3.type ((cs.drop f3.offset).take (P.cellsOf f3.type)) = some y3 := by
  obtain ⟨xs, n, _, rfl, hl, hlen, hf⟩ := DataW.trod_struct ht h
  match xs, hlen with
  | [y0, y1, y2, y3], _ => exact ⟨y0, y1, y2, y3, n, hl, rfl, by simpa using hf 0 f0 rfl, by simpa using hf 1 f1 rfl, by simpa using hf 2 f2 rfl, by simpa using hf 3 f3 rfl⟩
theorem open_entryD {H : Type} {enc : TypeId × Value → H} {W : World} {n : Nat} {cs : List Value} {x : DataW H × List MemPlace} (h : DataW.trod enc Try.prog W 0 (fun _ => true) true n 34 cs = some x) :
    ∃ e : EV, cs = entKind.vals e ∧ entKind.held W e ∧ ∃ d0 d1 d2 d3, x.1 = .agg [d0, d1, d2, d3] ∧ ByDat d0 e.e.key.length e.kc ∧ ByDat d3 e.e.val.length e.vc := by
  obtain ⟨f0, f1, f2, f3, hF, ⟨e0, o0⟩, ⟨e1, o1⟩, ⟨e2, o2⟩, ⟨e3, o3⟩⟩ := entry_fields
  obtain ⟨y0, y1, y2, y3, k, hl, hx, t0, t1, t2, t3⟩ := trod_struct4D hF h
  rw [cE] at hl
  match cs, hl with
  | [v0, v1, v2, v3], _ =>
    rw [e0, o0, cB] at t0
    rw [e1, o1, cI] at t1
    rw [e2, o2, cBo] at t2
    rw [e3, o3, cB] at t3
    simp at t0 t1 t2 t3
    obtain ⟨a0, m0, c0, l0, rfl, s0, k0⟩ := open_bytes_dat t0
    obtain ⟨z, hz, _, _⟩ := DataW.trod_int Try.underlying3 t1
    obtain ⟨g, hg, _⟩ := DataW.trod_bool Try.underlying4 t2
    obtain ⟨a3, m3, c3, l3, rfl, s3, k3⟩ := open_bytes_dat t3
    simp only [List.cons.injEq, and_true] at hz hg
    have h0 := s0.len
    have h3 := s3.len
    refine ⟨⟨a0, c0, a3, c3, ⟨l0, z, g, l3⟩⟩, ?_, ⟨?_, ?_⟩, y0.1, y1.1, y2.1, y3.1, hx, ?_, ?_⟩
    · simp only [entKind]; rw [h0, h3, hz, hg]
    · show Src W a0 l0.length c0 l0; rw [h0]; exact s0
    · show Src W a3 l3.length c3 l3; rw [h3]; exact s3
    · show ByDat y0.1 l0.length c0; rw [h0]; exact k0
    · show ByDat y3.1 l3.length c3; rw [h3]; exact k3
theorem trod_struct5D {H : Type} {enc : TypeId × Value → H} {P : Program} {w : World} {base : Nat} {spare : Nat → Bool} {held : Bool} {t : TypeId} {f0 f1 f2 f3 f4 : Field} {fuel : Nat} {cs : List Value} {x : DataW H × List MemPlace} (ht : P.underlying t = some (.struct #[f0, f1, f2, f3, f4])) (h : DataW.trod enc P w base spare held fuel t cs = some x) :
    ∃ y0 y1 y2 y3 y4 n, cs.length = P.cellsOf t ∧ x.1 = .agg [y0.1, y1.1, y2.1, y3.1, y4.1] ∧ DataW.trod enc P w base spare held n f0.type ((cs.drop f0.offset).take (P.cellsOf f0.type)) = some y0 ∧
      DataW.trod enc P w base spare held n f1.type ((cs.drop f1.offset).take (P.cellsOf f1.type)) = some y1 ∧ DataW.trod enc P w base spare held n f2.type ((cs.drop f2.offset).take (P.cellsOf f2.type)) = some y2 ∧
      DataW.trod enc P w base spare held n f3.type ((cs.drop f3.offset).take (P.cellsOf f3.type)) = some y3 ∧ DataW.trod enc P w base spare held n f4.type ((cs.drop f4.offset).take (P.cellsOf f4.type)) = some y4 := by
  obtain ⟨xs, n, _, rfl, hl, hlen, hf⟩ := DataW.trod_struct ht h
  match xs, hlen with
  | [y0, y1, y2, y3, y4], _ => exact ⟨y0, y1, y2, y3, y4, n, hl, rfl, by simpa using hf 0 f0 rfl, by simpa using hf 1 f1 rfl, by simpa using hf 2 f2 rfl, by simpa using hf 3 f3 rfl, by simpa using hf 4 f4 rfl⟩
theorem open_opD {H : Type} {enc : TypeId × Value → H} {W : World} {n : Nat} {cs : List Value} {x : DataW H × List MemPlace} (h : DataW.trod enc Try.prog W 0 (fun _ => true) true n 36 cs = some x) :
    ∃ o : OpS, cs = opsKind.vals o ∧ opsKind.held W o ∧ ∃ p0 p1 p2 d0 d1 d2 d3 p4, x.1 = .agg [p0, p1, p2, .agg [d0, d1, d2, d3], p4] ∧ ByDat d0 o.x.e.key.length o.x.kc ∧ ByDat d3 o.x.e.val.length o.x.vc ∧ ByDat p4 o.to.length o.tc := by
  obtain ⟨f0, f1, f2, f3, f4, hF, ⟨e0, o0⟩, ⟨e1, o1⟩, ⟨e2, o2⟩, ⟨e3, o3⟩, ⟨e4, o4⟩⟩ := op_fields
  obtain ⟨y0, y1, y2, y3, y4, k, hl, hx, t0, t1, t2, t3, t4⟩ := trod_struct5D hF h
  rw [cO] at hl
  match cs, hl with
  | [v0, v1, v2, v3, v4, v5, v6, v7], _ =>
    rw [e0, o0, cI] at t0
    rw [e1, o1, cI] at t1
    rw [e2, o2, cI] at t2
    rw [e3, o3, cE] at t3
    rw [e4, o4, cB] at t4
    simp at t0 t1 t2 t3 t4
    obtain ⟨z0, hz0, _, _⟩ := DataW.trod_int Try.underlying3 t0
    obtain ⟨z1, hz1, _, _⟩ := DataW.trod_int Try.underlying3 t1
    obtain ⟨z2, hz2, _, _⟩ := DataW.trod_int Try.underlying3 t2
    obtain ⟨e, he, hh, d0, d1, d2, d3, hd, b0, b3⟩ := open_entryD t3
    obtain ⟨a4, m4, c4, l4, rfl, s4, k4⟩ := open_bytes_dat t4
    simp only [List.cons.injEq, and_true] at hz0 hz1 hz2
    have h4 := s4.len
    simp only [entKind, List.cons.injEq, and_true] at he
    obtain ⟨r3, r4, r5, r6⟩ := he
    refine ⟨⟨z0, z1, z2, e, a4, c4, l4⟩, ?_, ⟨hh, ?_⟩, y0.1, y1.1, y2.1, d0, d1, d2, d3, y4.1, by rw [hx, hd], b0, b3, ?_⟩
    · simp only [opsKind]
      rw [hz0, hz1, hz2, r3, r4, r5, r6, h4]
    · show Src W a4 l4.length c4 l4
      rw [h4]
      exact s4
    · show ByDat y4.1 l4.length c4
      rw [h4]
      exact k4
theorem weights_op {H : Type} {p0 p1 p2 d0 d1 d2 d3 p4 : DataW H} {n : Nat} (h : n ∈ d0.weights Try.prog 32 ∨ n ∈ d3.weights Try.prog 32 ∨ n ∈ p4.weights Try.prog 32) : n ∈ DataW.weights Try.prog 36 (.agg [p0, p1, p2, .agg [d0, d1, d2, d3], p4]) := by
  obtain ⟨g0, g1, g2, g3, gF, ⟨i0, _⟩, ⟨i1, _⟩, ⟨i2, _⟩, ⟨i3, _⟩⟩ := entry_fields
  obtain ⟨f0, f1, f2, f3, f4, hF, ⟨e0, _⟩, ⟨e1, _⟩, ⟨e2, _⟩, ⟨e3, _⟩, ⟨e4, _⟩⟩ := op_fields
  simp only [DataW.weights, hF, gF, DataW.weightsEach, List.map_cons, List.map_nil, e0, e1, e2, e3, e4, i0, i1, i2, i3, List.mem_append]
  rcases h with h | h | h
  · exact .inr (.inr (.inr (.inl (.inl h))))
  · exact .inr (.inr (.inr (.inl (.inr (.inr (.inr (.inl h)))))))
  · exact .inr (.inr (.inr (.inr (.inl h))))
set_option maxRecDepth 100000 in
/-- A slice of operations. -/
theorem open_script_reach {H : Type} {enc : TypeId × Value → H} {W : World} {v : Value} {d : DataW H} {p : List MemPlace} {base : Nat} {ts : List TypeId} {ds : List (DataW H)} {j : Nat} (hsz : (DataW.weightsEach Try.prog ts ds).all (· ≤ reachBytes) = true) (ht : ts[j]? = some 22) (hd : ds[j]? = some d)
    (hv : Value.okWide Try.prog W .any base 22 v) (h : DataW.Trod enc Try.prog W 0 (fun _ => true) true 22 v d p) :
    ∃ ao m c es, v = .slice ao m c ∧ RSrc opsKind W ao m c es ∧ c ≤ maxLen ∧ ∀ o ∈ es, o.fits := by
  obtain ⟨a0, len0, cap0, rfl⟩ := okWide_slice Try.underlying22 hv
  obtain ⟨fuel, hf⟩ := h
  obtain ⟨ao, m, c, es, h1, h2, h3, h4⟩ := open_recs (enc := enc) (W := W) opsKind_ok (Q := fun o y => ∃ p0 p1 p2 d0 d1 d2 d3 p4, y = .agg [p0, p1, p2, .agg [d0, d1, d2, d3], p4] ∧ ByDat d0 o.x.e.key.length o.x.kc ∧ ByDat d3 o.x.e.val.length o.x.vc ∧ ByDat p4 o.to.length o.tc) Try.underlying22 (by kernel_rfl) (fun m cs y hy => by
    obtain ⟨o, q1, q2, q3⟩ := open_opD hy
    exact ⟨o, q1, q2, q3⟩) (v := .slice a0 len0 cap0) (by simpa only [Value.cells] using hf)
  refine ⟨ao, m, c, es, h1, h2, h3, ?_⟩
  rcases h4 with ⟨h0, _⟩ | ⟨xs, sp, hx, hl, hcl, hq⟩
  · intro e he
    have := h2.len
    rw [h0] at this
    rw [List.length_eq_zero_iff.1 this] at he
    cases he
  · have hx' : d = .slice xs sp := hx
    intro e he
    obtain ⟨i, hi⟩ := List.getElem?_of_mem he
    have hlt := (List.getElem?_eq_some_iff.1 hi).1
    rw [h2.len, ← hl] at hlt
    have hd2 := List.getElem?_eq_getElem hlt
    have hs2 := h2.held e he
    have hk := hs2.1.1.cap
    have hvv := hs2.1.2.cap
    have hto := hs2.2.cap
    obtain ⟨p0, p1, p2, d0, d1, d2, d3, p4, hag, hk0, hk3, hk4⟩ := hq i e _ hi hd2
    rw [hag] at hd2
    have one : ∀ {dd : DataW H} {mm cc : Nat}, ByDat dd mm cc → mm ≤ cc → (∀ n, n ∈ dd.weights Try.prog 32 → n ∈ DataW.weights Try.prog 36 (DataW.agg [p0, p1, p2, .agg [d0, d1, d2, d3], p4])) → mm ≤ 140737488355328 := fun {dd mm cc} hb hle hin => by
      rcases hb with ⟨_, h0⟩ | ⟨el, sp2, h5, h6⟩
      · omega
      · have h7 : (el.length + sp2.length) * Try.prog.bytesOf 5 ∈ DataW.weights Try.prog 22 (DataW.slice xs sp) := by
          simp only [DataW.weights, Try.underlying22, List.mem_cons, List.mem_append]
          right; left
          refine weights_all hd2 _ (hin _ ?_)
          rw [h5]
          simp [DataW.weights, Try.underlying32]
        have h8 := List.all_eq_true.1 hsz _ (DataW.weights_mem_each ht (hx' ▸ hd) _ h7)
        simp only [decide_eq_true_eq] at h8
        rw [bytes5, h6] at h8
        unfold reachBytes at h8
        omega
    exact ⟨one hk0 hk (fun n hn => weights_op (.inl hn)), one hk3 hvv (fun n hn => weights_op (.inr (.inl hn))), one hk4 hto (fun n hn => weights_op (.inr (.inr hn)))⟩
end Go.Proofs.Ytlhblbaingojaaa
namespace Go.Proofs.Ytlhblbaingojaaa
open Go.RowKit
open Sk (Ent)

/-- What filled answers. -/
def FilledP (w0 : World) (e : Ending) (w' : World) : Prop := ∃ l r ns ys hs, e = .returned (.pointer (some ⟨l, 0, none⟩)) ∧ Twin w0 l ns r ys hs w' ∧ ns.length ≤ 60
/-- Both lists, new. -/
theorem twin_new (w0 w : World) (hb : Below w0.heap.size w0 w) : Twin w0 w.heap.size [] (w.alloc (.cells listZ 60)).heap.size [] [] ((w.alloc (.cells listZ 60)).alloc (.cells #[.slice none 0 0, .slice none 0 0] 30)) := by
  have b1 : Below w.heap.size w (w.alloc (.cells listZ 60)) := (Below.refl _ _).alloc (Nat.le_refl _) _
  have b2 : Below (w.alloc (.cells listZ 60)).heap.size (w.alloc (.cells listZ 60)) ((w.alloc (.cells listZ 60)).alloc (.cells #[.slice none 0 0, .slice none 0 0] 30)) := (Below.refl _ _).alloc (Nat.le_refl _) _
  have h1 := new_lmem w (B := w0.heap.size) hb.size
  exact ⟨h1.below b2, ⟨Nat.le_trans hb.size b1.size, ⟨.slice none 0 0, .slice none 0 0, heap_alloc_new _ _, Ents.nil _ _, World.ownsRow_nil _ _ _ _⟩, rfl, trivial, (fun y hy => by cases hy)⟩, rfl, (fun p hp => by cases hp), hb.trans ((b1.trans (b2.mono b1.size)).mono hb.size)⟩
set_option maxHeartbeats 4000000 in
set_option maxRecDepth 100000 in
theorem filled_any (w0 : World) (ao : Option Addr) (m c : Nat) (es : List OpS) (w : World) (hb : Below w0.heap.size w0 w) (hs : RSrc opsKind w0 ao m c es) (hfit : ∀ o ∈ es, o.fits) :
    Calls Try.prog 27 #[.slice ao m c] w (FilledP w0) := by
  have H1 := keep hs
  have HF := keep hfit
  have hm := hs.len
  have B0 := keep hb
  have T0 := keep (twin_new w0 w hb)
  clear hs hfit hb
  go_enter Try.func27, Try.ntmps27
  go_wp2_with fail
  refine (new_raw w).mono ?_
  rintro e w1 ⟨rfl, hw1⟩
  rw [← hw1] at T0
  obtain ⟨W2, hW2⟩ : ∃ W2, w1.alloc (.cells #[.slice none 0 0, .slice none 0 0] 30) = W2 := ⟨_, rfl⟩
  rw [hW2] at T0
  obtain ⟨l, hl⟩ : ∃ l, w.heap.size = l := ⟨_, rfl⟩
  obtain ⟨r, hr⟩ : ∃ r, w1.heap.size = r := ⟨_, rfl⟩
  rw [hl, hr] at T0
  rw [hl]
  clear hw1 hl
  go_wp2
  clear hW2 hr
  go_loopw [5] (fun i wr => ∃ (k : Nat) (ns : List Nd) (ys : List EV) (hs : List Int), k ≤ m ∧ k ≤ 60 ∧ i = .int .i64 (k : Int) ∧ Hid (Twin w0 l ns r ys hs wr ∧ ns.length ≤ k)) (fun i _ => m - (intOf i).toNat)
  case atStart => exact ⟨0, [], [], [], Nat.zero_le _, Nat.zero_le _, rfl, T0.out, Nat.le_refl _⟩
  case round =>
    clear T0
    obtain ⟨k, ns, ys, hs, hk, hk60, rfl, hT⟩ := hrel
    by_cases hlt : k < m ∧ k < 60
    · obtain ⟨hlt1, hlt2⟩ := hlt
      obtain ⟨b, off, rfl, _, _⟩ := H1.out.form opsKind_ok (by omega)
      obtain ⟨o, ho⟩ : ∃ o, es[k]? = some o := ⟨es[k], List.getElem?_eq_getElem (by omega)⟩
      have ll1 : (k : Int) < (m : Int) := by omega
      have ll2 : (k : Int) < 60 := by omega
      have ll0 : (0 : Int) ≤ (k : Int) := by omega
      have hmem := List.mem_of_getElem? ho
      have hbl := hT.out.1.bel
      have c0 : wr.cell? ⟨b, off + k * 8, none⟩ = some (.int .i64 o.what) := below_cell hbl (op_cells H1.out ho 0 _ rfl)
      have c1 : wr.cell? ⟨b, off + k * 8 + 1, none⟩ = some (.int .i64 o.h) := below_cell hbl (op_cells H1.out ho 1 _ rfl)
      have c2 : wr.cell? ⟨b, off + k * 8 + 2, none⟩ = some (.int .i64 o.n) := below_cell hbl (op_cells H1.out ho 2 _ rfl)
      have c3 : wr.cell? ⟨b, off + k * 8 + 3, none⟩ = some (.slice o.x.kp o.x.e.key.length o.x.kc) := below_cell hbl (op_cells H1.out ho 3 _ rfl)
      have c4 : wr.cell? ⟨b, off + k * 8 + 4, none⟩ = some (.int .i64 o.x.e.seq) := below_cell hbl (op_cells H1.out ho 4 _ rfl)
      have c5 : wr.cell? ⟨b, off + k * 8 + 5, none⟩ = some (.bool o.x.e.gone) := below_cell hbl (op_cells H1.out ho 5 _ rfl)
      have c6 : wr.cell? ⟨b, off + k * 8 + 6, none⟩ = some (.slice o.x.vp o.x.e.val.length o.x.vc) := below_cell hbl (op_cells H1.out ho 6 _ rfl)
      have c7 : wr.cell? ⟨b, off + k * 8 + 7, none⟩ = some (.slice o.tp o.to.length o.tc) := below_cell hbl (op_cells H1.out ho 7 _ rfl)
      have ST := keep (step_two w0 l r ns ys hs o wr hT.out.1 (by have := hT.out.2; omega) (H1.out.held o hmem) (HF.out o hmem))
      unfold opv Stepped at ST
      clear ho hmem hbl
      obtain ⟨owhat, oh, on, ⟨xkp, xkc, xvp, xvc, ⟨xkey, xseq, xgone, xval⟩⟩, otp, otc, oto⟩ := o
      simp only at ST c0 c1 c2 c3 c4 c5 c6 c7
      go_wp2_with fail
      refine ST.out.mono ?_
      rintro e w2 ⟨rfl, ns2, ys2, hs2, ht2, hl2⟩
      have T2 := keep ht2
      have L2 : Hid (ns2.length ≤ k + 1) := by have := hT.out.2; show _ ≤ _; omega
      clear ht2 hl2 ST c0 c1 c2 c3 c4 c5 c6 c7
      go_wp2
      go_roundw
      case rel => exact ⟨k + 1, ns2, ys2, hs2, by omega, by omega, by first | rfl | go_num, T2.out, L2.out⟩
      case measure => simp [intOf]; omega
    · by_cases h1 : k < m
      · have ll1 : (k : Int) < (m : Int) := by omega
        have ll2 : ¬ (k : Int) < 60 := by omega
        go_wp2
        go_ret
        exact ⟨l, r, ns, ys, hs, rfl, hT.out.1, by have := hT.out.2; omega⟩
      · have ll1 : ¬ (k : Int) < (m : Int) := by omega
        go_wp2
        go_ret
        exact ⟨l, r, ns, ys, hs, rfl, hT.out.1, by have := hT.out.2; omega⟩
set_option maxHeartbeats 4000000 in
set_option maxRecDepth 100000 in
theorem counts_walk (ao : Option Addr) (m c : Nat) (es : List OpS) (w : World) (hs : RSrc opsKind w ao m c es) (hfit : ∀ o ∈ es, o.fits) :
    Calls Try.prog 8 #[.slice ao m c] w fun e w' => e = .returned (.bool true) ∧ Below w.heap.size w w' := by
  have H1 := keep hs
  have HF := keep hfit
  have AW := keep (awake_any w)
  clear hs hfit
  go_enter Try.func8, Try.ntmps8
  go_wp2_with fail
  refine AW.out.mono ?_
  rintro e w1 ⟨rfl, hb1⟩
  have B1 := keep hb1
  clear hb1 AW
  go_wp2_with fail
  refine (filled_any w ao m c es w1 B1.out H1.out HF.out).mono ?_
  rintro e w2 ⟨l, r, ns, ys, hs, rfl, hT, hl⟩
  have TW := keep hT
  have AL := keep (all_mem l ns w2 hT.one.mem (by omega))
  clear hT
  go_wp2_with fail
  refine AL.out.mono ?_
  rintro e w3 ⟨v, zs, rfl, hE, hz, hb3⟩
  obtain ⟨av, cv, rfl, hR, _⟩ := RSrc.own entKind_ok hE.row (fun z hz => (hE.each z hz).held)
  have SRC := keep hR
  have T3 := keep (TW.out.below hb3)
  have hzl : zs.length = ns.length := by
    have := congrArg List.length hz
    simpa using this
  have HZ : Hid (zs.map (·.e) = ents ns) := hz
  have MAY : Hid (∀ y ∈ zs, y.e.key.length ≤ 64 ∧ y.e.val.length ≤ 1024) := fun y hy => by
    have h1 : y.e ∈ ents ns := by rw [← HZ.out]; exact List.mem_map_of_mem hy
    obtain ⟨n, hn, he⟩ := List.mem_map.1 h1
    rw [← he]
    exact T3.out.one.mem.short n hn
  have SZ : Hid (∀ k, Sk.size ((zs.map (·.e)).take k) ≤ 1096000000) := fun k => by
    refine Nat.le_trans (size_le (fun e he => ?_)) ?_
    · obtain ⟨y, hy, rfl⟩ := List.mem_map.1 (List.mem_of_mem_take he)
      exact MAY.out y hy
    · rw [List.length_take, List.length_map]; omega
  have FULL : Hid ((zs.map (·.e)).take zs.length = zs.map (·.e)) := List.take_of_length_le (by simp)
  have CT := T3.out.one.count
  have SI := T3.out.one.size
  clear hE hz hb3 hR AL
  obtain ⟨N, hN⟩ : ∃ N, zs.length = N := ⟨_, rfl⟩
  have HN := keep hN
  have hNn : ns.length = N := by omega
  rw [hNn] at CT
  rw [hN] at SRC FULL ⊢
  have hN60 : N ≤ 60 := by omega
  have HCT := keep CT
  have HSI := keep SI
  clear hN hNn hzl hl CT SI
  go_wp2
  go_loopw [5, 7] (fun n i wr => ∃ k : Nat, k ≤ N ∧ n = .int .i64 ((Sk.size ((zs.map (·.e)).take k) : Nat) : Int) ∧ i = .int .i64 (k : Int) ∧ Hid (Below w3.heap.size w3 wr)) (fun _ i _ => N - (intOf i).toNat)
  case atStart => exact ⟨0, Nat.zero_le _, by simp [Sk.size], rfl, Below.refl _ _⟩
  case round =>
    obtain ⟨k, hk, rfl, rfl, hB⟩ := hrel
    by_cases hkn : k < N
    · obtain ⟨b, off, rfl, _, _⟩ := SRC.out.form entKind_ok (by omega)
      obtain ⟨y, hy⟩ : ∃ y, zs[k]? = some y := ⟨zs[k]'(by rw [HN.out]; exact hkn), List.getElem?_eq_getElem _⟩
      obtain ⟨p0, p1, p2, p3⟩ := ent_cells (SRC.out.below entKind_ok hB.out) hy
      have hym := MAY.out y (List.mem_of_getElem? hy)
      have MORE := keep (size_more (l := zs.map (·.e)) (k := k) (e := y.e) (by rw [List.getElem?_map, hy]; rfl))
      have hsz := SZ.out k
      obtain ⟨ykp, ykc, yvp, yvc, ⟨ykey, yseq, ygone, yval⟩⟩ := y
      simp only at p0 p1 p2 p3 hym MORE
      obtain ⟨z, hz⟩ : ∃ z, Sk.size ((zs.map (·.e)).take k) = z := ⟨_, rfl⟩
      rw [hz] at MORE hsz ⊢
      obtain ⟨yk, hyk⟩ : ∃ yk, ykey.length = yk := ⟨_, rfl⟩
      obtain ⟨yl, hyl⟩ : ∃ yl, yval.length = yl := ⟨_, rfl⟩
      rw [hyk] at p0 hym MORE
      rw [hyl] at p3 hym MORE
      clear hy hz hyk hyl
      have i0 : (0 : Int) ≤ (k : Int) := by omega
      have ll : (k : Int) < (N : Int) := by omega
      go_wp2_with fail
      go_quiet (fail)
      go_wp2
      go_roundw
      case rel => exact ⟨k + 1, by omega, by rw [MORE.out]; go_num, by go_num, hB.out.trans ((below_drewN (Below.refl _ _) _).mono hB.out.size)⟩
      case measure => simp [intOf]; omega
    · obtain rfl : k = N := by omega
      have ll : ¬ (k : Int) < (k : Int) := by omega
      have CN := keep (count_any l (k : Int) wr (below_cell hB.out HCT.out))
      have SN := keep (size_any l _ wr (below_cell hB.out HSI.out))
      have hsame : Sk.size ((zs.map (·.e)).take k) = Sk.size (ents ns) := by rw [FULL.out, HZ.out]
      rw [hsame]
      have BW := keep (T3.out.bel.trans (hB.out.mono T3.out.bel.size))
      clear hsame
      obtain ⟨z, hz⟩ : ∃ z, Sk.size (ents ns) = z := ⟨_, rfl⟩
      rw [hz] at SN ⊢
      clear hz
      go_wp2_with fail
      refine CN.out.mono ?_
      rintro e w4 ⟨rfl, rfl⟩
      go_wp2_with fail
      refine SN.out.mono ?_
      rintro e w5 ⟨rfl, rfl⟩
      go_wp2
      go_ret
      exact ⟨by simp, BW.out⟩
end Go.Proofs.Ytlhblbaingojaaa
namespace Go.Proofs.Ytlhblbaingojaaa
open Go.RowKit
open Sk (Ent)

/-- Level, whatever is asked. -/
theorem level_src (w0 : World) (l : Nat) (ns : List Nd) (r : Nat) (ys : List EV) (hs : List Int) (z : Int) (w : World) (hT : Twin w0 l ns r ys hs w) (hln : ns.length ≤ 1000000) :
    Calls Try.prog 22 #[.pointer (some ⟨l, 0, none⟩), .int .i64 z] w fun e w' => ∃ a k zs, e = .returned (.slice a (List.length zs) k) ∧ RSrc entKind w' a zs.length k zs ∧ zs.map (·.e) = lev (hts ns) z ∧ Below w.heap.size w w' := by
  by_cases hn : z ≤ 12
  · refine (level_mem l ns z (max z 1 - 1).toNat w hT.one.mem hn (by omega) hln).mono ?_
    rintro e w'' ⟨v, zs, rfl, h1, h2, h3⟩
    obtain ⟨a, k, rfl, h4, _⟩ := RSrc.own entKind_ok h1.row (fun z hz => (h1.each z hz).held)
    refine ⟨a, k, zs, rfl, h4, ?_, h3⟩
    rw [h2, lev_same hT.one.mem.tall (z := z) (by omega)]
    rfl
  · refine (level_high l z w (by omega)).mono ?_
    rintro e w'' ⟨rfl, rfl⟩
    refine ⟨none, 0, [], rfl, RSrc.empty (fun _ => rfl), ?_, Below.refl _ _⟩
    rw [lev_none (fun p hp => ?_)]
    · rfl
    · have := hT.low p hp; omega
/-- A level is a part of the one below it. -/
theorem lev_part (z : Int) : ∀ l : List (Ent × Int), List.Sublist (lev l (z + 1)) (lev l z)
  | [] => List.Sublist.refl _
  | p :: l => by
    have ih := lev_part z l
    unfold lev at ih ⊢
    rw [List.filter_cons, List.filter_cons]
    by_cases h1 : z + 1 ≤ p.2
    · have h2 : z ≤ p.2 := by omega
      simp only [h1, h2, decide_true, if_true, List.map_cons]
      exact ih.cons_cons _
    · by_cases h2 : z ≤ p.2
      · simp only [h1, h2, decide_true, decide_false, if_true, Bool.false_eq_true, if_false, List.map_cons]
        exact ih.cons _
      · simp only [h1, h2, decide_false, Bool.false_eq_true, if_false]
        exact ih
theorem lev_first {ns : List Nd} (h : Tall ns) : lev (hts ns) 1 = ents ns := by
  have := lev_same h (z := 1) (i := 0) (by decide)
  rw [above_all h] at this
  exact this.symm
theorem part_in {A B : List Ent} {k a : Nat} (hs : List.Sublist (A.drop k) (B.drop a)) (hk : k < A.length) : a < B.length := by
  have := hs.length_le
  rw [List.length_drop, List.length_drop] at this
  omega
theorem part_more {A B : List Ent} {k a : Nat} {x y : Ent} (hs : List.Sublist (A.drop k) (B.drop a)) (hx : A[k]? = some x) (hy : B[a]? = some y) :
    (y = x → List.Sublist (A.drop (k + 1)) (B.drop (a + 1))) ∧ (y ≠ x → List.Sublist (A.drop k) (B.drop (a + 1))) := by
  have e1 : A.drop k = x :: A.drop (k + 1) := by
    obtain ⟨h, h'⟩ := List.getElem?_eq_some_iff.1 hx
    rw [List.drop_eq_getElem_cons h, h']
  have e2 : B.drop a = y :: B.drop (a + 1) := by
    obtain ⟨h, h'⟩ := List.getElem?_eq_some_iff.1 hy
    rw [List.drop_eq_getElem_cons h, h']
  rw [e1, e2] at hs
  refine ⟨fun h => ?_, fun h => ?_⟩
  · subst h
    exact List.cons_sublist_cons.1 hs
  · rw [e1]
    cases hs with
    | cons _ h' => exact h'
    | cons_cons _ h' => exact absurd rfl h
set_option maxHeartbeats 4000000 in
set_option maxRecDepth 100000 in
theorem levels_walk (ao : Option Addr) (m c : Nat) (es : List OpS) (n : Int) (w : World) (hs : RSrc opsKind w ao m c es) (hfit : ∀ o ∈ es, o.fits) :
    Calls Try.prog 7 #[.slice ao m c, .int .i64 n] w fun e w' => e = .returned (.bool true) ∧ Below w.heap.size w w' := by
  have H1 := keep hs
  have HF := keep hfit
  have AW := keep (awake_any w)
  clear hs hfit
  obtain ⟨q, hq, hqe⟩ := and_mask n 15 (by decide)
  have hqe' : bits .and .i64 n 15 = (q : Int) := hqe
  clear hqe
  go_enter Try.func7, Try.ntmps7
  go_wp2_with fail
  refine AW.out.mono ?_
  rintro e w1 ⟨rfl, hb1⟩
  have B1 := keep hb1
  clear hb1 AW
  go_wp2_with fail
  refine (filled_any w ao m c es w1 B1.out H1.out HF.out).mono ?_
  rintro e w2 ⟨l, r, ns, ys, hs, rfl, hT, hl⟩
  have TW := keep hT
  have LA := keep (level_src w l ns r ys hs (1 + (q : Int)) w2 hT (by omega))
  clear hT H1 HF
  go_wp2_with fail
  refine LA.out.mono ?_
  rintro e w3 ⟨al, cl, zl, rfl, hr3, he3, hb3⟩
  have T3 := keep (TW.out.below hb3)
  have R3 := keep hr3
  have E3 := keep he3
  have LB := keep (level_src w l ns r ys hs (1 + (q : Int) + 1) w3 T3.out (by omega))
  clear hr3 he3 hb3 LA TW
  go_wp2_with fail
  refine LB.out.mono ?_
  rintro e w4 ⟨ah, ch, zh, rfl, hr4, he4, hb4⟩
  have T4 := keep (T3.out.below hb4)
  have RL := keep (R3.out.below entKind_ok hb4)
  have RH := keep hr4
  have SB : Hid (List.Sublist (zh.map (·.e)) (zl.map (·.e))) := by
    rw [he4, E3.out]
    exact lev_part _ _
  obtain ⟨N1, hN1⟩ : ∃ N1, zl.length = N1 := ⟨_, rfl⟩
  obtain ⟨N2, hN2⟩ : ∃ N2, zh.length = N2 := ⟨_, rfl⟩
  have HN1 := keep hN1
  have HN2 := keep hN2
  have HS1 : Hid (N1 ≤ 1000000000) := by
    have h1 := congrArg List.length E3.out
    rw [List.length_map] at h1
    have h2 := lev_length (hts ns) (1 + (q : Int))
    rw [hts_length] at h2
    show _ ≤ _
    omega
  have HS2 : Hid (N2 ≤ 1000000000) := by
    have h1 := congrArg List.length he4
    rw [List.length_map] at h1
    have h2 := lev_length (hts ns) (1 + (q : Int) + 1)
    rw [hts_length] at h2
    show _ ≤ _
    omega
  clear hr4 he4 hb4 LB T3 R3 E3 hqe'
  rw [hN1] at RL ⊢
  rw [hN2] at RH ⊢
  clear hN1 hN2
  have hS1 := HS1.out
  have hS2 := HS2.out
  go_wp2
  go_loopw [10, 11] (fun at_ i wr => ∃ a k : Nat, a ≤ N1 ∧ k ≤ N2 ∧ at_ = .int .i64 (a : Int) ∧ i = .int .i64 (k : Int) ∧ Hid (List.Sublist ((zh.map (·.e)).drop k) ((zl.map (·.e)).drop a)) ∧ Hid (Below w4.heap.size w4 wr)) (fun _ i _ => N2 - (intOf i).toNat)
  case atStart => exact ⟨0, 0, Nat.zero_le _, Nat.zero_le _, rfl, rfl, SB.out, Below.refl _ _⟩
  case round =>
    obtain ⟨a0, k, ha0, hk, rfl, rfl, hS0, hB0⟩ := hrel
    by_cases hkn : k < N2
    · have llk : (k : Int) < (N2 : Int) := by omega
      go_wp2
      obtain ⟨wa, hwa⟩ : ∃ wa, wa = wr := ⟨_, rfl⟩
      subst hwa
      go_loopw [10] (fun at_ wr => ∃ a : Nat, a ≤ N1 ∧ at_ = .int .i64 (a : Int) ∧ Hid (List.Sublist ((zh.map (·.e)).drop k) ((zl.map (·.e)).drop a)) ∧ Hid (Below w4.heap.size w4 wr)) (fun i _ => N1 - (intOf i).toNat)
      case atStart => exact ⟨a0, ha0, rfl, hS0.out, hB0.out⟩
      case round =>
        clear hS0 hB0
        obtain ⟨a, ha, rfl, hSub, hB⟩ := hrel
        have han : a < N1 := by
          have := part_in hSub.out (by rw [List.length_map, HN2.out]; exact hkn)
          rwa [List.length_map, HN1.out] at this
        have lla : (a : Int) < (N1 : Int) := by omega
        have lla0 : (0 : Int) ≤ (a : Int) := by omega
        have llk0 : (0 : Int) ≤ (k : Int) := by omega
        obtain ⟨b1, o1, rfl, _, _⟩ := RL.out.form entKind_ok (by omega)
        obtain ⟨b2, o2, rfl, _, _⟩ := RH.out.form entKind_ok (by omega)
        obtain ⟨y, hy⟩ : ∃ y, zl[a]? = some y := ⟨zl[a]'(by rw [HN1.out]; exact han), List.getElem?_eq_getElem _⟩
        obtain ⟨x, hx⟩ : ∃ x, zh[k]? = some x := ⟨zh[k]'(by rw [HN2.out]; exact hkn), List.getElem?_eq_getElem _⟩
        obtain ⟨pm, pn⟩ := part_more hSub.out (x := x.e) (y := y.e) (by rw [List.getElem?_map, hx]; rfl) (by rw [List.getElem?_map, hy]; rfl)
        have PM := keep pm
        have PN := keep pn
        clear pm pn
        have CY : Hid (∀ w', Below wr.heap.size wr w' → w'.cell? ⟨b1, o1 + a * 4, none⟩ = some (.slice y.kp y.e.key.length y.kc) ∧ w'.cell? ⟨b1, o1 + a * 4 + 1, none⟩ = some (.int .i64 y.e.seq) ∧ w'.cell? ⟨b1, o1 + a * 4 + 2, none⟩ = some (.bool y.e.gone) ∧ w'.cell? ⟨b1, o1 + a * 4 + 3, none⟩ = some (.slice y.vp y.e.val.length y.vc)) := fun w' hb => ent_cells (RL.out.below entKind_ok (hB.out.trans (hb.mono hB.out.size))) hy
        have CX : Hid (∀ w', Below wr.heap.size wr w' → w'.cell? ⟨b2, o2 + k * 4, none⟩ = some (.slice x.kp x.e.key.length x.kc) ∧ w'.cell? ⟨b2, o2 + k * 4 + 1, none⟩ = some (.int .i64 x.e.seq) ∧ w'.cell? ⟨b2, o2 + k * 4 + 2, none⟩ = some (.bool x.e.gone) ∧ w'.cell? ⟨b2, o2 + k * 4 + 3, none⟩ = some (.slice x.vp x.e.val.length x.vc)) := fun w' hb => ent_cells (RH.out.below entKind_ok (hB.out.trans (hb.mono hB.out.size))) hx
        have SO : Hid (∀ w', Below wr.heap.size wr w' → _) := fun w' hb => sameOne_any y x w' ((RL.out.below entKind_ok (hB.out.trans (hb.mono hB.out.size))).held y (List.mem_of_getElem? hy)) ((RH.out.below entKind_ok (hB.out.trans (hb.mono hB.out.size))).held x (List.mem_of_getElem? hx))
        clear hx hy
        obtain ⟨ykp, ykc, yvp, yvc, ⟨ykey, yseq, ygone, yval⟩⟩ := y
        obtain ⟨xkp, xkc, xvp, xvc, ⟨xkey, xseq, xgone, xval⟩⟩ := x
        unfold ev at SO
        simp only at SO CY CX PM PN
        go_wp2_with fail
        refine wp_region_held_drew (S := fun w' => Below wr.heap.size wr w') (by kernel_rfl) ((Below.refl _ _).drew) (fun hHeld => ?_)
        refine takeH (i := 0) 37 (v := .int .i64 (a : Int)) rfl rfl (by kernel_rfl) (by kernel_rfl) (by kernel_rfl) (fun _ _ _ h => h) (Or.inl ⟨by rfl, ?_⟩) (by assumption) ?_
        · intro w' hSw'
          go_simp
        simp only [Act.put, List.setIfInBounds_toArray, List.set_cons_zero, List.set_cons_succ]
        refine takeH (i := 1) 38 (v := .slice (some ⟨b1, o1, none⟩) N1 cl) rfl rfl (by kernel_rfl) (by kernel_rfl) (by kernel_rfl) (fun _ _ _ h => h) (Or.inl ⟨by rfl, ?_⟩) (by assumption) ?_
        · intro w' hSw'
          go_simp
        simp only [Act.put, List.setIfInBounds_toArray, List.set_cons_zero, List.set_cons_succ]
        refine takeH (i := 2) 39 (v := .int .i64 (N1 : Int)) rfl rfl (by kernel_rfl) (by kernel_rfl) (by kernel_rfl) (fun _ _ _ h => h) (Or.inl ⟨by rfl, ?_⟩) (by assumption) ?_
        · intro w' hSw'
          go_simp
        simp only [Act.put, List.setIfInBounds_toArray, List.set_cons_zero, List.set_cons_succ]
        refine takeH (i := 3) 40 (v := .bool true) rfl rfl (by kernel_rfl) (by kernel_rfl) (by kernel_rfl) (fun _ _ _ h => h) (Or.inl ⟨by rfl, ?_⟩) (by assumption) ?_
        · intro w' hSw'
          go_simp
        simp only [Act.put, List.setIfInBounds_toArray, List.set_cons_zero, List.set_cons_succ]
        refine takeH (i := 4) 41 (v := .bool true) rfl rfl (by kernel_rfl) (by kernel_rfl) (by kernel_rfl) (fun _ _ _ h => h) (Or.inl ⟨by rfl, ?_⟩) (by assumption) ?_
        · intro w' hSw'
          go_simp
        simp only [Act.put, List.setIfInBounds_toArray, List.set_cons_zero, List.set_cons_succ]
        refine takeH (i := 5) 42 (v := .slice (some ⟨b1, o1, none⟩) N1 cl) rfl rfl (by kernel_rfl) (by kernel_rfl) (by kernel_rfl) (fun _ _ _ h => h) (Or.inl ⟨by rfl, ?_⟩) (by assumption) ?_
        · intro w' hSw'
          go_simp
        simp only [Act.put, List.setIfInBounds_toArray, List.set_cons_zero, List.set_cons_succ]
        refine takeH (i := 6) 43 (v := .int .i64 (a : Int)) rfl rfl (by kernel_rfl) (by kernel_rfl) (by kernel_rfl) (fun _ _ _ h => h) (Or.inl ⟨by rfl, ?_⟩) (by assumption) ?_
        · intro w' hSw'
          go_simp
        simp only [Act.put, List.setIfInBounds_toArray, List.set_cons_zero, List.set_cons_succ]
        refine takeH (i := 7) 44 (v := .pointer (some ⟨b1, o1 + a * 4, none⟩)) rfl rfl (by kernel_rfl) (by kernel_rfl) (by kernel_rfl) (fun _ _ _ h => h) (Or.inl ⟨by rfl, ?_⟩) (by assumption) ?_
        · intro w' hSw'
          go_simp
        simp only [Act.put, List.setIfInBounds_toArray, List.set_cons_zero, List.set_cons_succ]
        refine takeH (i := 8) 45 (v := .agg #[.slice ykp ykey.length ykc, .int .i64 yseq, .bool ygone, .slice yvp yval.length yvc]) rfl rfl (by kernel_rfl) (by kernel_rfl) (by kernel_rfl) (fun _ _ _ h => h) (Or.inl ⟨by rfl, ?_⟩) (by assumption) ?_
        · intro w' hSw'
          obtain ⟨d0, d1, d2, d3⟩ := CY.out w' hSw'
          go_simp
        simp only [Act.put, List.setIfInBounds_toArray, List.set_cons_zero, List.set_cons_succ]
        refine takeH (i := 9) 46 (v := .slice (some ⟨b2, o2, none⟩) N2 ch) rfl rfl (by kernel_rfl) (by kernel_rfl) (by kernel_rfl) (fun _ _ _ h => h) (Or.inl ⟨by rfl, ?_⟩) (by assumption) ?_
        · intro w' hSw'
          go_simp
        simp only [Act.put, List.setIfInBounds_toArray, List.set_cons_zero, List.set_cons_succ]
        refine takeH (i := 10) 47 (v := .int .i64 (k : Int)) rfl rfl (by kernel_rfl) (by kernel_rfl) (by kernel_rfl) (fun _ _ _ h => h) (Or.inl ⟨by rfl, ?_⟩) (by assumption) ?_
        · intro w' hSw'
          go_simp
        simp only [Act.put, List.setIfInBounds_toArray, List.set_cons_zero, List.set_cons_succ]
        refine takeH (i := 11) 48 (v := .pointer (some ⟨b2, o2 + k * 4, none⟩)) rfl rfl (by kernel_rfl) (by kernel_rfl) (by kernel_rfl) (fun _ _ _ h => h) (Or.inl ⟨by rfl, ?_⟩) (by assumption) ?_
        · intro w' hSw'
          go_simp
        simp only [Act.put, List.setIfInBounds_toArray, List.set_cons_zero, List.set_cons_succ]
        refine takeH (i := 12) 49 (v := .agg #[.slice xkp xkey.length xkc, .int .i64 xseq, .bool xgone, .slice xvp xval.length xvc]) rfl rfl (by kernel_rfl) (by kernel_rfl) (by kernel_rfl) (fun _ _ _ h => h) (Or.inl ⟨by rfl, ?_⟩) (by assumption) ?_
        · intro w' hSw'
          obtain ⟨d0, d1, d2, d3⟩ := CX.out w' hSw'
          go_simp
        simp only [Act.put, List.setIfInBounds_toArray, List.set_cons_zero, List.set_cons_succ]
        refine wpAnyH_ready (rs := [13]) (by kernel_rfl) (by simp) ?_
        refine AllReadyH.cons rfl (fun K hK => ?_) AllReadyH.nil
        go_simp
        refine (SO.out _ (Below.refl _ _).drew).mono ?_
        rintro e w5 ⟨⟨t, rfl, ht⟩, hb5⟩
        have HT := keep ht
        have b5 := keep hb5
        have bb5 : Hid (Below wr.heap.size wr w5) := ((Below.refl _ _).drew).trans (b5.out.mono (Nat.le_refl _))
        have B5 := keep (hB.out.trans (bb5.out.mono hB.out.size))
        clear ht hb5
        go_wp2_with fail
        refine hK.out _ _ (bb5.out) (fun hHeld2 => ?_)
        clear hK K
        refine takeH (i := 14) 51 (v := .bool (!t)) rfl rfl (by kernel_rfl) (by kernel_rfl) (by kernel_rfl) (fun _ _ _ h => h) (Or.inl ⟨by rfl, ?_⟩) (by assumption) ?_
        · intro w' hSw'
          go_simp
        simp only [Act.put, List.setIfInBounds_toArray, List.set_cons_zero, List.set_cons_succ]
        refine takeH (i := 15) 52 (v := .bool (!t)) rfl rfl (by kernel_rfl) (by kernel_rfl) (by kernel_rfl) (fun _ _ _ h => h) (Or.inl ⟨by rfl, ?_⟩) (by assumption) ?_
        · intro w' hSw'
          go_simp
        simp only [Act.put, List.setIfInBounds_toArray, List.set_cons_zero, List.set_cons_succ]
        refine wpAnyH_done (by kernel_rfl) ?_ _
        by_cases ht : t = true
        · obtain rfl := ht
          have SU := keep (PM.out (HT.out.1 rfl))
          have hne : ¬ (a : Int) = (N1 : Int) := by omega
          clear PM PN CY CX SO hSub HT
          go_wp2
          go_roundw
          case rel => exact ⟨a + 1, k + 1, by omega, by omega, by go_num, by go_num, SU.out, B5.out⟩
          case measure => simp [intOf]; omega
        · have ht' : t = false := by cases t <;> simp_all
          subst ht'
          have SU := keep (PN.out (fun h => by have := HT.out.2 h; cases this))
          clear PM PN CY CX SO hSub HT
          go_wp2
          go_roundw
          case rel => exact ⟨a + 1, by omega, by go_num, SU.out, B5.out⟩
          case measure => simp [intOf]; omega
    · obtain rfl : k = N2 := by omega
      have ll : ¬ (k : Int) < (k : Int) := by omega
      have T5 := keep (T4.out.below hB0.out)
      have L1 := keep (level_src w l ns r ys hs 1 wr T5.out (by omega))
      rw [lev_first T5.out.one.mem.tall] at L1
      go_wp2_with fail
      refine L1.out.mono ?_
      rintro e w5 ⟨a5, c5, z5, rfl, hr5, he5, hb5⟩
      have R5 := keep hr5
      have E5 := keep he5
      have T6 := keep (T5.out.below hb5)
      have AL := keep (all_mem l ns w5 T6.out.one.mem (by omega))
      clear hr5 he5 hb5 L1
      go_wp2_with fail
      refine AL.out.mono ?_
      rintro e w6 ⟨v, z6, rfl, hE, hz, hb6⟩
      obtain ⟨a6, c6, rfl, hR, _⟩ := RSrc.own entKind_ok hE.row (fun z hz => (hE.each z hz).held)
      have T7 := keep (T6.out.below hb6)
      have hl65 : z6.length = z5.length := by
        have h1 := congrArg List.length (E5.out.trans hz.symm)
        rw [List.length_map, List.length_map] at h1
        exact h1.symm
      have hl5 : z5.length ≤ 1000000000 := by
        have h1 := congrArg List.length E5.out
        rw [List.length_map] at h1
        rw [h1, ents, List.length_map]
        omega
      rw [hl65] at hR ⊢
      have SY := keep (same_yes a5 z5.length c5 z5 a6 c6 z6 w6 hl5 (R5.out.below entKind_ok hb6) hR (E5.out.trans hz.symm))
      clear hE hz hb6 hR AL R5 E5 hl65
      obtain ⟨N5, hN5⟩ : ∃ N5, z5.length = N5 := ⟨_, rfl⟩
      rw [hN5] at SY ⊢
      clear hN5 hl5
      go_wp2_with fail
      refine SY.out.mono ?_
      rintro e w7 ⟨rfl, hb7⟩
      have T8 := keep (T7.out.below hb7)
      clear hb7 SY
      have LH := keep (level_high l 13 w7 (by decide))
      go_wp2_with fail
      refine LH.out.mono ?_
      rintro e w8 ⟨rfl, rfl⟩
      go_wp2
      go_ret
      exact ⟨rfl, T8.out.bel⟩
end Go.Proofs.Ytlhblbaingojaaa
