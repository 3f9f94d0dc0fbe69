/- The walk of the document's Apply. -/
import Derived.Test.YtbahldabcieiaaaRq0
import Derived.Test.YtbahldabcieiaaaRq3
import Derived.Test.YtbahldabcieiaaaRk
import Derived.Test.YtbahldabcieiaaaHh
namespace Go.Proofs.Ytbahldabcieiaaa
open Go.RowKit
open Ed (Nt)

theorem own_taggedR {w : World} {B t k n : Nat} {v : Value} {xs : List Value} (h : w.ownsRow B t k v n xs) {g i T : Nat} {u : Value} {cs : Array Value} {fr : Nat × Nat} (hg : w.heap[g]? = some (.cells cs T fr)) (hT : T ≠ t) : (w.setCell ⟨g, i, none⟩ u).ownsRow B t k v n xs :=
  own_block h (fun j hj => set_far _ _ (fun e => by
    obtain ⟨cur, hcur⟩ := own_tag h hj
    rw [e, hg] at hcur
    cases hcur
    exact hT rfl))
/-- The version that is being made: its block, its notes so far; the version handed in and the answer's place stand. -/
structure OutI (w : World) (E2 : Nat) (x : VV) (ys : List MV) (v : Value) (wr : World) : Prop where
  below : Below w.heap.size w wr
  far : w.heap.size + 2 ≤ E2
  ver : wr.heap[E2]? = some (.cells #[.int .i64 (x.gen + 1), .int .i64 x.next, .int .i64 x.log, .int .i64 x.seq, v] 24)
  box : wr.heap[w.heap.size]? = some (.cells #[.int .i64 x.gen, .int .i64 x.next, .int .i64 x.log, .int .i64 x.seq, .slice x.p x.n x.c] 24)
  res : wr.heap[w.heap.size + 1]? = some (.cells #[.int .i64 0, .int .i64 0, .int .i64 0, .int .i64 0, .slice none 0 0] 24)
  row : wr.ownsRow w.heap.size 61 5 v ys.length (rv metaKind ys)
  each : ∀ y ∈ ys, OwnM w.heap.size wr y
  full : ys = [] → v = .slice none 0 0
theorem OutI.to {w : World} {E2 : Nat} {x : VV} {ys : List MV} {v : Value} {wr w' : World} (h : OutI w E2 x ys v wr) (hb : Below wr.heap.size wr w') : OutI w E2 x ys v w' :=
  ⟨h.below.trans (hb.mono h.below.size), h.far, (hb.block _ (Array.getElem?_eq_some_iff.1 h.ver).1).trans h.ver, (hb.block _ (Array.getElem?_eq_some_iff.1 h.box).1).trans h.box, (hb.block _ (Array.getElem?_eq_some_iff.1 h.res).1).trans h.res, own_block h.row (fun g hg => hb.block g (own_size h.row hg)), fun y hy => (h.each y hy).block hb, h.full⟩
theorem OutI.set {w : World} {E2 : Nat} {x : VV} {ys : List MV} {v : Value} {wr : World} (h : OutI w E2 x ys v wr) {zs : List MV} {v' : Value} (ho : wr.ownsRow w.heap.size 61 5 v' zs.length (rv metaKind zs)) (he : ∀ y ∈ zs, OwnM w.heap.size wr y) (hf : zs ≠ []) : OutI w E2 x zs v' (wr.setCell ⟨E2, 4, none⟩ v') := by
  have h0 := h.far
  refine ⟨h.below.setCell (p := ⟨E2, 4, none⟩) (by show _ ≤ E2; omega) _, h.far, set_row h.ver 4 v', (set_far _ _ (by omega)).trans h.box, (set_far _ _ (by omega)).trans h.res, own_taggedR ho h.ver (by decide), fun y hy => ⟨own_taggedR (he y hy).1 h.ver (by decide), own_taggedR (he y hy).2 h.ver (by decide)⟩, fun e => absurd e hf⟩
/-- Where the row of notes grows, all else stands. -/
theorem OutI.grown {w : World} {E2 : Nat} {x : VV} {ys : List MV} {v : Value} {wr w7 : World} (h : OutI w E2 x ys v wr) (hg : wr.grownBy w7 v.ownBlock) : Below w.heap.size w w7 ∧ w7.heap[E2]? = wr.heap[E2]? ∧ w7.heap[w.heap.size]? = wr.heap[w.heap.size]? ∧ w7.heap[w.heap.size + 1]? = wr.heap[w.heap.size + 1]? := by
  have one : ∀ {g : Nat} {cs : Array Value} {fr : Nat × Nat}, wr.heap[g]? = some (.cells cs 24 fr) → w7.heap[g]? = wr.heap[g]? := fun {g cs fr} hc => hg.block g (Array.getElem?_eq_some_iff.1 hc).1 (fun e => by
    obtain ⟨c2, h2⟩ := own_tag h.row e.symm
    rw [hc] at h2
    cases h2)
  exact ⟨h.below.grown hg h.below.size (fun j hj => (h.row.lt j hj).1), one h.ver, one h.box, one h.res⟩
theorem OutI.more {w : World} {E2 : Nat} {x : VV} {ys : List MV} {v v7 : Value} {wr w7 : World} {y : MV} (h : OutI w E2 x ys v wr) (hy : OwnM w.heap.size wr y) (ho : w7.ownsRow w.heap.size 61 5 v7 (ys.length + 1) (rv metaKind (ys ++ [y]))) (hg : wr.grownBy w7 v.ownBlock) : OutI w E2 x (ys ++ [y]) v7 (w7.setCell ⟨E2, 4, none⟩ v7) := by
  obtain ⟨b7, e1, e2, e3⟩ := h.grown hg
  have h0 := h.far
  have ver7 := e1.trans h.ver
  refine ⟨b7.setCell (p := ⟨E2, 4, none⟩) (by show _ ≤ E2; omega) _, h.far, set_row ver7 4 v7, (set_far _ _ (by omega)).trans (e2.trans h.box), (set_far _ _ (by omega)).trans (e3.trans h.res), ?_, fun z hz => ?_, fun e => by simp at e⟩
  · rw [List.length_append]
    exact own_taggedR ho ver7 (by decide)
  · have one : ∀ {z : MV}, OwnM w.heap.size wr z → OwnM w.heap.size (w7.setCell ⟨E2, 4, none⟩ v7) z := fun {z} hz => by
      have h2 := hz.grownR h.row hg
      exact ⟨own_taggedR h2.1 ver7 (by decide), own_taggedR h2.2 ver7 (by decide)⟩
    rcases List.mem_append.1 hz with hz | hz
    · exact one (h.each z hz)
    · rw [List.mem_singleton.1 hz]; exact one hy
theorem own_five {w : World} {B t k n : Nat} {v : Value} {xs : List Value} (h : w.ownsRow B t k v n xs) {E T : Nat} {cs : Array Value} {fr : Nat × Nat} (hE : w.heap[E]? = some (.cells cs T fr)) (hT : T ≠ t) (a0 a1 a2 a3 a4 : Value) : (((((w.setCell ⟨E, 0, none⟩ a0).setCell ⟨E, 1, none⟩ a1).setCell ⟨E, 2, none⟩ a2).setCell ⟨E, 3, none⟩ a3).setCell ⟨E, 4, none⟩ a4).ownsRow B t k v n xs :=
  own_block h (fun j hj => by
    have hne : j ≠ E := fun e => by
      obtain ⟨cur, hcur⟩ := own_tag h hj
      rw [e, hE] at hcur
      cases hcur
      exact hT rfl
    simp only [set_far _ _ hne])
theorem puts_len {K add D : List Nt} {i : Nat} (h : Ed.Puts K add i D) : D.length ≤ K.length + i := by
  have := h.perm.length_eq
  rw [List.length_append, List.length_take] at this
  omega
theorem puts_all {K add D : List Nt} {i : Nat} (h : Ed.Puts K add i D) {P : Nt → Prop} (h1 : ∀ m ∈ K, P m) (h2 : ∀ m ∈ add, P m) : ∀ m ∈ D, P m := fun m hm => by
  have := h.perm.mem_iff.1 hm
  rcases List.mem_append.1 this with h3 | h3
  · exact h1 m h3
  · exact h2 m (List.mem_of_mem_take h3)
theorem kept_more {l : List Nt} {k : Nat} {m : Nt} {ds : List Int} (h : l[k]? = some m) : Ed.kept (l.take (k + 1)) ds = Ed.kept (l.take k) ds ++ (if ds.contains m.num then [] else [m]) := by
  unfold Ed.kept
  rw [List.take_add_one, h, List.filter_append]
  by_cases hz : m.num ∈ ds
  · simp [hz]
  · simp [hz]
theorem has_more {l : List Int} {k : Nat} {m d : Int} (h : l[k]? = some m) : (l.take (k + 1)).contains d = ((l.take k).contains d || m == d) := by
  rw [List.take_add_one, h, Bool.eq_iff_iff]
  simp only [Option.toList, List.contains_eq_mem, List.mem_append, List.mem_singleton, decide_eq_true_eq, Bool.or_eq_true, beq_iff_eq]
  exact or_congr Iff.rfl eq_comm
theorem int_cellE {w : World} {b off n c : Nat} {zs : List Int} (h : RSrc inK w (some ⟨b, off, none⟩) n c zs) {i : Nat} {x : Int} (hx : zs[i]? = some x) : w.cell? ⟨b, off + i, none⟩ = some (.int .i64 x) := by
  have := h.cells _ rfl (i * inK.size + 0) (.int .i64 x) ((rv_at inK_ok 0 hx (by decide)).trans rfl)
  rw [Addr.add_mid] at this
  simpa [inK] using this

set_option maxHeartbeats 3000000 in
set_option maxRecDepth 100000 in
theorem rapply_any (x : VV) (dp : Option Addr) (dn dc : Nat) (ds : List Int) (ap : Option Addr) (an ac : Nat) (ms : List MV) (w : World) (hx : VV.held w x) (hd : RSrc inK w dp dn dc ds) (ha : RSrc metaKind w ap an ac ms) (hdn : dn ≤ 1000) (han : an ≤ 1000) (hsx : ∀ y ∈ x.es, y.m.first.length ≤ 140737488355328 ∧ y.m.last.length ≤ 140737488355328) (hsa : ∀ y ∈ ms, y.m.first.length ≤ 140737488355328 ∧ y.m.last.length ≤ 140737488355328) :
    Calls Try.prog 9 #[x.val, .slice dp dn dc, .slice ap an ac] w fun e w' => AppA x.v ds (ms.map (·.m)) w e w' := by
  obtain ⟨i0, hi0, hz0, hz1, hz2⟩ := info_partsM infoNoteR
  obtain ⟨X, hX⟩ : ∃ X : VV, x = X := ⟨_, rfl⟩
  have HXX := keep hX
  obtain ⟨p, n, c, gen, next, log, seq, es⟩ := x
  have SX : Hid (RSrc metaKind w p n c es) := hx
  have SD := keep hd
  have SA := keep ha
  have HL : Hid (es.length = n) := hx.len
  have HDL := keep hd.len
  have HAL := keep ha.len
  have SMX : Hid (∀ y ∈ es, y.m.first.length ≤ 140737488355328 ∧ y.m.last.length ≤ 140737488355328) := hsx
  have SMA := keep hsa
  clear hd ha hX hsx hsa hx
  unfold VV.val
  simp only
  obtain ⟨tabs, htabs⟩ : ∃ tabs : List Nt, es.map (·.m) = tabs := ⟨_, rfl⟩
  have HT := keep htabs
  have HTL : Hid (tabs.length = n) := by rw [← htabs]; show _ = _; rw [List.length_map]; exact HL.out
  obtain ⟨V, hV⟩ : ∃ V : Ed.Ver, V = ⟨gen, next, log, seq, tabs⟩ := ⟨_, rfl⟩
  have HV := keep hV
  have EV1 : Hid (VV.v ⟨p, n, c, gen, next, log, seq, es⟩ = V) := by show _ = _; rw [hV, ← htabs]; rfl
  have EVT : Hid (V.tabs = tabs) := by rw [hV]; rfl
  rw [EV1.out]
  obtain ⟨W1, hW1⟩ : ∃ W1, (w.alloc (.cells #[.int .i64 gen, .int .i64 next, .int .i64 log, .int .i64 seq, .slice p n c] 24)).alloc (.cells #[.int .i64 0, .int .i64 0, .int .i64 0, .int .i64 0, .slice none 0 0] 24) = W1 := ⟨_, rfl⟩
  have b1 : Hid (Below w.heap.size w W1) := by rw [← hW1]; exact ((Below.refl _ _).alloc (Nat.le_refl _) _).alloc (by simp) _
  have s1 : Hid (W1.heap.size = w.heap.size + 2) := by rw [← hW1]; show _ = _; simp
  have g0 : Hid (W1.heap[w.heap.size]? = some (.cells #[.int .i64 gen, .int .i64 next, .int .i64 log, .int .i64 seq, .slice p n c] 24)) := by
    rw [← hW1]; exact (Below.heap_alloc _ _ _ (by simp)).trans (heap_alloc_new w _)
  have g1 : Hid (W1.heap[w.heap.size + 1]? = some (.cells #[.int .i64 0, .int .i64 0, .int .i64 0, .int .i64 0, .slice none 0 0] 24)) := by
    have := heap_alloc_new (w.alloc (.cells #[.int .i64 gen, .int .i64 next, .int .i64 log, .int .i64 seq, .slice p n c] 24)) (.cells #[.int .i64 0, .int .i64 0, .int .i64 0, .int .i64 0, .slice none 0 0] 24)
    rw [World.size_alloc] at this
    rw [← hW1]; exact this
  have CK := keep (rcheck_any ⟨p, n, c, gen, next, log, seq, es⟩ W1 (SX.out.below metaKind_ok b1.out))
  unfold VV.val at CK
  rw [EV1.out] at CK
  simp only at CK
  have x0 : W1.cell? ⟨w.heap.size, 0, none⟩ = some (.int .i64 gen) := cell_of_row _ _ _ _ _ _ g0.out
  have x1 : W1.cell? ⟨w.heap.size, 1, none⟩ = some (.int .i64 next) := cell_of_row _ _ _ _ _ _ g0.out
  have x2 : W1.cell? ⟨w.heap.size, 2, none⟩ = some (.int .i64 log) := cell_of_row _ _ _ _ _ _ g0.out
  have x3 : W1.cell? ⟨w.heap.size, 3, none⟩ = some (.int .i64 seq) := cell_of_row _ _ _ _ _ _ g0.out
  have x4 : W1.cell? ⟨w.heap.size, 4, none⟩ = some (.slice p n c) := cell_of_row _ _ _ _ _ _ g0.out
  clear hV htabs
  cases hck : Ed.chk V with
  | false =>
    have NO := keep (fun w' => AppA.no (w := w) (w' := w') (Ed.doc_no (drop := ds) (add := ms.map (·.m)) (.inl hck)))
    have e1 : chkN V = 1 := by unfold chkN; rw [hck]; rfl
    rw [e1] at CK
    clear hck e1
    go_enter Try.func9, Try.ntmps9
    go_wp2_with fail
    refine CK.out.mono ?_
    rintro e w2 ⟨rfl, hb2⟩
    have BZ := keep (b1.out.trans (hb2.mono b1.out.size))
    have GZ : Hid (w2.heap[w.heap.size + 1]? = _) := (hb2.block _ (by rw [s1.out]; omega)).trans g1.out
    clear hb2 CK x0 x1 x2 x3 x4
    have z0 : w2.cell? ⟨w.heap.size + 1, 0, none⟩ = some (.int .i64 0) := cell_of_row _ _ _ _ _ _ GZ.out
    have f0 : w2.frozen? ⟨w.heap.size + 1, 0, none⟩ = false := by simp [World.frozen?, GZ.out]
    have z1 : w2.cell? ⟨w.heap.size + 1, 1, none⟩ = some (.int .i64 0) := cell_of_row _ _ _ _ _ _ GZ.out
    have f1 : w2.frozen? ⟨w.heap.size + 1, 1, none⟩ = false := by simp [World.frozen?, GZ.out]
    have z2 : w2.cell? ⟨w.heap.size + 1, 2, none⟩ = some (.int .i64 0) := cell_of_row _ _ _ _ _ _ GZ.out
    have f2 : w2.frozen? ⟨w.heap.size + 1, 2, none⟩ = false := by simp [World.frozen?, GZ.out]
    have z3 : w2.cell? ⟨w.heap.size + 1, 3, none⟩ = some (.int .i64 0) := cell_of_row _ _ _ _ _ _ GZ.out
    have f3 : w2.frozen? ⟨w.heap.size + 1, 3, none⟩ = false := by simp [World.frozen?, GZ.out]
    have z4 : w2.cell? ⟨w.heap.size + 1, 4, none⟩ = some (.slice none 0 0) := cell_of_row _ _ _ _ _ _ GZ.out
    have f4 : w2.frozen? ⟨w.heap.size + 1, 4, none⟩ = false := by simp [World.frozen?, GZ.out]
    go_wp2
    refine ⟨rfl, .tuple #[.agg #[.int .i64 0, .int .i64 0, .int .i64 0, .int .i64 0, .slice none 0 0], .int .i64 1], ?_, ?_⟩
    · have r0 : (w2.setCell ⟨w.heap.size + 1, 0, none⟩ (.int .i64 0)).cell? ⟨w.heap.size + 1, 0, none⟩ = some (.int .i64 0) := World.cell?_setCell_same' _ _ _ (by simp [go_sem, z0])
      have r1 : ((w2.setCell ⟨w.heap.size + 1, 0, none⟩ (.int .i64 0)).setCell ⟨w.heap.size + 1, 1, none⟩ (.int .i64 0)).cell? ⟨w.heap.size + 1, 1, none⟩ = some (.int .i64 0) := World.cell?_setCell_same' _ _ _ (by simp [go_sem, z1])
      have r2 : (((w2.setCell ⟨w.heap.size + 1, 0, none⟩ (.int .i64 0)).setCell ⟨w.heap.size + 1, 1, none⟩ (.int .i64 0)).setCell ⟨w.heap.size + 1, 2, none⟩ (.int .i64 0)).cell? ⟨w.heap.size + 1, 2, none⟩ = some (.int .i64 0) := World.cell?_setCell_same' _ _ _ (by simp [go_sem, z2])
      have r3 : ((((w2.setCell ⟨w.heap.size + 1, 0, none⟩ (.int .i64 0)).setCell ⟨w.heap.size + 1, 1, none⟩ (.int .i64 0)).setCell ⟨w.heap.size + 1, 2, none⟩ (.int .i64 0)).setCell ⟨w.heap.size + 1, 3, none⟩ (.int .i64 0)).cell? ⟨w.heap.size + 1, 3, none⟩ = some (.int .i64 0) := World.cell?_setCell_same' _ _ _ (by simp [go_sem, z3])
      have r4 : (((((w2.setCell ⟨w.heap.size + 1, 0, none⟩ (.int .i64 0)).setCell ⟨w.heap.size + 1, 1, none⟩ (.int .i64 0)).setCell ⟨w.heap.size + 1, 2, none⟩ (.int .i64 0)).setCell ⟨w.heap.size + 1, 3, none⟩ (.int .i64 0)).setCell ⟨w.heap.size + 1, 4, none⟩ (.slice none 0 0)).cell? ⟨w.heap.size + 1, 4, none⟩ = some (.slice none 0 0) := World.cell?_setCell_same' _ _ _ (by simp [go_sem, z4])
      simp [results, Try.f9, go_sem, loadCells, loadCellsFrom, r0, r1, r2, r3, r4]
    · exact NO.out _ (((((BZ.out.setCell (p := ⟨w.heap.size + 1, 0, none⟩) (Nat.le_succ _) _).setCell (p := ⟨w.heap.size + 1, 1, none⟩) (Nat.le_succ _) _).setCell (p := ⟨w.heap.size + 1, 2, none⟩) (Nat.le_succ _) _).setCell (p := ⟨w.heap.size + 1, 3, none⟩) (Nat.le_succ _) _).setCell (p := ⟨w.heap.size + 1, 4, none⟩) (Nat.le_succ _) _)
  | true =>
    have e1 : chkN V = 0 := by unfold chkN; rw [hck]; rfl
    rw [e1] at CK
    have HCK := keep hck
    clear hck e1
    obtain ⟨hg, _, _, _, hno⟩ := Ed.chk_parts HCK.out
    have hgb := Ed.isNum_bounds hg
    have hlen := Ed.notes_len hno
    rw [EVT.out, HTL.out] at hlen
    have hgl : gen ≤ 1099511627776 := by have := hgb.2; rw [HV.out] at this; exact this
    have hg0 : 0 ≤ gen := by have := hgb.1; rw [HV.out] at this; exact this
    have hn4 : n ≤ 4096 := hlen
    have wg : IntKind.i64.wrap (gen + 1) = gen + 1 := wrap_small _ (by omega) (by omega)
    clear hg hno hgb hlen
    go_enter Try.func9, Try.ntmps9
    go_wp2_with fail
    refine CK.out.mono ?_
    rintro e w2 ⟨rfl, hb2⟩
    have B2 := keep (b1.out.trans (hb2.mono b1.out.size))
    have G2 : Hid (w2.heap[w.heap.size]? = _) := (hb2.block _ (by rw [s1.out]; omega)).trans g0.out
    have R2 : Hid (w2.heap[w.heap.size + 1]? = _) := (hb2.block _ (by rw [s1.out]; omega)).trans g1.out
    have Z2 : Hid (w.heap.size + 2 ≤ w2.heap.size) := by have := hb2.size; rw [s1.out] at this; exact this
    clear hb2 CK x0 x1 x2 x3 x4 hW1
    have hdn1 : (dn : Int) ≤ 1000 := by omega
    have hn1 : (n : Int) ≤ 4096 := by omega
    go_wp2
    go_loopw [8] (fun i wr => ∃ k : Nat, k ≤ dn ∧ i = .int .i64 (k : Int) ∧ Hid (Below w2.heap.size w2 wr ∧ ∀ t, t < k → Ed.okDr tabs ds t = true)) (fun i _ => dn - (intOf i).toNat)
    case atStart => exact ⟨0, Nat.zero_le _, rfl, Below.refl _ _, fun t ht => by omega⟩
    case round =>
      obtain ⟨i, hi, rfl, hI⟩ := hrel
      have HB := keep hI.out.1
      have HO := keep hI.out.2
      have BW := keep (B2.out.trans (HB.out.mono B2.out.size))
      clear hI
      by_cases hin : i < dn
      · obtain ⟨db, doff, rfl, _, _⟩ := SD.out.form inK_ok (by omega)
        obtain ⟨d, hd⟩ : ∃ d, ds[i]? = some d := ⟨ds[i]'(by rw [HDL.out]; exact hin), List.getElem?_eq_getElem _⟩
        have HD := keep hd
        have i0' : (0 : Int) ≤ (i : Int) := by omega
        have i1 : (i : Int) < (dn : Int) := by omega
        have i5 : (i : Int) ≤ 1000 := by omega
        obtain ⟨wo, hwo⟩ : ∃ wo, wo = wr := ⟨_, rfl⟩
        rw [← hwo] at HB BW ⊢
        clear hwo hd
        go_wp2
        go_loopw [9, 10] (fun is k wr => ∃ j : Nat, j ≤ n ∧ k = .int .i64 (j : Int) ∧ is = .bool ((Ed.nums (tabs.take j)).contains d) ∧ Hid (Below wo.heap.size wo wr)) (fun _ k _ => n - (intOf k).toNat)
        case atStart => exact ⟨0, Nat.zero_le _, rfl, by rw [List.take_zero]; rfl, Below.refl _ _⟩
        case round =>
          obtain ⟨j, hj, rfl, rfl, hB⟩ := hrel
          have BJ := keep (BW.out.trans (hB.out.mono BW.out.size))
          have B2J := keep (HB.out.trans (hB.out.mono HB.out.size))
          have c4 : wr.cell? ⟨w.heap.size, 4, none⟩ = some (.slice p n c) := belowE B2J.out (cell_of_row _ _ _ _ _ _ G2.out)
          by_cases hjn : j < n
          · obtain ⟨b, off, rfl, _, _⟩ := SX.out.form metaKind_ok (by omega)
            obtain ⟨y, hy⟩ : ∃ y, es[j]? = some y := ⟨es[j]'(by rw [HL.out]; exact hjn), List.getElem?_eq_getElem _⟩
            have CE : Hid (∀ w', Below wr.heap.size wr w' → w'.cell? ⟨w.heap.size, 4, none⟩ = some (.slice (some ⟨b, off, none⟩) n c)) := fun w' hb => belowE hb c4
            have CM0 : ∀ w', Below wr.heap.size wr w' → _ := fun w' hb => meta_cells ((SX.out.below metaKind_ok BJ.out).below metaKind_ok hb) hy
            have CM := keep CM0
            have CD : Hid (∀ w', Below wr.heap.size wr w' → w'.cell? ⟨db, doff + i, none⟩ = some (.int .i64 d)) := fun w' hb => int_cellE ((SD.out.below inK_ok BJ.out).below inK_ok hb) HD.out
            have NM : Hid ((Ed.nums (tabs.take (j + 1))).contains d = ((Ed.nums (tabs.take j)).contains d || (y.m.num == d))) := by
              have h1 : (Ed.nums tabs)[j]? = some y.m.num := by
                unfold Ed.nums
                rw [List.getElem?_map, ← HT.out, List.getElem?_map, hy]
                rfl
              have h2 := has_more (d := d) h1
              unfold Ed.nums at h2 ⊢
              rw [List.map_take, List.map_take]
              exact h2
            have j0 : (0 : Int) ≤ (j : Int) := by omega
            have j1 : (j : Int) < (n : Int) := by omega
            have j5 : (j : Int) ≤ 4096 := by omega
            clear hy CM0
            obtain ⟨xfp, xfc, xlp, xlc, ⟨xnum, xlevel, xcount, xfirst, xlast⟩⟩ := y
            simp only at CM NM
            cases hq : (Ed.nums (tabs.take j)).contains d with
            | true =>
              rw [hq, Bool.true_or] at NM
              clear hq
              go_wp2_with fail
              refine wp_region_held_drew (S := fun w' => Below wr.heap.size wr w') (by kernel_rfl) ((Below.refl _ _).drew) (fun hZ => ?_)
              refine takeH (i := 0) 34 (v := .bool true) rfl rfl (by kernel_rfl) (by kernel_rfl) (by kernel_rfl) (fun _ _ _ h => h) (Or.inl ⟨by rfl, ?_⟩) (by assumption) ?_
              · intro w' hSw'
                go_simp
              simp only [Act.put, List.setIfInBounds_toArray, List.set_cons_zero, List.set_cons_succ]
              refine takeH (i := 1) 35 (v := .bool true) rfl rfl (by kernel_rfl) (by kernel_rfl) (by kernel_rfl) (fun _ _ _ h => h) (Or.inl ⟨by rfl, ?_⟩) (by assumption) ?_
              · intro w' hSw'
                go_simp
              simp only [Act.put, List.setIfInBounds_toArray, List.set_cons_zero, List.set_cons_succ]
              refine takeH (i := 2) 36 (v := undef) rfl rfl (by kernel_rfl) (by kernel_rfl) (by kernel_rfl) (fun _ _ _ h => h) (Or.inr ⟨by rfl, rfl⟩) (by assumption) ?_
              simp only [Act.put, List.setIfInBounds_toArray, List.set_cons_zero, List.set_cons_succ]
              refine takeH (i := 3) 37 (v := undef) rfl rfl (by kernel_rfl) (by kernel_rfl) (by kernel_rfl) (fun _ _ _ h => h) (Or.inr ⟨by rfl, rfl⟩) (by assumption) ?_
              simp only [Act.put, List.setIfInBounds_toArray, List.set_cons_zero, List.set_cons_succ]
              refine takeH (i := 4) 38 (v := undef) rfl rfl (by kernel_rfl) (by kernel_rfl) (by kernel_rfl) (fun _ _ _ h => h) (Or.inr ⟨by rfl, rfl⟩) (by assumption) ?_
              simp only [Act.put, List.setIfInBounds_toArray, List.set_cons_zero, List.set_cons_succ]
              refine takeH (i := 5) 39 (v := undef) rfl rfl (by kernel_rfl) (by kernel_rfl) (by kernel_rfl) (fun _ _ _ h => h) (Or.inr ⟨by rfl, rfl⟩) (by assumption) ?_
              simp only [Act.put, List.setIfInBounds_toArray, List.set_cons_zero, List.set_cons_succ]
              refine takeH (i := 6) 40 (v := undef) rfl rfl (by kernel_rfl) (by kernel_rfl) (by kernel_rfl) (fun _ _ _ h => h) (Or.inr ⟨by rfl, rfl⟩) (by assumption) ?_
              simp only [Act.put, List.setIfInBounds_toArray, List.set_cons_zero, List.set_cons_succ]
              refine takeH (i := 7) 41 (v := undef) rfl rfl (by kernel_rfl) (by kernel_rfl) (by kernel_rfl) (fun _ _ _ h => h) (Or.inr ⟨by rfl, rfl⟩) (by assumption) ?_
              simp only [Act.put, List.setIfInBounds_toArray, List.set_cons_zero, List.set_cons_succ]
              refine takeH (i := 8) 42 (v := undef) rfl rfl (by kernel_rfl) (by kernel_rfl) (by kernel_rfl) (fun _ _ _ h => h) (Or.inr ⟨by rfl, rfl⟩) (by assumption) ?_
              simp only [Act.put, List.setIfInBounds_toArray, List.set_cons_zero, List.set_cons_succ]
              refine takeH (i := 9) 43 (v := undef) rfl rfl (by kernel_rfl) (by kernel_rfl) (by kernel_rfl) (fun _ _ _ h => h) (Or.inr ⟨by rfl, rfl⟩) (by assumption) ?_
              simp only [Act.put, List.setIfInBounds_toArray, List.set_cons_zero, List.set_cons_succ]
              refine takeH (i := 10) 44 (v := undef) rfl rfl (by kernel_rfl) (by kernel_rfl) (by kernel_rfl) (fun _ _ _ h => h) (Or.inr ⟨by rfl, rfl⟩) (by assumption) ?_
              simp only [Act.put, List.setIfInBounds_toArray, List.set_cons_zero, List.set_cons_succ]
              refine takeH (i := 11) 45 (v := undef) rfl rfl (by kernel_rfl) (by kernel_rfl) (by kernel_rfl) (fun _ _ _ h => h) (Or.inr ⟨by rfl, rfl⟩) (by assumption) ?_
              simp only [Act.put, List.setIfInBounds_toArray, List.set_cons_zero, List.set_cons_succ]
              refine takeH (i := 12) 46 (v := undef) rfl rfl (by kernel_rfl) (by kernel_rfl) (by kernel_rfl) (fun _ _ _ h => h) (Or.inr ⟨by rfl, rfl⟩) (by assumption) ?_
              simp only [Act.put, List.setIfInBounds_toArray, List.set_cons_zero, List.set_cons_succ]
              refine takeH (i := 13) 47 (v := .bool true) rfl rfl (by kernel_rfl) (by kernel_rfl) (by kernel_rfl) (fun _ _ _ h => h) (Or.inl ⟨by rfl, ?_⟩) (by assumption) ?_
              · intro w' hSw'
                go_simp
              simp only [Act.put, List.setIfInBounds_toArray, List.set_cons_zero, List.set_cons_succ]
              refine takeH (i := 14) 9 (v := .bool true) rfl rfl (by kernel_rfl) (by kernel_rfl) (by kernel_rfl) (fun _ _ _ h => h) (Or.inl ⟨by rfl, ?_⟩) (by assumption) ?_
              · intro w' hSw'
                go_simp
              simp only [Act.put, List.setIfInBounds_toArray, List.set_cons_zero, List.set_cons_succ]
              refine wpAnyH_done (by kernel_rfl) ?_ _
              have BF := keep (hB.out.trans ((Below.refl wr.heap.size wr).drew.mono hB.out.size))
              go_wp2
              go_roundw
              case rel => exact ⟨j + 1, by omega, by go_num, by rw [NM.out], BF.out⟩
              case measure => simp [intOf]; omega
            | false =>
              rw [hq, Bool.false_or] at NM
              clear hq
              by_cases he : xnum = d
              · have HEQ : Hid ((xnum == d) = true) := by show _ = _; simpa using he
                rw [HEQ.out] at NM
                clear he
                go_wp2_with fail
                refine wp_region_held_drew (S := fun w' => Below wr.heap.size wr w') (by kernel_rfl) ((Below.refl _ _).drew) (fun hZ => ?_)
                refine takeH (i := 0) 34 (v := .bool false) rfl rfl (by kernel_rfl) (by kernel_rfl) (by kernel_rfl) (fun _ _ _ h => h) (Or.inl ⟨by rfl, ?_⟩) (by assumption) ?_
                · intro w' hSw'
                  go_simp
                simp only [Act.put, List.setIfInBounds_toArray, List.set_cons_zero, List.set_cons_succ]
                refine takeH (i := 1) 35 (v := .bool false) rfl rfl (by kernel_rfl) (by kernel_rfl) (by kernel_rfl) (fun _ _ _ h => h) (Or.inl ⟨by rfl, ?_⟩) (by assumption) ?_
                · intro w' hSw'
                  go_simp
                simp only [Act.put, List.setIfInBounds_toArray, List.set_cons_zero, List.set_cons_succ]
                refine takeH (i := 2) 36 (v := .pointer (some ⟨w.heap.size, 4, none⟩)) rfl rfl (by kernel_rfl) (by kernel_rfl) (by kernel_rfl) (fun _ _ _ h => h) (Or.inl ⟨by rfl, ?_⟩) (by assumption) ?_
                · intro w' hSw'
                  go_simp
                simp only [Act.put, List.setIfInBounds_toArray, List.set_cons_zero, List.set_cons_succ]
                refine takeH (i := 3) 37 (v := .slice (some ⟨b, off, none⟩) n c) rfl rfl (by kernel_rfl) (by kernel_rfl) (by kernel_rfl) (fun _ _ _ h => h) (Or.inl ⟨by rfl, ?_⟩) (by assumption) ?_
                · intro w' hSw'
                  have q4 := CE.out w' hSw'
                  go_simp
                simp only [Act.put, List.setIfInBounds_toArray, List.set_cons_zero, List.set_cons_succ]
                refine takeH (i := 4) 38 (v := .int .i64 (j : Int)) rfl rfl (by kernel_rfl) (by kernel_rfl) (by kernel_rfl) (fun _ _ _ h => h) (Or.inl ⟨by rfl, ?_⟩) (by assumption) ?_
                · intro w' hSw'
                  go_simp
                simp only [Act.put, List.setIfInBounds_toArray, List.set_cons_zero, List.set_cons_succ]
                refine takeH (i := 5) 39 (v := .pointer (some ⟨b, off + j * 5, none⟩)) rfl rfl (by kernel_rfl) (by kernel_rfl) (by kernel_rfl) (fun _ _ _ h => h) (Or.inl ⟨by rfl, ?_⟩) (by assumption) ?_
                · intro w' hSw'
                  go_simp
                simp only [Act.put, List.setIfInBounds_toArray, List.set_cons_zero, List.set_cons_succ]
                refine takeH (i := 6) 40 (v := .pointer (some ⟨b, off + j * 5, none⟩)) rfl rfl (by kernel_rfl) (by kernel_rfl) (by kernel_rfl) (fun _ _ _ h => h) (Or.inl ⟨by rfl, ?_⟩) (by assumption) ?_
                · intro w' hSw'
                  go_simp
                simp only [Act.put, List.setIfInBounds_toArray, List.set_cons_zero, List.set_cons_succ]
                refine takeH (i := 7) 41 (v := .int .i64 xnum) rfl rfl (by kernel_rfl) (by kernel_rfl) (by kernel_rfl) (fun _ _ _ h => h) (Or.inl ⟨by rfl, ?_⟩) (by assumption) ?_
                · intro w' hSw'
                  obtain ⟨y0, y1, y2, y3, y4⟩ := CM.out w' hSw'
                  go_simp
                simp only [Act.put, List.setIfInBounds_toArray, List.set_cons_zero, List.set_cons_succ]
                refine takeH (i := 8) 42 (v := .slice (some ⟨db, doff, none⟩) dn dc) rfl rfl (by kernel_rfl) (by kernel_rfl) (by kernel_rfl) (fun _ _ _ h => h) (Or.inl ⟨by rfl, ?_⟩) (by assumption) ?_
                · intro w' hSw'
                  go_simp
                simp only [Act.put, List.setIfInBounds_toArray, List.set_cons_zero, List.set_cons_succ]
                refine takeH (i := 9) 43 (v := .int .i64 (i : Int)) rfl rfl (by kernel_rfl) (by kernel_rfl) (by kernel_rfl) (fun _ _ _ h => h) (Or.inl ⟨by rfl, ?_⟩) (by assumption) ?_
                · intro w' hSw'
                  go_simp
                simp only [Act.put, List.setIfInBounds_toArray, List.set_cons_zero, List.set_cons_succ]
                refine takeH (i := 10) 44 (v := .pointer (some ⟨db, doff + i, none⟩)) rfl rfl (by kernel_rfl) (by kernel_rfl) (by kernel_rfl) (fun _ _ _ h => h) (Or.inl ⟨by rfl, ?_⟩) (by assumption) ?_
                · intro w' hSw'
                  go_simp
                simp only [Act.put, List.setIfInBounds_toArray, List.set_cons_zero, List.set_cons_succ]
                refine takeH (i := 11) 45 (v := .int .i64 d) rfl rfl (by kernel_rfl) (by kernel_rfl) (by kernel_rfl) (fun _ _ _ h => h) (Or.inl ⟨by rfl, ?_⟩) (by assumption) ?_
                · intro w' hSw'
                  have q5 := CD.out w' hSw'
                  go_simp
                simp only [Act.put, List.setIfInBounds_toArray, List.set_cons_zero, List.set_cons_succ]
                refine takeH (i := 12) 46 (v := .bool true) rfl rfl (by kernel_rfl) (by kernel_rfl) (by kernel_rfl) (fun _ _ _ h => h) (Or.inl ⟨by rfl, ?_⟩) (by assumption) ?_
                · intro w' hSw'
                  have q9 := HEQ.out
                  go_simp
                simp only [Act.put, List.setIfInBounds_toArray, List.set_cons_zero, List.set_cons_succ]
                refine takeH (i := 13) 47 (v := .bool true) rfl rfl (by kernel_rfl) (by kernel_rfl) (by kernel_rfl) (fun _ _ _ h => h) (Or.inl ⟨by rfl, ?_⟩) (by assumption) ?_
                · intro w' hSw'
                  go_simp
                simp only [Act.put, List.setIfInBounds_toArray, List.set_cons_zero, List.set_cons_succ]
                refine takeH (i := 14) 9 (v := .bool true) rfl rfl (by kernel_rfl) (by kernel_rfl) (by kernel_rfl) (fun _ _ _ h => h) (Or.inl ⟨by rfl, ?_⟩) (by assumption) ?_
                · intro w' hSw'
                  go_simp
                simp only [Act.put, List.setIfInBounds_toArray, List.set_cons_zero, List.set_cons_succ]
                refine wpAnyH_done (by kernel_rfl) ?_ _
                have BF := keep (hB.out.trans ((Below.refl wr.heap.size wr).drew.mono hB.out.size))
                go_wp2
                go_roundw
                case rel => exact ⟨j + 1, by omega, by go_num, by rw [NM.out], BF.out⟩
                case measure => simp [intOf]; omega
              · have HEQ : Hid ((xnum == d) = false) := by show _ = _; simpa using he
                rw [HEQ.out] at NM
                clear he
                go_wp2_with fail
                refine wp_region_held_drew (S := fun w' => Below wr.heap.size wr w') (by kernel_rfl) ((Below.refl _ _).drew) (fun hZ => ?_)
                refine takeH (i := 0) 34 (v := .bool false) rfl rfl (by kernel_rfl) (by kernel_rfl) (by kernel_rfl) (fun _ _ _ h => h) (Or.inl ⟨by rfl, ?_⟩) (by assumption) ?_
                · intro w' hSw'
                  go_simp
                simp only [Act.put, List.setIfInBounds_toArray, List.set_cons_zero, List.set_cons_succ]
                refine takeH (i := 1) 35 (v := .bool false) rfl rfl (by kernel_rfl) (by kernel_rfl) (by kernel_rfl) (fun _ _ _ h => h) (Or.inl ⟨by rfl, ?_⟩) (by assumption) ?_
                · intro w' hSw'
                  go_simp
                simp only [Act.put, List.setIfInBounds_toArray, List.set_cons_zero, List.set_cons_succ]
                refine takeH (i := 2) 36 (v := .pointer (some ⟨w.heap.size, 4, none⟩)) rfl rfl (by kernel_rfl) (by kernel_rfl) (by kernel_rfl) (fun _ _ _ h => h) (Or.inl ⟨by rfl, ?_⟩) (by assumption) ?_
                · intro w' hSw'
                  go_simp
                simp only [Act.put, List.setIfInBounds_toArray, List.set_cons_zero, List.set_cons_succ]
                refine takeH (i := 3) 37 (v := .slice (some ⟨b, off, none⟩) n c) rfl rfl (by kernel_rfl) (by kernel_rfl) (by kernel_rfl) (fun _ _ _ h => h) (Or.inl ⟨by rfl, ?_⟩) (by assumption) ?_
                · intro w' hSw'
                  have q4 := CE.out w' hSw'
                  go_simp
                simp only [Act.put, List.setIfInBounds_toArray, List.set_cons_zero, List.set_cons_succ]
                refine takeH (i := 4) 38 (v := .int .i64 (j : Int)) rfl rfl (by kernel_rfl) (by kernel_rfl) (by kernel_rfl) (fun _ _ _ h => h) (Or.inl ⟨by rfl, ?_⟩) (by assumption) ?_
                · intro w' hSw'
                  go_simp
                simp only [Act.put, List.setIfInBounds_toArray, List.set_cons_zero, List.set_cons_succ]
                refine takeH (i := 5) 39 (v := .pointer (some ⟨b, off + j * 5, none⟩)) rfl rfl (by kernel_rfl) (by kernel_rfl) (by kernel_rfl) (fun _ _ _ h => h) (Or.inl ⟨by rfl, ?_⟩) (by assumption) ?_
                · intro w' hSw'
                  go_simp
                simp only [Act.put, List.setIfInBounds_toArray, List.set_cons_zero, List.set_cons_succ]
                refine takeH (i := 6) 40 (v := .pointer (some ⟨b, off + j * 5, none⟩)) rfl rfl (by kernel_rfl) (by kernel_rfl) (by kernel_rfl) (fun _ _ _ h => h) (Or.inl ⟨by rfl, ?_⟩) (by assumption) ?_
                · intro w' hSw'
                  go_simp
                simp only [Act.put, List.setIfInBounds_toArray, List.set_cons_zero, List.set_cons_succ]
                refine takeH (i := 7) 41 (v := .int .i64 xnum) rfl rfl (by kernel_rfl) (by kernel_rfl) (by kernel_rfl) (fun _ _ _ h => h) (Or.inl ⟨by rfl, ?_⟩) (by assumption) ?_
                · intro w' hSw'
                  obtain ⟨y0, y1, y2, y3, y4⟩ := CM.out w' hSw'
                  go_simp
                simp only [Act.put, List.setIfInBounds_toArray, List.set_cons_zero, List.set_cons_succ]
                refine takeH (i := 8) 42 (v := .slice (some ⟨db, doff, none⟩) dn dc) rfl rfl (by kernel_rfl) (by kernel_rfl) (by kernel_rfl) (fun _ _ _ h => h) (Or.inl ⟨by rfl, ?_⟩) (by assumption) ?_
                · intro w' hSw'
                  go_simp
                simp only [Act.put, List.setIfInBounds_toArray, List.set_cons_zero, List.set_cons_succ]
                refine takeH (i := 9) 43 (v := .int .i64 (i : Int)) rfl rfl (by kernel_rfl) (by kernel_rfl) (by kernel_rfl) (fun _ _ _ h => h) (Or.inl ⟨by rfl, ?_⟩) (by assumption) ?_
                · intro w' hSw'
                  go_simp
                simp only [Act.put, List.setIfInBounds_toArray, List.set_cons_zero, List.set_cons_succ]
                refine takeH (i := 10) 44 (v := .pointer (some ⟨db, doff + i, none⟩)) rfl rfl (by kernel_rfl) (by kernel_rfl) (by kernel_rfl) (fun _ _ _ h => h) (Or.inl ⟨by rfl, ?_⟩) (by assumption) ?_
                · intro w' hSw'
                  go_simp
                simp only [Act.put, List.setIfInBounds_toArray, List.set_cons_zero, List.set_cons_succ]
                refine takeH (i := 11) 45 (v := .int .i64 d) rfl rfl (by kernel_rfl) (by kernel_rfl) (by kernel_rfl) (fun _ _ _ h => h) (Or.inl ⟨by rfl, ?_⟩) (by assumption) ?_
                · intro w' hSw'
                  have q5 := CD.out w' hSw'
                  go_simp
                simp only [Act.put, List.setIfInBounds_toArray, List.set_cons_zero, List.set_cons_succ]
                refine takeH (i := 12) 46 (v := .bool false) rfl rfl (by kernel_rfl) (by kernel_rfl) (by kernel_rfl) (fun _ _ _ h => h) (Or.inl ⟨by rfl, ?_⟩) (by assumption) ?_
                · intro w' hSw'
                  have q9 := HEQ.out
                  go_simp
                simp only [Act.put, List.setIfInBounds_toArray, List.set_cons_zero, List.set_cons_succ]
                refine takeH (i := 13) 47 (v := .bool false) rfl rfl (by kernel_rfl) (by kernel_rfl) (by kernel_rfl) (fun _ _ _ h => h) (Or.inl ⟨by rfl, ?_⟩) (by assumption) ?_
                · intro w' hSw'
                  go_simp
                simp only [Act.put, List.setIfInBounds_toArray, List.set_cons_zero, List.set_cons_succ]
                refine takeH (i := 14) 9 (v := .bool false) rfl rfl (by kernel_rfl) (by kernel_rfl) (by kernel_rfl) (fun _ _ _ h => h) (Or.inl ⟨by rfl, ?_⟩) (by assumption) ?_
                · intro w' hSw'
                  go_simp
                simp only [Act.put, List.setIfInBounds_toArray, List.set_cons_zero, List.set_cons_succ]
                refine wpAnyH_done (by kernel_rfl) ?_ _
                have BF := keep (hB.out.trans ((Below.refl wr.heap.size wr).drew.mono hB.out.size))
                go_wp2
                go_roundw
                case rel => exact ⟨j + 1, by omega, by go_num, by rw [NM.out], BF.out⟩
                case measure => simp [intOf]; omega
          · obtain rfl : n = j := by omega
            rw [List.take_of_length_le (by rw [HTL.out]; exact Nat.le_refl _)]
            obtain ⟨q, hq⟩ : ∃ q, (Ed.nums tabs).contains d = q := ⟨_, rfl⟩
            rw [hq]
            have HQ := keep hq
            obtain ⟨wp, hwp⟩ : ∃ wp, wp = wr := ⟨_, rfl⟩
            rw [← hwp] at BJ B2J c4 ⊢
            clear hq hB hwp
            have j1 : ¬ (n : Int) < (n : Int) := by omega
            go_wp2
            clear c4 j1
            go_loopw [9, 11] (fun is k wr => ∃ j : Nat, j ≤ i ∧ k = .int .i64 (j : Int) ∧ is = .bool (q && !((ds.take j).contains d)) ∧ Hid (Below wp.heap.size wp wr)) (fun _ k _ => i - (intOf k).toNat)
            case atStart => exact ⟨0, Nat.zero_le _, rfl, by simp, Below.refl _ _⟩
            case round =>
              obtain ⟨j, hj2, rfl, rfl, hB⟩ := hrel
              have BJ2 := keep (BJ.out.trans (hB.out.mono BJ.out.size))
              have B2P := keep (B2J.out.trans (hB.out.mono B2J.out.size))
              by_cases hji : j < i
              · obtain ⟨f, hf⟩ : ∃ f, ds[j]? = some f := ⟨ds[j]'(by rw [HDL.out]; omega), List.getElem?_eq_getElem _⟩
                have CF : Hid (∀ w', Below wr.heap.size wr w' → w'.cell? ⟨db, doff + j, none⟩ = some (.int .i64 f)) := fun w' hb => int_cellE ((SD.out.below inK_ok BJ2.out).below inK_ok hb) hf
                have CD : Hid (∀ w', Below wr.heap.size wr w' → w'.cell? ⟨db, doff + i, none⟩ = some (.int .i64 d)) := fun w' hb => int_cellE ((SD.out.below inK_ok BJ2.out).below inK_ok hb) HD.out
                have NM := keep (has_more (d := d) hf)
                have j0 : (0 : Int) ≤ (j : Int) := by omega
                have j1 : (j : Int) < (i : Int) := by omega
                have j2 : (j : Int) < (dn : Int) := by omega
                have j5 : (j : Int) ≤ 1000 := by omega
                clear hf
                cases hq : (q && !((ds.take j).contains d)) with
                | false =>
                  have NF : Hid ((q && !((ds.take (j + 1)).contains d)) = false) := by
                    show _ = _
                    rw [NM.out]
                    cases hc : (ds.take j).contains d with
                    | true => rw [Bool.true_or, Bool.not_true, Bool.and_false]
                    | false => rw [hc] at hq; simp at hq; rw [hq]; rfl
                  clear hq
                  go_wp2_with fail
                  refine wp_region_held_drew (S := fun w' => Below wr.heap.size wr w') (by kernel_rfl) ((Below.refl _ _).drew) (fun hZ => ?_)
                  refine takeH (i := 0) 53 (v := .bool false) rfl rfl (by kernel_rfl) (by kernel_rfl) (by kernel_rfl) (fun _ _ _ h => h) (Or.inl ⟨by rfl, ?_⟩) (by assumption) ?_
                  · intro w' hSw'
                    go_simp
                  simp only [Act.put, List.setIfInBounds_toArray, List.set_cons_zero, List.set_cons_succ]
                  refine takeH (i := 1) 54 (v := .bool false) rfl rfl (by kernel_rfl) (by kernel_rfl) (by kernel_rfl) (fun _ _ _ h => h) (Or.inl ⟨by rfl, ?_⟩) (by assumption) ?_
                  · intro w' hSw'
                    go_simp
                  simp only [Act.put, List.setIfInBounds_toArray, List.set_cons_zero, List.set_cons_succ]
                  refine takeH (i := 2) 55 (v := undef) rfl rfl (by kernel_rfl) (by kernel_rfl) (by kernel_rfl) (fun _ _ _ h => h) (Or.inr ⟨by rfl, rfl⟩) (by assumption) ?_
                  simp only [Act.put, List.setIfInBounds_toArray, List.set_cons_zero, List.set_cons_succ]
                  refine takeH (i := 3) 56 (v := undef) rfl rfl (by kernel_rfl) (by kernel_rfl) (by kernel_rfl) (fun _ _ _ h => h) (Or.inr ⟨by rfl, rfl⟩) (by assumption) ?_
                  simp only [Act.put, List.setIfInBounds_toArray, List.set_cons_zero, List.set_cons_succ]
                  refine takeH (i := 4) 57 (v := undef) rfl rfl (by kernel_rfl) (by kernel_rfl) (by kernel_rfl) (fun _ _ _ h => h) (Or.inr ⟨by rfl, rfl⟩) (by assumption) ?_
                  simp only [Act.put, List.setIfInBounds_toArray, List.set_cons_zero, List.set_cons_succ]
                  refine takeH (i := 5) 58 (v := undef) rfl rfl (by kernel_rfl) (by kernel_rfl) (by kernel_rfl) (fun _ _ _ h => h) (Or.inr ⟨by rfl, rfl⟩) (by assumption) ?_
                  simp only [Act.put, List.setIfInBounds_toArray, List.set_cons_zero, List.set_cons_succ]
                  refine takeH (i := 6) 59 (v := undef) rfl rfl (by kernel_rfl) (by kernel_rfl) (by kernel_rfl) (fun _ _ _ h => h) (Or.inr ⟨by rfl, rfl⟩) (by assumption) ?_
                  simp only [Act.put, List.setIfInBounds_toArray, List.set_cons_zero, List.set_cons_succ]
                  refine takeH (i := 7) 60 (v := undef) rfl rfl (by kernel_rfl) (by kernel_rfl) (by kernel_rfl) (fun _ _ _ h => h) (Or.inr ⟨by rfl, rfl⟩) (by assumption) ?_
                  simp only [Act.put, List.setIfInBounds_toArray, List.set_cons_zero, List.set_cons_succ]
                  refine takeH (i := 8) 61 (v := undef) rfl rfl (by kernel_rfl) (by kernel_rfl) (by kernel_rfl) (fun _ _ _ h => h) (Or.inr ⟨by rfl, rfl⟩) (by assumption) ?_
                  simp only [Act.put, List.setIfInBounds_toArray, List.set_cons_zero, List.set_cons_succ]
                  refine takeH (i := 9) 62 (v := undef) rfl rfl (by kernel_rfl) (by kernel_rfl) (by kernel_rfl) (fun _ _ _ h => h) (Or.inr ⟨by rfl, rfl⟩) (by assumption) ?_
                  simp only [Act.put, List.setIfInBounds_toArray, List.set_cons_zero, List.set_cons_succ]
                  refine takeH (i := 10) 63 (v := undef) rfl rfl (by kernel_rfl) (by kernel_rfl) (by kernel_rfl) (fun _ _ _ h => h) (Or.inr ⟨by rfl, rfl⟩) (by assumption) ?_
                  simp only [Act.put, List.setIfInBounds_toArray, List.set_cons_zero, List.set_cons_succ]
                  refine takeH (i := 11) 64 (v := .bool false) rfl rfl (by kernel_rfl) (by kernel_rfl) (by kernel_rfl) (fun _ _ _ h => h) (Or.inl ⟨by rfl, ?_⟩) (by assumption) ?_
                  · intro w' hSw'
                    go_simp
                  simp only [Act.put, List.setIfInBounds_toArray, List.set_cons_zero, List.set_cons_succ]
                  refine takeH (i := 12) 9 (v := .bool false) rfl rfl (by kernel_rfl) (by kernel_rfl) (by kernel_rfl) (fun _ _ _ h => h) (Or.inl ⟨by rfl, ?_⟩) (by assumption) ?_
                  · intro w' hSw'
                    go_simp
                  simp only [Act.put, List.setIfInBounds_toArray, List.set_cons_zero, List.set_cons_succ]
                  refine wpAnyH_done (by kernel_rfl) ?_ _
                  have BF := keep (hB.out.trans ((Below.refl wr.heap.size wr).drew.mono hB.out.size))
                  go_wp2
                  go_roundw
                  case rel => exact ⟨j + 1, by omega, by go_num, by rw [NF.out], BF.out⟩
                  case measure => simp [intOf]; omega
                | true =>
                  have hq' := hq
                  simp only [Bool.and_eq_true, Bool.not_eq_true'] at hq'
                  by_cases he : f = d
                  · have HEQ : Hid ((f == d) = true) := by show _ = _; simpa using he
                    have NF : Hid ((q && !((ds.take (j + 1)).contains d)) = false) := by show _ = _; rw [NM.out, HEQ.out, Bool.or_true]; simp
                    have HNE : Hid (f = d) := he
                    clear hq hq' he
                    go_wp2_with fail
                    refine wp_region_held_drew (S := fun w' => Below wr.heap.size wr w') (by kernel_rfl) ((Below.refl _ _).drew) (fun hZ => ?_)
                    refine takeH (i := 0) 53 (v := .bool true) rfl rfl (by kernel_rfl) (by kernel_rfl) (by kernel_rfl) (fun _ _ _ h => h) (Or.inl ⟨by rfl, ?_⟩) (by assumption) ?_
                    · intro w' hSw'
                      go_simp
                    simp only [Act.put, List.setIfInBounds_toArray, List.set_cons_zero, List.set_cons_succ]
                    refine takeH (i := 1) 54 (v := .bool true) rfl rfl (by kernel_rfl) (by kernel_rfl) (by kernel_rfl) (fun _ _ _ h => h) (Or.inl ⟨by rfl, ?_⟩) (by assumption) ?_
                    · intro w' hSw'
                      go_simp
                    simp only [Act.put, List.setIfInBounds_toArray, List.set_cons_zero, List.set_cons_succ]
                    refine takeH (i := 2) 55 (v := .slice (some ⟨db, doff, none⟩) dn dc) rfl rfl (by kernel_rfl) (by kernel_rfl) (by kernel_rfl) (fun _ _ _ h => h) (Or.inl ⟨by rfl, ?_⟩) (by assumption) ?_
                    · intro w' hSw'
                      go_simp
                    simp only [Act.put, List.setIfInBounds_toArray, List.set_cons_zero, List.set_cons_succ]
                    refine takeH (i := 3) 56 (v := .int .i64 (j : Int)) rfl rfl (by kernel_rfl) (by kernel_rfl) (by kernel_rfl) (fun _ _ _ h => h) (Or.inl ⟨by rfl, ?_⟩) (by assumption) ?_
                    · intro w' hSw'
                      go_simp
                    simp only [Act.put, List.setIfInBounds_toArray, List.set_cons_zero, List.set_cons_succ]
                    refine takeH (i := 4) 57 (v := .pointer (some ⟨db, doff + j, none⟩)) rfl rfl (by kernel_rfl) (by kernel_rfl) (by kernel_rfl) (fun _ _ _ h => h) (Or.inl ⟨by rfl, ?_⟩) (by assumption) ?_
                    · intro w' hSw'
                      go_simp
                    simp only [Act.put, List.setIfInBounds_toArray, List.set_cons_zero, List.set_cons_succ]
                    refine takeH (i := 5) 58 (v := .int .i64 f) rfl rfl (by kernel_rfl) (by kernel_rfl) (by kernel_rfl) (fun _ _ _ h => h) (Or.inl ⟨by rfl, ?_⟩) (by assumption) ?_
                    · intro w' hSw'
                      have q5 := CF.out w' hSw'
                      go_simp
                    simp only [Act.put, List.setIfInBounds_toArray, List.set_cons_zero, List.set_cons_succ]
                    refine takeH (i := 6) 59 (v := .slice (some ⟨db, doff, none⟩) dn dc) rfl rfl (by kernel_rfl) (by kernel_rfl) (by kernel_rfl) (fun _ _ _ h => h) (Or.inl ⟨by rfl, ?_⟩) (by assumption) ?_
                    · intro w' hSw'
                      go_simp
                    simp only [Act.put, List.setIfInBounds_toArray, List.set_cons_zero, List.set_cons_succ]
                    refine takeH (i := 7) 60 (v := .int .i64 (i : Int)) rfl rfl (by kernel_rfl) (by kernel_rfl) (by kernel_rfl) (fun _ _ _ h => h) (Or.inl ⟨by rfl, ?_⟩) (by assumption) ?_
                    · intro w' hSw'
                      go_simp
                    simp only [Act.put, List.setIfInBounds_toArray, List.set_cons_zero, List.set_cons_succ]
                    refine takeH (i := 8) 61 (v := .pointer (some ⟨db, doff + i, none⟩)) rfl rfl (by kernel_rfl) (by kernel_rfl) (by kernel_rfl) (fun _ _ _ h => h) (Or.inl ⟨by rfl, ?_⟩) (by assumption) ?_
                    · intro w' hSw'
                      go_simp
                    simp only [Act.put, List.setIfInBounds_toArray, List.set_cons_zero, List.set_cons_succ]
                    refine takeH (i := 9) 62 (v := .int .i64 d) rfl rfl (by kernel_rfl) (by kernel_rfl) (by kernel_rfl) (fun _ _ _ h => h) (Or.inl ⟨by rfl, ?_⟩) (by assumption) ?_
                    · intro w' hSw'
                      have q5 := CD.out w' hSw'
                      go_simp
                    simp only [Act.put, List.setIfInBounds_toArray, List.set_cons_zero, List.set_cons_succ]
                    refine takeH (i := 10) 63 (v := .bool false) rfl rfl (by kernel_rfl) (by kernel_rfl) (by kernel_rfl) (fun _ _ _ h => h) (Or.inl ⟨by rfl, ?_⟩) (by assumption) ?_
                    · intro w' hSw'
                      go_simp
                      exact HNE.out
                    simp only [Act.put, List.setIfInBounds_toArray, List.set_cons_zero, List.set_cons_succ]
                    refine takeH (i := 11) 64 (v := .bool false) rfl rfl (by kernel_rfl) (by kernel_rfl) (by kernel_rfl) (fun _ _ _ h => h) (Or.inl ⟨by rfl, ?_⟩) (by assumption) ?_
                    · intro w' hSw'
                      go_simp
                    simp only [Act.put, List.setIfInBounds_toArray, List.set_cons_zero, List.set_cons_succ]
                    refine takeH (i := 12) 9 (v := .bool false) rfl rfl (by kernel_rfl) (by kernel_rfl) (by kernel_rfl) (fun _ _ _ h => h) (Or.inl ⟨by rfl, ?_⟩) (by assumption) ?_
                    · intro w' hSw'
                      go_simp
                    simp only [Act.put, List.setIfInBounds_toArray, List.set_cons_zero, List.set_cons_succ]
                    refine wpAnyH_done (by kernel_rfl) ?_ _
                    have BF := keep (hB.out.trans ((Below.refl wr.heap.size wr).drew.mono hB.out.size))
                    go_wp2
                    go_roundw
                    case rel => exact ⟨j + 1, by omega, by go_num, by rw [NF.out], BF.out⟩
                    case measure => simp [intOf]; omega
                  · have HEQ : Hid ((f == d) = false) := by show _ = _; simpa using he
                    have NF : Hid ((q && !((ds.take (j + 1)).contains d)) = true) := by show _ = _; rw [NM.out, HEQ.out, Bool.or_false, hq'.1, hq'.2]; rfl
                    have HNE : Hid (¬ f = d) := he
                    clear hq hq' he
                    go_wp2_with fail
                    refine wp_region_held_drew (S := fun w' => Below wr.heap.size wr w') (by kernel_rfl) ((Below.refl _ _).drew) (fun hZ => ?_)
                    refine takeH (i := 0) 53 (v := .bool true) rfl rfl (by kernel_rfl) (by kernel_rfl) (by kernel_rfl) (fun _ _ _ h => h) (Or.inl ⟨by rfl, ?_⟩) (by assumption) ?_
                    · intro w' hSw'
                      go_simp
                    simp only [Act.put, List.setIfInBounds_toArray, List.set_cons_zero, List.set_cons_succ]
                    refine takeH (i := 1) 54 (v := .bool true) rfl rfl (by kernel_rfl) (by kernel_rfl) (by kernel_rfl) (fun _ _ _ h => h) (Or.inl ⟨by rfl, ?_⟩) (by assumption) ?_
                    · intro w' hSw'
                      go_simp
                    simp only [Act.put, List.setIfInBounds_toArray, List.set_cons_zero, List.set_cons_succ]
                    refine takeH (i := 2) 55 (v := .slice (some ⟨db, doff, none⟩) dn dc) rfl rfl (by kernel_rfl) (by kernel_rfl) (by kernel_rfl) (fun _ _ _ h => h) (Or.inl ⟨by rfl, ?_⟩) (by assumption) ?_
                    · intro w' hSw'
                      go_simp
                    simp only [Act.put, List.setIfInBounds_toArray, List.set_cons_zero, List.set_cons_succ]
                    refine takeH (i := 3) 56 (v := .int .i64 (j : Int)) rfl rfl (by kernel_rfl) (by kernel_rfl) (by kernel_rfl) (fun _ _ _ h => h) (Or.inl ⟨by rfl, ?_⟩) (by assumption) ?_
                    · intro w' hSw'
                      go_simp
                    simp only [Act.put, List.setIfInBounds_toArray, List.set_cons_zero, List.set_cons_succ]
                    refine takeH (i := 4) 57 (v := .pointer (some ⟨db, doff + j, none⟩)) rfl rfl (by kernel_rfl) (by kernel_rfl) (by kernel_rfl) (fun _ _ _ h => h) (Or.inl ⟨by rfl, ?_⟩) (by assumption) ?_
                    · intro w' hSw'
                      go_simp
                    simp only [Act.put, List.setIfInBounds_toArray, List.set_cons_zero, List.set_cons_succ]
                    refine takeH (i := 5) 58 (v := .int .i64 f) rfl rfl (by kernel_rfl) (by kernel_rfl) (by kernel_rfl) (fun _ _ _ h => h) (Or.inl ⟨by rfl, ?_⟩) (by assumption) ?_
                    · intro w' hSw'
                      have q5 := CF.out w' hSw'
                      go_simp
                    simp only [Act.put, List.setIfInBounds_toArray, List.set_cons_zero, List.set_cons_succ]
                    refine takeH (i := 6) 59 (v := .slice (some ⟨db, doff, none⟩) dn dc) rfl rfl (by kernel_rfl) (by kernel_rfl) (by kernel_rfl) (fun _ _ _ h => h) (Or.inl ⟨by rfl, ?_⟩) (by assumption) ?_
                    · intro w' hSw'
                      go_simp
                    simp only [Act.put, List.setIfInBounds_toArray, List.set_cons_zero, List.set_cons_succ]
                    refine takeH (i := 7) 60 (v := .int .i64 (i : Int)) rfl rfl (by kernel_rfl) (by kernel_rfl) (by kernel_rfl) (fun _ _ _ h => h) (Or.inl ⟨by rfl, ?_⟩) (by assumption) ?_
                    · intro w' hSw'
                      go_simp
                    simp only [Act.put, List.setIfInBounds_toArray, List.set_cons_zero, List.set_cons_succ]
                    refine takeH (i := 8) 61 (v := .pointer (some ⟨db, doff + i, none⟩)) rfl rfl (by kernel_rfl) (by kernel_rfl) (by kernel_rfl) (fun _ _ _ h => h) (Or.inl ⟨by rfl, ?_⟩) (by assumption) ?_
                    · intro w' hSw'
                      go_simp
                    simp only [Act.put, List.setIfInBounds_toArray, List.set_cons_zero, List.set_cons_succ]
                    refine takeH (i := 9) 62 (v := .int .i64 d) rfl rfl (by kernel_rfl) (by kernel_rfl) (by kernel_rfl) (fun _ _ _ h => h) (Or.inl ⟨by rfl, ?_⟩) (by assumption) ?_
                    · intro w' hSw'
                      have q5 := CD.out w' hSw'
                      go_simp
                    simp only [Act.put, List.setIfInBounds_toArray, List.set_cons_zero, List.set_cons_succ]
                    refine takeH (i := 10) 63 (v := .bool true) rfl rfl (by kernel_rfl) (by kernel_rfl) (by kernel_rfl) (fun _ _ _ h => h) (Or.inl ⟨by rfl, ?_⟩) (by assumption) ?_
                    · intro w' hSw'
                      go_simp
                      exact HNE.out
                    simp only [Act.put, List.setIfInBounds_toArray, List.set_cons_zero, List.set_cons_succ]
                    refine takeH (i := 11) 64 (v := .bool true) rfl rfl (by kernel_rfl) (by kernel_rfl) (by kernel_rfl) (fun _ _ _ h => h) (Or.inl ⟨by rfl, ?_⟩) (by assumption) ?_
                    · intro w' hSw'
                      go_simp
                    simp only [Act.put, List.setIfInBounds_toArray, List.set_cons_zero, List.set_cons_succ]
                    refine takeH (i := 12) 9 (v := .bool true) rfl rfl (by kernel_rfl) (by kernel_rfl) (by kernel_rfl) (fun _ _ _ h => h) (Or.inl ⟨by rfl, ?_⟩) (by assumption) ?_
                    · intro w' hSw'
                      go_simp
                    simp only [Act.put, List.setIfInBounds_toArray, List.set_cons_zero, List.set_cons_succ]
                    refine wpAnyH_done (by kernel_rfl) ?_ _
                    have BF := keep (hB.out.trans ((Below.refl wr.heap.size wr).drew.mono hB.out.size))
                    go_wp2
                    go_roundw
                    case rel => exact ⟨j + 1, by omega, by go_num, by rw [NF.out], BF.out⟩
                    case measure => simp [intOf]; omega
              · obtain rfl : i = j := by omega
                have OK : Hid (Ed.okDr tabs ds i = (q && !((ds.take i).contains d))) := by
                  show _ = _
                  unfold Ed.okDr
                  rw [HD.out]
                  simp only
                  rw [HQ.out]
                cases hq : (q && !((ds.take i).contains d)) with
                | false =>
                  have NO := keep (fun w' => AppA.no (w := w) (w' := w') (Ed.doc_no (v := V) (drop := ds) (add := ms.map (·.m)) (.inr ⟨HCK.out, by rw [EVT.out]; exact Ed.drops_no (k := i) (by rw [HDL.out]; exact hin) (by rw [OK.out, hq])⟩)))
                  have BZ := keep BJ2.out
                  have GZ : Hid (wr.heap[w.heap.size + 1]? = _) := (B2P.out.block _ (Array.getElem?_eq_some_iff.1 R2.out).1).trans R2.out
                  clear hq
                  have z0 : wr.cell? ⟨w.heap.size + 1, 0, none⟩ = some (.int .i64 0) := cell_of_row _ _ _ _ _ _ GZ.out
                  have f0 : wr.frozen? ⟨w.heap.size + 1, 0, none⟩ = false := by simp [World.frozen?, GZ.out]
                  have z1 : wr.cell? ⟨w.heap.size + 1, 1, none⟩ = some (.int .i64 0) := cell_of_row _ _ _ _ _ _ GZ.out
                  have f1 : wr.frozen? ⟨w.heap.size + 1, 1, none⟩ = false := by simp [World.frozen?, GZ.out]
                  have z2 : wr.cell? ⟨w.heap.size + 1, 2, none⟩ = some (.int .i64 0) := cell_of_row _ _ _ _ _ _ GZ.out
                  have f2 : wr.frozen? ⟨w.heap.size + 1, 2, none⟩ = false := by simp [World.frozen?, GZ.out]
                  have z3 : wr.cell? ⟨w.heap.size + 1, 3, none⟩ = some (.int .i64 0) := cell_of_row _ _ _ _ _ _ GZ.out
                  have f3 : wr.frozen? ⟨w.heap.size + 1, 3, none⟩ = false := by simp [World.frozen?, GZ.out]
                  have z4 : wr.cell? ⟨w.heap.size + 1, 4, none⟩ = some (.slice none 0 0) := cell_of_row _ _ _ _ _ _ GZ.out
                  have f4 : wr.frozen? ⟨w.heap.size + 1, 4, none⟩ = false := by simp [World.frozen?, GZ.out]
                  go_wp2
                  refine ⟨rfl, .tuple #[.agg #[.int .i64 0, .int .i64 0, .int .i64 0, .int .i64 0, .slice none 0 0], .int .i64 1], ?_, ?_⟩
                  · have r0 : (wr.setCell ⟨w.heap.size + 1, 0, none⟩ (.int .i64 0)).cell? ⟨w.heap.size + 1, 0, none⟩ = some (.int .i64 0) := World.cell?_setCell_same' _ _ _ (by simp [go_sem, z0])
                    have r1 : ((wr.setCell ⟨w.heap.size + 1, 0, none⟩ (.int .i64 0)).setCell ⟨w.heap.size + 1, 1, none⟩ (.int .i64 0)).cell? ⟨w.heap.size + 1, 1, none⟩ = some (.int .i64 0) := World.cell?_setCell_same' _ _ _ (by simp [go_sem, z1])
                    have r2 : (((wr.setCell ⟨w.heap.size + 1, 0, none⟩ (.int .i64 0)).setCell ⟨w.heap.size + 1, 1, none⟩ (.int .i64 0)).setCell ⟨w.heap.size + 1, 2, none⟩ (.int .i64 0)).cell? ⟨w.heap.size + 1, 2, none⟩ = some (.int .i64 0) := World.cell?_setCell_same' _ _ _ (by simp [go_sem, z2])
                    have r3 : ((((wr.setCell ⟨w.heap.size + 1, 0, none⟩ (.int .i64 0)).setCell ⟨w.heap.size + 1, 1, none⟩ (.int .i64 0)).setCell ⟨w.heap.size + 1, 2, none⟩ (.int .i64 0)).setCell ⟨w.heap.size + 1, 3, none⟩ (.int .i64 0)).cell? ⟨w.heap.size + 1, 3, none⟩ = some (.int .i64 0) := World.cell?_setCell_same' _ _ _ (by simp [go_sem, z3])
                    have r4 : (((((wr.setCell ⟨w.heap.size + 1, 0, none⟩ (.int .i64 0)).setCell ⟨w.heap.size + 1, 1, none⟩ (.int .i64 0)).setCell ⟨w.heap.size + 1, 2, none⟩ (.int .i64 0)).setCell ⟨w.heap.size + 1, 3, none⟩ (.int .i64 0)).setCell ⟨w.heap.size + 1, 4, none⟩ (.slice none 0 0)).cell? ⟨w.heap.size + 1, 4, none⟩ = some (.slice none 0 0) := World.cell?_setCell_same' _ _ _ (by simp [go_sem, z4])
                    simp [results, Try.f9, go_sem, loadCells, loadCellsFrom, r0, r1, r2, r3, r4]
                  · exact NO.out _ (((((BZ.out.setCell (p := ⟨w.heap.size + 1, 0, none⟩) (Nat.le_succ _) _).setCell (p := ⟨w.heap.size + 1, 1, none⟩) (Nat.le_succ _) _).setCell (p := ⟨w.heap.size + 1, 2, none⟩) (Nat.le_succ _) _).setCell (p := ⟨w.heap.size + 1, 3, none⟩) (Nat.le_succ _) _).setCell (p := ⟨w.heap.size + 1, 4, none⟩) (Nat.le_succ _) _)
                | true =>
                  have NK : Hid (∀ t, t < i + 1 → Ed.okDr tabs ds t = true) := fun t ht => by
                    rcases Nat.lt_or_ge t i with h | h
                    · exact HO.out t h
                    · obtain rfl : t = i := by omega
                      rw [OK.out, hq]
                  have BF := keep B2P.out
                  clear hq
                  go_wp2
                  go_roundw
                  case rel => exact ⟨i + 1, by omega, by go_num, BF.out, NK.out⟩
                  case measure => simp [intOf]; omega
      · obtain rfl : dn = i := by omega
        have DY : Hid (Ed.dropsD V.tabs ds = true) := by rw [EVT.out]; exact Ed.drops_yes (fun t ht => HO.out t (by rw [HDL.out] at ht; exact ht))
        have GW : Hid (wr.heap[w.heap.size]? = _) := (HB.out.block _ (Array.getElem?_eq_some_iff.1 G2.out).1).trans G2.out
        have RW : Hid (wr.heap[w.heap.size + 1]? = _) := (HB.out.block _ (Array.getElem?_eq_some_iff.1 R2.out).1).trans R2.out
        have y0 : wr.cell? ⟨w.heap.size, 0, none⟩ = some (.int .i64 gen) := cell_of_row _ _ _ _ _ _ GW.out
        have y1 : wr.cell? ⟨w.heap.size, 1, none⟩ = some (.int .i64 next) := cell_of_row _ _ _ _ _ _ GW.out
        have y2 : wr.cell? ⟨w.heap.size, 2, none⟩ = some (.int .i64 log) := cell_of_row _ _ _ _ _ _ GW.out
        have y3 : wr.cell? ⟨w.heap.size, 3, none⟩ = some (.int .i64 seq) := cell_of_row _ _ _ _ _ _ GW.out
        have y4 : wr.cell? ⟨w.heap.size, 4, none⟩ = some (.slice p n c) := cell_of_row _ _ _ _ _ _ GW.out
        obtain ⟨W3, hW3⟩ : ∃ W3, wr.alloc (.cells #[.int .i64 gen, .int .i64 next, .int .i64 log, .int .i64 seq, .slice p n c] 24) = W3 := ⟨_, rfl⟩
        have b3 : Hid (Below wr.heap.size wr W3) := by rw [← hW3]; exact (Below.refl _ _).alloc (Nat.le_refl _) _
        have g3 : Hid (W3.heap[wr.heap.size]? = some (.cells #[.int .i64 gen, .int .i64 next, .int .i64 log, .int .i64 seq, .slice p n c] 24)) := by rw [← hW3]; exact heap_alloc_new wr _
        have far : Hid (w.heap.size + 2 ≤ wr.heap.size) := Nat.le_trans Z2.out HB.out.size
        have k0 : W3.cell? ⟨w.heap.size, 0, none⟩ = some (.int .i64 gen) := belowE b3.out y0
        have e0 : W3.cell? ⟨wr.heap.size, 0, none⟩ = some (.int .i64 gen) := cell_of_row _ _ _ _ _ _ g3.out
        have e4 : W3.cell? ⟨wr.heap.size, 4, none⟩ = some (.slice p n c) := cell_of_row _ _ _ _ _ _ g3.out
        have l0 : W3.frozen? ⟨wr.heap.size, 0, none⟩ = false := by simp [World.frozen?, g3.out]
        obtain ⟨W4, hW4⟩ : ∃ W4, W3.setCell ⟨wr.heap.size, 0, none⟩ (.int .i64 (gen + 1)) = W4 := ⟨_, rfl⟩
        have g4 : Hid (W4.heap[wr.heap.size]? = some (.cells #[.int .i64 (gen + 1), .int .i64 next, .int .i64 log, .int .i64 seq, .slice p n c] 24)) := by rw [← hW4]; exact (set_row g3.out 0 _).trans (by simp)
        have e44 : W4.cell? ⟨wr.heap.size, 4, none⟩ = some (.slice p n c) := cell_of_row _ _ _ _ _ _ g4.out
        have l4 : W4.frozen? ⟨wr.heap.size, 4, none⟩ = false := by simp [World.frozen?, g4.out]
        obtain ⟨W5, hW5⟩ : ∃ W5, W4.setCell ⟨wr.heap.size, 4, none⟩ (.slice none 0 0) = W5 := ⟨_, rfl⟩
        obtain ⟨E2, hE2⟩ : ∃ E2, wr.heap.size = E2 := ⟨_, rfl⟩
        have O5 : Hid (OutI w E2 ⟨p, n, c, gen, next, log, seq, es⟩ [] (.slice none 0 0) W5) := by
          have f := far.out
          rw [hE2] at f
          have q0 : W3.heap[w.heap.size]? = _ := (b3.out.block _ (Array.getElem?_eq_some_iff.1 GW.out).1).trans GW.out
          have q1 : W3.heap[w.heap.size + 1]? = _ := (b3.out.block _ (Array.getElem?_eq_some_iff.1 RW.out).1).trans RW.out
          have g5 : W5.heap[wr.heap.size]? = some (.cells #[.int .i64 (gen + 1), .int .i64 next, .int .i64 log, .int .i64 seq, .slice none 0 0] 24) := by rw [← hW5]; exact (set_row g4.out 4 _).trans (by simp)
          have BB : Below w.heap.size w W3 := BW.out.trans (b3.out.mono BW.out.size)
          refine ⟨?_, f, by rw [← hE2]; exact g5, ?_, ?_, World.ownsRow_nil _ _ _ _, (fun y h => by cases h), fun _ => rfl⟩
          · rw [← hW5, ← hW4]
            exact (BB.setCell (p := ⟨wr.heap.size, 0, none⟩) (by show _ ≤ wr.heap.size; omega) _).setCell (p := ⟨wr.heap.size, 4, none⟩) (by show _ ≤ wr.heap.size; omega) _
          · rw [← hW5, ← hW4, set_far _ _ (by omega), set_far _ _ (by omega)]
            exact q0
          · rw [← hW5, ← hW4, set_far _ _ (by omega), set_far _ _ (by omega)]
            exact q1
        clear g3 g4 b3
        rw [hE2] at e0 e4 l0 e44 l4 hW4 hW5
        go_wp2
        clear hW3 hW4 hW5 k0 e0 e4 l0 e44 l4 y0 y1 y2 y3 y4
        have hE2' := hE2
        clear hE2
        go_loopw [13] (fun q wr => ∃ (i : Nat) (ys : List MV) (v : Value), i ≤ n ∧ q = .int .i64 (i : Int) ∧ Hid (OutI w E2 ⟨p, n, c, gen, next, log, seq, es⟩ ys v wr ∧ ys.map (·.m) = Ed.kept (tabs.take i) ds)) (fun q _ => n - (intOf q).toNat)
        case atStart => exact ⟨0, [], _, Nat.zero_le _, rfl, O5.out, by rw [List.take_zero]; rfl⟩
        case round =>
          obtain ⟨i, ys, v, hi2, rfl, hO⟩ := hrel
          have HI := keep hO.out.1
          have HK := keep hO.out.2
          have BI := keep hO.out.1.below
          clear hO O5
          have hyl : ys.length ≤ 4096 := by
            have h1 := congrArg List.length HK.out
            rw [List.length_map] at h1
            unfold Ed.kept at h1
            have h2 := List.length_filter_le (fun m : Nt => !ds.contains m.num) (tabs.take i)
            rw [List.length_take] at h2
            have := HTL.out
            omega
          have c4 : wr.cell? ⟨w.heap.size, 4, none⟩ = some (.slice p n c) := cell_of_row _ _ _ _ _ _ HI.out.box
          by_cases hin : i < n
          · obtain ⟨b, off, rfl, _, _⟩ := SX.out.form metaKind_ok (by omega)
            obtain ⟨y, hy⟩ : ∃ y, es[i]? = some y := ⟨es[i]'(by rw [HL.out]; exact hin), List.getElem?_eq_getElem _⟩
            have KM0 : Hid (∀ w', Below w.heap.size w w' → _) := fun w' hb => meta_cells (SX.out.below metaKind_ok hb) hy
            have KH : Hid (∀ w', Below w.heap.size w w' → metaKind.held w' y) := fun w' hb => (SX.out.below metaKind_ok hb).held y (List.mem_of_getElem? hy)
            have YM := keep (SMX.out y (List.mem_of_getElem? hy))
            have KMO : Hid (Ed.kept (tabs.take (i + 1)) ds = Ed.kept (tabs.take i) ds ++ (if ds.contains y.m.num then [] else [y.m])) := kept_more (by rw [← HT.out, List.getElem?_map, hy]; rfl)
            obtain ⟨wo, hwo⟩ : ∃ wo, wo = wr := ⟨_, rfl⟩
            rw [← hwo] at HI BI c4 ⊢
            have i0' : (0 : Int) ≤ (i : Int) := by omega
            have i1 : (i : Int) < (n : Int) := by omega
            have i5 : (i : Int) ≤ 4096 := by omega
            clear hy hwo
            obtain ⟨xfp, xfc, xlp, xlc, ⟨xnum, xlevel, xcount, xfirst, xlast⟩⟩ := y
            simp only at KM0 KMO YM
            go_wp2
            go_loopw [14, 15] (fun g k wr => ∃ j : Nat, j ≤ dn ∧ k = .int .i64 (j : Int) ∧ g = .bool ((ds.take j).contains xnum) ∧ Hid (Below wo.heap.size wo wr)) (fun _ k _ => dn - (intOf k).toNat)
            case atStart => exact ⟨0, Nat.zero_le _, rfl, by simp, Below.refl _ _⟩
            case round =>
              obtain ⟨j, hj, rfl, rfl, hB⟩ := hrel
              have BJ := keep (BI.out.trans (hB.out.mono BI.out.size))
              have c5 := belowE hB.out c4
              by_cases hjn : j < dn
              · obtain ⟨db, doff, rfl, _, _⟩ := SD.out.form inK_ok (by omega)
                obtain ⟨f, hf⟩ : ∃ f, ds[j]? = some f := ⟨ds[j]'(by rw [HDL.out]; exact hjn), List.getElem?_eq_getElem _⟩
                have CE : Hid (∀ w', Below wr.heap.size wr w' → w'.cell? ⟨w.heap.size, 4, none⟩ = some (.slice (some ⟨b, off, none⟩) n c)) := fun w' hb => belowE hb c5
                have CM : Hid (∀ w', Below wr.heap.size wr w' → _) := fun w' hb => KM0.out w' (BJ.out.trans (hb.mono BJ.out.size))
                have CF : Hid (∀ w', Below wr.heap.size wr w' → w'.cell? ⟨db, doff + j, none⟩ = some (.int .i64 f)) := fun w' hb => int_cellE ((SD.out.below inK_ok BJ.out).below inK_ok hb) hf
                have NM := keep (has_more (d := xnum) hf)
                have j0 : (0 : Int) ≤ (j : Int) := by omega
                have j1 : (j : Int) < (dn : Int) := by omega
                have j5 : (j : Int) ≤ 1000 := by omega
                clear hf
                cases hq : (ds.take j).contains xnum with
                | true =>
                  rw [hq, Bool.true_or] at NM
                  clear hq
                  go_wp2_with fail
                  refine wp_region_held_drew (S := fun w' => Below wr.heap.size wr w') (by kernel_rfl) ((Below.refl _ _).drew) (fun hZ => ?_)
                  refine takeH (i := 0) 87 (v := .bool true) rfl rfl (by kernel_rfl) (by kernel_rfl) (by kernel_rfl) (fun _ _ _ h => h) (Or.inl ⟨by rfl, ?_⟩) (by assumption) ?_
                  · intro w' hSw'
                    go_simp
                  simp only [Act.put, List.setIfInBounds_toArray, List.set_cons_zero, List.set_cons_succ]
                  refine takeH (i := 1) 88 (v := .bool true) rfl rfl (by kernel_rfl) (by kernel_rfl) (by kernel_rfl) (fun _ _ _ h => h) (Or.inl ⟨by rfl, ?_⟩) (by assumption) ?_
                  · intro w' hSw'
                    go_simp
                  simp only [Act.put, List.setIfInBounds_toArray, List.set_cons_zero, List.set_cons_succ]
                  refine takeH (i := 2) 89 (v := undef) rfl rfl (by kernel_rfl) (by kernel_rfl) (by kernel_rfl) (fun _ _ _ h => h) (Or.inr ⟨by rfl, rfl⟩) (by assumption) ?_
                  simp only [Act.put, List.setIfInBounds_toArray, List.set_cons_zero, List.set_cons_succ]
                  refine takeH (i := 3) 90 (v := undef) rfl rfl (by kernel_rfl) (by kernel_rfl) (by kernel_rfl) (fun _ _ _ h => h) (Or.inr ⟨by rfl, rfl⟩) (by assumption) ?_
                  simp only [Act.put, List.setIfInBounds_toArray, List.set_cons_zero, List.set_cons_succ]
                  refine takeH (i := 4) 91 (v := undef) rfl rfl (by kernel_rfl) (by kernel_rfl) (by kernel_rfl) (fun _ _ _ h => h) (Or.inr ⟨by rfl, rfl⟩) (by assumption) ?_
                  simp only [Act.put, List.setIfInBounds_toArray, List.set_cons_zero, List.set_cons_succ]
                  refine takeH (i := 5) 92 (v := undef) rfl rfl (by kernel_rfl) (by kernel_rfl) (by kernel_rfl) (fun _ _ _ h => h) (Or.inr ⟨by rfl, rfl⟩) (by assumption) ?_
                  simp only [Act.put, List.setIfInBounds_toArray, List.set_cons_zero, List.set_cons_succ]
                  refine takeH (i := 6) 93 (v := undef) rfl rfl (by kernel_rfl) (by kernel_rfl) (by kernel_rfl) (fun _ _ _ h => h) (Or.inr ⟨by rfl, rfl⟩) (by assumption) ?_
                  simp only [Act.put, List.setIfInBounds_toArray, List.set_cons_zero, List.set_cons_succ]
                  refine takeH (i := 7) 94 (v := undef) rfl rfl (by kernel_rfl) (by kernel_rfl) (by kernel_rfl) (fun _ _ _ h => h) (Or.inr ⟨by rfl, rfl⟩) (by assumption) ?_
                  simp only [Act.put, List.setIfInBounds_toArray, List.set_cons_zero, List.set_cons_succ]
                  refine takeH (i := 8) 95 (v := undef) rfl rfl (by kernel_rfl) (by kernel_rfl) (by kernel_rfl) (fun _ _ _ h => h) (Or.inr ⟨by rfl, rfl⟩) (by assumption) ?_
                  simp only [Act.put, List.setIfInBounds_toArray, List.set_cons_zero, List.set_cons_succ]
                  refine takeH (i := 9) 96 (v := undef) rfl rfl (by kernel_rfl) (by kernel_rfl) (by kernel_rfl) (fun _ _ _ h => h) (Or.inr ⟨by rfl, rfl⟩) (by assumption) ?_
                  simp only [Act.put, List.setIfInBounds_toArray, List.set_cons_zero, List.set_cons_succ]
                  refine takeH (i := 10) 97 (v := undef) rfl rfl (by kernel_rfl) (by kernel_rfl) (by kernel_rfl) (fun _ _ _ h => h) (Or.inr ⟨by rfl, rfl⟩) (by assumption) ?_
                  simp only [Act.put, List.setIfInBounds_toArray, List.set_cons_zero, List.set_cons_succ]
                  refine takeH (i := 11) 98 (v := undef) rfl rfl (by kernel_rfl) (by kernel_rfl) (by kernel_rfl) (fun _ _ _ h => h) (Or.inr ⟨by rfl, rfl⟩) (by assumption) ?_
                  simp only [Act.put, List.setIfInBounds_toArray, List.set_cons_zero, List.set_cons_succ]
                  refine takeH (i := 12) 99 (v := undef) rfl rfl (by kernel_rfl) (by kernel_rfl) (by kernel_rfl) (fun _ _ _ h => h) (Or.inr ⟨by rfl, rfl⟩) (by assumption) ?_
                  simp only [Act.put, List.setIfInBounds_toArray, List.set_cons_zero, List.set_cons_succ]
                  refine takeH (i := 13) 100 (v := .bool true) rfl rfl (by kernel_rfl) (by kernel_rfl) (by kernel_rfl) (fun _ _ _ h => h) (Or.inl ⟨by rfl, ?_⟩) (by assumption) ?_
                  · intro w' hSw'
                    go_simp
                  simp only [Act.put, List.setIfInBounds_toArray, List.set_cons_zero, List.set_cons_succ]
                  refine takeH (i := 14) 14 (v := .bool true) rfl rfl (by kernel_rfl) (by kernel_rfl) (by kernel_rfl) (fun _ _ _ h => h) (Or.inl ⟨by rfl, ?_⟩) (by assumption) ?_
                  · intro w' hSw'
                    go_simp
                  simp only [Act.put, List.setIfInBounds_toArray, List.set_cons_zero, List.set_cons_succ]
                  refine wpAnyH_done (by kernel_rfl) ?_ _
                  have BF := keep (hB.out.trans ((Below.refl wr.heap.size wr).drew.mono hB.out.size))
                  go_wp2
                  go_roundw
                  case rel => exact ⟨j + 1, by omega, by go_num, by rw [NM.out], BF.out⟩
                  case measure => simp [intOf]; omega
                | false =>
                  rw [hq, Bool.false_or] at NM
                  clear hq
                  by_cases he : f = xnum
                  · have HEQ : Hid ((f == xnum) = true) := by show _ = _; simpa using he
                    rw [HEQ.out] at NM
                    clear he
                    go_wp2_with fail
                    refine wp_region_held_drew (S := fun w' => Below wr.heap.size wr w') (by kernel_rfl) ((Below.refl _ _).drew) (fun hZ => ?_)
                    refine takeH (i := 0) 87 (v := .bool false) rfl rfl (by kernel_rfl) (by kernel_rfl) (by kernel_rfl) (fun _ _ _ h => h) (Or.inl ⟨by rfl, ?_⟩) (by assumption) ?_
                    · intro w' hSw'
                      go_simp
                    simp only [Act.put, List.setIfInBounds_toArray, List.set_cons_zero, List.set_cons_succ]
                    refine takeH (i := 1) 88 (v := .bool false) rfl rfl (by kernel_rfl) (by kernel_rfl) (by kernel_rfl) (fun _ _ _ h => h) (Or.inl ⟨by rfl, ?_⟩) (by assumption) ?_
                    · intro w' hSw'
                      go_simp
                    simp only [Act.put, List.setIfInBounds_toArray, List.set_cons_zero, List.set_cons_succ]
                    refine takeH (i := 2) 89 (v := .slice (some ⟨db, doff, none⟩) dn dc) rfl rfl (by kernel_rfl) (by kernel_rfl) (by kernel_rfl) (fun _ _ _ h => h) (Or.inl ⟨by rfl, ?_⟩) (by assumption) ?_
                    · intro w' hSw'
                      go_simp
                    simp only [Act.put, List.setIfInBounds_toArray, List.set_cons_zero, List.set_cons_succ]
                    refine takeH (i := 3) 90 (v := .int .i64 (j : Int)) rfl rfl (by kernel_rfl) (by kernel_rfl) (by kernel_rfl) (fun _ _ _ h => h) (Or.inl ⟨by rfl, ?_⟩) (by assumption) ?_
                    · intro w' hSw'
                      go_simp
                    simp only [Act.put, List.setIfInBounds_toArray, List.set_cons_zero, List.set_cons_succ]
                    refine takeH (i := 4) 91 (v := .pointer (some ⟨db, doff + j, none⟩)) rfl rfl (by kernel_rfl) (by kernel_rfl) (by kernel_rfl) (fun _ _ _ h => h) (Or.inl ⟨by rfl, ?_⟩) (by assumption) ?_
                    · intro w' hSw'
                      go_simp
                    simp only [Act.put, List.setIfInBounds_toArray, List.set_cons_zero, List.set_cons_succ]
                    refine takeH (i := 5) 92 (v := .int .i64 f) rfl rfl (by kernel_rfl) (by kernel_rfl) (by kernel_rfl) (fun _ _ _ h => h) (Or.inl ⟨by rfl, ?_⟩) (by assumption) ?_
                    · intro w' hSw'
                      have q5 := CF.out w' hSw'
                      go_simp
                    simp only [Act.put, List.setIfInBounds_toArray, List.set_cons_zero, List.set_cons_succ]
                    refine takeH (i := 6) 93 (v := .pointer (some ⟨w.heap.size, 4, none⟩)) rfl rfl (by kernel_rfl) (by kernel_rfl) (by kernel_rfl) (fun _ _ _ h => h) (Or.inl ⟨by rfl, ?_⟩) (by assumption) ?_
                    · intro w' hSw'
                      go_simp
                    simp only [Act.put, List.setIfInBounds_toArray, List.set_cons_zero, List.set_cons_succ]
                    refine takeH (i := 7) 94 (v := .slice (some ⟨b, off, none⟩) n c) rfl rfl (by kernel_rfl) (by kernel_rfl) (by kernel_rfl) (fun _ _ _ h => h) (Or.inl ⟨by rfl, ?_⟩) (by assumption) ?_
                    · intro w' hSw'
                      have q4 := CE.out w' hSw'
                      go_simp
                    simp only [Act.put, List.setIfInBounds_toArray, List.set_cons_zero, List.set_cons_succ]
                    refine takeH (i := 8) 95 (v := .int .i64 (i : Int)) rfl rfl (by kernel_rfl) (by kernel_rfl) (by kernel_rfl) (fun _ _ _ h => h) (Or.inl ⟨by rfl, ?_⟩) (by assumption) ?_
                    · intro w' hSw'
                      go_simp
                    simp only [Act.put, List.setIfInBounds_toArray, List.set_cons_zero, List.set_cons_succ]
                    refine takeH (i := 9) 96 (v := .pointer (some ⟨b, off + i * 5, none⟩)) rfl rfl (by kernel_rfl) (by kernel_rfl) (by kernel_rfl) (fun _ _ _ h => h) (Or.inl ⟨by rfl, ?_⟩) (by assumption) ?_
                    · intro w' hSw'
                      go_simp
                    simp only [Act.put, List.setIfInBounds_toArray, List.set_cons_zero, List.set_cons_succ]
                    refine takeH (i := 10) 97 (v := .pointer (some ⟨b, off + i * 5, none⟩)) rfl rfl (by kernel_rfl) (by kernel_rfl) (by kernel_rfl) (fun _ _ _ h => h) (Or.inl ⟨by rfl, ?_⟩) (by assumption) ?_
                    · intro w' hSw'
                      go_simp
                    simp only [Act.put, List.setIfInBounds_toArray, List.set_cons_zero, List.set_cons_succ]
                    refine takeH (i := 11) 98 (v := .int .i64 xnum) rfl rfl (by kernel_rfl) (by kernel_rfl) (by kernel_rfl) (fun _ _ _ h => h) (Or.inl ⟨by rfl, ?_⟩) (by assumption) ?_
                    · intro w' hSw'
                      obtain ⟨y0, y1, y2, y3, y4⟩ := CM.out w' hSw'
                      go_simp
                    simp only [Act.put, List.setIfInBounds_toArray, List.set_cons_zero, List.set_cons_succ]
                    refine takeH (i := 12) 99 (v := .bool true) rfl rfl (by kernel_rfl) (by kernel_rfl) (by kernel_rfl) (fun _ _ _ h => h) (Or.inl ⟨by rfl, ?_⟩) (by assumption) ?_
                    · intro w' hSw'
                      have q9 := HEQ.out
                      go_simp
                    simp only [Act.put, List.setIfInBounds_toArray, List.set_cons_zero, List.set_cons_succ]
                    refine takeH (i := 13) 100 (v := .bool true) rfl rfl (by kernel_rfl) (by kernel_rfl) (by kernel_rfl) (fun _ _ _ h => h) (Or.inl ⟨by rfl, ?_⟩) (by assumption) ?_
                    · intro w' hSw'
                      go_simp
                    simp only [Act.put, List.setIfInBounds_toArray, List.set_cons_zero, List.set_cons_succ]
                    refine takeH (i := 14) 14 (v := .bool true) rfl rfl (by kernel_rfl) (by kernel_rfl) (by kernel_rfl) (fun _ _ _ h => h) (Or.inl ⟨by rfl, ?_⟩) (by assumption) ?_
                    · intro w' hSw'
                      go_simp
                    simp only [Act.put, List.setIfInBounds_toArray, List.set_cons_zero, List.set_cons_succ]
                    refine wpAnyH_done (by kernel_rfl) ?_ _
                    have BF := keep (hB.out.trans ((Below.refl wr.heap.size wr).drew.mono hB.out.size))
                    go_wp2
                    go_roundw
                    case rel => exact ⟨j + 1, by omega, by go_num, by rw [NM.out], BF.out⟩
                    case measure => simp [intOf]; omega
                  · have HEQ : Hid ((f == xnum) = false) := by show _ = _; simpa using he
                    rw [HEQ.out] at NM
                    clear he
                    go_wp2_with fail
                    refine wp_region_held_drew (S := fun w' => Below wr.heap.size wr w') (by kernel_rfl) ((Below.refl _ _).drew) (fun hZ => ?_)
                    refine takeH (i := 0) 87 (v := .bool false) rfl rfl (by kernel_rfl) (by kernel_rfl) (by kernel_rfl) (fun _ _ _ h => h) (Or.inl ⟨by rfl, ?_⟩) (by assumption) ?_
                    · intro w' hSw'
                      go_simp
                    simp only [Act.put, List.setIfInBounds_toArray, List.set_cons_zero, List.set_cons_succ]
                    refine takeH (i := 1) 88 (v := .bool false) rfl rfl (by kernel_rfl) (by kernel_rfl) (by kernel_rfl) (fun _ _ _ h => h) (Or.inl ⟨by rfl, ?_⟩) (by assumption) ?_
                    · intro w' hSw'
                      go_simp
                    simp only [Act.put, List.setIfInBounds_toArray, List.set_cons_zero, List.set_cons_succ]
                    refine takeH (i := 2) 89 (v := .slice (some ⟨db, doff, none⟩) dn dc) rfl rfl (by kernel_rfl) (by kernel_rfl) (by kernel_rfl) (fun _ _ _ h => h) (Or.inl ⟨by rfl, ?_⟩) (by assumption) ?_
                    · intro w' hSw'
                      go_simp
                    simp only [Act.put, List.setIfInBounds_toArray, List.set_cons_zero, List.set_cons_succ]
                    refine takeH (i := 3) 90 (v := .int .i64 (j : Int)) rfl rfl (by kernel_rfl) (by kernel_rfl) (by kernel_rfl) (fun _ _ _ h => h) (Or.inl ⟨by rfl, ?_⟩) (by assumption) ?_
                    · intro w' hSw'
                      go_simp
                    simp only [Act.put, List.setIfInBounds_toArray, List.set_cons_zero, List.set_cons_succ]
                    refine takeH (i := 4) 91 (v := .pointer (some ⟨db, doff + j, none⟩)) rfl rfl (by kernel_rfl) (by kernel_rfl) (by kernel_rfl) (fun _ _ _ h => h) (Or.inl ⟨by rfl, ?_⟩) (by assumption) ?_
                    · intro w' hSw'
                      go_simp
                    simp only [Act.put, List.setIfInBounds_toArray, List.set_cons_zero, List.set_cons_succ]
                    refine takeH (i := 5) 92 (v := .int .i64 f) rfl rfl (by kernel_rfl) (by kernel_rfl) (by kernel_rfl) (fun _ _ _ h => h) (Or.inl ⟨by rfl, ?_⟩) (by assumption) ?_
                    · intro w' hSw'
                      have q5 := CF.out w' hSw'
                      go_simp
                    simp only [Act.put, List.setIfInBounds_toArray, List.set_cons_zero, List.set_cons_succ]
                    refine takeH (i := 6) 93 (v := .pointer (some ⟨w.heap.size, 4, none⟩)) rfl rfl (by kernel_rfl) (by kernel_rfl) (by kernel_rfl) (fun _ _ _ h => h) (Or.inl ⟨by rfl, ?_⟩) (by assumption) ?_
                    · intro w' hSw'
                      go_simp
                    simp only [Act.put, List.setIfInBounds_toArray, List.set_cons_zero, List.set_cons_succ]
                    refine takeH (i := 7) 94 (v := .slice (some ⟨b, off, none⟩) n c) rfl rfl (by kernel_rfl) (by kernel_rfl) (by kernel_rfl) (fun _ _ _ h => h) (Or.inl ⟨by rfl, ?_⟩) (by assumption) ?_
                    · intro w' hSw'
                      have q4 := CE.out w' hSw'
                      go_simp
                    simp only [Act.put, List.setIfInBounds_toArray, List.set_cons_zero, List.set_cons_succ]
                    refine takeH (i := 8) 95 (v := .int .i64 (i : Int)) rfl rfl (by kernel_rfl) (by kernel_rfl) (by kernel_rfl) (fun _ _ _ h => h) (Or.inl ⟨by rfl, ?_⟩) (by assumption) ?_
                    · intro w' hSw'
                      go_simp
                    simp only [Act.put, List.setIfInBounds_toArray, List.set_cons_zero, List.set_cons_succ]
                    refine takeH (i := 9) 96 (v := .pointer (some ⟨b, off + i * 5, none⟩)) rfl rfl (by kernel_rfl) (by kernel_rfl) (by kernel_rfl) (fun _ _ _ h => h) (Or.inl ⟨by rfl, ?_⟩) (by assumption) ?_
                    · intro w' hSw'
                      go_simp
                    simp only [Act.put, List.setIfInBounds_toArray, List.set_cons_zero, List.set_cons_succ]
                    refine takeH (i := 10) 97 (v := .pointer (some ⟨b, off + i * 5, none⟩)) rfl rfl (by kernel_rfl) (by kernel_rfl) (by kernel_rfl) (fun _ _ _ h => h) (Or.inl ⟨by rfl, ?_⟩) (by assumption) ?_
                    · intro w' hSw'
                      go_simp
                    simp only [Act.put, List.setIfInBounds_toArray, List.set_cons_zero, List.set_cons_succ]
                    refine takeH (i := 11) 98 (v := .int .i64 xnum) rfl rfl (by kernel_rfl) (by kernel_rfl) (by kernel_rfl) (fun _ _ _ h => h) (Or.inl ⟨by rfl, ?_⟩) (by assumption) ?_
                    · intro w' hSw'
                      obtain ⟨y0, y1, y2, y3, y4⟩ := CM.out w' hSw'
                      go_simp
                    simp only [Act.put, List.setIfInBounds_toArray, List.set_cons_zero, List.set_cons_succ]
                    refine takeH (i := 12) 99 (v := .bool false) rfl rfl (by kernel_rfl) (by kernel_rfl) (by kernel_rfl) (fun _ _ _ h => h) (Or.inl ⟨by rfl, ?_⟩) (by assumption) ?_
                    · intro w' hSw'
                      have q9 := HEQ.out
                      go_simp
                    simp only [Act.put, List.setIfInBounds_toArray, List.set_cons_zero, List.set_cons_succ]
                    refine takeH (i := 13) 100 (v := .bool false) rfl rfl (by kernel_rfl) (by kernel_rfl) (by kernel_rfl) (fun _ _ _ h => h) (Or.inl ⟨by rfl, ?_⟩) (by assumption) ?_
                    · intro w' hSw'
                      go_simp
                    simp only [Act.put, List.setIfInBounds_toArray, List.set_cons_zero, List.set_cons_succ]
                    refine takeH (i := 14) 14 (v := .bool false) rfl rfl (by kernel_rfl) (by kernel_rfl) (by kernel_rfl) (fun _ _ _ h => h) (Or.inl ⟨by rfl, ?_⟩) (by assumption) ?_
                    · intro w' hSw'
                      go_simp
                    simp only [Act.put, List.setIfInBounds_toArray, List.set_cons_zero, List.set_cons_succ]
                    refine wpAnyH_done (by kernel_rfl) ?_ _
                    have BF := keep (hB.out.trans ((Below.refl wr.heap.size wr).drew.mono hB.out.size))
                    go_wp2
                    go_roundw
                    case rel => exact ⟨j + 1, by omega, by go_num, by rw [NM.out], BF.out⟩
                    case measure => simp [intOf]; omega
              · obtain rfl : dn = j := by omega
                rw [List.take_of_length_le (by rw [HDL.out]; exact Nat.le_refl _)]
                have HJ := keep (HI.out.to hB.out)
                have j1 : ¬ (dn : Int) < (dn : Int) := by omega
                cases hq : ds.contains xnum with
                | true =>
                  rw [hq, if_pos rfl, List.append_nil] at KMO
                  clear hq
                  go_wp2
                  go_roundw
                  case rel => exact ⟨i + 1, ys, v, by omega, by go_num, HJ.out, by rw [KMO.out]; exact HK.out⟩
                  case measure => simp [intOf]; omega
                | false =>
                  rw [hq, if_neg (by decide)] at KMO
                  clear hq
                  obtain ⟨q, cc, rfl⟩ := own_sliceM HJ.out.row
                  obtain ⟨N, hN⟩ : ∃ N, ys.length = N := ⟨_, rfl⟩
                  have HNN := keep hN
                  rw [hN] at HJ hyl
                  have HRW : Hid (wr.ownsRow w.heap.size 61 5 (.slice q N cc) N (rv metaKind ys)) := by have := HJ.out.row; rw [hN] at this; exact this
                  clear hN
                  have SF : Hid (∀ w', OutI w E2 ⟨some ⟨b, off, none⟩, n, c, gen, next, log, seq, es⟩ ys (.slice q N cc) w' → w'.cell? ⟨E2, 4, none⟩ = some (.slice q N cc) ∧ w'.cell? ⟨w.heap.size, 4, none⟩ = some (.slice (some ⟨b, off, none⟩) n c) ∧ w'.cell? ⟨b, off + i * 5, none⟩ = some (.int .i64 xnum) ∧ w'.cell? ⟨b, off + i * 5 + 1, none⟩ = some (.int .i64 xlevel) ∧ w'.cell? ⟨b, off + i * 5 + 2, none⟩ = some (.int .i64 xcount) ∧ w'.cell? ⟨b, off + i * 5 + 3, none⟩ = some (.slice xfp xfirst.length xfc) ∧ w'.cell? ⟨b, off + i * 5 + 4, none⟩ = some (.slice xlp xlast.length xlc)) := fun w' h => ⟨cell_of_row _ _ _ _ _ _ h.ver, cell_of_row _ _ _ _ _ _ h.box, KM0.out w' h.below⟩
                  have SG : Hid (∀ w' w7, OutI w E2 ⟨some ⟨b, off, none⟩, n, c, gen, next, log, seq, es⟩ ys (.slice q N cc) w' → w'.grownBy w7 (Value.slice q N cc).ownBlock → w7.frozen? ⟨E2, 4, none⟩ = false ∧ w7.cell? ⟨E2, 4, none⟩ = some (.slice q N cc) ∧ w7.cell? ⟨w.heap.size, 4, none⟩ = some (.slice (some ⟨b, off, none⟩) n c) ∧ w7.cell? ⟨b, off + i * 5, none⟩ = some (.int .i64 xnum) ∧ w7.cell? ⟨b, off + i * 5 + 1, none⟩ = some (.int .i64 xlevel) ∧ w7.cell? ⟨b, off + i * 5 + 2, none⟩ = some (.int .i64 xcount) ∧ w7.cell? ⟨b, off + i * 5 + 3, none⟩ = some (.slice xfp xfirst.length xfc) ∧ w7.cell? ⟨b, off + i * 5 + 4, none⟩ = some (.slice xlp xlast.length xlc)) := fun w' w7 h hg => by
                    obtain ⟨b7, e1, e2, _⟩ := h.grown hg
                    have v7 := e1.trans h.ver
                    exact ⟨by simp [World.frozen?, v7], cell_of_row _ _ _ _ _ _ v7, cell_of_row _ _ _ _ _ _ (e2.trans h.box), KM0.out w7 b7⟩
                  have s0 := SF.out wr HJ.out
                  have CP : Hid (∀ w', Below wr.heap.size wr w' → _) := fun w' hb => rmcopy_any ⟨xfp, xfc, xlp, xlc, ⟨xnum, xlevel, xcount, xfirst, xlast⟩⟩ w' YM.out.1 YM.out.2 (KH.out w' (BJ.out.trans (hb.mono BJ.out.size)))
                  unfold mv at CP
                  simp only at CP
                  clear c4 c5
                  have c6 := s0.2.1
                  go_wp2_with fail
                  refine wp_region_parted (fun w' => w'.cell? ⟨E2, 4, none⟩ = some (.slice q N cc) ∧ w'.cell? ⟨w.heap.size, 4, none⟩ = some (.slice (some ⟨b, off, none⟩) n c) ∧ w'.cell? ⟨b, off + i * 5, none⟩ = some (.int .i64 xnum) ∧ w'.cell? ⟨b, off + i * 5 + 1, none⟩ = some (.int .i64 xlevel) ∧ w'.cell? ⟨b, off + i * 5 + 2, none⟩ = some (.int .i64 xcount) ∧ w'.cell? ⟨b, off + i * 5 + 3, none⟩ = some (.slice xfp xfirst.length xfc) ∧ w'.cell? ⟨b, off + i * 5 + 4, none⟩ = some (.slice xlp xlast.length xlc)) 11 _ (by kernel_rfl) rfl rfl rfl (by kernel_rfl) (by kernel_rfl) (by exact s0) (fun hHeld => ?_)
                  simp only [List.setIfInBounds_toArray, List.set_cons_succ, List.set_cons_zero, mute]
                  refine takeH (i := 0) 103 (v := .pointer (some ⟨E2, 4, none⟩)) rfl rfl (by kernel_rfl) (by kernel_rfl) (by kernel_rfl) (fun _ _ _ h => h) (Or.inl ⟨by rfl, ?_⟩) (by assumption) ?_
                  · intro w' hSw'
                    go_simp
                  simp only [Act.put, List.setIfInBounds_toArray, List.set_cons_zero, List.set_cons_succ]
                  refine takeH (i := 1) 104 (v := .slice q N cc) rfl rfl (by kernel_rfl) (by kernel_rfl) (by kernel_rfl) (fun _ _ _ h => h) (Or.inl ⟨by rfl, ?_⟩) (by assumption) ?_
                  · intro w' hSw'
                    obtain ⟨y0, y1, y2, y3, y4, y5, y6⟩ := hSw'
                    go_simp
                  simp only [Act.put, List.setIfInBounds_toArray, List.set_cons_zero, List.set_cons_succ]
                  refine takeH (i := 2) 105 (v := .pointer (some ⟨w.heap.size, 4, none⟩)) rfl rfl (by kernel_rfl) (by kernel_rfl) (by kernel_rfl) (fun _ _ _ h => h) (Or.inl ⟨by rfl, ?_⟩) (by assumption) ?_
                  · intro w' hSw'
                    go_simp
                  simp only [Act.put, List.setIfInBounds_toArray, List.set_cons_zero, List.set_cons_succ]
                  refine takeH (i := 3) 106 (v := .slice (some ⟨b, off, none⟩) n c) rfl rfl (by kernel_rfl) (by kernel_rfl) (by kernel_rfl) (fun _ _ _ h => h) (Or.inl ⟨by rfl, ?_⟩) (by assumption) ?_
                  · intro w' hSw'
                    obtain ⟨y0, y1, y2, y3, y4, y5, y6⟩ := hSw'
                    go_simp
                  simp only [Act.put, List.setIfInBounds_toArray, List.set_cons_zero, List.set_cons_succ]
                  refine takeH (i := 4) 107 (v := .int .i64 (i : Int)) rfl rfl (by kernel_rfl) (by kernel_rfl) (by kernel_rfl) (fun _ _ _ h => h) (Or.inl ⟨by rfl, ?_⟩) (by assumption) ?_
                  · intro w' hSw'
                    go_simp
                  simp only [Act.put, List.setIfInBounds_toArray, List.set_cons_zero, List.set_cons_succ]
                  refine takeH (i := 5) 108 (v := .pointer (some ⟨b, off + i * 5, none⟩)) rfl rfl (by kernel_rfl) (by kernel_rfl) (by kernel_rfl) (fun _ _ _ h => h) (Or.inl ⟨by rfl, ?_⟩) (by assumption) ?_
                  · intro w' hSw'
                    go_simp
                  simp only [Act.put, List.setIfInBounds_toArray, List.set_cons_zero, List.set_cons_succ]
                  refine takeH (i := 6) 109 (v := .agg #[.int .i64 xnum, .int .i64 xlevel, .int .i64 xcount, .slice xfp xfirst.length xfc, .slice xlp xlast.length xlc]) rfl rfl (by kernel_rfl) (by kernel_rfl) (by kernel_rfl) (fun _ _ _ h => h) (Or.inl ⟨by rfl, ?_⟩) (by assumption) ?_
                  · intro w' hSw'
                    obtain ⟨y0, y1, y2, y3, y4, y5, y6⟩ := hSw'
                    go_simp
                  simp only [Act.put, List.setIfInBounds_toArray, List.set_cons_zero, List.set_cons_succ]
                  refine wpAnyH_ready (rs := [7]) (by kernel_rfl) (by simp) ?_
                  refine AllReadyH.cons rfl (fun K hK => ?_) AllReadyH.nil
                  go_simp
                  refine (CP.out wr.drew (Below.refl _ _).drew).mono ?_
                  rintro e w6 ⟨y, rfl, hye, hyo, hb6⟩
                  have YE := keep hye
                  have b6 : Hid (Below wr.heap.size wr w6) := ((Below.refl _ _).drew).trans (hb6.mono (Nat.le_refl _))
                  have I6 := keep (HJ.out.to b6.out)
                  have YO6 := keep (hyo.base (Nat.le_trans BJ.out.size (Nat.le_refl _)))
                  have s6 := SF.out w6 I6.out
                  obtain ⟨x7, hx7⟩ : ∃ x7, w6.alloc (.cells (metaKind.vals y).toArray 61) = x7 := ⟨_, rfl⟩
                  have b7 : Hid (Below w6.heap.size w6 x7) := by rw [← hx7]; exact (Below.refl _ _).alloc (Nat.le_refl _) _
                  have RC : Hid (RSrc metaKind x7 (some ⟨w6.heap.size, 0, none⟩) 1 1 [y]) := by rw [← hx7]; exact RSrc.built1M YO6.out.held
                  have I7 := keep (I6.out.to b7.out)
                  have YO7 := keep (YO6.out.block b7.out)
                  have s7 := SF.out x7 I7.out
                  clear hye hyo hb6
                  obtain ⟨yfp, yfc, ylp, ylc, ⟨ynum, ylevel, ycount, yfirst, ylast⟩⟩ := y
                  simp only [metaKind] at hx7
                  simp only
                  go_wp2_with fail
                  refine hK.out _ _ s6 (fun hA1 => ?_)
                  clear hK K
                  refine wpAnyH_ready (rs := [8]) (by kernel_rfl) (by simp) ?_
                  refine AllReadyH.cons rfl (fun K hK => ?_) AllReadyH.nil
                  go_simp
                  refine hK.out _ _ s7 (fun hA2 => ?_)
                  clear hK K
                  have HR7 : Hid (x7.ownsRow w.heap.size 61 5 (.slice q N cc) N (rv metaKind ys)) := by have := I7.out.row; rw [HNN.out] at this; exact this
                  refine wpAnyH_ready (rs := [9]) (by kernel_rfl) (by simp) ?_
                  refine AllReadyH.cons rfl (fun K hK => ?_) AllReadyH.nil
                  refine step_append_rows rfl _ _ 22 rfl w.heap.size 61 i0 _ 5 72 Try.underlying22 hi0 hz0 hz1 hz2 rfl (by decide) (.slice q N cc) N (rv metaKind ys) rfl HR7.out (some ⟨w6.heap.size, 0, none⟩) 1 1 (rv metaKind [⟨yfp, yfc, ylp, ylc, ⟨ynum, ylevel, ycount, yfirst, ylast⟩⟩]) rfl (fun h => by cases h) rfl RC.out.cells (rv_one metaKind_ok _) (by unfold maxLen; omega) (by omega) I7.out.below.size ?_
                  intro a7 c7 w7 ho7 hg7
                  obtain ⟨of7, oc7⟩ := SG.out x7 w7 I7.out hg7
                  have FN := keep (I7.out.more YO7.out (by rw [HNN.out, rv_append]; exact ho7) hg7)
                  clear ho7 hg7
                  refine hK.out _ _ oc7 (fun hA3 => ?_)
                  clear hK K
                  refine takeH (i := 10) 113 (v := .pointer (some ⟨E2, 4, none⟩)) rfl rfl (by kernel_rfl) (by kernel_rfl) (by kernel_rfl) (fun _ _ _ h => h) (Or.inl ⟨by rfl, ?_⟩) (by assumption) ?_
                  · intro w' hSw'
                    go_simp
                  simp only [Act.put, List.setIfInBounds_toArray]
                  have oc8 := oc7.1
                  refine wpAnyH_ready (rs := [11]) (by kernel_rfl) (by simp) ?_
                  refine AllReadyH.cons rfl (fun K hK => ?_) AllReadyH.nil
                  go_simp
                  refine hK.out _ _ oc7 (fun hA4 => ?_)
                  clear hK K
                  refine wpAnyH_done (by kernel_rfl) ?_ _
                  have FK : Hid ((ys ++ [(⟨yfp, yfc, ylp, ylc, ⟨ynum, ylevel, ycount, yfirst, ylast⟩⟩ : MV)]).map (·.m) = Ed.kept (tabs.take (i + 1)) ds) := by rw [KMO.out, List.map_append, HK.out]; exact congrArg (_ ++ [·]) YE.out
                  unfold LastQ
                  go_simp
                  go_wp2
                  go_roundw
                  case rel => exact ⟨i + 1, _, _, by omega, by go_num, FN.out, FK.out⟩
                  case measure => simp [intOf]; omega
          · obtain rfl : n = i := by omega
            have KF := HK.out
            rw [List.take_of_length_le (by rw [HTL.out]; exact Nat.le_refl _)] at KF
            have P0 : Hid (Ed.Puts (Ed.kept V.tabs ds) (ms.map (·.m)) 0 (ys.map (·.m))) := by
              have := Ed.Puts.start HCK.out ds (ms.map (·.m))
              rw [KF, ← EVT.out]
              exact this
            have KL : Hid ((Ed.kept V.tabs ds).length ≤ 4096) := by
              have h2 := List.length_filter_le (fun m : Nt => !ds.contains m.num) V.tabs
              unfold Ed.kept
              rw [EVT.out, HTL.out] at h2
              rw [EVT.out]
              exact Nat.le_trans h2 hn4
            have KA : Hid (∀ m ∈ Ed.kept V.tabs ds, m.first.length ≤ 140737488355328) := fun m hm => by
              unfold Ed.kept at hm
              have h1 := (List.mem_filter.1 hm).1
              rw [EVT.out, ← HT.out] at h1
              obtain ⟨y, hy, rfl⟩ := List.mem_map.1 h1
              exact (SMX.out y hy).1
            have MA : Hid (∀ m ∈ ms.map (·.m), m.first.length ≤ 140737488355328) := fun m hm => by
              obtain ⟨y, hy, rfl⟩ := List.mem_map.1 hm
              exact (SMA.out y hy).1
            have j1 : ¬ (n : Int) < (n : Int) := by omega
            have I0 := keep HI.out
            clear HI KF HK BI
            go_wp2
            clear c4 j1
            go_loopw [16] (fun q wr => ∃ (i : Nat) (ys : List MV) (v : Value), i ≤ an ∧ q = .int .i64 (i : Int) ∧ Hid (OutI w E2 ⟨p, n, c, gen, next, log, seq, es⟩ ys v wr ∧ Ed.Puts (Ed.kept V.tabs ds) (ms.map (·.m)) i (ys.map (·.m)))) (fun q _ => an - (intOf q).toNat)
            case atStart => exact ⟨0, ys, v, Nat.zero_le _, rfl, I0.out, P0.out⟩
            case round =>
              obtain ⟨i, ys, v, hi3, rfl, hO⟩ := hrel
              have HI := keep hO.out.1
              have HP := keep hO.out.2
              have BI := keep hO.out.1.below
              clear hO I0 P0
              have hyl : ys.length ≤ 5096 := by
                have h1 := puts_len HP.out
                rw [List.length_map] at h1
                have := KL.out
                omega
              by_cases hia : i < an
              · obtain ⟨ab, aoff, rfl, _, _⟩ := SA.out.form metaKind_ok (by omega)
                obtain ⟨y, hy⟩ : ∃ y, ms[i]? = some y := ⟨ms[i]'(by rw [HAL.out]; exact hia), List.getElem?_eq_getElem _⟩
                have KM0 : Hid (∀ w', Below w.heap.size w w' → _) := fun w' hb => meta_cells (SA.out.below metaKind_ok hb) hy
                have KH : Hid (∀ w', Below w.heap.size w w' → metaKind.held w' y) := fun w' hb => (SA.out.below metaKind_ok hb).held y (List.mem_of_getElem? hy)
                have YM := keep (SMA.out y (List.mem_of_getElem? hy))
                have HYM : Hid ((ms.map (·.m))[i]? = some y.m) := by show _ = _; rw [List.getElem?_map, hy]; rfl
                have i0' : (0 : Int) ≤ (i : Int) := by omega
                have i1 : (i : Int) < (an : Int) := by omega
                have i2 : (i : Int) < 5000 := by omega
                clear hy
                obtain ⟨xfp, xfc, xlp, xlc, ⟨xnum, xlevel, xcount, xfirst, xlast⟩⟩ := y
                simp only at KM0 YM HYM
                obtain ⟨q, cc, hv⟩ := own_sliceM HI.out.row
                obtain ⟨N, hN⟩ : ∃ N, ys.length = N := ⟨_, rfl⟩
                have HNN := keep hN
                rw [hN] at hv hyl
                subst hv
                have HRW : Hid (wr.ownsRow w.heap.size 61 5 (.slice q N cc) N (rv metaKind ys)) := by have := HI.out.row; rw [hN] at this; exact this
                obtain ⟨q', cc', eq', hsrc, hcc⟩ := RSrc.own metaKind_ok HRW.out (fun y hy => (HI.out.each y hy).held)
                cases eq'
                have HSR := keep hsrc
                have HCC := keep hcc
                have HFU : Hid (0 < N ∨ cc = 0) := by
                  rcases Nat.eq_zero_or_pos N with h0 | h0
                  · have e1 : ys = [] := List.length_eq_zero_iff.1 (by rw [hN]; exact h0)
                    have e2 := HI.out.full e1
                    cases e2
                    exact .inr rfl
                  · exact .inl h0
                have HYS : Hid (∀ x ∈ ys, x.m.first.length ≤ 140737488355328) := fun x hx => puts_all HP.out (P := fun m => m.first.length ≤ 140737488355328) KA.out MA.out x.m (List.mem_map.2 ⟨x, hx, rfl⟩)
                clear hN hsrc hcc
                have SF : Hid (∀ w', OutI w E2 ⟨p, n, c, gen, next, log, seq, es⟩ ys (.slice q N cc) w' → w'.cell? ⟨E2, 4, none⟩ = some (.slice q N cc) ∧ w'.cell? ⟨ab, aoff + i * 5, none⟩ = some (.int .i64 xnum) ∧ w'.cell? ⟨ab, aoff + i * 5 + 1, none⟩ = some (.int .i64 xlevel) ∧ w'.cell? ⟨ab, aoff + i * 5 + 2, none⟩ = some (.int .i64 xcount) ∧ w'.cell? ⟨ab, aoff + i * 5 + 3, none⟩ = some (.slice xfp xfirst.length xfc) ∧ w'.cell? ⟨ab, aoff + i * 5 + 4, none⟩ = some (.slice xlp xlast.length xlc)) := fun w' h => ⟨cell_of_row _ _ _ _ _ _ h.ver, KM0.out w' h.below⟩
                have s0 := SF.out wr HI.out
                have CP : Hid (∀ w', Below wr.heap.size wr w' → _) := fun w' hb => rmcopy_any ⟨xfp, xfc, xlp, xlc, ⟨xnum, xlevel, xcount, xfirst, xlast⟩⟩ w' YM.out.1 YM.out.2 (KH.out w' (BI.out.trans (hb.mono BI.out.size)))
                unfold mv at CP
                simp only at CP
                go_wp2_with fail
                refine wp_region_parted (fun w' => w'.cell? ⟨E2, 4, none⟩ = some (.slice q N cc) ∧ w'.cell? ⟨ab, aoff + i * 5, none⟩ = some (.int .i64 xnum) ∧ w'.cell? ⟨ab, aoff + i * 5 + 1, none⟩ = some (.int .i64 xlevel) ∧ w'.cell? ⟨ab, aoff + i * 5 + 2, none⟩ = some (.int .i64 xcount) ∧ w'.cell? ⟨ab, aoff + i * 5 + 3, none⟩ = some (.slice xfp xfirst.length xfc) ∧ w'.cell? ⟨ab, aoff + i * 5 + 4, none⟩ = some (.slice xlp xlast.length xlc)) 9 _ (by kernel_rfl) rfl rfl rfl (by kernel_rfl) (by kernel_rfl) (by exact s0) (fun hHeld => ?_)
                simp only [List.setIfInBounds_toArray, List.set_cons_succ, List.set_cons_zero, mute]
                refine takeH (i := 0) 124 (v := .pointer (some ⟨E2, 4, none⟩)) rfl rfl (by kernel_rfl) (by kernel_rfl) (by kernel_rfl) (fun _ _ _ h => h) (Or.inl ⟨by rfl, ?_⟩) (by assumption) ?_
                · intro w' hSw'
                  go_simp
                simp only [Act.put, List.setIfInBounds_toArray, List.set_cons_zero, List.set_cons_succ]
                refine takeH (i := 1) 125 (v := .slice q N cc) rfl rfl (by kernel_rfl) (by kernel_rfl) (by kernel_rfl) (fun _ _ _ h => h) (Or.inl ⟨by rfl, ?_⟩) (by assumption) ?_
                · intro w' hSw'
                  obtain ⟨y0, y2, y3, y4, y5, y6⟩ := hSw'
                  go_simp
                simp only [Act.put, List.setIfInBounds_toArray, List.set_cons_zero, List.set_cons_succ]
                refine takeH (i := 2) 126 (v := .slice (some ⟨ab, aoff, none⟩) an ac) rfl rfl (by kernel_rfl) (by kernel_rfl) (by kernel_rfl) (fun _ _ _ h => h) (Or.inl ⟨by rfl, ?_⟩) (by assumption) ?_
                · intro w' hSw'
                  go_simp
                simp only [Act.put, List.setIfInBounds_toArray, List.set_cons_zero, List.set_cons_succ]
                refine takeH (i := 3) 127 (v := .int .i64 (i : Int)) rfl rfl (by kernel_rfl) (by kernel_rfl) (by kernel_rfl) (fun _ _ _ h => h) (Or.inl ⟨by rfl, ?_⟩) (by assumption) ?_
                · intro w' hSw'
                  go_simp
                simp only [Act.put, List.setIfInBounds_toArray, List.set_cons_zero, List.set_cons_succ]
                refine takeH (i := 4) 128 (v := .pointer (some ⟨ab, aoff + i * 5, none⟩)) rfl rfl (by kernel_rfl) (by kernel_rfl) (by kernel_rfl) (fun _ _ _ h => h) (Or.inl ⟨by rfl, ?_⟩) (by assumption) ?_
                · intro w' hSw'
                  go_simp
                simp only [Act.put, List.setIfInBounds_toArray, List.set_cons_zero, List.set_cons_succ]
                refine takeH (i := 5) 129 (v := .agg #[.int .i64 xnum, .int .i64 xlevel, .int .i64 xcount, .slice xfp xfirst.length xfc, .slice xlp xlast.length xlc]) rfl rfl (by kernel_rfl) (by kernel_rfl) (by kernel_rfl) (fun _ _ _ h => h) (Or.inl ⟨by rfl, ?_⟩) (by assumption) ?_
                · intro w' hSw'
                  obtain ⟨y0, y2, y3, y4, y5, y6⟩ := hSw'
                  go_simp
                simp only [Act.put, List.setIfInBounds_toArray, List.set_cons_zero, List.set_cons_succ]
                refine wpAnyH_ready (rs := [6]) (by kernel_rfl) (by simp) ?_
                refine AllReadyH.cons rfl (fun K hK => ?_) AllReadyH.nil
                go_simp
                refine (CP.out wr.drew (Below.refl _ _).drew).mono ?_
                rintro e w6 ⟨y, rfl, hye, hyo, hb6⟩
                have YE := keep hye
                have b6 : Hid (Below wr.heap.size wr w6) := ((Below.refl _ _).drew).trans (hb6.mono (Nat.le_refl _))
                have I6 := keep (HI.out.to b6.out)
                have YO6 := keep (hyo.base (Nat.le_trans BI.out.size (Nat.le_refl _)))
                have s6 := SF.out w6 I6.out
                have PA := keep (rmput_any q N cc ys y w6 (HSR.out.below metaKind_ok b6.out) (by omega) HCC.out HFU.out YO6.out.held HYS.out (by rw [hye]; exact YM.out.1))
                unfold PutA mv at PA
                have PN := keep (fun (D : List Nt) (k : Nat) (h : D = ys.map (·.m)) (h1 : ∀ (j : Nat) (x : MV), j < k → ys[j]? = some x → Ed.rahead x.m y.m = true) (h2 : ∀ x, ys[k]? = some x → Ed.rahead x.m y.m = false) => HP.out.next (k := k) (m := y.m) (by rw [hye]; exact HYM.out) (fun j x hj hx => by rw [List.getElem?_map] at hx; cases hz : ys[j]? with | none => rw [hz] at hx; cases hx | some z => rw [hz] at hx; cases hx; exact h1 j z hj hz) (fun x hx => by rw [List.getElem?_map] at hx; cases hz : ys[k]? with | none => rw [hz] at hx; cases hx | some z => rw [hz] at hx; cases hx; exact h2 z hz))
                clear hye hyo hb6
                obtain ⟨yfp, yfc, ylp, ylc, ⟨ynum, ylevel, ycount, yfirst, ylast⟩⟩ := y
                simp only at PA PN ⊢
                go_wp2_with fail
                refine hK.out _ _ s6 (fun hA1 => ?_)
                clear hK K
                refine wpAnyH_ready (rs := [7]) (by kernel_rfl) (by simp) ?_
                refine AllReadyH.cons rfl (fun K hK => ?_) AllReadyH.nil
                go_simp
                refine PA.out.mono ?_
                rintro e w7 ⟨a7, m7, c7, k, rfl, ho7, hs7, hm7, hc7, hk7, h1, h2, hb7⟩
                have I7 := keep (I6.out.to hb7)
                have s7 := SF.out w7 I7.out
                have f7 : w7.frozen? ⟨E2, 4, none⟩ = false := by simp [World.frozen?, I7.out.ver]
                have ZL : Hid ((ys.take k ++ [(⟨yfp, yfc, ylp, ylc, ⟨ynum, ylevel, ycount, yfirst, ylast⟩⟩ : MV)] ++ ys.drop k).length = m7) := hs7.len
                have FN : Hid (OutI w E2 ⟨p, n, c, gen, next, log, seq, es⟩ (ys.take k ++ [(⟨yfp, yfc, ylp, ylc, ⟨ynum, ylevel, ycount, yfirst, ylast⟩⟩ : MV)] ++ ys.drop k) (.slice a7 m7 c7) (w7.setCell ⟨E2, 4, none⟩ (.slice a7 m7 c7))) := I7.out.set (by rw [ZL.out]; exact own_base ho7 (fun g hg => Nat.le_trans (Nat.le_trans BI.out.size b6.out.size) (ho7.lt g hg).1)) (fun z hz => by
                  rcases List.mem_append.1 hz with hz | hz
                  · rcases List.mem_append.1 hz with hz | hz
                    · exact I7.out.each z (List.mem_of_mem_take hz)
                    · rw [List.mem_singleton.1 hz]; exact YO6.out.block hb7
                  · exact I7.out.each z (List.mem_of_mem_drop hz)) (by simp)
                have FP : Hid (Ed.Puts (Ed.kept V.tabs ds) (ms.map (·.m)) (i + 1) ((ys.take k ++ [(⟨yfp, yfc, ylp, ylc, ⟨ynum, ylevel, ycount, yfirst, ylast⟩⟩ : MV)] ++ ys.drop k).map (·.m))) := by
                  have := PN.out _ k rfl h1 h2
                  rw [List.map_append, List.map_append, List.map_take, List.map_drop]
                  exact this
                clear ho7 hs7 hm7 hc7 hk7 h1 h2 hb7 PA PN
                go_wp2_with fail
                refine hK.out _ _ s7 (fun hA2 => ?_)
                clear hK K
                refine takeH (i := 8) 132 (v := .pointer (some ⟨E2, 4, none⟩)) rfl rfl (by kernel_rfl) (by kernel_rfl) (by kernel_rfl) (fun _ _ _ h => h) (Or.inl ⟨by rfl, ?_⟩) (by assumption) ?_
                · intro w' hSw'
                  go_simp
                simp only [Act.put, List.setIfInBounds_toArray]
                have oc8 := s7.1
                refine wpAnyH_ready (rs := [9]) (by kernel_rfl) (by simp) ?_
                refine AllReadyH.cons rfl (fun K hK => ?_) AllReadyH.nil
                go_simp
                refine hK.out _ _ s7 (fun hA3 => ?_)
                clear hK K
                refine wpAnyH_done (by kernel_rfl) ?_ _
                unfold LastQ
                go_simp
                go_wp2
                go_roundw
                case rel => exact ⟨i + 1, _, _, by omega, by go_num, FN.out, FP.out⟩
                case measure => simp [intOf]; omega
              · obtain rfl : an = i := by omega
                have i1 : ¬ (an : Int) < (an : Int) := by omega
                have i2 : ¬ (4096 : Int) < (an : Int) := by omega
                obtain ⟨q, cc, hv⟩ := own_sliceM HI.out.row
                subst hv
                obtain ⟨q', cc', eq', hsrc, hcc⟩ := RSrc.own metaKind_ok HI.out.row (fun y hy => (HI.out.each y hy).held)
                cases eq'
                obtain ⟨N, hN⟩ : ∃ N, ys.length = N := ⟨_, rfl⟩
                rw [hN] at hsrc
                have VE := HI.out.ver
                rw [hN] at VE
                simp only at VE
                have CK2 := keep (rcheck_any ⟨q, N, cc, gen + 1, next, log, seq, ys⟩ wr hsrc)
                unfold VV.val at CK2
                simp only at CK2
                have HPA : Hid (Ed.Puts (Ed.kept V.tabs ds) (ms.map (·.m)) (ms.map (·.m)).length (ys.map (·.m))) := by rw [List.length_map, HAL.out]; exact HP.out
                have DA := keep (Ed.doc_applies HCK.out DY.out HPA.out)
                have EV2 : Hid (VV.v ⟨q, N, cc, gen + 1, next, log, seq, ys⟩ = ⟨V.gen + 1, V.next, V.log, V.seq, ys.map (·.m)⟩) := by rw [HV.out]; rfl
                rw [EV2.out] at CK2
                have t0 : wr.cell? ⟨E2, 0, none⟩ = some (.int .i64 (gen + 1)) := cell_of_row _ _ _ _ _ _ VE
                have t1 : wr.cell? ⟨E2, 1, none⟩ = some (.int .i64 next) := cell_of_row _ _ _ _ _ _ VE
                have t2 : wr.cell? ⟨E2, 2, none⟩ = some (.int .i64 log) := cell_of_row _ _ _ _ _ _ VE
                have t3 : wr.cell? ⟨E2, 3, none⟩ = some (.int .i64 seq) := cell_of_row _ _ _ _ _ _ VE
                have t4 : wr.cell? ⟨E2, 4, none⟩ = some (.slice q N cc) := cell_of_row _ _ _ _ _ _ VE
                have HNN := keep hN
                clear hN VE hsrc hcc
                cases hck2 : Ed.chk ⟨V.gen + 1, V.next, V.log, V.seq, ys.map (·.m)⟩ with
                | false =>
                  have NO := keep (fun w' => AppA.no (w := w) (w' := w') (DA.out.1.trans hck2))
                  have e1 : chkN ⟨V.gen + 1, V.next, V.log, V.seq, ys.map (·.m)⟩ = 1 := by unfold chkN; rw [hck2]; rfl
                  rw [e1] at CK2
                  clear hck2 e1
                  go_wp2_with fail
                  refine CK2.out.mono ?_
                  rintro e w9 ⟨rfl, hb9⟩
                  have I9 := keep (HI.out.to hb9)
                  have BZ := keep I9.out.below
                  have GZ := keep I9.out.res
                  clear hb9 CK2 t0 t1 t2 t3 t4
                  have z0 : w9.cell? ⟨w.heap.size + 1, 0, none⟩ = some (.int .i64 0) := cell_of_row _ _ _ _ _ _ GZ.out
                  have f0 : w9.frozen? ⟨w.heap.size + 1, 0, none⟩ = false := by simp [World.frozen?, GZ.out]
                  have z1 : w9.cell? ⟨w.heap.size + 1, 1, none⟩ = some (.int .i64 0) := cell_of_row _ _ _ _ _ _ GZ.out
                  have f1 : w9.frozen? ⟨w.heap.size + 1, 1, none⟩ = false := by simp [World.frozen?, GZ.out]
                  have z2 : w9.cell? ⟨w.heap.size + 1, 2, none⟩ = some (.int .i64 0) := cell_of_row _ _ _ _ _ _ GZ.out
                  have f2 : w9.frozen? ⟨w.heap.size + 1, 2, none⟩ = false := by simp [World.frozen?, GZ.out]
                  have z3 : w9.cell? ⟨w.heap.size + 1, 3, none⟩ = some (.int .i64 0) := cell_of_row _ _ _ _ _ _ GZ.out
                  have f3 : w9.frozen? ⟨w.heap.size + 1, 3, none⟩ = false := by simp [World.frozen?, GZ.out]
                  have z4 : w9.cell? ⟨w.heap.size + 1, 4, none⟩ = some (.slice none 0 0) := cell_of_row _ _ _ _ _ _ GZ.out
                  have f4 : w9.frozen? ⟨w.heap.size + 1, 4, none⟩ = false := by simp [World.frozen?, GZ.out]
                  go_wp2
                  refine ⟨rfl, .tuple #[.agg #[.int .i64 0, .int .i64 0, .int .i64 0, .int .i64 0, .slice none 0 0], .int .i64 1], ?_, ?_⟩
                  · have r0 : (w9.setCell ⟨w.heap.size + 1, 0, none⟩ (.int .i64 0)).cell? ⟨w.heap.size + 1, 0, none⟩ = some (.int .i64 0) := World.cell?_setCell_same' _ _ _ (by simp [go_sem, z0])
                    have r1 : ((w9.setCell ⟨w.heap.size + 1, 0, none⟩ (.int .i64 0)).setCell ⟨w.heap.size + 1, 1, none⟩ (.int .i64 0)).cell? ⟨w.heap.size + 1, 1, none⟩ = some (.int .i64 0) := World.cell?_setCell_same' _ _ _ (by simp [go_sem, z1])
                    have r2 : (((w9.setCell ⟨w.heap.size + 1, 0, none⟩ (.int .i64 0)).setCell ⟨w.heap.size + 1, 1, none⟩ (.int .i64 0)).setCell ⟨w.heap.size + 1, 2, none⟩ (.int .i64 0)).cell? ⟨w.heap.size + 1, 2, none⟩ = some (.int .i64 0) := World.cell?_setCell_same' _ _ _ (by simp [go_sem, z2])
                    have r3 : ((((w9.setCell ⟨w.heap.size + 1, 0, none⟩ (.int .i64 0)).setCell ⟨w.heap.size + 1, 1, none⟩ (.int .i64 0)).setCell ⟨w.heap.size + 1, 2, none⟩ (.int .i64 0)).setCell ⟨w.heap.size + 1, 3, none⟩ (.int .i64 0)).cell? ⟨w.heap.size + 1, 3, none⟩ = some (.int .i64 0) := World.cell?_setCell_same' _ _ _ (by simp [go_sem, z3])
                    have r4 : (((((w9.setCell ⟨w.heap.size + 1, 0, none⟩ (.int .i64 0)).setCell ⟨w.heap.size + 1, 1, none⟩ (.int .i64 0)).setCell ⟨w.heap.size + 1, 2, none⟩ (.int .i64 0)).setCell ⟨w.heap.size + 1, 3, none⟩ (.int .i64 0)).setCell ⟨w.heap.size + 1, 4, none⟩ (.slice none 0 0)).cell? ⟨w.heap.size + 1, 4, none⟩ = some (.slice none 0 0) := World.cell?_setCell_same' _ _ _ (by simp [go_sem, z4])
                    simp [results, Try.f9, go_sem, loadCells, loadCellsFrom, r0, r1, r2, r3, r4]
                  · exact NO.out _ (((((BZ.out.setCell (p := ⟨w.heap.size + 1, 0, none⟩) (Nat.le_succ _) _).setCell (p := ⟨w.heap.size + 1, 1, none⟩) (Nat.le_succ _) _).setCell (p := ⟨w.heap.size + 1, 2, none⟩) (Nat.le_succ _) _).setCell (p := ⟨w.heap.size + 1, 3, none⟩) (Nat.le_succ _) _).setCell (p := ⟨w.heap.size + 1, 4, none⟩) (Nat.le_succ _) _)
                | true =>
                  have DB := keep (DA.out.2 hck2)
                  have AP : Hid (Ed.applies V ds (ms.map (·.m)) = true) := DA.out.1.trans hck2
                  have e1 : chkN ⟨V.gen + 1, V.next, V.log, V.seq, ys.map (·.m)⟩ = 0 := by unfold chkN; rw [hck2]; rfl
                  rw [e1] at CK2
                  clear hck2 e1
                  go_wp2_with fail
                  refine CK2.out.mono ?_
                  rintro e w9 ⟨rfl, hb9⟩
                  have I9 := keep (HI.out.to hb9)
                  have BZ := keep I9.out.below
                  have GZ := keep I9.out.res
                  have a0 := belowE hb9 t0
                  have a1 := belowE hb9 t1
                  have a2 := belowE hb9 t2
                  have a3 := belowE hb9 t3
                  have a4 := belowE hb9 t4
                  clear hb9 CK2 t0 t1 t2 t3 t4
                  have z0 : w9.cell? ⟨w.heap.size + 1, 0, none⟩ = some (.int .i64 0) := cell_of_row _ _ _ _ _ _ GZ.out
                  have f0 : w9.frozen? ⟨w.heap.size + 1, 0, none⟩ = false := by simp [World.frozen?, GZ.out]
                  have z1 : w9.cell? ⟨w.heap.size + 1, 1, none⟩ = some (.int .i64 0) := cell_of_row _ _ _ _ _ _ GZ.out
                  have f1 : w9.frozen? ⟨w.heap.size + 1, 1, none⟩ = false := by simp [World.frozen?, GZ.out]
                  have z2 : w9.cell? ⟨w.heap.size + 1, 2, none⟩ = some (.int .i64 0) := cell_of_row _ _ _ _ _ _ GZ.out
                  have f2 : w9.frozen? ⟨w.heap.size + 1, 2, none⟩ = false := by simp [World.frozen?, GZ.out]
                  have z3 : w9.cell? ⟨w.heap.size + 1, 3, none⟩ = some (.int .i64 0) := cell_of_row _ _ _ _ _ _ GZ.out
                  have f3 : w9.frozen? ⟨w.heap.size + 1, 3, none⟩ = false := by simp [World.frozen?, GZ.out]
                  have z4 : w9.cell? ⟨w.heap.size + 1, 4, none⟩ = some (.slice none 0 0) := cell_of_row _ _ _ _ _ _ GZ.out
                  have f4 : w9.frozen? ⟨w.heap.size + 1, 4, none⟩ = false := by simp [World.frozen?, GZ.out]
                  have HRF := keep I9.out.row
                  have HEF := keep I9.out.each
                  go_wp2
                  refine ⟨rfl, .tuple #[.agg #[.int .i64 (gen + 1), .int .i64 next, .int .i64 log, .int .i64 seq, .slice q N cc], .int .i64 0], ?_, ?_⟩
                  · have r0 : (w9.setCell ⟨w.heap.size + 1, 0, none⟩ (.int .i64 (gen + 1))).cell? ⟨w.heap.size + 1, 0, none⟩ = some (.int .i64 (gen + 1)) := World.cell?_setCell_same' _ _ _ (by simp [go_sem, z0])
                    have r1 : ((w9.setCell ⟨w.heap.size + 1, 0, none⟩ (.int .i64 (gen + 1))).setCell ⟨w.heap.size + 1, 1, none⟩ (.int .i64 next)).cell? ⟨w.heap.size + 1, 1, none⟩ = some (.int .i64 next) := World.cell?_setCell_same' _ _ _ (by simp [go_sem, z1])
                    have r2 : (((w9.setCell ⟨w.heap.size + 1, 0, none⟩ (.int .i64 (gen + 1))).setCell ⟨w.heap.size + 1, 1, none⟩ (.int .i64 next)).setCell ⟨w.heap.size + 1, 2, none⟩ (.int .i64 log)).cell? ⟨w.heap.size + 1, 2, none⟩ = some (.int .i64 log) := World.cell?_setCell_same' _ _ _ (by simp [go_sem, z2])
                    have r3 : ((((w9.setCell ⟨w.heap.size + 1, 0, none⟩ (.int .i64 (gen + 1))).setCell ⟨w.heap.size + 1, 1, none⟩ (.int .i64 next)).setCell ⟨w.heap.size + 1, 2, none⟩ (.int .i64 log)).setCell ⟨w.heap.size + 1, 3, none⟩ (.int .i64 seq)).cell? ⟨w.heap.size + 1, 3, none⟩ = some (.int .i64 seq) := World.cell?_setCell_same' _ _ _ (by simp [go_sem, z3])
                    have r4 : (((((w9.setCell ⟨w.heap.size + 1, 0, none⟩ (.int .i64 (gen + 1))).setCell ⟨w.heap.size + 1, 1, none⟩ (.int .i64 next)).setCell ⟨w.heap.size + 1, 2, none⟩ (.int .i64 log)).setCell ⟨w.heap.size + 1, 3, none⟩ (.int .i64 seq)).setCell ⟨w.heap.size + 1, 4, none⟩ (.slice q N cc)).cell? ⟨w.heap.size + 1, 4, none⟩ = some (.slice q N cc) := World.cell?_setCell_same' _ _ _ (by simp [go_sem, z4])
                    simp [results, Try.f9, go_sem, loadCells, loadCellsFrom, r0, r1, r2, r3, r4]
                  · refine ⟨⟨⟨q, N, cc, gen + 1, next, log, seq, ys⟩, by rw [AP.out]; rfl, ?_, ?_⟩, (((((BZ.out.setCell (p := ⟨w.heap.size + 1, 0, none⟩) (Nat.le_succ _) _).setCell (p := ⟨w.heap.size + 1, 1, none⟩) (Nat.le_succ _) _).setCell (p := ⟨w.heap.size + 1, 2, none⟩) (Nat.le_succ _) _).setCell (p := ⟨w.heap.size + 1, 3, none⟩) (Nat.le_succ _) _).setCell (p := ⟨w.heap.size + 1, 4, none⟩) (Nat.le_succ _) _)⟩
                    · have h1 := own_five HRF.out GZ.out (by decide) (.int .i64 (gen + 1)) (.int .i64 next) (.int .i64 log) (.int .i64 seq) (.slice q N cc)
                      obtain ⟨q2, c2, e2, h2, _⟩ := RSrc.own metaKind_ok h1 (fun y hy => OwnM.held ⟨own_five (HEF.out y hy).1 GZ.out (by decide) _ _ _ _ _, own_five (HEF.out y hy).2 GZ.out (by decide) _ _ _ _ _⟩)
                      cases e2
                      rw [HNN.out] at h2
                      exact h2
                    · rw [AP.out, if_pos rfl, DB.out, EV2.out]
end Go.Proofs.Ytbahldabcieiaaa
