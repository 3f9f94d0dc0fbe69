/- The walk of slices.DeleteFunc over notes, of without and its closure. -/
import Derived.Test.YthaiodajfmbeaaaGreatJoinHc
namespace Go.Proofs.YthaiodajfmbeaaaGreat
open Go.RowKit
open Ed (Nt)

/-- One record of a row set anew. -/
theorem rv_set5 (y : MV) : ∀ (cur : List MV) (i : Nat), i < cur.length → rv metaKind (cur.set i y) = (((((rv metaKind cur).set (i * 5) (.int .i64 y.m.num)).set (i * 5 + 1) (.int .i64 y.m.level)).set (i * 5 + 2) (.int .i64 y.m.count)).set (i * 5 + 3) (.slice y.fp y.m.first.length y.fc)).set (i * 5 + 4) (.slice y.lp y.m.last.length y.lc)
  | [], i, h => by simp at h
  | e :: t, 0, _ => by simp [rv, metaKind]
  | e :: t, i + 1, h => by
    have ih := rv_set5 y t i (by simpa using h)
    rw [List.set_cons_succ]
    simp only [rv]
    rw [ih]
    have hl : (metaKind.vals e).length = 5 := rfl
    have step : ∀ (A : List Value) (j : Nat) (u : Value), (metaKind.vals e ++ A).set ((i + 1) * 5 + j) u = metaKind.vals e ++ A.set (i * 5 + j) u := fun A j u => by
      rw [List.set_append_right _ _ (by rw [hl]; omega), hl]
      congr 2
      omega
    rw [show (i + 1) * 5 = (i + 1) * 5 + 0 from rfl, step _ 0, step _ 1, step _ 2, step _ 3, step _ 4]
    rfl
/-- Row g holds these notes, in its first places. -/
structure RowG (w : World) (g cap : Nat) (cur : List MV) : Prop where
  ex : ∃ arr, w.heap[g]? = some (.cells arr 39 (0, 0)) ∧ arr.size = cap * 5 ∧ arr.toList.take (cur.length * 5) = rv metaKind cur
  le : cur.length ≤ cap
theorem RowG.of {w : World} {B g cap n : Nat} {cur : List MV} (h : w.ownsRow B 39 5 (.slice (some ⟨g, 0, none⟩) n cap) n (rv metaKind cur)) (hl : cur.length = n) : RowG w g cap cur ∧ B ≤ g ∧ g < w.heap.size := by
  rcases h.2 with ⟨h0, _⟩ | ⟨g', cap', cu, e, h1, h2, h3, h4, h5, h6⟩
  · cases h0
  · cases e
    exact ⟨⟨⟨cu, h2, h5, by rw [hl]; exact h6⟩, by omega⟩, h1, (Array.getElem?_eq_some_iff.1 h2).1⟩
theorem RowG.keep {w w' : World} {g cap : Nat} {cur : List MV} (h : RowG w g cap cur) (hb : Below w.heap.size w w') : RowG w' g cap cur := by
  obtain ⟨arr, h1, h2, h3⟩ := h.ex
  exact ⟨⟨arr, (hb.block g (Array.getElem?_eq_some_iff.1 h1).1).trans h1, h2, h3⟩, h.le⟩
theorem RowG.cellAt {w : World} {g cap : Nat} {cur : List MV} (h : RowG w g cap cur) {j : Nat} {u : Value} (hu : (rv metaKind cur)[j]? = some u) : w.cell? ⟨g, j, none⟩ = some u := by
  obtain ⟨arr, h1, h2, h3⟩ := h.ex
  rw [← h3, List.getElem?_take] at hu
  split at hu
  · simp only [World.cell?, h1]
    simp only [Option.isSome_none, Bool.false_eq_true, if_false]
    rw [← Array.getElem?_toList]
    exact hu
  · cases hu
theorem RowG.open5 {w : World} {g cap : Nat} {cur : List MV} (h : RowG w g cap cur) : ∀ j, w.frozen? ⟨g, j, none⟩ = false := fun j => by
  obtain ⟨arr, h1, _⟩ := h.ex
  simp [World.frozen?, h1]
theorem RowG.src {w : World} {g cap : Nat} {cur : List MV} (h : RowG w g cap cur) (hh : ∀ y ∈ cur, metaKind.held w y) : RSrc metaKind w (some ⟨g, 0, none⟩) cur.length cap cur :=
  ⟨rfl, h.le, fun e => (by cases e), fun ad e j u hu => by cases e; rw [Addr.add_mid, Nat.zero_add]; exact h.cellAt hu, hh⟩
theorem RowG.cells5 {w : World} {g cap : Nat} {cur : List MV} (h : RowG w g cap cur) {i : Nat} {y : MV} (hy : cur[i]? = some y) :
    w.cell? ⟨g, i * 5, none⟩ = some (.int .i64 y.m.num) ∧ w.cell? ⟨g, i * 5 + 1, none⟩ = some (.int .i64 y.m.level) ∧ w.cell? ⟨g, i * 5 + 2, none⟩ = some (.int .i64 y.m.count) ∧ w.cell? ⟨g, i * 5 + 3, none⟩ = some (.slice y.fp y.m.first.length y.fc) ∧ w.cell? ⟨g, i * 5 + 4, none⟩ = some (.slice y.lp y.m.last.length y.lc) := by
  have one : ∀ (j : Nat) (u : Value), (metaKind.vals y)[j]? = some u → w.cell? ⟨g, i * 5 + j, none⟩ = some u := fun j u hu => by
    have hj : j < 5 := (List.getElem?_eq_some_iff.1 hu).1
    exact h.cellAt ((rv_at metaKind_ok j hy hj).trans hu)
  exact ⟨one 0 _ rfl, one 1 _ rfl, one 2 _ rfl, one 3 _ rfl, one 4 _ rfl⟩
/-- A note stored at a place of the row. -/
def put5 (w : World) (g p : Nat) (y : MV) : World := ((((w.setCell ⟨g, p, none⟩ (.int .i64 y.m.num)).setCell ⟨g, p + 1, none⟩ (.int .i64 y.m.level)).setCell ⟨g, p + 2, none⟩ (.int .i64 y.m.count)).setCell ⟨g, p + 3, none⟩ (.slice y.fp y.m.first.length y.fc)).setCell ⟨g, p + 4, none⟩ (.slice y.lp y.m.last.length y.lc)
theorem RowG.put {w : World} {g cap : Nat} {cur : List MV} (h : RowG w g cap cur) {i : Nat} (hi : i < cur.length) (y : MV) : RowG (put5 w g (i * 5) y) g cap (cur.set i y) := by
  obtain ⟨arr, h1, h2, h3⟩ := h.ex
  refine ⟨⟨_, set_row (set_row (set_row (set_row (set_row h1 _ _) _ _) _ _) _ _) _ _, by simpa using h2, ?_⟩, by rw [List.length_set]; exact h.le⟩
  rw [List.length_set, rv_set5 y cur i hi, ← h3]
  simp only [Array.toList_setIfInBounds, List.take_set]
theorem put5_below {w0 w : World} {B g p : Nat} (h : Below B w0 w) (hg : B ≤ g) (y : MV) : Below B w0 (put5 w g p y) :=
  ((((h.setCell (p := ⟨g, p, none⟩) hg _).setCell (p := ⟨g, p + 1, none⟩) hg _).setCell (p := ⟨g, p + 2, none⟩) hg _).setCell (p := ⟨g, p + 3, none⟩) hg _).setCell (p := ⟨g, p + 4, none⟩) hg _
/-- How far DeleteFunc has come: i notes kept of the first j. -/
structure DelI (w0 : World) (g cap : Nat) (p : Nt → Bool) (es : List MV) (i j : Nat) (cur : List MV) (wr : World) : Prop where
  row : RowG wr g cap cur
  len : cur.length = es.length
  kept : cur.take i = (es.take j).filter fun y => !p y.m
  rest : ∀ q, j ≤ q → cur[q]? = es[q]?
  lt : i < j
  below : Below w0.heap.size w0 wr
theorem DelI.skip {w0 : World} {g cap : Nat} {p : Nt → Bool} {es cur : List MV} {i j : Nat} {wr w2 : World} {y : MV} (h : DelI w0 g cap p es i j cur wr) (hy : es[j]? = some y) (hp : p y.m = true) (hb : Below wr.heap.size wr w2) : DelI w0 g cap p es i (j + 1) cur w2 :=
  ⟨h.row.keep hb, h.len, by rw [h.kept, List.take_add_one, hy, List.filter_append]; simp [hp], fun q hq => h.rest q (by omega), by have := h.lt; omega, h.below.trans (hb.mono h.below.size)⟩
theorem DelI.take {w0 : World} {g cap : Nat} {p : Nt → Bool} {es cur : List MV} {i j : Nat} {wr w2 : World} {y : MV} (h : DelI w0 g cap p es i j cur wr) (hg : w0.heap.size ≤ g) (hy : es[j]? = some y) (hp : p y.m = false) (hb : Below wr.heap.size wr w2) : DelI w0 g cap p es (i + 1) (j + 1) (cur.set i y) (put5 w2 g (i * 5) y) := by
  have hj : j < es.length := (List.getElem?_eq_some_iff.1 hy).1
  have hlt := h.lt
  have hl := h.len
  refine ⟨(h.row.keep hb).put (by omega) y, by rw [List.length_set]; exact hl, ?_, fun q hq => ?_, by omega, put5_below (h.below.trans (hb.mono h.below.size)) hg y⟩
  · rw [List.take_add_one, List.getElem?_set_self (by omega), List.take_set_of_le (by omega), h.kept, List.take_add_one, hy, List.filter_append]
    simp [hp]
  · rw [List.getElem?_set_ne (by omega)]
    exact h.rest q (by omega)
theorem set_cells {g : Nat} {t : TypeId} : ∀ (vs : List Value) (o : Nat) (w : World) (arr : Array Value), w.heap[g]? = some (.cells arr t (0, 0)) → ∃ arr', (w.setCells g o vs).heap[g]? = some (.cells arr' t (0, 0)) ∧ ∀ j, j < o → arr'[j]? = arr[j]?
  | [], o, w, arr, h => ⟨arr, h, fun _ _ => rfl⟩
  | v :: r, o, w, arr, h => by
    obtain ⟨arr', h1, h2⟩ := set_cells r (o + 1) (w.setCell ⟨g, o, none⟩ v) _ (set_row h o v)
    exact ⟨arr', h1, fun j hj => by rw [h2 j (by omega), Array.getElem?_setIfInBounds_ne (by omega)]⟩
theorem setCells_below {B g : Nat} (hg : B ≤ g) : ∀ (vs : List Value) (o : Nat) {w0 w : World}, Below B w0 w → Below B w0 (w.setCells g o vs)
  | [], _, _, _, h => h
  | v :: r, o, _, _, h => setCells_below hg r (o + 1) (h.setCell (p := ⟨g, o, none⟩) hg v)
/-- clear(s), s some places of a row of notes. -/
theorem run_clearM {P : Program} (w : World) (t e ty : TypeId) (z : Value) (ht : P.underlying t = some (.slice e)) (hz : ∀ w, (zeroValue e).run P w = .ok z w) (hz5 : z.cells.size = 5) (hz1 : ∀ v ∈ z.cells.toList, v.oneCell' = true)
    (g off n c : Nat) (hc : ∀ j, j < n * 5 → (w.cell? ⟨g, off + j, none⟩).isSome = true) (hf : ∀ j, w.frozen? ⟨g, j, none⟩ = false) :
    ∃ vs, (Builtin.clear_ #[t] ty #[.slice (some ⟨g, off, none⟩) n c]).run P w = .ok (.tuple #[]) (w.setCells g off vs) := by
  rcases Nat.eq_zero_or_pos n with h0 | h0
  · subst h0
    exact ⟨[], by simp [Builtin.clear_, run_underlying ht]; rfl⟩
  · obtain ⟨m, rfl⟩ : ∃ m, n = m + 1 := ⟨n - 1, by omega⟩
    have hlen : (Builtin.zeroCells z.cells (m + 1)).toList.length = (m + 1) * 5 := by simp [Builtin.zeroCells, hz5]
    have hst := run_storeCells_cells (P := P) g off (Builtin.zeroCells z.cells (m + 1)).toList 0 w (fun j hj => by rw [hlen] at hj; simpa using hc j hj) (fun j hj => hf _) (fun v hv => by
      simp only [Builtin.zeroCells, Array.toList_map, List.mem_map] at hv
      obtain ⟨i, hi, rfl⟩ := hv
      have : i % z.cells.size < z.cells.size := Nat.mod_lt _ (by omega)
      rw [getElem!_pos z.cells _ this]
      exact hz1 _ (by simp))
    simp only [Nat.add_zero] at hst
    exact ⟨(Builtin.zeroCells z.cells (m + 1)).toList, by simp [Builtin.clear_, run_underlying ht, hz, hst]⟩
theorem zeroMeta (w : World) : (zeroValue 39).run Tryz.prog w = .ok (.agg #[.int .i64 0, .int .i64 0, .int .i64 0, .slice none 0 0, .slice none 0 0]) w := by
  obtain ⟨i0, hi0, hz0, hz1, hz2⟩ := info_partsM infoMeta
  simp [zeroValue, typeInfo, hi0, hz0]
set_option maxHeartbeats 4000000 in
set_option maxRecDepth 100000 in
theorem mdelete_any (q : Nat) (p : Nt → Bool) (w0 : World) (hT : Tells 45 #[.pointer (some ⟨q, 0, none⟩)] p w0) (g n cap : Nat) (es : List MV) (w : World) (hrow : RowG w g cap es) (hl : es.length = n) (hg : w0.heap.size ≤ g) (hh : ∀ y ∈ es, metaKind.held w0 y) (hn : n ≤ 1000000) (h0 : Below w0.heap.size w0 w) :
    Calls Tryz.prog 43 #[.slice (some ⟨g, 0, none⟩) n cap, .func (.func 45) #[] #[.pointer (some ⟨q, 0, none⟩)]] w fun e w' =>
      ∃ ao k c, e = .returned (.slice ao k c) ∧ RSrc metaKind w' ao k c (es.filter fun y => !p y.m) ∧ (∀ ad, ao = some ad → w0.heap.size ≤ ad.block) ∧ Below w0.heap.size w0 w' := by
  have HT := keep hT
  have HG := keep hg
  have HH := keep hh
  have H0 := keep h0
  have HL := keep hl
  have RW := keep hrow
  have HS : Hid (RSrc metaKind w (some ⟨g, 0, none⟩) n cap es) := by
    have := hrow.src (fun y hy => metaKind_ok.below (hh y hy) h0)
    rw [hl] at this
    exact this
  have hcap : n ≤ cap := by have := hrow.le; omega
  have IX := keep (mindex_any q p w0 hT (some ⟨g, 0, none⟩) n cap es w HS.out hn h0)
  clear hT hg hh h0 hl hrow
  go_enter Tryz.func43, Tryz.ntmps43
  go_wp2_with fail
  refine IX.out.mono ?_
  rintro e w1 ⟨⟨rfl, hall⟩ | ⟨k0, rfl, hk0, hp0, hpre⟩, hb1⟩
  · have HA := keep hall
    have B1 := keep hb1
    clear hall hb1 IX
    go_wp2
    go_ret
    refine ⟨_, _, _, rfl, ?_, fun ad e => (by cases e; exact HG.out), H0.out.trans (B1.out.mono H0.out.size)⟩
    rw [List.filter_eq_self.2 (fun y hy => by simp [HA.out y hy])]
    exact HS.out.below metaKind_ok B1.out
  · have ne1 : ((k0 : Int) == -1) = false := beq_eq_false_iff_ne.2 (by omega)
    have I1 : Hid (DelI w0 g cap p es k0 (k0 + 1) es w1) := by
      obtain ⟨y, hy⟩ : ∃ y, es[k0]? = some y := ⟨es[k0]'(by rw [HL.out]; exact hk0), List.getElem?_eq_getElem _⟩
      refine ⟨RW.out.keep hb1, rfl, ?_, fun q _ => rfl, by omega, H0.out.trans (hb1.mono H0.out.size)⟩
      rw [List.take_add_one, hy, List.filter_append, List.filter_eq_self.2 (fun z hz => by
        obtain ⟨j, hj⟩ := List.getElem?_of_mem hz
        rw [List.getElem?_take] at hj
        split at hj
        · rename_i hlt
          simp [hpre j z hlt hj]
        · cases hj)]
      simp [hp0 y hy]
    clear hp0 hpre hb1 IX HS
    go_wp2
    go_loopw [5, 6] (fun vi vj wr => ∃ (i j : Nat) (cur : List MV), vi = .int .i64 (i : Int) ∧ vj = .int .i64 (j : Int) ∧ j ≤ n ∧ i ≤ n ∧ Hid (DelI w0 g cap p es i j cur wr)) (fun _ vj _ => n - (intOf vj).toNat)
    case atStart => exact ⟨k0, k0 + 1, es, rfl, by go_num, by omega, by omega, I1.out⟩
    case round =>
      clear I1 ne1
      obtain ⟨i, j, cur, rfl, rfl, hj, hi, hI⟩ := hrel
      by_cases hjn : j < n
      · obtain ⟨y, hy⟩ : ∃ y, es[j]? = some y := ⟨es[j]'(by rw [HL.out]; exact hjn), List.getElem?_eq_getElem _⟩
        have hcj : cur[j]? = some y := by rw [hI.out.rest j (Nat.le_refl _)]; exact hy
        obtain ⟨p0, p1, p2, p3, p4⟩ := hI.out.row.cells5 hcj
        have hij := hI.out.lt
        have CL : Hid (cur.length = n) := hI.out.len.trans HL.out
        have TT : Hid (∀ w', Below wr.heap.size wr w' → _) := fun w' hb => HT.out y w' (metaKind_ok.below (HH.out y (List.mem_of_getElem? hy)) (hI.out.below.trans (hb.mono hI.out.below.size))) (hI.out.below.trans (hb.mono hI.out.below.size))
        have NX1 : Hid (p y.m = true → ∀ w', Below wr.heap.size wr w' → DelI w0 g cap p es i (j + 1) cur w') := fun h w' hb => hI.out.skip hy h hb
        have NX2 : Hid (p y.m = false → ∀ w', Below wr.heap.size wr w' → DelI w0 g cap p es (i + 1) (j + 1) (cur.set i y) (put5 w' g (i * 5) y)) := fun h w' hb => hI.out.take HG.out hy h hb
        obtain ⟨x, hx⟩ : ∃ x, cur[i]? = some x := ⟨cur[i]'(by rw [CL.out]; omega), List.getElem?_eq_getElem _⟩
        have CI : Hid (∀ w', Below wr.heap.size wr w' → _) := fun w' hb => (hI.out.row.keep hb).cells5 hx
        have FR : Hid (∀ w', Below wr.heap.size wr w' → _) := fun w' hb => (hI.out.row.keep hb).open5
        obtain ⟨r, hr⟩ : ∃ r, p y.m = r := ⟨_, rfl⟩
        rw [hr] at TT NX1 NX2
        clear hy hcj hr hx
        obtain ⟨yfp, yfc, ylp, ylc, ⟨ynum, ylevel, ycount, yfirst, ylast⟩⟩ := y
        unfold mv at TT
        simp only [List.append_toArray, List.cons_append, List.nil_append] at p0 p1 p2 p3 p4 TT
        have ll : (j : Int) < (n : Int) := by omega
        have l0 : (0 : Int) ≤ (j : Int) := by omega
        have li : (i : Int) < (n : Int) := by omega
        have li0 : (0 : Int) ≤ (i : Int) := by omega
        obtain ⟨W2, hW2⟩ : ∃ W2, wr.alloc (.cells #[.int .i64 ynum, .int .i64 ylevel, .int .i64 ycount, .slice yfp yfirst.length yfc, .slice ylp ylast.length ylc] 39) = W2 := ⟨_, rfl⟩
        have b2 : Hid (Below wr.heap.size wr W2) := by rw [← hW2]; exact (Below.refl _ _).alloc (Nat.le_refl _) _
        have g2 : Hid (W2.heap[wr.heap.size]? = some (.cells #[.int .i64 ynum, .int .i64 ylevel, .int .i64 ycount, .slice yfp yfirst.length yfc, .slice ylp ylast.length ylc] 39)) := by rw [← hW2]; exact heap_alloc_new wr _
        have CF : Hid (∀ w', Below W2.heap.size W2 w' → w'.cell? ⟨wr.heap.size, 0, none⟩ = some (.int .i64 ynum) ∧ w'.cell? ⟨wr.heap.size, 1, none⟩ = some (.int .i64 ylevel) ∧ w'.cell? ⟨wr.heap.size, 2, none⟩ = some (.int .i64 ycount) ∧ w'.cell? ⟨wr.heap.size, 3, none⟩ = some (.slice yfp yfirst.length yfc) ∧ w'.cell? ⟨wr.heap.size, 4, none⟩ = some (.slice ylp ylast.length ylc)) := fun w' hb => ⟨belowE hb (cell_of_row _ _ _ _ _ _ g2.out), belowE hb (cell_of_row _ _ _ _ _ _ g2.out), belowE hb (cell_of_row _ _ _ _ _ _ g2.out), belowE hb (cell_of_row _ _ _ _ _ _ g2.out), belowE hb (cell_of_row _ _ _ _ _ _ g2.out)⟩
        obtain ⟨c0, c1, c2, c3, c4⟩ := CF.out W2 (Below.refl _ _)
        cases r with
        | true =>
          go_wp2_with fail
          refine (TT.out W2 b2.out).mono ?_
          rintro e w3 ⟨rfl, hb3⟩
          have B3 := keep (b2.out.trans (hb3.mono b2.out.size))
          clear hb3 c0 c1 c2 c3 c4 p0 p1 p2 p3 p4 hW2
          go_wp2
          go_roundw
          case rel => exact ⟨i, j + 1, cur, rfl, by go_num, by omega, by omega, NX1.out (by first | rfl | trivial) _ B3.out⟩
          case measure => simp [intOf]; omega
        | false =>
          go_wp2_with fail
          refine (TT.out W2 b2.out).mono ?_
          rintro e w3 ⟨rfl, hb3⟩
          have B3 := keep (b2.out.trans (hb3.mono b2.out.size))
          obtain ⟨d0, d1, d2, d3, d4⟩ := CF.out w3 hb3
          obtain ⟨e0, e1, e2, e3, e4⟩ := CI.out w3 B3.out
          have f0 := FR.out w3 B3.out (i * 5)
          have f1 := FR.out w3 B3.out (i * 5 + 1)
          have f2 := FR.out w3 B3.out (i * 5 + 2)
          have f3 := FR.out w3 B3.out (i * 5 + 3)
          have f4 := FR.out w3 B3.out (i * 5 + 4)
          have N3 := keep (NX2.out (by first | rfl | trivial) w3 B3.out)
          clear hb3 c0 c1 c2 c3 c4 p0 p1 p2 p3 p4 hW2
          go_wp2
          go_roundw
          case rel => exact ⟨i + 1, j + 1, _, by go_num, by go_num, by omega, by omega, N3.out⟩
          case measure => simp [intOf]; omega
      · obtain rfl : j = n := by omega
        have hij := hI.out.lt
        have lc : ¬ (i : Int) = (cap : Int) := by omega
        have nc : ¬ cap = i := by omega
        have ni : ¬ j < i := by omega
        have ni2 : i < j := by omega
        have l0 : (0 : Int) ≤ (i : Int) := by omega
        have l1 : (i : Int) ≤ (j : Int) := by omega
        have l2 : (i : Int) ≤ (cap : Int) := by omega
        have CS : Hid (∀ k, k < (j - i) * 5 → (wr.cell? ⟨g, i * 5 + k, none⟩).isSome = true) := fun k hk => by
          have hlen : k + i * 5 < (rv metaKind cur).length := by
            rw [rv_length metaKind_ok, hI.out.len, HL.out]
            show _ < j * 5
            omega
          rw [hI.out.row.cellAt (u := (rv metaKind cur)[k + i * 5]) (by rw [List.getElem?_eq_getElem (by omega)]; congr 1; congr 1; omega)]
          rfl
        have FZ := keep hI.out.row.open5
        have AFTER : Hid (∀ vs, RSrc metaKind (wr.setCells g (i * 5) vs) (some ⟨g, 0, none⟩) i cap (es.filter fun y => !p y.m) ∧ Below w0.heap.size w0 (wr.setCells g (i * 5) vs)) := fun vs => by
          have hb := setCells_below HG.out vs (i * 5) hI.out.below
          obtain ⟨arr, h1, h2, h3⟩ := hI.out.row.ex
          obtain ⟨arr', h4, h5⟩ := set_cells vs (i * 5) wr arr h1
          have hk := hI.out.kept
          rw [List.take_of_length_le (l := es) (by rw [HL.out]; exact Nat.le_refl _)] at hk
          rw [← hk]
          have hcl : cur.length = j := hI.out.len.trans HL.out
          refine ⟨⟨by rw [List.length_take, hcl]; omega, by omega, fun e => (by cases e), fun ad e k u hu => ?_, fun y hy => ?_⟩, hb⟩
          · cases e
            rw [Addr.add_mid]
            have hklt : k < i * 5 := by
              have := (List.getElem?_eq_some_iff.1 hu).1
              rw [rv_length metaKind_ok, List.length_take, hcl] at this
              have e5 : metaKind.size = 5 := rfl
              rw [e5] at this
              omega
            obtain ⟨a, q', y, h6, h7, h8, h9⟩ := rv_get metaKind_ok hu
            have h10 : cur[a]? = some y := by
              rw [List.getElem?_take] at h8
              split at h8
              · exact h8
              · cases h8
            have h11 : wr.cell? ⟨g, k, none⟩ = some u := hI.out.row.cellAt (by rw [h6, rv_at metaKind_ok q' h10 h7]; exact h9)
            rw [cell_of_row _ _ _ _ _ _ h1] at h11
            show (wr.setCells g (i * 5) vs).cell? ⟨g, 0 + k, none⟩ = some u
            rw [Nat.zero_add k, cell_of_row _ _ _ _ _ _ h4, h5 k (by omega)]
            exact h11
          · rw [hk] at hy
            exact metaKind_ok.below (HH.out y (List.mem_filter.1 hy).1) hb
        clear hI
        obtain ⟨vs, hclr⟩ := run_clearM (P := Tryz.prog) wr 24 39 0 _ Tryz.underlying24 zeroMeta rfl (by intro v hv; simp [Value.cells] at hv; rcases hv with rfl | rfl <;> rfl) g (i * 5) (j - i) (cap - i) CS.out FZ.out
        go_wp2
        go_ret
        exact ⟨_, _, _, rfl, (AFTER.out vs).1, fun ad e => (by cases e; exact HG.out), (AFTER.out vs).2⟩
end Go.Proofs.YthaiodajfmbeaaaGreat
