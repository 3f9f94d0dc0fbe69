/- The walk of a note's copied. -/
/- Rows of notes made by a call; the walk of copies. -/
/- The walks of Level and Find. -/
/- The walks of slices.Values, of its iterator, of AppendSeq, Collect and Sorted over ints. -/
/- The walks of slices.Clone, IndexFunc and DeleteFunc over notes, of without and its closure. -/
/- The walk of slices.DeleteFunc over notes, of without and its closure. -/
/- The walks of without and its closure; of slices.Grow and Concat over notes. -/
/- Stands in another text's place; no walk. -/
/- Versions over plain lists: what Apply makes; one order alone; no walk. -/
/- The walk of Apply. -/
/- The walks of the laws' metas and notes. -/
/- The walk of the laws' mine. -/
/- The walk of the document's SameMetas where notes are the same. -/
/- The walk of the laws' awake. -/
import Derived.Test.YtgkchkdjcebnaaaGreatDoorH7
import Derived.Test.YtgkchkdjcebnaaaGreatDoorJoinNn
import Derived.Deep.RegionWith
import Derived.BigRegion
import Derived.Lib.SliceRun
import Derived.Laws.AppendOwnNone
import Derived.Lib.SlBytesConst
namespace Go.Proofs.YtgkchkdjcebnaaaGreatDoor
open Go.RowKit
open Ed (Nt)

theorem set_farM {w : World} {g b : Nat} (i : Nat) (v : Value) (h : g ≠ b) : (w.setCell ⟨b, i, none⟩ v).heap[g]? = w.heap[g]? := Below.heap_setCell w ⟨b, i, none⟩ v g h
/-- A note in memory whose bytes were made at or beyond B. -/
def OwnM (B : Nat) (w : World) (y : MV) : Prop := w.ownsRow B 5 1 (.slice y.fp y.m.first.length y.fc) y.m.first.length (bv y.m.first) ∧ w.ownsRow B 5 1 (.slice y.lp y.m.last.length y.lc) y.m.last.length (bv y.m.last)
end Go.Proofs.YtgkchkdjcebnaaaGreatDoor
namespace Go.Proofs.YtgkchkdjcebnaaaGreatDoor
open Go.RowKit
open Ed (Nt)

theorem OwnM.held {B : Nat} {w : World} {y : MV} (h : OwnM B w y) : metaKind.held w y := by
  obtain ⟨a1, c1, e1, h1, _⟩ := Src.of_own h.1
  obtain ⟨a2, c2, e2, h2, _⟩ := Src.of_own h.2
  cases e1
  cases e2
  exact ⟨h1, h2⟩
theorem OwnM.block {B : Nat} {w w' : World} {y : MV} (h : OwnM B w y) (hb : Below w.heap.size w w') : OwnM B w' y := ⟨own_block h.1 (fun g hg => hb.block g (own_size h.1 hg)), own_block h.2 (fun g hg => hb.block g (own_size h.2 hg))⟩
theorem OwnM.base {B B' : Nat} {w : World} {y : MV} (h : OwnM B w y) (hb : B' ≤ B) : OwnM B' w y := ⟨own_base h.1 (fun g hg => Nat.le_trans hb (h.1.lt g hg).1), own_base h.2 (fun g hg => Nat.le_trans hb (h.2.lt g hg).1)⟩
/-- A row of notes that was made at or beyond B. -/
structure Mets (B : Nat) (w : World) (v : Value) (ys : List MV) : Prop where
  row : w.ownsRow B 113 5 v ys.length (rv metaKind ys)
  each : ∀ y ∈ ys, OwnM B w y
theorem Mets.nil (B : Nat) (w : World) : Mets B w (.slice none 0 0) [] := ⟨World.ownsRow_nil _ _ _ _, fun y h => by cases h⟩
theorem Mets.below {B : Nat} {w w' : World} {v : Value} {ys : List MV} (h : Mets B w v ys) (hb : Below w.heap.size w w') : Mets B w' v ys := ⟨own_block h.row (fun g hg => hb.block g (own_size h.row hg)), fun y hy => (h.each y hy).block hb⟩
theorem OwnM.grown {B : Nat} {w w' : World} {v : Value} {n : Nat} {xs : List Value} {y : MV} (h : OwnM B w y) (hv : w.ownsRow B 113 5 v n xs) (hg : w.grownBy w' v.ownBlock) : OwnM B w' y := by
  have one : ∀ {u : Value} {m : Nat} {zs : List Value}, w.ownsRow B 5 1 u m zs → w'.ownsRow B 5 1 u m zs := fun {u m zs} hu => own_block hu (fun g hgg => hg.block g (own_size hu hgg) (fun e1 => by
    obtain ⟨c1, h1⟩ := own_tag hu hgg
    obtain ⟨c2, h2⟩ := own_tag hv e1.symm
    rw [h1] at h2
    cases h2))
  exact ⟨one h.1, one h.2⟩
theorem Mets.more {B : Nat} {w w' : World} {v v' : Value} {ys : List MV} {y : MV} (h : Mets B w v ys) (hy : OwnM B w y) (ho : w'.ownsRow B 113 5 v' (ys.length + 1) (rv metaKind (ys ++ [y]))) (hg : w.grownBy w' v.ownBlock) : Mets B w' v' (ys ++ [y]) :=
  ⟨by rw [List.length_append]; exact ho, fun z hz => by
    rcases List.mem_append.1 hz with hz | hz
    · exact (h.each z hz).grown h.row hg
    · rw [List.mem_singleton.1 hz]; exact hy.grown h.row hg⟩
theorem Mets.src {B : Nat} {w : World} {v : Value} {ys : List MV} (h : Mets B w v ys) : ∃ ao c, v = .slice ao ys.length c ∧ RSrc metaKind w ao ys.length c ys ∧ c ≤ maxLen := RSrc.own metaKind_ok h.row (fun y hy => (h.each y hy).held)
/-- How far a loop has come that copies notes. -/
structure CopI (w : World) (l : List Nt) (ys : List MV) (k : Nat) (v : Value) (wr : World) : Prop where
  row : Mets w.heap.size wr v ys
  val : ys.map (·.m) = l
  below : Below w.heap.size w wr
  len : ys.length ≤ k
theorem take_more {l : List Nt} {k : Nat} {m : Nt} (h : l[k]? = some m) : l.take (k + 1) = l.take k ++ [m] := by rw [List.take_add_one, h]; rfl
end Go.Proofs.YtgkchkdjcebnaaaGreatDoor
namespace Go.Proofs.YtgkchkdjcebnaaaGreatDoor.Ed
/-- The notes of a level. -/
def level (l : List Nt) (z : Int) : List Nt := l.filter fun m => decide (m.level = z)
theorem level_more {l : List Nt} {k : Nat} {m : Nt} {z : Int} (h : l[k]? = some m) : level (l.take (k + 1)) z = level (l.take k) z ++ (if m.level = z then [m] else []) := by
  unfold level
  rw [List.take_add_one, h, List.filter_append]
  by_cases hz : m.level = z <;> simp [hz]
/-- The Nums of those that may have a key. -/
def find (l : List Nt) (k : List UInt8) : List Int := (l.filter fun m => spans m k).map (·.num)
theorem find_more {l : List Nt} {i : Nat} {m : Nt} {k : List UInt8} (h : l[i]? = some m) : find (l.take (i + 1)) k = find (l.take i) k ++ (if spans m k then [m.num] else []) := by
  unfold find
  rw [List.take_add_one, h, List.filter_append, List.map_append]
  cases hz : spans m k <;> simp [hz]
end Go.Proofs.YtgkchkdjcebnaaaGreatDoor.Ed
namespace Go.Proofs.YtgkchkdjcebnaaaGreatDoor
open Go.RowKit
open Ed (Nt)

end Go.Proofs.YtgkchkdjcebnaaaGreatDoor
namespace Go.Proofs.YtgkchkdjcebnaaaGreatDoor
open Go.RowKit Go.Shelf
open Ed (Nt)
attribute [local go_sem] Oper.semAt_some

theorem int_cell {w : World} {b off n c : Nat} {zs : List Int} (h : RSrc inK w (some ⟨b, off, none⟩) n c zs) {k : Nat} (hk : k < n) : w.cell? ⟨b, off + k, none⟩ = some (.int .i64 (zs.getD k 0)) := by
  have hl := h.len
  have e : zs[k]? = some (zs.getD k 0) := by rw [List.getD_eq_getElem?_getD, List.getElem?_eq_getElem (by omega)]; rfl
  have := h.cells _ rfl (k * inK.size + 0) (.int .i64 (zs.getD k 0)) ((rv_at inK_ok 0 e (by decide)).trans rfl)
  rw [Addr.add_mid] at this
  simpa [inK] using this
theorem own_formI {w : World} {B t k n : Nat} {v : Value} {xs : List Value} (h : w.ownsRow B t k v (n + 1) xs) : ∃ g cap, v = .slice (some ⟨g, 0, none⟩) (n + 1) cap := by
  rcases h.2 with ⟨_, h0⟩ | ⟨g, cap, cur, e, _⟩
  · omega
  · exact ⟨g, cap, e⟩
theorem range_getD (zs : List Int) : (List.range zs.length).map (fun x => zs.getD x 0) = zs := by
  apply List.ext_getElem (by simp)
  intro i h1 h2
  simp [List.getD_eq_getElem?_getD, List.getElem?_eq_getElem h2]
end Go.Proofs.YtgkchkdjcebnaaaGreatDoor
namespace Go.Proofs.YtgkchkdjcebnaaaGreatDoor
open Go.RowKit
open Ed (Nt)

/-- append(v, row...), the row empty or not, in a plain region. -/
theorem wpList_append_rowsM {P : Program} {w : World} {ops : Array Oper} {rest : List Oper} {o : Oper} {a : Act} {Q : Exit → Act → World → Prop} (hgd : o.guard = none) (s x : Operand) (t e : TypeId)
    (ho : o.op = .call { callee := .builtin .append, args := #[s, x], argTypes := #[t, t] })
    (base : Nat) (i : TypeInfo) (z : Value) (size bytes : Nat) (ht : P.underlying t = some (.slice e)) (hi : P.info? e = some i) (hz : i.zero = some z)
    (hsize : i.size = size) (hby : i.bytes = bytes) (hzs : z.cells.size = size) (hsz : 0 < size)
    (v : Value) (n : Nat) (xs : List Value) (hs : a.eval s = v) (hown : w.ownsRow base e size v n xs)
    (ao : Option Addr) (m c : Nat) (news : List Value) (hx : a.eval x = .slice ao m c) (hnil : ao = none → m = 0 ∧ c = 0) (hl : news.length = m * size) (hnews : ∀ ad, ao = some ad → ∀ j u, news[j]? = some u → w.cell? (ad.add j) = some u) (h1 : ∀ u ∈ news, u.oneCell' = true)
    (h63 : n + m ≤ maxLen) (hbytes : (n + m) * bytes ≤ 140737488355328) (hbase : base ≤ w.heap.size)
    (h : ∀ v' w', w'.ownsRow base e size v' (n + m) (xs ++ news) → w.grownBy w' v.ownBlock → wpList P ops Q rest (a.put o.dst v') w') : wpList P ops Q (o :: rest) a w := by
  refine wpList_step fun K' hK => ?_
  have hw : Region.wanted o (yielded ops a.tmps) = true := by simp [Region.wanted, hgd]
  rw [if_pos hw]
  cases ao with
  | some ad =>
    obtain ⟨v', w', hr, h2, h3, _⟩ := run_append_own (P := P) w base t o.type e i z size bytes ht hi hz hsize hby hzs hsz v n xs hown ad m c news hl (hnews ad rfl) h1 h63 hbytes hbase
    unfold Oper.wp
    simp [execOp, ho, resolve, invoke, builtin, hs, hx, hr, Result.andThen]
    exact hK _ _ (h v' w' h2 h3)
  | none =>
    obtain ⟨rfl, rfl⟩ := hnil rfl
    obtain rfl : news = [] := List.length_eq_zero_iff.1 (by rw [hl, Nat.zero_mul])
    have hrun := run_append_owned_none (P := P) (w := w) base t o.type e i size ht hi v n xs hown
    unfold Oper.wp
    simp [execOp, ho, resolve, invoke, builtin, hs, hx, hrun, Result.andThen]
    exact hK _ _ (h v w (by rw [List.append_nil]; exact hown) (World.grownBy.refl _ _))
theorem own_emptyM {w : World} {B t k : Nat} (h : B ≤ w.heap.size) : (w.alloc (.cells #[] t)).ownsRow B t k (.slice (some ⟨w.heap.size, 0, none⟩) 0 0) 0 [] :=
  ⟨by simp, .inr ⟨_, _, _, rfl, h, heap_alloc_new w _, Nat.le_refl _, Nat.zero_le _, by simp, by simp⟩⟩
/-- What a function answers of a note, wherever only new blocks were laid behind w0. -/
def Tells (F : Nat) (lb : Array Value) (p : Nt → Bool) (w0 : World) : Prop := ∀ (x : MV) (w' : World), metaKind.held w' x → Below w0.heap.size w0 w' → Calls Tryz.prog F (#[mv x] ++ lb) w' fun e w'' => e = .returned (.bool (p x.m)) ∧ Below w'.heap.size w' w''
end Go.Proofs.YtgkchkdjcebnaaaGreatDoor
namespace Go.Proofs.YtgkchkdjcebnaaaGreatDoor
open Go.RowKit
open Ed (Nt)

/-- One record of a row set anew. -/
theorem rv_set5 (y : MV) : ∀ (cur : List MV) (i : Nat), i < cur.length → rv metaKind (cur.set i y) = (((((rv metaKind cur).set (i * 5) (.int .i64 y.m.num)).set (i * 5 + 1) (.int .i64 y.m.level)).set (i * 5 + 2) (.int .i64 y.m.count)).set (i * 5 + 3) (.slice y.fp y.m.first.length y.fc)).set (i * 5 + 4) (.slice y.lp y.m.last.length y.lc)
  | [], i, h => by simp at h
  | e :: t, 0, _ => by simp [rv, metaKind]
  | e :: t, i + 1, h => by
    have ih := rv_set5 y t i (by simpa using h)
    rw [List.set_cons_succ]
    simp only [rv]
    rw [ih]
    have hl : (metaKind.vals e).length = 5 := rfl
    have step : ∀ (A : List Value) (j : Nat) (u : Value), (metaKind.vals e ++ A).set ((i + 1) * 5 + j) u = metaKind.vals e ++ A.set (i * 5 + j) u := fun A j u => by
      rw [List.set_append_right _ _ (by rw [hl]; omega), hl]
      congr 2
      omega
    rw [show (i + 1) * 5 = (i + 1) * 5 + 0 from rfl, step _ 0, step _ 1, step _ 2, step _ 3, step _ 4]
    rfl
/-- Row g holds these notes, in its first places. -/
structure RowG (w : World) (g cap : Nat) (cur : List MV) : Prop where
  ex : ∃ arr, w.heap[g]? = some (.cells arr 113 (0, 0)) ∧ arr.size = cap * 5 ∧ arr.toList.take (cur.length * 5) = rv metaKind cur
  le : cur.length ≤ cap
theorem RowG.of {w : World} {B g cap n : Nat} {cur : List MV} (h : w.ownsRow B 113 5 (.slice (some ⟨g, 0, none⟩) n cap) n (rv metaKind cur)) (hl : cur.length = n) : RowG w g cap cur ∧ B ≤ g ∧ g < w.heap.size := by
  rcases h.2 with ⟨h0, _⟩ | ⟨g', cap', cu, e, h1, h2, h3, h4, h5, h6⟩
  · cases h0
  · cases e
    exact ⟨⟨⟨cu, h2, h5, by rw [hl]; exact h6⟩, by omega⟩, h1, (Array.getElem?_eq_some_iff.1 h2).1⟩
theorem RowG.keep {w w' : World} {g cap : Nat} {cur : List MV} (h : RowG w g cap cur) (hb : Below w.heap.size w w') : RowG w' g cap cur := by
  obtain ⟨arr, h1, h2, h3⟩ := h.ex
  exact ⟨⟨arr, (hb.block g (Array.getElem?_eq_some_iff.1 h1).1).trans h1, h2, h3⟩, h.le⟩
theorem RowG.cellAt {w : World} {g cap : Nat} {cur : List MV} (h : RowG w g cap cur) {j : Nat} {u : Value} (hu : (rv metaKind cur)[j]? = some u) : w.cell? ⟨g, j, none⟩ = some u := by
  obtain ⟨arr, h1, h2, h3⟩ := h.ex
  rw [← h3, List.getElem?_take] at hu
  split at hu
  · simp only [World.cell?, h1]
    simp only [Option.isSome_none, Bool.false_eq_true, if_false]
    rw [← Array.getElem?_toList]
    exact hu
  · cases hu
theorem RowG.open5 {w : World} {g cap : Nat} {cur : List MV} (h : RowG w g cap cur) : ∀ j, w.frozen? ⟨g, j, none⟩ = false := fun j => by
  obtain ⟨arr, h1, _⟩ := h.ex
  simp [World.frozen?, h1]
theorem RowG.src {w : World} {g cap : Nat} {cur : List MV} (h : RowG w g cap cur) (hh : ∀ y ∈ cur, metaKind.held w y) : RSrc metaKind w (some ⟨g, 0, none⟩) cur.length cap cur :=
  ⟨rfl, h.le, fun e => (by cases e), fun ad e j u hu => by cases e; rw [Addr.add_mid, Nat.zero_add]; exact h.cellAt hu, hh⟩
theorem RowG.cells5 {w : World} {g cap : Nat} {cur : List MV} (h : RowG w g cap cur) {i : Nat} {y : MV} (hy : cur[i]? = some y) :
    w.cell? ⟨g, i * 5, none⟩ = some (.int .i64 y.m.num) ∧ w.cell? ⟨g, i * 5 + 1, none⟩ = some (.int .i64 y.m.level) ∧ w.cell? ⟨g, i * 5 + 2, none⟩ = some (.int .i64 y.m.count) ∧ w.cell? ⟨g, i * 5 + 3, none⟩ = some (.slice y.fp y.m.first.length y.fc) ∧ w.cell? ⟨g, i * 5 + 4, none⟩ = some (.slice y.lp y.m.last.length y.lc) := by
  have one : ∀ (j : Nat) (u : Value), (metaKind.vals y)[j]? = some u → w.cell? ⟨g, i * 5 + j, none⟩ = some u := fun j u hu => by
    have hj : j < 5 := (List.getElem?_eq_some_iff.1 hu).1
    exact h.cellAt ((rv_at metaKind_ok j hy hj).trans hu)
  exact ⟨one 0 _ rfl, one 1 _ rfl, one 2 _ rfl, one 3 _ rfl, one 4 _ rfl⟩
/-- A note stored at a place of the row. -/
def put5 (w : World) (g p : Nat) (y : MV) : World := ((((w.setCell ⟨g, p, none⟩ (.int .i64 y.m.num)).setCell ⟨g, p + 1, none⟩ (.int .i64 y.m.level)).setCell ⟨g, p + 2, none⟩ (.int .i64 y.m.count)).setCell ⟨g, p + 3, none⟩ (.slice y.fp y.m.first.length y.fc)).setCell ⟨g, p + 4, none⟩ (.slice y.lp y.m.last.length y.lc)
theorem RowG.put {w : World} {g cap : Nat} {cur : List MV} (h : RowG w g cap cur) {i : Nat} (hi : i < cur.length) (y : MV) : RowG (put5 w g (i * 5) y) g cap (cur.set i y) := by
  obtain ⟨arr, h1, h2, h3⟩ := h.ex
  refine ⟨⟨_, set_row (set_row (set_row (set_row (set_row h1 _ _) _ _) _ _) _ _) _ _, by simpa using h2, ?_⟩, by rw [List.length_set]; exact h.le⟩
  rw [List.length_set, rv_set5 y cur i hi, ← h3]
  simp only [Array.toList_setIfInBounds, List.take_set]
theorem put5_below {w0 w : World} {B g p : Nat} (h : Below B w0 w) (hg : B ≤ g) (y : MV) : Below B w0 (put5 w g p y) :=
  ((((h.setCell (p := ⟨g, p, none⟩) hg _).setCell (p := ⟨g, p + 1, none⟩) hg _).setCell (p := ⟨g, p + 2, none⟩) hg _).setCell (p := ⟨g, p + 3, none⟩) hg _).setCell (p := ⟨g, p + 4, none⟩) hg _
/-- How far DeleteFunc has come: i notes kept of the first j. -/
structure DelI (w0 : World) (g cap : Nat) (p : Nt → Bool) (es : List MV) (i j : Nat) (cur : List MV) (wr : World) : Prop where
  row : RowG wr g cap cur
  len : cur.length = es.length
  kept : cur.take i = (es.take j).filter fun y => !p y.m
  rest : ∀ q, j ≤ q → cur[q]? = es[q]?
  lt : i < j
  below : Below w0.heap.size w0 wr
theorem DelI.skip {w0 : World} {g cap : Nat} {p : Nt → Bool} {es cur : List MV} {i j : Nat} {wr w2 : World} {y : MV} (h : DelI w0 g cap p es i j cur wr) (hy : es[j]? = some y) (hp : p y.m = true) (hb : Below wr.heap.size wr w2) : DelI w0 g cap p es i (j + 1) cur w2 :=
  ⟨h.row.keep hb, h.len, by rw [h.kept, List.take_add_one, hy, List.filter_append]; simp [hp], fun q hq => h.rest q (by omega), by have := h.lt; omega, h.below.trans (hb.mono h.below.size)⟩
theorem DelI.take {w0 : World} {g cap : Nat} {p : Nt → Bool} {es cur : List MV} {i j : Nat} {wr w2 : World} {y : MV} (h : DelI w0 g cap p es i j cur wr) (hg : w0.heap.size ≤ g) (hy : es[j]? = some y) (hp : p y.m = false) (hb : Below wr.heap.size wr w2) : DelI w0 g cap p es (i + 1) (j + 1) (cur.set i y) (put5 w2 g (i * 5) y) := by
  have hj : j < es.length := (List.getElem?_eq_some_iff.1 hy).1
  have hlt := h.lt
  have hl := h.len
  refine ⟨(h.row.keep hb).put (by omega) y, by rw [List.length_set]; exact hl, ?_, fun q hq => ?_, by omega, put5_below (h.below.trans (hb.mono h.below.size)) hg y⟩
  · rw [List.take_add_one, List.getElem?_set_self (by omega), List.take_set_of_le (by omega), h.kept, List.take_add_one, hy, List.filter_append]
    simp [hp]
  · rw [List.getElem?_set_ne (by omega)]
    exact h.rest q (by omega)
theorem set_cells {g : Nat} {t : TypeId} : ∀ (vs : List Value) (o : Nat) (w : World) (arr : Array Value), w.heap[g]? = some (.cells arr t (0, 0)) → ∃ arr', (w.setCells g o vs).heap[g]? = some (.cells arr' t (0, 0)) ∧ ∀ j, j < o → arr'[j]? = arr[j]?
  | [], o, w, arr, h => ⟨arr, h, fun _ _ => rfl⟩
  | v :: r, o, w, arr, h => by
    obtain ⟨arr', h1, h2⟩ := set_cells r (o + 1) (w.setCell ⟨g, o, none⟩ v) _ (set_row h o v)
    exact ⟨arr', h1, fun j hj => by rw [h2 j (by omega), Array.getElem?_setIfInBounds_ne (by omega)]⟩
theorem setCells_below {B g : Nat} (hg : B ≤ g) : ∀ (vs : List Value) (o : Nat) {w0 w : World}, Below B w0 w → Below B w0 (w.setCells g o vs)
  | [], _, _, _, h => h
  | v :: r, o, _, _, h => setCells_below hg r (o + 1) (h.setCell (p := ⟨g, o, none⟩) hg v)
/-- clear(s), s some places of a row of notes. -/
theorem run_clearM {P : Program} (w : World) (t e ty : TypeId) (z : Value) (ht : P.underlying t = some (.slice e)) (hz : ∀ w, (zeroValue e).run P w = .ok z w) (hz5 : z.cells.size = 5) (hz1 : ∀ v ∈ z.cells.toList, v.oneCell' = true)
    (g off n c : Nat) (hc : ∀ j, j < n * 5 → (w.cell? ⟨g, off + j, none⟩).isSome = true) (hf : ∀ j, w.frozen? ⟨g, j, none⟩ = false) :
    ∃ vs, (Builtin.clear_ #[t] ty #[.slice (some ⟨g, off, none⟩) n c]).run P w = .ok (.tuple #[]) (w.setCells g off vs) := by
  rcases Nat.eq_zero_or_pos n with h0 | h0
  · subst h0
    exact ⟨[], by simp [Builtin.clear_, run_underlying ht]; rfl⟩
  · obtain ⟨m, rfl⟩ : ∃ m, n = m + 1 := ⟨n - 1, by omega⟩
    have hlen : (Builtin.zeroCells z.cells (m + 1)).toList.length = (m + 1) * 5 := by simp [Builtin.zeroCells, hz5]
    have hst := run_storeCells_cells (P := P) g off (Builtin.zeroCells z.cells (m + 1)).toList 0 w (fun j hj => by rw [hlen] at hj; simpa using hc j hj) (fun j hj => hf _) (fun v hv => by
      simp only [Builtin.zeroCells, Array.toList_map, List.mem_map] at hv
      obtain ⟨i, hi, rfl⟩ := hv
      have : i % z.cells.size < z.cells.size := Nat.mod_lt _ (by omega)
      rw [getElem!_pos z.cells _ this]
      exact hz1 _ (by simp))
    simp only [Nat.add_zero] at hst
    exact ⟨(Builtin.zeroCells z.cells (m + 1)).toList, by simp [Builtin.clear_, run_underlying ht, hz, hst]⟩
theorem zeroMeta (w : World) : (zeroValue 113).run Tryz.prog w = .ok (.agg #[.int .i64 0, .int .i64 0, .int .i64 0, .slice none 0 0, .slice none 0 0]) w := by
  obtain ⟨i0, hi0, hz0, hz1, hz2⟩ := info_partsM infoMeta
  simp [zeroValue, typeInfo, hi0, hz0]
end Go.Proofs.YtgkchkdjcebnaaaGreatDoor
namespace Go.Proofs.YtgkchkdjcebnaaaGreatDoor
open Go.RowKit
open Ed (Nt)

theorem contains_rising (zs : List Int) (x : Int) : (Ed.rising zs).contains x = zs.contains x := by
  rw [Bool.eq_iff_iff, List.contains_iff_mem, List.contains_iff_mem]
  exact (Ed.rising_perm zs).mem_iff
theorem run_append_zerosM {P : Program} (w : World) (t tI ty e : TypeId) (i : TypeInfo) (z : Value) (ht : P.underlying t = some (.slice e)) (hI : P.underlying tI = some (.int .i64)) (hi : P.info? e = some i) (hz : i.zero = some z) (hz1 : i.size = 5) (hz2 : i.bytes = 72) (n : Nat) (h0 : 0 < n) (hn : n ≤ 1048576) :
    (Builtin.append_ #[t, tI] ty #[.slice none 0 0, .int .i64 (n : Int)]).run P w = .ok (.slice (some ⟨w.heap.size, 0, none⟩) n (grownCap w n 0 e)) (w.drew.alloc (.cells (Builtin.zeroCells z.cells n ++ Builtin.zeroCells z.cells (grownCap w n 0 e - n)) e)) := by
  have h2 : ¬ (9223372036854775807 < (n : Int)) := by omega
  have h3 : Builtin.nextslicecap n 0 = n := by unfold Builtin.nextslicecap; rw [if_pos (by omega)]
  have h4 : ¬ (281474976710656 < n * 72) := by omega
  have h5 : IntKind.i64.wrap (n : Int) = (n : Int) := wrap_small _ (by omega) (by omega)
  have h6 : ¬ ((n : Int) < 0) := by omega
  have h8 : ¬ n = 0 := by omega
  have h9 : ¬ n * 5 = 0 := by omega
  have h10 : ¬ (281474976710656 < (n : Int) * 72) := by omega
  simp [Builtin.append_, run_underlying ht, run_underlying hI, sizeOf, typeInfo, zeroValue, hi, hz, hz1, hz2, asInt, asIntOf, h2, h3, h4, h5, h6, h8, h9, h10, Int.max_eq_left (show (0 : Int) ≤ (n : Int) by omega), Question.forced, Builtin.firstCells, newRow, grownCap, Value.cells]
theorem wpList_append_zerosM {P : Program} {w : World} {ops : Array Oper} {rest : List Oper} {o : Oper} {a : Act} {Q : Exit → Act → World → Prop} (hgd : o.guard = none) (s x : Operand) (t tI e : TypeId)
    (ho : o.op = .call { callee := .builtin .append, args := #[s, x], argTypes := #[t, tI] })
    (i : TypeInfo) (z : Value) (ht : P.underlying t = some (.slice e)) (hI : P.underlying tI = some (.int .i64)) (hi : P.info? e = some i) (hz : i.zero = some z) (hz1 : i.size = 5) (hz2 : i.bytes = 72) (hz5 : z.cells.size = 5) (n : Nat) (h0 : 0 < n) (hn : n ≤ 1048576)
    (hs : a.eval s = .slice none 0 0) (hx : a.eval x = .int .i64 (n : Int))
    (h : ∀ g cap w', n ≤ cap → w'.ownsRow w.heap.size e 5 (.slice (some ⟨g, 0, none⟩) 0 cap) 0 [] → Below w.heap.size w w' → wpList P ops Q rest (a.put o.dst (.slice (some ⟨g, 0, none⟩) n cap)) w') : wpList P ops Q (o :: rest) a w := by
  refine wpList_plain hgd fun K hK => ?_
  have hrun := run_append_zerosM w t tI o.type e i z ht hI hi hz hz1 hz2 n h0 hn
  unfold Oper.wp
  simp [execOp, ho, resolve, invoke, builtin, hs, hx, hrun, Result.andThen]
  refine hK _ _ (h _ _ _ (grownCap_ge _ _ _ _) ?_ ((Below.refl _ _).drew.alloc (Nat.le_refl _) _))
  refine ⟨rfl, .inr ⟨_, _, _, rfl, Nat.le_refl _, heap_alloc_new w.drew _, Nat.zero_le _, grownCap_le_maxLen _ _ _ _ (by unfold maxLen; omega), ?_, by simp⟩⟩
  have := grownCap_ge w n 0 e
  simp [Builtin.zeroCells, hz5]
  omega
end Go.Proofs.YtgkchkdjcebnaaaGreatDoor

namespace Go.Proofs.YtgkchkdjcebnaaaGreatDoor.Ed

/-- None goes ahead of an earlier one. -/
def Weak (l : List Nt) : Prop := l.Pairwise fun a b => ¬ ahead b a
theorem perm_uniq : ∀ {l1 l2 : List Nt}, l1.Perm l2 → l1.Pairwise ahead → Weak l2 → l1 = l2
  | [], l2, hp, _, _ => (List.nil_perm.1 hp).symm
  | a :: t, [], hp, _, _ => by have := hp.length_eq; simp at this
  | a :: t, b :: s, hp, h1, h2 => by
    obtain ⟨h1a, h1t⟩ := List.pairwise_cons.1 h1
    obtain ⟨h2b, h2s⟩ := List.pairwise_cons.1 h2
    have hab : a = b := by
      rcases Classical.em (a = b) with h | h
      · exact h
      · have ha : a ∈ s := by
          have : a ∈ b :: s := hp.mem_iff.1 (by simp)
          rcases List.mem_cons.1 this with e | e
          · exact absurd e h
          · exact e
        have hb : b ∈ t := by
          have : b ∈ a :: t := hp.mem_iff.2 (by simp)
          rcases List.mem_cons.1 this with e | e
          · exact absurd e.symm h
          · exact e
        exact absurd (h1a b hb) (h2b a ha)
    subst hab
    rw [perm_uniq (List.Perm.cons_inv hp) h1t h2s]
/-- Of notes that may be, each goes ahead of the next one. -/
theorem notes_step {l : List Nt} {next : Int} (h : notesOk l next = true) {j : Nat} {a b : Nt} (ha : l[j]? = some a) (hb : l[j + 1]? = some b) : ahead a b := by
  unfold notesOk at h
  simp only [Bool.and_eq_true, Bool.not_eq_true'] at h
  obtain ⟨⟨⟨_, hs⟩, ht⟩, ho⟩ := h
  have hj : j + 1 < l.length := (List.getElem?_eq_some_iff.1 hb).1
  have h1 := List.all_eq_true.1 hs j (List.mem_range.2 (by omega))
  have h2 := List.all_eq_true.1 ho (j + 1) (List.mem_range.2 hj)
  have h3 := List.all_eq_true.1 ho j (List.mem_range.2 (by omega))
  rw [okN_succ hb ha] at h2
  unfold okS at h1
  rw [ha, hb] at h1
  simp only [Bool.not_eq_true', decide_eq_false_iff_not] at h1
  simp only [Bool.and_eq_true, Bool.not_eq_true'] at h2
  have hma : mayBe a = true := by
    unfold okN at h3
    rw [ha] at h3
    simp only [Bool.and_eq_true] at h3
    exact h3.1.1
  have hnum : a.num ≠ b.num := by
    have hn : (nums l).Nodup := by
      unfold twice at ht
      simpa using ht
    have hp := List.pairwise_iff_getElem.1 hn j (j + 1) (by unfold nums; rw [List.length_map]; omega) (by unfold nums; rw [List.length_map]; omega) (by omega)
    have e1 : (nums l)[j]? = some a.num := by unfold nums; rw [List.getElem?_map, ha]; rfl
    have e2 : (nums l)[j + 1]? = some b.num := by unfold nums; rw [List.getElem?_map, hb]; rfl
    obtain ⟨_, e1⟩ := List.getElem?_eq_some_iff.1 e1
    obtain ⟨_, e2⟩ := List.getElem?_eq_some_iff.1 e2
    rw [e1, e2] at hp
    exact hp
  have h1' : ¬ ahead b a := h1
  rw [ahead_iff] at h1'
  rw [ahead_iff]
  rcases Int.lt_trichotomy a.level b.level with hl | hl | hl
  · exact .inl hl
  · refine .inr ⟨hl, ?_⟩
    rcases Classical.em (a.level = 0) with h0 | h0
    · refine .inl ⟨h0, ?_⟩
      have : ¬ a.num < b.num := fun e => h1' (.inr ⟨hl.symm, .inl ⟨by omega, e⟩⟩)
      omega
    · refine .inr ⟨h0, ?_⟩
      unfold mayBe at hma
      simp only [Bool.and_eq_true, decide_eq_true_eq, Bool.not_eq_true'] at hma
      have hm := h2.2
      unfold meets at hm
      have hlv : (0 : Int) ≤ a.level := hma.1.1.1.1.1.1.2
      have hlt : 0 < a.level := by omega
      simp only [hl, decide_true, Bool.true_and] at hm
      rw [hl] at hlt
      simp only [hlt, decide_true, Bool.true_and, Bool.not_eq_false'] at hm
      have hfl : less a.last a.first = false := hma.2
      cases q : less a.first a.last with
      | true => exact less_trans q hm
      | false =>
        have := less_total q hfl
        rw [this]
        exact hm
  · exact absurd (.inl hl) h1'
theorem notes_strict {l : List Nt} {next : Int} (h : notesOk l next = true) : l.Pairwise ahead := by
  rw [List.pairwise_iff_getElem]
  have key : ∀ d i (hi : i < l.length) (hj : i + d + 1 < l.length), ahead l[i] l[i + d + 1] := by
    intro d
    induction d with
    | zero => exact fun i hi hj => notes_step h (List.getElem?_eq_getElem hi) (List.getElem?_eq_getElem hj)
    | succ d ih => exact fun i hi hj => ahead_trans (ih i hi (by omega)) (notes_step h (j := i + d + 1) (List.getElem?_eq_getElem (by omega)) (List.getElem?_eq_getElem hj))
  intro i j hi hj hij
  obtain ⟨d, rfl⟩ : ∃ d, j = i + d + 1 := ⟨j - i - 1, by omega⟩
  exact key d i hi hj
/-- Whichever order a sort has left: it is the one. -/
theorem notes_uniq {l1 l2 : List Nt} {next : Int} (hp : l1.Perm l2) (h1 : Weak l1) (h2 : Weak l2) : notesOk l1 next = notesOk l2 next ∧ (notesOk l1 next = true → l1 = l2) := by
  have a : notesOk l1 next = true → l1 = l2 := fun h => perm_uniq hp (notes_strict h) h2
  have b : notesOk l2 next = true → l2 = l1 := fun h => perm_uniq hp.symm (notes_strict h) h1
  refine ⟨?_, a⟩
  cases q1 : notesOk l1 next with
  | true => rw [← a q1, q1]
  | false =>
    cases q2 : notesOk l2 next with
    | false => rfl
    | true => rw [b q2] at q2; rw [q1] at q2; exact q2
/-- Notes in order. -/
def srt (l : List Nt) : List Nt := l.mergeSort fun a b => !decide (order b a < 0)
theorem srt_perm (l : List Nt) : (srt l).Perm l := List.mergeSort_perm _ _
theorem srt_weak (l : List Nt) : Weak (srt l) := by
  have h := List.pairwise_mergeSort (le := fun a b : Nt => !decide (order b a < 0)) (fun a b c h1 h2 => by
    simp only [Bool.not_eq_true', decide_eq_false_iff_not] at h1 h2 ⊢
    exact apart_trans h2 h1) (fun a b => by
    rcases Classical.em (order b a < 0) with h | h
    · have : ¬ order a b < 0 := fun e => ahead_irrefl _ (ahead_trans h e)
      simp [this]
    · simp [h]) l
  unfold Weak
  rw [List.pairwise_iff_getElem] at h ⊢
  intro i j hi hj hij
  have := h i j hi hj hij
  simp only [Bool.not_eq_true', decide_eq_false_iff_not] at this
  exact this
/-- The notes whose Nums are not dropped. -/
def kept (l : List Nt) (drop : List Int) : List Nt := l.filter fun m => !drop.contains m.num
/-- What a version becomes, if it may. -/
def after (v : Ver) (drop : List Int) (add : List Nt) : Ver := ⟨v.gen + 1, v.next, v.log, v.seq, srt (kept v.tabs drop ++ add)⟩
def applies (v : Ver) (drop : List Int) (add : List Nt) : Bool := chk v && decide ((kept v.tabs drop).length + drop.length = v.tabs.length) && chk (after v drop add)
/-- Whichever order a sort has left behind: the version is the one. -/
theorem after_uniq {v : Ver} {drop : List Int} {add l : List Nt} (hp : l.Perm (kept v.tabs drop ++ add)) (hw : Weak l) : chk ⟨v.gen + 1, v.next, v.log, v.seq, l⟩ = chk (after v drop add) ∧ (chk (after v drop add) = true → l = (after v drop add).tabs) := by
  have u := notes_uniq (next := v.next) (hp.trans (srt_perm _).symm) hw (srt_weak _)
  refine ⟨?_, fun h => ?_⟩
  · unfold chk after
    simp only
    rw [u.1]
  · refine u.2 ?_
    rw [u.1]
    unfold chk after at h
    simp only [Bool.and_eq_true] at h
    exact h.2
theorem chk_parts {v : Ver} (h : chk v = true) : isNum v.gen = true ∧ isNum v.next = true ∧ isNum v.log = true ∧ isNum v.seq = true ∧ notesOk v.tabs v.next = true := by
  unfold chk at h
  simp only [Bool.and_eq_true] at h
  exact ⟨h.1.1.1.1, h.1.1.1.2, h.1.1.2, h.1.2, h.2⟩
theorem isNum_bounds {n : Int} (h : isNum n = true) : 0 ≤ n ∧ n ≤ 1099511627776 := by
  unfold isNum at h
  simpa using h
theorem notes_len {l : List Nt} {next : Int} (h : notesOk l next = true) : l.length ≤ 4096 := by
  unfold notesOk at h
  simp only [Bool.and_eq_true] at h
  exact of_decide_eq_true h.1.1.1
theorem notes_may {l : List Nt} {next : Int} (h : notesOk l next = true) {m : Nt} (hm : m ∈ l) : mayBe m = true ∧ m.num < next := by
  unfold notesOk at h
  simp only [Bool.and_eq_true] at h
  obtain ⟨i, hi⟩ := List.getElem?_of_mem hm
  have h1 := List.all_eq_true.1 h.2 i (List.mem_range.2 (List.getElem?_eq_some_iff.1 hi).1)
  unfold okN at h1
  rw [hi] at h1
  simp only [Bool.and_eq_true] at h1
  exact ⟨h1.1.1, of_decide_eq_true h1.1.2⟩
theorem may_keys {m : Nt} (h : mayBe m = true) : m.first.length ≤ 64 ∧ m.last.length ≤ 64 := by
  unfold mayBe isKey at h
  simp only [Bool.and_eq_true, decide_eq_true_eq] at h
  exact ⟨h.1.1.2.2, h.1.2.2⟩
theorem notes_nodup {l : List Nt} {next : Int} (h : notesOk l next = true) : (nums l).Nodup := by
  unfold notesOk at h
  simp only [Bool.and_eq_true, Bool.not_eq_true'] at h
  have := h.1.2
  unfold twice at this
  simpa using this
end Go.Proofs.YtgkchkdjcebnaaaGreatDoor.Ed
namespace Go.Proofs.YtgkchkdjcebnaaaGreatDoor
open Go.RowKit
open Ed (Nt)

theorem RSrc.setFar {α : Type} {k : Kind α} {w : World} {ao : Option Addr} {n c : Nat} {es : List α} (h : RSrc k w ao n c es) {b i : Nat} {v : Value} (hf : ∀ ad, ao = some ad → ad.block ≠ b) (hh : ∀ e ∈ es, k.held (w.setCell ⟨b, i, none⟩ v) e) : RSrc k (w.setCell ⟨b, i, none⟩ v) ao n c es :=
  ⟨h.len, h.cap, h.nil, fun ad e j u hu => by
    have hb : (ad.add j).block = ad.block := by first | rfl | (unfold Addr.add; split <;> rfl) | simp [Addr.add]
    rw [World.cell?_of_block (w := w) (set_farM i v (by rw [hb]; exact hf ad e))]
    exact h.cells ad e j u hu, hh⟩
/-- The same cell set in both. -/
theorem Below.both {B : Nat} {a b : World} (h : Below B a b) {g i : Nat} (v : Value) (hg : g < B) : Below B (a.setCell ⟨g, i, none⟩ v) (b.setCell ⟨g, i, none⟩ v) :=
  ⟨h.os, h.tape, h.output, by simp only [World.setCell, Array.size_modify]; exact h.size, fun k hk => by
    by_cases e : k = g
    · subst e
      have := h.block k hk
      simp only [World.setCell, Array.getElem?_modify, if_pos, this]
    · rw [set_farM i v e, set_farM i v e]
      exact h.block k hk⟩
theorem RowG.far {w : World} {g cap b i : Nat} {cur : List MV} {v : Value} (h : RowG w g cap cur) (hb : g ≠ b) : RowG (w.setCell ⟨b, i, none⟩ v) g cap cur := by
  obtain ⟨arr, h1, h2, h3⟩ := h.ex
  exact ⟨⟨arr, (set_farM i v hb).trans h1, h2, h3⟩, h.le⟩
theorem Mets.far {B : Nat} {w : World} {v : Value} {ys : List MV} (h : Mets B w v ys) {b i : Nat} {u : Value} (hb : b < B) : Mets B (w.setCell ⟨b, i, none⟩ u) v ys := by
  have one : ∀ {t k n : Nat} {x : Value} {xs : List Value}, w.ownsRow B t k x n xs → (w.setCell ⟨b, i, none⟩ u).ownsRow B t k x n xs := fun hr => own_block hr (fun g hg => set_farM i u (by have := (hr.lt g hg).1; omega))
  exact ⟨one h.row, fun y hy => ⟨one (h.each y hy).1, one (h.each y hy).2⟩⟩
def zeroV : VV := ⟨none, 0, 0, 0, 0, 0, 0, []⟩
theorem zeroV_held (w : World) : VV.held w zeroV := RSrc.empty (fun _ => rfl)
/-- Apply's answer. -/
def AppA (v : Ed.Ver) (ds : List Int) (ms : List Nt) (w : World) (e : Ending) (w' : World) : Prop :=
  (∃ y : VV, e = .returned (.tuple #[y.val, .int .i64 (if Ed.applies v ds ms then 0 else 1)]) ∧ VV.held w' y ∧ y.v = (if Ed.applies v ds ms then Ed.after v ds ms else zeroV.v)) ∧ Below w.heap.size w w'
theorem AppA.no {v : Ed.Ver} {ds : List Int} {ms : List Nt} {w w' : World} (h : Ed.applies v ds ms = false) (hb : Below w.heap.size w w') : AppA v ds ms w (.returned (.tuple #[.agg #[.int .i64 0, .int .i64 0, .int .i64 0, .int .i64 0, .slice none 0 0], .int .i64 1])) w' :=
  ⟨⟨zeroV, by rw [h]; rfl, zeroV_held _, by rw [h]; rfl⟩, hb⟩
end Go.Proofs.YtgkchkdjcebnaaaGreatDoor
namespace Go.Proofs.YtgkchkdjcebnaaaGreatDoor
open Go.RowKit
open Ed (Nt)

theorem step_append_recM {α : Type} {k : Kind α} (K : k.Ok) {P : Program} {w : World} {ops : Array Oper} {o : Oper} {a : Act} {C : Act → World → Prop} {Q : Exit → Act → World → Prop} {E : Prop} (hgd : o.guard = none) (s x : Operand) (t tF : TypeId)
    (ho : o.op = .call { callee := .builtin .append, args := #[s, x], argTypes := #[t, t] })
    (base : Nat) (i : TypeInfo) (z : Value) (bytes : Nat) (ht : P.underlying t = some (.slice tF)) (hi : P.info? tF = some i) (hz : i.zero = some z)
    (hsize : i.size = k.size) (hby : i.bytes = bytes) (hzs : z.cells.size = k.size)
    (v : Value) (n : Nat) (es : List α) (hs : a.eval s = v) (hown : w.ownsRow base tF k.size v n (rv k es))
    (ad : Addr) (c : Nat) (e : α) (hx : a.eval x = .slice (some ad) 1 c) (hcells : ∀ j u, (k.vals e)[j]? = some u → w.cell? (ad.add j) = some u)
    (hb : n + 1 ≤ maxLen) (hbytes : (n + 1) * bytes ≤ 140737488355328) (hbase : base ≤ w.heap.size)
    (h : ∀ v' w', w'.ownsRow base tF k.size v' (n + 1) (rv k (es ++ [e])) → w.grownBy w' v.ownBlock → C (a.put o.dst v') w') : if Region.wanted o (yielded ops a.tmps) = true then Oper.wp P o a w C Q else E := by
  have hw : Region.wanted o (yielded ops a.tmps) = true := by simp [Region.wanted, hgd]
  rw [if_pos hw]
  obtain ⟨v', w', hrun, h1, h2, _⟩ := run_append_own (P := P) w base t o.type tF i z k.size bytes ht hi hz hsize hby hzs K.pos v n (rv k es) hown ad 1 c (k.vals e) (by rw [K.len, Nat.one_mul]) hcells (K.one e) hb hbytes hbase
  unfold Oper.wp
  simp [execOp, ho, resolve, invoke, builtin, hs, hx, hrun, Result.andThen]
  refine h v' w' ?_ h2
  rw [rv_append]
  simpa [rv] using h1
theorem infoNote : (Tryz.prog.info? 73).map (fun i => (i.zero, i.size, i.bytes)) = some (some (.agg #[.int .i64 0, .int .i64 0, .int .i64 0, .slice none 0 0, .slice none 0 0]), 5, 72) := by kernel_rfl
theorem take_moreE {l : List MV} {k : Nat} {m : MV} (h : l[k]? = some m) : l.take (k + 1) = l.take k ++ [m] := by rw [List.take_add_one, h]; rfl
end Go.Proofs.YtgkchkdjcebnaaaGreatDoor
namespace Go.Proofs.YtgkchkdjcebnaaaGreatDoor
open Go.RowKit
open Ed (Nt)

end Go.Proofs.YtgkchkdjcebnaaaGreatDoor
namespace Go.Proofs.YtgkchkdjcebnaaaGreatDoor
open Go.RowKit
open Ed (Nt)

theorem convM {w : World} {ao : Option Addr} {m c : Nat} {l : List UInt8} (h : Src w ao m c l) : (convert 25 9 (.slice ao m c)).run Tryz.prog w = .ok (.string ⟨l.toArray⟩) w := by
  rcases Nat.eq_zero_or_pos m with h0 | h0
  · subst h0
    have hl : l = [] := List.length_eq_zero_iff.1 h.len
    subst hl
    rw [run_convert_bytes_string w 25 9 5 _ 0 c Tryz.underlying25 Tryz.underlying5 Tryz.underlying9]
    cases ao <;> simp [Conv.bytesToString, loadCells]
    all_goals rfl
  · obtain ⟨b, off, e, _, hby⟩ := h.form h0
    cases e
    have hl := h.len
    have := run_convert_bytes_arg (P := Tryz.prog) w 25 5 Tryz.underlying25 Tryz.underlying5 b off m c (l.map fun b => (b.toNat : Int)) (by simpa using h.len) (fun i hi => by
      rw [hby i hi]
      have : i < l.length := by omega
      simp [fn, List.getD, this]) 9 Tryz.underlying9
    rwa [strOfNums_bytes] at this
set_option maxHeartbeats 8000000 in
set_option maxRecDepth 100000 in
theorem sameMetas_yes (ao : Option Addr) (n c : Nat) (es : List MV) (ao2 : Option Addr) (c2 : Nat) (es2 : List MV) (w : World) (h1 : RSrc metaKind w ao n c es) (h2 : RSrc metaKind w ao2 n c2 es2) (he : es.map (·.m) = es2.map (·.m)) (hn : n ≤ 10000000000) :
    Calls Tryz.prog 66 #[.slice ao n c, .slice ao2 n c2] w fun e w' => e = .returned (.bool true) ∧ Below w.heap.size w w' := by
  have H1 := keep h1
  have H2 := keep h2
  have HE := keep he
  have HL1 : Hid (es.length = n) := h1.len
  have HL2 : Hid (es2.length = n) := h2.len
  clear h1 h2 he
  go_enter Tryz.func66, Tryz.ntmps66
  go_wp2
  go_loopw [5] (fun i wr => ∃ k : Nat, k ≤ n ∧ i = .int .i64 (k : Int) ∧ Hid (Below w.heap.size w wr)) (fun i _ => n - (intOf i).toNat)
  case atStart => exact ⟨0, Nat.zero_le _, rfl, Below.refl _ _⟩
  case round =>
    obtain ⟨k, hk, rfl, HB⟩ := hrel
    by_cases hkn : k < n
    · obtain ⟨b, off, rfl, _, _⟩ := H1.out.form metaKind_ok (by omega)
      obtain ⟨b2, off2, rfl, _, _⟩ := H2.out.form metaKind_ok (by omega)
      obtain ⟨x, hx⟩ : ∃ x, es[k]? = some x := ⟨es[k]'(by rw [HL1.out]; exact hkn), List.getElem?_eq_getElem _⟩
      obtain ⟨y, hy⟩ : ∃ y, es2[k]? = some y := ⟨es2[k]'(by rw [HL2.out]; exact hkn), List.getElem?_eq_getElem _⟩
      have hxy : x.m = y.m := by
        have := congrArg (fun l => l[k]?) HE.out
        simp only [List.getElem?_map, hx, hy, Option.map_some, Option.some.injEq] at this
        exact this
      have C1 : Hid (∀ w', Below w.heap.size w w' → _) := fun w' hb => meta_cells (H1.out.below metaKind_ok hb) hx
      have C2 : Hid (∀ w', Below w.heap.size w w' → _) := fun w' hb => meta_cells (H2.out.below metaKind_ok hb) hy
      have X1 : Hid (∀ w', Below w.heap.size w w' → metaKind.held w' x) := fun w' hb => (H1.out.below metaKind_ok hb).held x (List.mem_of_getElem? hx)
      have Y1 : Hid (∀ w', Below w.heap.size w w' → metaKind.held w' y) := fun w' hb => (H2.out.below metaKind_ok hb).held y (List.mem_of_getElem? hy)
      clear hx hy
      obtain ⟨xfp, xfc, xlp, xlc, ⟨num, level, count, first, last⟩⟩ := x
      obtain ⟨yfp, yfc, ylp, ylc, ym⟩ := y
      simp only at hxy
      subst hxy
      simp only at C1 C2
      have Sxf : Hid (∀ w', Below w.heap.size w w' → _) := fun w' hb => convM (X1.out w' hb).1
      have Sxl : Hid (∀ w', Below w.heap.size w w' → _) := fun w' hb => convM (X1.out w' hb).2
      have Syf : Hid (∀ w', Below w.heap.size w w' → _) := fun w' hb => convM (Y1.out w' hb).1
      have Syl : Hid (∀ w', Below w.heap.size w w' → _) := fun w' hb => convM (Y1.out w' hb).2
      simp only at Sxf Sxl Syf Syl
      have ll : (k : Int) < (n : Int) := by omega
      have l0 : (0 : Int) ≤ (k : Int) := by omega
      go_wp2_with fail
      refine wp_region_held_drew (S := fun w' => Below w.heap.size w w') (by kernel_rfl) (HB.out.drew) (fun hHeld => ?_)
      refine takeH (i := 0) 17 (v := .slice (some ⟨b, off, none⟩) n c) rfl rfl (by kernel_rfl) (by kernel_rfl) (by kernel_rfl) (fun _ _ _ h => h) (Or.inl ⟨by rfl, ?_⟩) (by assumption) ?_
      · intro w' hSw'
        go_simp
      simp only [Act.put, List.setIfInBounds_toArray, List.set_cons_zero, List.set_cons_succ]
      refine takeH (i := 1) 18 (v := .int .i64 (k : Int)) rfl rfl (by kernel_rfl) (by kernel_rfl) (by kernel_rfl) (fun _ _ _ h => h) (Or.inl ⟨by rfl, ?_⟩) (by assumption) ?_
      · intro w' hSw'
        go_simp
      simp only [Act.put, List.setIfInBounds_toArray, List.set_cons_zero, List.set_cons_succ]
      refine takeH (i := 2) 19 (v := .pointer (some ⟨b, off + k * 5, none⟩)) rfl rfl (by kernel_rfl) (by kernel_rfl) (by kernel_rfl) (fun _ _ _ h => h) (Or.inl ⟨by rfl, ?_⟩) (by assumption) ?_
      · intro w' hSw'
        go_simp
      simp only [Act.put, List.setIfInBounds_toArray, List.set_cons_zero, List.set_cons_succ]
      refine takeH (i := 3) 20 (v := .pointer (some ⟨b, off + k * 5, none⟩)) rfl rfl (by kernel_rfl) (by kernel_rfl) (by kernel_rfl) (fun _ _ _ h => h) (Or.inl ⟨by rfl, ?_⟩) (by assumption) ?_
      · intro w' hSw'
        go_simp
      simp only [Act.put, List.setIfInBounds_toArray, List.set_cons_zero, List.set_cons_succ]
      refine takeH (i := 4) 21 (v := .int .i64 num) rfl rfl (by kernel_rfl) (by kernel_rfl) (by kernel_rfl) (fun _ _ _ h => h) (Or.inl ⟨by rfl, ?_⟩) (by assumption) ?_
      · intro w' hSw'
        obtain ⟨d0, d1, d2, d3, d4⟩ := C1.out w' hSw'
        go_simp
      simp only [Act.put, List.setIfInBounds_toArray, List.set_cons_zero, List.set_cons_succ]
      refine takeH (i := 5) 0x16 (v := .slice (some ⟨b2, off2, none⟩) n c2) rfl rfl (by kernel_rfl) (by kernel_rfl) (by kernel_rfl) (fun _ _ _ h => h) (Or.inl ⟨by rfl, ?_⟩) (by assumption) ?_
      · intro w' hSw'
        go_simp
      simp only [Act.put, List.setIfInBounds_toArray, List.set_cons_zero, List.set_cons_succ]
      refine takeH (i := 6) 23 (v := .int .i64 (k : Int)) rfl rfl (by kernel_rfl) (by kernel_rfl) (by kernel_rfl) (fun _ _ _ h => h) (Or.inl ⟨by rfl, ?_⟩) (by assumption) ?_
      · intro w' hSw'
        go_simp
      simp only [Act.put, List.setIfInBounds_toArray, List.set_cons_zero, List.set_cons_succ]
      refine takeH (i := 7) 24 (v := .pointer (some ⟨b2, off2 + k * 5, none⟩)) rfl rfl (by kernel_rfl) (by kernel_rfl) (by kernel_rfl) (fun _ _ _ h => h) (Or.inl ⟨by rfl, ?_⟩) (by assumption) ?_
      · intro w' hSw'
        go_simp
      simp only [Act.put, List.setIfInBounds_toArray, List.set_cons_zero, List.set_cons_succ]
      refine takeH (i := 8) 25 (v := .pointer (some ⟨b2, off2 + k * 5, none⟩)) rfl rfl (by kernel_rfl) (by kernel_rfl) (by kernel_rfl) (fun _ _ _ h => h) (Or.inl ⟨by rfl, ?_⟩) (by assumption) ?_
      · intro w' hSw'
        go_simp
      simp only [Act.put, List.setIfInBounds_toArray, List.set_cons_zero, List.set_cons_succ]
      refine takeH (i := 9) 26 (v := .int .i64 num) rfl rfl (by kernel_rfl) (by kernel_rfl) (by kernel_rfl) (fun _ _ _ h => h) (Or.inl ⟨by rfl, ?_⟩) (by assumption) ?_
      · intro w' hSw'
        obtain ⟨d0, d1, d2, d3, d4⟩ := C2.out w' hSw'
        go_simp
      simp only [Act.put, List.setIfInBounds_toArray, List.set_cons_zero, List.set_cons_succ]
      refine takeH (i := 10) 27 (v := .bool false) rfl rfl (by kernel_rfl) (by kernel_rfl) (by kernel_rfl) (fun _ _ _ h => h) (Or.inl ⟨by rfl, ?_⟩) (by assumption) ?_
      · intro w' hSw'
        go_simp
      simp only [Act.put, List.setIfInBounds_toArray, List.set_cons_zero, List.set_cons_succ]
      refine takeH (i := 11) 28 (v := .bool false) rfl rfl (by kernel_rfl) (by kernel_rfl) (by kernel_rfl) (fun _ _ _ h => h) (Or.inl ⟨by rfl, ?_⟩) (by assumption) ?_
      · intro w' hSw'
        go_simp
      simp only [Act.put, List.setIfInBounds_toArray, List.set_cons_zero, List.set_cons_succ]
      refine takeH (i := 12) 29 (v := .slice (some ⟨b, off, none⟩) n c) rfl rfl (by kernel_rfl) (by kernel_rfl) (by kernel_rfl) (fun _ _ _ h => h) (Or.inl ⟨by rfl, ?_⟩) (by assumption) ?_
      · intro w' hSw'
        go_simp
      simp only [Act.put, List.setIfInBounds_toArray, List.set_cons_zero, List.set_cons_succ]
      refine takeH (i := 13) 30 (v := .int .i64 (k : Int)) rfl rfl (by kernel_rfl) (by kernel_rfl) (by kernel_rfl) (fun _ _ _ h => h) (Or.inl ⟨by rfl, ?_⟩) (by assumption) ?_
      · intro w' hSw'
        go_simp
      simp only [Act.put, List.setIfInBounds_toArray, List.set_cons_zero, List.set_cons_succ]
      refine takeH (i := 14) 31 (v := .pointer (some ⟨b, off + k * 5, none⟩)) rfl rfl (by kernel_rfl) (by kernel_rfl) (by kernel_rfl) (fun _ _ _ h => h) (Or.inl ⟨by rfl, ?_⟩) (by assumption) ?_
      · intro w' hSw'
        go_simp
      simp only [Act.put, List.setIfInBounds_toArray, List.set_cons_zero, List.set_cons_succ]
      refine takeH (i := 15) 32 (v := .pointer (some ⟨b, off + k * 5 + 1, none⟩)) rfl rfl (by kernel_rfl) (by kernel_rfl) (by kernel_rfl) (fun _ _ _ h => h) (Or.inl ⟨by rfl, ?_⟩) (by assumption) ?_
      · intro w' hSw'
        go_simp
      simp only [Act.put, List.setIfInBounds_toArray, List.set_cons_zero, List.set_cons_succ]
      refine takeH (i := 16) 33 (v := .int .i64 level) rfl rfl (by kernel_rfl) (by kernel_rfl) (by kernel_rfl) (fun _ _ _ h => h) (Or.inl ⟨by rfl, ?_⟩) (by assumption) ?_
      · intro w' hSw'
        obtain ⟨d0, d1, d2, d3, d4⟩ := C1.out w' hSw'
        go_simp
      simp only [Act.put, List.setIfInBounds_toArray, List.set_cons_zero, List.set_cons_succ]
      refine takeH (i := 17) 34 (v := .slice (some ⟨b2, off2, none⟩) n c2) rfl rfl (by kernel_rfl) (by kernel_rfl) (by kernel_rfl) (fun _ _ _ h => h) (Or.inl ⟨by rfl, ?_⟩) (by assumption) ?_
      · intro w' hSw'
        go_simp
      simp only [Act.put, List.setIfInBounds_toArray, List.set_cons_zero, List.set_cons_succ]
      refine takeH (i := 18) 35 (v := .int .i64 (k : Int)) rfl rfl (by kernel_rfl) (by kernel_rfl) (by kernel_rfl) (fun _ _ _ h => h) (Or.inl ⟨by rfl, ?_⟩) (by assumption) ?_
      · intro w' hSw'
        go_simp
      simp only [Act.put, List.setIfInBounds_toArray, List.set_cons_zero, List.set_cons_succ]
      refine takeH (i := 19) 36 (v := .pointer (some ⟨b2, off2 + k * 5, none⟩)) rfl rfl (by kernel_rfl) (by kernel_rfl) (by kernel_rfl) (fun _ _ _ h => h) (Or.inl ⟨by rfl, ?_⟩) (by assumption) ?_
      · intro w' hSw'
        go_simp
      simp only [Act.put, List.setIfInBounds_toArray, List.set_cons_zero, List.set_cons_succ]
      refine takeH (i := 20) 37 (v := .pointer (some ⟨b2, off2 + k * 5 + 1, none⟩)) rfl rfl (by kernel_rfl) (by kernel_rfl) (by kernel_rfl) (fun _ _ _ h => h) (Or.inl ⟨by rfl, ?_⟩) (by assumption) ?_
      · intro w' hSw'
        go_simp
      simp only [Act.put, List.setIfInBounds_toArray, List.set_cons_zero, List.set_cons_succ]
      refine takeH (i := 21) 38 (v := .int .i64 level) rfl rfl (by kernel_rfl) (by kernel_rfl) (by kernel_rfl) (fun _ _ _ h => h) (Or.inl ⟨by rfl, ?_⟩) (by assumption) ?_
      · intro w' hSw'
        obtain ⟨d0, d1, d2, d3, d4⟩ := C2.out w' hSw'
        go_simp
      simp only [Act.put, List.setIfInBounds_toArray, List.set_cons_zero, List.set_cons_succ]
      refine takeH (i := 0x16) 39 (v := .bool false) rfl rfl (by kernel_rfl) (by kernel_rfl) (by kernel_rfl) (fun _ _ _ h => h) (Or.inl ⟨by rfl, ?_⟩) (by assumption) ?_
      · intro w' hSw'
        go_simp
      simp only [Act.put, List.setIfInBounds_toArray, List.set_cons_zero, List.set_cons_succ]
      refine takeH (i := 23) 40 (v := .bool false) rfl rfl (by kernel_rfl) (by kernel_rfl) (by kernel_rfl) (fun _ _ _ h => h) (Or.inl ⟨by rfl, ?_⟩) (by assumption) ?_
      · intro w' hSw'
        go_simp
      simp only [Act.put, List.setIfInBounds_toArray, List.set_cons_zero, List.set_cons_succ]
      refine takeH (i := 24) 41 (v := .bool false) rfl rfl (by kernel_rfl) (by kernel_rfl) (by kernel_rfl) (fun _ _ _ h => h) (Or.inl ⟨by rfl, ?_⟩) (by assumption) ?_
      · intro w' hSw'
        go_simp
      simp only [Act.put, List.setIfInBounds_toArray, List.set_cons_zero, List.set_cons_succ]
      refine takeH (i := 25) 42 (v := .slice (some ⟨b, off, none⟩) n c) rfl rfl (by kernel_rfl) (by kernel_rfl) (by kernel_rfl) (fun _ _ _ h => h) (Or.inl ⟨by rfl, ?_⟩) (by assumption) ?_
      · intro w' hSw'
        go_simp
      simp only [Act.put, List.setIfInBounds_toArray, List.set_cons_zero, List.set_cons_succ]
      refine takeH (i := 26) 43 (v := .int .i64 (k : Int)) rfl rfl (by kernel_rfl) (by kernel_rfl) (by kernel_rfl) (fun _ _ _ h => h) (Or.inl ⟨by rfl, ?_⟩) (by assumption) ?_
      · intro w' hSw'
        go_simp
      simp only [Act.put, List.setIfInBounds_toArray, List.set_cons_zero, List.set_cons_succ]
      refine takeH (i := 27) 44 (v := .pointer (some ⟨b, off + k * 5, none⟩)) rfl rfl (by kernel_rfl) (by kernel_rfl) (by kernel_rfl) (fun _ _ _ h => h) (Or.inl ⟨by rfl, ?_⟩) (by assumption) ?_
      · intro w' hSw'
        go_simp
      simp only [Act.put, List.setIfInBounds_toArray, List.set_cons_zero, List.set_cons_succ]
      refine takeH (i := 28) 45 (v := .pointer (some ⟨b, off + k * 5 + 2, none⟩)) rfl rfl (by kernel_rfl) (by kernel_rfl) (by kernel_rfl) (fun _ _ _ h => h) (Or.inl ⟨by rfl, ?_⟩) (by assumption) ?_
      · intro w' hSw'
        go_simp
      simp only [Act.put, List.setIfInBounds_toArray, List.set_cons_zero, List.set_cons_succ]
      refine takeH (i := 29) 46 (v := .int .i64 count) rfl rfl (by kernel_rfl) (by kernel_rfl) (by kernel_rfl) (fun _ _ _ h => h) (Or.inl ⟨by rfl, ?_⟩) (by assumption) ?_
      · intro w' hSw'
        obtain ⟨d0, d1, d2, d3, d4⟩ := C1.out w' hSw'
        go_simp
      simp only [Act.put, List.setIfInBounds_toArray, List.set_cons_zero, List.set_cons_succ]
      refine takeH (i := 30) 47 (v := .slice (some ⟨b2, off2, none⟩) n c2) rfl rfl (by kernel_rfl) (by kernel_rfl) (by kernel_rfl) (fun _ _ _ h => h) (Or.inl ⟨by rfl, ?_⟩) (by assumption) ?_
      · intro w' hSw'
        go_simp
      simp only [Act.put, List.setIfInBounds_toArray, List.set_cons_zero, List.set_cons_succ]
      refine takeH (i := 31) 48 (v := .int .i64 (k : Int)) rfl rfl (by kernel_rfl) (by kernel_rfl) (by kernel_rfl) (fun _ _ _ h => h) (Or.inl ⟨by rfl, ?_⟩) (by assumption) ?_
      · intro w' hSw'
        go_simp
      simp only [Act.put, List.setIfInBounds_toArray, List.set_cons_zero, List.set_cons_succ]
      refine takeH (i := 32) 49 (v := .pointer (some ⟨b2, off2 + k * 5, none⟩)) rfl rfl (by kernel_rfl) (by kernel_rfl) (by kernel_rfl) (fun _ _ _ h => h) (Or.inl ⟨by rfl, ?_⟩) (by assumption) ?_
      · intro w' hSw'
        go_simp
      simp only [Act.put, List.setIfInBounds_toArray, List.set_cons_zero, List.set_cons_succ]
      refine takeH (i := 33) 50 (v := .pointer (some ⟨b2, off2 + k * 5 + 2, none⟩)) rfl rfl (by kernel_rfl) (by kernel_rfl) (by kernel_rfl) (fun _ _ _ h => h) (Or.inl ⟨by rfl, ?_⟩) (by assumption) ?_
      · intro w' hSw'
        go_simp
      simp only [Act.put, List.setIfInBounds_toArray, List.set_cons_zero, List.set_cons_succ]
      refine takeH (i := 34) 51 (v := .int .i64 count) rfl rfl (by kernel_rfl) (by kernel_rfl) (by kernel_rfl) (fun _ _ _ h => h) (Or.inl ⟨by rfl, ?_⟩) (by assumption) ?_
      · intro w' hSw'
        obtain ⟨d0, d1, d2, d3, d4⟩ := C2.out w' hSw'
        go_simp
      simp only [Act.put, List.setIfInBounds_toArray, List.set_cons_zero, List.set_cons_succ]
      refine takeH (i := 35) 52 (v := .bool false) rfl rfl (by kernel_rfl) (by kernel_rfl) (by kernel_rfl) (fun _ _ _ h => h) (Or.inl ⟨by rfl, ?_⟩) (by assumption) ?_
      · intro w' hSw'
        go_simp
      simp only [Act.put, List.setIfInBounds_toArray, List.set_cons_zero, List.set_cons_succ]
      refine takeH (i := 36) 53 (v := .bool false) rfl rfl (by kernel_rfl) (by kernel_rfl) (by kernel_rfl) (fun _ _ _ h => h) (Or.inl ⟨by rfl, ?_⟩) (by assumption) ?_
      · intro w' hSw'
        go_simp
      simp only [Act.put, List.setIfInBounds_toArray, List.set_cons_zero, List.set_cons_succ]
      refine takeH (i := 37) 54 (v := .bool false) rfl rfl (by kernel_rfl) (by kernel_rfl) (by kernel_rfl) (fun _ _ _ h => h) (Or.inl ⟨by rfl, ?_⟩) (by assumption) ?_
      · intro w' hSw'
        go_simp
      simp only [Act.put, List.setIfInBounds_toArray, List.set_cons_zero, List.set_cons_succ]
      refine takeH (i := 38) 55 (v := .slice (some ⟨b, off, none⟩) n c) rfl rfl (by kernel_rfl) (by kernel_rfl) (by kernel_rfl) (fun _ _ _ h => h) (Or.inl ⟨by rfl, ?_⟩) (by assumption) ?_
      · intro w' hSw'
        go_simp
      simp only [Act.put, List.setIfInBounds_toArray, List.set_cons_zero, List.set_cons_succ]
      refine takeH (i := 39) 56 (v := .int .i64 (k : Int)) rfl rfl (by kernel_rfl) (by kernel_rfl) (by kernel_rfl) (fun _ _ _ h => h) (Or.inl ⟨by rfl, ?_⟩) (by assumption) ?_
      · intro w' hSw'
        go_simp
      simp only [Act.put, List.setIfInBounds_toArray, List.set_cons_zero, List.set_cons_succ]
      refine takeH (i := 40) 57 (v := .pointer (some ⟨b, off + k * 5, none⟩)) rfl rfl (by kernel_rfl) (by kernel_rfl) (by kernel_rfl) (fun _ _ _ h => h) (Or.inl ⟨by rfl, ?_⟩) (by assumption) ?_
      · intro w' hSw'
        go_simp
      simp only [Act.put, List.setIfInBounds_toArray, List.set_cons_zero, List.set_cons_succ]
      refine takeH (i := 41) 58 (v := .pointer (some ⟨b, off + k * 5 + 3, none⟩)) rfl rfl (by kernel_rfl) (by kernel_rfl) (by kernel_rfl) (fun _ _ _ h => h) (Or.inl ⟨by rfl, ?_⟩) (by assumption) ?_
      · intro w' hSw'
        go_simp
      simp only [Act.put, List.setIfInBounds_toArray, List.set_cons_zero, List.set_cons_succ]
      refine takeH (i := 42) 59 (v := .slice xfp first.length xfc) rfl rfl (by kernel_rfl) (by kernel_rfl) (by kernel_rfl) (fun _ _ _ h => h) (Or.inl ⟨by rfl, ?_⟩) (by assumption) ?_
      · intro w' hSw'
        obtain ⟨d0, d1, d2, d3, d4⟩ := C1.out w' hSw'
        go_simp
      simp only [Act.put, List.setIfInBounds_toArray, List.set_cons_zero, List.set_cons_succ]
      refine takeH (i := 43) 60 (v := .string ⟨first.toArray⟩) rfl rfl (by kernel_rfl) (by kernel_rfl) (by kernel_rfl) (fun _ _ _ h => h) (Or.inl ⟨by rfl, ?_⟩) (by assumption) ?_
      · intro w' hSw'
        have cv := Sxf.out w' hSw'
        go_simp
      simp only [Act.put, List.setIfInBounds_toArray, List.set_cons_zero, List.set_cons_succ]
      refine takeH (i := 44) 61 (v := .slice (some ⟨b2, off2, none⟩) n c2) rfl rfl (by kernel_rfl) (by kernel_rfl) (by kernel_rfl) (fun _ _ _ h => h) (Or.inl ⟨by rfl, ?_⟩) (by assumption) ?_
      · intro w' hSw'
        go_simp
      simp only [Act.put, List.setIfInBounds_toArray, List.set_cons_zero, List.set_cons_succ]
      refine takeH (i := 45) 62 (v := .int .i64 (k : Int)) rfl rfl (by kernel_rfl) (by kernel_rfl) (by kernel_rfl) (fun _ _ _ h => h) (Or.inl ⟨by rfl, ?_⟩) (by assumption) ?_
      · intro w' hSw'
        go_simp
      simp only [Act.put, List.setIfInBounds_toArray, List.set_cons_zero, List.set_cons_succ]
      refine takeH (i := 46) 63 (v := .pointer (some ⟨b2, off2 + k * 5, none⟩)) rfl rfl (by kernel_rfl) (by kernel_rfl) (by kernel_rfl) (fun _ _ _ h => h) (Or.inl ⟨by rfl, ?_⟩) (by assumption) ?_
      · intro w' hSw'
        go_simp
      simp only [Act.put, List.setIfInBounds_toArray, List.set_cons_zero, List.set_cons_succ]
      refine takeH (i := 47) 64 (v := .pointer (some ⟨b2, off2 + k * 5 + 3, none⟩)) rfl rfl (by kernel_rfl) (by kernel_rfl) (by kernel_rfl) (fun _ _ _ h => h) (Or.inl ⟨by rfl, ?_⟩) (by assumption) ?_
      · intro w' hSw'
        go_simp
      simp only [Act.put, List.setIfInBounds_toArray, List.set_cons_zero, List.set_cons_succ]
      refine takeH (i := 48) 65 (v := .slice yfp first.length yfc) rfl rfl (by kernel_rfl) (by kernel_rfl) (by kernel_rfl) (fun _ _ _ h => h) (Or.inl ⟨by rfl, ?_⟩) (by assumption) ?_
      · intro w' hSw'
        obtain ⟨d0, d1, d2, d3, d4⟩ := C2.out w' hSw'
        go_simp
      simp only [Act.put, List.setIfInBounds_toArray, List.set_cons_zero, List.set_cons_succ]
      refine takeH (i := 49) 66 (v := .string ⟨first.toArray⟩) rfl rfl (by kernel_rfl) (by kernel_rfl) (by kernel_rfl) (fun _ _ _ h => h) (Or.inl ⟨by rfl, ?_⟩) (by assumption) ?_
      · intro w' hSw'
        have cv := Syf.out w' hSw'
        go_simp
      simp only [Act.put, List.setIfInBounds_toArray, List.set_cons_zero, List.set_cons_succ]
      refine takeH (i := 50) 67 (v := .bool false) rfl rfl (by kernel_rfl) (by kernel_rfl) (by kernel_rfl) (fun _ _ _ h => h) (Or.inl ⟨by rfl, ?_⟩) (by assumption) ?_
      · intro w' hSw'
        go_simp
      simp only [Act.put, List.setIfInBounds_toArray, List.set_cons_zero, List.set_cons_succ]
      refine takeH (i := 51) 68 (v := .bool false) rfl rfl (by kernel_rfl) (by kernel_rfl) (by kernel_rfl) (fun _ _ _ h => h) (Or.inl ⟨by rfl, ?_⟩) (by assumption) ?_
      · intro w' hSw'
        go_simp
      simp only [Act.put, List.setIfInBounds_toArray, List.set_cons_zero, List.set_cons_succ]
      refine takeH (i := 52) 69 (v := .bool false) rfl rfl (by kernel_rfl) (by kernel_rfl) (by kernel_rfl) (fun _ _ _ h => h) (Or.inl ⟨by rfl, ?_⟩) (by assumption) ?_
      · intro w' hSw'
        go_simp
      simp only [Act.put, List.setIfInBounds_toArray, List.set_cons_zero, List.set_cons_succ]
      refine takeH (i := 53) 70 (v := .slice (some ⟨b, off, none⟩) n c) rfl rfl (by kernel_rfl) (by kernel_rfl) (by kernel_rfl) (fun _ _ _ h => h) (Or.inl ⟨by rfl, ?_⟩) (by assumption) ?_
      · intro w' hSw'
        go_simp
      simp only [Act.put, List.setIfInBounds_toArray, List.set_cons_zero, List.set_cons_succ]
      refine takeH (i := 54) 71 (v := .int .i64 (k : Int)) rfl rfl (by kernel_rfl) (by kernel_rfl) (by kernel_rfl) (fun _ _ _ h => h) (Or.inl ⟨by rfl, ?_⟩) (by assumption) ?_
      · intro w' hSw'
        go_simp
      simp only [Act.put, List.setIfInBounds_toArray, List.set_cons_zero, List.set_cons_succ]
      refine takeH (i := 55) 72 (v := .pointer (some ⟨b, off + k * 5, none⟩)) rfl rfl (by kernel_rfl) (by kernel_rfl) (by kernel_rfl) (fun _ _ _ h => h) (Or.inl ⟨by rfl, ?_⟩) (by assumption) ?_
      · intro w' hSw'
        go_simp
      simp only [Act.put, List.setIfInBounds_toArray, List.set_cons_zero, List.set_cons_succ]
      refine takeH (i := 56) 73 (v := .pointer (some ⟨b, off + k * 5 + 4, none⟩)) rfl rfl (by kernel_rfl) (by kernel_rfl) (by kernel_rfl) (fun _ _ _ h => h) (Or.inl ⟨by rfl, ?_⟩) (by assumption) ?_
      · intro w' hSw'
        go_simp
      simp only [Act.put, List.setIfInBounds_toArray, List.set_cons_zero, List.set_cons_succ]
      refine takeH (i := 57) 74 (v := .slice xlp last.length xlc) rfl rfl (by kernel_rfl) (by kernel_rfl) (by kernel_rfl) (fun _ _ _ h => h) (Or.inl ⟨by rfl, ?_⟩) (by assumption) ?_
      · intro w' hSw'
        obtain ⟨d0, d1, d2, d3, d4⟩ := C1.out w' hSw'
        go_simp
      simp only [Act.put, List.setIfInBounds_toArray, List.set_cons_zero, List.set_cons_succ]
      refine takeH (i := 58) 75 (v := .string ⟨last.toArray⟩) rfl rfl (by kernel_rfl) (by kernel_rfl) (by kernel_rfl) (fun _ _ _ h => h) (Or.inl ⟨by rfl, ?_⟩) (by assumption) ?_
      · intro w' hSw'
        have cv := Sxl.out w' hSw'
        go_simp
      simp only [Act.put, List.setIfInBounds_toArray, List.set_cons_zero, List.set_cons_succ]
      refine takeH (i := 59) 76 (v := .slice (some ⟨b2, off2, none⟩) n c2) rfl rfl (by kernel_rfl) (by kernel_rfl) (by kernel_rfl) (fun _ _ _ h => h) (Or.inl ⟨by rfl, ?_⟩) (by assumption) ?_
      · intro w' hSw'
        go_simp
      simp only [Act.put, List.setIfInBounds_toArray, List.set_cons_zero, List.set_cons_succ]
      refine takeH (i := 60) 77 (v := .int .i64 (k : Int)) rfl rfl (by kernel_rfl) (by kernel_rfl) (by kernel_rfl) (fun _ _ _ h => h) (Or.inl ⟨by rfl, ?_⟩) (by assumption) ?_
      · intro w' hSw'
        go_simp
      simp only [Act.put, List.setIfInBounds_toArray, List.set_cons_zero, List.set_cons_succ]
      refine takeH (i := 61) 78 (v := .pointer (some ⟨b2, off2 + k * 5, none⟩)) rfl rfl (by kernel_rfl) (by kernel_rfl) (by kernel_rfl) (fun _ _ _ h => h) (Or.inl ⟨by rfl, ?_⟩) (by assumption) ?_
      · intro w' hSw'
        go_simp
      simp only [Act.put, List.setIfInBounds_toArray, List.set_cons_zero, List.set_cons_succ]
      refine takeH (i := 62) 79 (v := .pointer (some ⟨b2, off2 + k * 5 + 4, none⟩)) rfl rfl (by kernel_rfl) (by kernel_rfl) (by kernel_rfl) (fun _ _ _ h => h) (Or.inl ⟨by rfl, ?_⟩) (by assumption) ?_
      · intro w' hSw'
        go_simp
      simp only [Act.put, List.setIfInBounds_toArray, List.set_cons_zero, List.set_cons_succ]
      refine takeH (i := 63) 80 (v := .slice ylp last.length ylc) rfl rfl (by kernel_rfl) (by kernel_rfl) (by kernel_rfl) (fun _ _ _ h => h) (Or.inl ⟨by rfl, ?_⟩) (by assumption) ?_
      · intro w' hSw'
        obtain ⟨d0, d1, d2, d3, d4⟩ := C2.out w' hSw'
        go_simp
      simp only [Act.put, List.setIfInBounds_toArray, List.set_cons_zero, List.set_cons_succ]
      refine takeH (i := 64) 81 (v := .string ⟨last.toArray⟩) rfl rfl (by kernel_rfl) (by kernel_rfl) (by kernel_rfl) (fun _ _ _ h => h) (Or.inl ⟨by rfl, ?_⟩) (by assumption) ?_
      · intro w' hSw'
        have cv := Syl.out w' hSw'
        go_simp
      simp only [Act.put, List.setIfInBounds_toArray, List.set_cons_zero, List.set_cons_succ]
      refine takeH (i := 65) 82 (v := .bool false) rfl rfl (by kernel_rfl) (by kernel_rfl) (by kernel_rfl) (fun _ _ _ h => h) (Or.inl ⟨by rfl, ?_⟩) (by assumption) ?_
      · intro w' hSw'
        go_simp
      simp only [Act.put, List.setIfInBounds_toArray, List.set_cons_zero, List.set_cons_succ]
      refine takeH (i := 66) 83 (v := .bool false) rfl rfl (by kernel_rfl) (by kernel_rfl) (by kernel_rfl) (fun _ _ _ h => h) (Or.inl ⟨by rfl, ?_⟩) (by assumption) ?_
      · intro w' hSw'
        go_simp
      simp only [Act.put, List.setIfInBounds_toArray, List.set_cons_zero, List.set_cons_succ]
      refine wpAnyH_done (by kernel_rfl) ?_ _
      go_wp2
      go_roundw
      case rel => exact ⟨k + 1, by omega, by go_num, HB.out.drew⟩
      case measure => simp [intOf]; omega
    · obtain rfl : k = n := by omega
      go_wp2
      go_ret
      exact ⟨rfl, HB.out⟩
end Go.Proofs.YtgkchkdjcebnaaaGreatDoor
namespace Go.Proofs.YtgkchkdjcebnaaaGreatDoor.Ed
theorem srt_eq {l l2 : List Nt} {next : Int} (hp : l2.Perm l) (h : notesOk l2 next = true) : srt l = l2 := (perm_uniq (hp.trans (srt_perm l).symm) (notes_strict h) (srt_weak l)).symm
def aw3 : Nt := ⟨3, 0, 1, [97], [98]⟩
def aw4 : Nt := ⟨4, 1, 1, [97], [98]⟩
def aw5 : Nt := ⟨5, 0, 1, [97], [98]⟩
def awV : Ver := ⟨0, 6, 0, 0, []⟩
def awW : Ver := ⟨1, 6, 0, 0, [aw5, aw3, aw4]⟩
theorem aw_notes : notesOk [aw5, aw3, aw4] 6 = true := by decide
theorem aw_after : after awV [] [aw3, aw4, aw5] = awW := by
  have h : srt [aw3, aw4, aw5] = [aw5, aw3, aw4] := srt_eq (next := 6) (by
    have h1 : [aw5, aw3, aw4].Perm [aw3, aw5, aw4] := List.Perm.swap _ _ _
    have h2 : [aw3, aw5, aw4].Perm [aw3, aw4, aw5] := (List.Perm.swap _ _ _).cons _
    exact h1.trans h2) aw_notes
  unfold after awV awW kept
  simp only [List.filter_nil, List.nil_append, h]
  rfl
theorem aw_chk : chk awW = true := by
  unfold chk awW
  simp only
  rw [aw_notes]
  decide
theorem aw_first : applies awV [] [aw3, aw4, aw5] = true := by
  unfold applies
  rw [aw_after, aw_chk]
  decide
theorem aw_second : applies awW [9] [] = false := by
  unfold applies
  have : decide ((kept awW.tabs [9]).length + [(9 : Int)].length = awW.tabs.length) = false := by decide
  rw [this, Bool.and_false, Bool.false_and]
theorem aw_find : find awW.tabs [97, 97] = [5, 3, 4] := by decide
theorem aw_level : (level awW.tabs 0).length = 2 := by decide
end Go.Proofs.YtgkchkdjcebnaaaGreatDoor.Ed
namespace Go.Proofs.YtgkchkdjcebnaaaGreatDoor
open Go.RowKit
open Ed (Nt)

theorem conv_constM (w : World) (C : Array Value) (n c : Nat) : (convert 25 25 (.slice (some ⟨w.heap.size, 0, none⟩) n c)).run Tryz.prog (w.alloc (.cells C 5)) = .ok (.slice (some ⟨w.heap.size, 0, none⟩) n c) (w.alloc (.cells C 5 (C.size, C.size + 1))) :=
  Lib.run_convert_bytes_const (P := Tryz.prog) w 25 5 C n c Tryz.underlying25 Tryz.underlying5
/-- Bytes that lie in another block than the one that has turned. -/
theorem Src.farB {w w' : World} {ao : Option Addr} {m c : Nat} {l : List UInt8} (h : Src w ao m c l) {b : Nat} (hf : ∀ ad, ao = some ad → ad.block ≠ b) (hk : ∀ g, g ≠ b → w'.heap[g]? = w.heap[g]?) : Src w' ao m c l :=
  ⟨h.len, h.cap, h.nil, fun ad e j u hu => by
    have hb : (ad.add j).block = ad.block := by first | rfl | (unfold Addr.add; split <;> rfl) | simp [Addr.add]
    rw [World.cell?_of_block (w := w) (hk _ (by rw [hb]; exact hf ad e))]
    exact h.cells ad e j u hu⟩
theorem Src.builtM (w : World) (xs : List UInt8) (f : Nat × Nat) : Src (w.alloc (.cells (bv xs).toArray 5 f)) (some ⟨w.heap.size, 0, none⟩) xs.length xs.length xs := by
  refine ⟨rfl, Nat.le_refl _, (fun e => by cases e), fun ad e i u hu => ?_⟩
  cases e
  rw [Addr.add_mid, Nat.zero_add, cell_of_row _ _ _ _ _ _ (heap_alloc_new w _)]
  simpa using hu
theorem rsrc_new (w : World) (es : List MV) (t : TypeId) (hh : ∀ y ∈ es, metaKind.held (w.alloc (.cells (rv metaKind es).toArray t)) y) : RSrc metaKind (w.alloc (.cells (rv metaKind es).toArray t)) (some ⟨w.heap.size, 0, none⟩) es.length es.length es :=
  ⟨rfl, Nat.le_refl _, fun e => (by cases e), fun ad e j u hu => by
    cases e
    rw [Addr.add_mid, Nat.zero_add, cell_of_row _ _ _ _ _ _ (heap_alloc_new w _)]
    simpa using hu, hh⟩
theorem isrc_new (w : World) (zs : List Int) (t : TypeId) : RSrc inK (w.alloc (.cells (zs.map (Value.int .i64)).toArray t)) (some ⟨w.heap.size, 0, none⟩) zs.length zs.length zs :=
  ⟨rfl, Nat.le_refl _, fun e => (by cases e), fun ad e j u hu => by
    cases e
    rw [rv_int] at hu
    rw [Addr.add_mid, Nat.zero_add, cell_of_row _ _ _ _ _ _ (heap_alloc_new w _)]
    simpa using hu, fun _ _ => trivial⟩
theorem VV.isV {y : VV} {v : Ed.Ver} (h : y.v = v) : y.gen = v.gen ∧ y.next = v.next ∧ y.log = v.log ∧ y.seq = v.seq ∧ y.es.map (·.m) = v.tabs := by subst h; exact ⟨rfl, rfl, rfl, rfl, rfl⟩
end Go.Proofs.YtgkchkdjcebnaaaGreatDoor
