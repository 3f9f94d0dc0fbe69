/- The walk of a note's copied. -/
/- Rows of notes made by a call; the walk of copies. -/
/- The walks of Level and Find. -/
/- The walks of slices.Values, of its iterator, of AppendSeq, Collect and Sorted over ints. -/
/- The walks of slices.Clone, IndexFunc and DeleteFunc over notes, of without and its closure. -/
/- The walk of slices.DeleteFunc over notes, of without and its closure. -/
/- The walks of without and its closure; of slices.Grow and Concat over notes. -/
/- Stands in another text's place; no walk. -/
/- Versions over plain lists: what Apply makes; one order alone; no walk. -/
/- The walk of Apply. -/
/- The walks of the laws' metas and notes. -/
/- The walk of the laws' mine. -/
/- The walk of the document's SameMetas where notes are the same. -/
/- The walk of the laws' awake. -/
import Derived.Test.YthnebhddakfadaaGreatDoorH7
import Derived.Test.YthnebhddakfadaaGreatDoorJoinNn
import Derived.Deep.RegionWith
import Derived.BigRegion
import Derived.Lib.SliceRun
import Derived.Laws.AppendOwnNone
import Derived.Lib.SlBytesConst
namespace Go.Proofs.YthnebhddakfadaaGreatDoor
open Go.RowKit
open Ed (Nt)

theorem set_farM {w : World} {g b : Nat} (i : Nat) (v : Value) (h : g ≠ b) : (w.setCell ⟨b, i, none⟩ v).heap[g]? = w.heap[g]? := Below.heap_setCell w ⟨b, i, none⟩ v g h
/-- A note in memory whose bytes were made at or beyond B. -/
def OwnM (B : Nat) (w : World) (y : MV) : Prop := w.ownsRow B 5 1 (.slice y.fp y.m.first.length y.fc) y.m.first.length (bv y.m.first) ∧ w.ownsRow B 5 1 (.slice y.lp y.m.last.length y.lc) y.m.last.length (bv y.m.last)
end Go.Proofs.YthnebhddakfadaaGreatDoor
namespace Go.Proofs.YthnebhddakfadaaGreatDoor
open Go.RowKit
open Ed (Nt)

theorem OwnM.held {B : Nat} {w : World} {y : MV} (h : OwnM B w y) : metaKind.held w y := by
  obtain ⟨a1, c1, e1, h1, _⟩ := Src.of_own h.1
  obtain ⟨a2, c2, e2, h2, _⟩ := Src.of_own h.2
  cases e1
  cases e2
  exact ⟨h1, h2⟩
theorem OwnM.block {B : Nat} {w w' : World} {y : MV} (h : OwnM B w y) (hb : Below w.heap.size w w') : OwnM B w' y := ⟨own_block h.1 (fun g hg => hb.block g (own_size h.1 hg)), own_block h.2 (fun g hg => hb.block g (own_size h.2 hg))⟩
theorem OwnM.base {B B' : Nat} {w : World} {y : MV} (h : OwnM B w y) (hb : B' ≤ B) : OwnM B' w y := ⟨own_base h.1 (fun g hg => Nat.le_trans hb (h.1.lt g hg).1), own_base h.2 (fun g hg => Nat.le_trans hb (h.2.lt g hg).1)⟩
/-- A row of notes that was made at or beyond B. -/
structure Mets (B : Nat) (w : World) (v : Value) (ys : List MV) : Prop where
  row : w.ownsRow B 113 5 v ys.length (rv metaKind ys)
  each : ∀ y ∈ ys, OwnM B w y
theorem Mets.nil (B : Nat) (w : World) : Mets B w (.slice none 0 0) [] := ⟨World.ownsRow_nil _ _ _ _, fun y h => by cases h⟩
theorem Mets.below {B : Nat} {w w' : World} {v : Value} {ys : List MV} (h : Mets B w v ys) (hb : Below w.heap.size w w') : Mets B w' v ys := ⟨own_block h.row (fun g hg => hb.block g (own_size h.row hg)), fun y hy => (h.each y hy).block hb⟩
theorem OwnM.grown {B : Nat} {w w' : World} {v : Value} {n : Nat} {xs : List Value} {y : MV} (h : OwnM B w y) (hv : w.ownsRow B 113 5 v n xs) (hg : w.grownBy w' v.ownBlock) : OwnM B w' y := by
  have one : ∀ {u : Value} {m : Nat} {zs : List Value}, w.ownsRow B 5 1 u m zs → w'.ownsRow B 5 1 u m zs := fun {u m zs} hu => own_block hu (fun g hgg => hg.block g (own_size hu hgg) (fun e1 => by
    obtain ⟨c1, h1⟩ := own_tag hu hgg
    obtain ⟨c2, h2⟩ := own_tag hv e1.symm
    rw [h1] at h2
    cases h2))
  exact ⟨one h.1, one h.2⟩
theorem Mets.more {B : Nat} {w w' : World} {v v' : Value} {ys : List MV} {y : MV} (h : Mets B w v ys) (hy : OwnM B w y) (ho : w'.ownsRow B 113 5 v' (ys.length + 1) (rv metaKind (ys ++ [y]))) (hg : w.grownBy w' v.ownBlock) : Mets B w' v' (ys ++ [y]) :=
  ⟨by rw [List.length_append]; exact ho, fun z hz => by
    rcases List.mem_append.1 hz with hz | hz
    · exact (h.each z hz).grown h.row hg
    · rw [List.mem_singleton.1 hz]; exact hy.grown h.row hg⟩
theorem Mets.src {B : Nat} {w : World} {v : Value} {ys : List MV} (h : Mets B w v ys) : ∃ ao c, v = .slice ao ys.length c ∧ RSrc metaKind w ao ys.length c ys ∧ c ≤ maxLen := RSrc.own metaKind_ok h.row (fun y hy => (h.each y hy).held)
theorem take_more {l : List Nt} {k : Nat} {m : Nt} (h : l[k]? = some m) : l.take (k + 1) = l.take k ++ [m] := by rw [List.take_add_one, h]; rfl
end Go.Proofs.YthnebhddakfadaaGreatDoor
namespace Go.Proofs.YthnebhddakfadaaGreatDoor.Ed
/-- The notes of a level. -/
def level (l : List Nt) (z : Int) : List Nt := l.filter fun m => decide (m.level = z)
end Go.Proofs.YthnebhddakfadaaGreatDoor.Ed
namespace Go.Proofs.YthnebhddakfadaaGreatDoor
open Go.RowKit
open Ed (Nt)

end Go.Proofs.YthnebhddakfadaaGreatDoor
namespace Go.Proofs.YthnebhddakfadaaGreatDoor
open Go.RowKit Go.Shelf
open Ed (Nt)
attribute [local go_sem] Oper.semAt_some

theorem int_cell {w : World} {b off n c : Nat} {zs : List Int} (h : RSrc inK w (some ⟨b, off, none⟩) n c zs) {k : Nat} (hk : k < n) : w.cell? ⟨b, off + k, none⟩ = some (.int .i64 (zs.getD k 0)) := by
  have hl := h.len
  have e : zs[k]? = some (zs.getD k 0) := by rw [List.getD_eq_getElem?_getD, List.getElem?_eq_getElem (by omega)]; rfl
  have := h.cells _ rfl (k * inK.size + 0) (.int .i64 (zs.getD k 0)) ((rv_at inK_ok 0 e (by decide)).trans rfl)
  rw [Addr.add_mid] at this
  simpa [inK] using this
end Go.Proofs.YthnebhddakfadaaGreatDoor
namespace Go.Proofs.YthnebhddakfadaaGreatDoor
open Go.RowKit
open Ed (Nt)

/-- append(v, row...), the row empty or not, in a plain region. -/
theorem wpList_append_rowsM {P : Program} {w : World} {ops : Array Oper} {rest : List Oper} {o : Oper} {a : Act} {Q : Exit → Act → World → Prop} (hgd : o.guard = none) (s x : Operand) (t e : TypeId)
    (ho : o.op = .call { callee := .builtin .append, args := #[s, x], argTypes := #[t, t] })
    (base : Nat) (i : TypeInfo) (z : Value) (size bytes : Nat) (ht : P.underlying t = some (.slice e)) (hi : P.info? e = some i) (hz : i.zero = some z)
    (hsize : i.size = size) (hby : i.bytes = bytes) (hzs : z.cells.size = size) (hsz : 0 < size)
    (v : Value) (n : Nat) (xs : List Value) (hs : a.eval s = v) (hown : w.ownsRow base e size v n xs)
    (ao : Option Addr) (m c : Nat) (news : List Value) (hx : a.eval x = .slice ao m c) (hnil : ao = none → m = 0 ∧ c = 0) (hl : news.length = m * size) (hnews : ∀ ad, ao = some ad → ∀ j u, news[j]? = some u → w.cell? (ad.add j) = some u) (h1 : ∀ u ∈ news, u.oneCell' = true)
    (h63 : n + m ≤ maxLen) (hbytes : (n + m) * bytes ≤ 140737488355328) (hbase : base ≤ w.heap.size)
    (h : ∀ v' w', w'.ownsRow base e size v' (n + m) (xs ++ news) → w.grownBy w' v.ownBlock → wpList P ops Q rest (a.put o.dst v') w') : wpList P ops Q (o :: rest) a w := by
  refine wpList_step fun K' hK => ?_
  have hw : Region.wanted o (yielded ops a.tmps) = true := by simp [Region.wanted, hgd]
  rw [if_pos hw]
  cases ao with
  | some ad =>
    obtain ⟨v', w', hr, h2, h3, _⟩ := run_append_own (P := P) w base t o.type e i z size bytes ht hi hz hsize hby hzs hsz v n xs hown ad m c news hl (hnews ad rfl) h1 h63 hbytes hbase
    unfold Oper.wp
    simp [execOp, ho, resolve, invoke, builtin, hs, hx, hr, Result.andThen]
    exact hK _ _ (h v' w' h2 h3)
  | none =>
    obtain ⟨rfl, rfl⟩ := hnil rfl
    obtain rfl : news = [] := List.length_eq_zero_iff.1 (by rw [hl, Nat.zero_mul])
    have hrun := run_append_owned_none (P := P) (w := w) base t o.type e i size ht hi v n xs hown
    unfold Oper.wp
    simp [execOp, ho, resolve, invoke, builtin, hs, hx, hrun, Result.andThen]
    exact hK _ _ (h v w (by rw [List.append_nil]; exact hown) (World.grownBy.refl _ _))
end Go.Proofs.YthnebhddakfadaaGreatDoor
namespace Go.Proofs.YthnebhddakfadaaGreatDoor
open Go.RowKit
open Ed (Nt)

/-- One record of a row set anew. -/
theorem rv_set5 (y : MV) : ∀ (cur : List MV) (i : Nat), i < cur.length → rv metaKind (cur.set i y) = (((((rv metaKind cur).set (i * 5) (.int .i64 y.m.num)).set (i * 5 + 1) (.int .i64 y.m.level)).set (i * 5 + 2) (.int .i64 y.m.count)).set (i * 5 + 3) (.slice y.fp y.m.first.length y.fc)).set (i * 5 + 4) (.slice y.lp y.m.last.length y.lc)
  | [], i, h => by simp at h
  | e :: t, 0, _ => by simp [rv, metaKind]
  | e :: t, i + 1, h => by
    have ih := rv_set5 y t i (by simpa using h)
    rw [List.set_cons_succ]
    simp only [rv]
    rw [ih]
    have hl : (metaKind.vals e).length = 5 := rfl
    have step : ∀ (A : List Value) (j : Nat) (u : Value), (metaKind.vals e ++ A).set ((i + 1) * 5 + j) u = metaKind.vals e ++ A.set (i * 5 + j) u := fun A j u => by
      rw [List.set_append_right _ _ (by rw [hl]; omega), hl]
      congr 2
      omega
    rw [show (i + 1) * 5 = (i + 1) * 5 + 0 from rfl, step _ 0, step _ 1, step _ 2, step _ 3, step _ 4]
    rfl
/-- Row g holds these notes, in its first places. -/
structure RowG (w : World) (g cap : Nat) (cur : List MV) : Prop where
  ex : ∃ arr, w.heap[g]? = some (.cells arr 113 (0, 0)) ∧ arr.size = cap * 5 ∧ arr.toList.take (cur.length * 5) = rv metaKind cur
  le : cur.length ≤ cap
theorem RowG.keep {w w' : World} {g cap : Nat} {cur : List MV} (h : RowG w g cap cur) (hb : Below w.heap.size w w') : RowG w' g cap cur := by
  obtain ⟨arr, h1, h2, h3⟩ := h.ex
  exact ⟨⟨arr, (hb.block g (Array.getElem?_eq_some_iff.1 h1).1).trans h1, h2, h3⟩, h.le⟩
theorem RowG.cellAt {w : World} {g cap : Nat} {cur : List MV} (h : RowG w g cap cur) {j : Nat} {u : Value} (hu : (rv metaKind cur)[j]? = some u) : w.cell? ⟨g, j, none⟩ = some u := by
  obtain ⟨arr, h1, h2, h3⟩ := h.ex
  rw [← h3, List.getElem?_take] at hu
  split at hu
  · simp only [World.cell?, h1]
    simp only [Option.isSome_none, Bool.false_eq_true, if_false]
    rw [← Array.getElem?_toList]
    exact hu
  · cases hu
theorem RowG.src {w : World} {g cap : Nat} {cur : List MV} (h : RowG w g cap cur) (hh : ∀ y ∈ cur, metaKind.held w y) : RSrc metaKind w (some ⟨g, 0, none⟩) cur.length cap cur :=
  ⟨rfl, h.le, fun e => (by cases e), fun ad e j u hu => by cases e; rw [Addr.add_mid, Nat.zero_add]; exact h.cellAt hu, hh⟩
theorem RowG.cells5 {w : World} {g cap : Nat} {cur : List MV} (h : RowG w g cap cur) {i : Nat} {y : MV} (hy : cur[i]? = some y) :
    w.cell? ⟨g, i * 5, none⟩ = some (.int .i64 y.m.num) ∧ w.cell? ⟨g, i * 5 + 1, none⟩ = some (.int .i64 y.m.level) ∧ w.cell? ⟨g, i * 5 + 2, none⟩ = some (.int .i64 y.m.count) ∧ w.cell? ⟨g, i * 5 + 3, none⟩ = some (.slice y.fp y.m.first.length y.fc) ∧ w.cell? ⟨g, i * 5 + 4, none⟩ = some (.slice y.lp y.m.last.length y.lc) := by
  have one : ∀ (j : Nat) (u : Value), (metaKind.vals y)[j]? = some u → w.cell? ⟨g, i * 5 + j, none⟩ = some u := fun j u hu => by
    have hj : j < 5 := (List.getElem?_eq_some_iff.1 hu).1
    exact h.cellAt ((rv_at metaKind_ok j hy hj).trans hu)
  exact ⟨one 0 _ rfl, one 1 _ rfl, one 2 _ rfl, one 3 _ rfl, one 4 _ rfl⟩
/-- A note stored at a place of the row. -/
def put5 (w : World) (g p : Nat) (y : MV) : World := ((((w.setCell ⟨g, p, none⟩ (.int .i64 y.m.num)).setCell ⟨g, p + 1, none⟩ (.int .i64 y.m.level)).setCell ⟨g, p + 2, none⟩ (.int .i64 y.m.count)).setCell ⟨g, p + 3, none⟩ (.slice y.fp y.m.first.length y.fc)).setCell ⟨g, p + 4, none⟩ (.slice y.lp y.m.last.length y.lc)
theorem RowG.put {w : World} {g cap : Nat} {cur : List MV} (h : RowG w g cap cur) {i : Nat} (hi : i < cur.length) (y : MV) : RowG (put5 w g (i * 5) y) g cap (cur.set i y) := by
  obtain ⟨arr, h1, h2, h3⟩ := h.ex
  refine ⟨⟨_, set_row (set_row (set_row (set_row (set_row h1 _ _) _ _) _ _) _ _) _ _, by simpa using h2, ?_⟩, by rw [List.length_set]; exact h.le⟩
  rw [List.length_set, rv_set5 y cur i hi, ← h3]
  simp only [Array.toList_setIfInBounds, List.take_set]
theorem put5_below {w0 w : World} {B g p : Nat} (h : Below B w0 w) (hg : B ≤ g) (y : MV) : Below B w0 (put5 w g p y) :=
  ((((h.setCell (p := ⟨g, p, none⟩) hg _).setCell (p := ⟨g, p + 1, none⟩) hg _).setCell (p := ⟨g, p + 2, none⟩) hg _).setCell (p := ⟨g, p + 3, none⟩) hg _).setCell (p := ⟨g, p + 4, none⟩) hg _
/-- How far DeleteFunc has come: i notes kept of the first j. -/
structure DelI (w0 : World) (g cap : Nat) (p : Nt → Bool) (es : List MV) (i j : Nat) (cur : List MV) (wr : World) : Prop where
  row : RowG wr g cap cur
  len : cur.length = es.length
  kept : cur.take i = (es.take j).filter fun y => !p y.m
  rest : ∀ q, j ≤ q → cur[q]? = es[q]?
  lt : i < j
  below : Below w0.heap.size w0 wr
theorem DelI.skip {w0 : World} {g cap : Nat} {p : Nt → Bool} {es cur : List MV} {i j : Nat} {wr w2 : World} {y : MV} (h : DelI w0 g cap p es i j cur wr) (hy : es[j]? = some y) (hp : p y.m = true) (hb : Below wr.heap.size wr w2) : DelI w0 g cap p es i (j + 1) cur w2 :=
  ⟨h.row.keep hb, h.len, by rw [h.kept, List.take_add_one, hy, List.filter_append]; simp [hp], fun q hq => h.rest q (by omega), by have := h.lt; omega, h.below.trans (hb.mono h.below.size)⟩
theorem DelI.take {w0 : World} {g cap : Nat} {p : Nt → Bool} {es cur : List MV} {i j : Nat} {wr w2 : World} {y : MV} (h : DelI w0 g cap p es i j cur wr) (hg : w0.heap.size ≤ g) (hy : es[j]? = some y) (hp : p y.m = false) (hb : Below wr.heap.size wr w2) : DelI w0 g cap p es (i + 1) (j + 1) (cur.set i y) (put5 w2 g (i * 5) y) := by
  have hj : j < es.length := (List.getElem?_eq_some_iff.1 hy).1
  have hlt := h.lt
  have hl := h.len
  refine ⟨(h.row.keep hb).put (by omega) y, by rw [List.length_set]; exact hl, ?_, fun q hq => ?_, by omega, put5_below (h.below.trans (hb.mono h.below.size)) hg y⟩
  · rw [List.take_add_one, List.getElem?_set_self (by omega), List.take_set_of_le (by omega), h.kept, List.take_add_one, hy, List.filter_append]
    simp [hp]
  · rw [List.getElem?_set_ne (by omega)]
    exact h.rest q (by omega)
end Go.Proofs.YthnebhddakfadaaGreatDoor
namespace Go.Proofs.YthnebhddakfadaaGreatDoor
open Go.RowKit
open Ed (Nt)

end Go.Proofs.YthnebhddakfadaaGreatDoor

namespace Go.Proofs.YthnebhddakfadaaGreatDoor.Ed

/-- Notes in order. -/
def srt (l : List Nt) : List Nt := l.mergeSort fun a b => !decide (order b a < 0)
/-- The notes whose Nums are not dropped. -/
def kept (l : List Nt) (drop : List Int) : List Nt := l.filter fun m => !drop.contains m.num
/-- What a version becomes, if it may. -/
def after (v : Ver) (drop : List Int) (add : List Nt) : Ver := ⟨v.gen + 1, v.next, v.log, v.seq, srt (kept v.tabs drop ++ add)⟩
def applies (v : Ver) (drop : List Int) (add : List Nt) : Bool := chk v && decide ((kept v.tabs drop).length + drop.length = v.tabs.length) && chk (after v drop add)
theorem chk_parts {v : Ver} (h : chk v = true) : isNum v.gen = true ∧ isNum v.next = true ∧ isNum v.log = true ∧ isNum v.seq = true ∧ notesOk v.tabs v.next = true := by
  unfold chk at h
  simp only [Bool.and_eq_true] at h
  exact ⟨h.1.1.1.1, h.1.1.1.2, h.1.1.2, h.1.2, h.2⟩
theorem notes_len {l : List Nt} {next : Int} (h : notesOk l next = true) : l.length ≤ 4096 := by
  unfold notesOk at h
  simp only [Bool.and_eq_true] at h
  exact of_decide_eq_true h.1.1.1
theorem notes_may {l : List Nt} {next : Int} (h : notesOk l next = true) {m : Nt} (hm : m ∈ l) : mayBe m = true ∧ m.num < next := by
  unfold notesOk at h
  simp only [Bool.and_eq_true] at h
  obtain ⟨i, hi⟩ := List.getElem?_of_mem hm
  have h1 := List.all_eq_true.1 h.2 i (List.mem_range.2 (List.getElem?_eq_some_iff.1 hi).1)
  unfold okN at h1
  rw [hi] at h1
  simp only [Bool.and_eq_true] at h1
  exact ⟨h1.1.1, of_decide_eq_true h1.1.2⟩
theorem may_keys {m : Nt} (h : mayBe m = true) : m.first.length ≤ 64 ∧ m.last.length ≤ 64 := by
  unfold mayBe isKey at h
  simp only [Bool.and_eq_true, decide_eq_true_eq] at h
  exact ⟨h.1.1.2.2, h.1.2.2⟩
end Go.Proofs.YthnebhddakfadaaGreatDoor.Ed
namespace Go.Proofs.YthnebhddakfadaaGreatDoor
open Go.RowKit
open Ed (Nt)

theorem RowG.far {w : World} {g cap b i : Nat} {cur : List MV} {v : Value} (h : RowG w g cap cur) (hb : g ≠ b) : RowG (w.setCell ⟨b, i, none⟩ v) g cap cur := by
  obtain ⟨arr, h1, h2, h3⟩ := h.ex
  exact ⟨⟨arr, (set_farM i v hb).trans h1, h2, h3⟩, h.le⟩
theorem Mets.far {B : Nat} {w : World} {v : Value} {ys : List MV} (h : Mets B w v ys) {b i : Nat} {u : Value} (hb : b < B) : Mets B (w.setCell ⟨b, i, none⟩ u) v ys := by
  have one : ∀ {t k n : Nat} {x : Value} {xs : List Value}, w.ownsRow B t k x n xs → (w.setCell ⟨b, i, none⟩ u).ownsRow B t k x n xs := fun hr => own_block hr (fun g hg => set_farM i u (by have := (hr.lt g hg).1; omega))
  exact ⟨one h.row, fun y hy => ⟨one (h.each y hy).1, one (h.each y hy).2⟩⟩
def zeroV : VV := ⟨none, 0, 0, 0, 0, 0, 0, []⟩
theorem zeroV_held (w : World) : VV.held w zeroV := RSrc.empty (fun _ => rfl)
/-- Apply's answer. -/
def AppA (v : Ed.Ver) (ds : List Int) (ms : List Nt) (w : World) (e : Ending) (w' : World) : Prop :=
  (∃ y : VV, e = .returned (.tuple #[y.val, .int .i64 (if Ed.applies v ds ms then 0 else 1)]) ∧ VV.held w' y ∧ y.v = (if Ed.applies v ds ms then Ed.after v ds ms else zeroV.v)) ∧ Below w.heap.size w w'
theorem AppA.no {v : Ed.Ver} {ds : List Int} {ms : List Nt} {w w' : World} (h : Ed.applies v ds ms = false) (hb : Below w.heap.size w w') : AppA v ds ms w (.returned (.tuple #[.agg #[.int .i64 0, .int .i64 0, .int .i64 0, .int .i64 0, .slice none 0 0], .int .i64 1])) w' :=
  ⟨⟨zeroV, by rw [h]; rfl, zeroV_held _, by rw [h]; rfl⟩, hb⟩
end Go.Proofs.YthnebhddakfadaaGreatDoor
namespace Go.Proofs.YthnebhddakfadaaGreatDoor
open Go.RowKit
open Ed (Nt)

theorem infoNote : (Tryz.prog.info? 73).map (fun i => (i.zero, i.size, i.bytes)) = some (some (.agg #[.int .i64 0, .int .i64 0, .int .i64 0, .slice none 0 0, .slice none 0 0]), 5, 72) := by kernel_rfl
theorem take_moreE {l : List MV} {k : Nat} {m : MV} (h : l[k]? = some m) : l.take (k + 1) = l.take k ++ [m] := by rw [List.take_add_one, h]; rfl
end Go.Proofs.YthnebhddakfadaaGreatDoor
namespace Go.Proofs.YthnebhddakfadaaGreatDoor
open Go.RowKit
open Ed (Nt)

end Go.Proofs.YthnebhddakfadaaGreatDoor
namespace Go.Proofs.YthnebhddakfadaaGreatDoor
open Go.RowKit
open Ed (Nt)

theorem convM {w : World} {ao : Option Addr} {m c : Nat} {l : List UInt8} (h : Src w ao m c l) : (convert 25 9 (.slice ao m c)).run Tryz.prog w = .ok (.string ⟨l.toArray⟩) w := by
  rcases Nat.eq_zero_or_pos m with h0 | h0
  · subst h0
    have hl : l = [] := List.length_eq_zero_iff.1 h.len
    subst hl
    rw [run_convert_bytes_string w 25 9 5 _ 0 c Tryz.underlying25 Tryz.underlying5 Tryz.underlying9]
    cases ao <;> simp [Conv.bytesToString, loadCells]
    all_goals rfl
  · obtain ⟨b, off, e, _, hby⟩ := h.form h0
    cases e
    have hl := h.len
    have := run_convert_bytes_arg (P := Tryz.prog) w 25 5 Tryz.underlying25 Tryz.underlying5 b off m c (l.map fun b => (b.toNat : Int)) (by simpa using h.len) (fun i hi => by
      rw [hby i hi]
      have : i < l.length := by omega
      simp [fn, List.getD, this]) 9 Tryz.underlying9
    rwa [strOfNums_bytes] at this
set_option maxHeartbeats 8000000 in
set_option maxRecDepth 100000 in
theorem sameMetas_yes (ao : Option Addr) (n c : Nat) (es : List MV) (ao2 : Option Addr) (c2 : Nat) (es2 : List MV) (w : World) (h1 : RSrc metaKind w ao n c es) (h2 : RSrc metaKind w ao2 n c2 es2) (he : es.map (·.m) = es2.map (·.m)) (hn : n ≤ 10000000000) :
    Calls Tryz.prog 66 #[.slice ao n c, .slice ao2 n c2] w fun e w' => e = .returned (.bool true) ∧ Below w.heap.size w w' := by
  have H1 := keep h1
  have H2 := keep h2
  have HE := keep he
  have HL1 : Hid (es.length = n) := h1.len
  have HL2 : Hid (es2.length = n) := h2.len
  clear h1 h2 he
  go_enter Tryz.func66, Tryz.ntmps66
  go_wp2
  go_loopw [5] (fun i wr => ∃ k : Nat, k ≤ n ∧ i = .int .i64 (k : Int) ∧ Hid (Below w.heap.size w wr)) (fun i _ => n - (intOf i).toNat)
  case atStart => exact ⟨0, Nat.zero_le _, rfl, Below.refl _ _⟩
  case round =>
    obtain ⟨k, hk, rfl, HB⟩ := hrel
    by_cases hkn : k < n
    · obtain ⟨b, off, rfl, _, _⟩ := H1.out.form metaKind_ok (by omega)
      obtain ⟨b2, off2, rfl, _, _⟩ := H2.out.form metaKind_ok (by omega)
      obtain ⟨x, hx⟩ : ∃ x, es[k]? = some x := ⟨es[k]'(by rw [HL1.out]; exact hkn), List.getElem?_eq_getElem _⟩
      obtain ⟨y, hy⟩ : ∃ y, es2[k]? = some y := ⟨es2[k]'(by rw [HL2.out]; exact hkn), List.getElem?_eq_getElem _⟩
      have hxy : x.m = y.m := by
        have := congrArg (fun l => l[k]?) HE.out
        simp only [List.getElem?_map, hx, hy, Option.map_some, Option.some.injEq] at this
        exact this
      have C1 : Hid (∀ w', Below w.heap.size w w' → _) := fun w' hb => meta_cells (H1.out.below metaKind_ok hb) hx
      have C2 : Hid (∀ w', Below w.heap.size w w' → _) := fun w' hb => meta_cells (H2.out.below metaKind_ok hb) hy
      have X1 : Hid (∀ w', Below w.heap.size w w' → metaKind.held w' x) := fun w' hb => (H1.out.below metaKind_ok hb).held x (List.mem_of_getElem? hx)
      have Y1 : Hid (∀ w', Below w.heap.size w w' → metaKind.held w' y) := fun w' hb => (H2.out.below metaKind_ok hb).held y (List.mem_of_getElem? hy)
      clear hx hy
      obtain ⟨xfp, xfc, xlp, xlc, ⟨num, level, count, first, last⟩⟩ := x
      obtain ⟨yfp, yfc, ylp, ylc, ym⟩ := y
      simp only at hxy
      subst hxy
      simp only at C1 C2
      have Sxf : Hid (∀ w', Below w.heap.size w w' → _) := fun w' hb => convM (X1.out w' hb).1
      have Sxl : Hid (∀ w', Below w.heap.size w w' → _) := fun w' hb => convM (X1.out w' hb).2
      have Syf : Hid (∀ w', Below w.heap.size w w' → _) := fun w' hb => convM (Y1.out w' hb).1
      have Syl : Hid (∀ w', Below w.heap.size w w' → _) := fun w' hb => convM (Y1.out w' hb).2
      simp only at Sxf Sxl Syf Syl
      have ll : (k : Int) < (n : Int) := by omega
      have l0 : (0 : Int) ≤ (k : Int) := by omega
      go_wp2_with fail
      refine wp_region_held_drew (S := fun w' => Below w.heap.size w w') (by kernel_rfl) (HB.out.drew) (fun hHeld => ?_)
      refine takeH (i := 0) 17 (v := .slice (some ⟨b, off, none⟩) n c) rfl rfl (by kernel_rfl) (by kernel_rfl) (by kernel_rfl) (fun _ _ _ h => h) (Or.inl ⟨by rfl, ?_⟩) (by assumption) ?_
      · intro w' hSw'
        go_simp
      simp only [Act.put, List.setIfInBounds_toArray, List.set_cons_zero, List.set_cons_succ]
      refine takeH (i := 1) 18 (v := .int .i64 (k : Int)) rfl rfl (by kernel_rfl) (by kernel_rfl) (by kernel_rfl) (fun _ _ _ h => h) (Or.inl ⟨by rfl, ?_⟩) (by assumption) ?_
      · intro w' hSw'
        go_simp
      simp only [Act.put, List.setIfInBounds_toArray, List.set_cons_zero, List.set_cons_succ]
      refine takeH (i := 2) 19 (v := .pointer (some ⟨b, off + k * 5, none⟩)) rfl rfl (by kernel_rfl) (by kernel_rfl) (by kernel_rfl) (fun _ _ _ h => h) (Or.inl ⟨by rfl, ?_⟩) (by assumption) ?_
      · intro w' hSw'
        go_simp
      simp only [Act.put, List.setIfInBounds_toArray, List.set_cons_zero, List.set_cons_succ]
      refine takeH (i := 3) 20 (v := .pointer (some ⟨b, off + k * 5, none⟩)) rfl rfl (by kernel_rfl) (by kernel_rfl) (by kernel_rfl) (fun _ _ _ h => h) (Or.inl ⟨by rfl, ?_⟩) (by assumption) ?_
      · intro w' hSw'
        go_simp
      simp only [Act.put, List.setIfInBounds_toArray, List.set_cons_zero, List.set_cons_succ]
      refine takeH (i := 4) 21 (v := .int .i64 num) rfl rfl (by kernel_rfl) (by kernel_rfl) (by kernel_rfl) (fun _ _ _ h => h) (Or.inl ⟨by rfl, ?_⟩) (by assumption) ?_
      · intro w' hSw'
        obtain ⟨d0, d1, d2, d3, d4⟩ := C1.out w' hSw'
        go_simp
      simp only [Act.put, List.setIfInBounds_toArray, List.set_cons_zero, List.set_cons_succ]
      refine takeH (i := 5) 0x16 (v := .slice (some ⟨b2, off2, none⟩) n c2) rfl rfl (by kernel_rfl) (by kernel_rfl) (by kernel_rfl) (fun _ _ _ h => h) (Or.inl ⟨by rfl, ?_⟩) (by assumption) ?_
      · intro w' hSw'
        go_simp
      simp only [Act.put, List.setIfInBounds_toArray, List.set_cons_zero, List.set_cons_succ]
      refine takeH (i := 6) 23 (v := .int .i64 (k : Int)) rfl rfl (by kernel_rfl) (by kernel_rfl) (by kernel_rfl) (fun _ _ _ h => h) (Or.inl ⟨by rfl, ?_⟩) (by assumption) ?_
      · intro w' hSw'
        go_simp
      simp only [Act.put, List.setIfInBounds_toArray, List.set_cons_zero, List.set_cons_succ]
      refine takeH (i := 7) 24 (v := .pointer (some ⟨b2, off2 + k * 5, none⟩)) rfl rfl (by kernel_rfl) (by kernel_rfl) (by kernel_rfl) (fun _ _ _ h => h) (Or.inl ⟨by rfl, ?_⟩) (by assumption) ?_
      · intro w' hSw'
        go_simp
      simp only [Act.put, List.setIfInBounds_toArray, List.set_cons_zero, List.set_cons_succ]
      refine takeH (i := 8) 25 (v := .pointer (some ⟨b2, off2 + k * 5, none⟩)) rfl rfl (by kernel_rfl) (by kernel_rfl) (by kernel_rfl) (fun _ _ _ h => h) (Or.inl ⟨by rfl, ?_⟩) (by assumption) ?_
      · intro w' hSw'
        go_simp
      simp only [Act.put, List.setIfInBounds_toArray, List.set_cons_zero, List.set_cons_succ]
      refine takeH (i := 9) 26 (v := .int .i64 num) rfl rfl (by kernel_rfl) (by kernel_rfl) (by kernel_rfl) (fun _ _ _ h => h) (Or.inl ⟨by rfl, ?_⟩) (by assumption) ?_
      · intro w' hSw'
        obtain ⟨d0, d1, d2, d3, d4⟩ := C2.out w' hSw'
        go_simp
      simp only [Act.put, List.setIfInBounds_toArray, List.set_cons_zero, List.set_cons_succ]
      refine takeH (i := 10) 27 (v := .bool false) rfl rfl (by kernel_rfl) (by kernel_rfl) (by kernel_rfl) (fun _ _ _ h => h) (Or.inl ⟨by rfl, ?_⟩) (by assumption) ?_
      · intro w' hSw'
        go_simp
      simp only [Act.put, List.setIfInBounds_toArray, List.set_cons_zero, List.set_cons_succ]
      refine takeH (i := 11) 28 (v := .bool false) rfl rfl (by kernel_rfl) (by kernel_rfl) (by kernel_rfl) (fun _ _ _ h => h) (Or.inl ⟨by rfl, ?_⟩) (by assumption) ?_
      · intro w' hSw'
        go_simp
      simp only [Act.put, List.setIfInBounds_toArray, List.set_cons_zero, List.set_cons_succ]
      refine takeH (i := 12) 29 (v := .slice (some ⟨b, off, none⟩) n c) rfl rfl (by kernel_rfl) (by kernel_rfl) (by kernel_rfl) (fun _ _ _ h => h) (Or.inl ⟨by rfl, ?_⟩) (by assumption) ?_
      · intro w' hSw'
        go_simp
      simp only [Act.put, List.setIfInBounds_toArray, List.set_cons_zero, List.set_cons_succ]
      refine takeH (i := 13) 30 (v := .int .i64 (k : Int)) rfl rfl (by kernel_rfl) (by kernel_rfl) (by kernel_rfl) (fun _ _ _ h => h) (Or.inl ⟨by rfl, ?_⟩) (by assumption) ?_
      · intro w' hSw'
        go_simp
      simp only [Act.put, List.setIfInBounds_toArray, List.set_cons_zero, List.set_cons_succ]
      refine takeH (i := 14) 31 (v := .pointer (some ⟨b, off + k * 5, none⟩)) rfl rfl (by kernel_rfl) (by kernel_rfl) (by kernel_rfl) (fun _ _ _ h => h) (Or.inl ⟨by rfl, ?_⟩) (by assumption) ?_
      · intro w' hSw'
        go_simp
      simp only [Act.put, List.setIfInBounds_toArray, List.set_cons_zero, List.set_cons_succ]
      refine takeH (i := 15) 32 (v := .pointer (some ⟨b, off + k * 5 + 1, none⟩)) rfl rfl (by kernel_rfl) (by kernel_rfl) (by kernel_rfl) (fun _ _ _ h => h) (Or.inl ⟨by rfl, ?_⟩) (by assumption) ?_
      · intro w' hSw'
        go_simp
      simp only [Act.put, List.setIfInBounds_toArray, List.set_cons_zero, List.set_cons_succ]
      refine takeH (i := 16) 33 (v := .int .i64 level) rfl rfl (by kernel_rfl) (by kernel_rfl) (by kernel_rfl) (fun _ _ _ h => h) (Or.inl ⟨by rfl, ?_⟩) (by assumption) ?_
      · intro w' hSw'
        obtain ⟨d0, d1, d2, d3, d4⟩ := C1.out w' hSw'
        go_simp
      simp only [Act.put, List.setIfInBounds_toArray, List.set_cons_zero, List.set_cons_succ]
      refine takeH (i := 17) 34 (v := .slice (some ⟨b2, off2, none⟩) n c2) rfl rfl (by kernel_rfl) (by kernel_rfl) (by kernel_rfl) (fun _ _ _ h => h) (Or.inl ⟨by rfl, ?_⟩) (by assumption) ?_
      · intro w' hSw'
        go_simp
      simp only [Act.put, List.setIfInBounds_toArray, List.set_cons_zero, List.set_cons_succ]
      refine takeH (i := 18) 35 (v := .int .i64 (k : Int)) rfl rfl (by kernel_rfl) (by kernel_rfl) (by kernel_rfl) (fun _ _ _ h => h) (Or.inl ⟨by rfl, ?_⟩) (by assumption) ?_
      · intro w' hSw'
        go_simp
      simp only [Act.put, List.setIfInBounds_toArray, List.set_cons_zero, List.set_cons_succ]
      refine takeH (i := 19) 36 (v := .pointer (some ⟨b2, off2 + k * 5, none⟩)) rfl rfl (by kernel_rfl) (by kernel_rfl) (by kernel_rfl) (fun _ _ _ h => h) (Or.inl ⟨by rfl, ?_⟩) (by assumption) ?_
      · intro w' hSw'
        go_simp
      simp only [Act.put, List.setIfInBounds_toArray, List.set_cons_zero, List.set_cons_succ]
      refine takeH (i := 20) 37 (v := .pointer (some ⟨b2, off2 + k * 5 + 1, none⟩)) rfl rfl (by kernel_rfl) (by kernel_rfl) (by kernel_rfl) (fun _ _ _ h => h) (Or.inl ⟨by rfl, ?_⟩) (by assumption) ?_
      · intro w' hSw'
        go_simp
      simp only [Act.put, List.setIfInBounds_toArray, List.set_cons_zero, List.set_cons_succ]
      refine takeH (i := 21) 38 (v := .int .i64 level) rfl rfl (by kernel_rfl) (by kernel_rfl) (by kernel_rfl) (fun _ _ _ h => h) (Or.inl ⟨by rfl, ?_⟩) (by assumption) ?_
      · intro w' hSw'
        obtain ⟨d0, d1, d2, d3, d4⟩ := C2.out w' hSw'
        go_simp
      simp only [Act.put, List.setIfInBounds_toArray, List.set_cons_zero, List.set_cons_succ]
      refine takeH (i := 0x16) 39 (v := .bool false) rfl rfl (by kernel_rfl) (by kernel_rfl) (by kernel_rfl) (fun _ _ _ h => h) (Or.inl ⟨by rfl, ?_⟩) (by assumption) ?_
      · intro w' hSw'
        go_simp
      simp only [Act.put, List.setIfInBounds_toArray, List.set_cons_zero, List.set_cons_succ]
      refine takeH (i := 23) 40 (v := .bool false) rfl rfl (by kernel_rfl) (by kernel_rfl) (by kernel_rfl) (fun _ _ _ h => h) (Or.inl ⟨by rfl, ?_⟩) (by assumption) ?_
      · intro w' hSw'
        go_simp
      simp only [Act.put, List.setIfInBounds_toArray, List.set_cons_zero, List.set_cons_succ]
      refine takeH (i := 24) 41 (v := .bool false) rfl rfl (by kernel_rfl) (by kernel_rfl) (by kernel_rfl) (fun _ _ _ h => h) (Or.inl ⟨by rfl, ?_⟩) (by assumption) ?_
      · intro w' hSw'
        go_simp
      simp only [Act.put, List.setIfInBounds_toArray, List.set_cons_zero, List.set_cons_succ]
      refine takeH (i := 25) 42 (v := .slice (some ⟨b, off, none⟩) n c) rfl rfl (by kernel_rfl) (by kernel_rfl) (by kernel_rfl) (fun _ _ _ h => h) (Or.inl ⟨by rfl, ?_⟩) (by assumption) ?_
      · intro w' hSw'
        go_simp
      simp only [Act.put, List.setIfInBounds_toArray, List.set_cons_zero, List.set_cons_succ]
      refine takeH (i := 26) 43 (v := .int .i64 (k : Int)) rfl rfl (by kernel_rfl) (by kernel_rfl) (by kernel_rfl) (fun _ _ _ h => h) (Or.inl ⟨by rfl, ?_⟩) (by assumption) ?_
      · intro w' hSw'
        go_simp
      simp only [Act.put, List.setIfInBounds_toArray, List.set_cons_zero, List.set_cons_succ]
      refine takeH (i := 27) 44 (v := .pointer (some ⟨b, off + k * 5, none⟩)) rfl rfl (by kernel_rfl) (by kernel_rfl) (by kernel_rfl) (fun _ _ _ h => h) (Or.inl ⟨by rfl, ?_⟩) (by assumption) ?_
      · intro w' hSw'
        go_simp
      simp only [Act.put, List.setIfInBounds_toArray, List.set_cons_zero, List.set_cons_succ]
      refine takeH (i := 28) 45 (v := .pointer (some ⟨b, off + k * 5 + 2, none⟩)) rfl rfl (by kernel_rfl) (by kernel_rfl) (by kernel_rfl) (fun _ _ _ h => h) (Or.inl ⟨by rfl, ?_⟩) (by assumption) ?_
      · intro w' hSw'
        go_simp
      simp only [Act.put, List.setIfInBounds_toArray, List.set_cons_zero, List.set_cons_succ]
      refine takeH (i := 29) 46 (v := .int .i64 count) rfl rfl (by kernel_rfl) (by kernel_rfl) (by kernel_rfl) (fun _ _ _ h => h) (Or.inl ⟨by rfl, ?_⟩) (by assumption) ?_
      · intro w' hSw'
        obtain ⟨d0, d1, d2, d3, d4⟩ := C1.out w' hSw'
        go_simp
      simp only [Act.put, List.setIfInBounds_toArray, List.set_cons_zero, List.set_cons_succ]
      refine takeH (i := 30) 47 (v := .slice (some ⟨b2, off2, none⟩) n c2) rfl rfl (by kernel_rfl) (by kernel_rfl) (by kernel_rfl) (fun _ _ _ h => h) (Or.inl ⟨by rfl, ?_⟩) (by assumption) ?_
      · intro w' hSw'
        go_simp
      simp only [Act.put, List.setIfInBounds_toArray, List.set_cons_zero, List.set_cons_succ]
      refine takeH (i := 31) 48 (v := .int .i64 (k : Int)) rfl rfl (by kernel_rfl) (by kernel_rfl) (by kernel_rfl) (fun _ _ _ h => h) (Or.inl ⟨by rfl, ?_⟩) (by assumption) ?_
      · intro w' hSw'
        go_simp
      simp only [Act.put, List.setIfInBounds_toArray, List.set_cons_zero, List.set_cons_succ]
      refine takeH (i := 32) 49 (v := .pointer (some ⟨b2, off2 + k * 5, none⟩)) rfl rfl (by kernel_rfl) (by kernel_rfl) (by kernel_rfl) (fun _ _ _ h => h) (Or.inl ⟨by rfl, ?_⟩) (by assumption) ?_
      · intro w' hSw'
        go_simp
      simp only [Act.put, List.setIfInBounds_toArray, List.set_cons_zero, List.set_cons_succ]
      refine takeH (i := 33) 50 (v := .pointer (some ⟨b2, off2 + k * 5 + 2, none⟩)) rfl rfl (by kernel_rfl) (by kernel_rfl) (by kernel_rfl) (fun _ _ _ h => h) (Or.inl ⟨by rfl, ?_⟩) (by assumption) ?_
      · intro w' hSw'
        go_simp
      simp only [Act.put, List.setIfInBounds_toArray, List.set_cons_zero, List.set_cons_succ]
      refine takeH (i := 34) 51 (v := .int .i64 count) rfl rfl (by kernel_rfl) (by kernel_rfl) (by kernel_rfl) (fun _ _ _ h => h) (Or.inl ⟨by rfl, ?_⟩) (by assumption) ?_
      · intro w' hSw'
        obtain ⟨d0, d1, d2, d3, d4⟩ := C2.out w' hSw'
        go_simp
      simp only [Act.put, List.setIfInBounds_toArray, List.set_cons_zero, List.set_cons_succ]
      refine takeH (i := 35) 52 (v := .bool false) rfl rfl (by kernel_rfl) (by kernel_rfl) (by kernel_rfl) (fun _ _ _ h => h) (Or.inl ⟨by rfl, ?_⟩) (by assumption) ?_
      · intro w' hSw'
        go_simp
      simp only [Act.put, List.setIfInBounds_toArray, List.set_cons_zero, List.set_cons_succ]
      refine takeH (i := 36) 53 (v := .bool false) rfl rfl (by kernel_rfl) (by kernel_rfl) (by kernel_rfl) (fun _ _ _ h => h) (Or.inl ⟨by rfl, ?_⟩) (by assumption) ?_
      · intro w' hSw'
        go_simp
      simp only [Act.put, List.setIfInBounds_toArray, List.set_cons_zero, List.set_cons_succ]
      refine takeH (i := 37) 54 (v := .bool false) rfl rfl (by kernel_rfl) (by kernel_rfl) (by kernel_rfl) (fun _ _ _ h => h) (Or.inl ⟨by rfl, ?_⟩) (by assumption) ?_
      · intro w' hSw'
        go_simp
      simp only [Act.put, List.setIfInBounds_toArray, List.set_cons_zero, List.set_cons_succ]
      refine takeH (i := 38) 55 (v := .slice (some ⟨b, off, none⟩) n c) rfl rfl (by kernel_rfl) (by kernel_rfl) (by kernel_rfl) (fun _ _ _ h => h) (Or.inl ⟨by rfl, ?_⟩) (by assumption) ?_
      · intro w' hSw'
        go_simp
      simp only [Act.put, List.setIfInBounds_toArray, List.set_cons_zero, List.set_cons_succ]
      refine takeH (i := 39) 56 (v := .int .i64 (k : Int)) rfl rfl (by kernel_rfl) (by kernel_rfl) (by kernel_rfl) (fun _ _ _ h => h) (Or.inl ⟨by rfl, ?_⟩) (by assumption) ?_
      · intro w' hSw'
        go_simp
      simp only [Act.put, List.setIfInBounds_toArray, List.set_cons_zero, List.set_cons_succ]
      refine takeH (i := 40) 57 (v := .pointer (some ⟨b, off + k * 5, none⟩)) rfl rfl (by kernel_rfl) (by kernel_rfl) (by kernel_rfl) (fun _ _ _ h => h) (Or.inl ⟨by rfl, ?_⟩) (by assumption) ?_
      · intro w' hSw'
        go_simp
      simp only [Act.put, List.setIfInBounds_toArray, List.set_cons_zero, List.set_cons_succ]
      refine takeH (i := 41) 58 (v := .pointer (some ⟨b, off + k * 5 + 3, none⟩)) rfl rfl (by kernel_rfl) (by kernel_rfl) (by kernel_rfl) (fun _ _ _ h => h) (Or.inl ⟨by rfl, ?_⟩) (by assumption) ?_
      · intro w' hSw'
        go_simp
      simp only [Act.put, List.setIfInBounds_toArray, List.set_cons_zero, List.set_cons_succ]
      refine takeH (i := 42) 59 (v := .slice xfp first.length xfc) rfl rfl (by kernel_rfl) (by kernel_rfl) (by kernel_rfl) (fun _ _ _ h => h) (Or.inl ⟨by rfl, ?_⟩) (by assumption) ?_
      · intro w' hSw'
        obtain ⟨d0, d1, d2, d3, d4⟩ := C1.out w' hSw'
        go_simp
      simp only [Act.put, List.setIfInBounds_toArray, List.set_cons_zero, List.set_cons_succ]
      refine takeH (i := 43) 60 (v := .string ⟨first.toArray⟩) rfl rfl (by kernel_rfl) (by kernel_rfl) (by kernel_rfl) (fun _ _ _ h => h) (Or.inl ⟨by rfl, ?_⟩) (by assumption) ?_
      · intro w' hSw'
        have cv := Sxf.out w' hSw'
        go_simp
      simp only [Act.put, List.setIfInBounds_toArray, List.set_cons_zero, List.set_cons_succ]
      refine takeH (i := 44) 61 (v := .slice (some ⟨b2, off2, none⟩) n c2) rfl rfl (by kernel_rfl) (by kernel_rfl) (by kernel_rfl) (fun _ _ _ h => h) (Or.inl ⟨by rfl, ?_⟩) (by assumption) ?_
      · intro w' hSw'
        go_simp
      simp only [Act.put, List.setIfInBounds_toArray, List.set_cons_zero, List.set_cons_succ]
      refine takeH (i := 45) 62 (v := .int .i64 (k : Int)) rfl rfl (by kernel_rfl) (by kernel_rfl) (by kernel_rfl) (fun _ _ _ h => h) (Or.inl ⟨by rfl, ?_⟩) (by assumption) ?_
      · intro w' hSw'
        go_simp
      simp only [Act.put, List.setIfInBounds_toArray, List.set_cons_zero, List.set_cons_succ]
      refine takeH (i := 46) 63 (v := .pointer (some ⟨b2, off2 + k * 5, none⟩)) rfl rfl (by kernel_rfl) (by kernel_rfl) (by kernel_rfl) (fun _ _ _ h => h) (Or.inl ⟨by rfl, ?_⟩) (by assumption) ?_
      · intro w' hSw'
        go_simp
      simp only [Act.put, List.setIfInBounds_toArray, List.set_cons_zero, List.set_cons_succ]
      refine takeH (i := 47) 64 (v := .pointer (some ⟨b2, off2 + k * 5 + 3, none⟩)) rfl rfl (by kernel_rfl) (by kernel_rfl) (by kernel_rfl) (fun _ _ _ h => h) (Or.inl ⟨by rfl, ?_⟩) (by assumption) ?_
      · intro w' hSw'
        go_simp
      simp only [Act.put, List.setIfInBounds_toArray, List.set_cons_zero, List.set_cons_succ]
      refine takeH (i := 48) 65 (v := .slice yfp first.length yfc) rfl rfl (by kernel_rfl) (by kernel_rfl) (by kernel_rfl) (fun _ _ _ h => h) (Or.inl ⟨by rfl, ?_⟩) (by assumption) ?_
      · intro w' hSw'
        obtain ⟨d0, d1, d2, d3, d4⟩ := C2.out w' hSw'
        go_simp
      simp only [Act.put, List.setIfInBounds_toArray, List.set_cons_zero, List.set_cons_succ]
      refine takeH (i := 49) 66 (v := .string ⟨first.toArray⟩) rfl rfl (by kernel_rfl) (by kernel_rfl) (by kernel_rfl) (fun _ _ _ h => h) (Or.inl ⟨by rfl, ?_⟩) (by assumption) ?_
      · intro w' hSw'
        have cv := Syf.out w' hSw'
        go_simp
      simp only [Act.put, List.setIfInBounds_toArray, List.set_cons_zero, List.set_cons_succ]
      refine takeH (i := 50) 67 (v := .bool false) rfl rfl (by kernel_rfl) (by kernel_rfl) (by kernel_rfl) (fun _ _ _ h => h) (Or.inl ⟨by rfl, ?_⟩) (by assumption) ?_
      · intro w' hSw'
        go_simp
      simp only [Act.put, List.setIfInBounds_toArray, List.set_cons_zero, List.set_cons_succ]
      refine takeH (i := 51) 68 (v := .bool false) rfl rfl (by kernel_rfl) (by kernel_rfl) (by kernel_rfl) (fun _ _ _ h => h) (Or.inl ⟨by rfl, ?_⟩) (by assumption) ?_
      · intro w' hSw'
        go_simp
      simp only [Act.put, List.setIfInBounds_toArray, List.set_cons_zero, List.set_cons_succ]
      refine takeH (i := 52) 69 (v := .bool false) rfl rfl (by kernel_rfl) (by kernel_rfl) (by kernel_rfl) (fun _ _ _ h => h) (Or.inl ⟨by rfl, ?_⟩) (by assumption) ?_
      · intro w' hSw'
        go_simp
      simp only [Act.put, List.setIfInBounds_toArray, List.set_cons_zero, List.set_cons_succ]
      refine takeH (i := 53) 70 (v := .slice (some ⟨b, off, none⟩) n c) rfl rfl (by kernel_rfl) (by kernel_rfl) (by kernel_rfl) (fun _ _ _ h => h) (Or.inl ⟨by rfl, ?_⟩) (by assumption) ?_
      · intro w' hSw'
        go_simp
      simp only [Act.put, List.setIfInBounds_toArray, List.set_cons_zero, List.set_cons_succ]
      refine takeH (i := 54) 71 (v := .int .i64 (k : Int)) rfl rfl (by kernel_rfl) (by kernel_rfl) (by kernel_rfl) (fun _ _ _ h => h) (Or.inl ⟨by rfl, ?_⟩) (by assumption) ?_
      · intro w' hSw'
        go_simp
      simp only [Act.put, List.setIfInBounds_toArray, List.set_cons_zero, List.set_cons_succ]
      refine takeH (i := 55) 72 (v := .pointer (some ⟨b, off + k * 5, none⟩)) rfl rfl (by kernel_rfl) (by kernel_rfl) (by kernel_rfl) (fun _ _ _ h => h) (Or.inl ⟨by rfl, ?_⟩) (by assumption) ?_
      · intro w' hSw'
        go_simp
      simp only [Act.put, List.setIfInBounds_toArray, List.set_cons_zero, List.set_cons_succ]
      refine takeH (i := 56) 73 (v := .pointer (some ⟨b, off + k * 5 + 4, none⟩)) rfl rfl (by kernel_rfl) (by kernel_rfl) (by kernel_rfl) (fun _ _ _ h => h) (Or.inl ⟨by rfl, ?_⟩) (by assumption) ?_
      · intro w' hSw'
        go_simp
      simp only [Act.put, List.setIfInBounds_toArray, List.set_cons_zero, List.set_cons_succ]
      refine takeH (i := 57) 74 (v := .slice xlp last.length xlc) rfl rfl (by kernel_rfl) (by kernel_rfl) (by kernel_rfl) (fun _ _ _ h => h) (Or.inl ⟨by rfl, ?_⟩) (by assumption) ?_
      · intro w' hSw'
        obtain ⟨d0, d1, d2, d3, d4⟩ := C1.out w' hSw'
        go_simp
      simp only [Act.put, List.setIfInBounds_toArray, List.set_cons_zero, List.set_cons_succ]
      refine takeH (i := 58) 75 (v := .string ⟨last.toArray⟩) rfl rfl (by kernel_rfl) (by kernel_rfl) (by kernel_rfl) (fun _ _ _ h => h) (Or.inl ⟨by rfl, ?_⟩) (by assumption) ?_
      · intro w' hSw'
        have cv := Sxl.out w' hSw'
        go_simp
      simp only [Act.put, List.setIfInBounds_toArray, List.set_cons_zero, List.set_cons_succ]
      refine takeH (i := 59) 76 (v := .slice (some ⟨b2, off2, none⟩) n c2) rfl rfl (by kernel_rfl) (by kernel_rfl) (by kernel_rfl) (fun _ _ _ h => h) (Or.inl ⟨by rfl, ?_⟩) (by assumption) ?_
      · intro w' hSw'
        go_simp
      simp only [Act.put, List.setIfInBounds_toArray, List.set_cons_zero, List.set_cons_succ]
      refine takeH (i := 60) 77 (v := .int .i64 (k : Int)) rfl rfl (by kernel_rfl) (by kernel_rfl) (by kernel_rfl) (fun _ _ _ h => h) (Or.inl ⟨by rfl, ?_⟩) (by assumption) ?_
      · intro w' hSw'
        go_simp
      simp only [Act.put, List.setIfInBounds_toArray, List.set_cons_zero, List.set_cons_succ]
      refine takeH (i := 61) 78 (v := .pointer (some ⟨b2, off2 + k * 5, none⟩)) rfl rfl (by kernel_rfl) (by kernel_rfl) (by kernel_rfl) (fun _ _ _ h => h) (Or.inl ⟨by rfl, ?_⟩) (by assumption) ?_
      · intro w' hSw'
        go_simp
      simp only [Act.put, List.setIfInBounds_toArray, List.set_cons_zero, List.set_cons_succ]
      refine takeH (i := 62) 79 (v := .pointer (some ⟨b2, off2 + k * 5 + 4, none⟩)) rfl rfl (by kernel_rfl) (by kernel_rfl) (by kernel_rfl) (fun _ _ _ h => h) (Or.inl ⟨by rfl, ?_⟩) (by assumption) ?_
      · intro w' hSw'
        go_simp
      simp only [Act.put, List.setIfInBounds_toArray, List.set_cons_zero, List.set_cons_succ]
      refine takeH (i := 63) 80 (v := .slice ylp last.length ylc) rfl rfl (by kernel_rfl) (by kernel_rfl) (by kernel_rfl) (fun _ _ _ h => h) (Or.inl ⟨by rfl, ?_⟩) (by assumption) ?_
      · intro w' hSw'
        obtain ⟨d0, d1, d2, d3, d4⟩ := C2.out w' hSw'
        go_simp
      simp only [Act.put, List.setIfInBounds_toArray, List.set_cons_zero, List.set_cons_succ]
      refine takeH (i := 64) 81 (v := .string ⟨last.toArray⟩) rfl rfl (by kernel_rfl) (by kernel_rfl) (by kernel_rfl) (fun _ _ _ h => h) (Or.inl ⟨by rfl, ?_⟩) (by assumption) ?_
      · intro w' hSw'
        have cv := Syl.out w' hSw'
        go_simp
      simp only [Act.put, List.setIfInBounds_toArray, List.set_cons_zero, List.set_cons_succ]
      refine takeH (i := 65) 82 (v := .bool false) rfl rfl (by kernel_rfl) (by kernel_rfl) (by kernel_rfl) (fun _ _ _ h => h) (Or.inl ⟨by rfl, ?_⟩) (by assumption) ?_
      · intro w' hSw'
        go_simp
      simp only [Act.put, List.setIfInBounds_toArray, List.set_cons_zero, List.set_cons_succ]
      refine takeH (i := 66) 83 (v := .bool false) rfl rfl (by kernel_rfl) (by kernel_rfl) (by kernel_rfl) (fun _ _ _ h => h) (Or.inl ⟨by rfl, ?_⟩) (by assumption) ?_
      · intro w' hSw'
        go_simp
      simp only [Act.put, List.setIfInBounds_toArray, List.set_cons_zero, List.set_cons_succ]
      refine wpAnyH_done (by kernel_rfl) ?_ _
      go_wp2
      go_roundw
      case rel => exact ⟨k + 1, by omega, by go_num, HB.out.drew⟩
      case measure => simp [intOf]; omega
    · obtain rfl : k = n := by omega
      go_wp2
      go_ret
      exact ⟨rfl, HB.out⟩
end Go.Proofs.YthnebhddakfadaaGreatDoor
namespace Go.Proofs.YthnebhddakfadaaGreatDoor.Ed
end Go.Proofs.YthnebhddakfadaaGreatDoor.Ed
namespace Go.Proofs.YthnebhddakfadaaGreatDoor
open Go.RowKit
open Ed (Nt)

/-- Bytes that lie in another block than the one that has turned. -/
theorem Src.farB {w w' : World} {ao : Option Addr} {m c : Nat} {l : List UInt8} (h : Src w ao m c l) {b : Nat} (hf : ∀ ad, ao = some ad → ad.block ≠ b) (hk : ∀ g, g ≠ b → w'.heap[g]? = w.heap[g]?) : Src w' ao m c l :=
  ⟨h.len, h.cap, h.nil, fun ad e j u hu => by
    have hb : (ad.add j).block = ad.block := by first | rfl | (unfold Addr.add; split <;> rfl) | simp [Addr.add]
    rw [World.cell?_of_block (w := w) (hk _ (by rw [hb]; exact hf ad e))]
    exact h.cells ad e j u hu⟩
theorem isrc_new (w : World) (zs : List Int) (t : TypeId) : RSrc inK (w.alloc (.cells (zs.map (Value.int .i64)).toArray t)) (some ⟨w.heap.size, 0, none⟩) zs.length zs.length zs :=
  ⟨rfl, Nat.le_refl _, fun e => (by cases e), fun ad e j u hu => by
    cases e
    rw [rv_int] at hu
    rw [Addr.add_mid, Nat.zero_add, cell_of_row _ _ _ _ _ _ (heap_alloc_new w _)]
    simpa using hu, fun _ _ => trivial⟩
theorem VV.isV {y : VV} {v : Ed.Ver} (h : y.v = v) : y.gen = v.gen ∧ y.next = v.next ∧ y.log = v.log ∧ y.seq = v.seq ∧ y.es.map (·.m) = v.tabs := by subst h; exact ⟨rfl, rfl, rfl, rfl, rfl⟩
end Go.Proofs.YthnebhddakfadaaGreatDoor
