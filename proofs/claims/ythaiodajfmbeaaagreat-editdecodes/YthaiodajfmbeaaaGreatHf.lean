/- The walk of a note's order once more, new blocks told; slices.SortFunc over notes. -/
import Derived.Test.YthaiodajfmbeaaaGreatHe
import Derived.Test.YthaiodajfmbeaaaGreatPso
namespace Go.Proofs.YthaiodajfmbeaaaGreat
open Go.RowKit
open Ed (Nt)

set_option maxHeartbeats 2000000 in
set_option maxRecDepth 100000 in
theorem order_gr (x y : MV) (w : World) (hx : metaKind.held w x) (hy : metaKind.held w y) :
    Calls Tryz.prog 26 #[mv x, mv y] w fun e w' => e = .returned (.int .i64 (Ed.order x.m y.m)) ∧ ∃ q os', w' = Sort.grow (w.drewN q) os' := by
  obtain ⟨xfp, xfc, xlp, xlc, ⟨xnum, xlevel, xcount, xfirst, xlast⟩⟩ := x
  obtain ⟨yfp, yfc, ylp, ylc, ⟨ynum, ylevel, ycount, yfirst, ylast⟩⟩ := y
  have XF : Hid (Src w xfp xfirst.length xfc xfirst) := hx.1
  have XL : Hid (Src w xlp xlast.length xlc xlast) := hx.2
  have YF : Hid (Src w yfp yfirst.length yfc yfirst) := hy.1
  have YL : Hid (Src w ylp ylast.length ylc ylast) := hy.2
  clear hx hy
  unfold mv
  simp only
  obtain ⟨W1, hW1⟩ : ∃ Wn, w.alloc (.cells #[.int .i64 xnum, .int .i64 xlevel, .int .i64 xcount, .slice xfp xfirst.length xfc, .slice xlp xlast.length xlc] 39) = Wn := ⟨_, rfl⟩
  have bW1 : Hid (Below w.heap.size w W1) := by rw [← hW1]; exact (Below.refl _ _).alloc (Nat.le_refl _) _
  have gW1 : Hid (W1.heap[w.heap.size]? = some (.cells #[.int .i64 xnum, .int .i64 xlevel, .int .i64 xcount, .slice xfp xfirst.length xfc, .slice xlp xlast.length xlc] 39)) := by rw [← hW1]; exact heap_alloc_new w _
  obtain ⟨W2, hW2⟩ : ∃ Wn, W1.alloc (.cells #[.int .i64 ynum, .int .i64 ylevel, .int .i64 ycount, .slice yfp yfirst.length yfc, .slice ylp ylast.length ylc] 39) = Wn := ⟨_, rfl⟩
  have bW2 : Hid (Below W1.heap.size W1 W2) := by rw [← hW2]; exact (Below.refl _ _).alloc (Nat.le_refl _) _
  have gW2 : Hid (W2.heap[W1.heap.size]? = some (.cells #[.int .i64 ynum, .int .i64 ylevel, .int .i64 ycount, .slice yfp yfirst.length yfc, .slice ylp ylast.length ylc] 39)) := by rw [← hW2]; exact heap_alloc_new W1 _
  have BW := keep (bW1.out.trans (bW2.out.mono bW1.out.size))
  have GR : Hid (∃ q os', W2 = Sort.grow (w.drewN q) os') := ⟨0, _, by rw [← hW2, ← hW1, Sort.alloc_eq_grow, Sort.alloc_eq_grow, Sort.grow_grow]; rfl⟩
  have G1 : Hid (W2.heap[w.heap.size]? = _) := (bW2.out.block _ (Array.getElem?_eq_some_iff.1 gW1.out).1).trans gW1.out
  have x0 : W2.cell? ⟨w.heap.size, 0, none⟩ = some (.int .i64 xnum) := cell_of_row _ _ _ _ _ _ G1.out
  have x1 : W2.cell? ⟨w.heap.size, 1, none⟩ = some (.int .i64 xlevel) := cell_of_row _ _ _ _ _ _ G1.out
  have x2 : W2.cell? ⟨w.heap.size, 2, none⟩ = some (.int .i64 xcount) := cell_of_row _ _ _ _ _ _ G1.out
  have x3 : W2.cell? ⟨w.heap.size, 3, none⟩ = some (.slice xfp xfirst.length xfc) := cell_of_row _ _ _ _ _ _ G1.out
  have x4 : W2.cell? ⟨w.heap.size, 4, none⟩ = some (.slice xlp xlast.length xlc) := cell_of_row _ _ _ _ _ _ G1.out
  have y0 : W2.cell? ⟨W1.heap.size, 0, none⟩ = some (.int .i64 ynum) := cell_of_row _ _ _ _ _ _ gW2.out
  have y1 : W2.cell? ⟨W1.heap.size, 1, none⟩ = some (.int .i64 ylevel) := cell_of_row _ _ _ _ _ _ gW2.out
  have y2 : W2.cell? ⟨W1.heap.size, 2, none⟩ = some (.int .i64 ycount) := cell_of_row _ _ _ _ _ _ gW2.out
  have y3 : W2.cell? ⟨W1.heap.size, 3, none⟩ = some (.slice yfp yfirst.length yfc) := cell_of_row _ _ _ _ _ _ gW2.out
  have y4 : W2.cell? ⟨W1.heap.size, 4, none⟩ = some (.slice ylp ylast.length ylc) := cell_of_row _ _ _ _ _ _ gW2.out
  have C1 := keep (compare_int xlevel ylevel W2)
  have C2 := keep (compare_int ynum xnum W2)
  have L1 := keep (less_any xfp xfirst.length xfc xfirst yfp yfirst.length yfc yfirst W2 (XF.out.below BW.out) (YF.out.below BW.out))
  have L2 := keep (less_any yfp yfirst.length yfc yfirst xfp xfirst.length xfc xfirst W2 (YF.out.below BW.out) (XF.out.below BW.out))
  by_cases h1 : xlevel = ylevel
  · subst h1
    by_cases h2 : xlevel = 0
    · have e : Ed.order ⟨xnum, xlevel, xcount, xfirst, xlast⟩ ⟨ynum, xlevel, ycount, yfirst, ylast⟩ = Ed.cmpI ynum xnum := by simp [Ed.order, h2]
      rw [e]
      clear e
      subst h2
      go_enter Tryz.func26, Tryz.ntmps26
      go_wp2_with fail
      refine C2.out.mono ?_
      rintro e w1 ⟨rfl, rfl⟩
      go_wp2
      go_ret
      exact ⟨rfl, GR.out⟩
    · have h2b : (xlevel == 0) = false := by simp [h2]
      cases h3 : less xfirst yfirst with
      | true =>
        have e : Ed.order ⟨xnum, xlevel, xcount, xfirst, xlast⟩ ⟨ynum, xlevel, ycount, yfirst, ylast⟩ = -1 := by simp [Ed.order, h2, h3]
        rw [e]
        rw [h3] at L1
        clear e h3
        go_enter Tryz.func26, Tryz.ntmps26
        go_wp2_with fail
        refine L1.out.mono ?_
        rintro e w1 ⟨rfl, rfl⟩
        go_wp2
        go_ret
        exact ⟨rfl, GR.out⟩
      | false =>
        rw [h3] at L1
        cases h4 : less yfirst xfirst with
        | true =>
          have e : Ed.order ⟨xnum, xlevel, xcount, xfirst, xlast⟩ ⟨ynum, xlevel, ycount, yfirst, ylast⟩ = 1 := by simp [Ed.order, h2, h3, h4]
          rw [e]
          rw [h4] at L2
          clear e h3 h4
          go_enter Tryz.func26, Tryz.ntmps26
          go_wp2_with fail
          refine L1.out.mono ?_
          rintro e w1 ⟨rfl, rfl⟩
          go_wp2_with fail
          refine L2.out.mono ?_
          rintro e w1 ⟨rfl, rfl⟩
          go_wp2
          go_ret
          exact ⟨rfl, GR.out⟩
        | false =>
          have e : Ed.order ⟨xnum, xlevel, xcount, xfirst, xlast⟩ ⟨ynum, xlevel, ycount, yfirst, ylast⟩ = 0 := by simp [Ed.order, h2, h3, h4]
          rw [e]
          rw [h4] at L2
          clear e h3 h4
          go_enter Tryz.func26, Tryz.ntmps26
          go_wp2_with fail
          refine L1.out.mono ?_
          rintro e w1 ⟨rfl, rfl⟩
          go_wp2_with fail
          refine L2.out.mono ?_
          rintro e w1 ⟨rfl, rfl⟩
          go_wp2
          go_ret
          exact ⟨rfl, GR.out⟩
  · have e : Ed.order ⟨xnum, xlevel, xcount, xfirst, xlast⟩ ⟨ynum, ylevel, ycount, yfirst, ylast⟩ = Ed.cmpI xlevel ylevel := by simp [Ed.order, h1]
    rw [e]
    have h1b : (xlevel == ylevel) = false := by simp [h1]
    clear e
    go_enter Tryz.func26, Tryz.ntmps26
    go_wp2_with fail
    refine C1.out.mono ?_
    rintro e w1 ⟨rfl, rfl⟩
    go_wp2
    go_ret
    exact ⟨rfl, GR.out⟩
/-- A note that is held at w0. -/
structure HM (w0 : World) where
  v : MV
  h : metaKind.held w0 v
def dfltM (w0 : World) : HM w0 := ⟨⟨none, 0, none, 0, ⟨0, 0, 0, [], []⟩⟩, ⟨Src.empty (fun _ => rfl), Src.empty (fun _ => rfl)⟩⟩
def encM (w0 : World) (x : HM w0) : List Value := metaKind.vals x.v
def cfM (w0 : World) (x y : HM w0) : Int := Ed.order x.v.m y.v.m
theorem ltM {w0 : World} {x y : HM w0} : ltOf (cfM w0) x y = true ↔ Ed.ahead x.v.m y.v.m := decide_eq_true_iff
theorem ltM' {w0 : World} {x y : HM w0} : ltOf (cfM w0) x y = false ↔ ¬ Ed.ahead x.v.m y.v.m := decide_eq_false_iff_not
theorem swoM (w0 : World) : Sort.SWO (ltOf (cfM w0)) := {
  irrefl := fun _ => ltM'.2 (Ed.ahead_irrefl _)
  trans := fun _ _ _ h1 h2 => ltM.2 (Ed.ahead_trans (ltM.1 h1) (ltM.1 h2))
  ntrans := fun _ _ _ h1 h2 => ltM'.2 (Ed.apart_trans (ltM'.1 h1) (ltM'.1 h2)) }
theorem below_sorted {w0 w : World} [Inhabited (HM w0)] {g m : Nat} {dk : Array (HM w0)} {os : Array Obj} (h : Below w0.heap.size w0 w) (hg : w0.heap.size ≤ g) : Below w0.heap.size w0 (sortWorldK (encM w0) 5 w g 0 m dk os) := by
  unfold sortWorldK
  have h1 : Below w0.heap.size w0 (Sort.putRowK (encM w0) 5 (Sort.ahead w m) g 0 dk) := Lib.below_putRow h hg
  exact below_grow h1 h1.size os
theorem cmpM (w0 w : World) [Inhabited (HM w0)] (g size : Nat) (h : Below w0.heap.size w0 w) (hg : w0.heap.size ≤ g) : CmpLays Tryz.prog 26 #[] (encM w0) 5 (cfM w0) g 0 size w := fun _ _ _ _ x y =>
  order_gr x.v y.v _ (metaKind_ok.below x.h (below_sorted h hg)) (metaKind_ok.below y.h (below_sorted h hg))
/-- The notes as an array of held ones. -/
def arrM (w0 : World) (es : List MV) (hh : ∀ y ∈ es, metaKind.held w0 y) : Array (HM w0) := (es.attach.map fun y => (⟨y.1, hh y.1 y.2⟩ : HM w0)).toArray
theorem arrM_list (w0 : World) (es : List MV) (hh : ∀ y ∈ es, metaKind.held w0 y) : (arrM w0 es hh).toList.map (·.v) = es := by
  unfold arrM
  rw [List.toList_toArray, List.map_map]
  exact List.attach_map_subtype_val es
theorem arrM_size (w0 : World) (es : List MV) (hh : ∀ y ∈ es, metaKind.held w0 y) : (arrM w0 es hh).size = es.length := by simp [arrM]
theorem rv_flat (w0 : World) [Inhabited (HM w0)] (d : Array (HM w0)) (j : Nat) (hj : j < d.size * 5) : (rv metaKind (d.toList.map (·.v)))[j]? = some ((Sort.flatK (encM w0) 5 d)[j]!) := by
  have hq : j % 5 < 5 := Nat.mod_lt _ (by omega)
  have hi : j / 5 < d.size := by omega
  rw [Sort.get_flatK _ _ _ _ hj]
  have e : (d.toList.map (·.v))[j / 5]? = some (d[j / 5]!).v := by
    rw [List.getElem?_map, Array.getElem?_toList, Array.getElem?_eq_getElem hi, getElem!_pos d _ hi]
    rfl
  have := rv_at metaKind_ok (j % 5) e hq
  rw [show j / 5 * metaKind.size + j % 5 = j by show j / 5 * 5 + j % 5 = j; omega] at this
  rw [this]
  have hl : j % 5 < (encM w0 (d[j / 5]!)).length := hq
  rw [getElem!_pos (encM w0 (d[j / 5]!)) (j % 5) hl]
  exact List.getElem?_eq_getElem hl
theorem RowG.holds {w0 w : World} [Inhabited (HM w0)] {g cap : Nat} {d : Array (HM w0)} (h : RowG w g cap (d.toList.map (·.v))) : Sort.HoldsK (encM w0) 5 w g 0 d := fun j hj => by
  rw [Sort.size_flatK] at hj
  exact ⟨by rw [Nat.zero_add]; exact h.cellAt (rv_flat w0 d j hj), h.open5 _⟩
theorem RowG.sorted {w0 w : World} [Inhabited (HM w0)] {g cap m : Nat} {d d' : Array (HM w0)} {os : Array Obj} (h : RowG w g cap (d.toList.map (·.v))) (hs : d'.size = d.size) : RowG (sortWorldK (encM w0) 5 w g 0 m d' os) g cap (d'.toList.map (·.v)) := by
  obtain ⟨arr, h1, h2, h3⟩ := h.ex
  have hg : g < w.heap.size := (Array.getElem?_eq_some_iff.1 h1).1
  have hle := h.le
  rw [List.length_map, Array.length_toList] at hle
  have hcell : (sortWorldK (encM w0) 5 w g 0 m d' os).heap[g]? = some (.cells (Sort.putCells id 0 (Sort.flatK (encM w0) 5 d') arr) 39 (0, 0)) := by
    unfold sortWorldK
    rw [Sort.heap_grow_old _ _ (by simpa [Sort.putRowK, Sort.putRow, Sort.mapBlock, Sort.ahead] using hg)]
    simp [Sort.putRowK, Sort.putRow, Sort.mapBlock, Sort.ahead, Array.getElem?_modify, h1, Sort.onCells]
  refine ⟨⟨_, hcell, by simpa [Sort.putCells] using h2, ?_⟩, by rw [List.length_map, Array.length_toList]; omega⟩
  apply List.ext_getElem?
  intro j
  rw [List.length_map, Array.length_toList]
  by_cases hj : j < d'.size * 5
  · rw [rv_flat w0 d' j hj, List.getElem?_take_of_lt hj, Array.getElem?_toList]
    have hja : j < arr.size := by rw [h2]; omega
    simp [Sort.putCells, hja, hj]
  · rw [List.getElem?_take_eq_none (by omega), List.getElem?_eq_none (by rw [rv_length metaKind_ok, List.length_map, Array.length_toList]; show d'.size * 5 ≤ j; omega)]
set_option maxHeartbeats 1000000 in
/-- Behind the sort: the same notes, in order. -/
theorem msort_any (g n cap : Nat) (es : List MV) (w0 w : World) (hrow : RowG w g cap es) (hl : es.length = n) (hg : w0.heap.size ≤ g) (hh : ∀ y ∈ es, metaKind.held w0 y) (hn : n ≤ 1048576) (h0 : Below w0.heap.size w0 w) :
    Calls Tryz.prog 25 #[.slice (some ⟨g, 0, none⟩) n cap, .func (.func 26) #[] #[]] w fun e w' =>
      e = .returned (.tuple #[]) ∧ ∃ es' : List MV, es'.Perm es ∧ es'.Pairwise (fun a b => ¬ Ed.ahead b.m a.m) ∧ RowG w' g cap es' ∧ Below w0.heap.size w0 w' := by
  haveI : Inhabited (HM w0) := ⟨dfltM w0⟩
  have eg : ∀ args w, (callFunc 26 args).run Tryz.prog w = .ok (.enter 26 args) w := enters_of Tryz.func26 (by kernel_rfl) rfl
  have hd : (arrM w0 es hh).toList.map (·.v) = es := arrM_list w0 es hh
  have hds := arrM_size w0 es hh
  rw [hl] at hds
  generalize arrM w0 es hh = d at hd hds
  subst hd
  have hblk : g < w.heap.size := by
    obtain ⟨arr, h1, _⟩ := hrow.ex
    exact (Array.getElem?_eq_some_iff.1 h1).1
  have hcon := AnyQ.slices_SortFunc sf_sortM 5 Tryz.isAgg39 Tryz.sizeOf39 (encM w0) (fun x => metaKind_ok.len x.v) (fun x v hv => metaKind_ok.one x.v v hv) (cfM w0) (swoM w0) 26 #[] g 0 cap d w eg (cmpM w0 w g d.size h0 hg) hrow.holds hblk (by omega)
  rw [hds] at hcon
  refine hcon.mono ?_
  rintro e w' ⟨rfl, d', q, os, hp, hs, rfl⟩
  rw [← hds] at hp hs
  have hsz : d'.size = d.size := hp.1
  have hpm : d'.toList.Perm d.toList := by
    have h3 := hp.2.2
    rw [show d.extract 0 d.size = d by simp, show d'.extract 0 d.size = d' by rw [← hsz]; simp] at h3
    exact h3
  refine ⟨rfl, d'.toList.map (·.v), hpm.map _, ?_, hrow.sorted hsz, below_sorted h0 hg⟩
  rw [List.pairwise_map, List.pairwise_iff_getElem]
  intro i j hi hj hij
  have := hs i j (Nat.zero_le _) hij (by rw [← hsz]; simpa using hj)
  rw [getElem!_pos d' j (by simpa using hj), getElem!_pos d' i (by simpa using hi)] at this
  have h3 := ltM'.1 this
  simpa using h3
end Go.Proofs.YthaiodajfmbeaaaGreat
