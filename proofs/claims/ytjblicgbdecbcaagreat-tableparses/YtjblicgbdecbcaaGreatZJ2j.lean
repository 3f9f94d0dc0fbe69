/- The walk of the document's SameOne. -/
/- The walk of the document's SameOne, all cases. -/
/- The walk of the document's Same, where it says yes. -/
/- The walk of block's isAhead. -/
import Derived.Test.YtjblicgbdecbcaaGreatZSb
import Derived.Test.YtjblicgbdecbcaaGreatZSjj
import Derived.Deep.RegionHeld3
import Derived.Test.YtjblicgbdecbcaaGreatZJ1j
namespace Go.Proofs.YtjblicgbdecbcaaGreat
open Go.RowKit
open Sk (Ent)

theorem ent_eq {a b : Ent} : a = b ↔ a.key = b.key ∧ a.seq = b.seq ∧ a.gone = b.gone ∧ a.val = b.val := by
  obtain ⟨k1, s1, g1, v1⟩ := a
  obtain ⟨k2, s2, g2, v2⟩ := b
  simp
set_option maxHeartbeats 1000000 in
set_option maxRecDepth 100000 in
theorem sameOne_yes (x y : EV) (w : World) (hx : entKind.held w x) (hy : entKind.held w y) (h : x.e = y.e) :
    Calls Tryz.prog 15 #[ev x, ev y] w fun e w' => e = .returned (.bool true) ∧ Below w.heap.size w w' := by
  obtain ⟨xkp, xkc, xvp, xvc, xkey, xseq, xgone, xval⟩ := x
  obtain ⟨ykp, ykc, yvp, yvc, e2⟩ := y
  simp only at h
  subst h
  have a1 : Src w xkp xkey.length xkc xkey := hx.1
  have a2 : Src w xvp xval.length xvc xval := hx.2
  have b1 : Src w ykp xkey.length ykc xkey := hy.1
  have b2 : Src w yvp xval.length yvc xval := hy.2
  clear hx hy
  unfold ev
  simp only
  obtain ⟨W, hW⟩ : ∃ W, (w.alloc (.cells #[.slice xkp xkey.length xkc, .int .i64 xseq, .bool xgone, .slice xvp xval.length xvc] 37)).alloc (.cells #[.slice ykp xkey.length ykc, .int .i64 xseq, .bool xgone, .slice yvp xval.length yvc] 37) = W := ⟨_, rfl⟩
  have bW : Hid (Below w.heap.size w W) := by rw [← hW]; exact ((Below.refl _ _).alloc (Nat.le_refl _) _).alloc (by simp) _
  have d1 := conv_src (a1.below bW.out)
  have d2 := conv_src (a2.below bW.out)
  have d3 := conv_src (b1.below bW.out)
  have d4 := conv_src (b2.below bW.out)
  have g0 : W.heap[w.heap.size]? = some (.cells #[.slice xkp xkey.length xkc, .int .i64 xseq, .bool xgone, .slice xvp xval.length xvc] 37) := by
    rw [← hW]; exact (Below.heap_alloc _ _ _ (by simp)).trans (heap_alloc_new w _)
  have g1 : W.heap[w.heap.size + 1]? = some (.cells #[.slice ykp xkey.length ykc, .int .i64 xseq, .bool xgone, .slice yvp xval.length yvc] 37) := by
    have := heap_alloc_new (w.alloc (.cells #[.slice xkp xkey.length xkc, .int .i64 xseq, .bool xgone, .slice xvp xval.length xvc] 37)) (.cells #[.slice ykp xkey.length ykc, .int .i64 xseq, .bool xgone, .slice yvp xval.length yvc] 37)
    rw [World.size_alloc] at this
    rw [← hW]; exact this
  have p0 : W.cell? ⟨w.heap.size, 0, none⟩ = some (.slice xkp xkey.length xkc) := cell_of_row _ _ _ _ _ _ g0
  have p1 : W.cell? ⟨w.heap.size, 1, none⟩ = some (.int .i64 xseq) := cell_of_row _ _ _ _ _ _ g0
  have p2 : W.cell? ⟨w.heap.size, 2, none⟩ = some (.bool xgone) := cell_of_row _ _ _ _ _ _ g0
  have p3 : W.cell? ⟨w.heap.size, 3, none⟩ = some (.slice xvp xval.length xvc) := cell_of_row _ _ _ _ _ _ g0
  have r0 : W.cell? ⟨w.heap.size + 1, 0, none⟩ = some (.slice ykp xkey.length ykc) := cell_of_row _ _ _ _ _ _ g1
  have r1 : W.cell? ⟨w.heap.size + 1, 1, none⟩ = some (.int .i64 xseq) := cell_of_row _ _ _ _ _ _ g1
  have r2 : W.cell? ⟨w.heap.size + 1, 2, none⟩ = some (.bool xgone) := cell_of_row _ _ _ _ _ _ g1
  have r3 : W.cell? ⟨w.heap.size + 1, 3, none⟩ = some (.slice yvp xval.length yvc) := cell_of_row _ _ _ _ _ _ g1
  clear a1 a2 b1 b2 g0 g1
  go_enter Tryz.func15, Tryz.ntmps15
  go_wp2
  go_ret
  exact ⟨rfl, bW.out⟩
end Go.Proofs.YtjblicgbdecbcaaGreat
namespace Go.Proofs.YtjblicgbdecbcaaGreat
open Go.RowKit
open Sk (Ent)

set_option maxHeartbeats 1000000 in
set_option maxRecDepth 100000 in
theorem sameOne_any (x y : EV) (w : World) (hx : entKind.held w x) (hy : entKind.held w y) :
    Calls Tryz.prog 15 #[ev x, ev y] w fun e w' => (∃ t : Bool, e = .returned (.bool t) ∧ (t = true ↔ x.e = y.e)) ∧ Below w.heap.size w w' := by
  obtain ⟨xkp, xkc, xvp, xvc, xkey, xseq, xgone, xval⟩ := x
  obtain ⟨ykp, ykc, yvp, yvc, ykey, yseq, ygone, yval⟩ := y
  rw [ent_eq]
  simp only
  have a1 : Src w xkp xkey.length xkc xkey := hx.1
  have a2 : Src w xvp xval.length xvc xval := hx.2
  have b1 : Src w ykp ykey.length ykc ykey := hy.1
  have b2 : Src w yvp yval.length yvc yval := hy.2
  clear hx hy
  unfold ev
  simp only
  obtain ⟨W, hW⟩ : ∃ W, (w.alloc (.cells #[.slice xkp xkey.length xkc, .int .i64 xseq, .bool xgone, .slice xvp xval.length xvc] 37)).alloc (.cells #[.slice ykp ykey.length ykc, .int .i64 yseq, .bool ygone, .slice yvp yval.length yvc] 37) = W := ⟨_, rfl⟩
  have bW : Hid (Below w.heap.size w W) := by rw [← hW]; exact ((Below.refl _ _).alloc (Nat.le_refl _) _).alloc (by simp) _
  have d1 := conv_src (a1.below bW.out)
  have d2 := conv_src (a2.below bW.out)
  have d3 := conv_src (b1.below bW.out)
  have d4 := conv_src (b2.below bW.out)
  have g0 : W.heap[w.heap.size]? = some (.cells #[.slice xkp xkey.length xkc, .int .i64 xseq, .bool xgone, .slice xvp xval.length xvc] 37) := by
    rw [← hW]; exact (Below.heap_alloc _ _ _ (by simp)).trans (heap_alloc_new w _)
  have g1 : W.heap[w.heap.size + 1]? = some (.cells #[.slice ykp ykey.length ykc, .int .i64 yseq, .bool ygone, .slice yvp yval.length yvc] 37) := by
    have := heap_alloc_new (w.alloc (.cells #[.slice xkp xkey.length xkc, .int .i64 xseq, .bool xgone, .slice xvp xval.length xvc] 37)) (.cells #[.slice ykp ykey.length ykc, .int .i64 yseq, .bool ygone, .slice yvp yval.length yvc] 37)
    rw [World.size_alloc] at this
    rw [← hW]; exact this
  have p0 : W.cell? ⟨w.heap.size, 0, none⟩ = some (.slice xkp xkey.length xkc) := cell_of_row _ _ _ _ _ _ g0
  have p1 : W.cell? ⟨w.heap.size, 1, none⟩ = some (.int .i64 xseq) := cell_of_row _ _ _ _ _ _ g0
  have p2 : W.cell? ⟨w.heap.size, 2, none⟩ = some (.bool xgone) := cell_of_row _ _ _ _ _ _ g0
  have p3 : W.cell? ⟨w.heap.size, 3, none⟩ = some (.slice xvp xval.length xvc) := cell_of_row _ _ _ _ _ _ g0
  have r0 : W.cell? ⟨w.heap.size + 1, 0, none⟩ = some (.slice ykp ykey.length ykc) := cell_of_row _ _ _ _ _ _ g1
  have r1 : W.cell? ⟨w.heap.size + 1, 1, none⟩ = some (.int .i64 yseq) := cell_of_row _ _ _ _ _ _ g1
  have r2 : W.cell? ⟨w.heap.size + 1, 2, none⟩ = some (.bool ygone) := cell_of_row _ _ _ _ _ _ g1
  have r3 : W.cell? ⟨w.heap.size + 1, 3, none⟩ = some (.slice yvp yval.length yvc) := cell_of_row _ _ _ _ _ _ g1
  clear a1 a2 b1 b2 g0 g1
  by_cases hk : xkey = ykey
  · by_cases hs : xseq = yseq
    · by_cases hg : xgone = ygone
      · by_cases hv : xval = yval
        · have HA : Hid (xkey = ykey ∧ xseq = yseq ∧ xgone = ygone ∧ xval = yval) := ⟨hk, hs, hg, hv⟩
          have f1 : (xkey == ykey) = true := by simpa using hk
          have f2 : (xseq == yseq) = true := by simpa using hs
          have f3 : (xgone == ygone) = true := by simpa using hg
          have f4 : (xval == yval) = true := by simpa using hv
          clear hk hs hg hv
          go_enter Tryz.func15, Tryz.ntmps15
          go_wp2
          go_ret
          exact ⟨⟨true, rfl, ⟨fun _ => HA.out, fun _ => rfl⟩⟩, bW.out⟩
        · have HA := keep hv
          have f1 : (xkey == ykey) = true := by simpa using hk
          have f2 : (xseq == yseq) = true := by simpa using hs
          have f3 : (xgone == ygone) = true := by simpa using hg
          have f4 : (xval == yval) = false := by simpa using hv
          clear hk hs hg hv
          go_enter Tryz.func15, Tryz.ntmps15
          go_wp2
          go_ret
          exact ⟨⟨false, rfl, ⟨fun h => (by cases h), fun h => absurd h.2.2.2 HA.out⟩⟩, bW.out⟩
      · have HA := keep hg
        have f1 : (xkey == ykey) = true := by simpa using hk
        have f2 : (xseq == yseq) = true := by simpa using hs
        have f3 : (xgone == ygone) = false := by simpa using hg
        clear hk hs hg
        go_enter Tryz.func15, Tryz.ntmps15
        go_wp2
        go_ret
        exact ⟨⟨false, rfl, ⟨fun h => (by cases h), fun h => absurd h.2.2.1 HA.out⟩⟩, bW.out⟩
    · have HA := keep hs
      have f1 : (xkey == ykey) = true := by simpa using hk
      have f2 : (xseq == yseq) = false := by simpa using hs
      clear hk hs
      go_enter Tryz.func15, Tryz.ntmps15
      go_wp2
      go_ret
      exact ⟨⟨false, rfl, ⟨fun h => (by cases h), fun h => absurd h.2.1 HA.out⟩⟩, bW.out⟩
  · have HA := keep hk
    have f1 : (xkey == ykey) = false := by simpa using hk
    clear hk
    go_enter Tryz.func15, Tryz.ntmps15
    go_wp2
    go_ret
    exact ⟨⟨false, rfl, ⟨fun h => (by cases h), fun h => absurd h.1 HA.out⟩⟩, bW.out⟩
end Go.Proofs.YtjblicgbdecbcaaGreat
namespace Go.Proofs.YtjblicgbdecbcaaGreat
open Go.RowKit
open Sk (Ent)

theorem ent_cells {w : World} {b off n c : Nat} {es : List EV} (h : RSrc entKind w (some ⟨b, off, none⟩) n c es) {i : Nat} {x : EV} (hx : es[i]? = some x) :
    w.cell? ⟨b, off + i * 4, none⟩ = some (.slice x.kp x.e.key.length x.kc) ∧ w.cell? ⟨b, off + i * 4 + 1, none⟩ = some (.int .i64 x.e.seq) ∧ w.cell? ⟨b, off + i * 4 + 2, none⟩ = some (.bool x.e.gone) ∧ w.cell? ⟨b, off + i * 4 + 3, none⟩ = some (.slice x.vp x.e.val.length x.vc) := by
  have one : ∀ (j : Nat) (u : Value), (entKind.vals x)[j]? = some u → w.cell? ⟨b, off + i * 4 + j, none⟩ = some u := fun j u hu => by
    have hj : j < 4 := (List.getElem?_eq_some_iff.1 hu).1
    have := h.cells _ rfl (i * entKind.size + j) u ((rv_at entKind_ok j hx hj).trans hu)
    rw [Addr.add_mid] at this
    rw [show off + i * 4 + j = off + (i * entKind.size + j) by show _ = off + (i * 4 + j); omega]
    exact this
  exact ⟨one 0 _ rfl, one 1 _ rfl, one 2 _ rfl, one 3 _ rfl⟩
set_option maxHeartbeats 2000000 in
set_option maxRecDepth 100000 in
theorem same_yes (ao : Option Addr) (m c : Nat) (es : List EV) (ao2 : Option Addr) (c2 : Nat) (es2 : List EV) (w : World) (hm : m ≤ 1000000000) (h1 : RSrc entKind w ao m c es) (h2 : RSrc entKind w ao2 m c2 es2) (he : es.map (·.e) = es2.map (·.e)) :
    Calls Tryz.prog 16 #[.slice ao m c, .slice ao2 m c2] w fun e w' => e = .returned (.bool true) ∧ Below w.heap.size w w' := by
  have H1 := keep h1
  have H2 := keep h2
  have HE := keep he
  have hl1 := h1.len
  have hl2 := h2.len
  clear h1 h2 he
  go_enter Tryz.func16, Tryz.ntmps16
  go_wp2
  go_loopw [5] (fun i wr => ∃ k : Nat, k ≤ m ∧ i = .int .i64 (k : Int) ∧ Hid (Below w.heap.size w wr)) (fun i _ => m - (intOf i).toNat)
  case atStart => exact ⟨0, Nat.zero_le _, rfl, Below.refl _ _⟩
  case round =>
    obtain ⟨k, hk, rfl, hB⟩ := hrel
    by_cases hlt : k < m
    · obtain ⟨b, off, rfl, _, _⟩ := H1.out.form entKind_ok (by omega)
      obtain ⟨b2, off2, rfl, _, _⟩ := H2.out.form entKind_ok (by omega)
      obtain ⟨x, hx⟩ : ∃ x, es[k]? = some x := ⟨es[k], List.getElem?_eq_getElem (by omega)⟩
      obtain ⟨y, hy⟩ : ∃ y, es2[k]? = some y := ⟨es2[k], List.getElem?_eq_getElem (by omega)⟩
      have hxy : x.e = y.e := by
        have := congrArg (fun l => l[k]?) HE.out
        simp only [List.getElem?_map, hx, hy, Option.map_some, Option.some.injEq] at this
        exact this
      obtain ⟨p0, p1, p2, p3⟩ := ent_cells (H1.out.below entKind_ok hB.out) hx
      obtain ⟨r0, r1, r2, r3⟩ := ent_cells (H2.out.below entKind_ok hB.out) hy
      have hxh := (H1.out.below entKind_ok hB.out).held x (List.mem_of_getElem? hx)
      have hyh := (H2.out.below entKind_ok hB.out).held y (List.mem_of_getElem? hy)
      have SO : Hid (∀ w', Below wr.heap.size wr w' → Calls Tryz.prog 15 #[ev x, ev y] w' fun e w'' => e = .returned (.bool true) ∧ Below wr.heap.size wr w'') := fun w' hb => by
        refine (sameOne_yes x y w' (entKind_ok.below hxh hb) (entKind_ok.below hyh hb) hxy).mono ?_
        rintro e w'' ⟨rfl, hb'⟩
        exact ⟨rfl, hb.trans (hb'.mono hb.size)⟩
      have ll : (k : Int) < (m : Int) := by omega
      have l0 : (0 : Int) ≤ (k : Int) := by omega
      obtain ⟨xkp, xkc, xvp, xvc, ⟨xkey, xseq, xgone, xval⟩⟩ := x
      obtain ⟨ykp, ykc, yvp, yvc, ⟨ykey, yseq, ygone, yval⟩⟩ := y
      unfold ev at SO
      simp only at SO p0 p1 p2 p3 r0 r1 r2 r3
      clear hx hy hxy hxh hyh
      go_wp2_with fail
      go_region_held3 (fun w' => w'.cell? ⟨b, off + k * 4, none⟩ = some (.slice xkp xkey.length xkc) ∧ w'.cell? ⟨b, off + k * 4 + 1, none⟩ = some (.int .i64 xseq) ∧ w'.cell? ⟨b, off + k * 4 + 2, none⟩ = some (.bool xgone) ∧ w'.cell? ⟨b, off + k * 4 + 3, none⟩ = some (.slice xvp xval.length xvc) ∧ w'.cell? ⟨b2, off2 + k * 4, none⟩ = some (.slice ykp ykey.length ykc) ∧ w'.cell? ⟨b2, off2 + k * 4 + 1, none⟩ = some (.int .i64 yseq) ∧ w'.cell? ⟨b2, off2 + k * 4 + 2, none⟩ = some (.bool ygone) ∧ w'.cell? ⟨b2, off2 + k * 4 + 3, none⟩ = some (.slice yvp yval.length yvc))
        (first | exact ⟨p0, p1, p2, p3, r0, r1, r2, r3⟩ | exact ⟨below_cell b4.out p0, below_cell b4.out p1, below_cell b4.out p2, below_cell b4.out p3, below_cell b4.out r0, below_cell b4.out r1, below_cell b4.out r2, below_cell b4.out r3⟩)
        ((go_at_call 15; refine (SO.out _ ((Below.refl _ _).drew)).mono ?_; rintro e w4 ⟨rfl, hb4⟩; have b4 := keep hb4; clear hb4))
      go_wp2
      go_roundw
      case rel => exact ⟨k + 1, by omega, by go_num, hB.out.trans (b4.out.mono hB.out.size)⟩
      case measure => simp [intOf]; omega
    · have ll : ¬ (k : Int) < (m : Int) := by omega
      go_wp2
      go_ret
      exact ⟨rfl, hB.out⟩
end Go.Proofs.YtjblicgbdecbcaaGreat
namespace Go.Proofs.YtjblicgbdecbcaaGreat
open Go.RowKit
open Sk (Ent)

set_option maxHeartbeats 1000000 in
set_option maxRecDepth 100000 in
theorem isAhead_any (x y : EV) (w : World) (hh : entKind.held w x) (hh2 : entKind.held w y) :
    Calls Tryz.prog 69 #[ev x, ev y] w fun e w' => e = .returned (.bool (Sk.aheadOf y.e.key y.e.seq x.e)) ∧ Below w.heap.size w w' := by
  obtain ⟨xkp, xkc, xvp, xvc, xkey, xseq, xgone, xval⟩ := x
  obtain ⟨ykp, ykc, yvp, yvc, ykey, yseq, ygone, yval⟩ := y
  have hk : Src w xkp xkey.length xkc xkey := hh.1
  have hk2 : Src w ykp ykey.length ykc ykey := hh2.1
  clear hh hh2
  unfold ev Sk.aheadOf
  simp only
  have hal := keep (((Below.refl w.heap.size w).alloc (Nat.le_refl _) (.cells #[.slice xkp xkey.length xkc, .int .i64 xseq, .bool xgone, .slice xvp xval.length xvc] 37)).alloc (by simp) (.cells #[.slice ykp ykey.length ykc, .int .i64 yseq, .bool ygone, .slice yvp yval.length yvc] 37))
  have EQ := keep (equal_any xkp xkey.length xkc xkey ykp ykey.length ykc ykey _ (hk.below hal.out) (hk2.below hal.out))
  have LS := keep (less_any xkp xkey.length xkc xkey ykp ykey.length ykc ykey _ (hk.below hal.out) (hk2.below hal.out))
  clear hk hk2
  by_cases hq : xkey = ykey
  · rw [decide_eq_true hq] at EQ
    rw [if_pos hq]
    clear hq
    go_enter Tryz.func69, Tryz.ntmps69
    go_wp2_with fail
    refine EQ.out.mono ?_
    rintro e w1 ⟨rfl, rfl⟩
    go_wp2
    go_ret
    exact ⟨rfl, hal.out⟩
  · rw [decide_eq_false hq] at EQ
    rw [if_neg hq]
    clear hq
    go_enter Tryz.func69, Tryz.ntmps69
    go_wp2_with fail
    refine EQ.out.mono ?_
    rintro e w1 ⟨rfl, rfl⟩
    go_wp2_with fail
    refine LS.out.mono ?_
    rintro e w2 ⟨rfl, rfl⟩
    go_wp2
    go_ret
    exact ⟨rfl, hal.out⟩
/-- An operation of a region is taken first; where its answer goes is named. -/
theorem takeH {P : Program} {ops : Array Oper} {Q : Exit → Act → World → Prop} {md : Region.Mode} {S : World → Prop} {i : Nat} {oi : Oper} (dd : Nat) {v : Value} {fuel : Nat} {listed : Array Bool} {a : Act} {w : World} (hi : ops[i]? = some oi) (hd : oi.dst = some dd)
    (hs : Region.noSelect ops = true) (hf : Region.free md ops listed i = true) (hr : (Region.ready md ops listed).contains i = true)
    (hQ : ∀ c a w, Q (.panic c) (a.put (some dd) v) w → Q (.panic c) a w) (hy : YieldsIf P ops S oi v a) (hS : S w)
    (h : wpAnyH P md ops Q S fuel (listed.setIfInBounds i true) (a.put (some dd) v) w) : wpAnyH P md ops Q S (fuel + 1) listed a w := by
  rw [← hd] at hQ h
  exact wpAnyH_take hi hs hf hr hQ hy hS h
end Go.Proofs.YtjblicgbdecbcaaGreat
