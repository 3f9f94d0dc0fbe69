/- The walk of slices.Insert of one row ahead of rows of nodes. -/
/- The walk of slices.Insert of one row ahead of rows of nodes, where there is no room; any. -/
import Derived.Test.YtdgfbbaddoghaaaDoorTh0
import Derived.Shelf.Spec.SlicesInsert
import Derived.Lib.AppendZerosOnto
import Derived.Laws.NewBlocks
namespace Go.Proofs.YtdgfbbaddoghaaaDoor
open Go.RowKit Go.Shelf
open Mt (Pos)

theorem infoIns : (Tryd.prog.info? 36).map (fun i => (i.zero, i.size, i.bytes)) = some (some (.slice none 0 0), 1, 24) := by kernel_rfl
theorem szIns : ∀ w, (Go.sizeOf 36).run Tryd.prog w = .ok 1 w := by
  intro w
  obtain ⟨i0, hi0, hz0, hz1, hz2⟩ := info_partsS infoIns
  simp [Go.sizeOf, typeInfo, hi0, hz1]
theorem own_puts {base g n cap t : Nat} : ∀ (vs : List Value) (o : Nat) (w : World) (xs : List Value), w.ownsRow base t 1 (.slice (some ⟨g, 0, none⟩) n cap) n xs → o + vs.length ≤ n →
    ∃ ys, (w.setCells g o vs).ownsRow base t 1 (.slice (some ⟨g, 0, none⟩) n cap) n ys ∧ ∀ q, ys[q]? = if o ≤ q ∧ q < o + vs.length then vs[q - o]? else xs[q]?
  | [], o, w, xs, h, _ => ⟨xs, h, fun q => by simp only [List.length_nil]; rw [if_neg (by omega)]⟩
  | v :: r, o, w, xs, h, hl => by
    have hxl : xs.length = n := by have := h.1; omega
    simp only [List.length_cons] at hl
    obtain ⟨ys, h1, h2⟩ := own_puts r (o + 1) (w.setCell ⟨g, o, none⟩ v) (xs.set o v) (own_put h v) (by omega)
    refine ⟨ys, h1, fun q => ?_⟩
    rw [h2 q]
    simp only [List.length_cons]
    by_cases c : o ≤ q ∧ q < o + (r.length + 1)
    · rw [if_pos c]
      by_cases c2 : q = o
      · subst c2
        rw [if_neg (by omega), List.getElem?_set_self (by omega)]
        simp
      · rw [if_pos (by omega), show q - o = (q - (o + 1)) + 1 by omega, List.getElem?_cons_succ]
    · rw [if_neg c, if_neg (by omega), List.getElem?_set_ne (by omega)]
theorem grown_sets (g : Nat) : ∀ (vs : List Value) (o : Nat) (w : World), w.grownBy (w.setCells g o vs) (some g)
  | [], _, _ => grown_below (Below.refl _ _)
  | v :: r, o, w => grown_trans (grown_set w g o v) (grown_sets g r (o + 1) _)
set_option maxHeartbeats 400000 in
set_option maxRecDepth 100000 in
theorem insert_room (B g n c vb : Nat) (us : List Value) (u : Value) (w : World) (ho : w.ownsRow B 36 1 (.slice (some ⟨g, 0, none⟩) n c) n us) (h1 : 1 ≤ n) (_hn : n ≤ 100) (hc : n + 1 ≤ c) (hv : w.heap[vb]? = some (.cells #[u] 36 (0, 0))) (hvg : vb ≠ g) (hu : u.oneCell' = true) (hus : ∀ x ∈ us, x.oneCell' = true) :
    Calls Tryd.prog 29 #[.slice (some ⟨g, 0, none⟩) n c, .int .i64 0, .slice (some ⟨vb, 0, none⟩) 1 1] w fun e w' => ∃ v', e = .returned v' ∧ w'.ownsRow B 36 1 v' (n + 1) (u :: us) ∧ w.grownBy w' (some g) := by
  obtain ⟨i0, hi0, hz0, hz1, hz2⟩ := info_partsS infoIns
  have hul : us.length = n := by have := ho.1; omega
  rcases ho.2 with ⟨h0, _⟩ | ⟨g', cap', cur, hve, hb, hg, hcc, hm, hs, ht⟩
  · cases h0
  cases hve
  have hcs : cur.size = c := by omega
  have hsz : (Tryd.prog.info? 36).map (·.size) = some 1 := by rw [hi0]; simp [hz1]
  have mixed : Tryd.prog.follows Departure.mixedOrders = true := by kernel_rfl
  have hov : ∀ lb cb, (callFunc 45 #[.slice (some ⟨vb, 0, none⟩) 1 1, .slice (some ⟨g, 1, none⟩) lb cb]).run Tryd.prog w = .ok (.value (.bool false)) w := fun lb cb => by
    rw [run_callFunc_extern Tryd.func45 (by kernel_rfl) (by kernel_rfl) (by kernel_rfl) (e := Extern.SlicesOverlaps.overlaps #[31, 31] #[4]) (by kernel_rfl),
      Lib.run_overlaps_apart w 31 4 36 Tryd.underlying31 1 szIns ⟨vb, 0, none⟩ ⟨g, 1, none⟩ 1 1 lb cb hvg 36 36 1 c (by simp [World.shape?, hv]) (by simp [World.shape?, hg, hcs]) (by omega) (by simp [World.frozen?, hv]) (by simp [World.frozen?, hv])]
    rfl
  obtain ⟨zs, hzs⟩ : ∃ zs, cur.toList.take (n + 1) = zs := ⟨_, rfl⟩
  have hzl : zs.length = n + 1 := by rw [← hzs, List.length_take, Array.length_toList]; omega
  have O0 : w.drew.ownsRow B 36 1 (.slice (some ⟨g, 0, none⟩) (n + 1) c) (n + 1) zs := ⟨by omega, .inr ⟨g, c, cur, rfl, hb, hg, hc, hm, hs, by rw [Nat.mul_one]; exact hzs⟩⟩
  have cz : ∀ q, q < n + 1 → (w.drew.cell? ⟨g, q, none⟩).isSome = true ∧ w.drew.frozen? ⟨g, q, none⟩ = false := fun q hq => by
    have e := own_cell O0 (List.getElem?_eq_getElem (l := zs) (by omega : q < zs.length))
    exact ⟨by rw [e.1]; rfl, e.2⟩
  have cu : ∀ j x, us[j]? = some x → w.drew.cell? ⟨g, j, none⟩ = some x := fun j x hx => (own_cell ho hx).1
  have hcp1 : ∀ ty dc sc, (Builtin.copy_ #[31, 31] ty #[.slice (some ⟨g, 1, none⟩) n dc, .slice (some ⟨g, 0, none⟩) (n + 1) sc]).run Tryd.prog w.drew = .ok (goInt us.length) (w.drew.setCells g 1 us) := fun ty dc sc =>
    run_copy_cells w.drew _ _ ty 36 g 1 n dc ⟨g, 0, none⟩ (n + 1) sc us Tryd.underlying31 hsz (by rw [hul]; simp only [Nat.min_def]; split <;> omega)
      (fun j v hj => by rw [Addr.add_lit, Nat.zero_add]; exact cu j v hj)
      (fun j hj => (cz (1 + j) (by omega)).1) (fun j hj => (cz (1 + j) (by omega)).2) hus
  obtain ⟨ys, O1, hy1⟩ := own_puts us 1 w.drew zs O0 (by omega)
  have G1 := grown_sets g us 1 w.drew
  obtain ⟨W1, hW1⟩ : ∃ W1, W1 = w.drew.setCells g 1 us := ⟨_, rfl⟩
  rw [← hW1] at hcp1 O1 G1
  have hv1 : W1.cell? ⟨vb, 0, none⟩ = some u := by
    have e : W1.heap[vb]? = w.heap[vb]? := G1.block vb (Array.getElem?_eq_some_iff.1 hv).1 (fun e => hvg (Option.some.inj e))
    exact cell_of_row _ _ _ _ _ _ (e.trans hv)
  have hyl : ys.length = n + 1 := by have := O1.1; omega
  have hcp2 : ∀ (W : World), (∀ x, W.cell? x = W1.cell? x) → (∀ x, W.frozen? x = W1.frozen? x) → ∀ ty dc, (Builtin.copy_ #[31, 31] ty #[.slice (some ⟨g, 0, none⟩) (n + 1) dc, .slice (some ⟨vb, 0, none⟩) 1 1]).run Tryd.prog W = .ok (goInt [u].length) (W.setCells g 0 [u]) := fun W hWc hWf ty dc =>
    run_copy_cells W _ _ ty 36 g 0 (n + 1) dc ⟨vb, 0, none⟩ 1 1 [u] Tryd.underlying31 hsz (by simp only [List.length_cons, List.length_nil, Nat.min_def]; split <;> omega)
      (fun j v hj => by
        have hj0 : j = 0 := by have := (List.getElem?_eq_some_iff.1 hj).1; simp at this; omega
        subst hj0
        rw [Addr.add_lit, hWc]
        simp only [List.getElem?_cons_zero, Option.some.injEq] at hj
        rw [← hj]
        exact hv1)
      (fun j hj => by
        have hj0 : j = 0 := by simp at hj; omega
        subst hj0
        rw [hWc, (own_cell O1 (List.getElem?_eq_getElem (l := ys) (by omega : 0 < ys.length))).1]
        rfl) (fun j hj => by
        have hj0 : j = 0 := by simp at hj; omega
        subst hj0
        rw [hWf]
        exact (own_cell O1 (List.getElem?_eq_getElem (l := ys) (by omega : 0 < ys.length))).2) (fun x hx => by rw [List.mem_singleton.1 hx]; exact hu)
  have ANS : Hid (∀ W : World, Below W1.heap.size W1 W → (W.setCells g 0 [u]).ownsRow B 36 1 (.slice (some ⟨g, 0, none⟩) (n + 1) c) (n + 1) (u :: us) ∧ w.grownBy (W.setCells g 0 [u]) (some g)) := fun W hB => by
    have O2 := own_put (i := 0) (own_next O1 hB) u
    refine ⟨?_, grown_trans (grown_trans (grown_trans (grown_below (Below.refl w.heap.size w).drew) G1) (grown_below hB)) (grown_sets g [u] 0 W)⟩
    have e : ys.set 0 u = u :: us := by
      apply List.ext_getElem?
      intro q
      cases q with
      | zero => rw [List.getElem?_set_self (by omega)]; rfl
      | succ q =>
        rw [List.getElem?_set_ne (by omega), hy1 (q + 1), List.getElem?_cons_succ]
        by_cases cq : q < n
        · rw [if_pos (by omega), Nat.add_sub_cancel]
        · rw [if_neg (by omega), List.getElem?_eq_none (by omega), List.getElem?_eq_none (by omega)]
    rw [← e]
    exact O2
  have HW1 := keep hW1
  have w11 : IntKind.i64.wrap 1 = 1 := by decide
  have n1 : (1 : Int) ≤ (n : Int) := by omega
  have b3 : (1 : Int) ≤ (n : Int) + 1 := by omega
  have b4 : (0 : Int) ≤ (n : Int) + 1 := by omega
  have b5 : (0 : Int) ≤ (n : Int) := by omega
  have c1 : (n : Int) + 1 ≤ (c : Int) := by omega
  have n0 : ¬ (n : Int) = 0 := by omega
  have n2 : ((0 : Int) == (n : Int)) = false := by simp; omega
  have c2 : ¬ (c : Int) < (n : Int) + 1 := by omega
  have c3 : (c : Int) ≤ 9223372036854775807 := by unfold maxLen at hm; omega
  have c4 : ¬ c = 1 := by omega
  have c5 : ¬ c = 0 := by omega
  clear hul hcs hsz hzs hzl O0 cz cu hy1 hyl G1 O1 hv1 hv hg hs ht hm hi0 hz0 hz1 hz2 hus hu ho hcc hb hW1 h1 hc
  go_enter Tryd.func29, Tryd.ntmps29
  go_wp2_with (simp only [hov])
  go_region_law_o (refine step_copy_runI rfl _ _ 31 31 rfl (.slice (some ⟨g, 1, none⟩) n (c - 1)) (.slice (some ⟨g, 0, none⟩) (n + 1) c) (by simp [Act.eval, Act.put]) (by simp [Act.eval, Act.put]) (hcp1 _ _ _) ?_)
  go_wp2_with (at_builtin; refine wpList_copy_runI _ rfl _ _ 31 31 rfl _ _ rfl rfl (hcp2 _ (fun _ => rfl) (fun _ => rfl) _ _) ?_)
  go_ret
  exact ⟨_, rfl, ANS.out _ (Below.refl _ _)⟩
end Go.Proofs.YtdgfbbaddoghaaaDoor
namespace Go.Proofs.YtdgfbbaddoghaaaDoor
open Go.RowKit Go.Shelf
open Mt (Pos)

set_option maxHeartbeats 400000 in
set_option maxRecDepth 100000 in
theorem insert_grow (B g n c vb : Nat) (us : List Value) (u : Value) (w : World) (ho : w.ownsRow B 36 1 (.slice (some ⟨g, 0, none⟩) n c) n us) (h1 : 1 ≤ n) (hn : n ≤ 100) (hc : c < n + 1) (hv : w.heap[vb]? = some (.cells #[u] 36 (0, 0))) (hu : u.oneCell' = true) (hus : ∀ x ∈ us, x.oneCell' = true) :
    Calls Tryd.prog 29 #[.slice (some ⟨g, 0, none⟩) n c, .int .i64 0, .slice (some ⟨vb, 0, none⟩) 1 1] w fun e w' => ∃ v', e = .returned v' ∧ w'.ownsRow B 36 1 v' (n + 1) (u :: us) ∧ w.grownBy w' (some g) := by
  obtain ⟨i0, hi0, hz0, hz1, hz2⟩ := info_partsS infoIns
  have hul : us.length = n := by have := ho.1; omega
  rcases ho.2 with ⟨h0, _⟩ | ⟨g', cap', cur, hve, hb, hg, hcc, hm, hs, ht⟩
  · cases h0
  cases hve
  have hgw : g < w.heap.size := (Array.getElem?_eq_some_iff.1 hg).1
  have hvw : vb < w.heap.size := (Array.getElem?_eq_some_iff.1 hv).1
  have hsz : (Tryd.prog.info? 36).map (·.size) = some 1 := by rw [hi0]; simp [hz1]
  have mixed : Tryd.prog.follows Departure.mixedOrders = true := by kernel_rfl
  have hold : (Builtin.firstCells i0.size 0 (.slice (some ⟨g, 0, none⟩) 0 c)).run Tryd.prog w.drew = .ok ([] : List Value).toArray w.drew := by
    rw [hz1]
    exact run_firstCells_some w.drew 1 0 ⟨g, 0, none⟩ 0 c [] rfl (fun j v hj => by simp at hj)
  have e1 : (n : Int) + 1 - 0 = ((n + 1 : Nat) : Int) := by omega
  have hrz : ∀ ty, (Builtin.append_ #[31, 3] ty #[.slice (some ⟨g, 0, none⟩) 0 c, .int .i64 ((n : Int) + 1)]).run Tryd.prog w =
      .ok (.slice (some ⟨w.heap.size, 0, none⟩) (n + 1) (grownCap w (n + 1) c 36)) (w.drew.alloc (.cells (([] : List Value).toArray ++ Builtin.zeroCells (Value.slice none 0 0).cells (n + 1) ++ Builtin.zeroCells (Value.slice none 0 0).cells (grownCap w (n + 1) c 36 - (n + 1))) 36)) := fun ty => by
    have h := Lib.run_append_grow_zeros w 31 3 ty 36 i0 _ .i64 .i64 Tryd.underlying31 Tryd.underlying3 hi0 hz0 (some ⟨g, 0, none⟩) 0 c [] hold (n + 1) (by omega) (by omega) (by omega) (by omega) (by rw [hz2]; omega) (by rw [hz2]; exact growslice_fits (by omega) (by omega))
    rw [Nat.zero_add] at h
    exact h
  obtain ⟨G, hG⟩ : ∃ G, G = grownCap w (n + 1) c 36 := ⟨_, rfl⟩
  have hGn : n + 1 ≤ G := by rw [hG]; exact grownCap_ge w _ _ _
  have hGm : G ≤ maxLen := by
    rw [hG]
    exact grownCap_le_maxLen w (n + 1) c _ (by unfold maxLen; omega)
  rw [← hG] at hrz
  obtain ⟨ROW, hROW⟩ : ∃ ROW : Array Value, ROW = ([] : List Value).toArray ++ Builtin.zeroCells (Value.slice none 0 0).cells (n + 1) ++ Builtin.zeroCells (Value.slice none 0 0).cells (G - (n + 1)) := ⟨_, rfl⟩
  rw [← hROW] at hrz
  have hRl : ROW.size = G := by
    rw [hROW]
    simp [Builtin.zeroCells, Value.cells]
    omega
  obtain ⟨W1, hW1⟩ : ∃ W1, W1 = w.drew.alloc (.cells ROW 36) := ⟨_, rfl⟩
  rw [← hW1] at hrz
  obtain ⟨N, hN⟩ : ∃ N, w.heap.size = N := ⟨_, rfl⟩
  have hbN : B ≤ N := by omega
  obtain ⟨zs, hzs⟩ : ∃ zs, ROW.toList.take (n + 1) = zs := ⟨_, rfl⟩
  have hzl : zs.length = n + 1 := by rw [← hzs, List.length_take, Array.length_toList]; omega
  have g1 : W1.heap[N]? = some (.cells ROW 36 (0, 0)) := by rw [hW1, ← hN]; exact heap_alloc_new w.drew _
  have b1 : Below w.heap.size w W1 := by rw [hW1]; exact (Below.refl _ _).drew.alloc (Nat.le_refl _) _
  have O1 : W1.ownsRow B 36 1 (.slice (some ⟨N, 0, none⟩) (n + 1) G) (n + 1) zs := ⟨by omega, .inr ⟨N, G, ROW, rfl, hbN, g1, hGn, hGm, by omega, by rw [Nat.mul_one]; exact hzs⟩⟩
  have O2 : (W1.setCells N 0 [u]).drew.ownsRow B 36 1 (.slice (some ⟨N, 0, none⟩) (n + 1) G) (n + 1) (zs.set 0 u) := own_next (own_put (i := 0) O1 u) (Below.refl _ _).drew
  obtain ⟨ys, O3, hy3⟩ := own_puts us 1 ((W1.setCells N 0 [u]).drew) (zs.set 0 u) O2 (by omega)
  have e2 : ys = u :: us := by
    have hyl : ys.length = n + 1 := by have := O3.1; omega
    apply List.ext_getElem?
    intro q
    rw [hy3 q]
    cases q with
    | zero => rw [if_neg (by omega), List.getElem?_set_self (by omega)]; rfl
    | succ q =>
      rw [List.getElem?_cons_succ]
      by_cases cq : q < n
      · rw [if_pos (by omega), Nat.add_sub_cancel]
      · rw [if_neg (by omega), List.getElem?_set_ne (by omega), List.getElem?_eq_none (by omega), List.getElem?_eq_none (by omega)]
  subst e2
  have hv1 : W1.cell? ⟨vb, 0, none⟩ = some u := cell_of_row _ _ _ _ _ _ ((b1.block vb hvw).trans hv)
  have cu : ∀ j x, us[j]? = some x → (W1.setCells N 0 [u]).drew.cell? ⟨g, j, none⟩ = some x := fun j x hx => by
    have a := (own_cell ho hx).1
    have b := below_cell b1 a
    have e : (W1.setCell ⟨N, 0, none⟩ u).heap[g]? = W1.heap[g]? := Below.heap_setCell W1 ⟨N, 0, none⟩ u g (by show ¬ g = N; omega)
    show (W1.setCell ⟨N, 0, none⟩ u).cell? ⟨g, j, none⟩ = some x
    rw [World.cell?_of_block (w := W1) e]
    exact b
  have hcpA : ∀ (W : World), (∀ x, W.cell? x = W1.cell? x) → (∀ x, W.frozen? x = W1.frozen? x) → ∀ ty dc, (Builtin.copy_ #[31, 31] ty #[.slice (some ⟨N, 0, none⟩) (n + 1) dc, .slice (some ⟨vb, 0, none⟩) 1 1]).run Tryd.prog W = .ok (goInt [u].length) (W.setCells N 0 [u]) := fun W hWc hWf ty dc =>
    run_copy_cells W _ _ ty 36 N 0 (n + 1) dc ⟨vb, 0, none⟩ 1 1 [u] Tryd.underlying31 hsz (by simp only [List.length_cons, List.length_nil, Nat.min_def]; split <;> omega)
      (fun j v hj => by
        have hj0 : j = 0 := by have := (List.getElem?_eq_some_iff.1 hj).1; simp at this; omega
        subst hj0
        rw [Addr.add_lit, hWc]
        simp only [List.getElem?_cons_zero, Option.some.injEq] at hj
        rw [← hj]
        exact hv1)
      (fun j hj => by
        have hj0 : j = 0 := by simp at hj; omega
        subst hj0
        rw [hWc, (own_cell O1 (List.getElem?_eq_getElem (l := zs) (by omega : 0 < zs.length))).1]
        rfl) (fun j hj => by
        have hj0 : j = 0 := by simp at hj; omega
        subst hj0
        rw [hWf]
        exact (own_cell O1 (List.getElem?_eq_getElem (l := zs) (by omega : 0 < zs.length))).2) (fun x hx => by rw [List.mem_singleton.1 hx]; exact hu)
  have hzl2 : (zs.set 0 u).length = n + 1 := by rw [List.length_set]; exact hzl
  have hcpB : ∀ ty dc sc, (Builtin.copy_ #[31, 31] ty #[.slice (some ⟨N, 1, none⟩) n dc, .slice (some ⟨g, 0, none⟩) n sc]).run Tryd.prog (W1.setCells N 0 [u]).drew = .ok (goInt us.length) ((W1.setCells N 0 [u]).drew.setCells N 1 us) := fun ty dc sc =>
    run_copy_cells _ _ _ ty 36 N 1 n dc ⟨g, 0, none⟩ n sc us Tryd.underlying31 hsz (by rw [hul]; simp only [Nat.min_def]; split <;> omega)
      (fun j v hj => by rw [Addr.add_lit, Nat.zero_add]; exact cu j v hj)
      (fun j hj => by rw [(own_cell O2 (List.getElem?_eq_getElem (l := zs.set 0 u) (by omega : 1 + j < (zs.set 0 u).length))).1]; rfl)
      (fun j hj => (own_cell O2 (List.getElem?_eq_getElem (l := zs.set 0 u) (by omega : 1 + j < (zs.set 0 u).length))).2) hus
  have ANS : Hid (((W1.setCells N 0 [u]).drew.setCells N 1 us).ownsRow B 36 1 (.slice (some ⟨N, 0, none⟩) (n + 1) G) (n + 1) (u :: us) ∧ w.grownBy ((W1.setCells N 0 [u]).drew.setCells N 1 us) (some g)) :=
    have BB := (b1.setCell (p := ⟨N, 0, none⟩) (by show w.heap.size ≤ N; omega) u).drew
    ⟨O3, grown_below (BB.grown (grown_sets N us 1 _) BB.size (fun k hk => by cases hk; omega))⟩
  have w11 : IntKind.i64.wrap 1 = 1 := by decide
  have n1 : (1 : Int) ≤ (n : Int) := by omega
  have b3 : (1 : Int) ≤ (n : Int) + 1 := by omega
  have b4 : (0 : Int) ≤ (n : Int) + 1 := by omega
  have b5 : (0 : Int) ≤ (n : Int) := by omega
  have n0 : ¬ (n : Int) = 0 := by omega
  have n2 : ((0 : Int) == (n : Int)) = false := by simp; omega
  have c2 : (c : Int) < (n : Int) + 1 := by omega
  have c3 : (c : Int) ≤ 9223372036854775807 := by unfold maxLen at hm; omega
  have c0 : (0 : Int) ≤ (c : Int) := by omega
  have c5 : ¬ c = 0 := by omega
  have G1 : ¬ G = 1 := by omega
  have G0 : ¬ G = 0 := by omega
  have G3 : (G : Int) ≤ 9223372036854775807 := by unfold maxLen at hGm; omega
  have nn : (n : Int) ≤ 100 := by omega
  have hH := hN
  rw [hN] at hrz
  clear hul hsz hzs hzl hzl2 O1 O2 O3 hy3 hv1 cu hv hg hs ht hm hi0 hz0 hz1 hz2 hus hu ho hcc hb hW1 h1 hc hN b1 g1 hROW hG hold e1 hgw hvw hbN hRl hGn hGm hn hH
  go_enter Tryd.func29, Tryd.ntmps29
  go_wp2_with (first
    | (at_builtin; refine Lib.wpList_append_run _ rfl _ _ _ _ rfl _ _ rfl rfl _ _ (hrz _) ?_)
    | (at_builtin; refine wpList_copy_runI _ rfl _ _ 31 31 rfl _ _ rfl rfl (hcpA _ (fun _ => rfl) (fun _ => rfl) _ _) ?_))
  go_region_law_o (refine step_copy_runI rfl _ _ 31 31 rfl (.slice (some ⟨N, 1, none⟩) n (G - 1)) (.slice (some ⟨g, 0, none⟩) n c) (by simp [Act.eval, Act.put]) (by simp [Act.eval, Act.put]) (hcpB _ _ _) ?_)
  go_wp2
  go_ret
  exact ⟨_, rfl, ANS.out⟩
theorem insert_any (B g n c vb : Nat) (us : List Value) (u : Value) (w : World) (ho : w.ownsRow B 36 1 (.slice (some ⟨g, 0, none⟩) n c) n us) (h1 : 1 ≤ n) (hn : n ≤ 100) (hv : w.heap[vb]? = some (.cells #[u] 36 (0, 0))) (hvg : vb ≠ g) (hu : u.oneCell' = true) (hus : ∀ x ∈ us, x.oneCell' = true) :
    Calls Tryd.prog 29 #[.slice (some ⟨g, 0, none⟩) n c, .int .i64 0, .slice (some ⟨vb, 0, none⟩) 1 1] w fun e w' => ∃ v', e = .returned v' ∧ w'.ownsRow B 36 1 v' (n + 1) (u :: us) ∧ w.grownBy w' (some g) := by
  rcases Nat.lt_or_ge c (n + 1) with h | h
  · exact insert_grow B g n c vb us u w ho h1 hn h hv hu hus
  · exact insert_room B g n c vb us u w ho h1 hn h hv hvg hu hus
end Go.Proofs.YtdgfbbaddoghaaaDoor
