/- The walk of All on a table whose pieces were asked. -/
import Derived.Test.YtjblicgbdecbcaaGreatZQdj
import Derived.Test.YtjblicgbdecbcaaGreatZSjj
namespace Go.Proofs.YtjblicgbdecbcaaGreat
open Go.RowKit Go.Shelf
open Sk (Ent)
attribute [local go_sem] Oper.semAt_some

set_option maxHeartbeats 2000000 in
set_option maxRecDepth 100000 in
theorem tcopied_any (x : EV) (w : World) (hk : x.e.key.length ≤ 140737488355328) (hv : x.e.val.length ≤ 140737488355328) (hh : entKind.held w x) : Calls Tryz.prog 49 #[ev x] w fun e w' => ∃ y : EV, e = .returned (ev y) ∧ y.e = x.e ∧ OwnE w.heap.size w' y ∧ Below w.heap.size w w' := by
  obtain ⟨kp, kc, vp, vc, key, seq, gone, val⟩ := x
  have HK : Hid (Src w kp key.length kc key) := hh.1
  have HV : Hid (Src w vp val.length vc val) := hh.2
  simp only at hk hv
  clear hh
  unfold ev
  simp only
  obtain ⟨K, hK⟩ : ∃ K, key.length = K := ⟨_, rfl⟩
  obtain ⟨V, hV⟩ : ∃ V, val.length = V := ⟨_, rfl⟩
  have HKK := keep hK
  have HVV := keep hV
  rw [hK] at HK hk ⊢
  rw [hV] at HV hv ⊢
  clear hK hV
  obtain ⟨W1, hW1⟩ : ∃ W1, (w.alloc (.cells #[.slice kp K kc, .int .i64 seq, .bool gone, .slice vp V vc] 37)).alloc (.cells #[.slice none 0 0, .int .i64 0, .bool false, .slice none 0 0] 37) = W1 := ⟨_, rfl⟩
  have b1 : Hid (Below w.heap.size w W1) := by rw [← hW1]; exact ((Below.refl _ _).alloc (Nat.le_refl _) _).alloc (by simp) _
  have s1 : Hid (W1.heap.size = w.heap.size + 2) := by rw [← hW1]; show _ = _; simp
  have g0 : Hid (W1.heap[w.heap.size]? = some (.cells #[.slice kp K kc, .int .i64 seq, .bool gone, .slice vp V vc] 37)) := by
    rw [← hW1]; exact (Below.heap_alloc _ _ _ (by simp)).trans (heap_alloc_new w _)
  have g1 : Hid (W1.heap[w.heap.size + 1]? = some (.cells #[.slice none 0 0, .int .i64 0, .bool false, .slice none 0 0] 37)) := by
    have := heap_alloc_new (w.alloc (.cells #[.slice kp K kc, .int .i64 seq, .bool gone, .slice vp V vc] 37)) (.cells #[.slice none 0 0, .int .i64 0, .bool false, .slice none 0 0] 37)
    rw [World.size_alloc] at this
    rw [← hW1]; exact this
  have KC1 : Hid (∀ w', Below W1.heap.size W1 w' → Calls Tryz.prog 52 #[.slice kp K kc] w' fun e w'' => ∃ a c, e = .returned (.slice a K c) ∧ w''.ownsRow w.heap.size 5 1 (.slice a K c) K (bv key) ∧ Below W1.heap.size W1 w'') := fun w' hb => by
    refine (clone_any kp K kc key w' hk (HK.out.below (b1.out.trans (hb.mono b1.out.size)))).mono ?_
    rintro e w'' ⟨v, rfl, hn⟩
    obtain ⟨a, c, rfl, _, _⟩ := hn.src
    exact ⟨a, c, rfl, own_base hn.1 (fun g hg => Nat.le_trans (Nat.le_trans b1.out.size hb.size) (hn.1.lt g hg).1), hb.trans (hn.2.mono hb.size)⟩
  have KC2 : Hid (∀ w', Below W1.heap.size W1 w' → Calls Tryz.prog 52 #[.slice vp V vc] w' fun e w'' => ∃ a c, e = .returned (.slice a V c) ∧ w''.ownsRow w.heap.size 5 1 (.slice a V c) V (bv val) ∧ Below w'.heap.size w' w'') := fun w' hb => by
    refine (clone_any vp V vc val w' hv (HV.out.below (b1.out.trans (hb.mono b1.out.size)))).mono ?_
    rintro e w'' ⟨v, rfl, hn⟩
    obtain ⟨a, c, rfl, _, _⟩ := hn.src
    exact ⟨a, c, rfl, own_base hn.1 (fun g hg => Nat.le_trans (Nat.le_trans b1.out.size hb.size) (hn.1.lt g hg).1), hn.2⟩
  have KG : Hid (∀ w', Below W1.heap.size W1 w' → w'.heap[w.heap.size]? = some (.cells #[.slice kp K kc, .int .i64 seq, .bool gone, .slice vp V vc] 37) ∧ w'.heap[w.heap.size + 1]? = some (.cells #[.slice none 0 0, .int .i64 0, .bool false, .slice none 0 0] 37)) := fun w' hb => ⟨(hb.block _ (by rw [s1.out]; omega)).trans g0.out, (hb.block _ (by rw [s1.out]; omega)).trans g1.out⟩
  have KF : Hid (∀ w', Below W1.heap.size W1 w' → w'.cell? ⟨w.heap.size, 0, none⟩ = some (.slice kp K kc) ∧ w'.cell? ⟨w.heap.size, 3, none⟩ = some (.slice vp V vc) ∧ w'.frozen? ⟨w.heap.size, 0, none⟩ = false ∧ w'.frozen? ⟨w.heap.size, 3, none⟩ = false ∧ w'.cell? ⟨w.heap.size, 1, none⟩ = some (.int .i64 seq) ∧ w'.cell? ⟨w.heap.size, 2, none⟩ = some (.bool gone)) := fun w' hb => by
    have h := (KG.out w' hb).1
    exact ⟨cell_of_row _ _ _ _ _ _ h, cell_of_row _ _ _ _ _ _ h, by simp [World.frozen?, h], by simp [World.frozen?, h], cell_of_row _ _ _ _ _ _ h, cell_of_row _ _ _ _ _ _ h⟩
  have KR : Hid (∀ w', Below W1.heap.size W1 w' → w'.cell? ⟨w.heap.size + 1, 0, none⟩ = some (.slice none 0 0) ∧ w'.cell? ⟨w.heap.size + 1, 1, none⟩ = some (.int .i64 0) ∧ w'.cell? ⟨w.heap.size + 1, 2, none⟩ = some (.bool false) ∧ w'.cell? ⟨w.heap.size + 1, 3, none⟩ = some (.slice none 0 0) ∧ w'.frozen? ⟨w.heap.size + 1, 0, none⟩ = false ∧ w'.frozen? ⟨w.heap.size + 1, 1, none⟩ = false ∧ w'.frozen? ⟨w.heap.size + 1, 2, none⟩ = false ∧ w'.frozen? ⟨w.heap.size + 1, 3, none⟩ = false) := fun w' hb => by
    have h := (KG.out w' hb).2
    exact ⟨cell_of_row _ _ _ _ _ _ h, cell_of_row _ _ _ _ _ _ h, cell_of_row _ _ _ _ _ _ h, cell_of_row _ _ _ _ _ _ h, by simp [World.frozen?, h], by simp [World.frozen?, h], by simp [World.frozen?, h], by simp [World.frozen?, h]⟩
  obtain ⟨c10, c13, f10, f13, _, _⟩ := KF.out W1 (Below.refl _ _)
  go_enter Tryz.func49, Tryz.ntmps49
  go_wp2_with fail
  go_region_with (first
    | (go_at_call 52; go_fit (KC1.out W1.drew (Below.refl _ _).drew); rintro e w2 ⟨a2, k2, rfl, ho2, hb2⟩; have b2 := keep hb2; have O2 := keep ho2; obtain ⟨c20, c23, f20, f23, _, _⟩ := KF.out w2 hb2; clear ho2 hb2)
    | (go_at_call 52; go_fit (KC2.out w2 b2.out); rintro e w3 ⟨a3, k3, rfl, ho3, hb3⟩; have b3 := keep (b2.out.trans (hb3.mono b2.out.size)); have O3 := keep ho3; have O2' := keep (own_block (w' := w3) O2.out (fun g hg => hb3.block g (own_size O2.out hg))); obtain ⟨c30, c33, f30, f33, c31, c32⟩ := KF.out w3 b3.out; have G3 := keep (KG.out w3 b3.out); clear ho3 hb3))
  all_goals
    obtain ⟨d0, d1, d2, d3, e0, e1, e2, e3⟩ := KR.out w3 b3.out
    go_wp2
    have far : ∀ {v : Value} {n : Nat} {xs : List Value}, w3.ownsRow w.heap.size 5 1 v n xs → ∀ g, v.ownBlock = some g → g ≠ w.heap.size ∧ g ≠ w.heap.size + 1 := fun {v n xs} h g hg => by
      obtain ⟨cur, hc⟩ := own_tag h hg
      refine ⟨fun e => ?_, fun e => ?_⟩
      · rw [e, G3.out.1] at hc; cases hc
      · rw [e, G3.out.2] at hc; cases hc
    refine ⟨rfl, .agg #[.slice a2 K k2, .int .i64 seq, .bool gone, .slice a3 V k3], ?_, ⟨a2, k2, a3, k3, ⟨key, seq, gone, val⟩⟩, ?_, rfl, ⟨?_, ?_⟩, ?_⟩
    · clear hW1 c30 c33 c31 c32 c20 c23
      have r0 : (((w3.setCell ⟨w.heap.size, 0, none⟩ (.slice a2 K k2)).setCell ⟨w.heap.size, 3, none⟩ (.slice a3 V k3)).setCell ⟨w.heap.size + 1, 0, none⟩ (.slice a2 K k2)).cell? ⟨w.heap.size + 1, 0, none⟩ = some (.slice a2 K k2) := World.cell?_setCell_same' _ _ _ (by simp [go_sem, d0])
      have r1 : ((((w3.setCell ⟨w.heap.size, 0, none⟩ (.slice a2 K k2)).setCell ⟨w.heap.size, 3, none⟩ (.slice a3 V k3)).setCell ⟨w.heap.size + 1, 0, none⟩ (.slice a2 K k2)).setCell ⟨w.heap.size + 1, 1, none⟩ (.int .i64 seq)).cell? ⟨w.heap.size + 1, 1, none⟩ = some (.int .i64 seq) := World.cell?_setCell_same' _ _ _ (by simp [go_sem, d1])
      have r2 : (((((w3.setCell ⟨w.heap.size, 0, none⟩ (.slice a2 K k2)).setCell ⟨w.heap.size, 3, none⟩ (.slice a3 V k3)).setCell ⟨w.heap.size + 1, 0, none⟩ (.slice a2 K k2)).setCell ⟨w.heap.size + 1, 1, none⟩ (.int .i64 seq)).setCell ⟨w.heap.size + 1, 2, none⟩ (.bool gone)).cell? ⟨w.heap.size + 1, 2, none⟩ = some (.bool gone) := World.cell?_setCell_same' _ _ _ (by simp [go_sem, d2])
      have r3 : ((((((w3.setCell ⟨w.heap.size, 0, none⟩ (.slice a2 K k2)).setCell ⟨w.heap.size, 3, none⟩ (.slice a3 V k3)).setCell ⟨w.heap.size + 1, 0, none⟩ (.slice a2 K k2)).setCell ⟨w.heap.size + 1, 1, none⟩ (.int .i64 seq)).setCell ⟨w.heap.size + 1, 2, none⟩ (.bool gone)).setCell ⟨w.heap.size + 1, 3, none⟩ (.slice a3 V k3)).cell? ⟨w.heap.size + 1, 3, none⟩ = some (.slice a3 V k3) := World.cell?_setCell_same' _ _ _ (by simp [go_sem, d3])
      simp [results, Tryz.f49, go_sem, loadCells, loadCellsFrom, r0, r1, r2, r3]
    · show _ = Ending.returned (Value.agg #[.slice a2 key.length k2, .int .i64 seq, .bool gone, .slice a3 val.length k3])
      rw [HKK.out, HVV.out]
    · show World.ownsRow _ _ _ _ (.slice a2 key.length k2) key.length (bv key)
      rw [HKK.out]
      refine own_block O2'.out (fun g hg => ?_)
      obtain ⟨h1, h2⟩ := far O2'.out g hg
      simp only [set_far _ _ h1, set_far _ _ h2]
    · show World.ownsRow _ _ _ _ (.slice a3 val.length k3) val.length (bv val)
      rw [HVV.out]
      refine own_block O3.out (fun g hg => ?_)
      obtain ⟨h1, h2⟩ := far O3.out g hg
      simp only [set_far _ _ h1, set_far _ _ h2]
    · have h3 := b1.out.trans (b3.out.mono b1.out.size)
      exact ((((((h3.setCell (p := ⟨w.heap.size, 0, none⟩) (Nat.le_refl _) _).setCell (p := ⟨w.heap.size, 3, none⟩) (Nat.le_refl _) _).setCell (p := ⟨w.heap.size + 1, 0, none⟩) (Nat.le_succ _) _).setCell (p := ⟨w.heap.size + 1, 1, none⟩) (Nat.le_succ _) _).setCell (p := ⟨w.heap.size + 1, 2, none⟩) (Nat.le_succ _) _).setCell (p := ⟨w.heap.size + 1, 3, none⟩) (Nat.le_succ _) _)
/-- append(v, e) as a step of a drawn region inside a fence. -/
theorem stepIn_append {F : Fence} {n : Nat} {P : Program} {w : World} {ops : Array Oper} {o : Oper} {a : Act} {C : Act → World → Prop} {Q : Exit → Act → World → Prop} {Z : Prop} (hgd : o.guard = none) (s x : Operand) (t tF : TypeId)
    (ho : o.op = .call { callee := .builtin .append, args := #[s, x], argTypes := #[t, t] })
    (base : Nat) (i : TypeInfo) (z : Value) (ht : P.underlying t = some (.slice tF)) (hi : P.info? tF = some i) (hz : i.zero = some z)
    (hsize : i.size = 4) (hby : i.bytes = 64) (hzs : z.cells.size = 4)
    (v : Value) (k : Nat) (es : List EV) (hs : a.eval s = v) (hown : w.ownsRow base tF 4 v k (rv entKind es))
    (ad : Addr) (c : Nat) (e : EV) (hx : a.eval x = .slice (some ad) 1 c) (hcells : ∀ j u, (entKind.vals e)[j]? = some u → w.cell? (ad.add j) = some u)
    (hb : k + 1 ≤ maxLen) (hbytes : (k + 1) * 64 ≤ 140737488355328) (hbase : base ≤ w.heap.size)
    (h : ∀ v' w', w'.ownsRow base tF 4 v' (k + 1) (rv entKind (es ++ [e])) → w.grownBy w' v.ownBlock → C (a.put o.dst v') w') : if Region.wanted o (yielded ops a.tmps) = true then Oper.wpIn F n P o a w C Q else Z := by
  have hw : Region.wanted o (yielded ops a.tmps) = true := by simp [Region.wanted, hgd]
  rw [if_pos hw]
  obtain ⟨v', w', hrun, r1, r2, _⟩ := run_append_own (P := P) w base t o.type tF i z 4 64 ht hi hz hsize hby hzs (by decide) v k (rv entKind es) hown ad 1 c (entKind.vals e) rfl hcells (entKind_ok.one e) hb hbytes hbase
  unfold Oper.wpIn
  refine ⟨?_, ?_⟩
  · simp [Oper.about, ho, resolve, Target.leads, Sem.run_pure]
  · rw [Oper.semAt_plain F _ _ (by rw [ho]; intro c hc'; cases hc')]
    simp [execOp, ho, resolve, invoke, builtin, hs, hx, hrun, Result.andThen]
    refine h v' w' ?_ r2
    rw [rv_append]
    simpa [rv] using r1
/-- The entries that have come, in the box. -/
def AllI (w : World) (Bx : Nat) (ds : List DE) (pre : List Nat) (W : World) : Prop :=
  ∃ v out, Boxed W Bx 22 v ∧ W.ownsRow w.heap.size 37 4 v out.length (rv entKind out) ∧ (∀ y ∈ out, OwnE w.heap.size W y) ∧ out.map (·.e) = pre.map (fun i => (nthE ds i).e) ∧ Below w.heap.size w W
theorem OwnE.tag5 {B : Nat} {W W' : World} {y : EV} (h : OwnE B W y) (hk : ∀ (g : Nat) (cur : Array Value), W.heap[g]? = some (Obj.cells cur 5 (0, 0)) → W'.heap[g]? = W.heap[g]?) : OwnE B W' y :=
  ⟨own_block h.1 (fun g hg => by obtain ⟨cur, hc⟩ := own_tag h.1 hg; exact hk g cur hc), own_block h.2 (fun g hg => by obtain ⟨cur, hc⟩ := own_tag h.2 hg; exact hk g cur hc)⟩
theorem AllI.own {w : World} {Bx B : Nat} {ds : List DE} (hB : w.heap.size ≤ B) : OwnFrom B (AllI w Bx ds) := fun pre W W' row h hg hr => by
  obtain ⟨v, out, h1, h2, h3, h4, h5⟩ := h
  have kc : ∀ (g : Nat) (c : Array Value) (t : TypeId) (fr : Nat × Nat), W.heap[g]? = some (.cells c t fr) → W'.heap[g]? = W.heap[g]? := fun g c t fr hgc => hg.block g (Array.getElem?_eq_some_iff.1 hgc).1 (fun e => by
    obtain ⟨_, o, ho, hc⟩ := hr _ e.symm
    rw [hgc] at ho
    cases ho
    cases hc)
  refine ⟨v, out, (kc _ _ _ _ h1).trans h1, own_block h2 (fun g hg' => ?_), fun y hy => (h3 y hy).tag5 (fun g cur hc => kc g cur _ _ hc), h4, h5.grown hg h5.size (fun k e => Nat.le_trans hB (hr k e).1)⟩
  obtain ⟨cur, hcur⟩ := own_tag h2 hg'
  exact kc g cur _ _ hcur
theorem nthE_held {w : World} {tb : Nat} {ds : List DE} {Fl : List UInt8} (hT : TDone w tb ds Fl) (x : Nat) : entKind.held w (nthE ds x) := by
  unfold nthE
  rw [List.getD_eq_getElem?_getD]
  cases h : (evsD ds)[x]? with
  | none => exact ⟨Src.empty (fun _ => rfl), Src.empty (fun _ => rfl)⟩
  | some y =>
    obtain ⟨d, hd, hy⟩ := List.mem_flatMap.1 (List.mem_of_getElem? h)
    exact (hT.each d hd).ents.held y hy
theorem nthE_small {ds : List DE} (h : ∀ d ∈ ds, d.ys.length ≤ 64 ∧ ∀ y ∈ d.ys, y.e.key.length ≤ 64 ∧ y.e.val.length ≤ 1024) (x : Nat) : (nthE ds x).e.key.length ≤ 64 ∧ (nthE ds x).e.val.length ≤ 1024 := by
  unfold nthE
  rw [List.getD_eq_getElem?_getD]
  cases h0 : (evsD ds)[x]? with
  | none => exact ⟨by show 0 ≤ 64; omega, by show 0 ≤ 1024; omega⟩
  | some y =>
    obtain ⟨d, hd, hy⟩ := List.mem_flatMap.1 (List.mem_of_getElem? h0)
    exact (h d hd).2 y hy
theorem nthE_all (ds : List DE) : (List.range (evsD ds).length).map (fun i => (nthE ds i).e) = entsD ds := by
  have h1 : (List.range (evsD ds).length).map (nthE ds) = evsD ds := by
    apply List.ext_getElem?
    intro i
    rw [List.getElem?_map]
    by_cases hi : i < (evsD ds).length
    · rw [List.getElem?_range hi, List.getElem?_eq_getElem hi]
      simp [nthE, List.getD, hi]
    · rw [List.getElem?_eq_none (by simp; omega), List.getElem?_eq_none (by omega)]
      rfl
  have h2 : (evsD ds).map (·.e) = entsD ds := by
    unfold evsD entsD
    rw [List.map_flatMap]
  rw [← h2, ← h1, List.map_map]
  simp
/-- What a round leaves. -/
theorem AllI.next {w : World} {Bx : Nat} {ds : List DE} {pre : List Nat} {x : Nat} {W W6 w7 : World} {v v7 : Value} {out : List EV} {y : EV} (hx : Boxed W Bx 22 v) (ho : W.ownsRow w.heap.size 37 4 v out.length (rv entKind out)) (hh : ∀ y ∈ out, OwnE w.heap.size W y) (hm : out.map (·.e) = pre.map (fun i => (nthE ds i).e)) (hb : Below w.heap.size w W)
    (hBx : w.heap.size ≤ Bx) (b6 : Below W.heap.size W W6) (hy : OwnE w.heap.size W6 y) (he : y.e = (nthE ds x).e) (h7 : w7.ownsRow w.heap.size 37 4 v7 (out.length + 1) (rv entKind (out ++ [y]))) (g7 : W6.grownBy w7 v.ownBlock) :
    Boxed w7 Bx 22 v ∧ (KeepsOthers W (w7.setCell ⟨Bx, 0, none⟩ v7) ∧ Below w.heap.size W (w7.setCell ⟨Bx, 0, none⟩ v7) ∧ AllI w Bx ds (pre ++ [x]) (w7.setCell ⟨Bx, 0, none⟩ v7)) := by
  have x6 : Boxed W6 Bx 22 v := (b6.block _ hx.lt).trans hx
  have o6 := own_block ho (fun g hg => b6.block g (own_size ho hg))
  have k67 : ∀ (g : Nat) (c : Array Value) (t : TypeId) (fr : Nat × Nat), t ≠ 37 → W6.heap[g]? = some (.cells c t fr) → w7.heap[g]? = W6.heap[g]? := fun g c t fr hne hgc => g7.block g (Array.getElem?_eq_some_iff.1 hgc).1 (fun e => by
    obtain ⟨cur, hc⟩ := own_tag o6 e.symm
    rw [hgc] at hc
    cases hc
    exact hne rfl)
  have x7 : Boxed w7 Bx 22 v := (k67 _ _ _ _ (by decide) x6).trans x6
  have k78 : ∀ (g : Nat) (cur : Array Value), w7.heap[g]? = some (Obj.cells cur 5 (0, 0)) → (w7.setCell ⟨Bx, 0, none⟩ v7).heap[g]? = w7.heap[g]? := fun g cur hc => Below.heap_setCell _ _ _ g (fun e => by
    rw [show g = Bx from e, show w7.heap[Bx]? = _ from x7] at hc
    cases hc)
  have k68 : ∀ (g : Nat) (cur : Array Value), W6.heap[g]? = some (Obj.cells cur 5 (0, 0)) → (w7.setCell ⟨Bx, 0, none⟩ v7).heap[g]? = W6.heap[g]? := fun g cur hc => by
    have h1 := k67 g _ _ _ (by decide) hc
    exact (k78 g cur (h1.trans hc)).trans h1
  have B6 : Below w.heap.size W W6 := b6.mono hb.size
  have B7 : Below w.heap.size W w7 := B6.grown g7 (Nat.le_trans hb.size b6.size) (fun j hj => (o6.lt j hj).1)
  have B8 : Below w.heap.size W (w7.setCell ⟨Bx, 0, none⟩ v7) := B7.setCell (p := ⟨Bx, 0, none⟩) hBx _
  refine ⟨x7, ?_, B8, v7, out ++ [y], x7.set v7, ?_, fun z hz => ?_, ?_, hb.trans B8⟩
  · refine KeepsOthers.trans (B := w7) ?_ (KeepsOthers.setCell _ _ _)
    refine ⟨Nat.le_trans b6.size g7.size, fun k o hk ho' => ?_⟩
    have h6 : W6.heap[k]? = some o := (b6.block k (Array.getElem?_eq_some_iff.1 hk).1).trans hk
    refine (g7.block k (Array.getElem?_eq_some_iff.1 h6).1 (fun e => ?_)).trans h6
    obtain ⟨cur, hc⟩ := own_tag o6 e.symm
    rw [h6] at hc
    cases hc
    cases ho'
  · rw [List.length_append]
    refine own_block h7 (fun g hg => Below.heap_setCell _ _ _ g (fun e => ?_))
    obtain ⟨cur, hc⟩ := own_tag h7 hg
    rw [show g = Bx from e, show w7.heap[Bx]? = _ from x7] at hc
    cases hc
  · rcases List.mem_append.1 hz with hz | hz
    · refine (hh z hz).tag5 (fun g cur hc => ?_)
      have h6 := b6.block g (Array.getElem?_eq_some_iff.1 hc).1
      exact (k68 g cur (h6.trans hc)).trans h6
    · rw [List.mem_singleton.1 hz]
      exact hy.tag5 k68
  · rw [List.map_append, List.map_append, hm]
    simp [he]
set_option maxHeartbeats 8000000 in
set_option maxRecDepth 100000 in
theorem all_done (tb : Nat) (ds : List DE) (Fl : List UInt8) (w : World) (hT : TDone w tb ds Fl) (hl : ds.length ≤ 64) (hds : ∀ d ∈ ds, d.ys.length ≤ 64 ∧ ∀ y ∈ d.ys, y.e.key.length ≤ 64 ∧ y.e.val.length ≤ 1024) (hev : (evsD ds).length ≤ 4096) :
    Calls Tryz.prog 17 #[.pointer (some ⟨tb, 0, none⟩)] w fun e w' => ∃ v, e = .returned v ∧ ∃ ys, Ents w.heap.size w' v ys ∧ ys.map (·.e) = entsD ds ∧ Below w.heap.size w w' := by
  obtain ⟨i0, hi0, hz0, hz1, hz2⟩ := info_parts22q (infoE)
  have TD := keep hT
  have SM := keep (fun x => nthE_small hds x)
  have HD : Hid (∀ d ∈ ds, d.ys.length ≤ 64) := fun d hd => (hds d hd).1
  obtain ⟨W1, hW1⟩ : ∃ W1, w.alloc (.cells #[.slice none 0 0] 22) = W1 := ⟨_, rfl⟩
  have b1 : Hid (Below w.heap.size w W1) := by rw [← hW1]; exact (Below.refl _ _).alloc (Nat.le_refl _) _
  have x1 : Hid (Boxed W1 w.heap.size 22 (.slice none 0 0)) := by rw [← hW1]; exact Boxed.new _ _ _
  have HW1 := keep hW1
  clear hT hW1 hds
  rw [← callsIn_wide (n := 8)]
  refine callsIn_of_wp_marks Tryz.func17 rfl trivial ?_ rfl
  simp only [Tryz.ntmps17, List.size_toArray, List.length_cons, List.length_nil, Nat.reduceAdd, Nat.reduceSub, Array.replicate_succ, Array.replicate_zero, List.push_toArray, List.append_toArray, List.nil_append, List.cons_append]
  gi_wp2_with fail
  refine ⟨trivial, ?_⟩
  rw [HW1.out]
  refine (callsIn_wide.2 (each_any tb W1)).mono ?_
  rintro e w9 ⟨rfl, hw9⟩
  have b9 : Hid (Below W1.heap.size W1 w9) := by rw [hw9]; exact (Below.refl _ _).alloc (Nat.le_refl _) _
  have q1 : Hid (w9.cell? ⟨W1.heap.size, 0, none⟩ = some (.pointer (some ⟨tb, 0, none⟩))) := by rw [hw9]; exact cell_of_row _ _ _ _ _ _ (heap_alloc_new W1 _)
  have B9 := keep (b1.out.trans (b9.out.mono b1.out.size))
  have x9 : Hid (Boxed w9 w.heap.size 22 (.slice none 0 0)) := (b9.out.block _ x1.out.lt).trans x1.out
  clear hw9 HW1
  gi_wp2_with fail
  refine wpIn_rangeFunc_ownH (α := Nat) (F := Fence.wide) rfl (by decide) (gf := 78) (lb := #[.pointer (some ⟨W1.heap.size, 0, none⟩)]) rfl trivial (enters_of Tryz.func78 (by kernel_rfl) rfl)
    (each_stops 7 (by decide) W1.heap.size tb w.heap.size ds Fl w w9 rfl B9.out hl HD.out TD.out q1.out) belowK_t (fun W l o o' h1 h2 h3 h4 => belowK_b B9.out.size W l o o' h1 h2 h3 h4) (Below.refl _ _) (fun _ => rfl)
    (AllI w w.heap.size ds)
    (fun _ _ _ => False)
    (AllI.own B9.out.size)
    (fun c pre W W' row h hg hr => h)
    ⟨_, [], x9.out, World.ownsRow_nil _ _ _ _, (fun y hy => by cases hy), rfl, B9.out⟩
    (fun x a' W => ∃ g, a' = { tmps := #[.pointer (some ⟨tb, 0, none⟩), undef, .slice none 0 0, .pointer (some ⟨w.heap.size, 0, none⟩), .pointer (some ⟨g, 0, none⟩), .pointer (some ⟨tb, 0, none⟩), .func (.func 78) #[] #[.pointer (some ⟨W1.heap.size, 0, none⟩)], ev (nthE ds x), undef, undef, undef, undef, undef, undef], defers := [] } ∧ W.heap[g]? = some (.cells #[.slice (nthE ds x).kp (nthE ds x).e.key.length (nthE ds x).kc, .int .i64 (nthE ds x).e.seq, .bool (nthE ds x).e.gone, .slice (nthE ds x).vp (nthE ds x).e.val.length (nthE ds x).vc] 37))
    (fun x a' _ W W' row h hg hr => by
      obtain ⟨g, h1, h2⟩ := h
      refine ⟨g, h1, (hg.block g (Array.getElem?_eq_some_iff.1 h2).1 (fun e => ?_)).trans h2⟩
      obtain ⟨_, o, ho, hc⟩ := hr _ e.symm
      rw [h2] at ho
      cases ho
      cases hc) ?assign ?body ?done ?stop
  case assign =>
    intro l pre x W K hI hK
    have ST := keep (fun a' W' h1 h2 h3 h4 => hK a' W' h1 h2 h3 h4)
    obtain ⟨z, hz⟩ : ∃ z, nthE ds x = z := ⟨_, rfl⟩
    have HZ := keep hz
    rw [hz]
    have II := keep hI
    clear hK hz hI
    simp only [List.zip_toArray, List.zip_cons_cons, List.zip_nil_right, List.foldl_toArray, List.foldl_cons, List.foldl_nil, List.setIfInBounds_toArray, List.set_cons_zero, List.set_cons_succ]
    unfold ev
    gi_wp2
    have hWb : w.heap.size ≤ W.heap.size := by obtain ⟨_, _, _, _, _, _, hb⟩ := II.out; exact hb.size
    refine ST.out _ _ ((KeepsOthers.alloc _ _).from _) ((Below.refl _ _).alloc hWb _) (AllI.own B9.out.size pre W _ none II.out (World.grownBy_alloc W _ none) (fun r e => by cases e)) ⟨W.heap.size, ?_, ?_⟩
    · rw [HZ.out]; rfl
    · rw [HZ.out]; exact heap_alloc_new W _
  case body =>
    rintro l pre x a' W hll hrec ⟨v, out, hx, ho, hh, hm, hb⟩ ⟨g, rfl, hg⟩ hlen
    have HX := keep hx
    have HO := keep ho
    have HH := keep hh
    have HM := keep hm
    have HB := keep hb
    have ZH := keep (entKind_ok.below (nthE_held TD.out x) hb)
    have ZS := keep (SM.out x)
    have OL : Hid (out.length = pre.length) := by
      have := congrArg List.length hm
      rwa [List.length_map, List.length_map] at this
    have hol : out.length ≤ 4096 := by have := OL.out; omega
    obtain ⟨z, hz⟩ : ∃ z, nthE ds x = z := ⟨_, rfl⟩
    have HZ := keep hz
    rw [hz] at hg ZH ZS ⊢
    have CP : Hid (∀ w', Below W.heap.size W w' → _) := fun w' hb' => tcopied_any z w' (by have := ZS.out.1; omega) (by have := ZS.out.2; omega) (entKind_ok.below ZH.out hb')
    have bd : Hid (Below W.heap.size W W.drew) := (Below.refl _ _).drew
    have c8 : W.drew.cell? ⟨w.heap.size, 0, none⟩ = some v := below_cell bd.out hx.cell
    have e0 : W.drew.cell? ⟨g, 0, none⟩ = some (.slice z.kp z.e.key.length z.kc) := below_cell bd.out (cell_of_row _ _ _ _ _ _ hg)
    have e1 : W.drew.cell? ⟨g, 1, none⟩ = some (.int .i64 z.e.seq) := below_cell bd.out (cell_of_row _ _ _ _ _ _ hg)
    have e2 : W.drew.cell? ⟨g, 2, none⟩ = some (.bool z.e.gone) := below_cell bd.out (cell_of_row _ _ _ _ _ _ hg)
    have e3 : W.drew.cell? ⟨g, 3, none⟩ = some (.slice z.vp z.e.val.length z.vc) := below_cell bd.out (cell_of_row _ _ _ _ _ _ hg)
    have hwW : w.heap.size ≤ W.heap.size := hb.size
    unfold ev at CP ⊢
    clear hx ho hh hm hb hg hz hrec hll
    gi_wp2_with fail
    refine wpIn_region_any (by kernel_rfl) ?_
    try (change wpAnyIn _ _ _ _ _ _ _ _ _ (World.drew _))
    refine wpAnyIn_ready (rs := [0, 1]) (by kernel_rfl) (by simp) ?_
    refine AllReadyIn.cons rfl (fun K hK => ?_) (AllReadyIn.cons rfl (fun K hK => ?_) AllReadyIn.nil)
    · go_simp
      first | (refine hK _ _ ?_; clear hK K) | skip
      refine wpAnyIn_ready (rs := [1]) (by kernel_rfl) (by simp) ?_
      refine AllReadyIn.cons rfl (fun K hK => ?_) AllReadyIn.nil
      go_simp
      first | (refine hK _ _ ?_; clear hK K) | skip
      refine wpAnyIn_ready (rs := [2]) (by kernel_rfl) (by simp) ?_
      refine AllReadyIn.cons rfl (fun K hK => ?_) AllReadyIn.nil
      go_simp
      refine ⟨trivial, ?_⟩
      refine (CallsIn.inRound l (callsIn_wide.2 (CP.out _ bd.out))).mono ?_
      rintro e w5 ⟨y, rfl, hye, hyo, hb5⟩
      have HYE := keep hye
      have HYO := keep hyo
      have B5 := keep (bd.out.trans (hb5.mono bd.out.size))
      have c8b : w5.cell? ⟨w.heap.size, 0, none⟩ = some v := below_cell hb5 c8
      clear hye hyo hb5
      obtain ⟨ykp, ykc, yvp, yvc, ⟨ykey, yseq, ygone, yval⟩⟩ := y
      try simp only
      gi_wp2_with fail
      first | (refine hK _ _ ?_; clear hK K) | skip
      refine wpAnyIn_ready (rs := [3]) (by kernel_rfl) (by simp) ?_
      refine AllReadyIn.cons rfl (fun K hK => ?_) AllReadyIn.nil
      have c8c : (w5.alloc (.cells #[.slice ykp ykey.length ykc, .int .i64 yseq, .bool ygone, .slice yvp yval.length yvc] 37)).cell? ⟨w.heap.size, 0, none⟩ = some v := below_cell ((Below.refl _ _).alloc (Nat.le_refl _) _) c8b
      go_simp
      first | (refine hK _ _ ?_; clear hK K) | skip
      refine wpAnyIn_ready (rs := [4]) (by kernel_rfl) (by simp) ?_
      refine AllReadyIn.cons rfl (fun K hK => ?_) AllReadyIn.nil
      have B6 := keep (B5.out.alloc B5.out.size (.cells #[.slice ykp ykey.length ykc, .int .i64 yseq, .bool ygone, .slice yvp yval.length yvc] 37))
      have R6 := keep (own_block HO.out (fun g' hg' => B6.out.block g' (own_size HO.out hg')))
      have rc6 := keep (rec_cells (k := entKind) w5 37 (⟨ykp, ykc, yvp, yvc, ⟨ykey, yseq, ygone, yval⟩⟩ : EV))
      have Y6 : Hid (OwnE w.heap.size (w5.alloc (.cells #[.slice ykp ykey.length ykc, .int .i64 yseq, .bool ygone, .slice yvp yval.length yvc] 37)) ⟨ykp, ykc, yvp, yvc, ⟨ykey, yseq, ygone, yval⟩⟩) := (HYO.out.base (show w.heap.size ≤ W.drew.heap.size from hwW)).tag5 (fun g' cur hc => Below.heap_alloc _ _ _ (Array.getElem?_eq_some_iff.1 hc).1)
      refine stepIn_append rfl _ _ 22 37 rfl w.heap.size i0 _ Tryz.underlying22 hi0 hz0 hz1 hz2 rfl v out.length out rfl R6.out _ 1 (⟨ykp, ykc, yvp, yvc, ⟨ykey, yseq, ygone, yval⟩⟩ : EV) rfl rc6.out (by unfold maxLen; omega) (by omega) (Nat.le_trans hwW B6.out.size) ?_
      intro v7 w7 ho7 hg7
      obtain ⟨g7, k7, rfl⟩ := own_form ho7
      have N7 := keep (AllI.next HX.out HO.out HH.out HM.out HB.out (Nat.le_refl _) B6.out Y6.out (show _ = (nthE ds x).e from by rw [HZ.out]; exact HYE.out) ho7 hg7)
      have c9 := N7.out.1.cell
      have f9 := N7.out.1.frozen
      clear ho7 hg7
      refine hK _ _ ?_
      clear hK K
      refine wpAnyIn_ready (rs := [5]) (by kernel_rfl) (by simp) ?_
      refine AllReadyIn.cons rfl (fun K hK => ?_) AllReadyIn.nil
      go_simp
      first | (refine hK _ _ ?_; clear hK K) | skip
      refine wpAnyIn_done (by kernel_rfl) ?_ _
      exact ⟨N7.out.2.1.from _, N7.out.2.2.1, N7.out.2.2.2⟩
    · go_simp
      first | (refine hK _ _ ?_; clear hK K) | skip
      refine wpAnyIn_ready (rs := [0, 2]) (by kernel_rfl) (by simp) ?_
      refine AllReadyIn.cons rfl (fun K hK => ?_) (AllReadyIn.cons rfl (fun K hK => ?_) AllReadyIn.nil)
      · go_simp
        first | (refine hK _ _ ?_; clear hK K) | skip
        refine wpAnyIn_ready (rs := [2]) (by kernel_rfl) (by simp) ?_
        refine AllReadyIn.cons rfl (fun K hK => ?_) AllReadyIn.nil
        go_simp
        refine ⟨trivial, ?_⟩
        refine (CallsIn.inRound l (callsIn_wide.2 (CP.out _ bd.out))).mono ?_
        rintro e w5 ⟨y, rfl, hye, hyo, hb5⟩
        have HYE := keep hye
        have HYO := keep hyo
        have B5 := keep (bd.out.trans (hb5.mono bd.out.size))
        have c8b : w5.cell? ⟨w.heap.size, 0, none⟩ = some v := below_cell hb5 c8
        clear hye hyo hb5
        obtain ⟨ykp, ykc, yvp, yvc, ⟨ykey, yseq, ygone, yval⟩⟩ := y
        try simp only
        gi_wp2_with fail
        first | (refine hK _ _ ?_; clear hK K) | skip
        refine wpAnyIn_ready (rs := [3]) (by kernel_rfl) (by simp) ?_
        refine AllReadyIn.cons rfl (fun K hK => ?_) AllReadyIn.nil
        have c8c : (w5.alloc (.cells #[.slice ykp ykey.length ykc, .int .i64 yseq, .bool ygone, .slice yvp yval.length yvc] 37)).cell? ⟨w.heap.size, 0, none⟩ = some v := below_cell ((Below.refl _ _).alloc (Nat.le_refl _) _) c8b
        go_simp
        first | (refine hK _ _ ?_; clear hK K) | skip
        refine wpAnyIn_ready (rs := [4]) (by kernel_rfl) (by simp) ?_
        refine AllReadyIn.cons rfl (fun K hK => ?_) AllReadyIn.nil
        have B6 := keep (B5.out.alloc B5.out.size (.cells #[.slice ykp ykey.length ykc, .int .i64 yseq, .bool ygone, .slice yvp yval.length yvc] 37))
        have R6 := keep (own_block HO.out (fun g' hg' => B6.out.block g' (own_size HO.out hg')))
        have rc6 := keep (rec_cells (k := entKind) w5 37 (⟨ykp, ykc, yvp, yvc, ⟨ykey, yseq, ygone, yval⟩⟩ : EV))
        have Y6 : Hid (OwnE w.heap.size (w5.alloc (.cells #[.slice ykp ykey.length ykc, .int .i64 yseq, .bool ygone, .slice yvp yval.length yvc] 37)) ⟨ykp, ykc, yvp, yvc, ⟨ykey, yseq, ygone, yval⟩⟩) := (HYO.out.base (show w.heap.size ≤ W.drew.heap.size from hwW)).tag5 (fun g' cur hc => Below.heap_alloc _ _ _ (Array.getElem?_eq_some_iff.1 hc).1)
        refine stepIn_append rfl _ _ 22 37 rfl w.heap.size i0 _ Tryz.underlying22 hi0 hz0 hz1 hz2 rfl v out.length out rfl R6.out _ 1 (⟨ykp, ykc, yvp, yvc, ⟨ykey, yseq, ygone, yval⟩⟩ : EV) rfl rc6.out (by unfold maxLen; omega) (by omega) (Nat.le_trans hwW B6.out.size) ?_
        intro v7 w7 ho7 hg7
        obtain ⟨g7, k7, rfl⟩ := own_form ho7
        have N7 := keep (AllI.next HX.out HO.out HH.out HM.out HB.out (Nat.le_refl _) B6.out Y6.out (show _ = (nthE ds x).e from by rw [HZ.out]; exact HYE.out) ho7 hg7)
        have c9 := N7.out.1.cell
        have f9 := N7.out.1.frozen
        clear ho7 hg7
        refine hK _ _ ?_
        clear hK K
        refine wpAnyIn_ready (rs := [5]) (by kernel_rfl) (by simp) ?_
        refine AllReadyIn.cons rfl (fun K hK => ?_) AllReadyIn.nil
        go_simp
        first | (refine hK _ _ ?_; clear hK K) | skip
        refine wpAnyIn_done (by kernel_rfl) ?_ _
        exact ⟨N7.out.2.1.from _, N7.out.2.2.1, N7.out.2.2.2⟩
      · go_simp
        refine ⟨trivial, ?_⟩
        refine (CallsIn.inRound l (callsIn_wide.2 (CP.out _ bd.out))).mono ?_
        rintro e w5 ⟨y, rfl, hye, hyo, hb5⟩
        have HYE := keep hye
        have HYO := keep hyo
        have B5 := keep (bd.out.trans (hb5.mono bd.out.size))
        have c8b : w5.cell? ⟨w.heap.size, 0, none⟩ = some v := below_cell hb5 c8
        clear hye hyo hb5
        obtain ⟨ykp, ykc, yvp, yvc, ⟨ykey, yseq, ygone, yval⟩⟩ := y
        try simp only
        gi_wp2_with fail
        first | (refine hK _ _ ?_; clear hK K) | skip
        refine wpAnyIn_ready (rs := [0, 3]) (by kernel_rfl) (by simp) ?_
        refine AllReadyIn.cons rfl (fun K hK => ?_) (AllReadyIn.cons rfl (fun K hK => ?_) AllReadyIn.nil)
        · go_simp
          first | (refine hK _ _ ?_; clear hK K) | skip
          refine wpAnyIn_ready (rs := [3]) (by kernel_rfl) (by simp) ?_
          refine AllReadyIn.cons rfl (fun K hK => ?_) AllReadyIn.nil
          have c8c : (w5.alloc (.cells #[.slice ykp ykey.length ykc, .int .i64 yseq, .bool ygone, .slice yvp yval.length yvc] 37)).cell? ⟨w.heap.size, 0, none⟩ = some v := below_cell ((Below.refl _ _).alloc (Nat.le_refl _) _) c8b
          go_simp
          first | (refine hK _ _ ?_; clear hK K) | skip
          refine wpAnyIn_ready (rs := [4]) (by kernel_rfl) (by simp) ?_
          refine AllReadyIn.cons rfl (fun K hK => ?_) AllReadyIn.nil
          have B6 := keep (B5.out.alloc B5.out.size (.cells #[.slice ykp ykey.length ykc, .int .i64 yseq, .bool ygone, .slice yvp yval.length yvc] 37))
          have R6 := keep (own_block HO.out (fun g' hg' => B6.out.block g' (own_size HO.out hg')))
          have rc6 := keep (rec_cells (k := entKind) w5 37 (⟨ykp, ykc, yvp, yvc, ⟨ykey, yseq, ygone, yval⟩⟩ : EV))
          have Y6 : Hid (OwnE w.heap.size (w5.alloc (.cells #[.slice ykp ykey.length ykc, .int .i64 yseq, .bool ygone, .slice yvp yval.length yvc] 37)) ⟨ykp, ykc, yvp, yvc, ⟨ykey, yseq, ygone, yval⟩⟩) := (HYO.out.base (show w.heap.size ≤ W.drew.heap.size from hwW)).tag5 (fun g' cur hc => Below.heap_alloc _ _ _ (Array.getElem?_eq_some_iff.1 hc).1)
          refine stepIn_append rfl _ _ 22 37 rfl w.heap.size i0 _ Tryz.underlying22 hi0 hz0 hz1 hz2 rfl v out.length out rfl R6.out _ 1 (⟨ykp, ykc, yvp, yvc, ⟨ykey, yseq, ygone, yval⟩⟩ : EV) rfl rc6.out (by unfold maxLen; omega) (by omega) (Nat.le_trans hwW B6.out.size) ?_
          intro v7 w7 ho7 hg7
          obtain ⟨g7, k7, rfl⟩ := own_form ho7
          have N7 := keep (AllI.next HX.out HO.out HH.out HM.out HB.out (Nat.le_refl _) B6.out Y6.out (show _ = (nthE ds x).e from by rw [HZ.out]; exact HYE.out) ho7 hg7)
          have c9 := N7.out.1.cell
          have f9 := N7.out.1.frozen
          clear ho7 hg7
          refine hK _ _ ?_
          clear hK K
          refine wpAnyIn_ready (rs := [5]) (by kernel_rfl) (by simp) ?_
          refine AllReadyIn.cons rfl (fun K hK => ?_) AllReadyIn.nil
          go_simp
          first | (refine hK _ _ ?_; clear hK K) | skip
          refine wpAnyIn_done (by kernel_rfl) ?_ _
          exact ⟨N7.out.2.1.from _, N7.out.2.2.1, N7.out.2.2.2⟩
        · have c8c : (w5.alloc (.cells #[.slice ykp ykey.length ykc, .int .i64 yseq, .bool ygone, .slice yvp yval.length yvc] 37)).cell? ⟨w.heap.size, 0, none⟩ = some v := below_cell ((Below.refl _ _).alloc (Nat.le_refl _) _) c8b
          go_simp
          first | (refine hK _ _ ?_; clear hK K) | skip
          refine wpAnyIn_ready (rs := [0]) (by kernel_rfl) (by simp) ?_
          refine AllReadyIn.cons rfl (fun K hK => ?_) AllReadyIn.nil
          go_simp
          first | (refine hK _ _ ?_; clear hK K) | skip
          refine wpAnyIn_ready (rs := [4]) (by kernel_rfl) (by simp) ?_
          refine AllReadyIn.cons rfl (fun K hK => ?_) AllReadyIn.nil
          have B6 := keep (B5.out.alloc B5.out.size (.cells #[.slice ykp ykey.length ykc, .int .i64 yseq, .bool ygone, .slice yvp yval.length yvc] 37))
          have R6 := keep (own_block HO.out (fun g' hg' => B6.out.block g' (own_size HO.out hg')))
          have rc6 := keep (rec_cells (k := entKind) w5 37 (⟨ykp, ykc, yvp, yvc, ⟨ykey, yseq, ygone, yval⟩⟩ : EV))
          have Y6 : Hid (OwnE w.heap.size (w5.alloc (.cells #[.slice ykp ykey.length ykc, .int .i64 yseq, .bool ygone, .slice yvp yval.length yvc] 37)) ⟨ykp, ykc, yvp, yvc, ⟨ykey, yseq, ygone, yval⟩⟩) := (HYO.out.base (show w.heap.size ≤ W.drew.heap.size from hwW)).tag5 (fun g' cur hc => Below.heap_alloc _ _ _ (Array.getElem?_eq_some_iff.1 hc).1)
          refine stepIn_append rfl _ _ 22 37 rfl w.heap.size i0 _ Tryz.underlying22 hi0 hz0 hz1 hz2 rfl v out.length out rfl R6.out _ 1 (⟨ykp, ykc, yvp, yvc, ⟨ykey, yseq, ygone, yval⟩⟩ : EV) rfl rc6.out (by unfold maxLen; omega) (by omega) (Nat.le_trans hwW B6.out.size) ?_
          intro v7 w7 ho7 hg7
          obtain ⟨g7, k7, rfl⟩ := own_form ho7
          have N7 := keep (AllI.next HX.out HO.out HH.out HM.out HB.out (Nat.le_refl _) B6.out Y6.out (show _ = (nthE ds x).e from by rw [HZ.out]; exact HYE.out) ho7 hg7)
          have c9 := N7.out.1.cell
          have f9 := N7.out.1.frozen
          clear ho7 hg7
          refine hK _ _ ?_
          clear hK K
          refine wpAnyIn_ready (rs := [5]) (by kernel_rfl) (by simp) ?_
          refine AllReadyIn.cons rfl (fun K hK => ?_) AllReadyIn.nil
          go_simp
          first | (refine hK _ _ ?_; clear hK K) | skip
          refine wpAnyIn_done (by kernel_rfl) ?_ _
          exact ⟨N7.out.2.1.from _, N7.out.2.2.1, N7.out.2.2.2⟩
  case done =>
    rintro D ys W hD rfl ⟨v, out, hx, ho, hh, hm, hb⟩ hK
    have hc := hx.cell
    have HO := keep ho
    have HH := keep hh
    have HM := keep hm
    have HB := keep hb
    have HK := keep hK
    clear ho hh hm hb hK hx
    gi_wp2
    refine leaves_marks (B := w.heap.size) [D] _ ⟨by simp, fun x hx => ?_, fun x hx => ?_⟩ (fun W' hs => ⟨v, ?_, _, rfl, out, ?_, ?_, HB.out.trans (hs.below HB.out.size)⟩)
    · rw [List.mem_singleton.1 hx]; exact Nat.le_trans B9.out.size hD
    · rw [List.mem_singleton.1 hx]; exact HK.out
    · simp [results, Tryz.f17, go_sem]
    · exact ⟨hs.own HO.out, fun y hy => ⟨hs.own (HH.out y hy).1, hs.own (HH.out y hy).2⟩⟩
    · rw [HM.out, nthE_all]
  case stop =>
    rintro D c pre W hD _ h hK
    exact h.elim
end Go.Proofs.YtjblicgbdecbcaaGreat
