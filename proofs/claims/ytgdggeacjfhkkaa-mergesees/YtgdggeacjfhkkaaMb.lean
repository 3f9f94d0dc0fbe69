/- The walk of Split. -/
import Derived.Test.YtgdggeacjfhkkaaM6
import Derived.Deep.AppendLies
import Derived.Deep.RegionWith
import Derived.BigRegion
import Derived.Test.YtgdggeacjfhkkaaXn
namespace Go.Proofs.Ytgdggeacjfhkkaa.Mg
open Go.Proofs.Ytgdggeacjfhkkaa
open Go.Proofs.Ytgdggeacjfhkkaa.Sk (Ent)
theorem pack_snoc (most : Int) (pre : List (List Ent)) (z g : List Ent) : pack most (pre ++ [z]) g = if most < (z.length : Int) + (g.length : Int) then pre ++ [z] ++ [g] else pre ++ [z ++ g] := by
  unfold pack
  rw [List.getLast?_concat]
  simp only [List.dropLast_concat]
theorem pack_flat (most : Int) (out : List (List Ent)) (g : List Ent) : (pack most out g).flatten = out.flatten ++ g := by
  rcases List.eq_nil_or_concat out with rfl | ⟨pre, z, h⟩
  · simp [pack]
  · rw [List.concat_eq_append] at h
    subst h
    rw [pack_snoc]
    split <;> simp
theorem packs_flat (most : Int) : ∀ (gs : List (List Ent)) (out : List (List Ent)), (gs.foldl (pack most) out).flatten = out.flatten ++ gs.flatten
  | [], out => by simp
  | g :: gs, out => by rw [List.foldl_cons, packs_flat most gs, pack_flat, List.flatten_cons, List.append_assoc]
end Go.Proofs.Ytgdggeacjfhkkaa.Mg
namespace Go.Proofs.Ytgdggeacjfhkkaa
open Go.RowKit
open Sk (Ent)

theorem own_sliceM {w : World} {B t k n : Nat} {v : Value} {xs : List Value} (h : w.ownsRow B t k v n xs) : ∃ ao c, v = .slice ao n c := by
  rcases h.2 with ⟨rfl, rfl⟩ | ⟨g, cap, cur, rfl, _⟩
  · exact ⟨_, _, rfl⟩
  · exact ⟨_, _, rfl⟩
theorem step_append_rows {P : Program} {w : World} {ops : Array Oper} {o : Oper} {a : Act} {K : Act → World → Prop} {Q : Exit → Act → World → Prop} {E : Prop} (hgd : o.guard = none) (s x : Operand) (t : TypeId)
    (ho : o.op = .call { callee := .builtin .append, args := #[s, x], argTypes := #[t, t] })
    (base : Nat) (e : TypeId) (i : TypeInfo) (z : Value) (size bytes : Nat) (ht : P.underlying t = some (.slice e)) (hi : P.info? e = some i) (hz : i.zero = some z)
    (hsize : i.size = size) (hby : i.bytes = bytes) (hzs : z.cells.size = size) (hsz : 0 < size)
    (v : Value) (n : Nat) (xs : List Value) (hs : a.eval s = v) (hown : w.ownsRow base e size v n xs)
    (ao : Option Addr) (m c : Nat) (news : List Value) (hx : a.eval x = .slice ao m c) (hnil : ao = none → m = 0 ∧ c = 0) (hl : news.length = m * size) (hnews : ∀ ad, ao = some ad → ∀ j u, news[j]? = some u → w.cell? (ad.add j) = some u) (h1 : ∀ u ∈ news, u.oneCell' = true)
    (h63 : n + m ≤ maxLen) (hbytes : (n + m) * bytes ≤ 140737488355328) (hbase : base ≤ w.heap.size)
    (h : ∀ a' cap w', w'.ownsRow base e size (.slice a' (n + m) cap) (n + m) (xs ++ news) → w.grownBy w' v.ownBlock → K (a.put o.dst (.slice a' (n + m) cap)) w') :
    if Region.wanted o (yielded ops a.tmps) = true then Oper.wp P o a w K Q else E := by
  have hw : Region.wanted o (yielded ops a.tmps) = true := by simp [Region.wanted, hgd]
  rw [if_pos hw]
  cases ao with
  | some ad =>
    obtain ⟨v', w', hr, h2, h3, _, _⟩ := run_append_own_at (P := P) w base t o.type e i z size bytes ht hi hz hsize hby hzs hsz v n xs hown ad m c news hl (hnews ad rfl) h1 h63 hbytes hbase
    obtain ⟨a', c', rfl⟩ := own_sliceM h2
    unfold Oper.wp execOp
    simp only [ho, resolve, invoke, builtin, Sem.run_bind, Sem.run_pure, Result.andThen_ok, List.map_toArray, List.map_cons, List.map_nil, hs, hx, hr]
    exact h a' c' w' h2 h3
  | none =>
    obtain ⟨rfl, rfl⟩ := hnil rfl
    obtain rfl : news = [] := List.length_eq_zero_iff.1 (by rw [hl, Nat.zero_mul])
    have hrun := run_append_owned_none (P := P) (w := w) base t o.type e i size ht hi v n xs hown
    obtain ⟨a', c', rfl⟩ := own_sliceM hown
    unfold Oper.wp
    simp [execOp, ho, resolve, invoke, builtin, hs, hx, hrun, Result.andThen]
    exact h a' c' w (by rw [List.append_nil]; exact hown) (World.grownBy.refl _ _)
theorem rv_list (ls : List LV) : rv listKind ls = ls.map (fun x => Value.slice x.p x.es.length x.c) := by
  induction ls with
  | nil => rfl
  | cons a l ih => show [Value.slice a.p a.es.length a.c] ++ rv listKind l = _; rw [ih]; rfl
/-- A cell of an own row of one-cell elements, set. -/
theorem own_set1 {w : World} {B t n cap g i : Nat} {xs : List Value} (h : w.ownsRow B t 1 (.slice (some ⟨g, 0, none⟩) n cap) n xs) (v : Value) :
    (w.setCell ⟨g, i, none⟩ v).ownsRow B t 1 (.slice (some ⟨g, 0, none⟩) n cap) n (xs.set i v) := by
  rcases h.2 with ⟨h0, _⟩ | ⟨g', cap', cur, hv, hb, hg, h1, h2, h3, h4⟩
  · cases h0
  · cases hv
    have hx := h.1
    refine ⟨by rw [List.length_set]; exact hx, .inr ⟨g, cap, cur.setIfInBounds i v, rfl, hb, set_row hg i v, h1, h2, by simpa using h3, ?_⟩⟩
    rw [Array.toList_setIfInBounds, List.take_set, h4]
/-- A cell of a block of another type turned: what entries own stays. -/
theorem own_tagged {w : World} {B t k n : Nat} {v : Value} {xs : List Value} (h : w.ownsRow B t k v n xs) {g i T : Nat} {u : Value} {cs : Array Value} {fr : Nat × Nat} (hg : w.heap[g]? = some (.cells cs T fr)) (hT : T ≠ t) : (w.setCell ⟨g, i, none⟩ u).ownsRow B t k v n xs :=
  own_block h (fun j hj => set_far _ _ (fun e => by
    obtain ⟨cur, hcur⟩ := own_tag h hj
    rw [e, hg] at hcur
    cases hcur
    exact hT rfl))
theorem Ents.tagged {B : Nat} {w : World} {v : Value} {ys : List EV} (h : Ents B w v ys) {g i : Nat} {u : Value} {cs : Array Value} {fr : Nat × Nat} (hg : w.heap[g]? = some (.cells cs 24 fr)) : Ents B (w.setCell ⟨g, i, none⟩ u) v ys :=
  ⟨own_tagged h.row hg (by decide), fun y hy => ⟨own_tagged (h.each y hy).1 hg (by decide), own_tagged (h.each y hy).2 hg (by decide)⟩⟩
/-- A row of entries that is none of the rows that grow. -/
theorem Ents.beside {B B' S : Nat} {w w' : World} {v u : Value} {ys : List EV} {n : Nat} {xs : List Value} (h : Ents B w v ys) (hS : ∀ g, v.ownBlock = some g → g < S) (hu : w.ownsRow S 36 4 u n xs) (hg : w.grownBy w' u.ownBlock) (hB : B ≤ B') (hB' : B' = S) : Ents B w' v ys :=
  ⟨own_block h.row (fun g hgg => hg.block g (own_size h.row hgg) (fun e => by have h1 := hS g hgg; have h2 := (hu.lt g e.symm).1; omega)), fun y hy => (h.each y hy).grown (own_base hu (fun g hgg => by have := (hu.lt g hgg).1; omega)) hg⟩
/-- How far Split has come. -/
structure SplI (w : World) (most : Int) (ls : List LV) (k : Nat) (os : List LV) (v : Value) (S : Nat) (wr : World) : Prop where
  num : os.length ≤ k
  below : Below w.heap.size w wr
  base : w.heap.size ≤ S
  top : S ≤ wr.heap.size
  row : wr.ownsRow w.heap.size 24 1 v os.length (rv listKind os)
  each : ∀ y ∈ os.dropLast, Ents w.heap.size wr (.slice y.p y.es.length y.c) y.es ∧ ∀ g, (Value.slice y.p y.es.length y.c).ownBlock = some g → g < S
  last : ∀ y, os.getLast? = some y → Ents S wr (.slice y.p y.es.length y.c) y.es
  val : lents os = (lents (ls.take k)).foldl (Mg.pack most) []
theorem SplI.all {w : World} {most : Int} {ls : List LV} {k : Nat} {os : List LV} {v : Value} {S : Nat} {wr : World} (h : SplI w most ls k os v S wr) : ∀ y ∈ os, Ents w.heap.size wr (.slice y.p y.es.length y.c) y.es := fun y hy => by
  rcases List.eq_nil_or_concat os with h0 | ⟨pre, z, h0⟩
  · rw [h0] at hy; cases hy
  · rw [List.concat_eq_append] at h0
    have h1 := h.each
    have h2 := h.last
    rw [h0] at h1 h2 hy
    rw [List.dropLast_concat] at h1
    rw [List.getLast?_concat] at h2
    rcases List.mem_append.1 hy with hy | hy
    · exact (h1 y hy).1
    · rw [List.mem_singleton.1 hy]; exact (h2 z rfl).base h.base
/-- The last piece stands; entries are to be added to it. -/
structure SplT (w : World) (pre : List LV) (z : LV) (v : Value) (S : Nat) (wr : World) : Prop where
  below : Below w.heap.size w wr
  base : w.heap.size ≤ S
  top : S ≤ wr.heap.size
  row : wr.ownsRow w.heap.size 24 1 v (pre.length + 1) (rv listKind (pre ++ [z]))
  each : ∀ y ∈ pre, Ents w.heap.size wr (.slice y.p y.es.length y.c) y.es ∧ ∀ g, (Value.slice y.p y.es.length y.c).ownBlock = some g → g < S
  last : Ents S wr (.slice z.p z.es.length z.c) z.es
theorem SplI.fresh {w : World} {most : Int} {ls : List LV} {k : Nat} {os : List LV} {v : Value} {S : Nat} {wr : World} (h : SplI w most ls k os v S wr) {o : Obj} {w5 : World} {v5 : Value} (ho : w5.ownsRow w.heap.size 24 1 v5 (os.length + 1) (rv listKind (os ++ [⟨none, 0, []⟩]))) (hg : (wr.alloc o).grownBy w5 v.ownBlock) : SplT w os ⟨none, 0, []⟩ v5 wr.heap.size w5 := by
  have ha : Below wr.heap.size wr (wr.alloc o) := (Below.refl _ _).alloc (Nat.le_refl _) _
  have r1 := own_block (w' := wr.alloc o) h.row (fun j hj => ha.block j (own_size h.row hj))
  refine ⟨(h.below.trans (ha.mono h.below.size)).grown hg (Nat.le_trans h.below.size ha.size) (fun j hj => (r1.lt j hj).1), h.below.size, Nat.le_trans ha.size hg.size, ho, fun y hy => ?_, Ents.nil _ _⟩
  have e1 := (h.all y hy).below ha
  have far : ∀ {t kk n : Nat} {u : Value} {xs : List Value}, (wr.alloc o).ownsRow w.heap.size t kk u n xs → t ≠ 24 → w5.ownsRow w.heap.size t kk u n xs := fun {t kk n u xs} hu ht => own_block hu (fun j hj => hg.block j (own_size hu hj) (fun e => by
    obtain ⟨c1, h1⟩ := own_tag hu hj
    obtain ⟨c2, h2⟩ := own_tag r1 e.symm
    rw [h1] at h2
    cases h2
    exact ht rfl))
  refine ⟨⟨far e1.row (by decide), fun x hx => ⟨far (e1.each x hx).1 (by decide), far (e1.each x hx).2 (by decide)⟩⟩, fun g hgg => own_size (h.all y hy).row hgg⟩
theorem SplI.tops {w : World} {most : Int} {ls : List LV} {k : Nat} {pre : List LV} {z : LV} {v : Value} {S : Nat} {wr : World} (h : SplI w most ls k (pre ++ [z]) v S wr) : SplT w pre z v S wr := by
  have h1 := h.each
  have h2 := h.last
  have h3 := h.row
  rw [List.dropLast_concat] at h1
  rw [List.getLast?_concat] at h2
  rw [List.length_append] at h3
  exact ⟨h.below, h.base, h.top, h3, h1, h2 z rfl⟩
theorem SplT.next {w : World} {pre : List LV} {z : LV} {g cap : Nat} {S : Nat} {w5 w6 w7 : World} {a7 : Option Addr} {c7 : Nat} {us : List EV} (h : SplT w pre z (.slice (some ⟨g, 0, none⟩) (pre.length + 1) cap) S w5) (hb6 : Below w5.heap.size w5 w6) (hu : ∀ y ∈ us, OwnE S w6 y)
    (ho : w7.ownsRow S 36 4 (.slice a7 (z.es.length + us.length) c7) (z.es.length + us.length) (rv entKind z.es ++ rv entKind us)) (hg : w6.grownBy w7 (Value.slice z.p z.es.length z.c).ownBlock) (most : Int) (ls : List LV) (k : Nat) (hn : pre.length ≤ k) (hval : lents pre ++ [z.es.map (·.e) ++ us.map (·.e)] = (lents (ls.take (k + 1))).foldl (Mg.pack most) []) :
    SplI w most ls (k + 1) (pre ++ [⟨a7, c7, z.es ++ us⟩]) (.slice (some ⟨g, 0, none⟩) (pre.length + 1) cap) S (w7.setCell ⟨g, pre.length, none⟩ (.slice a7 (z.es.length + us.length) c7)) := by
  have r6 := own_block (w' := w6) h.row (fun j hj => hb6.block j (own_size h.row hj))
  have l6 := h.last.below hb6
  have r7 : w7.ownsRow w.heap.size 24 1 (.slice (some ⟨g, 0, none⟩) (pre.length + 1) cap) (pre.length + 1) (rv listKind (pre ++ [z])) := own_block r6 (fun j hj => hg.block j (own_size r6 hj) (fun e => by
    obtain ⟨c1, h1⟩ := own_tag r6 hj
    obtain ⟨c2, h2⟩ := own_tag l6.row e.symm
    rw [h1] at h2
    cases h2))
  obtain ⟨cs, hcs⟩ := own_tag r7 rfl
  have B7 : Below w.heap.size w w7 := (h.below.trans (hb6.mono h.below.size)).grown hg (Nat.le_trans h.below.size hb6.size) (fun j hj => Nat.le_trans h.base (l6.row.lt j hj).1)
  have gB : w.heap.size ≤ g := (r7.lt g rfl).1
  have E7 : Ents S w7 (.slice a7 (z.es.length + us.length) c7) (z.es ++ us) := l6.grow hu (by rw [rv_append]; exact ho) hg
  refine ⟨by rw [List.length_append]; exact Nat.succ_le_succ hn, B7.setCell gB _, h.base, ?_, ?_, ?_, ?_, ?_⟩
  · simp only [World.setCell, Array.size_modify]
    exact Nat.le_trans h.top (Nat.le_trans hb6.size hg.size)
  · have := own_set1 (i := pre.length) r7 (.slice a7 (z.es.length + us.length) c7)
    rw [List.length_append]
    have e1 : (rv listKind (pre ++ [z])).set pre.length (.slice a7 (z.es.length + us.length) c7) = rv listKind (pre ++ [⟨a7, c7, z.es ++ us⟩]) := by
      rw [rv_list, rv_list, List.map_append, List.map_append]
      rw [List.set_append_right _ _ (by simp)]
      simp
    rw [e1] at this
    exact this
  · rw [List.dropLast_concat]
    intro y hy
    obtain ⟨h1, h2⟩ := h.each y hy
    exact ⟨((h1.below hb6).beside h2 l6.row hg h.base rfl).tagged hcs, h2⟩
  · intro y hy
    rw [List.getLast?_concat] at hy
    cases hy
    have := E7.tagged (i := pre.length) (u := .slice a7 (z.es.length + us.length) c7) hcs
    show Ents S _ (.slice a7 (z.es ++ us).length c7) (z.es ++ us)
    rw [List.length_append]
    exact this
  · rw [← hval]
    simp [lents]
theorem SplT.next' {w : World} {pre : List LV} {z : LV} {g cap PL Z NL : Nat} {S : Nat} {w5 w6 w7 : World} {a7 : Option Addr} {c7 : Nat} {us : List EV} (hP : pre.length = PL) (hZ : z.es.length = Z) (hN : NL = PL + 1) (h : SplT w pre z (.slice (some ⟨g, 0, none⟩) NL cap) S w5) (hb6 : Below w5.heap.size w5 w6) (hu : ∀ y ∈ us, OwnE S w6 y)
    (ho : w7.ownsRow S 36 4 (.slice a7 (Z + us.length) c7) (Z + us.length) (rv entKind z.es ++ rv entKind us)) (hg : w6.grownBy w7 (Value.slice z.p Z z.c).ownBlock) (most : Int) (ls : List LV) (k : Nat) (hn : PL ≤ k) (hval : lents pre ++ [z.es.map (·.e) ++ us.map (·.e)] = (lents (ls.take (k + 1))).foldl (Mg.pack most) []) :
    SplI w most ls (k + 1) (pre ++ [⟨a7, c7, z.es ++ us⟩]) (.slice (some ⟨g, 0, none⟩) NL cap) S (w7.setCell ⟨g, PL, none⟩ (.slice a7 (Z + us.length) c7)) := by
  subst hP hZ hN
  exact h.next hb6 hu ho hg most ls k hn hval
set_option maxHeartbeats 4000000 in
set_option maxRecDepth 100000 in
theorem split_any (ao : Option Addr) (n c : Nat) (es : List EV) (most : Int) (w : World) (hs : RSrc entKind w ao n c es) (hN : n ≤ 1000000) (hc : c ≤ maxLen) (hsm : ∀ y ∈ es, y.e.key.length ≤ 140737488355328 ∧ y.e.val.length ≤ 140737488355328) :
    Calls Try.prog 17 #[.slice ao n c, .int .i64 most] w fun e w' => ∃ v os, e = .returned v ∧ w'.ownsRow w.heap.size 24 1 v os.length (rv listKind os) ∧ (∀ y ∈ os, Ents w.heap.size w' (.slice y.p y.es.length y.c) y.es) ∧ lents os = Mg.split (es.map (·.e)) most ∧ os.length ≤ n ∧ Below w.heap.size w w' := by
  obtain ⟨i0, hi0, hz0, hz1, hz2⟩ := info_parts3 infoE
  obtain ⟨j0, hj0, hy0, hy1, hy2⟩ := info_parts3 infoL
  have HLEN := keep hs.len
  have SM := keep hsm
  have HC := keep hc
  have PA := keep (parts_any 28 Mg.oneKey oneKey_any enters_oneKey ao n c es w hs hN hc)
  clear hs hsm hc
  go_enter Try.func17, Try.ntmps17
  go_wp2_with fail
  refine PA.out.mono ?_
  rintro e w2 ⟨v, ls, rfl, ho, hh, hval, hln, hb⟩
  have B2 := keep hb
  obtain ⟨lp, lc, rfl, hsr, _⟩ := RSrc.own listKind_ok ho (fun y hy => listKind_ok.below (hh y hy).1 hb)
  have SR := keep hsr
  have VL := keep hval
  obtain ⟨N, hNl⟩ : ∃ N, ls.length = N := ⟨_, rfl⟩
  rw [hNl] at SR hln ⊢
  have HN := keep hNl
  have HLN := keep hln
  clear ho hh hval hb hsr PA hNl
  go_wp2
  go_loopw [5, 6, 12] (fun v i6 i wr => ∃ (k : Nat) (os : List LV) (S : Nat), k ≤ N ∧ i = .int .i64 (k : Int) ∧ i6 = .int .i64 ((os.length : Int) - 1) ∧ Hid (SplI w2 most ls k os v S wr)) (fun _ _ i _ => N - (intOf i).toNat)
  case atStart => exact ⟨0, [], w2.heap.size, Nat.zero_le _, rfl, rfl, Nat.le_refl _, Below.refl _ _, Nat.le_refl _, Nat.le_refl _, World.ownsRow_nil _ _ _ _, (fun y h => by cases h), (fun y h => by cases h), by simp [lents]⟩
  case round =>
    obtain ⟨k, os, S, hk, rfl, rfl, hI⟩ := hrel
    have HB := keep hI.out.below
    have hon := hI.out.num
    by_cases hkn : k < N
    · obtain ⟨lb, loff, rfl, _, _⟩ := SR.out.form listKind_ok (by omega)
      obtain ⟨y, hy⟩ : ∃ y, ls[k]? = some y := ⟨ls[k]'(by rw [HN.out]; exact hkn), List.getElem?_eq_getElem _⟩
      have hym := List.mem_of_getElem? hy
      have p0 := list_cell (SR.out.below listKind_ok HB.out) hy
      have YS : Hid (∀ w', Below w2.heap.size w2 w' → RSrc entKind w' y.p y.es.length y.c y.es) := fun w' hb => ((SR.out.below listKind_ok hb).held y hym)
      have YM : Hid (∀ z ∈ y.es, z.e.key.length ≤ 140737488355328 ∧ z.e.val.length ≤ 140737488355328) := fun z hz => SM.out z (part_mem VL.out hym hz)
      have hyn : y.es.length ≤ 1000000 := by
        have h1 : y.es.length ≤ (Mg.parts (fun x y : EV => Mg.oneKey x.e y.e) es).flatten.length := by
          rw [← VL.out]
          exact (List.sublist_flatten_of_mem (List.mem_map.2 ⟨y, hym, rfl⟩)).length_le
        rw [Mg.parts_flat, HLEN.out] at h1
        omega
      have FK : Hid ((lents (ls.take (k + 1))).foldl (Mg.pack most) [] = Mg.pack most (lents os) (y.es.map (·.e))) := by
        show _ = _
        rw [List.take_add_one, hy, hI.out.val]
        simp [lents]
      have OL : Hid (∀ z ∈ os, z.es.length ≤ 1000000) := fun z hz => by
        have h1 : (lents os).flatten.length ≤ es.length := by
          rw [hI.out.val, Mg.packs_flat, List.flatten_nil, List.nil_append]
          have h2 := flat_len (f := id) (fun g => Nat.le_refl _) ls k
          rw [List.map_id, VL.out, Mg.parts_flat] at h2
          exact h2
        have h3 : z.es.length ≤ (lents os).flatten.length := by
          have := (List.sublist_flatten_of_mem (show z.es.map (·.e) ∈ lents os from List.mem_map.2 ⟨z, hz, rfl⟩)).length_le
          rwa [List.length_map] at this
        have := HLEN.out
        omega
      obtain ⟨yp, yc, yes⟩ := y
      simp only at p0 YS YM FK hyn
      have CP : Hid (∀ w', Below w2.heap.size w2 w' → Calls Try.prog 25 #[.slice yp yes.length yc] w' fun e w'' => ∃ za zc us, e = .returned (.slice za us.length zc) ∧ us.length = yes.length ∧ Ents w'.heap.size w'' (.slice za us.length zc) us ∧ us.map (·.e) = yes.map (·.e) ∧ Below w'.heap.size w' w'') := fun w' hb => by
        refine (copies_any yp yes.length yc yes w' (YS.out w' hb) hyn YM.out).mono ?_
        rintro e w'' ⟨v, us, rfl, h1, h2, h3⟩
        obtain ⟨za, zc, rfl, _, _⟩ := h1.src
        exact ⟨za, zc, us, rfl, (by have := congrArg List.length h2; simpa using this), h1, h2, h3⟩
      obtain ⟨M, hM⟩ : ∃ M, yes.length = M := ⟨_, rfl⟩
      have HM := keep hM
      rw [hM] at p0 CP hyn
      have ll : (k : Int) < (N : Int) := by omega
      have l0 : (0 : Int) ≤ (k : Int) := by omega
      have hNN := HLN.out
      clear hy hym hM
      -- a new piece
      have NEW : Hid (os = [] ∨ (∃ pre z, os = pre ++ [z] ∧ most < (z.es.length : Int) + (M : Int)) → lents os ++ [([] : List EV).map (·.e) ++ yes.map (·.e)] = Mg.pack most (lents os) (yes.map (·.e))) := fun h => by
        rcases h with rfl | ⟨pre, z, rfl, h⟩
        · simp [lents, Mg.pack]
        · have e1 : lents (pre ++ [z]) = lents pre ++ [z.es.map (·.e)] := by simp [lents]
          rw [e1, Mg.pack_snoc, if_pos (by rw [List.length_map, List.length_map, HM.out]; exact h)]
          simp
      rcases List.eq_nil_or_concat os with h0 | ⟨pre0, z0, h0⟩
      · skip
        have OLEN : Hid (os.length = 0) := by rw [h0]; rfl
        have e6 : (os.length : Int) - 1 = -1 := by rw [h0]; rfl
        rw [e6]
        have PK := keep (NEW.out (.inl h0))
        clear e6 h0
        have rc := keep (rec_cells (k := listKind) wr 24 ⟨none, 0, []⟩)
        have O3 := keep (hI.out.row.alloc (.cells #[.slice none 0 0] 24))
        go_wp2_with (at_builtin; go_loud (refine wpList_append_rec listKind_ok rfl _ _ 22 24 rfl w2.heap.size j0 _ 24 Try.underlying22 hj0 hy0 hy1 hy2 rfl u5 os.length os rfl O3.out _ 1 (⟨none, 0, []⟩ : LV) rfl rc.out (by unfold maxLen; omega) (by omega) (Nat.le_trans HB.out.size (by simp)) ?_); intro v5 w5 ho5 hg5; have T0 := hI.out.fresh ho5 hg5; clear ho5 hg5)
        obtain ⟨pre, hpre⟩ : ∃ pre, pre = os := ⟨_, rfl⟩
        have HP : Hid (pre.length = 0) := by show _ = _; rw [hpre]; exact OLEN.out
        have HPK : Hid (0 ≤ k) := by have := hon; have h2 := OLEN.out; show 0 ≤ k; omega
        rw [← hpre] at T0 PK FK
        obtain ⟨zp, zc, zes, S5, ez⟩ : ∃ (zp : Option Addr) (zc : Nat) (zes : List EV) (S5 : Nat), zp = none ∧ zc = 0 ∧ zes = [] ∧ S5 = wr.heap.size := ⟨_, _, _, _, rfl, rfl, rfl, rfl⟩
        obtain ⟨e1, e2, e3, e4⟩ := ez
        rw [← e1, ← e2, ← e3, ← e4] at T0
        rw [← e3] at PK
        have ZN : Hid (zes.length ≤ 1000000) := by rw [e3]; exact Nat.zero_le _
        clear e1 e2 e3 e4 hpre
        have TT := keep T0
        clear T0
        obtain ⟨g5, c5, rfl⟩ : ∃ g cap, v5 = .slice (some ⟨g, 0, none⟩) 1 cap := by
          rcases TT.out.row.2 with ⟨_, h0⟩ | ⟨g, cap, cur, e, _⟩
          · omega
          · exact ⟨g, cap, by rw [e]; simp only [HP.out]⟩
        have TR : Hid (w5.ownsRow w2.heap.size 24 1 (.slice (some ⟨g5, 0, none⟩) 1 c5) 1 (rv listKind (pre ++ [⟨zp, zc, zes⟩]))) := by have := TT.out.row; rw [HP.out] at this; exact this
        have zcell : w5.cell? ⟨g5, 0, none⟩ = some (.slice zp zes.length zc) := by
          have := TR.out.cells rfl 0 (.slice zp zes.length zc) (by rw [rv_list, List.map_append, List.getElem?_append_right (by rw [List.length_map, HP.out]; exact Nat.le_refl _), List.length_map, HP.out, Nat.sub_self]; rfl)
          rwa [Addr.add_mid, Nat.zero_add] at this
        obtain ⟨Z, hZ⟩ : ∃ Z, zes.length = Z := ⟨_, rfl⟩
        rw [hZ] at zcell
        have HZ := keep hZ
        have ZL5 : Hid (Ents S5 w5 (.slice zp Z zc) zes) := by have := TT.out.last; simp only at this; rw [hZ] at this; exact this
        have OF : Hid (∀ w', Below w5.heap.size w5 w' → w'.cell? ⟨g5, 0, none⟩ = some (.slice zp Z zc) ∧ w'.frozen? ⟨g5, 0, none⟩ = false) := fun w' hb => by
          refine ⟨below_cell hb zcell, ?_⟩
          obtain ⟨cur, hcur⟩ := own_tag TR.out rfl
          have := (hb.block g5 (own_size TR.out rfl)).trans hcur
          simp [World.frozen?, this]
        have OFF : Hid (∀ w6, Below w5.heap.size w5 w6 → ∀ w7, w6.grownBy w7 (Value.slice zp Z zc).ownBlock → w7.frozen? ⟨g5, 0, none⟩ = false ∧ w7.cell? ⟨g5, 0, none⟩ = some (.slice zp Z zc)) := fun w6 hb w7 hg => by
          have r6 := own_block (w' := w6) TR.out (fun j hj => hb.block j (own_size TR.out hj))
          have l6 := ZL5.out.below hb
          have hk : w7.heap[g5]? = w6.heap[g5]? := hg.block g5 (own_size r6 rfl) (fun e => by
            obtain ⟨c1, h1⟩ := own_tag r6 (g := g5) rfl
            obtain ⟨c2, h2⟩ := own_tag l6.row e.symm
            rw [h1] at h2
            cases h2)
          refine ⟨?_, ?_⟩
          · rw [World.frozen?_of_block (w := w6) hk]; exact (OF.out w6 hb).2
          · rw [World.cell?_of_block (w := w6) hk]; exact (OF.out w6 hb).1
        have CP5 : Hid (∀ w', Below w5.heap.size w5 w' → _) := fun w' hb => CP.out w' (TT.out.below.trans (hb.mono TT.out.below.size))
        have zn : Z ≤ 1000000 := by rw [← hZ]; exact ZN.out
        have gl : 0 < (1 : Int) := by omega
        have gl0 : (0 : Int) ≤ 0 := by omega
        clear hZ
        go_wp2_with fail
        refine wp_region_parted (fun w' => w'.cell? ⟨g5, 0, none⟩ = some (.slice zp Z zc)) 10 _ (by kernel_rfl) rfl rfl rfl (by kernel_rfl) (by kernel_rfl) (by exact zcell) (fun hHeld => ?_)
        simp only [List.setIfInBounds_toArray, List.set_cons_succ, List.set_cons_zero, mute]
        refine takeH (i := 0) 35 (v := .slice (some ⟨g5, 0, none⟩) 1 c5) rfl rfl (by kernel_rfl) (by kernel_rfl) (by kernel_rfl) (fun _ _ _ h => h) (Or.inl ⟨by rfl, ?_⟩) (by assumption) ?_
        · intro w' hSw'
          go_simp
        simp only [Act.put, List.setIfInBounds_toArray, List.set_cons_zero, List.set_cons_succ]
        refine takeH (i := 1) 36 (v := .int .i64 0) rfl rfl (by kernel_rfl) (by kernel_rfl) (by kernel_rfl) (fun _ _ _ h => h) (Or.inl ⟨by rfl, ?_⟩) (by assumption) ?_
        · intro w' hSw'
          go_simp
        simp only [Act.put, List.setIfInBounds_toArray, List.set_cons_zero, List.set_cons_succ]
        refine takeH (i := 2) 37 (v := .slice (some ⟨g5, 0, none⟩) 1 c5) rfl rfl (by kernel_rfl) (by kernel_rfl) (by kernel_rfl) (fun _ _ _ h => h) (Or.inl ⟨by rfl, ?_⟩) (by assumption) ?_
        · intro w' hSw'
          go_simp
        simp only [Act.put, List.setIfInBounds_toArray, List.set_cons_zero, List.set_cons_succ]
        refine takeH (i := 3) 38 (v := .int .i64 0) rfl rfl (by kernel_rfl) (by kernel_rfl) (by kernel_rfl) (fun _ _ _ h => h) (Or.inl ⟨by rfl, ?_⟩) (by assumption) ?_
        · intro w' hSw'
          go_simp
        simp only [Act.put, List.setIfInBounds_toArray, List.set_cons_zero, List.set_cons_succ]
        refine takeH (i := 4) 39 (v := .pointer (some ⟨g5, 0, none⟩)) rfl rfl (by kernel_rfl) (by kernel_rfl) (by kernel_rfl) (fun _ _ _ h => h) (Or.inl ⟨by rfl, ?_⟩) (by assumption) ?_
        · intro w' hSw'
          go_simp
        simp only [Act.put, List.setIfInBounds_toArray, List.set_cons_zero, List.set_cons_succ]
        refine takeH (i := 5) 40 (v := .slice zp Z zc) rfl rfl (by kernel_rfl) (by kernel_rfl) (by kernel_rfl) (fun _ _ _ h => h) (Or.inl ⟨by rfl, ?_⟩) (by assumption) ?_
        · intro w' hSw'
          go_simp
        simp only [Act.put, List.setIfInBounds_toArray, List.set_cons_zero, List.set_cons_succ]
        refine takeH (i := 6) 41 (v := .slice yp M yc) rfl rfl (by kernel_rfl) (by kernel_rfl) (by kernel_rfl) (fun _ _ _ h => h) (Or.inl ⟨by rfl, ?_⟩) (by assumption) ?_
        · intro w' hSw'
          go_simp
        simp only [Act.put, List.setIfInBounds_toArray, List.set_cons_zero, List.set_cons_succ]
        refine wpAnyH_ready (rs := [7]) (by kernel_rfl) (by simp) ?_
        refine AllReadyH.cons rfl (fun K hK => ?_) AllReadyH.nil
        go_simp
        refine (CP5.out w5.drew (Below.refl _ _).drew).mono ?_
        rintro e w6 ⟨za, ac, us, rfl, hul, he6, hu6, hb6⟩
        have UL := keep hul
        have b6 : Hid (Below w5.heap.size w5 w6) := ((Below.refl _ _).drew).trans (hb6.mono (Nat.le_refl _))
        have U6 := keep hu6
        have Z6 := keep (ZL5.out.below b6.out)
        have ZR6 : Hid (w6.ownsRow S5 36 4 (.slice zp Z zc) Z (rv entKind zes)) := by have := Z6.out.row; rwa [HZ.out] at this
        have US6 : Hid (∀ y ∈ us, OwnE S5 w6 y) := fun y hy => (he6.each y hy).base TT.out.top
        obtain ⟨xa, xc, ex, hxs, _⟩ := he6.src
        have XS : Hid (RSrc entKind w6 za us.length ac us) := by cases ex; exact hxs
        clear hul he6 hu6 hb6 ex hxs
        have s6 := (OF.out w6 b6.out).1
        go_wp2_with fail
        refine hK.out _ _ s6 (fun hA1 => ?_)
        clear hK K
        refine wpAnyH_ready (rs := [8]) (by kernel_rfl) (by simp) ?_
        refine AllReadyH.cons rfl (fun K hK => ?_) AllReadyH.nil
        refine step_append_rows rfl _ _ 24 rfl S5 36 i0 _ 4 64 Try.underlying24 hi0 hz0 hz1 hz2 rfl (by decide) (.slice zp Z zc) Z (rv entKind zes) rfl ZR6.out za us.length ac (rv entKind us) rfl XS.out.nil (by rw [rv_length entKind_ok]; rfl) XS.out.cells (rv_one entKind_ok us) (by rw [UL.out]; unfold maxLen; omega) (by rw [UL.out]; omega) (Nat.le_trans TT.out.top b6.out.size) ?_
        intro a7 c7 w7 ho7 hg7
        have HO7 := keep ho7
        have HG7 := keep hg7
        obtain ⟨of7, oc7⟩ := OFF.out w6 b6.out w7 hg7
        clear ho7 hg7
        refine hK.out _ _ oc7 (fun hA2 => ?_)
        clear hK K
        refine takeH (i := 9) 44 (v := .pointer (some ⟨g5, 0, none⟩)) rfl rfl (by kernel_rfl) (by kernel_rfl) (by kernel_rfl) (fun _ _ _ h => h) (Or.inl ⟨by rfl, ?_⟩) (by assumption) ?_
        · intro w' hSw'
          go_simp
        simp only [Act.put, List.setIfInBounds_toArray]
        refine wpAnyH_ready (rs := [10]) (by kernel_rfl) (by simp) ?_
        refine AllReadyH.cons rfl (fun K hK => ?_) AllReadyH.nil
        go_simp
        refine hK.out _ _ oc7 (fun hA3 => ?_)
        clear hK K
        refine wpAnyH_done (by kernel_rfl) ?_ _
        have FN : Hid (SplI w2 most ls (k + 1) (pre ++ [⟨a7, c7, zes ++ us⟩]) (.slice (some ⟨g5, 0, none⟩) 1 c5) S5 (w7.setCell ⟨g5, 0, none⟩ (.slice a7 (Z + us.length) c7))) := by
          exact SplT.next' HP.out HZ.out rfl TT.out b6.out US6.out HO7.out HG7.out most ls k HPK.out (by rw [FK.out, U6.out]; exact PK.out)
        have I6 : Hid (Value.int .i64 0 = .int .i64 (((pre ++ [(⟨a7, c7, zes ++ us⟩ : LV)]).length : Int) - 1)) := by
          show _ = _
          have := HP.out
          congr 1
          simp only [List.length_append, List.length_singleton]
          omega
        unfold LastQ
        go_simp
        go_wp2
        go_roundw
        case rel => exact ⟨k + 1, pre ++ [⟨a7, c7, zes ++ us⟩], S5, by omega, by go_num, by first | exact I6.out | simpa using I6.out, FN⟩
        case measure => simp [intOf]; omega
      · skip
        rw [List.concat_eq_append] at h0
        obtain ⟨P, hP⟩ : ∃ P, pre0.length = P := ⟨_, rfl⟩
        have OLEN : Hid (os.length = P + 1) := by show _ = _; rw [h0, List.length_append, hP]; rfl
        have e6 : (os.length : Int) - 1 = (P : Int) := by have := OLEN.out; omega
        rw [e6]
        obtain ⟨z0p, z0c, z0es⟩ := z0
        obtain ⟨g0, cc0, hv0⟩ : ∃ g cap, u5 = .slice (some ⟨g, 0, none⟩) (P + 1) cap := by
          rcases hI.out.row.2 with ⟨_, h1⟩ | ⟨g, cap, cur, e, _⟩
          · have := OLEN.out; omega
          · exact ⟨g, cap, by rw [e, OLEN.out]⟩
        have lc0 : wr.cell? ⟨g0, P, none⟩ = some (.slice z0p z0es.length z0c) := by
          have h1 := hI.out.row
          rw [hv0, OLEN.out, h0] at h1
          have := h1.cells rfl P (.slice z0p z0es.length z0c) (by rw [rv_list, List.map_append, List.getElem?_append_right (by rw [List.length_map, hP]; exact Nat.le_refl _), List.length_map, hP, Nat.sub_self]; rfl)
          rwa [Addr.add_mid, Nat.zero_add] at this
        have ZN0 : Hid (z0es.length ≤ 1000000) := OL.out ⟨z0p, z0c, z0es⟩ (by rw [h0]; exact List.mem_append_right _ (List.mem_singleton.2 rfl))
        have H0 := keep h0
        have HPP := keep hP
        obtain ⟨Z0, hZ0⟩ : ∃ Z, z0es.length = Z := ⟨_, rfl⟩
        rw [hZ0] at lc0
        have HZ0 := keep hZ0
        have zn0 : Z0 ≤ 1000000 := by rw [← hZ0]; exact ZN0.out
        clear e6 h0 hP hZ0
        have pp0 : ¬ ((P : Int) < 0) := by omega
        have pb : P ≤ 1000000 := by have := OLEN.out; omega
        have pbi : (P : Int) ≤ 1000000 := by omega
        have pp1 : (0 : Int) ≤ (P : Int) := by omega
        have pp2 : (P : Int) < (P : Int) + 1 := by omega
        have wr0 : IntKind.i64.wrap ((Z0 : Int) + (M : Int)) = (Z0 : Int) + (M : Int) := wrap_small _ (by omega) (by omega)
        by_cases hm : most < (Z0 : Int) + (M : Int)
        · skip
          have PK := keep (NEW.out (.inr ⟨pre0, ⟨z0p, z0c, z0es⟩, H0.out, by simp only; rw [HZ0.out]; exact hm⟩))
          rw [hv0] at hI ⊢
          have rc := keep (rec_cells (k := listKind) wr 24 ⟨none, 0, []⟩)
          have O3 := keep (hI.out.row.alloc (.cells #[.slice none 0 0] 24))
          go_wp2_with (at_builtin; go_loud (refine wpList_append_rec listKind_ok rfl _ _ 22 24 rfl w2.heap.size j0 _ 24 Try.underlying22 hj0 hy0 hy1 hy2 rfl (.slice (some ⟨g0, 0, none⟩) (P + 1) cc0) os.length os rfl O3.out _ 1 (⟨none, 0, []⟩ : LV) rfl rc.out (by unfold maxLen; omega) (by omega) (Nat.le_trans HB.out.size (by simp)) ?_); intro v5 w5 ho5 hg5; have T0 := hI.out.fresh ho5 hg5; clear ho5 hg5)
          obtain ⟨pre, hpre⟩ : ∃ pre, pre = os := ⟨_, rfl⟩
          have HP : Hid (pre.length = (P + 1)) := by show _ = _; rw [hpre]; exact OLEN.out
          have HPK : Hid ((P + 1) ≤ k) := by have := hon; have h2 := OLEN.out; show (P + 1) ≤ k; omega
          rw [← hpre] at T0 PK FK
          obtain ⟨zp, zc, zes, S5, ez⟩ : ∃ (zp : Option Addr) (zc : Nat) (zes : List EV) (S5 : Nat), zp = none ∧ zc = 0 ∧ zes = [] ∧ S5 = wr.heap.size := ⟨_, _, _, _, rfl, rfl, rfl, rfl⟩
          obtain ⟨e1, e2, e3, e4⟩ := ez
          rw [← e1, ← e2, ← e3, ← e4] at T0
          rw [← e3] at PK
          have ZN : Hid (zes.length ≤ 1000000) := by rw [e3]; exact Nat.zero_le _
          clear e1 e2 e3 e4 hpre
          have TT := keep T0
          clear T0
          obtain ⟨g5, c5, rfl⟩ : ∃ g cap, v5 = .slice (some ⟨g, 0, none⟩) (P + 2) cap := by
            rcases TT.out.row.2 with ⟨_, h0⟩ | ⟨g, cap, cur, e, _⟩
            · omega
            · exact ⟨g, cap, by rw [e]; simp only [HP.out]⟩
          have TR : Hid (w5.ownsRow w2.heap.size 24 1 (.slice (some ⟨g5, 0, none⟩) (P + 2) c5) (P + 2) (rv listKind (pre ++ [⟨zp, zc, zes⟩]))) := by have := TT.out.row; rw [HP.out] at this; exact this
          have zcell : w5.cell? ⟨g5, (P + 1), none⟩ = some (.slice zp zes.length zc) := by
            have := TR.out.cells rfl (P + 1) (.slice zp zes.length zc) (by rw [rv_list, List.map_append, List.getElem?_append_right (by rw [List.length_map, HP.out]; exact Nat.le_refl _), List.length_map, HP.out, Nat.sub_self]; rfl)
            rwa [Addr.add_mid, Nat.zero_add] at this
          obtain ⟨Z, hZ⟩ : ∃ Z, zes.length = Z := ⟨_, rfl⟩
          rw [hZ] at zcell
          have HZ := keep hZ
          have ZL5 : Hid (Ents S5 w5 (.slice zp Z zc) zes) := by have := TT.out.last; simp only at this; rw [hZ] at this; exact this
          have OF : Hid (∀ w', Below w5.heap.size w5 w' → w'.cell? ⟨g5, (P + 1), none⟩ = some (.slice zp Z zc) ∧ w'.frozen? ⟨g5, (P + 1), none⟩ = false) := fun w' hb => by
            refine ⟨below_cell hb zcell, ?_⟩
            obtain ⟨cur, hcur⟩ := own_tag TR.out rfl
            have := (hb.block g5 (own_size TR.out rfl)).trans hcur
            simp [World.frozen?, this]
          have OFF : Hid (∀ w6, Below w5.heap.size w5 w6 → ∀ w7, w6.grownBy w7 (Value.slice zp Z zc).ownBlock → w7.frozen? ⟨g5, (P + 1), none⟩ = false ∧ w7.cell? ⟨g5, (P + 1), none⟩ = some (.slice zp Z zc)) := fun w6 hb w7 hg => by
            have r6 := own_block (w' := w6) TR.out (fun j hj => hb.block j (own_size TR.out hj))
            have l6 := ZL5.out.below hb
            have hk : w7.heap[g5]? = w6.heap[g5]? := hg.block g5 (own_size r6 rfl) (fun e => by
              obtain ⟨c1, h1⟩ := own_tag r6 (g := g5) rfl
              obtain ⟨c2, h2⟩ := own_tag l6.row e.symm
              rw [h1] at h2
              cases h2)
            refine ⟨?_, ?_⟩
            · rw [World.frozen?_of_block (w := w6) hk]; exact (OF.out w6 hb).2
            · rw [World.cell?_of_block (w := w6) hk]; exact (OF.out w6 hb).1
          have CP5 : Hid (∀ w', Below w5.heap.size w5 w' → _) := fun w' hb => CP.out w' (TT.out.below.trans (hb.mono TT.out.below.size))
          have zn : Z ≤ 1000000 := by rw [← hZ]; exact ZN.out
          have gl : ((P : Int) + 1) < ((P + 2) : Int) := by omega
          have gl0 : (0 : Int) ≤ ((P : Int) + 1) := by omega
          clear hZ
          go_wp2_with fail
          refine wp_region_parted (fun w' => w'.cell? ⟨g5, (P + 1), none⟩ = some (.slice zp Z zc)) 10 _ (by kernel_rfl) rfl rfl rfl (by kernel_rfl) (by kernel_rfl) (by exact zcell) (fun hHeld => ?_)
          simp only [List.setIfInBounds_toArray, List.set_cons_succ, List.set_cons_zero, mute]
          refine takeH (i := 0) 35 (v := .slice (some ⟨g5, 0, none⟩) (P + 2) c5) rfl rfl (by kernel_rfl) (by kernel_rfl) (by kernel_rfl) (fun _ _ _ h => h) (Or.inl ⟨by rfl, ?_⟩) (by assumption) ?_
          · intro w' hSw'
            go_simp
          simp only [Act.put, List.setIfInBounds_toArray, List.set_cons_zero, List.set_cons_succ]
          refine takeH (i := 1) 36 (v := .int .i64 ((P : Int) + 1)) rfl rfl (by kernel_rfl) (by kernel_rfl) (by kernel_rfl) (fun _ _ _ h => h) (Or.inl ⟨by rfl, ?_⟩) (by assumption) ?_
          · intro w' hSw'
            go_simp
          simp only [Act.put, List.setIfInBounds_toArray, List.set_cons_zero, List.set_cons_succ]
          refine takeH (i := 2) 37 (v := .slice (some ⟨g5, 0, none⟩) (P + 2) c5) rfl rfl (by kernel_rfl) (by kernel_rfl) (by kernel_rfl) (fun _ _ _ h => h) (Or.inl ⟨by rfl, ?_⟩) (by assumption) ?_
          · intro w' hSw'
            go_simp
          simp only [Act.put, List.setIfInBounds_toArray, List.set_cons_zero, List.set_cons_succ]
          refine takeH (i := 3) 38 (v := .int .i64 ((P : Int) + 1)) rfl rfl (by kernel_rfl) (by kernel_rfl) (by kernel_rfl) (fun _ _ _ h => h) (Or.inl ⟨by rfl, ?_⟩) (by assumption) ?_
          · intro w' hSw'
            go_simp
          simp only [Act.put, List.setIfInBounds_toArray, List.set_cons_zero, List.set_cons_succ]
          refine takeH (i := 4) 39 (v := .pointer (some ⟨g5, (P + 1), none⟩)) rfl rfl (by kernel_rfl) (by kernel_rfl) (by kernel_rfl) (fun _ _ _ h => h) (Or.inl ⟨by rfl, ?_⟩) (by assumption) ?_
          · intro w' hSw'
            go_simp
          simp only [Act.put, List.setIfInBounds_toArray, List.set_cons_zero, List.set_cons_succ]
          refine takeH (i := 5) 40 (v := .slice zp Z zc) rfl rfl (by kernel_rfl) (by kernel_rfl) (by kernel_rfl) (fun _ _ _ h => h) (Or.inl ⟨by rfl, ?_⟩) (by assumption) ?_
          · intro w' hSw'
            go_simp
          simp only [Act.put, List.setIfInBounds_toArray, List.set_cons_zero, List.set_cons_succ]
          refine takeH (i := 6) 41 (v := .slice yp M yc) rfl rfl (by kernel_rfl) (by kernel_rfl) (by kernel_rfl) (fun _ _ _ h => h) (Or.inl ⟨by rfl, ?_⟩) (by assumption) ?_
          · intro w' hSw'
            go_simp
          simp only [Act.put, List.setIfInBounds_toArray, List.set_cons_zero, List.set_cons_succ]
          refine wpAnyH_ready (rs := [7]) (by kernel_rfl) (by simp) ?_
          refine AllReadyH.cons rfl (fun K hK => ?_) AllReadyH.nil
          go_simp
          refine (CP5.out w5.drew (Below.refl _ _).drew).mono ?_
          rintro e w6 ⟨za, ac, us, rfl, hul, he6, hu6, hb6⟩
          have UL := keep hul
          have b6 : Hid (Below w5.heap.size w5 w6) := ((Below.refl _ _).drew).trans (hb6.mono (Nat.le_refl _))
          have U6 := keep hu6
          have Z6 := keep (ZL5.out.below b6.out)
          have ZR6 : Hid (w6.ownsRow S5 36 4 (.slice zp Z zc) Z (rv entKind zes)) := by have := Z6.out.row; rwa [HZ.out] at this
          have US6 : Hid (∀ y ∈ us, OwnE S5 w6 y) := fun y hy => (he6.each y hy).base TT.out.top
          obtain ⟨xa, xc, ex, hxs, _⟩ := he6.src
          have XS : Hid (RSrc entKind w6 za us.length ac us) := by cases ex; exact hxs
          clear hul he6 hu6 hb6 ex hxs
          have s6 := (OF.out w6 b6.out).1
          go_wp2_with fail
          refine hK.out _ _ s6 (fun hA1 => ?_)
          clear hK K
          refine wpAnyH_ready (rs := [8]) (by kernel_rfl) (by simp) ?_
          refine AllReadyH.cons rfl (fun K hK => ?_) AllReadyH.nil
          refine step_append_rows rfl _ _ 24 rfl S5 36 i0 _ 4 64 Try.underlying24 hi0 hz0 hz1 hz2 rfl (by decide) (.slice zp Z zc) Z (rv entKind zes) rfl ZR6.out za us.length ac (rv entKind us) rfl XS.out.nil (by rw [rv_length entKind_ok]; rfl) XS.out.cells (rv_one entKind_ok us) (by rw [UL.out]; unfold maxLen; omega) (by rw [UL.out]; omega) (Nat.le_trans TT.out.top b6.out.size) ?_
          intro a7 c7 w7 ho7 hg7
          have HO7 := keep ho7
          have HG7 := keep hg7
          obtain ⟨of7, oc7⟩ := OFF.out w6 b6.out w7 hg7
          clear ho7 hg7
          refine hK.out _ _ oc7 (fun hA2 => ?_)
          clear hK K
          refine takeH (i := 9) 44 (v := .pointer (some ⟨g5, (P + 1), none⟩)) rfl rfl (by kernel_rfl) (by kernel_rfl) (by kernel_rfl) (fun _ _ _ h => h) (Or.inl ⟨by rfl, ?_⟩) (by assumption) ?_
          · intro w' hSw'
            go_simp
          simp only [Act.put, List.setIfInBounds_toArray]
          refine wpAnyH_ready (rs := [10]) (by kernel_rfl) (by simp) ?_
          refine AllReadyH.cons rfl (fun K hK => ?_) AllReadyH.nil
          go_simp
          refine hK.out _ _ oc7 (fun hA3 => ?_)
          clear hK K
          refine wpAnyH_done (by kernel_rfl) ?_ _
          have FN : Hid (SplI w2 most ls (k + 1) (pre ++ [⟨a7, c7, zes ++ us⟩]) (.slice (some ⟨g5, 0, none⟩) (P + 2) c5) S5 (w7.setCell ⟨g5, (P + 1), none⟩ (.slice a7 (Z + us.length) c7))) := by
            exact SplT.next' HP.out HZ.out rfl TT.out b6.out US6.out HO7.out HG7.out most ls k HPK.out (by rw [FK.out, U6.out]; exact PK.out)
          have I6 : Hid (Value.int .i64 ((P : Int) + 1) = .int .i64 (((pre ++ [(⟨a7, c7, zes ++ us⟩ : LV)]).length : Int) - 1)) := by
            show _ = _
            have := HP.out
            congr 1
            simp only [List.length_append, List.length_singleton]
            omega
          unfold LastQ
          go_simp
          go_wp2
          go_roundw
          case rel => exact ⟨k + 1, pre ++ [⟨a7, c7, zes ++ us⟩], S5, by omega, by go_num, by first | exact I6.out | simpa using I6.out, FN⟩
          case measure => simp [intOf]; omega
        · skip
          rw [hv0] at hI ⊢
          have hI2 := hI.out
          rw [H0.out] at hI2
          have TT := keep hI2.tops
          clear hI2
          have PK : Hid (lents pre0 ++ [z0es.map (·.e) ++ yes.map (·.e)] = Mg.pack most (lents os) (yes.map (·.e))) := by
            have e1 : lents (pre0 ++ [⟨z0p, z0c, z0es⟩]) = lents pre0 ++ [z0es.map (·.e)] := by simp [lents]
            show _ = _
            rw [H0.out, e1, Mg.pack_snoc, if_neg (by rw [List.length_map, List.length_map, HM.out, HZ0.out]; exact hm)]
          have HPK : Hid (P ≤ k) := by have := hon; have h2 := OLEN.out; show P ≤ k; omega
          have TR : Hid (wr.ownsRow w2.heap.size 24 1 (.slice (some ⟨g0, 0, none⟩) (P + 1) cc0) (P + 1) (rv listKind (pre0 ++ [⟨z0p, z0c, z0es⟩]))) := by have := TT.out.row; rw [HPP.out] at this; exact this
          have zcell : wr.cell? ⟨g0, P, none⟩ = some (.slice z0p z0es.length z0c) := by
            have := TR.out.cells rfl P (.slice z0p z0es.length z0c) (by rw [rv_list, List.map_append, List.getElem?_append_right (by rw [List.length_map, HPP.out]; exact Nat.le_refl _), List.length_map, HPP.out, Nat.sub_self]; rfl)
            rwa [Addr.add_mid, Nat.zero_add] at this
          obtain ⟨Z, hZ⟩ : ∃ Z, z0es.length = Z := ⟨_, rfl⟩
          rw [hZ] at zcell
          have HZ := keep hZ
          have ZL5 : Hid (Ents S wr (.slice z0p Z z0c) z0es) := by have := TT.out.last; simp only at this; rw [hZ] at this; exact this
          have OF : Hid (∀ w', Below wr.heap.size wr w' → w'.cell? ⟨g0, P, none⟩ = some (.slice z0p Z z0c) ∧ w'.frozen? ⟨g0, P, none⟩ = false) := fun w' hb => by
            refine ⟨below_cell hb zcell, ?_⟩
            obtain ⟨cur, hcur⟩ := own_tag TR.out rfl
            have := (hb.block g0 (own_size TR.out rfl)).trans hcur
            simp [World.frozen?, this]
          have OFF : Hid (∀ w6, Below wr.heap.size wr w6 → ∀ w7, w6.grownBy w7 (Value.slice z0p Z z0c).ownBlock → w7.frozen? ⟨g0, P, none⟩ = false ∧ w7.cell? ⟨g0, P, none⟩ = some (.slice z0p Z z0c)) := fun w6 hb w7 hg => by
            have r6 := own_block (w' := w6) TR.out (fun j hj => hb.block j (own_size TR.out hj))
            have l6 := ZL5.out.below hb
            have hk : w7.heap[g0]? = w6.heap[g0]? := hg.block g0 (own_size r6 rfl) (fun e => by
              obtain ⟨c1, h1⟩ := own_tag r6 (g := g0) rfl
              obtain ⟨c2, h2⟩ := own_tag l6.row e.symm
              rw [h1] at h2
              cases h2)
            refine ⟨?_, ?_⟩
            · rw [World.frozen?_of_block (w := w6) hk]; exact (OF.out w6 hb).2
            · rw [World.cell?_of_block (w := w6) hk]; exact (OF.out w6 hb).1
          have CP5 : Hid (∀ w', Below wr.heap.size wr w' → _) := fun w' hb => CP.out w' (TT.out.below.trans (hb.mono TT.out.below.size))
          have zn : Z ≤ 1000000 := by rw [← hZ]; exact ZN0.out
          have gl : (P : Int) < ((P + 1) : Int) := by omega
          have gl0 : (0 : Int) ≤ (P : Int) := by omega
          clear hZ
          go_wp2_with fail
          refine wp_region_parted (fun w' => w'.cell? ⟨g0, P, none⟩ = some (.slice z0p Z z0c)) 10 _ (by kernel_rfl) rfl rfl rfl (by kernel_rfl) (by kernel_rfl) (by exact zcell) (fun hHeld => ?_)
          simp only [List.setIfInBounds_toArray, List.set_cons_succ, List.set_cons_zero, mute]
          refine takeH (i := 0) 35 (v := .slice (some ⟨g0, 0, none⟩) (P + 1) cc0) rfl rfl (by kernel_rfl) (by kernel_rfl) (by kernel_rfl) (fun _ _ _ h => h) (Or.inl ⟨by rfl, ?_⟩) (by assumption) ?_
          · intro w' hSw'
            go_simp
          simp only [Act.put, List.setIfInBounds_toArray, List.set_cons_zero, List.set_cons_succ]
          refine takeH (i := 1) 36 (v := .int .i64 (P : Int)) rfl rfl (by kernel_rfl) (by kernel_rfl) (by kernel_rfl) (fun _ _ _ h => h) (Or.inl ⟨by rfl, ?_⟩) (by assumption) ?_
          · intro w' hSw'
            go_simp
          simp only [Act.put, List.setIfInBounds_toArray, List.set_cons_zero, List.set_cons_succ]
          refine takeH (i := 2) 37 (v := .slice (some ⟨g0, 0, none⟩) (P + 1) cc0) rfl rfl (by kernel_rfl) (by kernel_rfl) (by kernel_rfl) (fun _ _ _ h => h) (Or.inl ⟨by rfl, ?_⟩) (by assumption) ?_
          · intro w' hSw'
            go_simp
          simp only [Act.put, List.setIfInBounds_toArray, List.set_cons_zero, List.set_cons_succ]
          refine takeH (i := 3) 38 (v := .int .i64 (P : Int)) rfl rfl (by kernel_rfl) (by kernel_rfl) (by kernel_rfl) (fun _ _ _ h => h) (Or.inl ⟨by rfl, ?_⟩) (by assumption) ?_
          · intro w' hSw'
            go_simp
          simp only [Act.put, List.setIfInBounds_toArray, List.set_cons_zero, List.set_cons_succ]
          refine takeH (i := 4) 39 (v := .pointer (some ⟨g0, P, none⟩)) rfl rfl (by kernel_rfl) (by kernel_rfl) (by kernel_rfl) (fun _ _ _ h => h) (Or.inl ⟨by rfl, ?_⟩) (by assumption) ?_
          · intro w' hSw'
            go_simp
          simp only [Act.put, List.setIfInBounds_toArray, List.set_cons_zero, List.set_cons_succ]
          refine takeH (i := 5) 40 (v := .slice z0p Z z0c) rfl rfl (by kernel_rfl) (by kernel_rfl) (by kernel_rfl) (fun _ _ _ h => h) (Or.inl ⟨by rfl, ?_⟩) (by assumption) ?_
          · intro w' hSw'
            go_simp
          simp only [Act.put, List.setIfInBounds_toArray, List.set_cons_zero, List.set_cons_succ]
          refine takeH (i := 6) 41 (v := .slice yp M yc) rfl rfl (by kernel_rfl) (by kernel_rfl) (by kernel_rfl) (fun _ _ _ h => h) (Or.inl ⟨by rfl, ?_⟩) (by assumption) ?_
          · intro w' hSw'
            go_simp
          simp only [Act.put, List.setIfInBounds_toArray, List.set_cons_zero, List.set_cons_succ]
          refine wpAnyH_ready (rs := [7]) (by kernel_rfl) (by simp) ?_
          refine AllReadyH.cons rfl (fun K hK => ?_) AllReadyH.nil
          go_simp
          refine (CP5.out wr.drew (Below.refl _ _).drew).mono ?_
          rintro e w6 ⟨za, ac, us, rfl, hul, he6, hu6, hb6⟩
          have UL := keep hul
          have b6 : Hid (Below wr.heap.size wr w6) := ((Below.refl _ _).drew).trans (hb6.mono (Nat.le_refl _))
          have U6 := keep hu6
          have Z6 := keep (ZL5.out.below b6.out)
          have ZR6 : Hid (w6.ownsRow S 36 4 (.slice z0p Z z0c) Z (rv entKind z0es)) := by have := Z6.out.row; rwa [HZ.out] at this
          have US6 : Hid (∀ y ∈ us, OwnE S w6 y) := fun y hy => (he6.each y hy).base TT.out.top
          obtain ⟨xa, xc, ex, hxs, _⟩ := he6.src
          have XS : Hid (RSrc entKind w6 za us.length ac us) := by cases ex; exact hxs
          clear hul he6 hu6 hb6 ex hxs
          have s6 := (OF.out w6 b6.out).1
          go_wp2_with fail
          refine hK.out _ _ s6 (fun hA1 => ?_)
          clear hK K
          refine wpAnyH_ready (rs := [8]) (by kernel_rfl) (by simp) ?_
          refine AllReadyH.cons rfl (fun K hK => ?_) AllReadyH.nil
          refine step_append_rows rfl _ _ 24 rfl S 36 i0 _ 4 64 Try.underlying24 hi0 hz0 hz1 hz2 rfl (by decide) (.slice z0p Z z0c) Z (rv entKind z0es) rfl ZR6.out za us.length ac (rv entKind us) rfl XS.out.nil (by rw [rv_length entKind_ok]; rfl) XS.out.cells (rv_one entKind_ok us) (by rw [UL.out]; unfold maxLen; omega) (by rw [UL.out]; omega) (Nat.le_trans TT.out.top b6.out.size) ?_
          intro a7 c7 w7 ho7 hg7
          have HO7 := keep ho7
          have HG7 := keep hg7
          obtain ⟨of7, oc7⟩ := OFF.out w6 b6.out w7 hg7
          clear ho7 hg7
          refine hK.out _ _ oc7 (fun hA2 => ?_)
          clear hK K
          refine takeH (i := 9) 44 (v := .pointer (some ⟨g0, P, none⟩)) rfl rfl (by kernel_rfl) (by kernel_rfl) (by kernel_rfl) (fun _ _ _ h => h) (Or.inl ⟨by rfl, ?_⟩) (by assumption) ?_
          · intro w' hSw'
            go_simp
          simp only [Act.put, List.setIfInBounds_toArray]
          refine wpAnyH_ready (rs := [10]) (by kernel_rfl) (by simp) ?_
          refine AllReadyH.cons rfl (fun K hK => ?_) AllReadyH.nil
          go_simp
          refine hK.out _ _ oc7 (fun hA3 => ?_)
          clear hK K
          refine wpAnyH_done (by kernel_rfl) ?_ _
          have FN : Hid (SplI w2 most ls (k + 1) (pre0 ++ [⟨a7, c7, z0es ++ us⟩]) (.slice (some ⟨g0, 0, none⟩) (P + 1) cc0) S (w7.setCell ⟨g0, P, none⟩ (.slice a7 (Z + us.length) c7))) := by
            exact SplT.next' HPP.out HZ.out rfl TT.out b6.out US6.out HO7.out HG7.out most ls k HPK.out (by rw [FK.out, U6.out]; exact PK.out)
          have I6 : Hid (Value.int .i64 (P : Int) = .int .i64 (((pre0 ++ [(⟨a7, c7, z0es ++ us⟩ : LV)]).length : Int) - 1)) := by
            show _ = _
            have := HPP.out
            congr 1
            simp only [List.length_append, List.length_singleton]
            omega
          unfold LastQ
          go_simp
          go_wp2
          go_roundw
          case rel => exact ⟨k + 1, pre0 ++ [⟨a7, c7, z0es ++ us⟩], S, by omega, by go_num, by first | exact I6.out | simpa using I6.out, FN⟩
          case measure => simp [intOf]; omega
    · obtain rfl : k = N := by omega
      go_wp2
      go_ret
      exact ⟨_, os, rfl, own_base hI.out.row (fun g hg => Nat.le_trans B2.out.size (hI.out.row.lt g hg).1), fun y hy => (hI.out.all y hy).base B2.out.size, by rw [hI.out.val, ← HN.out, List.take_length, part_ents VL.out]; rfl, by have := HLN.out; omega, B2.out.trans (HB.out.mono B2.out.size)⟩
end Go.Proofs.Ytgdggeacjfhkkaa
