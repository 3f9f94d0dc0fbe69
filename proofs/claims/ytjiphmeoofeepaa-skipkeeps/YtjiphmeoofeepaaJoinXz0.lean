/- Entries and heights of both lists, pair by pair; both Puts by them; no walk. -/
/- An operation as a value; no walk. -/
/- The arguments of stage 6's statements opened, each byte slice within the form's reach; no walk. -/
/- What is turned of bytes that are no list's own turns nothing of the list; bytes that may be turned; no walk. -/
import Derived.Test.YtjiphmeoofeepaaXi
import Derived.Test.YtjiphmeoofeepaaVm
import Derived.Test.YtjiphmeoofeepaaVp
import Derived.Test.YtjiphmeoofeepaaVk
namespace Go.Proofs.Ytjiphmeoofeepaa
open Go.RowKit
open Sk (Ent)

/-- Entries, and how high they are. -/
def hts (ns : List Nd) : List (Ent × Int) := ns.map fun n => (n.x.e, (n.h : Int))
def rts (ys : List EV) (hs : List Int) : List (Ent × Int) := (ys.map (·.e)).zip hs
theorem hts_fst (ns : List Nd) : (hts ns).map Prod.fst = ents ns := by simp [hts, ents, List.map_map, Function.comp_def]
theorem hts_length (ns : List Nd) : (hts ns).length = ns.length := by simp [hts]
theorem rts_fst {ys : List EV} {hs : List Int} (h : ys.length = hs.length) : (rts ys hs).map Prod.fst = ys.map (·.e) := by
  unfold rts
  rw [List.map_fst_zip (by rw [List.length_map, h]; exact Nat.le_refl _)]
def putP (l : List (Ent × Int)) (e : Ent) (h : Int) : List (Ent × Int) := if putOk (l.map Prod.fst) e h then l.take (Sk.at_ (l.map Prod.fst) e) ++ (e, h) :: l.drop (Sk.at_ (l.map Prod.fst) e) else l
theorem putP_length (l : List (Ent × Int)) (e : Ent) (h : Int) : (putP l e h).length ≤ l.length + 1 := by
  unfold putP
  split
  · simp only [List.length_append, List.length_take, List.length_cons, List.length_drop]; omega
  · omega
theorem putP_low {l : List (Ent × Int)} {e : Ent} {h : Int} (hl : ∀ p ∈ l, p.2 ≤ 12) : ∀ p ∈ putP l e h, p.2 ≤ 12 := by
  unfold putP
  split
  · rename_i ho
    unfold putOk at ho
    simp only [Bool.and_eq_true, decide_eq_true_eq] at ho
    intro p hp
    rcases List.mem_append.1 hp with hp | hp
    · exact hl p (List.mem_of_mem_take hp)
    · rcases List.mem_cons.1 hp with rfl | hp
      · exact ho.1.2.2
      · exact hl p (List.mem_of_mem_drop hp)
  · exact hl
theorem zip_ins (l : List Ent) (hs : List Int) (k : Nat) (e : Ent) (h : Int) (hl : l.length = hs.length) : (l.take k ++ e :: l.drop k).zip (hs.take k ++ h :: hs.drop k) = (l.zip hs).take k ++ (e, h) :: (l.zip hs).drop k := by
  rw [List.zip_append (by rw [List.length_take, List.length_take, hl]), List.zip_cons_cons]
  unfold List.zip
  rw [List.take_zipWith, List.drop_zipWith]
theorem put_pair (B b : Nat) (ns : List Nd) (x : EV) (hgt : Int) (w : World) (hM : LMem B w b ns) (hBw : B ≤ w.heap.size) (hln : ns.length ≤ 1000000) (hx : entKind.held w x) (hk : x.e.key.length ≤ 9223372036854775807) (hv : x.e.val.length ≤ 9223372036854775807) :
    Calls Try.prog 7 #[.pointer (some ⟨b, 0, none⟩), ev x, .int .i64 hgt] w fun e w' => e = .returned (.int .i64 (putN ((hts ns).map Prod.fst) x.e hgt)) ∧ ∃ ns', LMem B w' b ns' ∧ hts ns' = putP (hts ns) x.e hgt ∧ Kept (foot b ns) w w' := by
  rw [hts_fst]
  have bad : ∀ (h : putOk (ents ns) x.e hgt = false) (e : Ending) (w' : World), e = .returned (.int .i64 1) → Below w.heap.size w w' → e = .returned (.int .i64 (putN (ents ns) x.e hgt)) ∧ ∃ ns', LMem B w' b ns' ∧ hts ns' = putP (hts ns) x.e hgt ∧ Kept (foot b ns) w w' := fun h e w' he hb => by
    refine ⟨by rw [he]; unfold putN; rw [h]; rfl, ns, hM.below hb, by unfold putP; rw [hts_fst, h]; rfl, Kept.of_below hb⟩
  cases hm : Sk.may x.e with
  | false =>
    refine (put_bad b x hgt w hk hv (.inl hm)).mono ?_
    rintro e w' ⟨he, hb⟩
    exact bad (by unfold putOk; rw [hm]; rfl) e w' he hb
  | true =>
    by_cases hh : 1 ≤ hgt ∧ hgt ≤ 12
    · obtain ⟨n, hn⟩ : ∃ n : Nat, hgt = (n : Int) := ⟨hgt.toNat, by omega⟩
      subst hn
      have hd : (decide ((1 : Int) ≤ (n : Int)) && decide ((n : Int) ≤ 12)) = true := by simp; omega
      cases ht : Sk.there (ents ns) x.e with
      | true =>
        refine (put_there B b ns x n w hM hx hm (by omega) (by omega) ht).mono ?_
        rintro e w' ⟨he, hb⟩
        exact bad (by unfold putOk; rw [ht]; simp) e w' he hb
      | false =>
        have hok : putOk (ents ns) x.e (n : Int) = true := by unfold putOk; rw [hm, hd, ht]; rfl
        refine (put_new B b ns x n w hM hBw hln hx hm (by omega) (by omega) ht).mono ?_
        rintro e w' ⟨he, m, h1, h2, h3, h4, h5, _⟩
        refine ⟨by rw [he]; unfold putN; rw [hok]; rfl, _, h4, ?_, h5⟩
        unfold putP
        rw [hts_fst, hok, if_pos rfl, ← place_at]
        simp only [hts, List.map_append, List.map_cons, List.map_take, List.map_drop, h1, h2]
    · have hd : (decide (1 ≤ hgt) && decide (hgt ≤ 12)) = false := by
        cases hq : (decide (1 ≤ hgt) && decide (hgt ≤ 12)) with
        | false => rfl
        | true => exact absurd (by simpa using hq) hh
      refine (put_bad b x hgt w hk hv (.inr hh)).mono ?_
      rintro e w' ⟨he, hb⟩
      exact bad (by unfold putOk; rw [hd]; simp) e w' he hb
/-- Blocks that are neither the document's list's nor rows of its kinds may turn. -/
theorem RMem.kept {B : Nat} {w w' : World} {r : Nat} {ys : List EV} {hs : List Int} {U : Nat → Prop} (h : RMem B w r ys hs) (hk : Kept U w w') (hU : ∀ g, U g → g < w.heap.size → g ≠ r ∧ ∃ c t, w.heap[g]? = some (.cells c t (0, 0)) ∧ t ≠ 5 ∧ t ≠ 28 ∧ t ≠ 3) : RMem B w' r ys hs := by
  obtain ⟨vL, vH, h1, h2, h3⟩ := h.row
  have tg : ∀ (g : Nat) (c : Array Value) (t : TypeId), w.heap[g]? = some (.cells c t (0, 0)) → (t = 5 ∨ t = 28 ∨ t = 3) → w'.heap[g]? = w.heap[g]? := fun g c t hc ht => hk.block g (Array.getElem?_eq_some_iff.1 hc).1 (fun e => by
    obtain ⟨_, c', t', h4, h5, h6, h7⟩ := hU g e (Array.getElem?_eq_some_iff.1 hc).1
    rw [hc] at h4
    cases h4
    rcases ht with ht | ht | ht
    · exact h5 ht
    · exact h6 ht
    · exact h7 ht)
  have hrl := (Array.getElem?_eq_some_iff.1 h1).1
  refine ⟨h.ge, ⟨vL, vH, (hk.block r hrl (fun e => (hU r e hrl).1 rfl)).trans h1, ⟨own_block h2.row (fun g hg => ?_), fun y hy => (h2.each y hy).keepB (fun g c hc => tg g c 5 hc (.inl rfl))⟩, own_block h3 (fun g hg => ?_)⟩, h.len, h.up, h.may⟩
  · obtain ⟨c, hc⟩ := own_tag h2.row hg
    exact tg g c _ hc (.inr (.inl rfl))
  · obtain ⟨c, hc⟩ := own_tag h3 hg
    exact tg g c _ hc (.inr (.inr rfl))
theorem RMem.below {B : Nat} {w w' : World} {r : Nat} {ys : List EV} {hs : List Int} (h : RMem B w r ys hs) (hb : Below w.heap.size w w') : RMem B w' r ys hs := h.kept (U := fun _ => False) (Kept.of_below hb) (fun _ e => e.elim)
theorem rput_pair (B r : Nat) (ys : List EV) (hs : List Int) (x : EV) (hgt : Int) (w : World) (hM : RMem B w r ys hs) (hBw : B ≤ w.heap.size) (hln : ys.length ≤ 1000000) (hx : entKind.held w x) (hk : x.e.key.length ≤ 9223372036854775807) (hv : x.e.val.length ≤ 9223372036854775807) :
    Calls Try.prog 9 #[.pointer (some ⟨r, 0, none⟩), ev x, .int .i64 hgt] w fun e w' => e = .returned (.int .i64 (putN ((rts ys hs).map Prod.fst) x.e hgt)) ∧ ∃ ys' hs', RMem B w' r ys' hs' ∧ rts ys' hs' = putP (rts ys hs) x.e hgt ∧ Kept (· = r) w w' := by
  rw [rts_fst hM.len]
  have bad : ∀ (h : putOk (ys.map (·.e)) x.e hgt = false) (e : Ending) (w' : World), e = .returned (.int .i64 1) → Below w.heap.size w w' → e = .returned (.int .i64 (putN (ys.map (·.e)) x.e hgt)) ∧ ∃ ys' hs', RMem B w' r ys' hs' ∧ rts ys' hs' = putP (rts ys hs) x.e hgt ∧ Kept (· = r) w w' := fun h e w' he hb => by
    refine ⟨by rw [he]; unfold putN; rw [h]; rfl, ys, hs, hM.below hb, by unfold putP; rw [rts_fst hM.len, h]; rfl, Kept.of_below hb⟩
  cases hm : Sk.may x.e with
  | false =>
    refine (rput_bad r x hgt w hk hv (.inl hm)).mono ?_
    rintro e w' ⟨he, hb⟩
    exact bad (by unfold putOk; rw [hm]; rfl) e w' he hb
  | true =>
    by_cases hh : 1 ≤ hgt ∧ hgt ≤ 12
    · have hd : (decide ((1 : Int) ≤ hgt) && decide (hgt ≤ 12)) = true := by simp; omega
      cases ht : Sk.there (ys.map (·.e)) x.e with
      | true =>
        refine (rput_there B r ys hs x hgt w hM hln hx hm hh.1 hh.2 ht).mono ?_
        rintro e w' ⟨he, hb⟩
        exact bad (by unfold putOk; rw [ht]; simp) e w' he hb
      | false =>
        have hok : putOk (ys.map (·.e)) x.e hgt = true := by unfold putOk; rw [hm, hd, ht]; rfl
        refine (rput_new B r ys hs x hgt w hM hBw hln hx hm hh.1 hh.2 ht).mono ?_
        rintro e w' ⟨he, y, h1, h2, h3⟩
        refine ⟨by rw [he]; unfold putN; rw [hok]; rfl, _, _, h2, ?_, h3⟩
        unfold putP
        rw [rts_fst hM.len, hok, if_pos rfl]
        unfold rts
        rw [List.map_append, List.map_cons, List.map_take, List.map_drop, h1]
        exact zip_ins _ _ _ _ _ (by rw [List.length_map]; exact hM.len)
    · have hd : (decide (1 ≤ hgt) && decide (hgt ≤ 12)) = false := by
        cases hq : (decide (1 ≤ hgt) && decide (hgt ≤ 12)) with
        | false => rfl
        | true => exact absurd (by simpa using hq) hh
      refine (rput_bad r x hgt w hk hv (.inr hh)).mono ?_
      rintro e w' ⟨he, hb⟩
      exact bad (by unfold putOk; rw [hd]; simp) e w' he hb
/-- Both lists: what is in them, and how high, is the same. -/
structure Twin (w0 : World) (l : Nat) (ns : List Nd) (r : Nat) (ys : List EV) (hs : List Int) (w : World) : Prop where
  one : LMem w0.heap.size w l ns
  two : RMem w0.heap.size w r ys hs
  same : hts ns = rts ys hs
  low : ∀ p ∈ hts ns, p.2 ≤ 12
  bel : Below w0.heap.size w0 w
theorem LMem.tag4 {B : Nat} {w : World} {b : Nat} {ns : List Nd} (h : LMem B w b ns) {g : Nat} (hg : foot b ns g) : ∃ c t, w.heap[g]? = some (.cells c t (0, 0)) ∧ t ≠ 5 ∧ t ≠ 28 ∧ t ≠ 3 ∧ t ≠ 39 ∧ t ≠ 31 := by
  rcases hg with rfl | ⟨n, hn, rfl⟩
  · obtain ⟨c, hc⟩ := h.tagB; exact ⟨c, _, hc, by decide, by decide, by decide, by decide, by decide⟩
  · obtain ⟨c, hc⟩ := h.tagN n hn; exact ⟨c, _, hc, by decide, by decide, by decide, by decide, by decide⟩
section
variable {w0 w w' : World} {l r : Nat} {ns : List Nd} {ys : List EV} {hs : List Int}
theorem Twin.below (h : Twin w0 l ns r ys hs w) (hb : Below w.heap.size w w') : Twin w0 l ns r ys hs w' := ⟨h.one.below hb, h.two.below hb, h.same, h.low, h.bel.trans (hb.mono h.bel.size)⟩
theorem Twin.tag (h : Twin w0 l ns r ys hs w) : ∃ c, w.heap[r]? = some (.cells c 39 (0, 0)) := by
  obtain ⟨vL, vH, h1, _⟩ := h.two.row
  exact ⟨_, h1⟩
theorem Twin.ents (h : Twin w0 l ns r ys hs w) : ents ns = ys.map (·.e) := by
  rw [← hts_fst, h.same, rts_fst h.two.len]
theorem Twin.len (h : Twin w0 l ns r ys hs w) : ns.length = ys.length := by
  have := congrArg List.length h.ents
  simpa [Go.Proofs.Ytjiphmeoofeepaa.ents] using this
/-- skip's list has been put to. -/
theorem Twin.putL (h : Twin w0 l ns r ys hs w) (hk : Kept (foot l ns) w w') : RMem w0.heap.size w' r ys hs := h.two.kept hk (fun g hg hl => by
  obtain ⟨c, t, h1, h2, h3, h4, h5, _⟩ := h.one.tag4 hg
  refine ⟨fun e => ?_, c, t, h1, h2, h3, h4⟩
  obtain ⟨c', h6⟩ := h.tag
  rw [e, h6] at h1
  simp only [Option.some.injEq, Obj.cells.injEq] at h1
  exact h5 h1.2.1.symm)
/-- The document's list has been put to. -/
theorem putR_one {B : Nat} (h1 : LMem B w l ns) (htag : ∃ c, w.heap[r]? = some (.cells c 39 (0, 0))) (hk : Kept (· = r) w w') : LMem B w' l ns := h1.kept hk (fun g e _ => by
  subst e
  obtain ⟨c, hc⟩ := htag
  refine ⟨fun hf => ?_, c, _, hc, by decide⟩
  obtain ⟨c', t, h2, _, _, _, h5, _⟩ := h1.tag4 hf
  rw [hc] at h2
  simp only [Option.some.injEq, Obj.cells.injEq] at h2
  exact h5 h2.2.1.symm)
end
end Go.Proofs.Ytjiphmeoofeepaa
namespace Go.Proofs.Ytjiphmeoofeepaa
open Go.RowKit
open Sk (Ent)

/-- An operation as a value. -/
def opv (o : OpS) : Value := .agg #[.int .i64 o.what, .int .i64 o.h, .int .i64 o.n, .slice o.x.kp o.x.e.key.length o.x.kc, .int .i64 o.x.e.seq, .bool o.x.e.gone, .slice o.x.vp o.x.e.val.length o.x.vc, .slice o.tp o.to.length o.tc]
/-- An operation's bytes are within reach. -/
def OpS.fits (o : OpS) : Prop := o.x.e.key.length ≤ 140737488355328 ∧ o.x.e.val.length ≤ 140737488355328 ∧ o.to.length ≤ 140737488355328
end Go.Proofs.Ytjiphmeoofeepaa
namespace Go.Proofs.Ytjiphmeoofeepaa
open Go.ChangeShapes Go.WideShapes Go.ChangeAt Go.RowKit
open Sk (Ent)

theorem open_bytes_dat {H : Type} {enc : TypeId × Value → H} {W : World} {n : Nat} {v : Value} {x : DataW H × List MemPlace} (h : DataW.trod enc Try.prog W 0 (fun _ => true) true n 26 [v] = some x) :
    ∃ ao m c l, v = .slice ao m c ∧ Src W ao m c l ∧ (x.1 = .nil ∧ m = 0 ∨ ∃ elems spare, x.1 = .slice elems spare ∧ elems.length + spare.length = c) := by
  rcases open_ints Try.underlying26 Try.underlying5 cells5 h with ⟨hcs, hx⟩ | ⟨a, len, cap, zs, hcs, _, hl, hm, hz, hx, hcell, hwz⟩
  · simp only [List.cons.injEq, and_true] at hcs
    exact ⟨none, 0, 0, [], hcs, Src.empty (fun _ => rfl), .inl ⟨by rw [hx], rfl⟩⟩
  · simp only [List.cons.injEq, and_true] at hcs
    simp at hz
    refine ⟨some a, len, cap, bl (zs.take len), hcs, ?_, .inr ⟨_, _, by rw [hx], ?_⟩⟩
    · refine ⟨by simp [bl]; omega, hl, (fun h => by cases h), fun ad had j u hu => ?_⟩
      cases had
      have hj : j < (bl (zs.take len)).length := by
        have := (List.getElem?_eq_some_iff.1 hu).1
        rwa [bv_length] at this
      have hj2 : j < (zs.take len).length := by simpa [bl] using hj
      rw [bv_at _ j hj] at hu
      cases hu
      rw [bl_at (zs.take len) j hj2 (fun n hn => hwz n (List.mem_of_mem_take hn)), hcell j (by simp at hj2; omega)]
      congr 2
      have h1 : j < len := by simp at hj2; omega
      rw [List.getD_eq_getElem?_getD, List.getD_eq_getElem?_getD, List.getElem?_take, if_pos h1]
    · simp [lits]
      omega
theorem weights_all {H : Type} {P : Program} {e : TypeId} : ∀ {ds : List (DataW H)} {i : Nat} {d : DataW H}, ds[i]? = some d → ∀ n ∈ d.weights P e, n ∈ DataW.weightsAll P e ds
  | d0 :: ds, 0, d, hd, n, hn => by
    simp only [List.getElem?_cons_zero, Option.some.injEq] at hd
    subst hd
    simp only [DataW.weightsAll, List.mem_append]
    exact .inl hn
  | d0 :: ds, i + 1, d, hd, n, hn => by
    simp only [List.getElem?_cons_succ] at hd
    simp only [DataW.weightsAll, List.mem_append]
    exact .inr (weights_all hd n hn)
  | [], _, _, hd, _, _ => by simp at hd
/-- A datum of a byte slice, m long, of c places. -/
def ByDat {H : Type} (d : DataW H) (m c : Nat) : Prop := d = .nil ∧ m = 0 ∨ ∃ elems spare, d = .slice elems spare ∧ elems.length + spare.length = c
theorem trod_struct4D {H : Type} {enc : TypeId × Value → H} {P : Program} {w : World} {base : Nat} {spare : Nat → Bool} {held : Bool} {t : TypeId} {f0 f1 f2 f3 : Field} {fuel : Nat} {cs : List Value} {x : DataW H × List MemPlace} (ht : P.underlying t = some (.struct #[f0, f1, f2, f3])) (h : DataW.trod enc P w base spare held fuel t cs = some x) :
    ∃ y0 y1 y2 y3 n, cs.length = P.cellsOf t ∧ x.1 = .agg [y0.1, y1.1, y2.1, y3.1] ∧ DataW.trod enc P w base spare held n f0.type ((cs.drop f0.offset).take (P.cellsOf f0.type)) = some y0 ∧
      DataW.trod enc P w base spare held n f1.type ((cs.drop f1.offset).take (P.cellsOf f1.type)) = some y1 ∧ DataW.trod enc P w base spare held n f2.type ((cs.drop f2.offset).take (P.cellsOf f2.type)) = some y2 ∧
      DataW.trod enc P w base spare held n f3.type ((cs.drop f3.offset).take (P.cellsOf f3.type)) = some y3 := by
  obtain ⟨xs, n, _, rfl, hl, hlen, hf⟩ := DataW.trod_struct ht h
  match xs, hlen with
  | [y0, y1, y2, y3], _ => exact ⟨y0, y1, y2, y3, n, hl, rfl, by simpa using hf 0 f0 rfl, by simpa using hf 1 f1 rfl, by simpa using hf 2 f2 rfl, by simpa using hf 3 f3 rfl⟩
theorem open_entryD {H : Type} {enc : TypeId × Value → H} {W : World} {n : Nat} {cs : List Value} {x : DataW H × List MemPlace} (h : DataW.trod enc Try.prog W 0 (fun _ => true) true n 28 cs = some x) :
    ∃ e : EV, cs = entKind.vals e ∧ entKind.held W e ∧ ∃ d0 d1 d2 d3, x.1 = .agg [d0, d1, d2, d3] ∧ ByDat d0 e.e.key.length e.kc ∧ ByDat d3 e.e.val.length e.vc := by
  obtain ⟨f0, f1, f2, f3, hF, ⟨e0, o0⟩, ⟨e1, o1⟩, ⟨e2, o2⟩, ⟨e3, o3⟩⟩ := entry_fields
  obtain ⟨y0, y1, y2, y3, k, hl, hx, t0, t1, t2, t3⟩ := trod_struct4D hF h
  rw [cE] at hl
  match cs, hl with
  | [v0, v1, v2, v3], _ =>
    rw [e0, o0, cB] at t0
    rw [e1, o1, cI] at t1
    rw [e2, o2, cBo] at t2
    rw [e3, o3, cB] at t3
    simp at t0 t1 t2 t3
    obtain ⟨a0, m0, c0, l0, rfl, s0, k0⟩ := open_bytes_dat t0
    obtain ⟨z, hz, _, _⟩ := DataW.trod_int Try.underlying3 t1
    obtain ⟨g, hg, _⟩ := DataW.trod_bool Try.underlying4 t2
    obtain ⟨a3, m3, c3, l3, rfl, s3, k3⟩ := open_bytes_dat t3
    simp only [List.cons.injEq, and_true] at hz hg
    have h0 := s0.len
    have h3 := s3.len
    refine ⟨⟨a0, c0, a3, c3, ⟨l0, z, g, l3⟩⟩, ?_, ⟨?_, ?_⟩, y0.1, y1.1, y2.1, y3.1, hx, ?_, ?_⟩
    · simp only [entKind]; rw [h0, h3, hz, hg]
    · show Src W a0 l0.length c0 l0; rw [h0]; exact s0
    · show Src W a3 l3.length c3 l3; rw [h3]; exact s3
    · show ByDat y0.1 l0.length c0; rw [h0]; exact k0
    · show ByDat y3.1 l3.length c3; rw [h3]; exact k3
theorem trod_struct5D {H : Type} {enc : TypeId × Value → H} {P : Program} {w : World} {base : Nat} {spare : Nat → Bool} {held : Bool} {t : TypeId} {f0 f1 f2 f3 f4 : Field} {fuel : Nat} {cs : List Value} {x : DataW H × List MemPlace} (ht : P.underlying t = some (.struct #[f0, f1, f2, f3, f4])) (h : DataW.trod enc P w base spare held fuel t cs = some x) :
    ∃ y0 y1 y2 y3 y4 n, cs.length = P.cellsOf t ∧ x.1 = .agg [y0.1, y1.1, y2.1, y3.1, y4.1] ∧ DataW.trod enc P w base spare held n f0.type ((cs.drop f0.offset).take (P.cellsOf f0.type)) = some y0 ∧
      DataW.trod enc P w base spare held n f1.type ((cs.drop f1.offset).take (P.cellsOf f1.type)) = some y1 ∧ DataW.trod enc P w base spare held n f2.type ((cs.drop f2.offset).take (P.cellsOf f2.type)) = some y2 ∧
      DataW.trod enc P w base spare held n f3.type ((cs.drop f3.offset).take (P.cellsOf f3.type)) = some y3 ∧ DataW.trod enc P w base spare held n f4.type ((cs.drop f4.offset).take (P.cellsOf f4.type)) = some y4 := by
  obtain ⟨xs, n, _, rfl, hl, hlen, hf⟩ := DataW.trod_struct ht h
  match xs, hlen with
  | [y0, y1, y2, y3, y4], _ => exact ⟨y0, y1, y2, y3, y4, n, hl, rfl, by simpa using hf 0 f0 rfl, by simpa using hf 1 f1 rfl, by simpa using hf 2 f2 rfl, by simpa using hf 3 f3 rfl, by simpa using hf 4 f4 rfl⟩
theorem open_opD {H : Type} {enc : TypeId × Value → H} {W : World} {n : Nat} {cs : List Value} {x : DataW H × List MemPlace} (h : DataW.trod enc Try.prog W 0 (fun _ => true) true n 31 cs = some x) :
    ∃ o : OpS, cs = opsKind.vals o ∧ opsKind.held W o ∧ ∃ p0 p1 p2 d0 d1 d2 d3 p4, x.1 = .agg [p0, p1, p2, .agg [d0, d1, d2, d3], p4] ∧ ByDat d0 o.x.e.key.length o.x.kc ∧ ByDat d3 o.x.e.val.length o.x.vc ∧ ByDat p4 o.to.length o.tc := by
  obtain ⟨f0, f1, f2, f3, f4, hF, ⟨e0, o0⟩, ⟨e1, o1⟩, ⟨e2, o2⟩, ⟨e3, o3⟩, ⟨e4, o4⟩⟩ := op_fields
  obtain ⟨y0, y1, y2, y3, y4, k, hl, hx, t0, t1, t2, t3, t4⟩ := trod_struct5D hF h
  rw [cO] at hl
  match cs, hl with
  | [v0, v1, v2, v3, v4, v5, v6, v7], _ =>
    rw [e0, o0, cI] at t0
    rw [e1, o1, cI] at t1
    rw [e2, o2, cI] at t2
    rw [e3, o3, cE] at t3
    rw [e4, o4, cB] at t4
    simp at t0 t1 t2 t3 t4
    obtain ⟨z0, hz0, _, _⟩ := DataW.trod_int Try.underlying3 t0
    obtain ⟨z1, hz1, _, _⟩ := DataW.trod_int Try.underlying3 t1
    obtain ⟨z2, hz2, _, _⟩ := DataW.trod_int Try.underlying3 t2
    obtain ⟨e, he, hh, d0, d1, d2, d3, hd, b0, b3⟩ := open_entryD t3
    obtain ⟨a4, m4, c4, l4, rfl, s4, k4⟩ := open_bytes_dat t4
    simp only [List.cons.injEq, and_true] at hz0 hz1 hz2
    have h4 := s4.len
    simp only [entKind, List.cons.injEq, and_true] at he
    obtain ⟨r3, r4, r5, r6⟩ := he
    refine ⟨⟨z0, z1, z2, e, a4, c4, l4⟩, ?_, ⟨hh, ?_⟩, y0.1, y1.1, y2.1, d0, d1, d2, d3, y4.1, by rw [hx, hd], b0, b3, ?_⟩
    · simp only [opsKind]
      rw [hz0, hz1, hz2, r3, r4, r5, r6, h4]
    · show Src W a4 l4.length c4 l4
      rw [h4]
      exact s4
    · show ByDat y4.1 l4.length c4
      rw [h4]
      exact k4
theorem weights_op {H : Type} {p0 p1 p2 d0 d1 d2 d3 p4 : DataW H} {n : Nat} (h : n ∈ d0.weights Try.prog 26 ∨ n ∈ d3.weights Try.prog 26 ∨ n ∈ p4.weights Try.prog 26) : n ∈ DataW.weights Try.prog 31 (.agg [p0, p1, p2, .agg [d0, d1, d2, d3], p4]) := by
  obtain ⟨g0, g1, g2, g3, gF, ⟨i0, _⟩, ⟨i1, _⟩, ⟨i2, _⟩, ⟨i3, _⟩⟩ := entry_fields
  obtain ⟨f0, f1, f2, f3, f4, hF, ⟨e0, _⟩, ⟨e1, _⟩, ⟨e2, _⟩, ⟨e3, _⟩, ⟨e4, _⟩⟩ := op_fields
  simp only [DataW.weights, hF, gF, DataW.weightsEach, List.map_cons, List.map_nil, e0, e1, e2, e3, e4, i0, i1, i2, i3, List.mem_append]
  rcases h with h | h | h
  · exact .inr (.inr (.inr (.inl (.inl h))))
  · exact .inr (.inr (.inr (.inl (.inr (.inr (.inr (.inl h)))))))
  · exact .inr (.inr (.inr (.inr (.inl h))))
set_option maxRecDepth 100000 in
/-- A slice of operations. -/
theorem open_script_reach {H : Type} {enc : TypeId × Value → H} {W : World} {v : Value} {d : DataW H} {p : List MemPlace} {base : Nat} {ts : List TypeId} {ds : List (DataW H)} {j : Nat} (hsz : (DataW.weightsEach Try.prog ts ds).all (· ≤ reachBytes) = true) (ht : ts[j]? = some 22) (hd : ds[j]? = some d)
    (hv : Value.okWide Try.prog W .any base 22 v) (h : DataW.Trod enc Try.prog W 0 (fun _ => true) true 22 v d p) :
    ∃ ao m c es, v = .slice ao m c ∧ RSrc opsKind W ao m c es ∧ c ≤ maxLen ∧ ∀ o ∈ es, o.fits := by
  obtain ⟨a0, len0, cap0, rfl⟩ := okWide_slice Try.underlying22 hv
  obtain ⟨fuel, hf⟩ := h
  obtain ⟨ao, m, c, es, h1, h2, h3, h4⟩ := open_recs (enc := enc) (W := W) opsKind_ok (Q := fun o y => ∃ p0 p1 p2 d0 d1 d2 d3 p4, y = .agg [p0, p1, p2, .agg [d0, d1, d2, d3], p4] ∧ ByDat d0 o.x.e.key.length o.x.kc ∧ ByDat d3 o.x.e.val.length o.x.vc ∧ ByDat p4 o.to.length o.tc) Try.underlying22 (by kernel_rfl) (fun m cs y hy => by
    obtain ⟨o, q1, q2, q3⟩ := open_opD hy
    exact ⟨o, q1, q2, q3⟩) (v := .slice a0 len0 cap0) (by simpa only [Value.cells] using hf)
  refine ⟨ao, m, c, es, h1, h2, h3, ?_⟩
  rcases h4 with ⟨h0, _⟩ | ⟨xs, sp, hx, hl, hcl, hq⟩
  · intro e he
    have := h2.len
    rw [h0] at this
    rw [List.length_eq_zero_iff.1 this] at he
    cases he
  · have hx' : d = .slice xs sp := hx
    intro e he
    obtain ⟨i, hi⟩ := List.getElem?_of_mem he
    have hlt := (List.getElem?_eq_some_iff.1 hi).1
    rw [h2.len, ← hl] at hlt
    have hd2 := List.getElem?_eq_getElem hlt
    have hs2 := h2.held e he
    have hk := hs2.1.1.cap
    have hvv := hs2.1.2.cap
    have hto := hs2.2.cap
    obtain ⟨p0, p1, p2, d0, d1, d2, d3, p4, hag, hk0, hk3, hk4⟩ := hq i e _ hi hd2
    rw [hag] at hd2
    have one : ∀ {dd : DataW H} {mm cc : Nat}, ByDat dd mm cc → mm ≤ cc → (∀ n, n ∈ dd.weights Try.prog 26 → n ∈ DataW.weights Try.prog 31 (DataW.agg [p0, p1, p2, .agg [d0, d1, d2, d3], p4])) → mm ≤ 140737488355328 := fun {dd mm cc} hb hle hin => by
      rcases hb with ⟨_, h0⟩ | ⟨el, sp2, h5, h6⟩
      · omega
      · have h7 : (el.length + sp2.length) * Try.prog.bytesOf 5 ∈ DataW.weights Try.prog 22 (DataW.slice xs sp) := by
          simp only [DataW.weights, Try.underlying22, List.mem_cons, List.mem_append]
          right; left
          refine weights_all hd2 _ (hin _ ?_)
          rw [h5]
          simp [DataW.weights, Try.underlying26]
        have h8 := List.all_eq_true.1 hsz _ (DataW.weights_mem_each ht (hx' ▸ hd) _ h7)
        simp only [decide_eq_true_eq] at h8
        rw [bytes5, h6] at h8
        unfold reachBytes at h8
        omega
    exact ⟨one hk0 hk (fun n hn => weights_op (.inl hn)), one hk3 hvv (fun n hn => weights_op (.inr (.inl hn))), one hk4 hto (fun n hn => weights_op (.inr (.inr hn)))⟩
end Go.Proofs.Ytjiphmeoofeepaa
namespace Go.Proofs.Ytjiphmeoofeepaa
open Go.RowKit
open Sk (Ent)

/-- An entry's two rows of bytes, as values. -/
def kS (x : EV) : Value := .slice x.kp x.e.key.length x.kc
def vS (x : EV) : Value := .slice x.vp x.e.val.length x.vc
/-- A block that holds bytes of an entry. -/
def holds (x : EV) (g : Nat) : Prop := (kS x).ownBlock = some g ∨ (vS x).ownBlock = some g
theorem OwnE.keepH {B : Nat} {w w' : World} {y : EV} (h : OwnE B w y) (hk : ∀ g, holds y g → w'.heap[g]? = w.heap[g]?) : OwnE B w' y :=
  ⟨own_block h.1 (fun g hg => hk g (.inl hg)), own_block h.2 (fun g hg => hk g (.inr hg))⟩
theorem OwnE.tagH {B : Nat} {w : World} {y : EV} (h : OwnE B w y) {g : Nat} (hg : holds y g) : ∃ c, w.heap[g]? = some (.cells c 5 (0, 0)) := by
  rcases hg with hg | hg
  · exact own_tag h.1 hg
  · exact own_tag h.2 hg
theorem OwnE.ltH {B : Nat} {w : World} {y : EV} (h : OwnE B w y) {g : Nat} (hg : holds y g) : B ≤ g ∧ g < w.heap.size := by
  rcases hg with hg | hg
  · exact ⟨own_from h.1 hg, own_size h.1 hg⟩
  · exact ⟨own_from h.2 hg, own_size h.2 hg⟩
theorem NewB.ge {B : Nat} {y : EV} (h : NewB B y) {g : Nat} (hg : holds y g) : B ≤ g := by
  rcases hg with hg | hg
  · exact h.1 g hg
  · exact h.2 g hg
/-- Blocks that are neither the list's nor bytes of its entries may turn. -/
theorem LMem.keptH {B : Nat} {w w' : World} {b : Nat} {ns : List Nd} {U : Nat → Prop} (h : LMem B w b ns) (hk : Kept U w w') (hU : ∀ g, U g → g < w.heap.size → ¬ foot b ns g ∧ ∀ n ∈ ns, ¬ holds n.x g) : LMem B w' b ns := by
  have hf : ∀ g, foot b ns g → w'.heap[g]? = w.heap[g]? := fun g hg => hk.block g (h.lt hg) (fun e => (hU g e (h.lt hg)).1 hg)
  have ho : ∀ n ∈ ns, OwnE B w' n.x := fun n hn => (h.own n hn).keepH (fun g hg => hk.block g ((h.own n hn).ltH hg).2 (fun e => (hU g e ((h.own n hn).ltH hg).2).2 n hn hg))
  have cf : ∀ g i, foot b ns g → w'.cell? ⟨g, i, none⟩ = w.cell? ⟨g, i, none⟩ := fun g i hg => World.cell?_of_block (w := w) (a := ⟨g, i, none⟩) (hf g hg)
  have fb : foot b ns b := .inl rfl
  have fn : ∀ n ∈ ns, foot b ns n.g := fun n hn => .inr ⟨n, hn, rfl⟩
  refine ⟨⟨⟨fun j hj => by rw [cf b _ fb]; exact h.mem.chain.head j hj, fun i n hn j hj => by rw [cf n.g _ (fn n (List.mem_of_getElem? hn))]; exact h.mem.chain.links i n hn j hj, fun n hn => ⟨fun j u hu => by rw [cf n.g _ (fn n hn)]; exact (h.mem.chain.ents n hn).1 j u hu, (ho n hn).held⟩⟩, h.mem.tall, h.mem.up, h.mem.short⟩, h.lone, ho, h.far, ?_, fun n hn => ?_, by rw [cf b _ fb]; exact h.count, by rw [cf b _ fb]; exact h.size, h.good⟩
  · obtain ⟨c, hc⟩ := h.tagB; exact ⟨c, (hf b fb).trans hc⟩
  · obtain ⟨c, hc⟩ := h.tagN n hn; exact ⟨c, (hf n.g (fn n hn)).trans hc⟩
/-- Bytes that may be turned: whatever they are, they are there. -/
def Byt (w : World) (v : Value) : Prop := ∀ g, v.ownBlock = some g → ∀ j, j < (match v with | .slice _ n _ => n | _ => 0) → ∃ z, w.cell? ⟨g, j, none⟩ = some (.int .u8 z) ∧ w.frozen? ⟨g, j, none⟩ = false
theorem Byt.own {w : World} {B n : Nat} {v : Value} {l : List UInt8} (h : w.ownsRow B 5 1 v n (bv l)) : Byt w v := by
  intro g hg j hj
  rcases h.2 with ⟨rfl, _⟩ | ⟨g', cap, cur, rfl, h1, h2, h3, h4, h5, h6⟩
  · cases hg
  · cases hg
    simp only at hj
    have hl : l.length = n := by have := h.1; rw [bv_length] at this; omega
    obtain ⟨ao, c, e, hs, _⟩ := Src.of_own h
    cases e
    have hc : w.cell? ⟨g', j, none⟩ = some (.int .u8 ((fn l j).toNat : Int)) := by
      have h9 := hs.cells ⟨g', 0, none⟩ rfl j _ (bv_at l j (by omega))
      rw [show (⟨g', 0, none⟩ : Addr).add j = ⟨g', j, none⟩ from by simp [Addr.add]; exact fun h => h.symm] at h9
      exact h9
    exact ⟨_, hc, by simp [World.frozen?, h2]⟩
theorem Byt.turn {w : World} {v : Value} (h : Byt w v) {g k : Nat} {z : Int} {z0 : Value} (h0 : w.cell? ⟨g, k, none⟩ = some z0) : Byt (w.setCell ⟨g, k, none⟩ (.int .u8 z)) v := by
  intro g' hg j hj
  obtain ⟨x, h1, h2⟩ := h g' hg j hj
  by_cases e : (⟨g', j, none⟩ : Addr) = ⟨g, k, none⟩
  · rw [e]
    exact ⟨z, World.cell?_setCell_same' _ _ _ (by simp [h0]), by rw [World.frozen?_setCell, ← e]; exact h2⟩
  · exact ⟨x, by rw [set_cell_far (fun e2 => e e2.symm)]; exact h1, by rw [World.frozen?_setCell]; exact h2⟩
theorem Byt.on {w w' : World} {v : Value} (h : Byt w v) (hb : ∀ g, v.ownBlock = some g → w'.heap[g]? = w.heap[g]?) : Byt w' v := by
  intro g hg j hj
  obtain ⟨x, h1, h2⟩ := h g hg j hj
  exact ⟨x, by rw [World.cell?_of_block (w := w) (a := ⟨g, j, none⟩) (hb g hg)]; exact h1, by rw [← h2]; simp only [World.frozen?, hb g hg]⟩
/-- Both of an entry's. -/
def BytE (w : World) (x : EV) : Prop := Byt w (kS x) ∧ Byt w (vS x)
theorem OwnE.byt {B : Nat} {w : World} {y : EV} (h : OwnE B w y) : BytE w y := ⟨Byt.own h.1, Byt.own h.2⟩
theorem BytE.turn {w : World} {x : EV} (h : BytE w x) {g k : Nat} {z : Int} {z0 : Value} (h0 : w.cell? ⟨g, k, none⟩ = some z0) : BytE (w.setCell ⟨g, k, none⟩ (.int .u8 z)) x := ⟨h.1.turn h0, h.2.turn h0⟩
/-- What a row of puts makes. -/
def puts (l : List Ent) (os : List (Ent × Int)) : List Ent := os.foldl (fun l p => putE l p.1 p.2) l
theorem puts_more (l : List Ent) (os : List (Ent × Int)) (p : Ent × Int) : puts l (os ++ [p]) = putE (puts l os) p.1 p.2 := by unfold puts; rw [List.foldl_append]; rfl
theorem putP_fst (l : List (Ent × Int)) (e : Ent) (h : Int) : (putP l e h).map Prod.fst = putE (l.map Prod.fst) e h := by
  unfold putP putE
  split
  · unfold Sk.ins; simp
  · rfl
/-- An operation's entry and height. -/
def opsE (es : List OpS) : List (Ent × Int) := es.map fun o => (o.x.e, o.h)
theorem opsE_more {es : List OpS} {k : Nat} {o : OpS} (ho : es[k]? = some o) : (opsE es).take (k + 1) = (opsE es).take k ++ [(o.x.e, o.h)] := by
  unfold opsE
  rw [List.take_add_one, List.getElem?_map, ho]
  rfl
/-- How far the script has come. -/
structure KpI (w0 : World) (l : Nat) (ns : List Nd) (es : List OpS) (k : Nat) (w : World) : Prop where
  mem : LMem w0.heap.size w l ns
  same : ents ns = puts [] ((opsE es).take k)
  len : ns.length ≤ k
  bel : Below w0.heap.size w0 w
theorem KpI.next {w0 wr w1 W2 w3 w5 : World} {l k : Nat} {ns ns' : List Nd} {es : List OpS} {o : OpS} {y : EV} (h : KpI w0 l ns es k wr) (ho : es[k]? = some o) (hye : y.e = o.x.e) (hyo : OwnE wr.heap.size w1 y) (hb1 : Below wr.heap.size wr w1) (hb2 : Below w1.heap.size w1 W2)
    (M3 : LMem w0.heap.size w3 l ns') (E3 : ents ns' = putE (ents ns) y.e o.h) (K3 : Kept (foot l ns) W2 w3) (N3 : ∀ n ∈ ns', n ∈ ns ∨ (W2.heap.size ≤ n.g ∧ NewB W2.heap.size n.x)) (K5 : Kept (holds y) w3 w5) : KpI w0 l ns' es (k + 1) w5 := by
  have z1 := hb1.size
  have z2 := hb2.size
  have z0 := h.bel.size
  refine ⟨M3.keptH K5 (fun g hg _ => ?_), ?_, ?_, ?_⟩
  · have hl := hyo.ltH hg
    refine ⟨fun hf => ?_, fun n hn hh => ?_⟩
    · rcases hf with e | ⟨n, hn, e⟩
      · have := h.mem.lt (.inl rfl : foot l ns l); omega
      · rcases N3 n hn with h1 | ⟨h1, _⟩
        · have := h.mem.lt (.inr ⟨n, h1, rfl⟩ : foot l ns n.g); omega
        · omega
    · rcases N3 n hn with h1 | ⟨_, h1⟩
      · have := (h.mem.own n h1).ltH hh; omega
      · have := h1.ge hh; omega
  · rw [opsE_more ho, puts_more, ← h.same, E3, hye]
  · have h1 := ents_length ns'
    rw [E3] at h1
    have h2 := putE_length (ents ns) y.e o.h
    rw [ents_length] at h2
    have := h.len
    omega
  · have b2 : Below w0.heap.size w0 W2 := (h.bel.trans (hb1.mono z0)).trans (hb2.mono (by omega))
    have b3 : Below w0.heap.size W2 w3 := K3.below b2.size (fun g hg => h.mem.far g hg)
    have b5 : Below w0.heap.size w3 w5 := K5.below (Nat.le_trans b2.size b3.size) (fun g hg => Nat.le_trans z0 (hyo.ltH hg).1)
    exact (b2.trans b3).trans b5
/-- Blocks that hold bytes of some entries. -/
def held (ys : List EV) (g : Nat) : Prop := ∃ y ∈ ys, holds y g
/-- Bytes of a row of entries may be turned; all else stays. -/
structure Trn (w : World) (ys : List EV) (wr : World) : Prop where
  kept : Kept (held ys) w wr
  byt : ∀ y ∈ ys, BytE wr y
theorem Trn.turn {w wr : World} {ys : List EV} (h : Trn w ys wr) {g k : Nat} {z : Int} {z0 : Value} (hg : held ys g) (h0 : wr.cell? ⟨g, k, none⟩ = some z0) : Trn w ys (wr.setCell ⟨g, k, none⟩ (.int .u8 z)) :=
  ⟨h.kept.setCell (p := ⟨g, k, none⟩) (.inl hg) _, fun y hy => (h.byt y hy).turn h0⟩
/-- A row's address, where it has bytes. -/
theorem own_at {w : World} {B n c : Nat} {kp : Option Addr} {xs : List Value} (h : w.ownsRow B 5 1 (.slice kp n c) n xs) (hn : 0 < n) : ∃ g, kp = some ⟨g, 0, none⟩ := by
  rcases h.2 with ⟨_, h0⟩ | ⟨g, cap, cur, e, _⟩
  · omega
  · cases e; exact ⟨g, rfl⟩
/-- Where an entry's bytes may be turned. -/
theorem BytE.key {w : World} {kp vp : Option Addr} {kc vc : Nat} {e : Ent} (h : BytE w ⟨kp, kc, vp, vc, e⟩) {g j : Nat} (hk : kp = some ⟨g, 0, none⟩) (hj : j < e.key.length) : ∃ z, w.cell? ⟨g, j, none⟩ = some (.int .u8 z) ∧ w.frozen? ⟨g, j, none⟩ = false := by
  subst hk
  exact h.1 g rfl j hj
theorem BytE.val {w : World} {kp vp : Option Addr} {kc vc : Nat} {e : Ent} (h : BytE w ⟨kp, kc, vp, vc, e⟩) {g j : Nat} (hk : vp = some ⟨g, 0, none⟩) (hj : j < e.val.length) : ∃ z, w.cell? ⟨g, j, none⟩ = some (.int .u8 z) ∧ w.frozen? ⟨g, j, none⟩ = false := by
  subst hk
  exact h.2 g rfl j hj
theorem Ents.keptU {B : Nat} {w w' : World} {v : Value} {ys : List EV} {U : Nat → Prop} (h : Ents B w v ys) (hk : Kept U w w') (hU : ∀ g, U g → g < B) : Ents B w' v ys :=
  ⟨own_block h.row (fun g hg => hk.block g (own_size h.row hg) (fun e => by have := hU g e; have := own_from h.row hg; omega)), fun y hy => (h.each y hy).keepH (fun g hg => hk.block g ((h.each y hy).ltH hg).2 (fun e => by have := hU g e; have := ((h.each y hy).ltH hg).1; omega))⟩
end Go.Proofs.Ytjiphmeoofeepaa
