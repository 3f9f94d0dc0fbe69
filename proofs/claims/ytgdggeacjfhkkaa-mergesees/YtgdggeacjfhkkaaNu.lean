/- The walk of the document's groups. -/
import Derived.Test.YtgdggeacjfhkkaaNs
import Derived.Test.YtgdggeacjfhkkaaMb
import Derived.Test.YtgdggeacjfhkkaaNa
namespace Go.Proofs.Ytgdggeacjfhkkaa
open Go.RowKit
open Sk (Ent)

/-- How far groups has come. -/
structure GrpI (w : World) (q : EV → EV → Bool) (es : List EV) (k : Nat) (os : List LV) (v : Value) (S : Nat) (wr : World) : Prop where
  num : os.length ≤ k
  below : Below w.heap.size w wr
  base : w.heap.size ≤ S
  top : S ≤ wr.heap.size
  row : wr.ownsRow w.heap.size 24 1 v os.length (rv listKind os)
  each : ∀ y ∈ os.dropLast, wr.ownsRow w.heap.size 36 4 (.slice y.p y.es.length y.c) y.es.length (rv entKind y.es) ∧ ∀ g, (Value.slice y.p y.es.length y.c).ownBlock = some g → g < S
  last : ∀ y, os.getLast? = some y → wr.ownsRow S 36 4 (.slice y.p y.es.length y.c) y.es.length (rv entKind y.es)
  val : os.map (·.es) = Mg.parts q (es.take k)
theorem own_lower {w : World} {B B' t k n : Nat} {v : Value} {xs : List Value} (h : w.ownsRow B t k v n xs) (hb : B' ≤ B) : w.ownsRow B' t k v n xs := own_base h (fun g hg => Nat.le_trans hb (h.lt g hg).1)
theorem GrpI.all {w : World} {q : EV → EV → Bool} {es : List EV} {k : Nat} {os : List LV} {v : Value} {S : Nat} {wr : World} (h : GrpI w q es k os v S wr) : ∀ y ∈ os, wr.ownsRow w.heap.size 36 4 (.slice y.p y.es.length y.c) y.es.length (rv entKind y.es) := fun y hy => by
  rcases List.eq_nil_or_concat os with h0 | ⟨pre, z, h0⟩
  · rw [h0] at hy; cases hy
  · rw [List.concat_eq_append] at h0
    have h1 := h.each
    have h2 := h.last
    rw [h0] at h1 h2 hy
    rw [List.dropLast_concat] at h1
    rw [List.getLast?_concat] at h2
    rcases List.mem_append.1 hy with hy | hy
    · exact (h1 y hy).1
    · rw [List.mem_singleton.1 hy]; exact own_lower (h2 z rfl) h.base
theorem GrpI.start (w : World) (q : EV → EV → Bool) (es : List EV) : GrpI w q es 0 [] (.slice none 0 0) w.heap.size w :=
  ⟨Nat.le_refl _, Below.refl _ _, Nat.le_refl _, Nat.le_refl _, World.ownsRow_nil _ _ _ _, (fun y h => by cases h), (fun y h => by cases h), rfl⟩
theorem GrpI.to {w : World} {q : EV → EV → Bool} {es : List EV} {k : Nat} {os : List LV} {v : Value} {S : Nat} {wr w' : World} (h : GrpI w q es k os v S wr) (hb : Below wr.heap.size wr w') : GrpI w q es k os v S w' :=
  ⟨h.num, h.below.trans (hb.mono h.below.size), h.base, Nat.le_trans h.top hb.size, own_block h.row (fun j hj => hb.block j (own_size h.row hj)), fun y hy => ⟨own_block (h.each y hy).1 (fun j hj => hb.block j (own_size (h.each y hy).1 hj)), (h.each y hy).2⟩, fun y hy => own_block (h.last y hy) (fun j hj => hb.block j (own_size (h.last y hy) hj)), h.val⟩
/-- A row of one type stands where one of another type grows. -/
theorem own_apartT {w w' : World} {B B' t t' k k' n n' : Nat} {u v : Value} {xs ys : List Value} (hu : w.ownsRow B t k u n xs) (hv : w.ownsRow B' t' k' v n' ys) (hg : w.grownBy w' v.ownBlock) (ht : t ≠ t') : w'.ownsRow B t k u n xs :=
  own_block hu (fun j hj => hg.block j (own_size hu hj) (fun e => by
    obtain ⟨c1, h1⟩ := own_tag hu hj
    obtain ⟨c2, h2⟩ := own_tag hv e.symm
    rw [h1] at h2
    cases h2
    exact ht rfl))
theorem GrpI.fresh {w : World} {q : EV → EV → Bool} {es : List EV} {k : Nat} {os : List LV} {v : Value} {S : Nat} {wr : World} (h : GrpI w q es k os v S wr) {x : EV} {o : Obj} {w5 : World} {v5 : Value}
    (ho : w5.ownsRow w.heap.size 24 1 v5 (os.length + 1) (rv listKind (os ++ [⟨some ⟨wr.heap.size, 0, none⟩, 1, [x]⟩]))) (hg : ((wr.alloc (.cells (entKind.vals x).toArray 36)).alloc o).grownBy w5 v.ownBlock)
    (hx : es[k]? = some x) (hq : ∀ y, (es.take k).getLast? = some y → q y x = false) : GrpI w q es (k + 1) (os ++ [⟨some ⟨wr.heap.size, 0, none⟩, 1, [x]⟩]) v5 wr.heap.size w5 := by
  have ha : Below wr.heap.size wr ((wr.alloc (.cells (entKind.vals x).toArray 36)).alloc o) := ((Below.refl _ _).alloc (Nat.le_refl _) _).alloc (by simp) _
  have r1 := own_block (w' := (wr.alloc (.cells (entKind.vals x).toArray 36)).alloc o) h.row (fun j hj => ha.block j (own_size h.row hj))
  refine ⟨by rw [List.length_append]; exact Nat.succ_le_succ h.num, (h.below.trans (ha.mono h.below.size)).grown hg (Nat.le_trans h.below.size ha.size) (fun j hj => (r1.lt j hj).1), h.below.size, Nat.le_trans ha.size hg.size, by rw [List.length_append]; exact ho, fun y hy => ?_, fun y hy => ?_, ?_⟩
  · rw [List.dropLast_concat] at hy
    have h1 := h.all y hy
    have h2 := own_block (w' := (wr.alloc (.cells (entKind.vals x).toArray 36)).alloc o) h1 (fun j hj => ha.block j (own_size h1 hj))
    exact ⟨own_apartT h2 r1 hg (by decide), fun g hgg => own_size h1 hgg⟩
  · rw [List.getLast?_concat] at hy
    cases hy
    have h0 : (wr.alloc (.cells (entKind.vals x).toArray 36)).ownsRow wr.heap.size 36 4 (.slice (some ⟨wr.heap.size, 0, none⟩) 1 1) 1 (rv entKind [x]) :=
      ⟨rfl, .inr ⟨_, _, _, rfl, Nat.le_refl _, heap_alloc_new wr _, Nat.le_refl _, by decide, rfl, rfl⟩⟩
    have h2 := h0.alloc o
    exact own_apartT h2 r1 hg (by decide)
  · rw [List.map_append, h.val, List.take_add_one, hx]
    exact (Mg.parts_new _ _ hq).symm
theorem GrpI.grow {w : World} {q : EV → EV → Bool} {es : List EV} {k : Nat} {pre : List LV} {z : LV} {g cap P Z L : Nat} {S : Nat} {wr w6 w7 : World} {a7 : Option Addr} {c7 : Nat} {x y : EV} (hP : pre.length = P) (hZ : z.es.length = Z) (hL : L = P + 1)
    (h : GrpI w q es k (pre ++ [z]) (.slice (some ⟨g, 0, none⟩) L cap) S wr) (hb6 : Below wr.heap.size wr w6)
    (ho : w7.ownsRow S 36 4 (.slice a7 (Z + 1) c7) (Z + 1) (rv entKind z.es ++ rv entKind [x])) (hg : w6.grownBy w7 (Value.slice z.p Z z.c).ownBlock)
    (hx : es[k]? = some x) (hy : (es.take k).getLast? = some y) (hq : q y x = true) :
    GrpI w q es (k + 1) (pre ++ [⟨a7, c7, z.es ++ [x]⟩]) (.slice (some ⟨g, 0, none⟩) L cap) S (w7.setCell ⟨g, P, none⟩ (.slice a7 (Z + 1) c7)) := by
  subst hP hZ hL
  have hE := h.each
  have hLs := h.last
  have hR := h.row
  rw [List.dropLast_concat] at hE
  rw [List.getLast?_concat] at hLs
  rw [List.length_append] at hR
  have hlast := hLs z rfl
  have r6 := own_block (w' := w6) hR (fun j hj => hb6.block j (own_size hR hj))
  have l6 := own_block (w' := w6) hlast (fun j hj => hb6.block j (own_size hlast hj))
  have r7 := own_apartT r6 l6 hg (by decide)
  obtain ⟨cs, hcs⟩ := own_tag r7 rfl
  have B7 : Below w.heap.size w w7 := (h.below.trans (hb6.mono h.below.size)).grown hg (Nat.le_trans h.below.size hb6.size) (fun j hj => Nat.le_trans h.base (l6.lt j hj).1)
  have gB : w.heap.size ≤ g := (r7.lt g rfl).1
  have hnum := h.num
  rw [List.length_append, List.length_singleton] at hnum
  refine ⟨by rw [List.length_append, List.length_singleton]; omega, B7.setCell gB _, h.base, ?_, ?_, ?_, ?_, ?_⟩
  · simp only [World.setCell, Array.size_modify]
    exact Nat.le_trans h.top (Nat.le_trans hb6.size hg.size)
  · have := own_set1 (i := pre.length) r7 (.slice a7 (z.es.length + 1) c7)
    rw [List.length_append]
    have e1 : (rv listKind (pre ++ [z])).set pre.length (.slice a7 (z.es.length + 1) c7) = rv listKind (pre ++ [⟨a7, c7, z.es ++ [x]⟩]) := by
      rw [rv_list, rv_list, List.map_append, List.map_append]
      rw [List.set_append_right _ _ (by simp)]
      simp
    rw [e1] at this
    exact this
  · rw [List.dropLast_concat]
    intro u hu
    obtain ⟨h1, h2⟩ := hE u hu
    have h3 := own_block (w' := w6) h1 (fun j hj => hb6.block j (own_size h1 hj))
    have h4 : w7.ownsRow w.heap.size 36 4 (.slice u.p u.es.length u.c) u.es.length (rv entKind u.es) := own_block h3 (fun j hj => hg.block j (own_size h3 hj) (fun e => by have a1 := h2 j hj; have a2 := (l6.lt j e.symm).1; omega))
    exact ⟨own_tagged h4 hcs (by decide), h2⟩
  · intro u hu
    rw [List.getLast?_concat] at hu
    cases hu
    show World.ownsRow _ S 36 4 (.slice a7 (z.es ++ [x]).length c7) (z.es ++ [x]).length (rv entKind (z.es ++ [x]))
    rw [List.length_append, List.length_singleton, rv_append]
    exact own_tagged ho hcs (by decide)
  · have hv := h.val
    rw [List.map_append] at hv
    rw [List.map_append, List.take_add_one, hx]
    exact (Mg.parts_grow _ _ y _ z.es hy hq hv.symm).symm
theorem GrpI.held {w : World} {q : EV → EV → Bool} {es : List EV} {k : Nat} {os : List LV} {v : Value} {S : Nat} {wr : World} (h : GrpI w q es k os v S wr) (hh : ∀ x ∈ es, entKind.held wr x) : ∀ y ∈ os, listKind.held wr y ∧ y.c ≤ maxLen := fun y hy => by
  obtain ⟨ao, c, e, h1, h2⟩ := RSrc.own entKind_ok (h.all y hy) (fun x hx => hh x (by
    have : x ∈ (os.map (·.es)).flatten := List.mem_flatten.2 ⟨y.es, List.mem_map.2 ⟨y, hy, rfl⟩, hx⟩
    rw [h.val, Mg.parts_flat] at this
    exact List.mem_of_mem_take this))
  cases e
  exact ⟨h1, h2⟩

set_option maxHeartbeats 2500000 in
set_option maxRecDepth 100000 in
theorem rgroups_any (ao : Option Addr) (n c : Nat) (es : List EV) (w : World) (hs : RSrc entKind w ao n c es) (hn : n ≤ 1000000) :
    Calls Try.prog 31 #[.slice ao n c] w fun e w' => ∃ v os, e = .returned v ∧ w'.ownsRow w.heap.size 24 1 v os.length (rv listKind os) ∧ (∀ y ∈ os, listKind.held w' y ∧ y.c ≤ maxLen) ∧ os.map (·.es) = Mg.parts (fun x y => Mg.oneKey x.e y.e) es ∧ os.length ≤ n ∧ Below w.heap.size w w' := by
  obtain ⟨i0, hi0, hz0, hz1, hz2⟩ := info_parts3 infoE
  obtain ⟨j0, hj0, hy0, hy1, hy2⟩ := info_parts3 infoL
  have HS := keep hs
  have HLEN := keep hs.len
  have hcap := hs.cap
  clear hs
  obtain ⟨q, hqd⟩ : ∃ q : EV → EV → Bool, q = fun x y => Mg.oneKey x.e y.e := ⟨_, rfl⟩
  have HQ := keep hqd
  rw [← hqd]
  clear hqd
  go_enter Try.func31, Try.ntmps31
  go_wp2
  go_loopw [3, 4] (fun v i wr => ∃ (k : Nat) (os : List LV) (S : Nat), k ≤ n ∧ i = .int .i64 (k : Int) ∧ Hid (GrpI w q es k os v S wr)) (fun _ i _ => n - (intOf i).toNat)
  case atStart => exact ⟨0, [], w.heap.size, Nat.zero_le _, rfl, GrpI.start w q es⟩
  case round =>
    obtain ⟨k, os, S, hk, rfl, hI⟩ := hrel
    have HB := keep hI.out.below
    have hon := hI.out.num
    by_cases hkn : k < n
    · obtain ⟨b, off, rfl, _, _⟩ := HS.out.form entKind_ok (by omega)
      obtain ⟨x, hx⟩ : ∃ x, es[k]? = some x := ⟨es[k]'(by rw [HLEN.out]; exact hkn), List.getElem?_eq_getElem _⟩
      have HX := keep hx
      have xm := List.mem_of_getElem? hx
      have SR := keep (HS.out.below entKind_ok HB.out)
      obtain ⟨p0, p1, p2, p3⟩ := ent_cells SR.out hx
      have XH := keep (SR.out.held x xm)
      have ll : (k : Int) < (n : Int) := by omega
      have l0 : (0 : Int) ≤ (k : Int) := by omega
      clear hx xm
      obtain ⟨xkp, xkc, xvp, xvc, ⟨xkey, xseq, xgone, xval⟩⟩ := x
      simp only at p0 p1 p2 p3
      have KX : Hid (∀ w', Below wr.heap.size wr w' → _) := fun w' hb => conv_src (entKind_ok.below XH.out hb).1
      have CX : Hid (∀ w', Below wr.heap.size wr w' → w'.cell? ⟨b, off + k * 4, none⟩ = some (.slice xkp xkey.length xkc) ∧ w'.cell? ⟨b, off + k * 4 + 1, none⟩ = some (.int .i64 xseq) ∧ w'.cell? ⟨b, off + k * 4 + 2, none⟩ = some (.bool xgone) ∧ w'.cell? ⟨b, off + k * 4 + 3, none⟩ = some (.slice xvp xval.length xvc)) := fun w' hb => ⟨below_cell hb p0, below_cell hb p1, below_cell hb p2, below_cell hb p3⟩
      simp only at KX
      rcases Nat.eq_zero_or_pos k with hk0 | hk0
      · have HGT : Hid (k = 0) := hk0
        have QN : Hid (∀ y, (es.take k).getLast? = some y → q y ⟨xkp, xkc, xvp, xvc, ⟨xkey, xseq, xgone, xval⟩⟩ = false) := fun y h => by rw [hk0] at h; cases h
        clear hk0
        go_wp2_with fail
        refine wp_region_held_drew (S := fun w' => Below wr.heap.size wr w') (by kernel_rfl) ((Below.refl _ _).drew) (fun hZ => ?_)
        refine takeH (i := 0) 11 (v := .int .i64 (k : Int)) rfl rfl (by kernel_rfl) (by kernel_rfl) (by kernel_rfl) (fun _ _ _ h => h) (Or.inl ⟨by rfl, ?_⟩) (by assumption) ?_
        · intro w' hSw'
          go_simp
        simp only [Act.put, List.setIfInBounds_toArray, List.set_cons_zero, List.set_cons_succ]
        refine takeH (i := 1) 12 (v := .bool false) rfl rfl (by kernel_rfl) (by kernel_rfl) (by kernel_rfl) (fun _ _ _ h => h) (Or.inl ⟨by rfl, ?_⟩) (by assumption) ?_
        · intro w' hSw'
          go_simp
          exact HGT.out
        simp only [Act.put, List.setIfInBounds_toArray, List.set_cons_zero, List.set_cons_succ]
        refine takeH (i := 2) 13 (v := .bool false) rfl rfl (by kernel_rfl) (by kernel_rfl) (by kernel_rfl) (fun _ _ _ h => h) (Or.inl ⟨by rfl, ?_⟩) (by assumption) ?_
        · intro w' hSw'
          go_simp
        simp only [Act.put, List.setIfInBounds_toArray, List.set_cons_zero, List.set_cons_succ]
        refine takeH (i := 3) 14 (v := undef) rfl rfl (by kernel_rfl) (by kernel_rfl) (by kernel_rfl) (fun _ _ _ h => h) (Or.inr ⟨by rfl, rfl⟩) (by assumption) ?_
        simp only [Act.put, List.setIfInBounds_toArray, List.set_cons_zero, List.set_cons_succ]
        refine takeH (i := 4) 15 (v := undef) rfl rfl (by kernel_rfl) (by kernel_rfl) (by kernel_rfl) (fun _ _ _ h => h) (Or.inr ⟨by rfl, rfl⟩) (by assumption) ?_
        simp only [Act.put, List.setIfInBounds_toArray, List.set_cons_zero, List.set_cons_succ]
        refine takeH (i := 5) 16 (v := undef) rfl rfl (by kernel_rfl) (by kernel_rfl) (by kernel_rfl) (fun _ _ _ h => h) (Or.inr ⟨by rfl, rfl⟩) (by assumption) ?_
        simp only [Act.put, List.setIfInBounds_toArray, List.set_cons_zero, List.set_cons_succ]
        refine takeH (i := 6) 17 (v := undef) rfl rfl (by kernel_rfl) (by kernel_rfl) (by kernel_rfl) (fun _ _ _ h => h) (Or.inr ⟨by rfl, rfl⟩) (by assumption) ?_
        simp only [Act.put, List.setIfInBounds_toArray, List.set_cons_zero, List.set_cons_succ]
        refine takeH (i := 7) 18 (v := undef) rfl rfl (by kernel_rfl) (by kernel_rfl) (by kernel_rfl) (fun _ _ _ h => h) (Or.inr ⟨by rfl, rfl⟩) (by assumption) ?_
        simp only [Act.put, List.setIfInBounds_toArray, List.set_cons_zero, List.set_cons_succ]
        refine takeH (i := 8) 19 (v := undef) rfl rfl (by kernel_rfl) (by kernel_rfl) (by kernel_rfl) (fun _ _ _ h => h) (Or.inr ⟨by rfl, rfl⟩) (by assumption) ?_
        simp only [Act.put, List.setIfInBounds_toArray, List.set_cons_zero, List.set_cons_succ]
        refine takeH (i := 9) 20 (v := undef) rfl rfl (by kernel_rfl) (by kernel_rfl) (by kernel_rfl) (fun _ _ _ h => h) (Or.inr ⟨by rfl, rfl⟩) (by assumption) ?_
        simp only [Act.put, List.setIfInBounds_toArray, List.set_cons_zero, List.set_cons_succ]
        refine takeH (i := 10) 21 (v := undef) rfl rfl (by kernel_rfl) (by kernel_rfl) (by kernel_rfl) (fun _ _ _ h => h) (Or.inr ⟨by rfl, rfl⟩) (by assumption) ?_
        simp only [Act.put, List.setIfInBounds_toArray, List.set_cons_zero, List.set_cons_succ]
        refine takeH (i := 11) 0x16 (v := undef) rfl rfl (by kernel_rfl) (by kernel_rfl) (by kernel_rfl) (fun _ _ _ h => h) (Or.inr ⟨by rfl, rfl⟩) (by assumption) ?_
        simp only [Act.put, List.setIfInBounds_toArray, List.set_cons_zero, List.set_cons_succ]
        refine takeH (i := 12) 23 (v := undef) rfl rfl (by kernel_rfl) (by kernel_rfl) (by kernel_rfl) (fun _ _ _ h => h) (Or.inr ⟨by rfl, rfl⟩) (by assumption) ?_
        simp only [Act.put, List.setIfInBounds_toArray, List.set_cons_zero, List.set_cons_succ]
        refine takeH (i := 13) 24 (v := undef) rfl rfl (by kernel_rfl) (by kernel_rfl) (by kernel_rfl) (fun _ _ _ h => h) (Or.inr ⟨by rfl, rfl⟩) (by assumption) ?_
        simp only [Act.put, List.setIfInBounds_toArray, List.set_cons_zero, List.set_cons_succ]
        refine takeH (i := 14) 25 (v := undef) rfl rfl (by kernel_rfl) (by kernel_rfl) (by kernel_rfl) (fun _ _ _ h => h) (Or.inr ⟨by rfl, rfl⟩) (by assumption) ?_
        simp only [Act.put, List.setIfInBounds_toArray, List.set_cons_zero, List.set_cons_succ]
        refine takeH (i := 15) 26 (v := undef) rfl rfl (by kernel_rfl) (by kernel_rfl) (by kernel_rfl) (fun _ _ _ h => h) (Or.inr ⟨by rfl, rfl⟩) (by assumption) ?_
        simp only [Act.put, List.setIfInBounds_toArray, List.set_cons_zero, List.set_cons_succ]
        refine takeH (i := 16) 27 (v := undef) rfl rfl (by kernel_rfl) (by kernel_rfl) (by kernel_rfl) (fun _ _ _ h => h) (Or.inr ⟨by rfl, rfl⟩) (by assumption) ?_
        simp only [Act.put, List.setIfInBounds_toArray, List.set_cons_zero, List.set_cons_succ]
        refine takeH (i := 17) 28 (v := .bool false) rfl rfl (by kernel_rfl) (by kernel_rfl) (by kernel_rfl) (fun _ _ _ h => h) (Or.inl ⟨by rfl, ?_⟩) (by assumption) ?_
        · intro w' hSw'
          go_simp
        simp only [Act.put, List.setIfInBounds_toArray, List.set_cons_zero, List.set_cons_succ]
        refine wpAnyH_done (by kernel_rfl) ?_ _
        obtain ⟨w5, hw5⟩ : ∃ w5, w5 = wr.drew := ⟨_, rfl⟩
        rw [← hw5]
        have b5 : Hid (Below wr.heap.size wr w5) := by rw [hw5]; exact (Below.refl _ _).drew
        have I5 := keep (hI.out.to b5.out)
        have B5 := keep I5.out.below
        obtain ⟨x0, x1, x2, x3⟩ := CX.out w5 b5.out
        have O3 := keep ((I5.out.row.alloc (.cells (entKind.vals ⟨xkp, xkc, xvp, xvc, ⟨xkey, xseq, xgone, xval⟩⟩).toArray 36)).alloc (.cells #[.slice (some ⟨w5.heap.size, 0, none⟩) 1 1] 24))
        have rc := keep (rec_cells (k := listKind) (w5.alloc (.cells (entKind.vals ⟨xkp, xkc, xvp, xvc, ⟨xkey, xseq, xgone, xval⟩⟩).toArray 36)) 24 ⟨some ⟨w5.heap.size, 0, none⟩, 1, [⟨xkp, xkc, xvp, xvc, ⟨xkey, xseq, xgone, xval⟩⟩]⟩)
        have FR := keep (fun (o : Obj) (w6 : World) (v5 : Value) h1 h2 => I5.out.fresh (x := ⟨xkp, xkc, xvp, xvc, ⟨xkey, xseq, xgone, xval⟩⟩) (o := o) (w5 := w6) (v5 := v5) h1 h2 HX.out QN.out)
        simp only [World.size_alloc] at rc
        clear hw5 p0 p1 p2 p3 hI
        go_wp2_with (at_builtin; go_loud (refine wpList_append_rec listKind_ok rfl _ _ 22 24 rfl w.heap.size j0 _ 24 Try.underlying22 hj0 hy0 hy1 hy2 rfl u3 os.length os rfl O3.out _ 1 (⟨some ⟨w5.heap.size, 0, none⟩, 1, [⟨xkp, xkc, xvp, xvc, ⟨xkey, xseq, xgone, xval⟩⟩]⟩ : LV) rfl rc.out (by unfold maxLen; omega) (by omega) (Nat.le_trans B5.out.size (by rw [World.size_alloc, World.size_alloc]; omega)) ?_); intro v5 w6 ho5 hg5; have FN := keep (FR.out _ w6 v5 ho5 hg5); clear ho5 hg5)
        go_roundw
        case rel => exact ⟨k + 1, _, _, by omega, by go_num, FN.out⟩
        case measure => simp [intOf]; omega
      · obtain ⟨j, hj⟩ : ∃ j, k = j + 1 := ⟨k - 1, by omega⟩
        obtain ⟨z, hz⟩ : ∃ z, es[j]? = some z := ⟨es[j]'(by rw [HLEN.out]; omega), List.getElem?_eq_getElem _⟩
        have LZ : Hid ((es.take k).getLast? = some z) := by
          show _ = _
          rw [hj, List.take_add_one, hz]
          exact List.getLast?_concat ..
        have HGT : Hid (0 < k) := hk0
        have SUB : Hid (IntKind.i64.wrap ((k : Int) - 1) = (j : Int)) := by show _ = _; rw [wrap_small _ (by omega) (by omega)]; omega
        obtain ⟨z0, z1, z2, z3⟩ := ent_cells SR.out hz
        have ZH := keep (SR.out.held z (List.mem_of_getElem? hz))
        have m0 : (0 : Int) ≤ (j : Int) := by omega
        have m1 : (j : Int) < (n : Int) := by omega
        have HJ := keep hj
        have hjb : j ≤ 1000000 := by omega
        clear hj hz hk0
        obtain ⟨zkp, zkc, zvp, zvc, ⟨zkey, zseq, zgone, zval⟩⟩ := z
        simp only at z0 z1 z2 z3
        have KZ : Hid (∀ w', Below wr.heap.size wr w' → _) := fun w' hb => conv_src (entKind_ok.below ZH.out hb).1
        have CZ : Hid (∀ w', Below wr.heap.size wr w' → w'.cell? ⟨b, off + j * 4, none⟩ = some (.slice zkp zkey.length zkc) ∧ w'.cell? ⟨b, off + j * 4 + 1, none⟩ = some (.int .i64 zseq) ∧ w'.cell? ⟨b, off + j * 4 + 2, none⟩ = some (.bool zgone) ∧ w'.cell? ⟨b, off + j * 4 + 3, none⟩ = some (.slice zvp zval.length zvc)) := fun w' hb => ⟨below_cell hb z0, below_cell hb z1, below_cell hb z2, below_cell hb z3⟩
        simp only at KZ
        clear z0 z1 z2 z3
        by_cases hq : zkey = xkey
        · have HEQ : Hid ((zkey == xkey) = true) := by show _ = _; simpa using hq
          have QY : Hid (q ⟨zkp, zkc, zvp, zvc, ⟨zkey, zseq, zgone, zval⟩⟩ ⟨xkp, xkc, xvp, xvc, ⟨xkey, xseq, xgone, xval⟩⟩ = true) := by rw [HQ.out]; exact decide_eq_true hq
          clear hq
          go_wp2_with fail
          refine wp_region_held_drew (S := fun w' => Below wr.heap.size wr w') (by kernel_rfl) ((Below.refl _ _).drew) (fun hZ => ?_)
          refine takeH (i := 0) 11 (v := .int .i64 (k : Int)) rfl rfl (by kernel_rfl) (by kernel_rfl) (by kernel_rfl) (fun _ _ _ h => h) (Or.inl ⟨by rfl, ?_⟩) (by assumption) ?_
          · intro w' hSw'
            go_simp
          simp only [Act.put, List.setIfInBounds_toArray, List.set_cons_zero, List.set_cons_succ]
          refine takeH (i := 1) 12 (v := .bool true) rfl rfl (by kernel_rfl) (by kernel_rfl) (by kernel_rfl) (fun _ _ _ h => h) (Or.inl ⟨by rfl, ?_⟩) (by assumption) ?_
          · intro w' hSw'
            go_simp
            exact HGT.out
          simp only [Act.put, List.setIfInBounds_toArray, List.set_cons_zero, List.set_cons_succ]
          refine takeH (i := 2) 13 (v := .bool true) rfl rfl (by kernel_rfl) (by kernel_rfl) (by kernel_rfl) (fun _ _ _ h => h) (Or.inl ⟨by rfl, ?_⟩) (by assumption) ?_
          · intro w' hSw'
            go_simp
          simp only [Act.put, List.setIfInBounds_toArray, List.set_cons_zero, List.set_cons_succ]
          refine takeH (i := 3) 14 (v := .slice (some ⟨b, off, none⟩) n c) rfl rfl (by kernel_rfl) (by kernel_rfl) (by kernel_rfl) (fun _ _ _ h => h) (Or.inl ⟨by rfl, ?_⟩) (by assumption) ?_
          · intro w' hSw'
            go_simp
          simp only [Act.put, List.setIfInBounds_toArray, List.set_cons_zero, List.set_cons_succ]
          refine takeH (i := 4) 15 (v := .int .i64 (k : Int)) rfl rfl (by kernel_rfl) (by kernel_rfl) (by kernel_rfl) (fun _ _ _ h => h) (Or.inl ⟨by rfl, ?_⟩) (by assumption) ?_
          · intro w' hSw'
            go_simp
          simp only [Act.put, List.setIfInBounds_toArray, List.set_cons_zero, List.set_cons_succ]
          refine takeH (i := 5) 16 (v := .int .i64 (j : Int)) rfl rfl (by kernel_rfl) (by kernel_rfl) (by kernel_rfl) (fun _ _ _ h => h) (Or.inl ⟨by rfl, ?_⟩) (by assumption) ?_
          · intro w' hSw'
            have q9 := SUB.out
            go_simp
          simp only [Act.put, List.setIfInBounds_toArray, List.set_cons_zero, List.set_cons_succ]
          refine takeH (i := 6) 17 (v := .pointer (some ⟨b, off + j * 4, none⟩)) rfl rfl (by kernel_rfl) (by kernel_rfl) (by kernel_rfl) (fun _ _ _ h => h) (Or.inl ⟨by rfl, ?_⟩) (by assumption) ?_
          · intro w' hSw'
            go_simp
          simp only [Act.put, List.setIfInBounds_toArray, List.set_cons_zero, List.set_cons_succ]
          refine takeH (i := 7) 18 (v := .pointer (some ⟨b, off + j * 4, none⟩)) rfl rfl (by kernel_rfl) (by kernel_rfl) (by kernel_rfl) (fun _ _ _ h => h) (Or.inl ⟨by rfl, ?_⟩) (by assumption) ?_
          · intro w' hSw'
            go_simp
          simp only [Act.put, List.setIfInBounds_toArray, List.set_cons_zero, List.set_cons_succ]
          refine takeH (i := 8) 19 (v := .slice zkp zkey.length zkc) rfl rfl (by kernel_rfl) (by kernel_rfl) (by kernel_rfl) (fun _ _ _ h => h) (Or.inl ⟨by rfl, ?_⟩) (by assumption) ?_
          · intro w' hSw'
            obtain ⟨y0, y1, y2, y3⟩ := CZ.out w' hSw'
            go_simp
          simp only [Act.put, List.setIfInBounds_toArray, List.set_cons_zero, List.set_cons_succ]
          refine takeH (i := 9) 20 (v := .string ⟨zkey.toArray⟩) rfl rfl (by kernel_rfl) (by kernel_rfl) (by kernel_rfl) (fun _ _ _ h => h) (Or.inl ⟨by rfl, ?_⟩) (by assumption) ?_
          · intro w' hSw'
            have q9 := KZ.out w' hSw'
            go_simp
          simp only [Act.put, List.setIfInBounds_toArray, List.set_cons_zero, List.set_cons_succ]
          refine takeH (i := 10) 21 (v := .slice (some ⟨b, off, none⟩) n c) rfl rfl (by kernel_rfl) (by kernel_rfl) (by kernel_rfl) (fun _ _ _ h => h) (Or.inl ⟨by rfl, ?_⟩) (by assumption) ?_
          · intro w' hSw'
            go_simp
          simp only [Act.put, List.setIfInBounds_toArray, List.set_cons_zero, List.set_cons_succ]
          refine takeH (i := 11) 0x16 (v := .int .i64 (k : Int)) rfl rfl (by kernel_rfl) (by kernel_rfl) (by kernel_rfl) (fun _ _ _ h => h) (Or.inl ⟨by rfl, ?_⟩) (by assumption) ?_
          · intro w' hSw'
            go_simp
          simp only [Act.put, List.setIfInBounds_toArray, List.set_cons_zero, List.set_cons_succ]
          refine takeH (i := 12) 23 (v := .pointer (some ⟨b, off + k * 4, none⟩)) rfl rfl (by kernel_rfl) (by kernel_rfl) (by kernel_rfl) (fun _ _ _ h => h) (Or.inl ⟨by rfl, ?_⟩) (by assumption) ?_
          · intro w' hSw'
            go_simp
          simp only [Act.put, List.setIfInBounds_toArray, List.set_cons_zero, List.set_cons_succ]
          refine takeH (i := 13) 24 (v := .pointer (some ⟨b, off + k * 4, none⟩)) rfl rfl (by kernel_rfl) (by kernel_rfl) (by kernel_rfl) (fun _ _ _ h => h) (Or.inl ⟨by rfl, ?_⟩) (by assumption) ?_
          · intro w' hSw'
            go_simp
          simp only [Act.put, List.setIfInBounds_toArray, List.set_cons_zero, List.set_cons_succ]
          refine takeH (i := 14) 25 (v := .slice xkp xkey.length xkc) rfl rfl (by kernel_rfl) (by kernel_rfl) (by kernel_rfl) (fun _ _ _ h => h) (Or.inl ⟨by rfl, ?_⟩) (by assumption) ?_
          · intro w' hSw'
            obtain ⟨y0, y1, y2, y3⟩ := CX.out w' hSw'
            go_simp
          simp only [Act.put, List.setIfInBounds_toArray, List.set_cons_zero, List.set_cons_succ]
          refine takeH (i := 15) 26 (v := .string ⟨xkey.toArray⟩) rfl rfl (by kernel_rfl) (by kernel_rfl) (by kernel_rfl) (fun _ _ _ h => h) (Or.inl ⟨by rfl, ?_⟩) (by assumption) ?_
          · intro w' hSw'
            have q9 := KX.out w' hSw'
            go_simp
          simp only [Act.put, List.setIfInBounds_toArray, List.set_cons_zero, List.set_cons_succ]
          refine takeH (i := 16) 27 (v := .bool true) rfl rfl (by kernel_rfl) (by kernel_rfl) (by kernel_rfl) (fun _ _ _ h => h) (Or.inl ⟨by rfl, ?_⟩) (by assumption) ?_
          · intro w' hSw'
            have q9 := HEQ.out
            go_simp
          simp only [Act.put, List.setIfInBounds_toArray, List.set_cons_zero, List.set_cons_succ]
          refine takeH (i := 17) 28 (v := .bool true) rfl rfl (by kernel_rfl) (by kernel_rfl) (by kernel_rfl) (fun _ _ _ h => h) (Or.inl ⟨by rfl, ?_⟩) (by assumption) ?_
          · intro w' hSw'
            go_simp
          simp only [Act.put, List.setIfInBounds_toArray, List.set_cons_zero, List.set_cons_succ]
          refine wpAnyH_done (by kernel_rfl) ?_ _
          rcases List.eq_nil_or_concat os with h0 | ⟨pre, t, h0⟩
          · have hv := hI.out.val
            rw [h0] at hv
            have h1 := congrArg (fun l => l.flatten.length) hv
            simp only [List.map_nil, List.flatten_nil, List.length_nil, Mg.parts_flat, List.length_take, HLEN.out] at h1
            have := HJ.out
            omega
          · rw [List.concat_eq_append] at h0
            obtain ⟨P, hP⟩ : ∃ P, pre.length = P := ⟨_, rfl⟩
            have OLEN : Hid (os.length = P + 1) := by show _ = _; rw [h0, List.length_append, hP]; rfl
            obtain ⟨L, hL⟩ : ∃ L, L = P + 1 := ⟨_, rfl⟩
            have hLn : L ≤ 1000000 := by have := OLEN.out; omega
            obtain ⟨zp, zc, zes⟩ := t
            obtain ⟨g5, c5, hv0⟩ : ∃ g cap, u3 = .slice (some ⟨g, 0, none⟩) L cap := by
              rcases hI.out.row.2 with ⟨_, h1⟩ | ⟨g, cap, cur, e, _⟩
              · have := OLEN.out; omega
              · exact ⟨g, cap, by rw [e, OLEN.out, hL]⟩
            have GI := hI.out
            rw [h0, hv0] at GI
            have GK := keep GI
            have zc0 : wr.cell? ⟨g5, P, none⟩ = some (.slice zp zes.length zc) := by
              have h1 := hI.out.row
              rw [hv0, OLEN.out, h0] at h1
              rw [← hL] at h1
              have := h1.cells rfl P (.slice zp zes.length zc) (by rw [rv_list, List.map_append, List.getElem?_append_right (by rw [List.length_map, hP]; exact Nat.le_refl _), List.length_map, hP, Nat.sub_self]; rfl)
              rwa [Addr.add_mid, Nat.zero_add] at this
            have ZN : Hid (zes.length ≤ 1000000) := by
              have hv := GK.out.val
              have h1 := congrArg (fun l => l.flatten.length) hv
              simp only [List.map_append, List.map_cons, List.map_nil, List.flatten_append, List.flatten_cons, List.flatten_nil, List.length_append, List.length_nil, Mg.parts_flat, List.length_take, HLEN.out] at h1
              show _ ≤ _
              omega
            have ZR : Hid (wr.ownsRow S 36 4 (.slice zp zes.length zc) zes.length (rv entKind zes)) := GK.out.last ⟨zp, zc, zes⟩ (List.getLast?_concat ..)
            obtain ⟨Z, hZ⟩ : ∃ Z, zes.length = Z := ⟨_, rfl⟩
            rw [hZ] at zc0 ZN ZR
            have HZ := keep hZ
            have HP := keep hP
            have HL := keep hL
            have HTOP := keep GK.out.top
            have HBASE := keep GK.out.base
            have SUBL : Hid (IntKind.i64.wrap ((L : Int) - 1) = (P : Int)) := by show _ = _; rw [wrap_small _ (by omega) (by omega)]; omega
            have q0 : (0 : Int) ≤ (P : Int) := by omega
            have q1 : (P : Int) < (L : Int) := by omega
            have znn := ZN.out
            rw [hv0]
            clear h0 hP hL hZ hv0 GI hI
            obtain ⟨w5, hw5⟩ : ∃ w5, w5 = wr.drew := ⟨_, rfl⟩
            rw [← hw5]
            have b5 : Hid (Below wr.heap.size wr w5) := by rw [hw5]; exact (Below.refl _ _).drew
            have s5 : Hid (w5.heap.size = wr.heap.size) := by rw [hw5]; rfl
            have zcell := below_cell b5.out zc0
            obtain ⟨x0, x1, x2, x3⟩ := CX.out w5 b5.out
            obtain ⟨X3, hX3⟩ : ∃ X3, w5.drew.alloc (.cells #[.slice xkp xkey.length xkc, .int .i64 xseq, .bool xgone, .slice xvp xval.length xvc] 36) = X3 := ⟨_, rfl⟩
            have b6 : Hid (Below w5.heap.size w5 X3) := by rw [← hX3]; exact (Below.refl _ _).drew.alloc (Nat.le_refl _) _
            have b6r : Hid (Below wr.heap.size wr X3) := b5.out.trans (b6.out.mono b5.out.size)
            have XS : Hid (RSrc entKind X3 (some ⟨w5.heap.size, 0, none⟩) 1 1 [⟨xkp, xkc, xvp, xvc, ⟨xkey, xseq, xgone, xval⟩⟩]) := by rw [← hX3]; exact RSrc.built1 (w := w5.drew) (entKind_ok.below XH.out (b5.out.drew))
            have ZR6 : Hid (X3.ownsRow S 36 4 (.slice zp Z zc) Z (rv entKind zes)) := own_block ZR.out (fun g hg => b6r.out.block g (own_size ZR.out hg))
            have OFF : Hid (∀ w7, X3.grownBy w7 (Value.slice zp Z zc).ownBlock → w7.frozen? ⟨g5, P, none⟩ = false ∧ w7.cell? ⟨g5, P, none⟩ = some (.slice zp Z zc) ∧ w7.cell? ⟨b, off + k * 4, none⟩ = some (.slice xkp xkey.length xkc) ∧ w7.cell? ⟨b, off + k * 4 + 1, none⟩ = some (.int .i64 xseq) ∧ w7.cell? ⟨b, off + k * 4 + 2, none⟩ = some (.bool xgone) ∧ w7.cell? ⟨b, off + k * 4 + 3, none⟩ = some (.slice xvp xval.length xvc)) := fun w7 hg => by
              have h1 := GK.out.row
              have h2 := own_block (w' := X3) h1 (fun g hg => b6r.out.block g (own_size h1 hg))
              have h3 := own_apartT h2 ZR6.out hg (by decide)
              obtain ⟨cs, hcs⟩ := own_tag h3 rfl
              have B7 : Below w.heap.size w w7 := (HB.out.trans (b6r.out.mono HB.out.size)).grown hg (Nat.le_trans HB.out.size b6r.out.size) (fun j hj => Nat.le_trans HBASE.out (ZR6.out.lt j hj).1)
              obtain ⟨c0, c1, c2, c3⟩ := ent_cells (HS.out.below entKind_ok B7) HX.out
              refine ⟨by simp [World.frozen?, hcs], ?_, c0, c1, c2, c3⟩
              have := h3.cells rfl P (.slice zp Z zc) (by rw [rv_list, List.map_append, List.getElem?_append_right (by rw [List.length_map, HP.out]; exact Nat.le_refl _), List.length_map, HP.out, Nat.sub_self, ← HZ.out]; rfl)
              rwa [Addr.add_mid, Nat.zero_add] at this
            have s6 := OFF.out X3 (World.grownBy.refl _ _)
            clear hw5 p0 p1 p2 p3
            go_wp2_with fail
            refine wp_region_parted (fun w' => w'.cell? ⟨g5, P, none⟩ = some (.slice zp Z zc) ∧ w'.cell? ⟨b, off + k * 4, none⟩ = some (.slice xkp xkey.length xkc) ∧ w'.cell? ⟨b, off + k * 4 + 1, none⟩ = some (.int .i64 xseq) ∧ w'.cell? ⟨b, off + k * 4 + 2, none⟩ = some (.bool xgone) ∧ w'.cell? ⟨b, off + k * 4 + 3, none⟩ = some (.slice xvp xval.length xvc)) 17 _ (by kernel_rfl) rfl rfl rfl (by kernel_rfl) (by kernel_rfl) (by exact ⟨zcell, x0, x1, x2, x3⟩) (fun hHeld => ?_)
            simp only [List.setIfInBounds_toArray, List.set_cons_succ, List.set_cons_zero, mute]
            refine takeH (i := 0) 29 (v := .slice (some ⟨g5, 0, none⟩) L c5) rfl rfl (by kernel_rfl) (by kernel_rfl) (by kernel_rfl) (fun _ _ _ h => h) (Or.inl ⟨by rfl, ?_⟩) (by assumption) ?_
            · intro w' hSw'
              go_simp
            simp only [Act.put, List.setIfInBounds_toArray, List.set_cons_zero, List.set_cons_succ]
            refine takeH (i := 1) 30 (v := .slice (some ⟨g5, 0, none⟩) L c5) rfl rfl (by kernel_rfl) (by kernel_rfl) (by kernel_rfl) (fun _ _ _ h => h) (Or.inl ⟨by rfl, ?_⟩) (by assumption) ?_
            · intro w' hSw'
              go_simp
            simp only [Act.put, List.setIfInBounds_toArray, List.set_cons_zero, List.set_cons_succ]
            refine takeH (i := 2) 31 (v := .int .i64 (L : Int)) rfl rfl (by kernel_rfl) (by kernel_rfl) (by kernel_rfl) (fun _ _ _ h => h) (Or.inl ⟨by rfl, ?_⟩) (by assumption) ?_
            · intro w' hSw'
              go_simp
            simp only [Act.put, List.setIfInBounds_toArray, List.set_cons_zero, List.set_cons_succ]
            refine takeH (i := 3) 32 (v := .int .i64 (P : Int)) rfl rfl (by kernel_rfl) (by kernel_rfl) (by kernel_rfl) (fun _ _ _ h => h) (Or.inl ⟨by rfl, ?_⟩) (by assumption) ?_
            · intro w' hSw'
              have q9 := SUBL.out
              go_simp
            simp only [Act.put, List.setIfInBounds_toArray, List.set_cons_zero, List.set_cons_succ]
            refine takeH (i := 4) 33 (v := .slice (some ⟨g5, 0, none⟩) L c5) rfl rfl (by kernel_rfl) (by kernel_rfl) (by kernel_rfl) (fun _ _ _ h => h) (Or.inl ⟨by rfl, ?_⟩) (by assumption) ?_
            · intro w' hSw'
              go_simp
            simp only [Act.put, List.setIfInBounds_toArray, List.set_cons_zero, List.set_cons_succ]
            refine takeH (i := 5) 34 (v := .slice (some ⟨g5, 0, none⟩) L c5) rfl rfl (by kernel_rfl) (by kernel_rfl) (by kernel_rfl) (fun _ _ _ h => h) (Or.inl ⟨by rfl, ?_⟩) (by assumption) ?_
            · intro w' hSw'
              go_simp
            simp only [Act.put, List.setIfInBounds_toArray, List.set_cons_zero, List.set_cons_succ]
            refine takeH (i := 6) 35 (v := .int .i64 (L : Int)) rfl rfl (by kernel_rfl) (by kernel_rfl) (by kernel_rfl) (fun _ _ _ h => h) (Or.inl ⟨by rfl, ?_⟩) (by assumption) ?_
            · intro w' hSw'
              go_simp
            simp only [Act.put, List.setIfInBounds_toArray, List.set_cons_zero, List.set_cons_succ]
            refine takeH (i := 7) 36 (v := .int .i64 (P : Int)) rfl rfl (by kernel_rfl) (by kernel_rfl) (by kernel_rfl) (fun _ _ _ h => h) (Or.inl ⟨by rfl, ?_⟩) (by assumption) ?_
            · intro w' hSw'
              have q9 := SUBL.out
              go_simp
            simp only [Act.put, List.setIfInBounds_toArray, List.set_cons_zero, List.set_cons_succ]
            refine takeH (i := 8) 37 (v := .pointer (some ⟨g5, P, none⟩)) rfl rfl (by kernel_rfl) (by kernel_rfl) (by kernel_rfl) (fun _ _ _ h => h) (Or.inl ⟨by rfl, ?_⟩) (by assumption) ?_
            · intro w' hSw'
              go_simp
            simp only [Act.put, List.setIfInBounds_toArray, List.set_cons_zero, List.set_cons_succ]
            refine takeH (i := 9) 38 (v := .slice zp Z zc) rfl rfl (by kernel_rfl) (by kernel_rfl) (by kernel_rfl) (fun _ _ _ h => h) (Or.inl ⟨by rfl, ?_⟩) (by assumption) ?_
            · intro w' hSw'
              obtain ⟨y0, y1, y2, y3, y4⟩ := hSw'
              go_simp
            simp only [Act.put, List.setIfInBounds_toArray, List.set_cons_zero, List.set_cons_succ]
            refine takeH (i := 10) 39 (v := .slice (some ⟨b, off, none⟩) n c) rfl rfl (by kernel_rfl) (by kernel_rfl) (by kernel_rfl) (fun _ _ _ h => h) (Or.inl ⟨by rfl, ?_⟩) (by assumption) ?_
            · intro w' hSw'
              go_simp
            simp only [Act.put, List.setIfInBounds_toArray, List.set_cons_zero, List.set_cons_succ]
            refine takeH (i := 11) 40 (v := .int .i64 (k : Int)) rfl rfl (by kernel_rfl) (by kernel_rfl) (by kernel_rfl) (fun _ _ _ h => h) (Or.inl ⟨by rfl, ?_⟩) (by assumption) ?_
            · intro w' hSw'
              go_simp
            simp only [Act.put, List.setIfInBounds_toArray, List.set_cons_zero, List.set_cons_succ]
            refine takeH (i := 12) 41 (v := .pointer (some ⟨b, off + k * 4, none⟩)) rfl rfl (by kernel_rfl) (by kernel_rfl) (by kernel_rfl) (fun _ _ _ h => h) (Or.inl ⟨by rfl, ?_⟩) (by assumption) ?_
            · intro w' hSw'
              go_simp
            simp only [Act.put, List.setIfInBounds_toArray, List.set_cons_zero, List.set_cons_succ]
            refine takeH (i := 13) 42 (v := .agg #[.slice xkp xkey.length xkc, .int .i64 xseq, .bool xgone, .slice xvp xval.length xvc]) rfl rfl (by kernel_rfl) (by kernel_rfl) (by kernel_rfl) (fun _ _ _ h => h) (Or.inl ⟨by rfl, ?_⟩) (by assumption) ?_
            · intro w' hSw'
              obtain ⟨y0, y1, y2, y3, y4⟩ := hSw'
              go_simp
            simp only [Act.put, List.setIfInBounds_toArray, List.set_cons_zero, List.set_cons_succ]
            refine wpAnyH_ready (rs := [14]) (by kernel_rfl) (by simp) ?_
            refine AllReadyH.cons rfl (fun K hK => ?_) AllReadyH.nil
            go_simp
            refine hK.out _ _ s6.2 (fun hA1 => ?_)
            clear hK K
            refine wpAnyH_ready (rs := [15]) (by kernel_rfl) (by simp) ?_
            refine AllReadyH.cons rfl (fun K hK => ?_) AllReadyH.nil
            refine step_append_rows rfl _ _ 24 rfl S 36 i0 _ 4 64 Try.underlying24 hi0 hz0 hz1 hz2 rfl (by decide) (.slice zp Z zc) Z (rv entKind zes) rfl ZR6.out (some ⟨w5.heap.size, 0, none⟩) 1 1 (rv entKind [⟨xkp, xkc, xvp, xvc, ⟨xkey, xseq, xgone, xval⟩⟩]) rfl (fun h => by cases h) rfl XS.out.cells (rv_one entKind_ok _) (by unfold maxLen; omega) (by omega) (Nat.le_trans HTOP.out b6r.out.size) ?_
            intro a7 c7 w7 ho7 hg7
            obtain ⟨of7, oc7⟩ := OFF.out w7 hg7
            have FN := keep (GrpI.grow HP.out HZ.out HL.out GK.out b6r.out ho7 hg7 HX.out LZ.out QY.out)
            clear ho7 hg7
            refine hK.out _ _ oc7 (fun hA2 => ?_)
            clear hK K
            refine takeH (i := 16) 45 (v := .pointer (some ⟨g5, P, none⟩)) rfl rfl (by kernel_rfl) (by kernel_rfl) (by kernel_rfl) (fun _ _ _ h => h) (Or.inl ⟨by rfl, ?_⟩) (by assumption) ?_
            · intro w' hSw'
              go_simp
            simp only [Act.put, List.setIfInBounds_toArray]
            have oc8 := oc7.1
            refine wpAnyH_ready (rs := [17]) (by kernel_rfl) (by simp) ?_
            refine AllReadyH.cons rfl (fun K hK => ?_) AllReadyH.nil
            go_simp
            refine hK.out _ _ oc7 (fun hA3 => ?_)
            clear hK K
            refine wpAnyH_done (by kernel_rfl) ?_ _
            unfold LastQ
            go_simp
            go_wp2
            go_roundw
            case rel => exact ⟨k + 1, _, S, by omega, by go_num, FN⟩
            case measure => simp [intOf]; omega
        · have HEQ : Hid ((zkey == xkey) = false) := by show _ = _; simpa using hq
          have QN : Hid (∀ y, (es.take k).getLast? = some y → q y ⟨xkp, xkc, xvp, xvc, ⟨xkey, xseq, xgone, xval⟩⟩ = false) := fun y h => by
            rw [LZ.out] at h
            cases h
            rw [HQ.out]
            exact decide_eq_false hq
          clear hq
          go_wp2_with fail
          refine wp_region_held_drew (S := fun w' => Below wr.heap.size wr w') (by kernel_rfl) ((Below.refl _ _).drew) (fun hZ => ?_)
          refine takeH (i := 0) 11 (v := .int .i64 (k : Int)) rfl rfl (by kernel_rfl) (by kernel_rfl) (by kernel_rfl) (fun _ _ _ h => h) (Or.inl ⟨by rfl, ?_⟩) (by assumption) ?_
          · intro w' hSw'
            go_simp
          simp only [Act.put, List.setIfInBounds_toArray, List.set_cons_zero, List.set_cons_succ]
          refine takeH (i := 1) 12 (v := .bool true) rfl rfl (by kernel_rfl) (by kernel_rfl) (by kernel_rfl) (fun _ _ _ h => h) (Or.inl ⟨by rfl, ?_⟩) (by assumption) ?_
          · intro w' hSw'
            go_simp
            exact HGT.out
          simp only [Act.put, List.setIfInBounds_toArray, List.set_cons_zero, List.set_cons_succ]
          refine takeH (i := 2) 13 (v := .bool true) rfl rfl (by kernel_rfl) (by kernel_rfl) (by kernel_rfl) (fun _ _ _ h => h) (Or.inl ⟨by rfl, ?_⟩) (by assumption) ?_
          · intro w' hSw'
            go_simp
          simp only [Act.put, List.setIfInBounds_toArray, List.set_cons_zero, List.set_cons_succ]
          refine takeH (i := 3) 14 (v := .slice (some ⟨b, off, none⟩) n c) rfl rfl (by kernel_rfl) (by kernel_rfl) (by kernel_rfl) (fun _ _ _ h => h) (Or.inl ⟨by rfl, ?_⟩) (by assumption) ?_
          · intro w' hSw'
            go_simp
          simp only [Act.put, List.setIfInBounds_toArray, List.set_cons_zero, List.set_cons_succ]
          refine takeH (i := 4) 15 (v := .int .i64 (k : Int)) rfl rfl (by kernel_rfl) (by kernel_rfl) (by kernel_rfl) (fun _ _ _ h => h) (Or.inl ⟨by rfl, ?_⟩) (by assumption) ?_
          · intro w' hSw'
            go_simp
          simp only [Act.put, List.setIfInBounds_toArray, List.set_cons_zero, List.set_cons_succ]
          refine takeH (i := 5) 16 (v := .int .i64 (j : Int)) rfl rfl (by kernel_rfl) (by kernel_rfl) (by kernel_rfl) (fun _ _ _ h => h) (Or.inl ⟨by rfl, ?_⟩) (by assumption) ?_
          · intro w' hSw'
            have q9 := SUB.out
            go_simp
          simp only [Act.put, List.setIfInBounds_toArray, List.set_cons_zero, List.set_cons_succ]
          refine takeH (i := 6) 17 (v := .pointer (some ⟨b, off + j * 4, none⟩)) rfl rfl (by kernel_rfl) (by kernel_rfl) (by kernel_rfl) (fun _ _ _ h => h) (Or.inl ⟨by rfl, ?_⟩) (by assumption) ?_
          · intro w' hSw'
            go_simp
          simp only [Act.put, List.setIfInBounds_toArray, List.set_cons_zero, List.set_cons_succ]
          refine takeH (i := 7) 18 (v := .pointer (some ⟨b, off + j * 4, none⟩)) rfl rfl (by kernel_rfl) (by kernel_rfl) (by kernel_rfl) (fun _ _ _ h => h) (Or.inl ⟨by rfl, ?_⟩) (by assumption) ?_
          · intro w' hSw'
            go_simp
          simp only [Act.put, List.setIfInBounds_toArray, List.set_cons_zero, List.set_cons_succ]
          refine takeH (i := 8) 19 (v := .slice zkp zkey.length zkc) rfl rfl (by kernel_rfl) (by kernel_rfl) (by kernel_rfl) (fun _ _ _ h => h) (Or.inl ⟨by rfl, ?_⟩) (by assumption) ?_
          · intro w' hSw'
            obtain ⟨y0, y1, y2, y3⟩ := CZ.out w' hSw'
            go_simp
          simp only [Act.put, List.setIfInBounds_toArray, List.set_cons_zero, List.set_cons_succ]
          refine takeH (i := 9) 20 (v := .string ⟨zkey.toArray⟩) rfl rfl (by kernel_rfl) (by kernel_rfl) (by kernel_rfl) (fun _ _ _ h => h) (Or.inl ⟨by rfl, ?_⟩) (by assumption) ?_
          · intro w' hSw'
            have q9 := KZ.out w' hSw'
            go_simp
          simp only [Act.put, List.setIfInBounds_toArray, List.set_cons_zero, List.set_cons_succ]
          refine takeH (i := 10) 21 (v := .slice (some ⟨b, off, none⟩) n c) rfl rfl (by kernel_rfl) (by kernel_rfl) (by kernel_rfl) (fun _ _ _ h => h) (Or.inl ⟨by rfl, ?_⟩) (by assumption) ?_
          · intro w' hSw'
            go_simp
          simp only [Act.put, List.setIfInBounds_toArray, List.set_cons_zero, List.set_cons_succ]
          refine takeH (i := 11) 0x16 (v := .int .i64 (k : Int)) rfl rfl (by kernel_rfl) (by kernel_rfl) (by kernel_rfl) (fun _ _ _ h => h) (Or.inl ⟨by rfl, ?_⟩) (by assumption) ?_
          · intro w' hSw'
            go_simp
          simp only [Act.put, List.setIfInBounds_toArray, List.set_cons_zero, List.set_cons_succ]
          refine takeH (i := 12) 23 (v := .pointer (some ⟨b, off + k * 4, none⟩)) rfl rfl (by kernel_rfl) (by kernel_rfl) (by kernel_rfl) (fun _ _ _ h => h) (Or.inl ⟨by rfl, ?_⟩) (by assumption) ?_
          · intro w' hSw'
            go_simp
          simp only [Act.put, List.setIfInBounds_toArray, List.set_cons_zero, List.set_cons_succ]
          refine takeH (i := 13) 24 (v := .pointer (some ⟨b, off + k * 4, none⟩)) rfl rfl (by kernel_rfl) (by kernel_rfl) (by kernel_rfl) (fun _ _ _ h => h) (Or.inl ⟨by rfl, ?_⟩) (by assumption) ?_
          · intro w' hSw'
            go_simp
          simp only [Act.put, List.setIfInBounds_toArray, List.set_cons_zero, List.set_cons_succ]
          refine takeH (i := 14) 25 (v := .slice xkp xkey.length xkc) rfl rfl (by kernel_rfl) (by kernel_rfl) (by kernel_rfl) (fun _ _ _ h => h) (Or.inl ⟨by rfl, ?_⟩) (by assumption) ?_
          · intro w' hSw'
            obtain ⟨y0, y1, y2, y3⟩ := CX.out w' hSw'
            go_simp
          simp only [Act.put, List.setIfInBounds_toArray, List.set_cons_zero, List.set_cons_succ]
          refine takeH (i := 15) 26 (v := .string ⟨xkey.toArray⟩) rfl rfl (by kernel_rfl) (by kernel_rfl) (by kernel_rfl) (fun _ _ _ h => h) (Or.inl ⟨by rfl, ?_⟩) (by assumption) ?_
          · intro w' hSw'
            have q9 := KX.out w' hSw'
            go_simp
          simp only [Act.put, List.setIfInBounds_toArray, List.set_cons_zero, List.set_cons_succ]
          refine takeH (i := 16) 27 (v := .bool false) rfl rfl (by kernel_rfl) (by kernel_rfl) (by kernel_rfl) (fun _ _ _ h => h) (Or.inl ⟨by rfl, ?_⟩) (by assumption) ?_
          · intro w' hSw'
            have q9 := HEQ.out
            go_simp
          simp only [Act.put, List.setIfInBounds_toArray, List.set_cons_zero, List.set_cons_succ]
          refine takeH (i := 17) 28 (v := .bool false) rfl rfl (by kernel_rfl) (by kernel_rfl) (by kernel_rfl) (fun _ _ _ h => h) (Or.inl ⟨by rfl, ?_⟩) (by assumption) ?_
          · intro w' hSw'
            go_simp
          simp only [Act.put, List.setIfInBounds_toArray, List.set_cons_zero, List.set_cons_succ]
          refine wpAnyH_done (by kernel_rfl) ?_ _
          obtain ⟨w5, hw5⟩ : ∃ w5, w5 = wr.drew := ⟨_, rfl⟩
          rw [← hw5]
          have b5 : Hid (Below wr.heap.size wr w5) := by rw [hw5]; exact (Below.refl _ _).drew
          have I5 := keep (hI.out.to b5.out)
          have B5 := keep I5.out.below
          obtain ⟨x0, x1, x2, x3⟩ := CX.out w5 b5.out
          have O3 := keep ((I5.out.row.alloc (.cells (entKind.vals ⟨xkp, xkc, xvp, xvc, ⟨xkey, xseq, xgone, xval⟩⟩).toArray 36)).alloc (.cells #[.slice (some ⟨w5.heap.size, 0, none⟩) 1 1] 24))
          have rc := keep (rec_cells (k := listKind) (w5.alloc (.cells (entKind.vals ⟨xkp, xkc, xvp, xvc, ⟨xkey, xseq, xgone, xval⟩⟩).toArray 36)) 24 ⟨some ⟨w5.heap.size, 0, none⟩, 1, [⟨xkp, xkc, xvp, xvc, ⟨xkey, xseq, xgone, xval⟩⟩]⟩)
          have FR := keep (fun (o : Obj) (w6 : World) (v5 : Value) h1 h2 => I5.out.fresh (x := ⟨xkp, xkc, xvp, xvc, ⟨xkey, xseq, xgone, xval⟩⟩) (o := o) (w5 := w6) (v5 := v5) h1 h2 HX.out QN.out)
          simp only [World.size_alloc] at rc
          clear hw5 p0 p1 p2 p3 hI
          go_wp2_with (at_builtin; go_loud (refine wpList_append_rec listKind_ok rfl _ _ 22 24 rfl w.heap.size j0 _ 24 Try.underlying22 hj0 hy0 hy1 hy2 rfl u3 os.length os rfl O3.out _ 1 (⟨some ⟨w5.heap.size, 0, none⟩, 1, [⟨xkp, xkc, xvp, xvc, ⟨xkey, xseq, xgone, xval⟩⟩]⟩ : LV) rfl rc.out (by unfold maxLen; omega) (by omega) (Nat.le_trans B5.out.size (by rw [World.size_alloc, World.size_alloc]; omega)) ?_); intro v5 w6 ho5 hg5; have FN := keep (FR.out _ w6 v5 ho5 hg5); clear ho5 hg5)
          go_roundw
          case rel => exact ⟨k + 1, _, _, by omega, by go_num, FN.out⟩
          case measure => simp [intOf]; omega
    · obtain rfl : n = k := by omega
      have FI := hI.out.val
      rw [List.take_of_length_le (by rw [HLEN.out]; exact Nat.le_refl _)] at FI
      have FV := keep FI
      have FH := keep (hI.out.held (fun x hx => (HS.out.below entKind_ok HB.out).held x hx))
      have FR := keep hI.out.row
      clear FI hI
      go_wp2
      go_ret
      exact ⟨_, os, rfl, FR.out, FH.out, FV.out, hon, HB.out⟩
end Go.Proofs.Ytgdggeacjfhkkaa
