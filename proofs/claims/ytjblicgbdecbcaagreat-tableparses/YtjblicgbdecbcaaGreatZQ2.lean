/- The walk of table's keysOf. -/
import Derived.Test.YtjblicgbdecbcaaGreatZQ1j
import Derived.Test.YtjblicgbdecbcaaGreatZB0
namespace Go.Proofs.YtjblicgbdecbcaaGreat
open Go.RowKit
open Sk (Ent)

theorem info22q : (Tryz.prog.info? 24).map (fun i => (i.zero, i.size, i.bytes)) = some (some (.slice none 0 0), 1, 24) := by kernel_rfl
theorem info_parts22q {P : Program} {t : TypeId} {z : Value} {s b : Nat} (h : (P.info? t).map (fun i => (i.zero, i.size, i.bytes)) = some (some z, s, b)) : ∃ i, P.info? t = some i ∧ i.zero = some z ∧ i.size = s ∧ i.bytes = b := by
  cases hi : P.info? t with
  | none => rw [hi] at h; cases h
  | some i =>
    rw [hi] at h
    simp only [Option.map_some, Option.some.injEq, Prod.mk.injEq] at h
    exact ⟨i, rfl, h⟩
/-- The keys of the first k entries, as they are laid. -/
structure KeysI (w : World) (L : List Ent) (k : Nat) (bs : List ByteE) (v : Value) (wr : World) : Prop where
  row : wr.ownsRow w.heap.size 24 1 v bs.length (rv byteKind bs)
  each : ∀ e ∈ bs, byteKind.held w e
  keys : bs.map (·.bytes) = Tq.ks L k
  bel : Below w.heap.size w wr
  zero : k = 0 → v = .slice none 0 0
theorem KeysI.len {w : World} {L : List Ent} {k : Nat} {bs : List ByteE} {v : Value} {wr : World} (h : KeysI w L k bs v wr) : bs.length ≤ k := by
  have h1 := Tq.ks_le L k
  rw [← h.keys, List.length_map] at h1
  exact h1
theorem KeysI.same {w : World} {L : List Ent} {k : Nat} {bs : List ByteE} {v : Value} {wr w2 : World} (h : KeysI w L k bs v wr) (hb : Below wr.heap.size wr w2) (hn : Tq.isNew L k = false) : KeysI w L (k + 1) bs v w2 :=
  ⟨own_block h.row (fun g hg => hb.block g (own_size h.row hg)), h.each, by rw [h.keys, Tq.ks, hn]; simp, h.bel.trans (hb.mono h.bel.size), fun e => by omega⟩
theorem KeysI.more {w : World} {L : List Ent} {k : Nat} {bs : List ByteE} {v v2 : Value} {wr W w2 : World} {e : ByteE} {x : Ent} (h : KeysI w L k bs v wr) (hb : Below wr.heap.size wr W) (hn : Tq.isNew L k = true) (hx : L[k]? = some x) (he : e.bytes = x.key) (hh : byteKind.held w e)
    (ho : w2.ownsRow w.heap.size 24 1 v2 (bs.length + 1) (rv byteKind (bs ++ [e]))) (hg : W.grownBy w2 v.ownBlock) : KeysI w L (k + 1) (bs ++ [e]) v2 w2 := by
  refine ⟨by rw [List.length_append]; exact ho, fun y hy => ?_, ?_, ?_, fun e => by omega⟩
  · rcases List.mem_append.1 hy with hy | hy
    · exact h.each y hy
    · rw [List.mem_singleton.1 hy]; exact hh
  · rw [List.map_append, h.keys, Tq.ks, hn, hx]
    simp [he]
  · exact (h.bel.trans (hb.mono h.bel.size)).grown hg (Nat.le_trans h.bel.size hb.size) (fun j hj => (h.row.lt j hj).1)
set_option maxHeartbeats 4000000 in
set_option maxRecDepth 100000 in
theorem keysOf_any (ao : Option Addr) (n c : Nat) (es : List EV) (w : World) (hsrc : RSrc entKind w ao n c es) (hn : n ≤ 64) :
    Calls Tryz.prog 29 #[.slice ao n c] w fun e w' => ∃ v, e = .returned v ∧ ∃ bs, KeysI w (es.map (·.e)) n bs v w' := by
  obtain ⟨i0, hi0, hz0, hz1, hz2⟩ := info_parts22q info22q
  have HL : Hid (es.length = n) := hsrc.len
  have SRC := keep hsrc
  clear hsrc
  go_enter Tryz.func29, Tryz.ntmps29
  go_wp2
  go_loopw [3, 8] (fun v i wr => ∃ (k : Nat) (bs : List ByteE), k ≤ n ∧ i = .int .i64 (k : Int) ∧ Hid (KeysI w (es.map (·.e)) k bs v wr)) (fun _ i _ => n - (intOf i).toNat)
  case atStart => exact ⟨0, [], Nat.zero_le _, rfl, World.ownsRow_nil _ _ _ _, (fun e h => by cases h), rfl, Below.refl _ _, fun _ => rfl⟩
  case round =>
    obtain ⟨k, bs, hk, rfl, hI⟩ := hrel
    by_cases hkn : k < n
    · obtain ⟨b, off, rfl, _, _⟩ := SRC.out.form entKind_ok (by omega)
      obtain ⟨x, hx⟩ : ∃ x, es[k]? = some x := ⟨es[k]'(by rw [HL.out]; exact hkn), List.getElem?_eq_getElem _⟩
      have HX : Hid ((es.map (·.e))[k]? = some x.e) := by show _ = _; rw [List.getElem?_map, hx]; rfl
      have HH := keep (SRC.out.held x (List.mem_of_getElem? hx))
      obtain ⟨p0, p1, p2, p3⟩ := ent_cells (SRC.out.below entKind_ok hI.out.bel) hx
      clear hx
      have HBL := keep hI.out.len
      have ll : (k : Int) < (n : Int) := by omega
      have ll0 : (0 : Int) ≤ (k : Int) := by omega
      obtain ⟨xkp, xkc, xvp, xvc, ⟨xkey, xseq, xgone, xval⟩⟩ := x
      have HKs := keep (show Src w xkp xkey.length xkc xkey from HH.out.1)
      clear HH
      simp only at p0 p1 p2 p3 HX
      obtain ⟨W2, hW2⟩ : ∃ W2, wr.alloc (.cells #[.slice xkp xkey.length xkc, .int .i64 xseq, .bool xgone, .slice xvp xval.length xvc] 37) = W2 := ⟨_, rfl⟩
      have b2 : Hid (Below wr.heap.size wr W2) := by rw [← hW2]; exact (Below.refl _ _).alloc (Nat.le_refl _) _
      have g2 : Hid (W2.heap[wr.heap.size]? = some (.cells #[.slice xkp xkey.length xkc, .int .i64 xseq, .bool xgone, .slice xvp xval.length xvc] 37)) := by rw [← hW2]; exact heap_alloc_new wr _
      have CF : Hid (∀ w', Below W2.heap.size W2 w' → w'.cell? ⟨wr.heap.size, 0, none⟩ = some (.slice xkp xkey.length xkc)) := fun w' hb => below_cell hb (cell_of_row _ _ _ _ _ _ g2.out)
      have BW : Hid (Below w.heap.size w W2) := hI.out.bel.trans (b2.out.mono hI.out.bel.size)
      rcases Nat.eq_zero_or_pos k with hk0 | hk0
      · have HK0 := keep hk0
        have hv := hI.out.zero hk0
        clear hk0
        subst hv
        have NEW : Hid (Tq.isNew (es.map (·.e)) k = true) := by
          have h1 := HX.out
          rw [HK0.out] at h1
          show _ = _
          rw [HK0.out]
          simp only [Tq.isNew, h1]
        go_wp2_with fail
        clear p0 p1 p2 p3 hW2
        refine wp_region_held_drew (S := fun w' => Below W2.heap.size W2 w') (by kernel_rfl) ((Below.refl _ _).drew) (fun hHeld => ?_)
        refine takeH (i := 0) 12 (v := .slice none 0 0) rfl rfl (by kernel_rfl) (by kernel_rfl) (by kernel_rfl) (fun _ _ _ h => h) (Or.inl ⟨by rfl, ?_⟩) (by assumption) ?_
        · intro w' hSw'
          go_simp
        simp only [Act.put, List.setIfInBounds_toArray, List.set_cons_zero, List.set_cons_succ]
        refine takeH (i := 1) 13 (v := .int .i64 0) rfl rfl (by kernel_rfl) (by kernel_rfl) (by kernel_rfl) (fun _ _ _ h => h) (Or.inl ⟨by rfl, ?_⟩) (by assumption) ?_
        · intro w' hSw'
          go_simp
        simp only [Act.put, List.setIfInBounds_toArray, List.set_cons_zero, List.set_cons_succ]
        refine takeH (i := 2) 14 (v := .bool true) rfl rfl (by kernel_rfl) (by kernel_rfl) (by kernel_rfl) (fun _ _ _ h => h) (Or.inl ⟨by rfl, ?_⟩) (by assumption) ?_
        · intro w' hSw'
          go_simp
        simp only [Act.put, List.setIfInBounds_toArray, List.set_cons_zero, List.set_cons_succ]
        refine takeH (i := 3) 15 (v := .bool true) rfl rfl (by kernel_rfl) (by kernel_rfl) (by kernel_rfl) (fun _ _ _ h => h) (Or.inl ⟨by rfl, ?_⟩) (by assumption) ?_
        · intro w' hSw'
          go_simp
        simp only [Act.put, List.setIfInBounds_toArray, List.set_cons_zero, List.set_cons_succ]
        refine takeH (i := 4) 16 (v := undef) rfl rfl (by kernel_rfl) (by kernel_rfl) (by kernel_rfl) (fun _ _ _ h => h) (Or.inr ⟨by rfl, rfl⟩) (by assumption) ?_
        simp only [Act.put, List.setIfInBounds_toArray, List.set_cons_zero, List.set_cons_succ]
        refine takeH (i := 5) 17 (v := undef) rfl rfl (by kernel_rfl) (by kernel_rfl) (by kernel_rfl) (fun _ _ _ h => h) (Or.inr ⟨by rfl, rfl⟩) (by assumption) ?_
        simp only [Act.put, List.setIfInBounds_toArray, List.set_cons_zero, List.set_cons_succ]
        refine takeH (i := 6) 18 (v := undef) rfl rfl (by kernel_rfl) (by kernel_rfl) (by kernel_rfl) (fun _ _ _ h => h) (Or.inr ⟨by rfl, rfl⟩) (by assumption) ?_
        simp only [Act.put, List.setIfInBounds_toArray, List.set_cons_zero, List.set_cons_succ]
        refine takeH (i := 7) 19 (v := undef) rfl rfl (by kernel_rfl) (by kernel_rfl) (by kernel_rfl) (fun _ _ _ h => h) (Or.inr ⟨by rfl, rfl⟩) (by assumption) ?_
        simp only [Act.put, List.setIfInBounds_toArray, List.set_cons_zero, List.set_cons_succ]
        refine takeH (i := 8) 20 (v := undef) rfl rfl (by kernel_rfl) (by kernel_rfl) (by kernel_rfl) (fun _ _ _ h => h) (Or.inr ⟨by rfl, rfl⟩) (by assumption) ?_
        simp only [Act.put, List.setIfInBounds_toArray, List.set_cons_zero, List.set_cons_succ]
        refine takeH (i := 9) 21 (v := undef) rfl rfl (by kernel_rfl) (by kernel_rfl) (by kernel_rfl) (fun _ _ _ h => h) (Or.inr ⟨by rfl, rfl⟩) (by assumption) ?_
        simp only [Act.put, List.setIfInBounds_toArray, List.set_cons_zero, List.set_cons_succ]
        refine takeH (i := 10) 0x16 (v := undef) rfl rfl (by kernel_rfl) (by kernel_rfl) (by kernel_rfl) (fun _ _ _ h => h) (Or.inr ⟨by rfl, rfl⟩) (by assumption) ?_
        simp only [Act.put, List.setIfInBounds_toArray, List.set_cons_zero, List.set_cons_succ]
        refine takeH (i := 11) 23 (v := undef) rfl rfl (by kernel_rfl) (by kernel_rfl) (by kernel_rfl) (fun _ _ _ h => h) (Or.inr ⟨by rfl, rfl⟩) (by assumption) ?_
        simp only [Act.put, List.setIfInBounds_toArray, List.set_cons_zero, List.set_cons_succ]
        refine takeH (i := 12) 24 (v := undef) rfl rfl (by kernel_rfl) (by kernel_rfl) (by kernel_rfl) (fun _ _ _ h => h) (Or.inr ⟨by rfl, rfl⟩) (by assumption) ?_
        simp only [Act.put, List.setIfInBounds_toArray, List.set_cons_zero, List.set_cons_succ]
        refine takeH (i := 13) 25 (v := undef) rfl rfl (by kernel_rfl) (by kernel_rfl) (by kernel_rfl) (fun _ _ _ h => h) (Or.inr ⟨by rfl, rfl⟩) (by assumption) ?_
        simp only [Act.put, List.setIfInBounds_toArray, List.set_cons_zero, List.set_cons_succ]
        refine takeH (i := 14) 26 (v := .bool true) rfl rfl (by kernel_rfl) (by kernel_rfl) (by kernel_rfl) (fun _ _ _ h => h) (Or.inl ⟨by rfl, ?_⟩) (by assumption) ?_
        · intro w' hSw'
          go_simp
        simp only [Act.put, List.setIfInBounds_toArray, List.set_cons_zero, List.set_cons_succ]
        refine wpAnyH_done (by kernel_rfl) ?_ _
        obtain ⟨g, hg⟩ : ∃ g, wr.heap.size = g := ⟨_, rfl⟩
        rw [hg] at CF ⊢
        have b3 : Hid (Below W2.heap.size W2 W2.drew) := (Below.refl _ _).drew
        have cf := CF.out _ b3.out
        have B3 := keep (b2.out.trans (b3.out.mono b2.out.size))
        obtain ⟨W3, hW3⟩ : ∃ W3, W2.drew = W3 := ⟨_, rfl⟩
        rw [hW3] at b3 cf B3 ⊢
        clear hW3 hHeld hg
        have rc := keep (rec_cells (k := byteKind) W3 24 (⟨xkp, xkc, xkey⟩ : ByteE))
        have b4 := keep (B3.out.alloc B3.out.size (.cells #[.slice xkp xkey.length xkc] 24))
        have R4 := keep (own_block hI.out.row (fun g hg => b4.out.block g (own_size hI.out.row hg)))
        have HKW : Hid (w.heap.size ≤ (W3.alloc (.cells #[.slice xkp xkey.length xkc] 24)).heap.size) := Nat.le_trans hI.out.bel.size b4.out.size
        have NX := keep (fun v5 w5 ho hg => KeysI.more (w2 := w5) (v2 := v5) (e := ⟨xkp, xkc, xkey⟩) hI.out b4.out NEW.out HX.out rfl HKs.out ho hg)
        simp only [byteKind] at rc
        go_wp2_with (at_builtin; go_loud (refine wpList_append_rec byteKind_ok rfl _ _ 57 24 rfl w.heap.size i0 _ 24 Tryz.underlying57 hi0 hz0 hz1 hz2 rfl _ _ bs rfl R4.out _ 1 (⟨xkp, xkc, xkey⟩ : ByteE) rfl rc.out (by have := HBL.out; unfold maxLen; omega) (by have := HBL.out; omega) HKW.out ?_); intro v5 w5 ho5 hg5; have N5 := keep (NX.out v5 w5 ho5 hg5); clear ho5 hg5)
        go_roundw
        case rel => exact ⟨k + 1, _, by omega, by first | rfl | go_num, N5.out⟩
        case measure => simp [intOf]; omega
      · obtain ⟨j, rfl⟩ : ∃ j, k = j + 1 := ⟨k - 1, by omega⟩
        obtain ⟨a, ha⟩ : ∃ a, es[j]? = some a := ⟨es[j]'(by rw [HL.out]; omega), List.getElem?_eq_getElem _⟩
        have HA : Hid ((es.map (·.e))[j]? = some a.e) := by show _ = _; rw [List.getElem?_map, ha]; rfl
        clear ha
        obtain ⟨xs, hxs⟩ := Tq.ks_last HA.out
        rw [← hI.out.keys] at hxs
        obtain ⟨M, hM⟩ : ∃ M, bs.length = M := ⟨_, rfl⟩
        have hM2 := congrArg List.length hxs
        rw [List.length_map, List.length_append, hM] at hM2
        simp only [List.length_cons, List.length_nil] at hM2
        obtain ⟨m, rfl⟩ : ∃ m, M = m + 1 := ⟨M - 1, by omega⟩
        obtain ⟨z, hz⟩ : ∃ z, bs[m]? = some z := ⟨bs[m], List.getElem?_eq_getElem (by omega)⟩
        have hzk : z.bytes = a.e.key := by
          have h1 : (bs.map (·.bytes))[m]? = some z.bytes := by rw [List.getElem?_map, hz]; rfl
          rw [hxs, List.getElem?_append_right (by omega), show m - xs.length = 0 by omega] at h1
          simpa using h1.symm
        have HM := keep hM
        obtain ⟨va, vc, hv, hR, _⟩ := RSrc.own byteKind_ok hI.out.row (fun e he => byteKind_ok.below (hI.out.each e he) hI.out.bel)
        rw [hM] at hv hR
        subst hv
        obtain ⟨gb, go, rfl, _, hcells⟩ := hR.form byteKind_ok (by omega)
        have hzc : wr.cell? ⟨gb, go + m, none⟩ = some (.slice z.ptr z.bytes.length z.cap) := by
          have := hcells m z hz 0 _ rfl
          simpa [byteKind] using this
        have CZ : Hid (∀ w', Below W2.heap.size W2 w' → w'.cell? ⟨gb, go + m, none⟩ = some (.slice z.ptr z.bytes.length z.cap)) := fun w' hb => below_cell (b2.out.trans (hb.mono b2.out.size)) hzc
        have EQ : Hid (∀ w', Below W2.heap.size W2 w' → _) := fun w' hb => equal_any z.ptr z.bytes.length z.cap z.bytes xkp xkey.length xkc xkey w' ((show Src w _ _ _ _ from hI.out.each z (List.mem_of_getElem? hz)).below (BW.out.trans (hb.mono BW.out.size))) (HKs.out.below (BW.out.trans (hb.mono BW.out.size)))
        have NW : Hid (Tq.isNew (es.map (·.e)) (j + 1) = !decide (z.bytes = xkey)) := by show _ = _; simp [Tq.isNew, HX.out, HA.out, hzk]
        clear hxs hM2 hz hzk hR hcells hzc hM
        obtain ⟨zp, zc, zb⟩ := z
        simp only at CZ EQ NW
        have HML : Hid (m + 1 ≤ j + 1) := by have := HBL.out; have := HM.out; show _ ≤ _; omega
        have hml := HML.out
        have s0 : (((m + 1 : Nat) : Int) == 0) = false := by simp; omega
        have s1 : IntKind.i64.wrap (m : Int) = (m : Int) := wrap_small _ (by omega) (by omega)
        have s2 : ((m + 1 : Nat) : Int) - 1 = (m : Int) := by omega
        have s3 : (m : Int) < ((m + 1 : Nat) : Int) := by omega
        have s4 : (0 : Int) ≤ (m : Int) := by omega
        have s6 : (m : Int) < (m : Int) + 1 := by omega
        have s7 : ¬ (m : Int) + 1 = 0 := by omega
        cases hq : decide (zb = xkey) with
        | true =>
          rw [hq] at EQ NW
          clear hq
          go_wp2_with fail
          clear p0 p1 p2 p3 hW2
          refine wp_region_held_drew (S := fun w' => Below W2.heap.size W2 w') (by kernel_rfl) ((Below.refl _ _).drew) (fun hHeld => ?_)
          refine takeH (i := 0) 12 (v := .slice (some ⟨gb, go, none⟩) (m + 1) vc) rfl rfl (by kernel_rfl) (by kernel_rfl) (by kernel_rfl) (fun _ _ _ h => h) (Or.inl ⟨by rfl, ?_⟩) (by assumption) ?_
          · intro w' hSw'
            go_simp
          simp only [Act.put, List.setIfInBounds_toArray, List.set_cons_zero, List.set_cons_succ]
          refine takeH (i := 1) 13 (v := .int .i64 ((m + 1 : Nat) : Int)) rfl rfl (by kernel_rfl) (by kernel_rfl) (by kernel_rfl) (fun _ _ _ h => h) (Or.inl ⟨by rfl, ?_⟩) (by assumption) ?_
          · intro w' hSw'
            go_simp
          simp only [Act.put, List.setIfInBounds_toArray, List.set_cons_zero, List.set_cons_succ]
          refine takeH (i := 2) 14 (v := .bool false) rfl rfl (by kernel_rfl) (by kernel_rfl) (by kernel_rfl) (fun _ _ _ h => h) (Or.inl ⟨by rfl, ?_⟩) (by assumption) ?_
          · intro w' hSw'
            go_simp
          simp only [Act.put, List.setIfInBounds_toArray, List.set_cons_zero, List.set_cons_succ]
          refine takeH (i := 3) 15 (v := .bool false) rfl rfl (by kernel_rfl) (by kernel_rfl) (by kernel_rfl) (fun _ _ _ h => h) (Or.inl ⟨by rfl, ?_⟩) (by assumption) ?_
          · intro w' hSw'
            go_simp
          simp only [Act.put, List.setIfInBounds_toArray, List.set_cons_zero, List.set_cons_succ]
          refine takeH (i := 4) 16 (v := .slice (some ⟨gb, go, none⟩) (m + 1) vc) rfl rfl (by kernel_rfl) (by kernel_rfl) (by kernel_rfl) (fun _ _ _ h => h) (Or.inl ⟨by rfl, ?_⟩) (by assumption) ?_
          · intro w' hSw'
            go_simp
          simp only [Act.put, List.setIfInBounds_toArray, List.set_cons_zero, List.set_cons_succ]
          refine takeH (i := 5) 17 (v := .slice (some ⟨gb, go, none⟩) (m + 1) vc) rfl rfl (by kernel_rfl) (by kernel_rfl) (by kernel_rfl) (fun _ _ _ h => h) (Or.inl ⟨by rfl, ?_⟩) (by assumption) ?_
          · intro w' hSw'
            go_simp
          simp only [Act.put, List.setIfInBounds_toArray, List.set_cons_zero, List.set_cons_succ]
          refine takeH (i := 6) 18 (v := .int .i64 ((m + 1 : Nat) : Int)) rfl rfl (by kernel_rfl) (by kernel_rfl) (by kernel_rfl) (fun _ _ _ h => h) (Or.inl ⟨by rfl, ?_⟩) (by assumption) ?_
          · intro w' hSw'
            go_simp
          simp only [Act.put, List.setIfInBounds_toArray, List.set_cons_zero, List.set_cons_succ]
          refine takeH (i := 7) 19 (v := .int .i64 (m : Int)) rfl rfl (by kernel_rfl) (by kernel_rfl) (by kernel_rfl) (fun _ _ _ h => h) (Or.inl ⟨by rfl, ?_⟩) (by assumption) ?_
          · intro w' hSw'
            go_simp
          simp only [Act.put, List.setIfInBounds_toArray, List.set_cons_zero, List.set_cons_succ]
          refine takeH (i := 8) 20 (v := .pointer (some ⟨gb, go + m, none⟩)) rfl rfl (by kernel_rfl) (by kernel_rfl) (by kernel_rfl) (fun _ _ _ h => h) (Or.inl ⟨by rfl, ?_⟩) (by assumption) ?_
          · intro w' hSw'
            go_simp
          simp only [Act.put, List.setIfInBounds_toArray, List.set_cons_zero, List.set_cons_succ]
          refine takeH (i := 9) 21 (v := .slice zp zb.length zc) rfl rfl (by kernel_rfl) (by kernel_rfl) (by kernel_rfl) (fun _ _ _ h => h) (Or.inl ⟨by rfl, ?_⟩) (by assumption) ?_
          · intro w' hSw'
            have d0 := CZ.out w' hSw'
            go_simp
          simp only [Act.put, List.setIfInBounds_toArray, List.set_cons_zero, List.set_cons_succ]
          refine takeH (i := 10) 0x16 (v := .pointer (some ⟨wr.heap.size, 0, none⟩)) rfl rfl (by kernel_rfl) (by kernel_rfl) (by kernel_rfl) (fun _ _ _ h => h) (Or.inl ⟨by rfl, ?_⟩) (by assumption) ?_
          · intro w' hSw'
            go_simp
          simp only [Act.put, List.setIfInBounds_toArray, List.set_cons_zero, List.set_cons_succ]
          refine takeH (i := 11) 23 (v := .slice xkp xkey.length xkc) rfl rfl (by kernel_rfl) (by kernel_rfl) (by kernel_rfl) (fun _ _ _ h => h) (Or.inl ⟨by rfl, ?_⟩) (by assumption) ?_
          · intro w' hSw'
            have d0 := CF.out w' hSw'
            go_simp
          simp only [Act.put, List.setIfInBounds_toArray, List.set_cons_zero, List.set_cons_succ]
          refine wpAnyH_ready (rs := [12]) (by kernel_rfl) (by simp) ?_
          refine AllReadyH.cons rfl (fun K hK => ?_) AllReadyH.nil
          go_simp
          refine (EQ.out _ (Below.refl _ _).drew).mono ?_
          rintro e w5 ⟨rfl, rfl⟩
          go_wp2_with fail
          refine hK.out _ _ ((Below.refl _ _).drew) (fun hHeld1 => ?_)
          clear hK K
          refine takeH (i := 13) 25 (v := .bool false) rfl rfl (by kernel_rfl) (by kernel_rfl) (by kernel_rfl) (fun _ _ _ h => h) (Or.inl ⟨by rfl, ?_⟩) (by assumption) ?_
          · intro w' hSw'
            go_simp
          simp only [Act.put, List.setIfInBounds_toArray, List.set_cons_zero, List.set_cons_succ]
          refine takeH (i := 14) 26 (v := .bool false) rfl rfl (by kernel_rfl) (by kernel_rfl) (by kernel_rfl) (fun _ _ _ h => h) (Or.inl ⟨by rfl, ?_⟩) (by assumption) ?_
          · intro w' hSw'
            go_simp
          simp only [Act.put, List.setIfInBounds_toArray, List.set_cons_zero, List.set_cons_succ]
          refine wpAnyH_done (by kernel_rfl) ?_ _
          go_wp2
          go_roundw
          case rel => exact ⟨j + 1 + 1, bs, by omega, by first | rfl | go_num, hI.out.same (b2.out.trans ((Below.refl _ _).drew.mono b2.out.size)) NW.out⟩
          case measure => simp [intOf]; omega
        | false =>
          rw [hq] at EQ NW
          have NEW : Hid (Tq.isNew (es.map (·.e)) (j + 1) = true) := NW.out
          clear hq
          go_wp2_with fail
          clear p0 p1 p2 p3 hW2
          refine wp_region_held_drew (S := fun w' => Below W2.heap.size W2 w') (by kernel_rfl) ((Below.refl _ _).drew) (fun hHeld => ?_)
          refine takeH (i := 0) 12 (v := .slice (some ⟨gb, go, none⟩) (m + 1) vc) rfl rfl (by kernel_rfl) (by kernel_rfl) (by kernel_rfl) (fun _ _ _ h => h) (Or.inl ⟨by rfl, ?_⟩) (by assumption) ?_
          · intro w' hSw'
            go_simp
          simp only [Act.put, List.setIfInBounds_toArray, List.set_cons_zero, List.set_cons_succ]
          refine takeH (i := 1) 13 (v := .int .i64 ((m + 1 : Nat) : Int)) rfl rfl (by kernel_rfl) (by kernel_rfl) (by kernel_rfl) (fun _ _ _ h => h) (Or.inl ⟨by rfl, ?_⟩) (by assumption) ?_
          · intro w' hSw'
            go_simp
          simp only [Act.put, List.setIfInBounds_toArray, List.set_cons_zero, List.set_cons_succ]
          refine takeH (i := 2) 14 (v := .bool false) rfl rfl (by kernel_rfl) (by kernel_rfl) (by kernel_rfl) (fun _ _ _ h => h) (Or.inl ⟨by rfl, ?_⟩) (by assumption) ?_
          · intro w' hSw'
            go_simp
          simp only [Act.put, List.setIfInBounds_toArray, List.set_cons_zero, List.set_cons_succ]
          refine takeH (i := 3) 15 (v := .bool false) rfl rfl (by kernel_rfl) (by kernel_rfl) (by kernel_rfl) (fun _ _ _ h => h) (Or.inl ⟨by rfl, ?_⟩) (by assumption) ?_
          · intro w' hSw'
            go_simp
          simp only [Act.put, List.setIfInBounds_toArray, List.set_cons_zero, List.set_cons_succ]
          refine takeH (i := 4) 16 (v := .slice (some ⟨gb, go, none⟩) (m + 1) vc) rfl rfl (by kernel_rfl) (by kernel_rfl) (by kernel_rfl) (fun _ _ _ h => h) (Or.inl ⟨by rfl, ?_⟩) (by assumption) ?_
          · intro w' hSw'
            go_simp
          simp only [Act.put, List.setIfInBounds_toArray, List.set_cons_zero, List.set_cons_succ]
          refine takeH (i := 5) 17 (v := .slice (some ⟨gb, go, none⟩) (m + 1) vc) rfl rfl (by kernel_rfl) (by kernel_rfl) (by kernel_rfl) (fun _ _ _ h => h) (Or.inl ⟨by rfl, ?_⟩) (by assumption) ?_
          · intro w' hSw'
            go_simp
          simp only [Act.put, List.setIfInBounds_toArray, List.set_cons_zero, List.set_cons_succ]
          refine takeH (i := 6) 18 (v := .int .i64 ((m + 1 : Nat) : Int)) rfl rfl (by kernel_rfl) (by kernel_rfl) (by kernel_rfl) (fun _ _ _ h => h) (Or.inl ⟨by rfl, ?_⟩) (by assumption) ?_
          · intro w' hSw'
            go_simp
          simp only [Act.put, List.setIfInBounds_toArray, List.set_cons_zero, List.set_cons_succ]
          refine takeH (i := 7) 19 (v := .int .i64 (m : Int)) rfl rfl (by kernel_rfl) (by kernel_rfl) (by kernel_rfl) (fun _ _ _ h => h) (Or.inl ⟨by rfl, ?_⟩) (by assumption) ?_
          · intro w' hSw'
            go_simp
          simp only [Act.put, List.setIfInBounds_toArray, List.set_cons_zero, List.set_cons_succ]
          refine takeH (i := 8) 20 (v := .pointer (some ⟨gb, go + m, none⟩)) rfl rfl (by kernel_rfl) (by kernel_rfl) (by kernel_rfl) (fun _ _ _ h => h) (Or.inl ⟨by rfl, ?_⟩) (by assumption) ?_
          · intro w' hSw'
            go_simp
          simp only [Act.put, List.setIfInBounds_toArray, List.set_cons_zero, List.set_cons_succ]
          refine takeH (i := 9) 21 (v := .slice zp zb.length zc) rfl rfl (by kernel_rfl) (by kernel_rfl) (by kernel_rfl) (fun _ _ _ h => h) (Or.inl ⟨by rfl, ?_⟩) (by assumption) ?_
          · intro w' hSw'
            have d0 := CZ.out w' hSw'
            go_simp
          simp only [Act.put, List.setIfInBounds_toArray, List.set_cons_zero, List.set_cons_succ]
          refine takeH (i := 10) 0x16 (v := .pointer (some ⟨wr.heap.size, 0, none⟩)) rfl rfl (by kernel_rfl) (by kernel_rfl) (by kernel_rfl) (fun _ _ _ h => h) (Or.inl ⟨by rfl, ?_⟩) (by assumption) ?_
          · intro w' hSw'
            go_simp
          simp only [Act.put, List.setIfInBounds_toArray, List.set_cons_zero, List.set_cons_succ]
          refine takeH (i := 11) 23 (v := .slice xkp xkey.length xkc) rfl rfl (by kernel_rfl) (by kernel_rfl) (by kernel_rfl) (fun _ _ _ h => h) (Or.inl ⟨by rfl, ?_⟩) (by assumption) ?_
          · intro w' hSw'
            have d0 := CF.out w' hSw'
            go_simp
          simp only [Act.put, List.setIfInBounds_toArray, List.set_cons_zero, List.set_cons_succ]
          refine wpAnyH_ready (rs := [12]) (by kernel_rfl) (by simp) ?_
          refine AllReadyH.cons rfl (fun K hK => ?_) AllReadyH.nil
          go_simp
          refine (EQ.out _ (Below.refl _ _).drew).mono ?_
          rintro e w5 ⟨rfl, rfl⟩
          go_wp2_with fail
          refine hK.out _ _ ((Below.refl _ _).drew) (fun hHeld1 => ?_)
          clear hK K
          refine takeH (i := 13) 25 (v := .bool true) rfl rfl (by kernel_rfl) (by kernel_rfl) (by kernel_rfl) (fun _ _ _ h => h) (Or.inl ⟨by rfl, ?_⟩) (by assumption) ?_
          · intro w' hSw'
            go_simp
          simp only [Act.put, List.setIfInBounds_toArray, List.set_cons_zero, List.set_cons_succ]
          refine takeH (i := 14) 26 (v := .bool true) rfl rfl (by kernel_rfl) (by kernel_rfl) (by kernel_rfl) (fun _ _ _ h => h) (Or.inl ⟨by rfl, ?_⟩) (by assumption) ?_
          · intro w' hSw'
            go_simp
          simp only [Act.put, List.setIfInBounds_toArray, List.set_cons_zero, List.set_cons_succ]
          refine wpAnyH_done (by kernel_rfl) ?_ _
          obtain ⟨g, hg⟩ : ∃ g, wr.heap.size = g := ⟨_, rfl⟩
          rw [hg] at CF ⊢
          have b3 : Hid (Below W2.heap.size W2 W2.drew) := (Below.refl _ _).drew
          have cf := CF.out _ b3.out
          have B3 := keep (b2.out.trans (b3.out.mono b2.out.size))
          obtain ⟨W3, hW3⟩ : ∃ W3, W2.drew = W3 := ⟨_, rfl⟩
          rw [hW3] at b3 cf B3 ⊢
          clear hW3 hHeld hHeld1 hg
          clear s0 s1 s2 s3 s4 s6 s7 hml
          have rc := keep (rec_cells (k := byteKind) W3 24 (⟨xkp, xkc, xkey⟩ : ByteE))
          have b4 := keep (B3.out.alloc B3.out.size (.cells #[.slice xkp xkey.length xkc] 24))
          have R4 := keep (own_block hI.out.row (fun g hg => b4.out.block g (own_size hI.out.row hg)))
          have HKW : Hid (w.heap.size ≤ (W3.alloc (.cells #[.slice xkp xkey.length xkc] 24)).heap.size) := Nat.le_trans hI.out.bel.size b4.out.size
          have NX := keep (fun v5 w5 ho hg => KeysI.more (w2 := w5) (v2 := v5) (e := ⟨xkp, xkc, xkey⟩) hI.out b4.out NEW.out HX.out rfl HKs.out ho hg)
          simp only [byteKind] at rc
          rw [HM.out] at R4 NX
          go_wp2_with (at_builtin; go_loud (refine wpList_append_rec byteKind_ok rfl _ _ 57 24 rfl w.heap.size i0 _ 24 Tryz.underlying57 hi0 hz0 hz1 hz2 rfl _ _ bs rfl R4.out _ 1 (⟨xkp, xkc, xkey⟩ : ByteE) rfl rc.out (by have := HBL.out; have := HM.out; unfold maxLen; omega) (by have := HBL.out; have := HM.out; omega) HKW.out ?_); intro v5 w5 ho5 hg5; have N5 := keep (NX.out v5 w5 ho5 hg5); clear ho5 hg5)
          go_roundw
          case rel => exact ⟨j + 1 + 1, _, by omega, by first | rfl | go_num, N5.out⟩
          case measure => simp [intOf]; omega
    · obtain rfl : k = n := by omega
      have ll : ¬ (k : Int) < (k : Int) := by omega
      go_wp2
      go_ret
      exact ⟨_, rfl, bs, hI.out⟩
end Go.Proofs.YtjblicgbdecbcaaGreat
