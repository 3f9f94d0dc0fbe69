/- The walk of Visible. -/
import Derived.Test.YtgdggeacjfhkkaaM5
namespace Go.Proofs.Ytgdggeacjfhkkaa
open Go.RowKit
open Sk (Ent)

theorem enters_oneKey : Enters 28 := enters_of Try.func28 (by kernel_rfl) rfl
theorem enters_ahead : Enters 24 := enters_of Try.func24 (by kernel_rfl) rfl
theorem RSrc.built1 {w : World} {x : EV} (hx : entKind.held w x) : RSrc entKind (w.alloc (.cells (entKind.vals x).toArray 36)) (some ⟨w.heap.size, 0, none⟩) 1 1 [x] :=
  ⟨rfl, Nat.le_refl _, (fun e => by cases e), fun ad had j u hu => by
    cases had
    have h2 : (entKind.vals x)[j]? = some u := by simpa [rv] using hu
    exact rec_cells (k := entKind) w 36 x j u h2, fun y hy => by
    rw [List.mem_singleton.1 hy]
    exact entKind_ok.below hx ((Below.refl _ _).alloc (Nat.le_refl _) _)⟩
theorem flat_len {f : List Ent → List Ent} (hf : ∀ g, (f g).length ≤ g.length) : ∀ (ls : List LV) (k : Nat), (((lents (ls.take k)).map f).flatten).length ≤ ((ls.map (·.es)).flatten).length
  | [], k => by simp [lents]
  | y :: ls, 0 => by simp [lents]
  | y :: ls, k + 1 => by
    have ih := flat_len hf ls k
    have h1 := hf (y.es.map (·.e))
    simp only [lents, List.take_succ_cons, List.map_cons, List.flatten_cons, List.length_append, List.length_map] at ih h1 ⊢
    omega
theorem part_mem {ls : List LV} {es : List EV} {q : EV → EV → Bool} (h : ls.map (·.es) = Mg.parts q es) {y : LV} (hy : y ∈ ls) {z : EV} (hz : z ∈ y.es) : z ∈ es := by
  rw [← Mg.parts_flat q es, ← h]
  exact List.mem_flatten.2 ⟨y.es, List.mem_map.2 ⟨y, hy, rfl⟩, hz⟩
theorem part_ents {ls : List LV} {es : List EV} {q : Ent → Ent → Bool} (h : ls.map (·.es) = Mg.parts (fun x y => q x.e y.e) es) : lents ls = Mg.parts q (es.map (·.e)) := by
  rw [← Mg.parts_map (fun x : EV => x.e) q es, ← h, List.map_map]
  rfl
theorem seen_len (s : Int) (g : List Ent) : (Mg.seen s g).length ≤ g.length := by
  unfold Mg.seen
  split
  · rename_i e he
    have := List.length_pos_of_mem (List.mem_of_find?_eq_some he)
    split
    · simp
    · simp; omega
  · simp
set_option maxHeartbeats 4000000 in
set_option maxRecDepth 100000 in
theorem visible_any (ao : Option Addr) (n c : Nat) (es : List EV) (s : Int) (w : World) (hs : RSrc entKind w ao n c es) (hN : n ≤ 1000000) (hc : c ≤ maxLen) (hsm : ∀ y ∈ es, y.e.key.length ≤ 140737488355328 ∧ y.e.val.length ≤ 140737488355328) :
    Calls Try.prog 13 #[.slice ao n c, .int .i64 s] w fun e w' => ∃ v ys, e = .returned v ∧ Ents w.heap.size w' v ys ∧ ys.map (·.e) = Mg.vis (es.map (·.e)) s ∧ Below w.heap.size w w' := by
  obtain ⟨i0, hi0, hz0, hz1, hz2⟩ := info_parts3 infoE
  have HLEN := keep hs.len
  have SM := keep hsm
  have HC := keep hc
  obtain ⟨W1, hW1⟩ : ∃ W1, w.alloc (.cells #[.int .i64 s] 3) = W1 := ⟨_, rfl⟩
  have b1 : Hid (Below w.heap.size w W1) := by rw [← hW1]; exact (Below.refl _ _).alloc (Nat.le_refl _) _
  have q1 : Hid (W1.cell? ⟨w.heap.size, 0, none⟩ = some (.int .i64 s)) := by rw [← hW1]; exact cell_of_row _ _ _ _ _ _ (heap_alloc_new w _)
  have PA := keep (parts_any 28 Mg.oneKey oneKey_any enters_oneKey ao n c es W1 (hs.below entKind_ok b1.out) hN hc)
  clear hs hsm hc
  go_enter Try.func13, Try.ntmps13
  go_wp2_with fail
  refine PA.out.mono ?_
  rintro e w2 ⟨v, ls, rfl, ho, hh, hval, hln, hb⟩
  have B2 := keep (b1.out.trans (hb.mono b1.out.size))
  have Q2 := keep (below_cell hb q1.out)
  obtain ⟨lp, lc, rfl, hsr, _⟩ := RSrc.own listKind_ok ho (fun y hy => listKind_ok.below (hh y hy).1 hb)
  have SR := keep hsr
  have VL := keep hval
  have YC : Hid (∀ y ∈ ls, y.c ≤ c) := fun y hy => (hh y hy).2
  obtain ⟨N, hNl⟩ : ∃ N, ls.length = N := ⟨_, rfl⟩
  rw [hNl] at SR hln ⊢
  have HN := keep hNl
  clear ho hh hval hb hsr PA hW1 hNl
  go_wp2
  go_loopw [5, 12] (fun v i wr => ∃ (k : Nat) (ys : List EV), k ≤ N ∧ i = .int .i64 (k : Int) ∧ Hid (FlatI w2 (Mg.seen s) ls k ys v wr)) (fun _ i _ => N - (intOf i).toNat)
  case atStart => exact ⟨0, [], Nat.zero_le _, rfl, ⟨Ents.nil _ _, by simp [lents], Below.refl _ _⟩⟩
  case round =>
    obtain ⟨k, ys, hk, rfl, hI⟩ := hrel
    have HB2 := keep hI.out.below
    have hyl : ys.length ≤ 1000000 := by
      have h1 := flat_len (seen_len s) ls k
      rw [← hI.out.val, VL.out, Mg.parts_flat, List.length_map] at h1
      have := HLEN.out
      omega
    by_cases hkn : k < N
    · obtain ⟨lb, loff, rfl, _, _⟩ := SR.out.form listKind_ok (by omega)
      obtain ⟨y, hy⟩ : ∃ y, ls[k]? = some y := ⟨ls[k]'(by rw [HN.out]; exact hkn), List.getElem?_eq_getElem _⟩
      have hym := List.mem_of_getElem? hy
      have p0 := list_cell (SR.out.below listKind_ok HB2.out) hy
      have YS : Hid (∀ w', Below w2.heap.size w2 w' → RSrc entKind w' y.p y.es.length y.c y.es) := fun w' hb => ((SR.out.below listKind_ok hb).held y hym)
      have YM : Hid (∀ z ∈ y.es, z.e.key.length ≤ 140737488355328 ∧ z.e.val.length ≤ 140737488355328) := fun z hz => SM.out z (part_mem VL.out hym hz)
      have hyn : y.es.length ≤ 1000000 := by
        have h1 : y.es.length ≤ (Mg.parts (fun x y : EV => Mg.oneKey x.e y.e) es).flatten.length := by
          rw [← VL.out]
          exact (List.sublist_flatten_of_mem (List.mem_map.2 ⟨y, hym, rfl⟩)).length_le
        rw [Mg.parts_flat, HLEN.out] at h1
        omega
      have FM := keep (flat_more (f := Mg.seen s) hy)
      have IX := keep (index_any w.heap.size _ w2 (vclos_any w.heap.size s w2 Q2.out) y.p y.es.length y.c y.es wr (YS.out wr HB2.out) hyn HB2.out)
      obtain ⟨yp, yc, yes⟩ := y
      simp only at p0 YS YM FM IX hyn
      obtain ⟨M, hM⟩ : ∃ M, yes.length = M := ⟨_, rfl⟩
      have HM := keep hM
      rw [hM] at p0 YS IX hyn
      have ll : (k : Int) < (N : Int) := by omega
      have l0 : (0 : Int) ≤ (k : Int) := by omega
      clear hy hym hM
      go_wp2_with fail
      refine IX.out.mono ?_
      rintro e w3 ⟨⟨rfl, hno⟩ | ⟨j, rfl, hj, hyes, hbefore⟩, hb3⟩
      · have B3 := keep (HB2.out.trans (hb3.mono HB2.out.size))
        have C3 := keep (HB2.out.trans (hb3.mono HB2.out.size))
        have E3 := keep (hI.out.row.below hb3)
        have ZZ : Hid (Mg.seen s (yes.map (·.e)) = []) := by show _ = _; unfold Mg.seen; rw [find_none' hno]
        clear hno hb3 IX
        go_wp2
        go_roundw
        case rel => exact ⟨k + 1, ys, by omega, by go_num, ⟨E3.out, by rw [FM.out, ZZ.out, List.append_nil]; exact hI.out.val, B3.out⟩⟩
        case measure => simp [intOf]; omega
      · have B3 := keep (HB2.out.trans (hb3.mono HB2.out.size))
        have C3 := keep (HB2.out.trans (hb3.mono HB2.out.size))
        have E3 := keep (hI.out.row.below hb3)
        obtain ⟨x, hx⟩ : ∃ x, yes[j]? = some x := ⟨yes[j]'(by rw [HM.out]; exact hj), List.getElem?_eq_getElem _⟩
        have FS : Hid ((yes.map (·.e)).find? (fun e => decide (e.seq ≤ s)) = some x.e) := find_some' hx (hyes x hx) hbefore
        have R3 := YS.out w3 C3.out
        obtain ⟨b, off, rfl, _, _⟩ := R3.form entKind_ok (by omega)
        obtain ⟨r0, r1, r2, r3⟩ := ent_cells R3 hx
        have XH := keep (R3.held x (List.mem_of_getElem? hx))
        have XM := keep (YM.out x (List.mem_of_getElem? hx))
        have SE : Hid (Mg.seen s (yes.map (·.e)) = if x.e.gone then [] else [x.e]) := by show _ = _; unfold Mg.seen; rw [FS.out]
        have jl : (j : Int) < (M : Int) := by omega
        have j0 : (0 : Int) ≤ (j : Int) := by omega
        clear hyes hbefore hb3 IX hx FS R3 YS YM p0
        obtain ⟨xkp, xkc, xvp, xvc, ⟨xkey, xseq, xgone, xval⟩⟩ := x
        simp only at r0 r1 r2 r3 XM SE
        cases xgone with
        | true =>
          go_wp2
          go_roundw
          case rel => exact ⟨k + 1, ys, by omega, by go_num, ⟨E3.out, by rw [FM.out, SE.out, hI.out.val]; simp, B3.out⟩⟩
          case measure => simp [intOf]; omega
        | false =>
          obtain ⟨W4, hW4⟩ : ∃ W4, w3.alloc (.cells #[.slice xkp xkey.length xkc, .int .i64 xseq, .bool false, .slice xvp xval.length xvc] 36) = W4 := ⟨_, rfl⟩
          have b4 : Hid (Below w3.heap.size w3 W4) := by rw [← hW4]; exact (Below.refl _ _).alloc (Nat.le_refl _) _
          have R4 : Hid (RSrc entKind W4 (some ⟨w3.heap.size, 0, none⟩) 1 1 [⟨xkp, xkc, xvp, xvc, ⟨xkey, xseq, false, xval⟩⟩]) := by rw [← hW4]; exact RSrc.built1 XH.out
          have CP := keep (copies_any (some ⟨w3.heap.size, 0, none⟩) 1 1 _ W4 R4.out (by omega) (fun z hz => by rw [List.mem_singleton.1 hz]; exact XM.out))
          go_wp2_with fail
          refine CP.out.mono ?_
          rintro e w5 ⟨v5, zs, rfl, he5, hz5, hb5⟩
          have hzl : zs.length = 1 := by
            have := congrArg List.length hz5
            simpa using this
          have BW := keep (b4.out.trans (hb5.mono b4.out.size))
          have B5 := keep (B3.out.trans (BW.out.mono B3.out.size))
          have C5 := keep (C3.out.trans (BW.out.mono C3.out.size))
          have E5 := keep (E3.out.below BW.out)
          have Z5 := keep (he5.base (Nat.le_trans B3.out.size b4.out.size))
          have HZ5 := keep hz5
          obtain ⟨za, zc, rfl, hzs, _⟩ := he5.src
          have ZS := keep hzs
          rw [hzl] at ZS ⊢
          have ZL := keep hzl
          clear he5 hz5 hb5 hzs hzl CP hW4
          go_wp2_with (at_builtin; go_loud (refine wpList_append_rowsM rfl _ _ 24 36 rfl w2.heap.size i0 _ 4 64 Try.underlying24 hi0 hz0 hz1 hz2 rfl (by decide) u5 ys.length (rv entKind ys) rfl E5.out.row za 1 zc (rv entKind zs) rfl ZS.out.nil (by rw [rv_length entKind_ok, ZL.out]; rfl) ZS.out.cells (rv_one entKind_ok zs) (by unfold maxLen; omega) (by omega) B5.out.size ?_); intro v6 w6 ho6 hg6; have HO6 := keep ho6; have HG6 := keep hg6; clear ho6 hg6)
          have E6 : Hid (Ents w2.heap.size w6 v6 (ys ++ zs)) := E5.out.grow Z5.out.each (by rw [ZL.out, rv_append]; exact HO6.out) HG6.out
          have B6 := keep (B5.out.grown HG6.out B5.out.size (fun j hj => (E5.out.row.lt j hj).1))
          go_roundw
          case rel => exact ⟨k + 1, ys ++ zs, by omega, by go_num, ⟨E6.out, by rw [List.map_append, HZ5.out, FM.out, SE.out, hI.out.val]; simp, B6.out⟩⟩
          case measure => simp [intOf]; omega
    · obtain rfl : k = N := by omega
      go_wp2
      go_ret
      exact ⟨_, ys, rfl, hI.out.row.base B2.out.size, by rw [hI.out.val, ← HN.out, List.take_length, part_ents VL.out]; rfl, B2.out.trans (HB2.out.mono B2.out.size)⟩
end Go.Proofs.Ytgdggeacjfhkkaa
