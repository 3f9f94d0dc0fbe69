/- The walks of the document's Copies and Visible. -/
import Derived.Test.YtgdggeacjfhkkaaNt
import Derived.Test.YtgdggeacjfhkkaaNu
import Derived.Test.YtgdggeacjfhkkaaXa
import Derived.Test.YtgdggeacjfhkkaaM6
namespace Go.Proofs.Ytgdggeacjfhkkaa
open Go.RowKit
open Sk (Ent)

set_option maxHeartbeats 4000000 in
set_option maxRecDepth 100000 in
theorem rcopies_any (ao : Option Addr) (n c : Nat) (es : List EV) (w : World) (hsrc : RSrc entKind w ao n c es) (hn : n ≤ 1000000) (hsm : ∀ y ∈ es, y.e.key.length ≤ 140737488355328 ∧ y.e.val.length ≤ 140737488355328) :
    Calls Try.prog 39 #[.slice ao n c] w fun e w' => ∃ v ys, e = .returned v ∧ Ents w.heap.size w' v ys ∧ ys.map (·.e) = es.map (·.e) ∧ Below w.heap.size w w' := by
  obtain ⟨i0, hi0, hz0, hz1, hz2⟩ := info_parts3 infoE
  have SRC := keep hsrc
  have SM := keep hsm
  have HN := keep hsrc.len
  have FULL : Hid ((es.map (·.e)).take n = es.map (·.e)) := List.take_of_length_le (by rw [List.length_map, hsrc.len]; exact Nat.le_refl _)
  clear hsrc hsm
  go_enter Try.func39, Try.ntmps39
  go_wp2
  go_loopw [3, 4] (fun v i wr => ∃ (k : Nat) (ys : List EV), k ≤ n ∧ i = .int .i64 (k : Int) ∧ Hid (CopI w ((es.map (·.e)).take k) ys k v wr)) (fun _ i _ => n - (intOf i).toNat)
  case atStart => exact ⟨0, [], Nat.zero_le _, rfl, Ents.nil _ _, rfl, Below.refl _ _, Nat.le_refl _⟩
  case round =>
    obtain ⟨k, ys, hk, rfl, hI⟩ := hrel
    have HB := keep hI.out.below
    have hyl := hI.out.len
    by_cases hkn : k < n
    · obtain ⟨b, off, rfl, _, _⟩ := SRC.out.form entKind_ok (by omega)
      obtain ⟨x, hx⟩ : ∃ x, es[k]? = some x := ⟨es[k]'(by rw [HN.out]; exact hkn), List.getElem?_eq_getElem _⟩
      have SE := SRC.out.below entKind_ok HB.out
      obtain ⟨p0, p1, p2, p3⟩ := ent_cells SE hx
      have xm := List.mem_of_getElem? hx
      have CP := keep (rcopy_any x wr (SM.out x xm).1 (SM.out x xm).2 (SE.held x xm))
      have TM : Hid ((es.map (·.e)).take (k + 1) = (es.map (·.e)).take k ++ [x.e]) := take_more (by rw [List.getElem?_map, hx]; rfl)
      have ll : (k : Int) < (n : Int) := by omega
      have l0 : (0 : Int) ≤ (k : Int) := by omega
      have hyl2 : ys.length ≤ 1000000 := by omega
      clear hx xm SE
      obtain ⟨xkp, xkc, xvp, xvc, ⟨xkey, xseq, xgone, xval⟩⟩ := x
      unfold ev at CP
      simp only at CP p0 p1 p2 p3 TM
      go_wp2_with fail
      refine CP.out.mono ?_
      rintro e w3 ⟨y, rfl, hye, hyo, hb3⟩
      have YE := keep hye
      have A5 := keep ((Below.refl w3.heap.size w3).alloc (Nat.le_refl _) (.cells (entKind.vals y).toArray 36))
      have BW5 := keep (hb3.trans (A5.out.mono hb3.size))
      have E5 := keep (hI.out.row.below BW5.out)
      have BL5 := keep (HB.out.trans (BW5.out.mono HB.out.size))
      have Z5 := keep ((hyo.base HB.out.size).block A5.out)
      have rc := keep (rec_cells (k := entKind) w3 36 y)
      clear hye hyo hb3 CP p0 p1 p2 p3
      obtain ⟨ykp, ykc, yvp, yvc, ⟨ykey, yseq, ygone, yval⟩⟩ := y
      simp only
      go_wp2_with (at_builtin; go_loud (refine wpList_append_rec entKind_ok rfl _ _ 24 36 rfl w.heap.size i0 _ 64 Try.underlying24 hi0 hz0 hz1 hz2 rfl u3 ys.length ys rfl E5.out.row _ 1 (⟨ykp, ykc, yvp, yvc, ⟨ykey, yseq, ygone, yval⟩⟩ : EV) rfl rc.out (by unfold maxLen; omega) (by omega) (Nat.le_trans BL5.out.size (Nat.le_refl _)) ?_); intro v5 w5 ho5 hg5; have HO5 := keep ho5; have HG5 := keep hg5; have BL6 := keep (BL5.out.grown hg5 BL5.out.size (fun j hj => (E5.out.row.lt j hj).1)); clear ho5 hg5)
      have E6 := keep (E5.out.more Z5.out HO5.out HG5.out)
      go_roundw
      case rel => exact ⟨k + 1, ys ++ [⟨ykp, ykc, yvp, yvc, ⟨ykey, yseq, ygone, yval⟩⟩], by omega, by go_num, E6.out, by rw [List.map_append, hI.out.val, TM.out, ← YE.out]; rfl, BL6.out, by rw [List.length_append, List.length_singleton]; omega⟩
      case measure => simp [intOf]; omega
    · obtain rfl : k = n := by omega
      go_wp2
      go_ret
      exact ⟨_, ys, rfl, hI.out.row, by rw [hI.out.val, FULL.out], HB.out⟩
set_option maxHeartbeats 4000000 in
set_option maxRecDepth 100000 in
theorem rvis_any (ao : Option Addr) (n c : Nat) (es : List EV) (s : Int) (w : World) (hs : RSrc entKind w ao n c es) (hN : n ≤ 1000000) (hsm : ∀ y ∈ es, y.e.key.length ≤ 140737488355328 ∧ y.e.val.length ≤ 140737488355328) :
    Calls Try.prog 14 #[.slice ao n c, .int .i64 s] w fun e w' => ∃ v ys, e = .returned v ∧ Ents w.heap.size w' v ys ∧ ys.map (·.e) = Mg.vis (es.map (·.e)) s ∧ Below w.heap.size w w' := by
  obtain ⟨i0, hi0, hz0, hz1, hz2⟩ := info_parts3 infoE
  have HLEN := keep hs.len
  have SM := keep hsm
  have PA := keep (rgroups_any ao n c es w hs hN)
  clear hs hsm
  go_enter Try.func14, Try.ntmps14
  go_wp2_with fail
  refine PA.out.mono ?_
  rintro e w2 ⟨v, ls, rfl, ho, hh, hval, hln, hb⟩
  have B2 := keep hb
  obtain ⟨lp, lc, rfl, hsr, _⟩ := RSrc.own listKind_ok ho (fun y hy => (hh y hy).1)
  have SR := keep hsr
  have VL := keep hval
  obtain ⟨N, hNl⟩ : ∃ N, ls.length = N := ⟨_, rfl⟩
  rw [hNl] at SR hln ⊢
  have HN := keep hNl
  clear ho hh hval hb hsr PA hNl
  go_wp2
  go_loopw [5, 7] (fun v i wr => ∃ (k : Nat) (ys : List EV), k ≤ N ∧ i = .int .i64 (k : Int) ∧ Hid (FlatI w2 (Mg.seen s) ls k ys v wr)) (fun _ i _ => N - (intOf i).toNat)
  case atStart => exact ⟨0, [], Nat.zero_le _, rfl, ⟨Ents.nil _ _, by simp [lents], Below.refl _ _⟩⟩
  case round =>
    obtain ⟨k, ys, hk, rfl, hI⟩ := hrel
    have HB2 := keep hI.out.below
    have hyl : ys.length ≤ 1000000 := by
      have h1 := flat_len (seen_len s) ls k
      rw [← hI.out.val, VL.out, Mg.parts_flat, List.length_map] at h1
      have := HLEN.out
      omega
    by_cases hkn : k < N
    · obtain ⟨lb, loff, rfl, _, _⟩ := SR.out.form listKind_ok (by omega)
      obtain ⟨y, hy⟩ : ∃ y, ls[k]? = some y := ⟨ls[k]'(by rw [HN.out]; exact hkn), List.getElem?_eq_getElem _⟩
      have hym := List.mem_of_getElem? hy
      have p0 := list_cell (SR.out.below listKind_ok HB2.out) hy
      have R3 := (SR.out.below listKind_ok HB2.out).held y hym
      have YM : Hid (∀ z ∈ y.es, z.e.key.length ≤ 140737488355328 ∧ z.e.val.length ≤ 140737488355328) := fun z hz => SM.out z (part_mem VL.out hym hz)
      have hyn : y.es.length ≤ 1000000 := by
        have h1 : y.es.length ≤ (Mg.parts (fun x y : EV => Mg.oneKey x.e y.e) es).flatten.length := by
          rw [← VL.out]
          exact (List.sublist_flatten_of_mem (List.mem_map.2 ⟨y, hym, rfl⟩)).length_le
        rw [Mg.parts_flat, HLEN.out] at h1
        omega
      have FM := keep (flat_more (f := Mg.seen s) hy)
      have IX := keep (rfst_any y.p y.es.length y.c y.es s wr R3 hyn)
      obtain ⟨yp, yc, yes⟩ := y
      have YS : Hid (RSrc entKind wr yp yes.length yc yes) := R3
      simp only at p0 YM FM IX hyn
      obtain ⟨M, hM⟩ : ∃ M, yes.length = M := ⟨_, rfl⟩
      have HM := keep hM
      rw [hM] at p0 YS IX hyn
      have ll : (k : Int) < (N : Int) := by omega
      have l0 : (0 : Int) ≤ (k : Int) := by omega
      clear hy hym hM R3
      cases hf : Mg.fst s (yes.map (·.e)) with
      | none =>
        have ZZ : Hid (Mg.seen s (yes.map (·.e)) = []) := by show _ = _; unfold Mg.seen; rw [Mg.fst_none s _ hf]
        have FI : Mg.fstI s (yes.map (·.e)) = -1 := by unfold Mg.fstI; rw [hf]
        rw [FI] at IX
        clear FI hf
        go_wp2_with fail
        refine IX.out.mono ?_
        rintro e w3 ⟨rfl, rfl⟩
        clear IX
        go_wp2
        go_roundw
        case rel => exact ⟨k + 1, ys, by omega, by go_num, ⟨hI.out.row, by rw [FM.out, ZZ.out, List.append_nil]; exact hI.out.val, HB2.out⟩⟩
        case measure => simp [intOf]; omega
      | some j =>
        have FI : Mg.fstI s (yes.map (·.e)) = (j : Int) := by unfold Mg.fstI; rw [hf]
        obtain ⟨x0, hx0, hfi⟩ := Mg.fst_some s _ j hf
        obtain ⟨x, hx, rfl⟩ : ∃ x, yes[j]? = some x ∧ x.e = x0 := by
          rw [List.getElem?_map] at hx0
          cases hx : yes[j]? with
          | none => rw [hx] at hx0; cases hx0
          | some x => rw [hx] at hx0; cases hx0; exact ⟨x, rfl, rfl⟩
        have hjM : j < M := by have := (List.getElem?_eq_some_iff.1 hx).1; rw [HM.out] at this; exact this
        obtain ⟨b, off, rfl, _, _⟩ := YS.out.form entKind_ok (by omega)
        obtain ⟨r0, r1, r2, r3⟩ := ent_cells YS.out hx
        have xm := List.mem_of_getElem? hx
        have CP := keep (rcopy_any x wr (YM.out x xm).1 (YM.out x xm).2 (YS.out.held x xm))
        have SE : Hid (Mg.seen s (yes.map (·.e)) = if x.e.gone then [] else [x.e]) := by show _ = _; unfold Mg.seen; rw [hfi]
        have jl : (j : Int) < (M : Int) := by omega
        have j0 : (0 : Int) ≤ (j : Int) := by omega
        rw [FI] at IX
        clear FI hf hx0 hfi hx xm YS YM
        obtain ⟨xkp, xkc, xvp, xvc, ⟨xkey, xseq, xgone, xval⟩⟩ := x
        unfold ev at CP
        simp only at CP r0 r1 r2 r3 SE
        cases xgone with
        | true =>
          go_wp2_with fail
          refine IX.out.mono ?_
          rintro e w3 ⟨rfl, rfl⟩
          clear IX CP
          go_wp2
          go_roundw
          case rel => exact ⟨k + 1, ys, by omega, by go_num, ⟨hI.out.row, by rw [FM.out, SE.out, hI.out.val]; simp, HB2.out⟩⟩
          case measure => simp [intOf]; omega
        | false =>
          go_wp2_with fail
          refine IX.out.mono ?_
          rintro e w3 ⟨rfl, rfl⟩
          clear IX
          go_wp2_with fail
          refine CP.out.mono ?_
          rintro e w4 ⟨y, rfl, hye, hyo, hb3⟩
          have YE := keep hye
          have A5 := keep ((Below.refl w4.heap.size w4).alloc (Nat.le_refl _) (.cells (entKind.vals y).toArray 36))
          have BW5 := keep (hb3.trans (A5.out.mono hb3.size))
          have E5 := keep (hI.out.row.below BW5.out)
          have BL5 := keep (HB2.out.trans (BW5.out.mono HB2.out.size))
          have Z5 := keep ((hyo.base HB2.out.size).block A5.out)
          have rc := keep (rec_cells (k := entKind) w4 36 y)
          clear hye hyo hb3 CP p0 r0 r1 r2 r3
          obtain ⟨ykp, ykc, yvp, yvc, ⟨ykey, yseq, ygone, yval⟩⟩ := y
          simp only
          go_wp2_with (at_builtin; go_loud (refine wpList_append_rec entKind_ok rfl _ _ 24 36 rfl w2.heap.size i0 _ 64 Try.underlying24 hi0 hz0 hz1 hz2 rfl u5 ys.length ys rfl E5.out.row _ 1 (⟨ykp, ykc, yvp, yvc, ⟨ykey, yseq, ygone, yval⟩⟩ : EV) rfl rc.out (by unfold maxLen; omega) (by omega) (Nat.le_trans BL5.out.size (Nat.le_refl _)) ?_); intro v5 w5 ho5 hg5; have HO5 := keep ho5; have HG5 := keep hg5; have BL6 := keep (BL5.out.grown hg5 BL5.out.size (fun j hj => (E5.out.row.lt j hj).1)); clear ho5 hg5)
          have E6 := keep (E5.out.more Z5.out HO5.out HG5.out)
          go_roundw
          case rel => exact ⟨k + 1, ys ++ [⟨ykp, ykc, yvp, yvc, ⟨ykey, yseq, ygone, yval⟩⟩], by omega, by go_num, ⟨E6.out, by rw [FM.out, SE.out, List.map_append, hI.out.val, if_neg (by decide), ← YE.out]; rfl, BL6.out⟩⟩
          case measure => simp [intOf]; omega
    · obtain rfl : k = N := by omega
      have FV : Hid (ys.map (·.e) = Mg.vis (es.map (·.e)) s) := by
        show _ = _
        rw [hI.out.val, List.take_of_length_le (by rw [HN.out]; exact Nat.le_refl _)]
        unfold Mg.vis
        rw [part_ents VL.out]
      go_wp2
      go_ret
      first
        | exact ⟨_, ys, rfl, hI.out.row.base B2.out.size, FV.out, B2.out.trans (HB2.out.mono B2.out.size)⟩
        | exact ⟨_, rfl, ys, hI.out.row.base B2.out.size, FV.out, B2.out.trans (HB2.out.mono B2.out.size)⟩
end Go.Proofs.Ytgdggeacjfhkkaa
