/- The walk of Prune. -/
import Derived.Test.YtgdggeacjfhkkaaM9
namespace Go.Proofs.Ytgdggeacjfhkkaa
open Go.RowKit
open Sk (Ent)

theorem rising_falls (zs : List Int) : (Ed.rising zs).reverse.Pairwise (· ≥ ·) := by
  rw [List.pairwise_reverse]
  exact Ed.rising_le zs
theorem kept_falling (zs : List Int) (b : Bool) (g : List Ent) : Mg.kept (Ed.rising zs).reverse b g = Mg.kept zs b g := by
  unfold Mg.kept
  rw [Mg.asked_congr true g (Ed.rising zs).reverse zs (fun x => by rw [List.mem_reverse]; exact (Ed.rising_perm zs).mem_iff)]
set_option maxHeartbeats 4000000 in
set_option maxRecDepth 100000 in
theorem prune_any (ao : Option Addr) (n c : Nat) (es : List EV) (p : Option Addr) (N C : Nat) (zs : List Int) (bottom : Bool) (w : World) (hs : RSrc entKind w ao n c es) (hz : RSrc inK w p N C zs) (hn : n ≤ 1000000) (hN : N ≤ 1000000) (hc : c ≤ maxLen) (hsm : ∀ y ∈ es, y.e.key.length ≤ 140737488355328 ∧ y.e.val.length ≤ 140737488355328) :
    Calls Try.prog 15 #[.slice ao n c, .slice p N C, .bool bottom] w fun e w' => ∃ v ys, e = .returned v ∧ Ents w.heap.size w' v ys ∧ ys.map (·.e) = Mg.prune (es.map (·.e)) zs bottom ∧ Below w.heap.size w w' := by
  obtain ⟨i0, hi0, hz0, hz1, hz2⟩ := info_parts3 infoE
  have HS := keep hs
  have HLEN := keep hs.len
  have SM := keep hsm
  have HC := keep hc
  have VA := keep (values_any p N C w)
  obtain ⟨W1, hW1⟩ : ∃ W1, w.alloc (.cells #[.slice p N C] 28) = W1 := ⟨_, rfl⟩
  have b1 : Hid (Below w.heap.size w W1) := by rw [← hW1]; exact (Below.refl _ _).alloc (Nat.le_refl _) _
  have x1 : Hid (W1.cell? ⟨w.heap.size, 0, none⟩ = some (.slice p N C)) := by rw [← hW1]; exact cell_of_row _ _ _ _ _ _ (heap_alloc_new w _)
  rw [hW1] at VA
  have SO := keep (sortedI_any w.heap.size p N C zs W1 hN x1.out (hz.below inK_ok b1.out))
  clear hs hz hsm hc
  go_enter Try.func15, Try.ntmps15
  go_wp2_with fail
  refine VA.out.mono ?_
  rintro e w1 ⟨rfl, rfl⟩
  go_wp2_with fail
  refine SO.out.mono ?_
  rintro e w2 ⟨v, rfl, ho2, hb2⟩
  have RV := keep (reverseI_own v N w1.heap.size (Ed.rising zs) w1 w2 ho2 hb2 hb2.size hN)
  clear VA SO hW1 ho2 hb2
  go_wp2_with fail
  refine RV.out.mono ?_
  rintro e w3 ⟨rfl, ho3, hb3⟩
  have B3 := keep (b1.out.trans (hb3.mono b1.out.size))
  rw [← rv_int] at ho3
  obtain ⟨fp, fc, rfl, hfs, hfc⟩ := RSrc.own inK_ok ho3 (fun _ _ => trivial)
  have FS := keep hfs
  have FC := keep hfc
  have FO : Hid (fp = none ∨ ∃ b off, fp = some ⟨b, off, none⟩) := by
    rcases ho3.2 with ⟨h, _⟩ | ⟨g, cap, cur, h, _⟩
    · cases h; exact .inl rfl
    · cases h; exact .inr ⟨g, 0, rfl⟩
  have PA := keep (parts_any 28 Mg.oneKey oneKey_any enters_oneKey ao n c es w3 (HS.out.below entKind_ok B3.out) hn HC.out)
  clear ho3 hb3 hfs hfc RV
  go_wp2_with fail
  refine PA.out.mono ?_
  rintro e w4 ⟨v, ls, rfl, ho, hh, hval, hln, hb⟩
  have B4 := keep (B3.out.trans (hb.mono B3.out.size))
  have FS4 := keep (FS.out.below inK_ok hb)
  obtain ⟨lp, lc, rfl, hsr, _⟩ := RSrc.own listKind_ok ho (fun y hy => listKind_ok.below (hh y hy).1 hb)
  have SR := keep hsr
  have VL := keep hval
  obtain ⟨L, hNl⟩ : ∃ L, ls.length = L := ⟨_, rfl⟩
  rw [hNl] at SR hln ⊢
  have HL := keep hNl
  clear ho hh hval hb hsr PA hNl
  go_wp2
  go_loopw [8, 20] (fun v i wr => ∃ (k : Nat) (ys : List EV), k ≤ L ∧ i = .int .i64 (k : Int) ∧ Hid (FlatI w4 (Mg.kept zs bottom) ls k ys v wr)) (fun _ i _ => L - (intOf i).toNat)
  case atStart => exact ⟨0, [], Nat.zero_le _, rfl, ⟨Ents.nil _ _, by simp [lents], Below.refl _ _⟩⟩
  case round =>
    obtain ⟨k, ys, hk, rfl, hI⟩ := hrel
    have HB := keep hI.out.below
    have hyl : ys.length ≤ 1000000 := by
      have h1 := flat_len (Mg.kept_len zs bottom) ls k
      rw [← hI.out.val, VL.out, Mg.parts_flat, List.length_map] at h1
      have := HLEN.out
      omega
    by_cases hkn : k < L
    · obtain ⟨lb, loff, rfl, _, _⟩ := SR.out.form listKind_ok (by omega)
      obtain ⟨y, hy⟩ : ∃ y, ls[k]? = some y := ⟨ls[k]'(by rw [HL.out]; exact hkn), List.getElem?_eq_getElem _⟩
      have hym := List.mem_of_getElem? hy
      have p0 := list_cell (SR.out.below listKind_ok HB.out) hy
      have YS := keep ((SR.out.below listKind_ok HB.out).held y hym)
      have YM : Hid (∀ z ∈ y.es, z.e.key.length ≤ 140737488355328 ∧ z.e.val.length ≤ 140737488355328) := fun z hz => SM.out z (part_mem VL.out hym hz)
      have hyn : y.es.length ≤ 1000000 := by
        have h1 : y.es.length ≤ (Mg.parts (fun x y : EV => Mg.oneKey x.e y.e) es).flatten.length := by
          rw [← VL.out]
          exact (List.sublist_flatten_of_mem (List.mem_map.2 ⟨y, hym, rfl⟩)).length_le
        rw [Mg.parts_flat, HLEN.out] at h1
        omega
      have FM := keep (flat_more (f := Mg.kept zs bottom) hy)
      have AK := keep (asked_any y.p y.es.length y.c y.es fp N fc (Ed.rising zs).reverse wr YS.out (FS4.out.below inK_ok HB.out) (rising_falls zs) hyn hN FC.out FO.out)
      have YH : Hid (∀ z ∈ y.es, entKind.held wr z) := fun z hz => RSrc.held YS.out z hz
      obtain ⟨yp, yc, yes⟩ := y
      simp only at p0 YS YM FM AK hyn YH
      obtain ⟨M, hM⟩ : ∃ M, yes.length = M := ⟨_, rfl⟩
      rw [hM] at p0 AK hyn
      have HMM := keep hM
      have ll : (k : Int) < (L : Int) := by omega
      have l0 : (0 : Int) ≤ (k : Int) := by omega
      clear hy hym hM
      go_wp2_with fail
      refine AK.out.mono ?_
      rintro e w5 ⟨v5, zs5, rfl, ho5, hm5, hv5, hb5⟩
      have hl5 : zs5.length ≤ M := by
        have := congrArg List.length hv5
        rw [List.length_map] at this
        have h2 := Mg.asked_len true (yes.map (·.e)) (Ed.rising zs).reverse
        rw [List.length_map, HMM.out] at h2
        omega
      have B5 := keep (HB.out.trans (hb5.mono HB.out.size))
      have BR5 := keep hb5
      obtain ⟨sp, sc, rfl, hss, hsc⟩ := RSrc.own entKind_ok ho5 (fun z hz => entKind_ok.below (YH.out z (hm5 z hz)) hb5)
      have SS := keep hss
      have V5 := keep hv5
      have M5 : Hid (∀ z ∈ zs5, z.e.key.length ≤ 140737488355328 ∧ z.e.val.length ≤ 140737488355328) := fun z hz => YM.out z (hm5 z hz)
      obtain ⟨Q, hQ⟩ : ∃ Q, zs5.length = Q := ⟨_, rfl⟩
      have HQ := keep hQ
      rw [hQ] at SS hl5 ⊢
      have ST := keep (strip_any sp Q sc zs5 w5 (hQ ▸ hss) (by omega) hsc)
      have E5 := keep (hI.out.row.below hb5)
      -- the copy, whatever was stripped
      have END : Hid (∀ (q : Nat), q ≤ Q → (zs5.take q).map (·.e) = Mg.kept zs bottom (yes.map (·.e)) → Calls Try.prog 25 #[.slice sp q sc] w5 fun e w' => ∃ za zc us, e = .returned (.slice za us.length zc) ∧ us.length ≤ M ∧ Ents w4.heap.size w' (.slice za us.length zc) us ∧ us.map (·.e) = Mg.kept zs bottom (yes.map (·.e)) ∧ Below w5.heap.size w5 w') := fun q hq hv => by
        refine (copies_any sp q sc (zs5.take q) w5 (SS.out.head entKind_ok q hq) (by omega) (fun z hz => M5.out z (List.mem_of_mem_take hz))).mono ?_
        rintro e w' ⟨v, us, rfl, h1, h2, h3⟩
        obtain ⟨za, zc, rfl, _, _⟩ := h1.src
        refine ⟨za, zc, us, rfl, ?_, h1.base B5.out.size, h2.trans hv, h3⟩
        have := congrArg List.length h2
        rw [List.length_map, List.length_map, List.length_take] at this
        omega
      clear ho5 hm5 hv5 hb5 hss hsc hQ AK p0
      have KF := keep (kept_falling zs bottom (yes.map (·.e)))
      cases bottom with
      | false =>
        have K0 : Hid ((zs5.take Q).map (·.e) = Mg.kept zs false (yes.map (·.e))) := by
          show _ = _
          rw [← KF.out, List.take_of_length_le (by rw [HQ.out]; exact Nat.le_refl _), V5.out]
          rfl
        go_wp2_with fail
        refine (END.out Q (Nat.le_refl _) K0.out).mono ?_
        rintro e w6 ⟨za, zc, us, rfl, hul, h1, h2, h3⟩
        have U1 := keep h1
        have U2 := keep h2
        have B6 := keep (B5.out.trans (h3.mono B5.out.size))
        have E6 := keep (E5.out.below h3)
        obtain ⟨xa, xc, ex, hxs, _⟩ := h1.src
        have XS : Hid (RSrc entKind w6 za us.length zc us) := by cases ex; exact hxs
        clear h1 h2 h3 ex hxs
        go_wp2_with (at_builtin; go_loud (refine wpList_append_rowsM rfl _ _ 24 36 rfl w4.heap.size i0 _ 4 64 Try.underlying24 hi0 hz0 hz1 hz2 rfl (by decide) u8 ys.length (rv entKind ys) rfl E6.out.row za us.length zc (rv entKind us) rfl XS.out.nil (by rw [rv_length entKind_ok]; rfl) XS.out.cells (rv_one entKind_ok us) (by unfold maxLen; omega) (by omega) B6.out.size ?_); intro v7 w7 ho7 hg7; have HO7 := keep ho7; have HG7 := keep hg7; clear ho7 hg7)
        have E7 : Hid (Ents w4.heap.size w7 v7 (ys ++ us)) := E6.out.grow U1.out.each (by rw [rv_append]; exact HO7.out) HG7.out
        have B7 := keep (B6.out.grown HG7.out B6.out.size (fun j hj => (E6.out.row.lt j hj).1))
        go_roundw
        case rel => exact ⟨k + 1, ys ++ us, by omega, by go_num, ⟨E7.out, by rw [List.map_append, U2.out, FM.out, hI.out.val], B7.out⟩⟩
        case measure => simp [intOf]; omega
      | true =>
        go_wp2_with fail
        refine ST.out.mono ?_
        rintro e w6 ⟨q, rfl, hq, hstr, rfl⟩
        have HQQ := keep hq
        have K0 : Hid ((zs5.take q).map (·.e) = Mg.kept zs true (yes.map (·.e))) := by
          show _ = _
          rw [← KF.out, hstr, V5.out]
          rfl
        clear hstr ST
        go_wp2_with fail
        refine (END.out q HQQ.out K0.out).mono ?_
        rintro e w6' ⟨za, zc, us, rfl, hul, h1, h2, h3⟩
        have U1 := keep h1
        have U2 := keep h2
        have B6 := keep (B5.out.trans (h3.mono B5.out.size))
        have E6 := keep (E5.out.below h3)
        obtain ⟨xa, xc, ex, hxs, _⟩ := h1.src
        have XS : Hid (RSrc entKind w6' za us.length zc us) := by cases ex; exact hxs
        clear h1 h2 h3 ex hxs
        go_wp2_with (at_builtin; go_loud (refine wpList_append_rowsM rfl _ _ 24 36 rfl w4.heap.size i0 _ 4 64 Try.underlying24 hi0 hz0 hz1 hz2 rfl (by decide) u8 ys.length (rv entKind ys) rfl E6.out.row za us.length zc (rv entKind us) rfl XS.out.nil (by rw [rv_length entKind_ok]; rfl) XS.out.cells (rv_one entKind_ok us) (by unfold maxLen; omega) (by omega) B6.out.size ?_); intro v7 w7 ho7 hg7; have HO7 := keep ho7; have HG7 := keep hg7; clear ho7 hg7)
        have E7 : Hid (Ents w4.heap.size w7 v7 (ys ++ us)) := E6.out.grow U1.out.each (by rw [rv_append]; exact HO7.out) HG7.out
        have B7 := keep (B6.out.grown HG7.out B6.out.size (fun j hj => (E6.out.row.lt j hj).1))
        go_roundw
        case rel => exact ⟨k + 1, ys ++ us, by omega, by go_num, ⟨E7.out, by rw [List.map_append, U2.out, FM.out, hI.out.val], B7.out⟩⟩
        case measure => simp [intOf]; omega
    · obtain rfl : k = L := by omega
      go_wp2
      go_ret
      exact ⟨_, ys, rfl, hI.out.row.base B4.out.size, by rw [hI.out.val, ← HL.out, List.take_length, part_ents VL.out]; rfl, B4.out.trans (HB.out.mono B4.out.size)⟩
end Go.Proofs.Ytgdggeacjfhkkaa
