/- The walk of MergeRow. -/
import Derived.Test.YtimgdhdfefldpaaNg
namespace Go.Proofs.Ytimgdhdfefldpaa
open Go.RowKit
open Sk (Ent)

theorem take_row {ls : List LV} {k : Nat} {y : LV} {P : LV → Prop} (h : ls[k]? = some y) (h1 : ∀ l ∈ ls.take k, P l) (h2 : P y) : ∀ l ∈ ls.take (k + 1), P l := fun l hl => by
  rw [List.take_add_one, h] at hl
  rcases List.mem_append.1 hl with hl | hl
  · exact h1 l hl
  · rw [show l = y by simpa using hl]; exact h2
/-- An entry of a list has one of its key and number among what is merged; of the first list it is itself. -/
theorem mrg_has {ls : List LV} {Y : List Ent} (h : Mg.Mrg ((lents ls).flatten) Y) {i : Nat} {y : LV} (hy : ls[i]? = some y) (hu : Sk.Up (y.es.map (·.e))) {x : Ent} (hx : x ∈ y.es.map (·.e)) : ∃ f, verE Y x.key x.seq = some f ∧ f.seq = x.seq ∧ (i = 0 → f = x) := by
  have hm : x ∈ (lents ls).flatten := List.mem_flatten.2 ⟨_, List.mem_map.2 ⟨y, List.mem_of_getElem? hy, rfl⟩, hx⟩
  cases hf : ((lents ls).flatten).find? (Mg.alike x) with
  | none => exact absurd (Mg.alike_refl x) (by rw [List.find?_eq_none] at hf; exact hf x hm)
  | some f =>
    obtain ⟨h1, _, h3⟩ := Mg.find_alike hf
    obtain ⟨hk, hs⟩ := Mg.alike_iff.1 h1
    have hv := ver_self h.up ((h.mem f).2 h3)
    rw [← hk, ← hs] at hv
    refine ⟨f, hv, hs.symm, fun h0 => ?_⟩
    subst h0
    cases ls with
    | nil => simp at hy
    | cons l0 ls =>
      simp only [List.getElem?_cons_zero, Option.some.injEq] at hy
      subst hy
      have e1 : (lents (l0 :: ls)).flatten = l0.es.map (·.e) ++ (lents ls).flatten := rfl
      rw [e1, List.find?_append, Mg.up_find hu hx (Mg.alike_refl x)] at hf
      cases hf
      rfl
set_option maxHeartbeats 1500000 in
set_option maxRecDepth 100000 in
theorem row_walk (ao : Option Addr) (N c : Nat) (ls : List LV) (w : World) (hs : RSrc listKind w ao N c ls) (hyc : ∀ l ∈ ls, l.c ≤ maxLen) (hnear : NearL ls) :
    Calls Try.prog 5 #[.slice ao N c] w fun e w' => e = .returned (.bool true) ∧ Below w.heap.size w w' := by
  have HS := keep hs
  have HLEN := keep hs.len
  have HYC := keep hyc
  have NE := keep hnear
  have AW := keep (awake_any w)
  clear hs hyc hnear
  go_enter Try.func5, Try.ntmps5
  go_wp2_with fail
  refine AW.out.mono ?_
  rintro e w1 ⟨rfl, hb1⟩
  have B1 := keep hb1
  have S1 := keep (HS.out.below listKind_ok hb1)
  clear hb1 AW
  go_wp2
  go_loopw [4, 5] (fun n i wr => ∃ k : Nat, k ≤ N ∧ i = .int .i64 (k : Int) ∧ n = .int .i64 (bulk ls k : Int) ∧ Hid (Below w1.heap.size w1 wr ∧ bulk ls k ≤ 601 ∧ ∀ l ∈ ls.take k, Sk.Up (l.es.map (·.e)) ∧ ∀ x ∈ l.es.map (·.e), Sk.may x = true)) (fun _ i _ => N - (intOf i).toNat)
  case atStart => exact ⟨0, Nat.zero_le _, rfl, by simp [bulk], Below.refl _ _, by simp [bulk], (fun l hl => by simp at hl)⟩
  case round =>
    obtain ⟨k, hk, rfl, rfl, hI⟩ := hrel
    have HB := keep hI.out.1
    have hbk := hI.out.2.1
    have hk4 : k ≤ 601 := by have := hI.out.2.1; unfold bulk at this; omega
    have hk5 : (k : Int) ≤ 601 := by omega
    have S2 := keep (S1.out.below listKind_ok HB.out)
    by_cases hkn : k < N
    · obtain ⟨b, off, rfl, _, _⟩ := S2.out.form listKind_ok (by omega)
      obtain ⟨y, hy⟩ : ∃ y, ls[k]? = some y := ⟨ls[k]'(by rw [HLEN.out]; exact hkn), List.getElem?_eq_getElem _⟩
      have hym := List.mem_of_getElem? hy
      have p0 := list_cell S2.out hy
      have BN := keep (bulk_next hy)
      have YR := keep (S2.out.held y hym)
      have YN := keep (NE.out y hym)
      have TR : Hid ((Sk.Up (y.es.map (·.e)) ∧ ∀ x ∈ y.es.map (·.e), Sk.may x = true) → ∀ l ∈ ls.take (k + 1), Sk.Up (l.es.map (·.e)) ∧ ∀ x ∈ l.es.map (·.e), Sk.may x = true) := fun h => take_row (P := fun l => Sk.Up (l.es.map (·.e)) ∧ ∀ x ∈ l.es.map (·.e), Sk.may x = true) hy hI.out.2.2 h
      obtain ⟨yp, yc, yes⟩ := y
      have OR : Hid (yes.length ≤ 300 → _) := fun h => ordered_any yp yes.length yc yes wr YR.out (by omega) YN.out
      simp only at p0 BN TR
      obtain ⟨Y, hY⟩ : ∃ Y, yes.length = Y := ⟨_, rfl⟩
      rw [hY] at p0 BN OR
      obtain ⟨Z, hZ⟩ : ∃ Z, bulk ls k = Z := ⟨_, rfl⟩
      rw [hZ] at BN hbk ⊢
      clear hy hY hZ hym
      have ll : (k : Int) < (N : Int) := by omega
      have l0 : (0 : Int) ≤ (k : Int) := by omega
      by_cases h1 : 300 < Y
      · have e1 : (300 : Int) < (Y : Int) := by omega
        go_wp2
        go_ret
        exact ⟨rfl, B1.out.trans (HB.out.mono B1.out.size)⟩
      · by_cases h2 : 300 < Z
        · have e1 : ¬ (300 : Int) < (Y : Int) := by omega
          have e2 : (300 : Int) < (Z : Int) := by omega
          go_wp2
          go_ret
          exact ⟨rfl, B1.out.trans (HB.out.mono B1.out.size)⟩
        · have e1 : ¬ (300 : Int) < (Y : Int) := by omega
          have e2 : ¬ (300 : Int) < (Z : Int) := by omega
          have e3 : (Y : Int) ≤ 300 := by omega
          have e4 : (Z : Int) ≤ 300 := by omega
          go_wp2_with fail
          refine (OR.out (by omega)).mono ?_
          rintro e w2 ⟨r, rfl, hr, hb2⟩
          have B2 := keep (HB.out.trans (hb2.mono HB.out.size))
          have p1 := below_cell hb2 p0
          clear hb2
          cases r with
          | false =>
            go_wp2
            go_ret
            exact ⟨rfl, B1.out.trans (B2.out.mono B1.out.size)⟩
          | true =>
            have TN := keep (TR.out (hr rfl))
            clear hr
            go_wp2
            go_roundw
            case rel => exact ⟨k + 1, by omega, by go_num, by rw [BN.out]; go_num, B2.out, by rw [BN.out]; omega, TN.out⟩
            case measure => simp [intOf]; omega
    · obtain rfl : N = k := by omega
      have TT : Hid (total ls + N ≤ 601) := by
        have h1 := hbk
        unfold bulk at h1
        rw [List.take_of_length_le (by rw [HLEN.out]; exact Nat.le_refl _)] at h1
        exact h1
      have ALL : Hid (∀ l ∈ ls, Sk.Up (l.es.map (·.e)) ∧ ∀ x ∈ l.es.map (·.e), Sk.may x = true) := by
        have h1 := hI.out.2.2
        rw [List.take_of_length_le (by rw [HLEN.out]; exact Nat.le_refl _)] at h1
        exact h1
      have M1 := keep (merge_any ao N c ls wr S2.out (by omega) HYC.out (by have := TT.out; unfold total at this; omega) NE.out)
      obtain ⟨BK, hBK⟩ : ∃ BK, bulk ls N = BK := ⟨_, rfl⟩
      rw [hBK]
      clear hBK hbk
      have BW := keep (B1.out.trans (HB.out.mono B1.out.size))
      go_wp2_with fail
      refine M1.out.mono ?_
      rintro e w2 ⟨v2, ys, rfl, hE, hV, hl, hb⟩
      obtain ⟨ma, mc, rfl, hys, hmc⟩ := hE.src
      have V2 := keep hV
      have B2 := keep (BW.out.trans (hb.mono BW.out.size))
      have S3 := keep (S2.out.below listKind_ok hb)
      have MEM : Hid (∀ y ∈ ys, ∃ l ∈ ls, ∃ x ∈ l.es, x.e = y.e) := fun y hy => by
        have h1 : y.e ∈ ys.map (·.e) := List.mem_map.2 ⟨y, hy, rfl⟩
        have h2 := List.mem_of_find?_eq_some ((hV.mem y.e).1 h1)
        rw [lents_flat] at h2
        obtain ⟨x, hx, hxe⟩ := List.mem_map.1 h2
        obtain ⟨t, ht, hxt⟩ := List.mem_flatten.1 hx
        obtain ⟨l, hl', rfl⟩ := List.mem_map.1 ht
        exact ⟨l, hl', x, hxt, hxe⟩
      have NY : Hid (NearE ys) := fun y hy => by
        obtain ⟨l, hl', x, hxt, hxe⟩ := MEM.out y hy
        rw [← hxe]
        exact NE.out l hl' x hxt
      have MY : Hid (∀ x ∈ ys.map (·.e), Sk.may x = true) := fun x hx => by
        obtain ⟨y, hy, rfl⟩ := List.mem_map.1 hx
        obtain ⟨l, hl', x, hxt, hxe⟩ := MEM.out y hy
        rw [← hxe]
        exact (ALL.out l hl').2 _ (List.mem_map.2 ⟨x, hxt, rfl⟩)
      have Y2 := keep hys
      obtain ⟨M, hM⟩ : ∃ M, ys.length = M := ⟨_, rfl⟩
      rw [hM] at Y2 hl ⊢
      have hM4 : M ≤ 601 := by have := TT.out; omega
      have O2 := keep (ordered_yes ma M mc ys w2 Y2.out (by omega) NY.out V2.out.up MY.out)
      clear hE hV hb hys hmc hM M1
      go_wp2_with fail
      refine O2.out.mono ?_
      rintro e w3 ⟨rfl, hb3⟩
      have B3 := keep (B2.out.trans (hb3.mono B2.out.size))
      have Y3 := keep (Y2.out.below entKind_ok hb3)
      have S4 := keep (S3.out.below listKind_ok hb3)
      clear hb3 O2
      go_wp2
      go_loopw [7] (fun i wr => ∃ k : Nat, k ≤ N ∧ i = .int .i64 (k : Int) ∧ Hid (Below w3.heap.size w3 wr)) (fun i _ => N - (intOf i).toNat)
      case atStart => exact ⟨0, Nat.zero_le _, rfl, Below.refl _ _⟩
      case round =>
        obtain ⟨i, hi, rfl, hB⟩ := hrel
        by_cases hin : i < N
        · have S5 := S4.out.below listKind_ok hB.out
          obtain ⟨b, off, rfl, _, _⟩ := S5.form listKind_ok (by omega)
          obtain ⟨y, hy⟩ : ∃ y, ls[i]? = some y := ⟨ls[i]'(by rw [HLEN.out]; exact hin), List.getElem?_eq_getElem _⟩
          have hym := List.mem_of_getElem? hy
          have HY := keep hy
          have hyl : y.es.length ≤ 601 := by
            have h1 : y.es.length ≤ total ls := (List.sublist_flatten_of_mem (List.mem_map.2 ⟨y, hym, rfl⟩)).length_le
            have := TT.out
            omega
          have UY := keep (ALL.out y hym).1
          have SS := keep S5
          have b4 := keep hB.out
          obtain ⟨wo, hwo⟩ : ∃ wo, wo = wr := ⟨_, rfl⟩
          rw [← hwo] at SS b4 ⊢
          have i5 : (i : Int) ≤ 601 := by omega
          have g0 : (0 : Int) ≤ (i : Int) := by omega
          have g1 : (i : Int) < (N : Int) := by omega
          clear hwo hB S5 hy
          obtain ⟨Y, hY⟩ : ∃ Y, y.es.length = Y := ⟨_, rfl⟩
          have HYL := keep hY
          rw [hY] at hyl
          clear hY
          go_wp2
          go_loopw [8] (fun j wr => ∃ k : Nat, k ≤ Y ∧ j = .int .i64 (k : Int) ∧ Hid (Below wo.heap.size wo wr)) (fun j _ => Y - (intOf j).toNat)
          case atStart => exact ⟨0, Nat.zero_le _, rfl, Below.refl _ _⟩
          case round =>
            obtain ⟨k, hk2, rfl, hB⟩ := hrel
            have S6 := SS.out.below listKind_ok hB.out
            have cl := list_cell S6 HY.out
            rw [HYL.out] at cl
            by_cases hkn2 : k < Y
            · have R6 : RSrc entKind wr y.p Y y.c y.es := by have := S6.held y hym; rw [← HYL.out]; exact this
              obtain ⟨x, hx⟩ : ∃ x, y.es[k]? = some x := ⟨y.es[k]'(by rw [HYL.out]; exact hkn2), List.getElem?_eq_getElem _⟩
              have xm := List.mem_of_getElem? hx
              obtain ⟨d, o, hyp, _, _⟩ := R6.form entKind_ok (by omega)
              obtain ⟨yc, hyc⟩ : ∃ yc, y.c = yc := ⟨_, rfl⟩
              rw [hyp, hyc] at cl R6
              have CL : Hid (∀ w', Below wr.heap.size wr w' → w'.cell? ⟨b, off + i, none⟩ = some (.slice (some ⟨d, o, none⟩) Y yc)) := fun w' hb => below_cell hb cl
              have CX0 : ∀ w', Below wr.heap.size wr w' → _ := fun w' hb => ent_cells (R6.below entKind_ok hb) hx
              have XH := keep (R6.held x xm)
              obtain ⟨fe, hfe, hfs, hf0⟩ := mrg_has V2.out HY.out UY.out (List.mem_map.2 ⟨x, xm, rfl⟩)
              have FS := keep hfs
              have F0 := keep hf0
              have GE : Hid (∀ w', Below wr.heap.size wr w' → Calls Try.prog 20 #[.slice ma M mc, .slice x.kp x.e.key.length x.kc, .int .i64 x.e.seq] w' fun e w'' => ∃ y : EV, e = .returned (.tuple #[ev y, .bool true]) ∧ y.e = fe ∧ entKind.held w'' y ∧ Below w'.heap.size w' w'') := fun w' hb => by
                have hb0 := b4.out.trans ((hB.out.trans (hb.mono hB.out.size)).mono b4.out.size)
                refine (rversion_any ma M mc ys x.kp x.kc x.e.key x.e.seq w' (Y3.out.below entKind_ok hb0) NY.out (by omega) (entKind_ok.below XH.out hb).1).mono ?_
                rintro e w'' ⟨z, rfl, h1, h2, h3⟩
                rw [hfe] at h1 ⊢
                exact ⟨z, rfl, h1, h2.held, h3⟩
              have SO1 : Hid (∀ (z : EV) w', z.e = x.e → entKind.held w' z → entKind.held w' x → _) := fun z w' h1 h2 h3 => sameOne_yes z x w' h2 h3 h1
              have CX := keep CX0
              have k5 : (k : Int) ≤ 601 := by omega
              have j0 : (0 : Int) ≤ (k : Int) := by omega
              have j1 : (k : Int) < (Y : Int) := by omega
              clear hx xm CX0 hfe hfs hf0 hyp hyc R6 S6
              obtain ⟨xkp, xkc, xvp, xvc, ⟨xkey, xseq, xgone, xval⟩⟩ := x
              simp only at CX GE FS F0
              go_wp2_with fail
              refine region_share (fun a a' w' => ∃ (g : Nat) (ykp : Option Addr) (ykc : Nat) (yvp : Option Addr) (yvc : Nat) (ykey : List UInt8) (yseq : Int) (ygone : Bool) (yval : List UInt8), a' = sets a [(70, .slice ma M mc), (71, .slice (some ⟨b, off, none⟩) N c), (72, .int .i64 (i : Int)), (73, .pointer (some ⟨b, off + i, none⟩)), (74, .slice (some ⟨d, o, none⟩) Y yc), (75, .int .i64 (k : Int)), (76, .pointer (some ⟨d, o + k * 4, none⟩)), (77, .pointer (some ⟨d, o + k * 4, none⟩)), (78, .slice xkp xkey.length xkc), (79, .slice (some ⟨b, off, none⟩) N c), (80, .int .i64 (i : Int)), (81, .pointer (some ⟨b, off + i, none⟩)), (82, .slice (some ⟨d, o, none⟩) Y yc), (83, .int .i64 (k : Int)), (84, .pointer (some ⟨d, o + k * 4, none⟩)), (85, .pointer (some ⟨d, o + k * 4 + 1, none⟩)), (86, .int .i64 xseq), (69, .tuple #[.agg #[.slice ykp ykey.length ykc, .int .i64 yseq, .bool ygone, .slice yvp yval.length yvc], .bool true]), (88, .agg #[.slice ykp ykey.length ykc, .int .i64 yseq, .bool ygone, .slice yvp yval.length yvc]), (89, .bool true), (10, .bool true), (87, .tuple #[.agg #[.slice ykp ykey.length ykc, .int .i64 yseq, .bool ygone, .slice yvp yval.length yvc], .bool true]), (9, .pointer (some ⟨g, 0, none⟩))] ∧ GotE wr fe g ⟨ykp, ykc, yvp, yvc, ⟨ykey, yseq, ygone, yval⟩⟩ w') ?_ ?_
              · refine wp_region_held_drew (S := fun w' => Below wr.heap.size wr w') (by kernel_rfl) ((Below.refl _ _).drew) (fun hHeld => ?_)
                refine takeH (i := 0) 70 (v := .slice ma M mc) rfl rfl (by kernel_rfl) (by kernel_rfl) (by kernel_rfl) (fun _ _ _ h => h) (Or.inl ⟨by rfl, ?_⟩) (by assumption) ?_
                · intro w' hSw'
                  go_simp
                simp only [Act.put, List.setIfInBounds_toArray, List.set_cons_zero, List.set_cons_succ]
                refine takeH (i := 1) 71 (v := .slice (some ⟨b, off, none⟩) N c) rfl rfl (by kernel_rfl) (by kernel_rfl) (by kernel_rfl) (fun _ _ _ h => h) (Or.inl ⟨by rfl, ?_⟩) (by assumption) ?_
                · intro w' hSw'
                  go_simp
                simp only [Act.put, List.setIfInBounds_toArray, List.set_cons_zero, List.set_cons_succ]
                refine takeH (i := 2) 72 (v := .int .i64 (i : Int)) rfl rfl (by kernel_rfl) (by kernel_rfl) (by kernel_rfl) (fun _ _ _ h => h) (Or.inl ⟨by rfl, ?_⟩) (by assumption) ?_
                · intro w' hSw'
                  go_simp
                simp only [Act.put, List.setIfInBounds_toArray, List.set_cons_zero, List.set_cons_succ]
                refine takeH (i := 3) 73 (v := .pointer (some ⟨b, off + i, none⟩)) rfl rfl (by kernel_rfl) (by kernel_rfl) (by kernel_rfl) (fun _ _ _ h => h) (Or.inl ⟨by rfl, ?_⟩) (by assumption) ?_
                · intro w' hSw'
                  go_simp
                simp only [Act.put, List.setIfInBounds_toArray, List.set_cons_zero, List.set_cons_succ]
                refine takeH (i := 4) 74 (v := .slice (some ⟨d, o, none⟩) Y yc) rfl rfl (by kernel_rfl) (by kernel_rfl) (by kernel_rfl) (fun _ _ _ h => h) (Or.inl ⟨by rfl, ?_⟩) (by assumption) ?_
                · intro w' hSw'
                  have q7 := CL.out w' hSw'
                  go_simp
                simp only [Act.put, List.setIfInBounds_toArray, List.set_cons_zero, List.set_cons_succ]
                refine takeH (i := 5) 75 (v := .int .i64 (k : Int)) rfl rfl (by kernel_rfl) (by kernel_rfl) (by kernel_rfl) (fun _ _ _ h => h) (Or.inl ⟨by rfl, ?_⟩) (by assumption) ?_
                · intro w' hSw'
                  go_simp
                simp only [Act.put, List.setIfInBounds_toArray, List.set_cons_zero, List.set_cons_succ]
                refine takeH (i := 6) 76 (v := .pointer (some ⟨d, o + k * 4, none⟩)) rfl rfl (by kernel_rfl) (by kernel_rfl) (by kernel_rfl) (fun _ _ _ h => h) (Or.inl ⟨by rfl, ?_⟩) (by assumption) ?_
                · intro w' hSw'
                  go_simp
                simp only [Act.put, List.setIfInBounds_toArray, List.set_cons_zero, List.set_cons_succ]
                refine takeH (i := 7) 77 (v := .pointer (some ⟨d, o + k * 4, none⟩)) rfl rfl (by kernel_rfl) (by kernel_rfl) (by kernel_rfl) (fun _ _ _ h => h) (Or.inl ⟨by rfl, ?_⟩) (by assumption) ?_
                · intro w' hSw'
                  go_simp
                simp only [Act.put, List.setIfInBounds_toArray, List.set_cons_zero, List.set_cons_succ]
                refine takeH (i := 8) 78 (v := .slice xkp xkey.length xkc) rfl rfl (by kernel_rfl) (by kernel_rfl) (by kernel_rfl) (fun _ _ _ h => h) (Or.inl ⟨by rfl, ?_⟩) (by assumption) ?_
                · intro w' hSw'
                  obtain ⟨y0, y1, y2, y3⟩ := CX.out w' hSw'
                  go_simp
                simp only [Act.put, List.setIfInBounds_toArray, List.set_cons_zero, List.set_cons_succ]
                refine takeH (i := 9) 79 (v := .slice (some ⟨b, off, none⟩) N c) rfl rfl (by kernel_rfl) (by kernel_rfl) (by kernel_rfl) (fun _ _ _ h => h) (Or.inl ⟨by rfl, ?_⟩) (by assumption) ?_
                · intro w' hSw'
                  go_simp
                simp only [Act.put, List.setIfInBounds_toArray, List.set_cons_zero, List.set_cons_succ]
                refine takeH (i := 10) 80 (v := .int .i64 (i : Int)) rfl rfl (by kernel_rfl) (by kernel_rfl) (by kernel_rfl) (fun _ _ _ h => h) (Or.inl ⟨by rfl, ?_⟩) (by assumption) ?_
                · intro w' hSw'
                  go_simp
                simp only [Act.put, List.setIfInBounds_toArray, List.set_cons_zero, List.set_cons_succ]
                refine takeH (i := 11) 81 (v := .pointer (some ⟨b, off + i, none⟩)) rfl rfl (by kernel_rfl) (by kernel_rfl) (by kernel_rfl) (fun _ _ _ h => h) (Or.inl ⟨by rfl, ?_⟩) (by assumption) ?_
                · intro w' hSw'
                  go_simp
                simp only [Act.put, List.setIfInBounds_toArray, List.set_cons_zero, List.set_cons_succ]
                refine takeH (i := 12) 82 (v := .slice (some ⟨d, o, none⟩) Y yc) rfl rfl (by kernel_rfl) (by kernel_rfl) (by kernel_rfl) (fun _ _ _ h => h) (Or.inl ⟨by rfl, ?_⟩) (by assumption) ?_
                · intro w' hSw'
                  have q7 := CL.out w' hSw'
                  go_simp
                simp only [Act.put, List.setIfInBounds_toArray, List.set_cons_zero, List.set_cons_succ]
                refine takeH (i := 13) 83 (v := .int .i64 (k : Int)) rfl rfl (by kernel_rfl) (by kernel_rfl) (by kernel_rfl) (fun _ _ _ h => h) (Or.inl ⟨by rfl, ?_⟩) (by assumption) ?_
                · intro w' hSw'
                  go_simp
                simp only [Act.put, List.setIfInBounds_toArray, List.set_cons_zero, List.set_cons_succ]
                refine takeH (i := 14) 84 (v := .pointer (some ⟨d, o + k * 4, none⟩)) rfl rfl (by kernel_rfl) (by kernel_rfl) (by kernel_rfl) (fun _ _ _ h => h) (Or.inl ⟨by rfl, ?_⟩) (by assumption) ?_
                · intro w' hSw'
                  go_simp
                simp only [Act.put, List.setIfInBounds_toArray, List.set_cons_zero, List.set_cons_succ]
                refine takeH (i := 15) 85 (v := .pointer (some ⟨d, o + k * 4 + 1, none⟩)) rfl rfl (by kernel_rfl) (by kernel_rfl) (by kernel_rfl) (fun _ _ _ h => h) (Or.inl ⟨by rfl, ?_⟩) (by assumption) ?_
                · intro w' hSw'
                  go_simp
                simp only [Act.put, List.setIfInBounds_toArray, List.set_cons_zero, List.set_cons_succ]
                refine takeH (i := 16) 86 (v := .int .i64 xseq) rfl rfl (by kernel_rfl) (by kernel_rfl) (by kernel_rfl) (fun _ _ _ h => h) (Or.inl ⟨by rfl, ?_⟩) (by assumption) ?_
                · intro w' hSw'
                  obtain ⟨y0, y1, y2, y3⟩ := CX.out w' hSw'
                  go_simp
                simp only [Act.put, List.setIfInBounds_toArray, List.set_cons_zero, List.set_cons_succ]
                refine wpAnyH_ready (rs := [17, 21]) (by kernel_rfl) (by simp) ?_
                refine AllReadyH.cons rfl (fun K hK => ?_) (AllReadyH.cons rfl (fun K hK => ?_) AllReadyH.nil)
                · go_simp
                  refine (GE.out _ ((Below.refl _ _).drew)).mono ?_
                  rintro e w5 ⟨y, rfl, hy, hyh, hb5⟩
                  have HY := keep hy
                  have YH := keep hyh
                  obtain ⟨ykp, ykc, yvp, yvc, ⟨ykey, yseq, ygone, yval⟩⟩ := y
                  unfold ev
                  simp only
                  have b5 : Hid (Below wr.heap.size wr w5) := ((Below.refl _ _).drew).trans (hb5.mono (Nat.le_refl _))
                  clear hy hyh hb5
                  go_wp2_with fail
                  refine hK.out _ _ (b5.out) (fun hA1 => ?_)
                  clear hK K
                  refine takeH (i := 18) 69 (v := .tuple #[.agg #[.slice ykp ykey.length ykc, .int .i64 yseq, .bool ygone, .slice yvp yval.length yvc], .bool true]) rfl rfl (by kernel_rfl) (by kernel_rfl) (by kernel_rfl) (fun _ _ _ h => h) (Or.inl ⟨by rfl, ?_⟩) (by assumption) ?_
                  · intro w' hSw'
                    go_simp
                  simp only [Act.put, List.setIfInBounds_toArray, List.set_cons_zero, List.set_cons_succ]
                  refine takeH (i := 19) 88 (v := .agg #[.slice ykp ykey.length ykc, .int .i64 yseq, .bool ygone, .slice yvp yval.length yvc]) rfl rfl (by kernel_rfl) (by kernel_rfl) (by kernel_rfl) (fun _ _ _ h => h) (Or.inl ⟨by rfl, ?_⟩) (by assumption) ?_
                  · intro w' hSw'
                    go_simp
                  simp only [Act.put, List.setIfInBounds_toArray, List.set_cons_zero, List.set_cons_succ]
                  refine takeH (i := 20) 89 (v := .bool true) rfl rfl (by kernel_rfl) (by kernel_rfl) (by kernel_rfl) (fun _ _ _ h => h) (Or.inl ⟨by rfl, ?_⟩) (by assumption) ?_
                  · intro w' hSw'
                    go_simp
                  simp only [Act.put, List.setIfInBounds_toArray, List.set_cons_zero, List.set_cons_succ]
                  refine wpAnyH_ready (rs := [21]) (by kernel_rfl) (by simp) ?_
                  refine AllReadyH.cons rfl (fun K hK => ?_) AllReadyH.nil
                  go_simp
                  refine hK.out _ _ (b5.out.alloc b5.out.size _) (fun hA2 => ?_)
                  clear hK K
                  refine wpAnyH_ready (rs := [0x16]) (by kernel_rfl) (by simp) ?_
                  refine AllReadyH.cons rfl (fun K hK => ?_) AllReadyH.nil
                  go_simp
                  refine hK.out _ _ (b5.out.alloc b5.out.size _) (fun hA3 => ?_)
                  clear hK K
                  refine takeH (i := 23) 10 (v := .bool true) rfl rfl (by kernel_rfl) (by kernel_rfl) (by kernel_rfl) (fun _ _ _ h => h) (Or.inl ⟨by rfl, ?_⟩) (by assumption) ?_
                  · intro w' hSw'
                    go_simp
                  simp only [Act.put, List.setIfInBounds_toArray, List.set_cons_zero, List.set_cons_succ]
                  refine wpAnyH_done (by kernel_rfl) ?_ _
                  exact ⟨_, ykp, ykc, yvp, yvc, ykey, yseq, ygone, yval, (by simp only [sets, Act.put, List.setIfInBounds_toArray, List.set_cons_zero, List.set_cons_succ]; all_goals rfl), got_alloc (y := ⟨ykp, ykc, yvp, yvc, ⟨ykey, yseq, ygone, yval⟩⟩) b5.out HY.out YH.out⟩
                · go_simp
                  have bZ : Hid (Below wr.heap.size wr (wr.drew.alloc (.cells #[.slice none 0 0, .int .i64 0, .bool false, .slice none 0 0] 36))) := ((Below.refl _ _).drew).alloc (Nat.le_refl _) _
                  refine hK.out _ _ (bZ.out) (fun hA1 => ?_)
                  clear hK K
                  refine wpAnyH_ready (rs := [17]) (by kernel_rfl) (by simp) ?_
                  refine AllReadyH.cons rfl (fun K hK => ?_) AllReadyH.nil
                  go_simp
                  refine (GE.out _ (bZ.out)).mono ?_
                  rintro e w5 ⟨y, rfl, hy, hyh, hb5⟩
                  have HY := keep hy
                  have YH := keep hyh
                  obtain ⟨ykp, ykc, yvp, yvc, ⟨ykey, yseq, ygone, yval⟩⟩ := y
                  unfold ev
                  simp only
                  have b5 : Hid (Below wr.heap.size wr w5) := bZ.out.trans (hb5.mono bZ.out.size)
                  have g5 : Hid (w5.heap[wr.heap.size]? = some (.cells #[.slice none 0 0, .int .i64 0, .bool false, .slice none 0 0] 36)) := (hb5.block _ (by simp)).trans (heap_alloc_new wr.drew _)
                  clear hy hyh hb5
                  go_wp2_with fail
                  refine hK.out _ _ (b5.out) (fun hA2 => ?_)
                  clear hK K
                  refine takeH (i := 18) 69 (v := .tuple #[.agg #[.slice ykp ykey.length ykc, .int .i64 yseq, .bool ygone, .slice yvp yval.length yvc], .bool true]) rfl rfl (by kernel_rfl) (by kernel_rfl) (by kernel_rfl) (fun _ _ _ h => h) (Or.inl ⟨by rfl, ?_⟩) (by assumption) ?_
                  · intro w' hSw'
                    go_simp
                  simp only [Act.put, List.setIfInBounds_toArray, List.set_cons_zero, List.set_cons_succ]
                  refine takeH (i := 19) 88 (v := .agg #[.slice ykp ykey.length ykc, .int .i64 yseq, .bool ygone, .slice yvp yval.length yvc]) rfl rfl (by kernel_rfl) (by kernel_rfl) (by kernel_rfl) (fun _ _ _ h => h) (Or.inl ⟨by rfl, ?_⟩) (by assumption) ?_
                  · intro w' hSw'
                    go_simp
                  simp only [Act.put, List.setIfInBounds_toArray, List.set_cons_zero, List.set_cons_succ]
                  refine takeH (i := 20) 89 (v := .bool true) rfl rfl (by kernel_rfl) (by kernel_rfl) (by kernel_rfl) (fun _ _ _ h => h) (Or.inl ⟨by rfl, ?_⟩) (by assumption) ?_
                  · intro w' hSw'
                    go_simp
                  simp only [Act.put, List.setIfInBounds_toArray, List.set_cons_zero, List.set_cons_succ]
                  refine wpAnyH_ready (rs := [0x16]) (by kernel_rfl) (by simp) ?_
                  refine AllReadyH.cons rfl (fun K hK => ?_) AllReadyH.nil
                  have t0 : w5.cell? ⟨wr.heap.size, 0, none⟩ = some (.slice none 0 0) := cell_of_row _ _ _ _ _ _ g5.out
                  have f0 : w5.frozen? ⟨wr.heap.size, 0, none⟩ = false := by simp [World.frozen?, g5.out]
                  have t1 : w5.cell? ⟨wr.heap.size, 1, none⟩ = some (.int .i64 0) := cell_of_row _ _ _ _ _ _ g5.out
                  have f1 : w5.frozen? ⟨wr.heap.size, 1, none⟩ = false := by simp [World.frozen?, g5.out]
                  have t2 : w5.cell? ⟨wr.heap.size, 2, none⟩ = some (.bool false) := cell_of_row _ _ _ _ _ _ g5.out
                  have f2 : w5.frozen? ⟨wr.heap.size, 2, none⟩ = false := by simp [World.frozen?, g5.out]
                  have t3 : w5.cell? ⟨wr.heap.size, 3, none⟩ = some (.slice none 0 0) := cell_of_row _ _ _ _ _ _ g5.out
                  have f3 : w5.frozen? ⟨wr.heap.size, 3, none⟩ = false := by simp [World.frozen?, g5.out]
                  have GS := keep (got_store (y := ⟨ykp, ykc, yvp, yvc, ⟨ykey, yseq, ygone, yval⟩⟩) g5.out (Nat.le_refl _) b5.out HY.out YH.out)
                  go_simp
                  refine hK.out _ _ (GS.out.bel) (fun hA3 => ?_)
                  clear hK K t0 t1 t2 t3 f0 f1 f2 f3
                  refine takeH (i := 23) 10 (v := .bool true) rfl rfl (by kernel_rfl) (by kernel_rfl) (by kernel_rfl) (fun _ _ _ h => h) (Or.inl ⟨by rfl, ?_⟩) (by assumption) ?_
                  · intro w' hSw'
                    go_simp
                  simp only [Act.put, List.setIfInBounds_toArray, List.set_cons_zero, List.set_cons_succ]
                  refine wpAnyH_done (by kernel_rfl) ?_ _
                  exact ⟨_, ykp, ykc, yvp, yvc, ykey, yseq, ygone, yval, (by simp only [sets, Act.put, List.setIfInBounds_toArray, List.set_cons_zero, List.set_cons_succ]; all_goals rfl), GS.out⟩
              rintro a' w5 ⟨g, ykp, ykc, yvp, yvc, ykey, yseq, ygone, yval, rfl, hG⟩
              have GG := keep hG
              clear hG
              simp only [sets, Act.put, List.setIfInBounds_toArray, List.set_cons_zero, List.set_cons_succ]
              have HYS : Hid (yseq = xseq) := by
                have h1 := congrArg Sk.Ent.seq GG.out.same
                exact h1.trans FS.out
              by_cases hi0 : i = 0
              · have HI0 : Hid (((i : Int) == 0) = true) := by show _ = _; rw [hi0]; rfl
                have SO : Hid (∀ w', Below w5.heap.size w5 w' → Calls Try.prog 21 #[ev ⟨ykp, ykc, yvp, yvc, ⟨ykey, yseq, ygone, yval⟩⟩, ev ⟨xkp, xkc, xvp, xvc, ⟨xkey, xseq, xgone, xval⟩⟩] w' fun e w'' => e = .returned (.bool true) ∧ Below w5.heap.size w5 w'') := fun w' hb => by
                  refine (SO1.out _ w' (GG.out.same.trans (F0.out hi0)) (entKind_ok.below GG.out.held hb) (entKind_ok.below XH.out (GG.out.bel.trans (hb.mono GG.out.bel.size)))).mono ?_
                  rintro e w'' ⟨rfl, hb'⟩
                  exact ⟨rfl, hb.trans (hb'.mono hb.size)⟩
                unfold ev at SO
                simp only at SO
                clear hi0
                go_wp2_with fail
                refine wp_region_held_drew (S := fun w' => Below w5.heap.size w5 w') (by kernel_rfl) ((Below.refl _ _).drew) (fun hZ => ?_)
                refine takeH (i := 0) 90 (v := .bool true) rfl rfl (by kernel_rfl) (by kernel_rfl) (by kernel_rfl) (fun _ _ _ h => h) (Or.inl ⟨by rfl, ?_⟩) (by assumption) ?_
                · intro w' hSw'
                  go_simp
                simp only [Act.put, List.setIfInBounds_toArray, List.set_cons_zero, List.set_cons_succ]
                refine takeH (i := 1) 91 (v := .bool false) rfl rfl (by kernel_rfl) (by kernel_rfl) (by kernel_rfl) (fun _ _ _ h => h) (Or.inl ⟨by rfl, ?_⟩) (by assumption) ?_
                · intro w' hSw'
                  go_simp
                simp only [Act.put, List.setIfInBounds_toArray, List.set_cons_zero, List.set_cons_succ]
                refine takeH (i := 2) 92 (v := .bool false) rfl rfl (by kernel_rfl) (by kernel_rfl) (by kernel_rfl) (fun _ _ _ h => h) (Or.inl ⟨by rfl, ?_⟩) (by assumption) ?_
                · intro w' hSw'
                  go_simp
                simp only [Act.put, List.setIfInBounds_toArray, List.set_cons_zero, List.set_cons_succ]
                refine takeH (i := 3) 93 (v := .pointer (some ⟨g, 1, none⟩)) rfl rfl (by kernel_rfl) (by kernel_rfl) (by kernel_rfl) (fun _ _ _ h => h) (Or.inl ⟨by rfl, ?_⟩) (by assumption) ?_
                · intro w' hSw'
                  go_simp
                simp only [Act.put, List.setIfInBounds_toArray, List.set_cons_zero, List.set_cons_succ]
                refine takeH (i := 4) 94 (v := .int .i64 yseq) rfl rfl (by kernel_rfl) (by kernel_rfl) (by kernel_rfl) (fun _ _ _ h => h) (Or.inl ⟨by rfl, ?_⟩) (by assumption) ?_
                · intro w' hSw'
                  obtain ⟨z0, z1, z2, z3⟩ := GG.out.cells hSw'
                  go_simp
                simp only [Act.put, List.setIfInBounds_toArray, List.set_cons_zero, List.set_cons_succ]
                refine takeH (i := 5) 95 (v := .slice (some ⟨b, off, none⟩) N c) rfl rfl (by kernel_rfl) (by kernel_rfl) (by kernel_rfl) (fun _ _ _ h => h) (Or.inl ⟨by rfl, ?_⟩) (by assumption) ?_
                · intro w' hSw'
                  go_simp
                simp only [Act.put, List.setIfInBounds_toArray, List.set_cons_zero, List.set_cons_succ]
                refine takeH (i := 6) 96 (v := .int .i64 (i : Int)) rfl rfl (by kernel_rfl) (by kernel_rfl) (by kernel_rfl) (fun _ _ _ h => h) (Or.inl ⟨by rfl, ?_⟩) (by assumption) ?_
                · intro w' hSw'
                  go_simp
                simp only [Act.put, List.setIfInBounds_toArray, List.set_cons_zero, List.set_cons_succ]
                refine takeH (i := 7) 97 (v := .pointer (some ⟨b, off + i, none⟩)) rfl rfl (by kernel_rfl) (by kernel_rfl) (by kernel_rfl) (fun _ _ _ h => h) (Or.inl ⟨by rfl, ?_⟩) (by assumption) ?_
                · intro w' hSw'
                  go_simp
                simp only [Act.put, List.setIfInBounds_toArray, List.set_cons_zero, List.set_cons_succ]
                refine takeH (i := 8) 98 (v := .slice (some ⟨d, o, none⟩) Y yc) rfl rfl (by kernel_rfl) (by kernel_rfl) (by kernel_rfl) (fun _ _ _ h => h) (Or.inl ⟨by rfl, ?_⟩) (by assumption) ?_
                · intro w' hSw'
                  have q7 := CL.out w' (GG.out.bel.trans (hSw'.mono GG.out.bel.size))
                  go_simp
                simp only [Act.put, List.setIfInBounds_toArray, List.set_cons_zero, List.set_cons_succ]
                refine takeH (i := 9) 99 (v := .int .i64 (k : Int)) rfl rfl (by kernel_rfl) (by kernel_rfl) (by kernel_rfl) (fun _ _ _ h => h) (Or.inl ⟨by rfl, ?_⟩) (by assumption) ?_
                · intro w' hSw'
                  go_simp
                simp only [Act.put, List.setIfInBounds_toArray, List.set_cons_zero, List.set_cons_succ]
                refine takeH (i := 10) 100 (v := .pointer (some ⟨d, o + k * 4, none⟩)) rfl rfl (by kernel_rfl) (by kernel_rfl) (by kernel_rfl) (fun _ _ _ h => h) (Or.inl ⟨by rfl, ?_⟩) (by assumption) ?_
                · intro w' hSw'
                  go_simp
                simp only [Act.put, List.setIfInBounds_toArray, List.set_cons_zero, List.set_cons_succ]
                refine takeH (i := 11) 101 (v := .pointer (some ⟨d, o + k * 4 + 1, none⟩)) rfl rfl (by kernel_rfl) (by kernel_rfl) (by kernel_rfl) (fun _ _ _ h => h) (Or.inl ⟨by rfl, ?_⟩) (by assumption) ?_
                · intro w' hSw'
                  go_simp
                simp only [Act.put, List.setIfInBounds_toArray, List.set_cons_zero, List.set_cons_succ]
                refine takeH (i := 12) 102 (v := .int .i64 xseq) rfl rfl (by kernel_rfl) (by kernel_rfl) (by kernel_rfl) (fun _ _ _ h => h) (Or.inl ⟨by rfl, ?_⟩) (by assumption) ?_
                · intro w' hSw'
                  obtain ⟨y0, y1, y2, y3⟩ := CX.out w' (GG.out.bel.trans (hSw'.mono GG.out.bel.size))
                  go_simp
                simp only [Act.put, List.setIfInBounds_toArray, List.set_cons_zero, List.set_cons_succ]
                refine takeH (i := 13) 103 (v := .bool false) rfl rfl (by kernel_rfl) (by kernel_rfl) (by kernel_rfl) (fun _ _ _ h => h) (Or.inl ⟨by rfl, ?_⟩) (by assumption) ?_
                · intro w' hSw'
                  have q9 := HYS.out
                  go_simp
                simp only [Act.put, List.setIfInBounds_toArray, List.set_cons_zero, List.set_cons_succ]
                refine takeH (i := 14) 104 (v := .bool false) rfl rfl (by kernel_rfl) (by kernel_rfl) (by kernel_rfl) (fun _ _ _ h => h) (Or.inl ⟨by rfl, ?_⟩) (by assumption) ?_
                · intro w' hSw'
                  go_simp
                simp only [Act.put, List.setIfInBounds_toArray, List.set_cons_zero, List.set_cons_succ]
                refine takeH (i := 15) 105 (v := .bool false) rfl rfl (by kernel_rfl) (by kernel_rfl) (by kernel_rfl) (fun _ _ _ h => h) (Or.inl ⟨by rfl, ?_⟩) (by assumption) ?_
                · intro w' hSw'
                  go_simp
                simp only [Act.put, List.setIfInBounds_toArray, List.set_cons_zero, List.set_cons_succ]
                refine takeH (i := 16) 106 (v := .int .i64 (i : Int)) rfl rfl (by kernel_rfl) (by kernel_rfl) (by kernel_rfl) (fun _ _ _ h => h) (Or.inl ⟨by rfl, ?_⟩) (by assumption) ?_
                · intro w' hSw'
                  go_simp
                simp only [Act.put, List.setIfInBounds_toArray, List.set_cons_zero, List.set_cons_succ]
                refine takeH (i := 17) 107 (v := .bool true) rfl rfl (by kernel_rfl) (by kernel_rfl) (by kernel_rfl) (fun _ _ _ h => h) (Or.inl ⟨by rfl, ?_⟩) (by assumption) ?_
                · intro w' hSw'
                  have q8 := HI0.out
                  go_simp
                simp only [Act.put, List.setIfInBounds_toArray, List.set_cons_zero, List.set_cons_succ]
                refine takeH (i := 18) 108 (v := .bool true) rfl rfl (by kernel_rfl) (by kernel_rfl) (by kernel_rfl) (fun _ _ _ h => h) (Or.inl ⟨by rfl, ?_⟩) (by assumption) ?_
                · intro w' hSw'
                  go_simp
                simp only [Act.put, List.setIfInBounds_toArray, List.set_cons_zero, List.set_cons_succ]
                refine takeH (i := 19) 109 (v := .agg #[.slice ykp ykey.length ykc, .int .i64 yseq, .bool ygone, .slice yvp yval.length yvc]) rfl rfl (by kernel_rfl) (by kernel_rfl) (by kernel_rfl) (fun _ _ _ h => h) (Or.inl ⟨by rfl, ?_⟩) (by assumption) ?_
                · intro w' hSw'
                  obtain ⟨z0, z1, z2, z3⟩ := GG.out.cells hSw'
                  go_simp
                simp only [Act.put, List.setIfInBounds_toArray, List.set_cons_zero, List.set_cons_succ]
                refine takeH (i := 20) 110 (v := .slice (some ⟨b, off, none⟩) N c) rfl rfl (by kernel_rfl) (by kernel_rfl) (by kernel_rfl) (fun _ _ _ h => h) (Or.inl ⟨by rfl, ?_⟩) (by assumption) ?_
                · intro w' hSw'
                  go_simp
                simp only [Act.put, List.setIfInBounds_toArray, List.set_cons_zero, List.set_cons_succ]
                refine takeH (i := 21) 111 (v := .int .i64 (i : Int)) rfl rfl (by kernel_rfl) (by kernel_rfl) (by kernel_rfl) (fun _ _ _ h => h) (Or.inl ⟨by rfl, ?_⟩) (by assumption) ?_
                · intro w' hSw'
                  go_simp
                simp only [Act.put, List.setIfInBounds_toArray, List.set_cons_zero, List.set_cons_succ]
                refine takeH (i := 0x16) 112 (v := .pointer (some ⟨b, off + i, none⟩)) rfl rfl (by kernel_rfl) (by kernel_rfl) (by kernel_rfl) (fun _ _ _ h => h) (Or.inl ⟨by rfl, ?_⟩) (by assumption) ?_
                · intro w' hSw'
                  go_simp
                simp only [Act.put, List.setIfInBounds_toArray, List.set_cons_zero, List.set_cons_succ]
                refine takeH (i := 23) 113 (v := .slice (some ⟨d, o, none⟩) Y yc) rfl rfl (by kernel_rfl) (by kernel_rfl) (by kernel_rfl) (fun _ _ _ h => h) (Or.inl ⟨by rfl, ?_⟩) (by assumption) ?_
                · intro w' hSw'
                  have q7 := CL.out w' (GG.out.bel.trans (hSw'.mono GG.out.bel.size))
                  go_simp
                simp only [Act.put, List.setIfInBounds_toArray, List.set_cons_zero, List.set_cons_succ]
                refine takeH (i := 24) 114 (v := .int .i64 (k : Int)) rfl rfl (by kernel_rfl) (by kernel_rfl) (by kernel_rfl) (fun _ _ _ h => h) (Or.inl ⟨by rfl, ?_⟩) (by assumption) ?_
                · intro w' hSw'
                  go_simp
                simp only [Act.put, List.setIfInBounds_toArray, List.set_cons_zero, List.set_cons_succ]
                refine takeH (i := 25) 115 (v := .pointer (some ⟨d, o + k * 4, none⟩)) rfl rfl (by kernel_rfl) (by kernel_rfl) (by kernel_rfl) (fun _ _ _ h => h) (Or.inl ⟨by rfl, ?_⟩) (by assumption) ?_
                · intro w' hSw'
                  go_simp
                simp only [Act.put, List.setIfInBounds_toArray, List.set_cons_zero, List.set_cons_succ]
                refine takeH (i := 26) 116 (v := .agg #[.slice xkp xkey.length xkc, .int .i64 xseq, .bool xgone, .slice xvp xval.length xvc]) rfl rfl (by kernel_rfl) (by kernel_rfl) (by kernel_rfl) (fun _ _ _ h => h) (Or.inl ⟨by rfl, ?_⟩) (by assumption) ?_
                · intro w' hSw'
                  obtain ⟨y0, y1, y2, y3⟩ := CX.out w' (GG.out.bel.trans (hSw'.mono GG.out.bel.size))
                  go_simp
                simp only [Act.put, List.setIfInBounds_toArray, List.set_cons_zero, List.set_cons_succ]
                refine wpAnyH_ready (rs := [27]) (by kernel_rfl) (by simp) ?_
                refine AllReadyH.cons rfl (fun K hK => ?_) AllReadyH.nil
                go_simp
                refine (SO.out _ (Below.refl _ _).drew).mono ?_
                rintro e w8 ⟨rfl, hb8⟩
                have b8 := keep hb8
                clear hb8
                go_wp2_with fail
                refine hK.out _ _ (b8.out) (fun hZ1 => ?_)
                clear hK K
                refine takeH (i := 28) 118 (v := .bool false) rfl rfl (by kernel_rfl) (by kernel_rfl) (by kernel_rfl) (fun _ _ _ h => h) (Or.inl ⟨by rfl, ?_⟩) (by assumption) ?_
                · intro w' hSw'
                  go_simp
                simp only [Act.put, List.setIfInBounds_toArray, List.set_cons_zero, List.set_cons_succ]
                refine takeH (i := 29) 119 (v := .bool false) rfl rfl (by kernel_rfl) (by kernel_rfl) (by kernel_rfl) (fun _ _ _ h => h) (Or.inl ⟨by rfl, ?_⟩) (by assumption) ?_
                · intro w' hSw'
                  go_simp
                simp only [Act.put, List.setIfInBounds_toArray, List.set_cons_zero, List.set_cons_succ]
                refine takeH (i := 30) 120 (v := .bool false) rfl rfl (by kernel_rfl) (by kernel_rfl) (by kernel_rfl) (fun _ _ _ h => h) (Or.inl ⟨by rfl, ?_⟩) (by assumption) ?_
                · intro w' hSw'
                  go_simp
                simp only [Act.put, List.setIfInBounds_toArray, List.set_cons_zero, List.set_cons_succ]
                refine wpAnyH_done (by kernel_rfl) ?_ _
                have BF := keep (GG.out.bel.trans (b8.out.mono GG.out.bel.size))
                go_wp2
                go_roundw
                case rel => exact ⟨k + 1, by omega, by go_num, hB.out.trans (BF.out.mono hB.out.size)⟩
                case measure => simp [intOf]; omega
              · have HI0 : Hid (((i : Int) == 0) = false) := by show _ = _; rw [beq_eq_false_iff_ne]; omega
                clear hi0
                go_wp2_with fail
                refine wp_region_held_drew (S := fun w' => Below w5.heap.size w5 w') (by kernel_rfl) ((Below.refl _ _).drew) (fun hZ => ?_)
                refine takeH (i := 0) 90 (v := .bool true) rfl rfl (by kernel_rfl) (by kernel_rfl) (by kernel_rfl) (fun _ _ _ h => h) (Or.inl ⟨by rfl, ?_⟩) (by assumption) ?_
                · intro w' hSw'
                  go_simp
                simp only [Act.put, List.setIfInBounds_toArray, List.set_cons_zero, List.set_cons_succ]
                refine takeH (i := 1) 91 (v := .bool false) rfl rfl (by kernel_rfl) (by kernel_rfl) (by kernel_rfl) (fun _ _ _ h => h) (Or.inl ⟨by rfl, ?_⟩) (by assumption) ?_
                · intro w' hSw'
                  go_simp
                simp only [Act.put, List.setIfInBounds_toArray, List.set_cons_zero, List.set_cons_succ]
                refine takeH (i := 2) 92 (v := .bool false) rfl rfl (by kernel_rfl) (by kernel_rfl) (by kernel_rfl) (fun _ _ _ h => h) (Or.inl ⟨by rfl, ?_⟩) (by assumption) ?_
                · intro w' hSw'
                  go_simp
                simp only [Act.put, List.setIfInBounds_toArray, List.set_cons_zero, List.set_cons_succ]
                refine takeH (i := 3) 93 (v := .pointer (some ⟨g, 1, none⟩)) rfl rfl (by kernel_rfl) (by kernel_rfl) (by kernel_rfl) (fun _ _ _ h => h) (Or.inl ⟨by rfl, ?_⟩) (by assumption) ?_
                · intro w' hSw'
                  go_simp
                simp only [Act.put, List.setIfInBounds_toArray, List.set_cons_zero, List.set_cons_succ]
                refine takeH (i := 4) 94 (v := .int .i64 yseq) rfl rfl (by kernel_rfl) (by kernel_rfl) (by kernel_rfl) (fun _ _ _ h => h) (Or.inl ⟨by rfl, ?_⟩) (by assumption) ?_
                · intro w' hSw'
                  obtain ⟨z0, z1, z2, z3⟩ := GG.out.cells hSw'
                  go_simp
                simp only [Act.put, List.setIfInBounds_toArray, List.set_cons_zero, List.set_cons_succ]
                refine takeH (i := 5) 95 (v := .slice (some ⟨b, off, none⟩) N c) rfl rfl (by kernel_rfl) (by kernel_rfl) (by kernel_rfl) (fun _ _ _ h => h) (Or.inl ⟨by rfl, ?_⟩) (by assumption) ?_
                · intro w' hSw'
                  go_simp
                simp only [Act.put, List.setIfInBounds_toArray, List.set_cons_zero, List.set_cons_succ]
                refine takeH (i := 6) 96 (v := .int .i64 (i : Int)) rfl rfl (by kernel_rfl) (by kernel_rfl) (by kernel_rfl) (fun _ _ _ h => h) (Or.inl ⟨by rfl, ?_⟩) (by assumption) ?_
                · intro w' hSw'
                  go_simp
                simp only [Act.put, List.setIfInBounds_toArray, List.set_cons_zero, List.set_cons_succ]
                refine takeH (i := 7) 97 (v := .pointer (some ⟨b, off + i, none⟩)) rfl rfl (by kernel_rfl) (by kernel_rfl) (by kernel_rfl) (fun _ _ _ h => h) (Or.inl ⟨by rfl, ?_⟩) (by assumption) ?_
                · intro w' hSw'
                  go_simp
                simp only [Act.put, List.setIfInBounds_toArray, List.set_cons_zero, List.set_cons_succ]
                refine takeH (i := 8) 98 (v := .slice (some ⟨d, o, none⟩) Y yc) rfl rfl (by kernel_rfl) (by kernel_rfl) (by kernel_rfl) (fun _ _ _ h => h) (Or.inl ⟨by rfl, ?_⟩) (by assumption) ?_
                · intro w' hSw'
                  have q7 := CL.out w' (GG.out.bel.trans (hSw'.mono GG.out.bel.size))
                  go_simp
                simp only [Act.put, List.setIfInBounds_toArray, List.set_cons_zero, List.set_cons_succ]
                refine takeH (i := 9) 99 (v := .int .i64 (k : Int)) rfl rfl (by kernel_rfl) (by kernel_rfl) (by kernel_rfl) (fun _ _ _ h => h) (Or.inl ⟨by rfl, ?_⟩) (by assumption) ?_
                · intro w' hSw'
                  go_simp
                simp only [Act.put, List.setIfInBounds_toArray, List.set_cons_zero, List.set_cons_succ]
                refine takeH (i := 10) 100 (v := .pointer (some ⟨d, o + k * 4, none⟩)) rfl rfl (by kernel_rfl) (by kernel_rfl) (by kernel_rfl) (fun _ _ _ h => h) (Or.inl ⟨by rfl, ?_⟩) (by assumption) ?_
                · intro w' hSw'
                  go_simp
                simp only [Act.put, List.setIfInBounds_toArray, List.set_cons_zero, List.set_cons_succ]
                refine takeH (i := 11) 101 (v := .pointer (some ⟨d, o + k * 4 + 1, none⟩)) rfl rfl (by kernel_rfl) (by kernel_rfl) (by kernel_rfl) (fun _ _ _ h => h) (Or.inl ⟨by rfl, ?_⟩) (by assumption) ?_
                · intro w' hSw'
                  go_simp
                simp only [Act.put, List.setIfInBounds_toArray, List.set_cons_zero, List.set_cons_succ]
                refine takeH (i := 12) 102 (v := .int .i64 xseq) rfl rfl (by kernel_rfl) (by kernel_rfl) (by kernel_rfl) (fun _ _ _ h => h) (Or.inl ⟨by rfl, ?_⟩) (by assumption) ?_
                · intro w' hSw'
                  obtain ⟨y0, y1, y2, y3⟩ := CX.out w' (GG.out.bel.trans (hSw'.mono GG.out.bel.size))
                  go_simp
                simp only [Act.put, List.setIfInBounds_toArray, List.set_cons_zero, List.set_cons_succ]
                refine takeH (i := 13) 103 (v := .bool false) rfl rfl (by kernel_rfl) (by kernel_rfl) (by kernel_rfl) (fun _ _ _ h => h) (Or.inl ⟨by rfl, ?_⟩) (by assumption) ?_
                · intro w' hSw'
                  have q9 := HYS.out
                  go_simp
                simp only [Act.put, List.setIfInBounds_toArray, List.set_cons_zero, List.set_cons_succ]
                refine takeH (i := 14) 104 (v := .bool false) rfl rfl (by kernel_rfl) (by kernel_rfl) (by kernel_rfl) (fun _ _ _ h => h) (Or.inl ⟨by rfl, ?_⟩) (by assumption) ?_
                · intro w' hSw'
                  go_simp
                simp only [Act.put, List.setIfInBounds_toArray, List.set_cons_zero, List.set_cons_succ]
                refine takeH (i := 15) 105 (v := .bool false) rfl rfl (by kernel_rfl) (by kernel_rfl) (by kernel_rfl) (fun _ _ _ h => h) (Or.inl ⟨by rfl, ?_⟩) (by assumption) ?_
                · intro w' hSw'
                  go_simp
                simp only [Act.put, List.setIfInBounds_toArray, List.set_cons_zero, List.set_cons_succ]
                refine takeH (i := 16) 106 (v := .int .i64 (i : Int)) rfl rfl (by kernel_rfl) (by kernel_rfl) (by kernel_rfl) (fun _ _ _ h => h) (Or.inl ⟨by rfl, ?_⟩) (by assumption) ?_
                · intro w' hSw'
                  go_simp
                simp only [Act.put, List.setIfInBounds_toArray, List.set_cons_zero, List.set_cons_succ]
                refine takeH (i := 17) 107 (v := .bool false) rfl rfl (by kernel_rfl) (by kernel_rfl) (by kernel_rfl) (fun _ _ _ h => h) (Or.inl ⟨by rfl, ?_⟩) (by assumption) ?_
                · intro w' hSw'
                  have q8 := HI0.out
                  go_simp
                simp only [Act.put, List.setIfInBounds_toArray, List.set_cons_zero, List.set_cons_succ]
                refine takeH (i := 18) 108 (v := .bool false) rfl rfl (by kernel_rfl) (by kernel_rfl) (by kernel_rfl) (fun _ _ _ h => h) (Or.inl ⟨by rfl, ?_⟩) (by assumption) ?_
                · intro w' hSw'
                  go_simp
                simp only [Act.put, List.setIfInBounds_toArray, List.set_cons_zero, List.set_cons_succ]
                refine takeH (i := 19) 109 (v := undef) rfl rfl (by kernel_rfl) (by kernel_rfl) (by kernel_rfl) (fun _ _ _ h => h) (Or.inr ⟨by rfl, rfl⟩) (by assumption) ?_
                simp only [Act.put, List.setIfInBounds_toArray, List.set_cons_zero, List.set_cons_succ]
                refine takeH (i := 20) 110 (v := undef) rfl rfl (by kernel_rfl) (by kernel_rfl) (by kernel_rfl) (fun _ _ _ h => h) (Or.inr ⟨by rfl, rfl⟩) (by assumption) ?_
                simp only [Act.put, List.setIfInBounds_toArray, List.set_cons_zero, List.set_cons_succ]
                refine takeH (i := 21) 111 (v := undef) rfl rfl (by kernel_rfl) (by kernel_rfl) (by kernel_rfl) (fun _ _ _ h => h) (Or.inr ⟨by rfl, rfl⟩) (by assumption) ?_
                simp only [Act.put, List.setIfInBounds_toArray, List.set_cons_zero, List.set_cons_succ]
                refine takeH (i := 0x16) 112 (v := undef) rfl rfl (by kernel_rfl) (by kernel_rfl) (by kernel_rfl) (fun _ _ _ h => h) (Or.inr ⟨by rfl, rfl⟩) (by assumption) ?_
                simp only [Act.put, List.setIfInBounds_toArray, List.set_cons_zero, List.set_cons_succ]
                refine takeH (i := 23) 113 (v := undef) rfl rfl (by kernel_rfl) (by kernel_rfl) (by kernel_rfl) (fun _ _ _ h => h) (Or.inr ⟨by rfl, rfl⟩) (by assumption) ?_
                simp only [Act.put, List.setIfInBounds_toArray, List.set_cons_zero, List.set_cons_succ]
                refine takeH (i := 24) 114 (v := undef) rfl rfl (by kernel_rfl) (by kernel_rfl) (by kernel_rfl) (fun _ _ _ h => h) (Or.inr ⟨by rfl, rfl⟩) (by assumption) ?_
                simp only [Act.put, List.setIfInBounds_toArray, List.set_cons_zero, List.set_cons_succ]
                refine takeH (i := 25) 115 (v := undef) rfl rfl (by kernel_rfl) (by kernel_rfl) (by kernel_rfl) (fun _ _ _ h => h) (Or.inr ⟨by rfl, rfl⟩) (by assumption) ?_
                simp only [Act.put, List.setIfInBounds_toArray, List.set_cons_zero, List.set_cons_succ]
                refine takeH (i := 26) 116 (v := undef) rfl rfl (by kernel_rfl) (by kernel_rfl) (by kernel_rfl) (fun _ _ _ h => h) (Or.inr ⟨by rfl, rfl⟩) (by assumption) ?_
                simp only [Act.put, List.setIfInBounds_toArray, List.set_cons_zero, List.set_cons_succ]
                refine takeH (i := 27) 117 (v := undef) rfl rfl (by kernel_rfl) (by kernel_rfl) (by kernel_rfl) (fun _ _ _ h => h) (Or.inr ⟨by rfl, rfl⟩) (by assumption) ?_
                simp only [Act.put, List.setIfInBounds_toArray, List.set_cons_zero, List.set_cons_succ]
                refine takeH (i := 28) 118 (v := undef) rfl rfl (by kernel_rfl) (by kernel_rfl) (by kernel_rfl) (fun _ _ _ h => h) (Or.inr ⟨by rfl, rfl⟩) (by assumption) ?_
                simp only [Act.put, List.setIfInBounds_toArray, List.set_cons_zero, List.set_cons_succ]
                refine takeH (i := 29) 119 (v := .bool false) rfl rfl (by kernel_rfl) (by kernel_rfl) (by kernel_rfl) (fun _ _ _ h => h) (Or.inl ⟨by rfl, ?_⟩) (by assumption) ?_
                · intro w' hSw'
                  go_simp
                simp only [Act.put, List.setIfInBounds_toArray, List.set_cons_zero, List.set_cons_succ]
                refine takeH (i := 30) 120 (v := .bool false) rfl rfl (by kernel_rfl) (by kernel_rfl) (by kernel_rfl) (fun _ _ _ h => h) (Or.inl ⟨by rfl, ?_⟩) (by assumption) ?_
                · intro w' hSw'
                  go_simp
                simp only [Act.put, List.setIfInBounds_toArray, List.set_cons_zero, List.set_cons_succ]
                refine wpAnyH_done (by kernel_rfl) ?_ _
                have BF := keep (GG.out.bel.drew)
                go_wp2
                go_roundw
                case rel => exact ⟨k + 1, by omega, by go_num, hB.out.trans (BF.out.mono hB.out.size)⟩
                case measure => simp [intOf]; omega
            · obtain rfl : Y = k := by omega
              have BF := keep (b4.out.trans (hB.out.mono b4.out.size))
              have j1 : ¬ (Y : Int) < (Y : Int) := by omega
              go_wp2
              go_roundw
              case rel => exact ⟨i + 1, by omega, by go_num, BF.out⟩
              case measure => simp [intOf]; omega
        · obtain rfl : N = i := by omega
          go_wp2
          go_ret
          exact ⟨rfl, B3.out.trans (hB.out.mono B3.out.size)⟩
end Go.Proofs.Ytimgdhdfefldpaa
