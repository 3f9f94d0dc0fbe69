/- The walk of TableSees. -/
import Derived.Test.YtjblicgbdecbcaaZQm
import Derived.Test.YtjblicgbdecbcaaZQu
import Derived.Test.YtjblicgbdecbcaaZJ2j
import Derived.Test.YtjblicgbdecbcaaZXaj
import Derived.Test.YtjblicgbdecbcaaZJmj
namespace Go.Proofs.Ytjblicgbdecbcaa
open Go.RowKit
open Sk (Ent)

theorem tok_small {L : List Ent} (h : Tq.tok L = true) {e : Ent} (he : e ∈ L) : e.key.length ≤ 64 ∧ e.val.length ≤ 1024 := by
  have := Bq.may_bounds (Tq.tok_may h e he)
  exact ⟨this.2.1, this.2.2.2.2⟩
set_option maxHeartbeats 8000000 in
set_option maxRecDepth 100000 in
theorem sees_walk (ao : Option Addr) (n c : Nat) (es : List EV) (s : Int) (w : World) (hsrc : RSrc entKind w ao n c es) (hMAY : ∀ y ∈ es, y.e.key.length ≤ 9223372036854775807 ∧ y.e.val.length ≤ 9223372036854775807) :
    Calls Try.prog 6 #[.slice ao n c, .int .i64 s] w fun e w' => e = .returned (.bool true) ∧ Below w.heap.size w w' := by
  obtain ⟨i0, hi, hz0, hz1, hz2⟩ := info_parts info5
  have SRC := keep hsrc
  have MAY := keep hMAY
  have HL : Hid (es.length = n) := hsrc.len
  have AW := keep (awake_any w)
  clear hsrc hMAY
  go_enter Try.func6, Try.ntmps6
  go_wp2_with fail
  refine AW.out.mono ?_
  rintro e w1 ⟨rfl, hb1⟩
  have B1 := keep hb1
  have BU := keep (tbuild_any ao n c es w1 (SRC.out.below entKind_ok hb1) MAY.out)
  clear hb1 AW
  go_wp2_with fail
  refine BU.out.mono ?_
  rintro e w2 (⟨hok, a2, k2, rfl, ho2, hb2⟩ | ⟨hok, rfl, hb2⟩)
  · have B2 := keep (B1.out.trans (hb2.mono B1.out.size))
    have OK := keep hok
    obtain ⟨_, _, e3, hs2, _⟩ := Src.of_own ho2
    cases e3
    have PA := keep (tparse_any a2 _ k2 _ w2 (Nat.le_trans (Tq.tab_len hok) (by decide)) hs2)
    have PS := keep (Tq.tparse_tab hok)
    obtain ⟨L, hL⟩ : ∃ L, es.map (·.e) = L := ⟨_, rfl⟩
    have HLL := keep hL
    rw [hL] at OK PA PS ⊢
    have hn64 := (Tq.tok_len OK.out).2
    have HNL : Hid (L.length = n) := by show _ = _; rw [← hL, List.length_map]; exact HL.out
    rw [HNL.out] at hn64
    clear hL hok hb2 BU ho2 hs2
    obtain ⟨nb, hnb⟩ : ∃ nb, (Tq.tab L).length = nb := ⟨_, rfl⟩
    rw [hnb] at PA ⊢
    clear hnb
    go_wp2_with fail
    refine PA.out.mono ?_
    intro e w3 hP
    rcases hP.cases with ⟨L', tb, ds, hp, rfl, hD, hb3⟩ | ⟨hno, _, _⟩
    · obtain rfl : L' = L := by
        have h1 := PS.out
        rw [hp] at h1
        cases h1
        rfl
      have D3 := keep hD
      have B3 := keep (B2.out.trans (hb3.mono B2.out.size))
      have ORD := keep (tok_ordL OK.out)
      have SC := keep (scan_done tb ds _ none 0 [] none 0 [] s w3 hD.done hD.few hD.small (by rw [hD.evs_len]; have := HNL.out; omega) (by rw [hD.ents]; exact ORD.out) (src_nil _) (src_nil _))
      rw [hD.ents] at SC
      clear hP hp hD hb3 PA
      go_wp2_with fail
      refine SC.out.mono ?_
      rintro e w4 ⟨v4, rfl, ys, hE, hye, hb4⟩
      obtain ⟨a4, c4, rfl, hR4, _⟩ := RSrc.own entKind_ok hE.row (fun y hy => (hE.each y hy).held)
      have R4 := keep hR4
      have HYE := keep hye
      have D4 := keep (D3.out.below hb4)
      have B4 := keep (B3.out.trans (hb4.mono B3.out.size))
      obtain ⟨N, hN⟩ : ∃ N, ys.length = N := ⟨_, rfl⟩
      have HN := keep hN
      rw [hN] at R4 ⊢
      have hN64 : N ≤ 64 := by
        have h1 := dscan_len L' [] [] s L'.length (Nat.le_refl _)
        rw [List.take_length, ← hye, List.length_map, hN, HNL.out] at h1
        omega
      clear hE hye hb4 SC hN D3 hR4
      go_wp2
      go_loopw [11] (fun i wr => ∃ q : Nat, q ≤ N ∧ i = .int .i64 (q : Int) ∧ Hid (Below w4.heap.size w4 wr)) (fun i _ => N - (intOf i).toNat)
      case atStart => exact ⟨0, Nat.zero_le _, rfl, Below.refl _ _⟩
      case round =>
        obtain ⟨q, hq, rfl, hB⟩ := hrel
        have D5 := keep (D4.out.below hB.out)
        have BW := keep (B4.out.trans (hB.out.mono B4.out.size))
        by_cases hqn : q < N
        · obtain ⟨b, off, rfl, _, _⟩ := R4.out.form entKind_ok (by omega)
          obtain ⟨x, hx⟩ : ∃ x, ys[q]? = some x := ⟨ys[q]'(by rw [HN.out]; exact hqn), List.getElem?_eq_getElem _⟩
          have hxe : Hid ((dscan L' [] [] s)[q]? = some x.e) := by show _ = _; rw [← HYE.out, List.getElem?_map, hx]; rfl
          have hxs := tok_small OK.out (scan_from ORD.out (List.mem_of_getElem? hxe.out))
          have SE : Hid (∀ w', Below wr.heap.size wr w' → RSrc entKind w' (some ⟨b, off, none⟩) N c4 ys) := fun w' hb => R4.out.below entKind_ok (hB.out.trans (hb.mono hB.out.size))
          have CX : Hid (∀ w', Below wr.heap.size wr w' → w'.cell? ⟨b, off + q * 4, none⟩ = some (.slice x.kp x.e.key.length x.kc) ∧ w'.cell? ⟨b, off + q * 4 + 1, none⟩ = some (.int .i64 x.e.seq) ∧ w'.cell? ⟨b, off + q * 4 + 2, none⟩ = some (.bool x.e.gone) ∧ w'.cell? ⟨b, off + q * 4 + 3, none⟩ = some (.slice x.vp x.e.val.length x.vc)) := fun w' hb => ent_cells (SE.out w' hb) hx
          have HX : Hid (∀ w', Below wr.heap.size wr w' → entKind.held w' x) := fun w' hb => (SE.out w' hb).held x (List.mem_of_getElem? hx)
          have GE := keep (get_tab D5.out x.kp x.kc x.e.key s (by omega) (HX.out wr (Below.refl _ _)).1 (Below.refl _ _))
          have own := scan_one ORD.out hxe.out
          rw [own] at GE
          simp only [Option.isSome_some, Option.getD_some] at GE
          clear own hx
          have ll : (q : Int) < (N : Int) := by omega
          have ll0 : (0 : Int) ≤ (q : Int) := by omega
          obtain ⟨xkp, xkc, xvp, xvc, ⟨xkey, xseq, xgone, xval⟩⟩ := x
          simp only at CX GE hxs
          have cx0 := (CX.out wr (Below.refl _ _)).1
          go_wp2_with fail
          refine GE.out.mono ?_
          rintro e w5 ⟨y, rfl, hye, hyo, hb5⟩
          have YE := keep hye
          have YH := keep hyo.held
          have b5 := keep hb5
          obtain ⟨ykp, ykc, yvp, yvc, ⟨ykey, yseq, ygone, yval⟩⟩ := y
          unfold ev
          simp only
          obtain ⟨W6, hW6⟩ : ∃ W6, w5.alloc (.cells #[.slice ykp ykey.length ykc, .int .i64 yseq, .bool ygone, .slice yvp yval.length yvc] 32) = W6 := ⟨_, rfl⟩
          have b6 : Hid (Below w5.heap.size w5 W6) := by rw [← hW6]; exact (Below.refl _ _).alloc (Nat.le_refl _) _
          have B6 := keep (b5.out.trans (b6.out.mono b5.out.size))
          have g6 : Hid (W6.heap[w5.heap.size]? = some (.cells #[.slice ykp ykey.length ykc, .int .i64 yseq, .bool ygone, .slice yvp yval.length yvc] 32)) := by rw [← hW6]; exact heap_alloc_new w5 _
          obtain ⟨g, hg⟩ : ∃ g, w5.heap.size = g := ⟨_, rfl⟩
          have CY : Hid (∀ w', Below W6.heap.size W6 w' → w'.cell? ⟨g, 0, none⟩ = some (.slice ykp ykey.length ykc) ∧ w'.cell? ⟨g, 1, none⟩ = some (.int .i64 yseq) ∧ w'.cell? ⟨g, 2, none⟩ = some (.bool ygone) ∧ w'.cell? ⟨g, 3, none⟩ = some (.slice yvp yval.length yvc)) := fun w' hb => by
            rw [← hg]
            have h := (hb.block _ (Array.getElem?_eq_some_iff.1 g6.out).1).trans g6.out
            exact ⟨cell_of_row _ _ _ _ _ _ h, cell_of_row _ _ _ _ _ _ h, cell_of_row _ _ _ _ _ _ h, cell_of_row _ _ _ _ _ _ h⟩
          have SO : Hid (∀ w', Below W6.heap.size W6 w' → _) := fun w' hb => sameOne_yes ⟨ykp, ykc, yvp, yvc, ⟨ykey, yseq, ygone, yval⟩⟩ ⟨xkp, xkc, xvp, xvc, ⟨xkey, xseq, xgone, xval⟩⟩ w' (entKind_ok.below (entKind_ok.below YH.out b6.out) hb) (HX.out w' (B6.out.trans (hb.mono B6.out.size))) YE.out
          unfold ev at SO
          simp only at SO
          clear hye hyo hb5 GE cx0
          go_wp2_with fail
          try rw [hg]
          clear hW6 hg g6
          refine region_share (fun a a' w' => (∃ v65 v66 v67 v68 v69 v70 v71 v72 v73 v74 v75 v76 v77 v78 v79 v80 v81 v82 v83 v84 v85 v86 v87 v88 v89 v90 v91 v92 v93 : Value, a' = sets a [(65, v65), (66, v66), (67, v67), (68, v68), (69, v69), (70, v70), (71, v71), (72, v72), (73, v73), (74, v74), (75, v75), (76, v76), (77, v77), (78, v78), (79, v79), (80, v80), (81, v81), (82, v82), (83, v83), (84, v84), (85, v85), (86, v86), (87, v87), (88, v88), (89, v89), (90, v90), (91, v91), (92, v92), (93, v93), (94, .bool false)]) ∧ Below W6.heap.size W6 w') ?_ ?_
          · rcases Nat.eq_zero_or_pos q with hq0 | hq0
            · have lz : ¬ (0 : Int) < (q : Int) := by omega
              clear hq0
              refine wp_region_held_drew (S := fun w' => Below W6.heap.size W6 w') (by kernel_rfl) ((Below.refl _ _).drew) (fun hHeld => ?_)
              refine takeH (i := 0) 65 (v := .bool true) rfl rfl (by kernel_rfl) (by kernel_rfl) (by kernel_rfl) (fun _ _ _ h => h) (Or.inl ⟨by rfl, ?_⟩) (by assumption) ?_
              · intro w' hSw'
                go_simp
              simp only [Act.put, List.setIfInBounds_toArray, List.set_cons_zero, List.set_cons_succ]
              refine takeH (i := 1) 66 (v := .bool false) rfl rfl (by kernel_rfl) (by kernel_rfl) (by kernel_rfl) (fun _ _ _ h => h) (Or.inl ⟨by rfl, ?_⟩) (by assumption) ?_
              · intro w' hSw'
                go_simp
              simp only [Act.put, List.setIfInBounds_toArray, List.set_cons_zero, List.set_cons_succ]
              refine takeH (i := 2) 67 (v := .bool false) rfl rfl (by kernel_rfl) (by kernel_rfl) (by kernel_rfl) (fun _ _ _ h => h) (Or.inl ⟨by rfl, ?_⟩) (by assumption) ?_
              · intro w' hSw'
                go_simp
              simp only [Act.put, List.setIfInBounds_toArray, List.set_cons_zero, List.set_cons_succ]
              refine takeH (i := 3) 68 (v := .agg #[.slice ykp ykey.length ykc, .int .i64 yseq, .bool ygone, .slice yvp yval.length yvc]) rfl rfl (by kernel_rfl) (by kernel_rfl) (by kernel_rfl) (fun _ _ _ h => h) (Or.inl ⟨by rfl, ?_⟩) (by assumption) ?_
              · intro w' hSw'
                obtain ⟨d0, d1, d2, d3⟩ := CY.out w' (hSw')
                go_simp
              simp only [Act.put, List.setIfInBounds_toArray, List.set_cons_zero, List.set_cons_succ]
              refine takeH (i := 4) 69 (v := .slice (some ⟨b, off, none⟩) N c4) rfl rfl (by kernel_rfl) (by kernel_rfl) (by kernel_rfl) (fun _ _ _ h => h) (Or.inl ⟨by rfl, ?_⟩) (by assumption) ?_
              · intro w' hSw'
                go_simp
              simp only [Act.put, List.setIfInBounds_toArray, List.set_cons_zero, List.set_cons_succ]
              refine takeH (i := 5) 70 (v := .int .i64 (q : Int)) rfl rfl (by kernel_rfl) (by kernel_rfl) (by kernel_rfl) (fun _ _ _ h => h) (Or.inl ⟨by rfl, ?_⟩) (by assumption) ?_
              · intro w' hSw'
                go_simp
              simp only [Act.put, List.setIfInBounds_toArray, List.set_cons_zero, List.set_cons_succ]
              refine takeH (i := 6) 71 (v := .pointer (some ⟨b, off + q * 4, none⟩)) rfl rfl (by kernel_rfl) (by kernel_rfl) (by kernel_rfl) (fun _ _ _ h => h) (Or.inl ⟨by rfl, ?_⟩) (by assumption) ?_
              · intro w' hSw'
                go_simp
              simp only [Act.put, List.setIfInBounds_toArray, List.set_cons_zero, List.set_cons_succ]
              refine takeH (i := 7) 72 (v := .agg #[.slice xkp xkey.length xkc, .int .i64 xseq, .bool xgone, .slice xvp xval.length xvc]) rfl rfl (by kernel_rfl) (by kernel_rfl) (by kernel_rfl) (fun _ _ _ h => h) (Or.inl ⟨by rfl, ?_⟩) (by assumption) ?_
              · intro w' hSw'
                obtain ⟨d0, d1, d2, d3⟩ := CX.out w' (B6.out.trans (hSw'.mono B6.out.size))
                go_simp
              simp only [Act.put, List.setIfInBounds_toArray, List.set_cons_zero, List.set_cons_succ]
              refine wpAnyH_ready (rs := [8]) (by kernel_rfl) (by simp) ?_
              refine AllReadyH.cons rfl (fun K hK => ?_) AllReadyH.nil
              go_simp
              refine (SO.out _ (Below.refl _ _).drew).mono ?_
              rintro e w7 ⟨rfl, hb7⟩
              have b7 : Hid (Below W6.heap.size W6 w7) := ((Below.refl _ _).drew).trans (hb7.mono (Nat.le_refl _))
              clear hb7
              go_wp2_with fail
              refine hK.out _ _ (b7.out) (fun hHeld1 => ?_)
              clear hK K
              refine takeH (i := 9) 74 (v := .bool false) rfl rfl (by kernel_rfl) (by kernel_rfl) (by kernel_rfl) (fun _ _ _ h => h) (Or.inl ⟨by rfl, ?_⟩) (by assumption) ?_
              · intro w' hSw'
                go_simp
              simp only [Act.put, List.setIfInBounds_toArray, List.set_cons_zero, List.set_cons_succ]
              refine takeH (i := 10) 75 (v := .bool false) rfl rfl (by kernel_rfl) (by kernel_rfl) (by kernel_rfl) (fun _ _ _ h => h) (Or.inl ⟨by rfl, ?_⟩) (by assumption) ?_
              · intro w' hSw'
                go_simp
              simp only [Act.put, List.setIfInBounds_toArray, List.set_cons_zero, List.set_cons_succ]
              refine takeH (i := 11) 76 (v := .bool false) rfl rfl (by kernel_rfl) (by kernel_rfl) (by kernel_rfl) (fun _ _ _ h => h) (Or.inl ⟨by rfl, ?_⟩) (by assumption) ?_
              · intro w' hSw'
                go_simp
              simp only [Act.put, List.setIfInBounds_toArray, List.set_cons_zero, List.set_cons_succ]
              refine takeH (i := 12) 77 (v := .int .i64 (q : Int)) rfl rfl (by kernel_rfl) (by kernel_rfl) (by kernel_rfl) (fun _ _ _ h => h) (Or.inl ⟨by rfl, ?_⟩) (by assumption) ?_
              · intro w' hSw'
                go_simp
              simp only [Act.put, List.setIfInBounds_toArray, List.set_cons_zero, List.set_cons_succ]
              refine takeH (i := 13) 78 (v := .bool false) rfl rfl (by kernel_rfl) (by kernel_rfl) (by kernel_rfl) (fun _ _ _ h => h) (Or.inl ⟨by rfl, ?_⟩) (by assumption) ?_
              · intro w' hSw'
                go_simp
                omega
              simp only [Act.put, List.setIfInBounds_toArray, List.set_cons_zero, List.set_cons_succ]
              refine takeH (i := 14) 79 (v := .bool false) rfl rfl (by kernel_rfl) (by kernel_rfl) (by kernel_rfl) (fun _ _ _ h => h) (Or.inl ⟨by rfl, ?_⟩) (by assumption) ?_
              · intro w' hSw'
                go_simp
              simp only [Act.put, List.setIfInBounds_toArray, List.set_cons_zero, List.set_cons_succ]
              refine takeH (i := 15) 80 (v := undef) rfl rfl (by kernel_rfl) (by kernel_rfl) (by kernel_rfl) (fun _ _ _ h => h) (Or.inr ⟨by rfl, rfl⟩) (by assumption) ?_
              simp only [Act.put, List.setIfInBounds_toArray, List.set_cons_zero, List.set_cons_succ]
              refine takeH (i := 16) 81 (v := undef) rfl rfl (by kernel_rfl) (by kernel_rfl) (by kernel_rfl) (fun _ _ _ h => h) (Or.inr ⟨by rfl, rfl⟩) (by assumption) ?_
              simp only [Act.put, List.setIfInBounds_toArray, List.set_cons_zero, List.set_cons_succ]
              refine takeH (i := 17) 82 (v := undef) rfl rfl (by kernel_rfl) (by kernel_rfl) (by kernel_rfl) (fun _ _ _ h => h) (Or.inr ⟨by rfl, rfl⟩) (by assumption) ?_
              simp only [Act.put, List.setIfInBounds_toArray, List.set_cons_zero, List.set_cons_succ]
              refine takeH (i := 18) 83 (v := undef) rfl rfl (by kernel_rfl) (by kernel_rfl) (by kernel_rfl) (fun _ _ _ h => h) (Or.inr ⟨by rfl, rfl⟩) (by assumption) ?_
              simp only [Act.put, List.setIfInBounds_toArray, List.set_cons_zero, List.set_cons_succ]
              refine takeH (i := 19) 84 (v := undef) rfl rfl (by kernel_rfl) (by kernel_rfl) (by kernel_rfl) (fun _ _ _ h => h) (Or.inr ⟨by rfl, rfl⟩) (by assumption) ?_
              simp only [Act.put, List.setIfInBounds_toArray, List.set_cons_zero, List.set_cons_succ]
              refine takeH (i := 20) 85 (v := undef) rfl rfl (by kernel_rfl) (by kernel_rfl) (by kernel_rfl) (fun _ _ _ h => h) (Or.inr ⟨by rfl, rfl⟩) (by assumption) ?_
              simp only [Act.put, List.setIfInBounds_toArray, List.set_cons_zero, List.set_cons_succ]
              refine takeH (i := 21) 86 (v := undef) rfl rfl (by kernel_rfl) (by kernel_rfl) (by kernel_rfl) (fun _ _ _ h => h) (Or.inr ⟨by rfl, rfl⟩) (by assumption) ?_
              simp only [Act.put, List.setIfInBounds_toArray, List.set_cons_zero, List.set_cons_succ]
              refine takeH (i := 0x16) 87 (v := undef) rfl rfl (by kernel_rfl) (by kernel_rfl) (by kernel_rfl) (fun _ _ _ h => h) (Or.inr ⟨by rfl, rfl⟩) (by assumption) ?_
              simp only [Act.put, List.setIfInBounds_toArray, List.set_cons_zero, List.set_cons_succ]
              refine takeH (i := 23) 88 (v := undef) rfl rfl (by kernel_rfl) (by kernel_rfl) (by kernel_rfl) (fun _ _ _ h => h) (Or.inr ⟨by rfl, rfl⟩) (by assumption) ?_
              simp only [Act.put, List.setIfInBounds_toArray, List.set_cons_zero, List.set_cons_succ]
              refine takeH (i := 24) 89 (v := undef) rfl rfl (by kernel_rfl) (by kernel_rfl) (by kernel_rfl) (fun _ _ _ h => h) (Or.inr ⟨by rfl, rfl⟩) (by assumption) ?_
              simp only [Act.put, List.setIfInBounds_toArray, List.set_cons_zero, List.set_cons_succ]
              refine takeH (i := 25) 90 (v := undef) rfl rfl (by kernel_rfl) (by kernel_rfl) (by kernel_rfl) (fun _ _ _ h => h) (Or.inr ⟨by rfl, rfl⟩) (by assumption) ?_
              simp only [Act.put, List.setIfInBounds_toArray, List.set_cons_zero, List.set_cons_succ]
              refine takeH (i := 26) 91 (v := undef) rfl rfl (by kernel_rfl) (by kernel_rfl) (by kernel_rfl) (fun _ _ _ h => h) (Or.inr ⟨by rfl, rfl⟩) (by assumption) ?_
              simp only [Act.put, List.setIfInBounds_toArray, List.set_cons_zero, List.set_cons_succ]
              refine takeH (i := 27) 92 (v := undef) rfl rfl (by kernel_rfl) (by kernel_rfl) (by kernel_rfl) (fun _ _ _ h => h) (Or.inr ⟨by rfl, rfl⟩) (by assumption) ?_
              simp only [Act.put, List.setIfInBounds_toArray, List.set_cons_zero, List.set_cons_succ]
              refine takeH (i := 28) 93 (v := .bool false) rfl rfl (by kernel_rfl) (by kernel_rfl) (by kernel_rfl) (fun _ _ _ h => h) (Or.inl ⟨by rfl, ?_⟩) (by assumption) ?_
              · intro w' hSw'
                go_simp
              simp only [Act.put, List.setIfInBounds_toArray, List.set_cons_zero, List.set_cons_succ]
              refine takeH (i := 29) 94 (v := .bool false) rfl rfl (by kernel_rfl) (by kernel_rfl) (by kernel_rfl) (fun _ _ _ h => h) (Or.inl ⟨by rfl, ?_⟩) (by assumption) ?_
              · intro w' hSw'
                go_simp
              simp only [Act.put, List.setIfInBounds_toArray, List.set_cons_zero, List.set_cons_succ]
              refine wpAnyH_done (by kernel_rfl) ?_ _
              exact ⟨⟨_, _, _, _, _, _, _, _, _, _, _, _, _, _, _, _, _, _, _, _, _, _, _, _, _, _, _, _, _, (by simp only [sets, Act.put, List.setIfInBounds_toArray, List.set_cons_zero, List.set_cons_succ]; all_goals rfl)⟩, b7.out⟩
            · obtain ⟨j, rfl⟩ : ∃ j, q = j + 1 := ⟨q - 1, by omega⟩
              obtain ⟨d, hd⟩ : ∃ d, ys[j]? = some d := ⟨ys[j]'(by rw [HN.out]; omega), List.getElem?_eq_getElem _⟩
              have hde : (dscan L' [] [] s)[j]? = some d.e := by rw [← HYE.out, List.getElem?_map, hd]; rfl
              have hds := tok_small OK.out (scan_from ORD.out (List.mem_of_getElem? hde))
              have CD : Hid (∀ w', Below wr.heap.size wr w' → w'.cell? ⟨b, off + j * 4, none⟩ = some (.slice d.kp d.e.key.length d.kc)) := fun w' hb => (ent_cells (SE.out w' hb) hd).1
              have HD : Hid (∀ w', Below wr.heap.size wr w' → Src w' d.kp d.e.key.length d.kc d.e.key) := fun w' hb => ((SE.out w' hb).held d (List.mem_of_getElem? hd)).1
              have RL : Hid (∀ w', Below wr.heap.size wr w' → _) := fun w' hb => refLess_any d.kp d.e.key.length d.kc d.e.key xkp xkey.length xkc xkey w' (by omega) (by omega) (HD.out w' hb) (HX.out w' hb).1
              have hlt : less d.e.key xkey = true := scan_rise ORD.out hde hxe.out
              rw [hlt] at RL
              clear hlt hd hde
              obtain ⟨dkp, dkc, dvp, dvc, ⟨dkey, dseq, dgone, dval⟩⟩ := d
              simp only at CD RL hds
              have s1 : IntKind.i64.wrap (j : Int) = (j : Int) := wrap_small _ (by omega) (by omega)
              have s2 : ((j + 1 : Nat) : Int) - 1 = (j : Int) := by omega
              have s3 : (j : Int) < (N : Int) := by omega
              have s4 : (0 : Int) ≤ (j : Int) := by omega
              have s5 : (0 : Int) < ((j + 1 : Nat) : Int) := by omega
              have s6 : (j : Int) + 1 < (N : Int) := by omega
              have s7 : (0 : Int) ≤ (j : Int) + 1 := by omega
              refine wp_region_held_drew (S := fun w' => Below W6.heap.size W6 w') (by kernel_rfl) ((Below.refl _ _).drew) (fun hHeld => ?_)
              refine takeH (i := 0) 65 (v := .bool true) rfl rfl (by kernel_rfl) (by kernel_rfl) (by kernel_rfl) (fun _ _ _ h => h) (Or.inl ⟨by rfl, ?_⟩) (by assumption) ?_
              · intro w' hSw'
                go_simp
              simp only [Act.put, List.setIfInBounds_toArray, List.set_cons_zero, List.set_cons_succ]
              refine takeH (i := 1) 66 (v := .bool false) rfl rfl (by kernel_rfl) (by kernel_rfl) (by kernel_rfl) (fun _ _ _ h => h) (Or.inl ⟨by rfl, ?_⟩) (by assumption) ?_
              · intro w' hSw'
                go_simp
              simp only [Act.put, List.setIfInBounds_toArray, List.set_cons_zero, List.set_cons_succ]
              refine takeH (i := 2) 67 (v := .bool false) rfl rfl (by kernel_rfl) (by kernel_rfl) (by kernel_rfl) (fun _ _ _ h => h) (Or.inl ⟨by rfl, ?_⟩) (by assumption) ?_
              · intro w' hSw'
                go_simp
              simp only [Act.put, List.setIfInBounds_toArray, List.set_cons_zero, List.set_cons_succ]
              refine takeH (i := 3) 68 (v := .agg #[.slice ykp ykey.length ykc, .int .i64 yseq, .bool ygone, .slice yvp yval.length yvc]) rfl rfl (by kernel_rfl) (by kernel_rfl) (by kernel_rfl) (fun _ _ _ h => h) (Or.inl ⟨by rfl, ?_⟩) (by assumption) ?_
              · intro w' hSw'
                obtain ⟨d0, d1, d2, d3⟩ := CY.out w' (hSw')
                go_simp
              simp only [Act.put, List.setIfInBounds_toArray, List.set_cons_zero, List.set_cons_succ]
              refine takeH (i := 4) 69 (v := .slice (some ⟨b, off, none⟩) N c4) rfl rfl (by kernel_rfl) (by kernel_rfl) (by kernel_rfl) (fun _ _ _ h => h) (Or.inl ⟨by rfl, ?_⟩) (by assumption) ?_
              · intro w' hSw'
                go_simp
              simp only [Act.put, List.setIfInBounds_toArray, List.set_cons_zero, List.set_cons_succ]
              refine takeH (i := 5) 70 (v := .int .i64 ((j + 1 : Nat) : Int)) rfl rfl (by kernel_rfl) (by kernel_rfl) (by kernel_rfl) (fun _ _ _ h => h) (Or.inl ⟨by rfl, ?_⟩) (by assumption) ?_
              · intro w' hSw'
                go_simp
              simp only [Act.put, List.setIfInBounds_toArray, List.set_cons_zero, List.set_cons_succ]
              refine takeH (i := 6) 71 (v := .pointer (some ⟨b, off + (j + 1) * 4, none⟩)) rfl rfl (by kernel_rfl) (by kernel_rfl) (by kernel_rfl) (fun _ _ _ h => h) (Or.inl ⟨by rfl, ?_⟩) (by assumption) ?_
              · intro w' hSw'
                go_simp
              simp only [Act.put, List.setIfInBounds_toArray, List.set_cons_zero, List.set_cons_succ]
              refine takeH (i := 7) 72 (v := .agg #[.slice xkp xkey.length xkc, .int .i64 xseq, .bool xgone, .slice xvp xval.length xvc]) rfl rfl (by kernel_rfl) (by kernel_rfl) (by kernel_rfl) (fun _ _ _ h => h) (Or.inl ⟨by rfl, ?_⟩) (by assumption) ?_
              · intro w' hSw'
                obtain ⟨d0, d1, d2, d3⟩ := CX.out w' (B6.out.trans (hSw'.mono B6.out.size))
                go_simp
              simp only [Act.put, List.setIfInBounds_toArray, List.set_cons_zero, List.set_cons_succ]
              refine wpAnyH_ready (rs := [8]) (by kernel_rfl) (by simp) ?_
              refine AllReadyH.cons rfl (fun K hK => ?_) AllReadyH.nil
              go_simp
              refine (SO.out _ (Below.refl _ _).drew).mono ?_
              rintro e w7 ⟨rfl, hb7⟩
              have b7 : Hid (Below W6.heap.size W6 w7) := ((Below.refl _ _).drew).trans (hb7.mono (Nat.le_refl _))
              clear hb7
              go_wp2_with fail
              refine hK.out _ _ (b7.out) (fun hHeld1 => ?_)
              clear hK K
              refine takeH (i := 9) 74 (v := .bool false) rfl rfl (by kernel_rfl) (by kernel_rfl) (by kernel_rfl) (fun _ _ _ h => h) (Or.inl ⟨by rfl, ?_⟩) (by assumption) ?_
              · intro w' hSw'
                go_simp
              simp only [Act.put, List.setIfInBounds_toArray, List.set_cons_zero, List.set_cons_succ]
              refine takeH (i := 10) 75 (v := .bool false) rfl rfl (by kernel_rfl) (by kernel_rfl) (by kernel_rfl) (fun _ _ _ h => h) (Or.inl ⟨by rfl, ?_⟩) (by assumption) ?_
              · intro w' hSw'
                go_simp
              simp only [Act.put, List.setIfInBounds_toArray, List.set_cons_zero, List.set_cons_succ]
              refine takeH (i := 11) 76 (v := .bool false) rfl rfl (by kernel_rfl) (by kernel_rfl) (by kernel_rfl) (fun _ _ _ h => h) (Or.inl ⟨by rfl, ?_⟩) (by assumption) ?_
              · intro w' hSw'
                go_simp
              simp only [Act.put, List.setIfInBounds_toArray, List.set_cons_zero, List.set_cons_succ]
              refine takeH (i := 12) 77 (v := .int .i64 ((j + 1 : Nat) : Int)) rfl rfl (by kernel_rfl) (by kernel_rfl) (by kernel_rfl) (fun _ _ _ h => h) (Or.inl ⟨by rfl, ?_⟩) (by assumption) ?_
              · intro w' hSw'
                go_simp
              simp only [Act.put, List.setIfInBounds_toArray, List.set_cons_zero, List.set_cons_succ]
              refine takeH (i := 13) 78 (v := .bool true) rfl rfl (by kernel_rfl) (by kernel_rfl) (by kernel_rfl) (fun _ _ _ h => h) (Or.inl ⟨by rfl, ?_⟩) (by assumption) ?_
              · intro w' hSw'
                go_simp
              simp only [Act.put, List.setIfInBounds_toArray, List.set_cons_zero, List.set_cons_succ]
              refine takeH (i := 14) 79 (v := .bool true) rfl rfl (by kernel_rfl) (by kernel_rfl) (by kernel_rfl) (fun _ _ _ h => h) (Or.inl ⟨by rfl, ?_⟩) (by assumption) ?_
              · intro w' hSw'
                go_simp
              simp only [Act.put, List.setIfInBounds_toArray, List.set_cons_zero, List.set_cons_succ]
              refine takeH (i := 15) 80 (v := .slice (some ⟨b, off, none⟩) N c4) rfl rfl (by kernel_rfl) (by kernel_rfl) (by kernel_rfl) (fun _ _ _ h => h) (Or.inl ⟨by rfl, ?_⟩) (by assumption) ?_
              · intro w' hSw'
                go_simp
              simp only [Act.put, List.setIfInBounds_toArray, List.set_cons_zero, List.set_cons_succ]
              refine takeH (i := 16) 81 (v := .int .i64 ((j + 1 : Nat) : Int)) rfl rfl (by kernel_rfl) (by kernel_rfl) (by kernel_rfl) (fun _ _ _ h => h) (Or.inl ⟨by rfl, ?_⟩) (by assumption) ?_
              · intro w' hSw'
                go_simp
              simp only [Act.put, List.setIfInBounds_toArray, List.set_cons_zero, List.set_cons_succ]
              refine takeH (i := 17) 82 (v := .int .i64 (j : Int)) rfl rfl (by kernel_rfl) (by kernel_rfl) (by kernel_rfl) (fun _ _ _ h => h) (Or.inl ⟨by rfl, ?_⟩) (by assumption) ?_
              · intro w' hSw'
                go_simp
              simp only [Act.put, List.setIfInBounds_toArray, List.set_cons_zero, List.set_cons_succ]
              refine takeH (i := 18) 83 (v := .pointer (some ⟨b, off + j * 4, none⟩)) rfl rfl (by kernel_rfl) (by kernel_rfl) (by kernel_rfl) (fun _ _ _ h => h) (Or.inl ⟨by rfl, ?_⟩) (by assumption) ?_
              · intro w' hSw'
                go_simp
              simp only [Act.put, List.setIfInBounds_toArray, List.set_cons_zero, List.set_cons_succ]
              refine takeH (i := 19) 84 (v := .pointer (some ⟨b, off + j * 4, none⟩)) rfl rfl (by kernel_rfl) (by kernel_rfl) (by kernel_rfl) (fun _ _ _ h => h) (Or.inl ⟨by rfl, ?_⟩) (by assumption) ?_
              · intro w' hSw'
                go_simp
              simp only [Act.put, List.setIfInBounds_toArray, List.set_cons_zero, List.set_cons_succ]
              refine takeH (i := 20) 85 (v := .slice dkp dkey.length dkc) rfl rfl (by kernel_rfl) (by kernel_rfl) (by kernel_rfl) (fun _ _ _ h => h) (Or.inl ⟨by rfl, ?_⟩) (by assumption) ?_
              · intro w' hSw'
                have d0 := CD.out w' (B6.out.trans (hSw'.mono B6.out.size))
                go_simp
              simp only [Act.put, List.setIfInBounds_toArray, List.set_cons_zero, List.set_cons_succ]
              refine takeH (i := 21) 86 (v := .slice (some ⟨b, off, none⟩) N c4) rfl rfl (by kernel_rfl) (by kernel_rfl) (by kernel_rfl) (fun _ _ _ h => h) (Or.inl ⟨by rfl, ?_⟩) (by assumption) ?_
              · intro w' hSw'
                go_simp
              simp only [Act.put, List.setIfInBounds_toArray, List.set_cons_zero, List.set_cons_succ]
              refine takeH (i := 0x16) 87 (v := .int .i64 ((j + 1 : Nat) : Int)) rfl rfl (by kernel_rfl) (by kernel_rfl) (by kernel_rfl) (fun _ _ _ h => h) (Or.inl ⟨by rfl, ?_⟩) (by assumption) ?_
              · intro w' hSw'
                go_simp
              simp only [Act.put, List.setIfInBounds_toArray, List.set_cons_zero, List.set_cons_succ]
              refine takeH (i := 23) 88 (v := .pointer (some ⟨b, off + (j + 1) * 4, none⟩)) rfl rfl (by kernel_rfl) (by kernel_rfl) (by kernel_rfl) (fun _ _ _ h => h) (Or.inl ⟨by rfl, ?_⟩) (by assumption) ?_
              · intro w' hSw'
                go_simp
              simp only [Act.put, List.setIfInBounds_toArray, List.set_cons_zero, List.set_cons_succ]
              refine takeH (i := 24) 89 (v := .pointer (some ⟨b, off + (j + 1) * 4, none⟩)) rfl rfl (by kernel_rfl) (by kernel_rfl) (by kernel_rfl) (fun _ _ _ h => h) (Or.inl ⟨by rfl, ?_⟩) (by assumption) ?_
              · intro w' hSw'
                go_simp
              simp only [Act.put, List.setIfInBounds_toArray, List.set_cons_zero, List.set_cons_succ]
              refine takeH (i := 25) 90 (v := .slice xkp xkey.length xkc) rfl rfl (by kernel_rfl) (by kernel_rfl) (by kernel_rfl) (fun _ _ _ h => h) (Or.inl ⟨by rfl, ?_⟩) (by assumption) ?_
              · intro w' hSw'
                obtain ⟨d0, d1, d2, d3⟩ := CX.out w' (B6.out.trans (hSw'.mono B6.out.size))
                go_simp
              simp only [Act.put, List.setIfInBounds_toArray, List.set_cons_zero, List.set_cons_succ]
              refine wpAnyH_ready (rs := [26]) (by kernel_rfl) (by simp) ?_
              refine AllReadyH.cons rfl (fun K hK => ?_) AllReadyH.nil
              go_simp
              refine (RL.out _ (B6.out.trans (b7.out.mono B6.out.size))).mono ?_
              rintro e w8 ⟨rfl, hb8⟩
              have b8 := keep (b7.out.trans (hb8.mono b7.out.size))
              clear hb8
              go_wp2_with fail
              refine hK.out _ _ (b8.out) (fun hHeld2 => ?_)
              clear hK K
              refine takeH (i := 27) 92 (v := .bool false) rfl rfl (by kernel_rfl) (by kernel_rfl) (by kernel_rfl) (fun _ _ _ h => h) (Or.inl ⟨by rfl, ?_⟩) (by assumption) ?_
              · intro w' hSw'
                go_simp
              simp only [Act.put, List.setIfInBounds_toArray, List.set_cons_zero, List.set_cons_succ]
              refine takeH (i := 28) 93 (v := .bool false) rfl rfl (by kernel_rfl) (by kernel_rfl) (by kernel_rfl) (fun _ _ _ h => h) (Or.inl ⟨by rfl, ?_⟩) (by assumption) ?_
              · intro w' hSw'
                go_simp
              simp only [Act.put, List.setIfInBounds_toArray, List.set_cons_zero, List.set_cons_succ]
              refine takeH (i := 29) 94 (v := .bool false) rfl rfl (by kernel_rfl) (by kernel_rfl) (by kernel_rfl) (fun _ _ _ h => h) (Or.inl ⟨by rfl, ?_⟩) (by assumption) ?_
              · intro w' hSw'
                go_simp
              simp only [Act.put, List.setIfInBounds_toArray, List.set_cons_zero, List.set_cons_succ]
              refine wpAnyH_done (by kernel_rfl) ?_ _
              exact ⟨⟨_, _, _, _, _, _, _, _, _, _, _, _, _, _, _, _, _, _, _, _, _, _, _, _, _, _, _, _, _, (by simp only [sets, Act.put, List.setIfInBounds_toArray, List.set_cons_zero, List.set_cons_succ]; all_goals rfl)⟩, b8.out⟩
          rintro a' V ⟨⟨v65, v66, v67, v68, v69, v70, v71, v72, v73, v74, v75, v76, v77, v78, v79, v80, v81, v82, v83, v84, v85, v86, v87, v88, v89, v90, v91, v92, v93, rfl⟩, hbV⟩
          have bV := keep hbV
          have BV := keep (B6.out.trans (hbV.mono B6.out.size))
          have DV := keep (D5.out.below BV.out)
          have BWV := keep (BW.out.trans (BV.out.mono BW.out.size))
          have cv0 := (CX.out V BV.out).1
          have SK : Hid (Src V xkp xkey.length xkc xkey) := (HX.out V BV.out).1
          simp only [sets, Act.put, List.setIfInBounds_toArray, List.set_cons_zero, List.set_cons_succ]
          obtain ⟨K, hK⟩ : ∃ K, xkey.length = K := ⟨_, rfl⟩
          have HK := keep hK
          rw [hK] at cv0 SK hxs
          clear hbV CX CY SO YH YE hK SE
          have hK64 := hxs.1
          have cva : (V.alloc (.cells #[] 5)).cell? ⟨b, off + q * 4, none⟩ = some (.slice xkp K xkc) := below_cell ((Below.refl _ _).alloc (Nat.le_refl _) _) cv0
          go_wp2_with (first
            | (at_builtin; refine wpList_append_src rfl _ _ 24 rfl V.heap.size i0 _ Try.underlying24 hi hz0 hz1 hz2 rfl _ K xkey rfl (by exact O4.out.alloc _) _ 1 1 [0] rfl (Src.built _ 0) (by omega) (le_alloc bb4.out.size _) ?_; intro v5 w5' ho5 hg5; have O5 := keep ho5; have bb5 := keep ((bb4.out.alloc bb4.out.size _).grown hg5 (le_alloc bb4.out.size _) (fun j hj => (O4.out.lt j hj).1)); clear ho5 hg5)
            | (at_builtin; refine wpList_append_src rfl _ _ 24 rfl V.heap.size i0 _ Try.underlying24 hi hz0 hz1 hz2 rfl _ 0 [] rfl (own_emptyS (t := 5) (k := 1) (Nat.le_refl _)) _ K xkc xkey rfl (SK.out.below ((Below.refl _ _).alloc (Nat.le_refl _) _)) (by omega) (le_alloc (Nat.le_refl _) _) ?_; intro v4 w4' ho4 hg4; have O4 := keep ho4; simp only [Nat.zero_add, List.nil_append] at O4; have bb4 := keep (((Below.refl V.heap.size V).alloc (Nat.le_refl _) _).grown hg4 (le_alloc (Nat.le_refl _) _) (fun j hj => (by cases hj; exact Nat.le_refl _))); clear ho4 hg4))
          obtain ⟨a5, k5, rfl, hs5, _⟩ := Src.of_own O5.out
          have BW5 := keep (BWV.out.trans (bb5.out.mono BWV.out.size))
          have D6 := keep (DV.out.below bb5.out)
          have CC5 := keep (BV.out.trans (bb5.out.mono BV.out.size))
          obtain ⟨ky, hky⟩ : ∃ ky, xkey ++ [(0 : UInt8)] = ky := ⟨_, rfl⟩
          have hkl : ky.length = K + 1 := by rw [← hky, List.length_append, HK.out]; rfl
          rw [hky, ← hkl] at hs5
          rw [← hkl]
          have VE := keep (rversion_any ao n c es a5 k5 ky s _ (SRC.out.below entKind_ok BW5.out) (fun y hy => by
            have h1 : y.e ∈ L' := by rw [← HLL.out]; exact List.mem_map_of_mem hy
            have := tok_small OK.out h1
            omega) (by omega) hs5)
          rw [HLL.out] at VE
          have S5 := keep hs5
          have HKL := keep hkl
          obtain ⟨b0, hb0⟩ : ∃ b0, (verE L' ky s).isSome = b0 := ⟨_, rfl⟩
          have HB0 := keep hb0
          rw [hb0] at VE
          clear hs5 hky hb0 hkl cv0 cva
          refine VE.out.mono ?_
          rintro e w6 ⟨y6, rfl, _, _, hb6⟩
          have CC7 := keep (CC5.out.trans (hb6.mono CC5.out.size))
          have D7 := keep (D6.out.below hb6)
          obtain ⟨ukp, ukc, uvp, uvc, ⟨ukey, useq, ugone, uval⟩⟩ := y6
          unfold ev
          simp only
          obtain ⟨W8, hW8⟩ : ∃ W8, w6.alloc (.cells #[.slice ukp ukey.length ukc, .int .i64 useq, .bool ugone, .slice uvp uval.length uvc] 32) = W8 := ⟨_, rfl⟩
          have b8 : Hid (Below w6.heap.size w6 W8) := by rw [← hW8]; exact (Below.refl _ _).alloc (Nat.le_refl _) _
          have CC8 := keep (CC7.out.trans (b8.out.mono CC7.out.size))
          have GE2 := keep (get_tab (D7.out.below b8.out) a5 k5 ky s (by have := HKL.out; omega) ((S5.out.below hb6).below b8.out) (Below.refl _ _))
          rw [HB0.out] at GE2
          clear hb6 VE
          go_wp2_with fail
          refine GE2.out.mono ?_
          rintro e w9 ⟨y9, rfl, _, _, hb9⟩
          have CC9 := keep (CC8.out.trans (hb9.mono CC8.out.size))
          obtain ⟨tkp, tkc, tvp, tvc, ⟨tkey, tseq, tgone, tval⟩⟩ := y9
          unfold ev
          simp only
          have CT := keep (CC9.out.alloc CC9.out.size (.cells #[.slice tkp tkey.length tkc, .int .i64 tseq, .bool tgone, .slice tvp tval.length tvc] 32))
          clear hb9 GE2 hW8
          cases b0 with
          | true =>
            go_wp2
            go_roundw
            case rel => exact ⟨q + 1, by omega, by first | rfl | go_num, hB.out.trans (CT.out.mono hB.out.size)⟩
            case measure => simp [intOf]; omega
          | false =>
            go_wp2
            go_roundw
            case rel => exact ⟨q + 1, by omega, by first | rfl | go_num, hB.out.trans (CT.out.mono hB.out.size)⟩
            case measure => simp [intOf]; omega
        · obtain rfl : q = N := by omega
          have ll : ¬ (q : Int) < (q : Int) := by omega
          go_wp2
          go_ret
          exact ⟨rfl, BW.out⟩
    · rw [PS.out] at hno; cases hno
  · have B2 := keep (B1.out.trans (hb2.mono B1.out.size))
    have PA := keep (tparse_any none 0 0 [] w2 (by decide) (src_nil _))
    clear hok hb2 BU
    go_wp2_with fail
    refine PA.out.mono ?_
    intro e w3 hP
    rcases hP.cases with ⟨L', tb, ds, hp, rfl, hD, hb3⟩ | ⟨hno, rfl, hb3⟩
    · have B3 := keep (B2.out.trans (hb3.mono B2.out.size))
      clear hP hp hD hb3 PA
      go_wp2
      go_ret
      exact ⟨rfl, B3.out⟩
    · have B3 := keep (B2.out.trans (hb3.mono B2.out.size))
      clear hP hno hb3 PA
      go_wp2
      go_ret
      exact ⟨rfl, B3.out⟩
end Go.Proofs.Ytjblicgbdecbcaa
