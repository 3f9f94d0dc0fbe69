/- The walk of the laws' awake. -/
import Derived.Test.YtkepjjkiajkdmaaDoorVf
import Derived.Test.YtkepjjkiajkdmaaDoorKa
import Derived.Test.YtkepjjkiajkdmaaDoorKb
namespace Go.Proofs.YtkepjjkiajkdmaaDoor
open Go.RowKit

/-- The document's leaves. -/
def aL (k : Nat) : List (List UInt8) := (List.range k).map fun i => leafL [UInt8.ofNat i]
theorem aL_len (k : Nat) : (aL k).length = k := by unfold aL; simp
theorem aL_snoc (k : Nat) : aL (k + 1) = aL k ++ [leafL [UInt8.ofNat k]] := by unfold aL; rw [List.range_succ, List.map_append]; rfl
theorem aL_32 (k : Nat) : w32 (aL k) := fun e he => by
  unfold aL at he
  obtain ⟨i, _, rfl⟩ := List.mem_map.1 he
  exact leafL_len _
theorem aL_nds : ndsL (aL 5) = [rootL (aL 4), leafL [UInt8.ofNat 4]] := by
  have h4 : Mt.hb 5 = 4 := Mt.hb_is (h := 2) (by decide) (by decide)
  have ht : (aL 5).take 4 = aL 4 := by rw [aL_snoc 4, List.take_left' (aL_len 4)]
  have hd : (aL 5).drop 4 = [leafL [UInt8.ofNat 4]] := by rw [aL_snoc 4, List.drop_left' (aL_len 4)]
  unfold ndsL
  rw [Mt.nds_more nodeL nilL (by rw [aL_len]; decide), aL_len, h4, ht, hd, Mt.nds_perfect nodeL nilL (j := 0) rfl, Mt.root_one]
  rfl
theorem fold_ndsL (l : List (List UInt8)) : foldL (ndsL l) = rootL l := Mt.fold_nds nodeL nilL l.length l rfl
theorem rt_nds {l : List (List UInt8)} (h : w32 l) (hl : l.length ≤ 1099511627776) : rtS (l.length : Int) (ndsL l) = rootL l ∧ ckN (l.length : Int) (ndsL l) = 0 := by
  have := ck_nds h hl
  unfold rtS ckN
  rw [this]
  exact ⟨fold_ndsL l, rfl⟩
set_option maxHeartbeats 4000000 in
set_option maxRecDepth 100000 in
theorem awake16_any (w : World) (hL : Ld w) : Calls Tryd.prog 8 #[] w fun e w' => e = .returned (.bool true) ∧ Below w.heap.size w w' := by
  obtain ⟨i0, hi, hz0, hz1, hz2⟩ := info_partsS infoS
  have HLd := keep hL
  clear hL
  go_enter Tryd.func8, Tryd.ntmps8
  go_wp2
  go_loopw [1, 2] (fun l i wr => ∃ k : Nat, ∃ ao c, k ≤ 5 ∧ l = .slice ao k c ∧ i = .int .i64 (k : Int) ∧ Hid (wr.ownsRow w.heap.size 9 1 (.slice ao k c) k (rv strKind (aL k)) ∧ Below w.heap.size w wr)) (fun _ i _ => 5 - (intOf i).toNat)
  case atStart => exact ⟨0, none, 0, by decide, rfl, rfl, World.ownsRow_nil _ _ _ _, Below.refl _ _⟩
  case round =>
    obtain ⟨k, ao, c, hk, rfl, rfl, hI⟩ := hrel
    by_cases hkn : k < 5
    · have k1 : (k : Int) < 5 := by omega
      have k0 : (0 : Int) ≤ (k : Int) := by omega
      have e8 : ((UInt8.ofNat k).toNat : Int) = (k : Int) := by rw [UInt8.toNat_ofNat_of_lt' (by show k < 256; omega)]
      have w8 : IntKind.u8.wrap (k : Int) = (k : Int) := by rw [IntKind.wrap_u8]; omega
      have SB := keep (Src.built wr (UInt8.ofNat k))
      rw [e8] at SB
      have LF := keep (rleaf_any _ 1 1 [UInt8.ofNat k] _ (by decide) SB.out)
      obtain ⟨W1, hW1⟩ : ∃ Wn, wr.alloc (.cells #[.int .u8 (k : Int)] 5) = Wn := ⟨_, rfl⟩
      have b1 : Hid (Below wr.heap.size wr W1) := by rw [← hW1]; exact (Below.refl _ _).alloc (Nat.le_refl _) _
      rw [hW1] at LF
      have AS := keep (aL_snoc k)
      obtain ⟨X, hX⟩ : ∃ X, leafL [UInt8.ofNat k] = X := ⟨_, rfl⟩
      rw [hX] at LF AS
      clear SB e8 hX
      go_wp2_with fail
      refine LF.out.mono ?_
      rintro e w2 ⟨rfl, hb2⟩
      have b2 := keep (b1.out.trans (hb2.mono b1.out.size))
      clear hb2 LF hW1
      have O6 : Hid ((w2.alloc (.cells #[.string ⟨X.toArray⟩] 9)).ownsRow w.heap.size 9 1 (.slice ao k c) k (rv strKind (aL k))) := own_next (own_next hI.out.1 b2.out) ((Below.refl _ _).alloc (Nat.le_refl _) _)
      have R6 : Hid (RSrc strKind (w2.alloc (.cells #[.string ⟨X.toArray⟩] 9)) (some ⟨w2.heap.size, 0, none⟩) 1 1 [X]) := one_text w2 X
      have B6 : Hid (Below w.heap.size w (w2.alloc (.cells #[.string ⟨X.toArray⟩] 9))) := (hI.out.2.trans (b2.out.mono hI.out.2.size)).alloc (hI.out.2.trans (b2.out.mono hI.out.2.size)).size _
      go_wp2_with (at_builtin; refine wpList_append_recsS rfl _ _ 22 rfl w.heap.size i0 _ Tryd.underlying22 hi hz0 hz1 hz2 rfl _ k (aL k) rfl O6.out _ 1 1 [X] rfl R6.out (by omega) B6.out.size ?_; intro v7 w7 ho7 hg7; have B7 := keep (B6.out.grown hg7 B6.out.size (fun j hj => (O6.out.lt j hj).1)); obtain ⟨g7, c7, rfl, hc7⟩ := own_form ho7 (by omega); have O7 := keep ho7; clear ho7 hg7)
      go_roundw
      case rel => exact ⟨k + 1, _, c7, by omega, rfl, by go_num, by rw [AS.out]; exact O7.out, B7.out⟩
      case measure => simp [intOf]; omega
    · obtain rfl : k = 5 := by omega
      obtain ⟨h, ch, e1, hch⟩ := own_form hI.out.1 (by decide)
      obtain ⟨e3, _, e5⟩ := Value.slice.inj e1.symm
      subst e3
      subst e5
      obtain ⟨ao', c', e2, hr, _⟩ := RSrc.own strKind_ok hI.out.1 (fun _ _ => trivial)
      obtain ⟨e3, _, e5⟩ := Value.slice.inj e2
      subst e3
      subst e5
      have RS := keep hr
      have HB := keep hI.out.2
      clear hr
      have OF : Hid (Calls Tryd.prog 24 #[.slice (some ⟨h, 0, none⟩) 5 ch] wr (SpA wr 5 (ndsL (aL 5)) 0)) := of16_any _ 5 ch (aL 5) wr (HLd.out.below HB.out) RS.out (aL_32 5) (by decide)
      have hlen : (ndsL (aL 5)).length = 2 := by rw [aL_nds]; rfl
      have ch5 : (5 : Int) ≤ (ch : Int) := by omega
      have ch4 : ¬ (ch : Int) < 4 := by omega
      have ch0 : ¬ ch = 0 := by omega
      go_wp2_with fail
      refine OF.out.mono ?_
      rintro e w3 ⟨v3, rfl, ho3, hb3⟩
      rw [hlen] at ho3
      obtain ⟨g, cg, rfl, hcg⟩ := own_form ho3 (by decide)
      have O3 := keep ho3
      have B3 := keep hb3
      clear ho3 hb3 OF
      obtain ⟨W4, hW4⟩ : ∃ Wn, w3.alloc (.cells #[.int .i64 5, .slice (some ⟨g, 0, none⟩) 2 cg] 26) = Wn := ⟨_, rfl⟩
      have b4 : Hid (Below w3.heap.size w3 W4) := by rw [← hW4]; exact (Below.refl _ _).alloc (Nat.le_refl _) _
      have G4 : Hid (W4.heap[w3.heap.size]? = some (.cells #[.int .i64 5, .slice (some ⟨g, 0, none⟩) 2 cg] 26)) := by rw [← hW4]; exact heap_alloc_new w3 _
      have O4 : Hid (W4.ownsRow wr.heap.size 9 1 (.slice (some ⟨g, 0, none⟩) 2 cg) 2 (rv strKind (ndsL (aL 5)))) := own_next O3.out b4.out
      obtain ⟨ao4, c4, e4, hr4, _⟩ := RSrc.own strKind_ok O4.out (fun _ _ => trivial)
      obtain ⟨e3, _, e5⟩ := Value.slice.inj e4
      subst e3
      subst e5
      have R4' := keep hr4
      clear hr4
      have L4 : Hid (Below wr.heap.size wr W4) := B3.out.trans (b4.out.mono B3.out.size)
      have HB4 : Hid (Below w.heap.size w W4) := HB.out.trans (L4.out.mono HB.out.size)
      have RT := keep (root16_any 5 _ 2 cg (ndsL (aL 5)) W4 (HLd.out.below HB4.out) R4'.out (by decide))
      have hrt : rtS 5 (ndsL (aL 5)) = rootL (aL 5) ∧ ckN 5 (ndsL (aL 5)) = 0 := by
        have := rt_nds (aL_32 5) (by rw [aL_len]; decide)
        rw [aL_len] at this
        exact this
      rw [hrt.1, hrt.2] at RT
      have PU : Hid (∀ w', Below W4.heap.size W4 w' → Calls Tryd.prog 9 #[.agg #[.int .i64 5, .slice (some ⟨g, 0, none⟩) 2 cg], .string ⟨#[115, 104, 111, 114, 116]⟩] w' (SpA w' 0 [] 1)) := fun w' hb => by
        have h := push16_any 5 _ 2 cg (ndsL (aL 5)) [115, 104, 111, 114, 116] w' (HLd.out.below (HB4.out.trans (hb.mono HB4.out.size))) (R4'.out.below strKind_ok hb) (by decide)
        obtain ⟨q1, q2, q3⟩ := p_no (n := 5) (ps := ndsL (aL 5)) (leaf := [115, 104, 111, 114, 116]) (by unfold pOk; rw [decide_eq_false (show ¬ ([115, 104, 111, 114, 116] : List UInt8).length = 32 by decide), Bool.and_false, Bool.and_false])
        rw [q1, q2, q3] at h
        exact h
      obtain ⟨R4, hR4⟩ : ∃ R, rootL (aL 4) = R := ⟨_, rfl⟩
      obtain ⟨R5, hR5⟩ : ∃ R, rootL (aL 5) = R := ⟨_, rfl⟩
      obtain ⟨x4, hx4⟩ : ∃ x, leafL [UInt8.ofNat 4] = x := ⟨_, rfl⟩
      have HR4 := keep hR4
      have HR5 := keep hR5
      rw [hR5] at RT
      have cN : W4.cell? ⟨g, 0, none⟩ = some (.string ⟨R4.toArray⟩) ∧ W4.cell? ⟨g, 1, none⟩ = some (.string ⟨x4.toArray⟩) := by
        obtain ⟨b', off', he, _, hc⟩ := strs_at R4'.out (by decide)
        cases he
        rw [aL_nds, hR4, hx4] at hc
        exact ⟨hc 0 _ rfl, hc 1 _ rfl⟩
      have cL : wr.cell? ⟨h, 4, none⟩ = some (.string ⟨x4.toArray⟩) := by
        obtain ⟨b', off', he, _, hc⟩ := strs_at RS.out (by decide)
        cases he
        have := hc 4 x4 (by rw [aL_snoc 4, hx4, List.getElem?_append_right (by rw [aL_len]; exact Nat.le_refl _), aL_len]; rfl)
        exact this
      have RT4 : Hid (∀ w', Below wr.heap.size wr w' → Calls Tryd.prog 28 #[.slice (some ⟨h, 0, none⟩) 4 ch] w' fun e w'' => e = .returned (.string ⟨R4.toArray⟩) ∧ Below w'.heap.size w' w'') := fun w' hb => by
        rw [← HR4.out]
        have h1 := (RS.out.below strKind_ok hb).head strKind_ok 4 (by decide)
        rw [aL_snoc 4, List.take_left' (aL_len 4)] at h1
        exact rroot_any 4 (aL 4) (aL_len 4) _ ch w' h1 (fun e he => by rw [aL_32 4 e he]; decide) (by decide)
      have RT5 : Hid (∀ w', Below wr.heap.size wr w' → Calls Tryd.prog 28 #[.slice (some ⟨h, 0, none⟩) 5 ch] w' fun e w'' => e = .returned (.string ⟨R5.toArray⟩) ∧ Below w'.heap.size w' w'') := fun w' hb => by
        rw [← HR5.out]
        exact rroot_any 5 (aL 5) (aL_len 5) _ ch w' (RS.out.below strKind_ok hb) (fun e he => by rw [aL_32 5 e he]; decide) (by decide)
      clear hR4 hR5 hx4 hrt hlen
      have n0 := cN.1
      have n1 := cN.2
      have k0 : W4.cell? ⟨w3.heap.size, 0, none⟩ = some (.int .i64 5) := cell_of_row _ _ _ _ _ _ G4.out
      have k1 : W4.cell? ⟨w3.heap.size, 1, none⟩ = some (.slice (some ⟨g, 0, none⟩) 2 cg) := cell_of_row _ _ _ _ _ _ G4.out
      clear cN
      go_wp2_with fail
      refine RT.out.mono ?_
      rintro e w5 ⟨rfl, hb5⟩
      have b5 := keep hb5
      have j0 := below_cell b5.out k0
      have j1 := below_cell b5.out k1
      clear RT hb5 hW4 k0 k1
      go_wp2_with fail
      refine (PU.out w5 b5.out).mono ?_
      rintro e w6 ⟨v6, rfl, ho6, hb6⟩
      obtain ⟨a6, c6, rfl⟩ := own_is ho6
      have b6 := keep hb6
      clear ho6 hb6 PU j0 j1
      obtain ⟨w9, hw9⟩ : ∃ Wn, w6.alloc (.cells #[.int .i64 0, .slice a6 0 c6] 26) = Wn := ⟨_, rfl⟩
      have b9 : Hid (Below w6.heap.size w6 w9) := by rw [← hw9]; exact (Below.refl _ _).alloc (Nat.le_refl _) _
      have c69 : Hid (Below W4.heap.size W4 w9) := (b5.out.trans (b6.out.mono b5.out.size)).trans (b9.out.mono (b5.out.trans (b6.out.mono b5.out.size)).size)
      have B9 : Hid (Below w.heap.size w w9) := HB4.out.trans (c69.out.mono HB4.out.size)
      have b49 : Hid (Below wr.heap.size wr w9) := L4.out.trans (c69.out.mono L4.out.size)
      have RU4 : Hid (∀ w', Below w9.heap.size w9 w' → _) := fun w' hb => RT4.out w' (b49.out.trans (hb.mono b49.out.size))
      have RU5 : Hid (∀ w', Below w9.heap.size w9 w' → _) := fun w' hb => RT5.out w' (b49.out.trans (hb.mono b49.out.size))
      have k1 := below_cell c69.out (show W4.cell? ⟨w3.heap.size, 1, none⟩ = some (.slice (some ⟨g, 0, none⟩) 2 cg) from cell_of_row _ _ _ _ _ _ G4.out)
      have m0 := below_cell c69.out n0
      have m1 := below_cell c69.out n1
      have l4 := below_cell b49.out cL
      clear n0 n1 cL RT4 RT5
      go_wp2_with fail
      clear hw9
      refine wp_region_held_drew (S := fun w' => Below w9.heap.size w9 w') (by kernel_rfl) ((Below.refl w9.heap.size w9).drew) (fun hZ => ?_)
      refine takeH (i := 0) 35 (v := .int .i64 0) rfl rfl (by kernel_rfl) (by kernel_rfl) (by kernel_rfl) (fun _ _ _ h => h) (Or.inl ⟨by rfl, ?_⟩) (by assumption) ?_
      · intro w' hSw'
        go_simp
      simp only [Act.put, List.setIfInBounds_toArray, List.set_cons_zero, List.set_cons_succ]
      refine takeH (i := 1) 36 (v := .bool true) rfl rfl (by kernel_rfl) (by kernel_rfl) (by kernel_rfl) (fun _ _ _ h => h) (Or.inl ⟨by rfl, ?_⟩) (by assumption) ?_
      · intro w' hSw'
        go_simp
      simp only [Act.put, List.setIfInBounds_toArray, List.set_cons_zero, List.set_cons_succ]
      refine takeH (i := 2) 37 (v := .bool true) rfl rfl (by kernel_rfl) (by kernel_rfl) (by kernel_rfl) (fun _ _ _ h => h) (Or.inl ⟨by rfl, ?_⟩) (by assumption) ?_
      · intro w' hSw'
        go_simp
      simp only [Act.put, List.setIfInBounds_toArray, List.set_cons_zero, List.set_cons_succ]
      refine takeH (i := 3) 38 (v := .pointer (some ⟨w3.heap.size, 1, none⟩)) rfl rfl (by kernel_rfl) (by kernel_rfl) (by kernel_rfl) (fun _ _ _ h => h) (Or.inl ⟨by rfl, ?_⟩) (by assumption) ?_
      · intro w' hSw'
        go_simp
      simp only [Act.put, List.setIfInBounds_toArray, List.set_cons_zero, List.set_cons_succ]
      refine takeH (i := 4) 39 (v := .slice (some ⟨g, 0, none⟩) 2 cg) rfl rfl (by kernel_rfl) (by kernel_rfl) (by kernel_rfl) (fun _ _ _ h => h) (Or.inl ⟨by rfl, ?_⟩) (by assumption) ?_
      · intro w' hSw'
        have z0 := below_cell hSw' k1
        go_simp
      simp only [Act.put, List.setIfInBounds_toArray, List.set_cons_zero, List.set_cons_succ]
      refine takeH (i := 5) 40 (v := .int .i64 2) rfl rfl (by kernel_rfl) (by kernel_rfl) (by kernel_rfl) (fun _ _ _ h => h) (Or.inl ⟨by rfl, ?_⟩) (by assumption) ?_
      · intro w' hSw'
        go_simp
      simp only [Act.put, List.setIfInBounds_toArray, List.set_cons_zero, List.set_cons_succ]
      refine takeH (i := 6) 41 (v := .bool true) rfl rfl (by kernel_rfl) (by kernel_rfl) (by kernel_rfl) (fun _ _ _ h => h) (Or.inl ⟨by rfl, ?_⟩) (by assumption) ?_
      · intro w' hSw'
        go_simp
      simp only [Act.put, List.setIfInBounds_toArray, List.set_cons_zero, List.set_cons_succ]
      refine takeH (i := 7) 42 (v := .bool true) rfl rfl (by kernel_rfl) (by kernel_rfl) (by kernel_rfl) (fun _ _ _ h => h) (Or.inl ⟨by rfl, ?_⟩) (by assumption) ?_
      · intro w' hSw'
        go_simp
      simp only [Act.put, List.setIfInBounds_toArray, List.set_cons_zero, List.set_cons_succ]
      refine takeH (i := 8) 43 (v := .bool true) rfl rfl (by kernel_rfl) (by kernel_rfl) (by kernel_rfl) (fun _ _ _ h => h) (Or.inl ⟨by rfl, ?_⟩) (by assumption) ?_
      · intro w' hSw'
        go_simp
      simp only [Act.put, List.setIfInBounds_toArray, List.set_cons_zero, List.set_cons_succ]
      refine takeH (i := 9) 44 (v := .pointer (some ⟨w3.heap.size, 1, none⟩)) rfl rfl (by kernel_rfl) (by kernel_rfl) (by kernel_rfl) (fun _ _ _ h => h) (Or.inl ⟨by rfl, ?_⟩) (by assumption) ?_
      · intro w' hSw'
        go_simp
      simp only [Act.put, List.setIfInBounds_toArray, List.set_cons_zero, List.set_cons_succ]
      refine takeH (i := 10) 45 (v := .slice (some ⟨g, 0, none⟩) 2 cg) rfl rfl (by kernel_rfl) (by kernel_rfl) (by kernel_rfl) (fun _ _ _ h => h) (Or.inl ⟨by rfl, ?_⟩) (by assumption) ?_
      · intro w' hSw'
        have z0 := below_cell hSw' k1
        go_simp
      simp only [Act.put, List.setIfInBounds_toArray, List.set_cons_zero, List.set_cons_succ]
      refine takeH (i := 11) 46 (v := .pointer (some ⟨g, 1, none⟩)) rfl rfl (by kernel_rfl) (by kernel_rfl) (by kernel_rfl) (fun _ _ _ h => h) (Or.inl ⟨by rfl, ?_⟩) (by assumption) ?_
      · intro w' hSw'
        go_simp
      simp only [Act.put, List.setIfInBounds_toArray, List.set_cons_zero, List.set_cons_succ]
      refine takeH (i := 12) 47 (v := .string ⟨x4.toArray⟩) rfl rfl (by kernel_rfl) (by kernel_rfl) (by kernel_rfl) (fun _ _ _ h => h) (Or.inl ⟨by rfl, ?_⟩) (by assumption) ?_
      · intro w' hSw'
        have z0 := below_cell hSw' m1
        go_simp
      simp only [Act.put, List.setIfInBounds_toArray, List.set_cons_zero, List.set_cons_succ]
      refine takeH (i := 13) 48 (v := .slice (some ⟨h, 0, none⟩) 5 ch) rfl rfl (by kernel_rfl) (by kernel_rfl) (by kernel_rfl) (fun _ _ _ h => h) (Or.inl ⟨by rfl, ?_⟩) (by assumption) ?_
      · intro w' hSw'
        go_simp
      simp only [Act.put, List.setIfInBounds_toArray, List.set_cons_zero, List.set_cons_succ]
      refine takeH (i := 14) 49 (v := .pointer (some ⟨h, 4, none⟩)) rfl rfl (by kernel_rfl) (by kernel_rfl) (by kernel_rfl) (fun _ _ _ h => h) (Or.inl ⟨by rfl, ?_⟩) (by assumption) ?_
      · intro w' hSw'
        go_simp
      simp only [Act.put, List.setIfInBounds_toArray, List.set_cons_zero, List.set_cons_succ]
      refine takeH (i := 15) 50 (v := .string ⟨x4.toArray⟩) rfl rfl (by kernel_rfl) (by kernel_rfl) (by kernel_rfl) (fun _ _ _ h => h) (Or.inl ⟨by rfl, ?_⟩) (by assumption) ?_
      · intro w' hSw'
        have z0 := below_cell hSw' l4
        go_simp
      simp only [Act.put, List.setIfInBounds_toArray, List.set_cons_zero, List.set_cons_succ]
      refine takeH (i := 16) 51 (v := .bool true) rfl rfl (by kernel_rfl) (by kernel_rfl) (by kernel_rfl) (fun _ _ _ h => h) (Or.inl ⟨by rfl, ?_⟩) (by assumption) ?_
      · intro w' hSw'
        go_simp
      simp only [Act.put, List.setIfInBounds_toArray, List.set_cons_zero, List.set_cons_succ]
      refine takeH (i := 17) 52 (v := .bool true) rfl rfl (by kernel_rfl) (by kernel_rfl) (by kernel_rfl) (fun _ _ _ h => h) (Or.inl ⟨by rfl, ?_⟩) (by assumption) ?_
      · intro w' hSw'
        go_simp
      simp only [Act.put, List.setIfInBounds_toArray, List.set_cons_zero, List.set_cons_succ]
      refine takeH (i := 18) 53 (v := .bool true) rfl rfl (by kernel_rfl) (by kernel_rfl) (by kernel_rfl) (fun _ _ _ h => h) (Or.inl ⟨by rfl, ?_⟩) (by assumption) ?_
      · intro w' hSw'
        go_simp
      simp only [Act.put, List.setIfInBounds_toArray, List.set_cons_zero, List.set_cons_succ]
      refine takeH (i := 19) 54 (v := .pointer (some ⟨w3.heap.size, 1, none⟩)) rfl rfl (by kernel_rfl) (by kernel_rfl) (by kernel_rfl) (fun _ _ _ h => h) (Or.inl ⟨by rfl, ?_⟩) (by assumption) ?_
      · intro w' hSw'
        go_simp
      simp only [Act.put, List.setIfInBounds_toArray, List.set_cons_zero, List.set_cons_succ]
      refine takeH (i := 20) 55 (v := .slice (some ⟨g, 0, none⟩) 2 cg) rfl rfl (by kernel_rfl) (by kernel_rfl) (by kernel_rfl) (fun _ _ _ h => h) (Or.inl ⟨by rfl, ?_⟩) (by assumption) ?_
      · intro w' hSw'
        have z0 := below_cell hSw' k1
        go_simp
      simp only [Act.put, List.setIfInBounds_toArray, List.set_cons_zero, List.set_cons_succ]
      refine takeH (i := 21) 56 (v := .pointer (some ⟨g, 0, none⟩)) rfl rfl (by kernel_rfl) (by kernel_rfl) (by kernel_rfl) (fun _ _ _ h => h) (Or.inl ⟨by rfl, ?_⟩) (by assumption) ?_
      · intro w' hSw'
        go_simp
      simp only [Act.put, List.setIfInBounds_toArray, List.set_cons_zero, List.set_cons_succ]
      refine takeH (i := 0x16) 57 (v := .string ⟨R4.toArray⟩) rfl rfl (by kernel_rfl) (by kernel_rfl) (by kernel_rfl) (fun _ _ _ h => h) (Or.inl ⟨by rfl, ?_⟩) (by assumption) ?_
      · intro w' hSw'
        have z0 := below_cell hSw' m0
        go_simp
      simp only [Act.put, List.setIfInBounds_toArray, List.set_cons_zero, List.set_cons_succ]
      refine takeH (i := 23) 58 (v := .slice (some ⟨h, 0, none⟩) 5 ch) rfl rfl (by kernel_rfl) (by kernel_rfl) (by kernel_rfl) (fun _ _ _ h => h) (Or.inl ⟨by rfl, ?_⟩) (by assumption) ?_
      · intro w' hSw'
        go_simp
      simp only [Act.put, List.setIfInBounds_toArray, List.set_cons_zero, List.set_cons_succ]
      refine takeH (i := 24) 59 (v := .slice (some ⟨h, 0, none⟩) 4 ch) rfl rfl (by kernel_rfl) (by kernel_rfl) (by kernel_rfl) (fun _ _ _ h => h) (Or.inl ⟨by rfl, ?_⟩) (by assumption) ?_
      · intro w' hSw'
        go_simp
      simp only [Act.put, List.setIfInBounds_toArray, List.set_cons_zero, List.set_cons_succ]
      refine wpAnyH_ready (rs := [25]) (by kernel_rfl) (by simp) ?_
      refine AllReadyH.cons rfl (fun K hK => ?_) AllReadyH.nil
      go_simp
      refine (RU4.out _ (Below.refl w9.heap.size w9).drew).mono ?_
      rintro e wa ⟨rfl, hba⟩
      have ba : Hid (Below w9.heap.size w9 wa) := (Below.refl w9.heap.size w9).drew.trans (hba.mono (Nat.le_refl _))
      clear hba
      go_wp2_with fail
      refine hK.out _ _ (ba.out) (fun hZ1 => ?_)
      clear hK K
      refine takeH (i := 26) 61 (v := .bool true) rfl rfl (by kernel_rfl) (by kernel_rfl) (by kernel_rfl) (fun _ _ _ h => h) (Or.inl ⟨by rfl, ?_⟩) (by assumption) ?_
      · intro w' hSw'
        go_simp
      simp only [Act.put, List.setIfInBounds_toArray, List.set_cons_zero, List.set_cons_succ]
      refine takeH (i := 27) 62 (v := .bool true) rfl rfl (by kernel_rfl) (by kernel_rfl) (by kernel_rfl) (fun _ _ _ h => h) (Or.inl ⟨by rfl, ?_⟩) (by assumption) ?_
      · intro w' hSw'
        go_simp
      simp only [Act.put, List.setIfInBounds_toArray, List.set_cons_zero, List.set_cons_succ]
      refine takeH (i := 28) 63 (v := .bool true) rfl rfl (by kernel_rfl) (by kernel_rfl) (by kernel_rfl) (fun _ _ _ h => h) (Or.inl ⟨by rfl, ?_⟩) (by assumption) ?_
      · intro w' hSw'
        go_simp
      simp only [Act.put, List.setIfInBounds_toArray, List.set_cons_zero, List.set_cons_succ]
      refine takeH (i := 29) 64 (v := .int .i64 0) rfl rfl (by kernel_rfl) (by kernel_rfl) (by kernel_rfl) (fun _ _ _ h => h) (Or.inl ⟨by rfl, ?_⟩) (by assumption) ?_
      · intro w' hSw'
        go_simp
      simp only [Act.put, List.setIfInBounds_toArray, List.set_cons_zero, List.set_cons_succ]
      refine takeH (i := 30) 65 (v := .bool true) rfl rfl (by kernel_rfl) (by kernel_rfl) (by kernel_rfl) (fun _ _ _ h => h) (Or.inl ⟨by rfl, ?_⟩) (by assumption) ?_
      · intro w' hSw'
        go_simp
      simp only [Act.put, List.setIfInBounds_toArray, List.set_cons_zero, List.set_cons_succ]
      refine takeH (i := 31) 66 (v := .bool true) rfl rfl (by kernel_rfl) (by kernel_rfl) (by kernel_rfl) (fun _ _ _ h => h) (Or.inl ⟨by rfl, ?_⟩) (by assumption) ?_
      · intro w' hSw'
        go_simp
      simp only [Act.put, List.setIfInBounds_toArray, List.set_cons_zero, List.set_cons_succ]
      refine takeH (i := 32) 67 (v := .bool true) rfl rfl (by kernel_rfl) (by kernel_rfl) (by kernel_rfl) (fun _ _ _ h => h) (Or.inl ⟨by rfl, ?_⟩) (by assumption) ?_
      · intro w' hSw'
        go_simp
      simp only [Act.put, List.setIfInBounds_toArray, List.set_cons_zero, List.set_cons_succ]
      refine takeH (i := 33) 68 (v := .string ⟨R5.toArray⟩) rfl rfl (by kernel_rfl) (by kernel_rfl) (by kernel_rfl) (fun _ _ _ h => h) (Or.inl ⟨by rfl, ?_⟩) (by assumption) ?_
      · intro w' hSw'
        go_simp
      simp only [Act.put, List.setIfInBounds_toArray, List.set_cons_zero, List.set_cons_succ]
      refine takeH (i := 34) 69 (v := .slice (some ⟨h, 0, none⟩) 5 ch) rfl rfl (by kernel_rfl) (by kernel_rfl) (by kernel_rfl) (fun _ _ _ h => h) (Or.inl ⟨by rfl, ?_⟩) (by assumption) ?_
      · intro w' hSw'
        go_simp
      simp only [Act.put, List.setIfInBounds_toArray, List.set_cons_zero, List.set_cons_succ]
      refine wpAnyH_ready (rs := [35]) (by kernel_rfl) (by simp) ?_
      refine AllReadyH.cons rfl (fun K hK => ?_) AllReadyH.nil
      go_simp
      refine (RU5.out _ ba.out).mono ?_
      rintro e wb ⟨rfl, hbb⟩
      have bb : Hid (Below w9.heap.size w9 wb) := ba.out.trans (hbb.mono ba.out.size)
      clear hbb
      go_wp2_with fail
      refine hK.out _ _ (bb.out) (fun hZ2 => ?_)
      clear hK K
      refine takeH (i := 36) 71 (v := .bool true) rfl rfl (by kernel_rfl) (by kernel_rfl) (by kernel_rfl) (fun _ _ _ h => h) (Or.inl ⟨by rfl, ?_⟩) (by assumption) ?_
      · intro w' hSw'
        go_simp
      simp only [Act.put, List.setIfInBounds_toArray, List.set_cons_zero, List.set_cons_succ]
      refine takeH (i := 37) 72 (v := .bool true) rfl rfl (by kernel_rfl) (by kernel_rfl) (by kernel_rfl) (fun _ _ _ h => h) (Or.inl ⟨by rfl, ?_⟩) (by assumption) ?_
      · intro w' hSw'
        go_simp
      simp only [Act.put, List.setIfInBounds_toArray, List.set_cons_zero, List.set_cons_succ]
      refine takeH (i := 38) 73 (v := .bool true) rfl rfl (by kernel_rfl) (by kernel_rfl) (by kernel_rfl) (fun _ _ _ h => h) (Or.inl ⟨by rfl, ?_⟩) (by assumption) ?_
      · intro w' hSw'
        go_simp
      simp only [Act.put, List.setIfInBounds_toArray, List.set_cons_zero, List.set_cons_succ]
      refine takeH (i := 39) 74 (v := .int .i64 1) rfl rfl (by kernel_rfl) (by kernel_rfl) (by kernel_rfl) (fun _ _ _ h => h) (Or.inl ⟨by rfl, ?_⟩) (by assumption) ?_
      · intro w' hSw'
        go_simp
      simp only [Act.put, List.setIfInBounds_toArray, List.set_cons_zero, List.set_cons_succ]
      refine takeH (i := 40) 75 (v := .bool true) rfl rfl (by kernel_rfl) (by kernel_rfl) (by kernel_rfl) (fun _ _ _ h => h) (Or.inl ⟨by rfl, ?_⟩) (by assumption) ?_
      · intro w' hSw'
        go_simp
      simp only [Act.put, List.setIfInBounds_toArray, List.set_cons_zero, List.set_cons_succ]
      refine takeH (i := 41) 76 (v := .bool true) rfl rfl (by kernel_rfl) (by kernel_rfl) (by kernel_rfl) (fun _ _ _ h => h) (Or.inl ⟨by rfl, ?_⟩) (by assumption) ?_
      · intro w' hSw'
        go_simp
      simp only [Act.put, List.setIfInBounds_toArray, List.set_cons_zero, List.set_cons_succ]
      refine takeH (i := 42) 0 (v := .bool true) rfl rfl (by kernel_rfl) (by kernel_rfl) (by kernel_rfl) (fun _ _ _ h => h) (Or.inl ⟨by rfl, ?_⟩) (by assumption) ?_
      · intro w' hSw'
        go_simp
      simp only [Act.put, List.setIfInBounds_toArray, List.set_cons_zero]
      refine wpAnyH_done (by kernel_rfl) ?_ _
      go_wp2
      go_ret
      exact ⟨rfl, B9.out.trans (bb.out.mono B9.out.size)⟩
end Go.Proofs.YtkepjjkiajkdmaaDoor
