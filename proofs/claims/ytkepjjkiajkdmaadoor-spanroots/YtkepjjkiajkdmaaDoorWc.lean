/- The walk of SpanBack. -/
import Derived.Test.YtkepjjkiajkdmaaDoorVw
import Derived.Test.YtkepjjkiajkdmaaDoorJoinUe
import Derived.Test.YtkepjjkiajkdmaaDoorJoinDp
namespace Go.Proofs.YtkepjjkiajkdmaaDoor
open Go.RowKit

theorem own_srcS {w : World} {B n : Nat} {v : Value} {es : List (List UInt8)} (h : w.ownsRow B 9 1 v n (rv strKind es)) : ∃ ao c, v = .slice ao n c ∧ RSrc strKind w ao n c es := by
  obtain ⟨ao, c, e, hr, _⟩ := RSrc.own strKind_ok h (fun _ _ => trivial)
  exact ⟨ao, c, e, hr⟩
theorem own_emptyB {w : World} {B : Nat} (h : B ≤ w.heap.size) : (w.alloc (.cells #[] 5)).ownsRow B 5 1 (.slice (some ⟨w.heap.size, 0, none⟩) 0 0) 0 (bv []) :=
  ⟨rfl, .inr ⟨_, _, _, rfl, h, heap_alloc_new w _, Nat.le_refl _, by decide, by simp, by simp [bv]⟩⟩
set_option maxHeartbeats 8000000 in
set_option maxRecDepth 100000 in
theorem spanBack_walk (n : Int) (pp : Option Addr) (pm pc : Nat) (ps : List (List UInt8)) (ab : Option Addr) (mb cb : Nat) (lb : List UInt8) (w : World) (hL : Ld w) (hs : RSrc strKind w pp pm pc ps) (hm : pm ≤ 4611686018427387904) (hsb : Src w ab mb cb lb) (hmb : mb ≤ 140737488355328) :
    Calls Tryd.prog 6 #[.agg #[.int .i64 n, .slice pp pm pc], .slice ab mb cb] w fun e w' => e = .returned (.bool true) ∧ Below w.heap.size w w' := by
  obtain ⟨i0, hi, hz0, hz1, hz2⟩ := info_parts info5
  have HLd := keep hL
  have HS := keep hs
  have HSL := keep hs.len
  have HB := keep hsb
  obtain ⟨W1, hW1⟩ : ∃ Wn, w.alloc (.cells #[.int .i64 n, .slice pp pm pc] 24) = Wn := ⟨_, rfl⟩
  have b1 : Hid (Below w.heap.size w W1) := by rw [← hW1]; exact (Below.refl _ _).alloc (Nat.le_refl _) _
  have G1 : Hid (W1.heap[w.heap.size]? = some (.cells #[.int .i64 n, .slice pp pm pc] 24)) := by rw [← hW1]; exact heap_alloc_new w _
  have AW := keep (awake16_any W1 (HLd.out.below b1.out))
  have EN : Hid (∀ w', Below w.heap.size w w' → Calls Tryd.prog 18 #[.agg #[.int .i64 n, .slice pp pm pc]] w' (EnA w' (enL n ps) (ckN n ps))) := fun w' hb => encode16_any n pp pm pc ps w' (HS.out.below strKind_ok hb) hm
  have DB : Hid (∀ w', Below w.heap.size w w' → Calls Tryd.prog 20 #[.slice ab mb cb] w' (SpA w' (deN lb) (deP lb) (deE lb))) := fun w' hb => decode16_any ab mb cb lb w' hmb (HB.out.below hb)
  obtain ⟨E, hE⟩ : ∃ E, enL n ps = E := ⟨_, rfl⟩
  obtain ⟨C, hC⟩ : ∃ C, ckN n ps = C := ⟨_, rfl⟩
  obtain ⟨X, hX⟩ : ∃ X, E.length = X := ⟨_, rfl⟩
  have HE := keep hE
  have HC := keep hC
  have HEL := keep hX
  rw [hE, hC] at EN
  clear hL hs hsb hE hC hX hm


  cases hd : deS lb with
  | none =>
    obtain ⟨q1, q2, q3⟩ := de_none hd
    rw [q1, q2, q3] at DB
    clear hd q1 q2 q3
    go_enter Tryd.func6, Tryd.ntmps6
    go_wp2_with fail
    refine AW.out.mono ?_
    rintro e w1 ⟨rfl, hb1⟩
    have B1 := keep (b1.out.trans (hb1.mono b1.out.size))
    have k0 : w1.cell? ⟨w.heap.size, 0, none⟩ = some (.int .i64 n) := below_cell hb1 (cell_of_row _ _ _ _ _ _ G1.out)
    have k1 : w1.cell? ⟨w.heap.size, 1, none⟩ = some (.slice pp pm pc) := below_cell hb1 (cell_of_row _ _ _ _ _ _ G1.out)
    clear hb1 AW hW1
    go_wp2_with fail
    refine (mine_any n pp pm pc w1).mono ?_
    rintro e w2 ⟨rfl, hb2⟩
    have B2 := keep (B1.out.trans (hb2.mono B1.out.size))
    have k20 := below_cell hb2 k0
    have k21 := below_cell hb2 k1
    clear hb2 k0 k1
    go_wp2_with fail
    refine (EN.out w2 B2.out).mono ?_
    rintro e w3 ⟨v3, rfl, ho3, hb3⟩
    obtain ⟨a3, c3, rfl, hs3, _⟩ := Src.of_own ho3
    have S3 := keep hs3
    rw [HEL.out] at S3 ⊢
    have B3 := keep (B2.out.trans (hb3.mono B2.out.size))
    have i0c := below_cell hb3 k20
    have i1c := below_cell hb3 k21
    clear ho3 hs3 hb3 EN k20 k21
    go_wp2_with fail
    refine (DB.out w3 B3.out).mono ?_
    rintro e w4 ⟨v4, rfl, ho4, hb4⟩
    obtain ⟨a4, c4, rfl, hr4⟩ := own_srcS ho4
    have R4 := keep hr4
    have b3w4 := keep hb4
    clear ho4 hr4 hb4 DB
    obtain ⟨W5, hW5⟩ : ∃ Wn, w4.alloc (.cells #[.int .i64 0, .slice a4 0 c4] 26) = Wn := ⟨_, rfl⟩
    have b45 : Hid (Below w4.heap.size w4 W5) := by rw [← hW5]; exact (Below.refl _ _).alloc (Nat.le_refl _) _
    have G5 : Hid (W5.heap[w4.heap.size]? = some (.cells #[.int .i64 0, .slice a4 0 c4] 26)) := by rw [← hW5]; exact heap_alloc_new w4 _
    have d3W5 := keep (b3w4.out.trans (b45.out.mono b3w4.out.size))
    have BW5 := keep (B3.out.trans (d3W5.out.mono B3.out.size))
    have jW50 := below_cell d3W5.out i0c
    have jW51 := below_cell d3W5.out i1c
    clear i0c i1c
    cases hc : ckS n ps with
    | false =>
      have h1 : C = 1 := by rw [← HC.out]; unfold ckN; rw [hc]; rfl
      subst h1
      clear hc
      go_wp2
      go_ret
      exact ⟨rfl, BW5.out⟩
    | true =>
      have h1 : C = 0 := by rw [← HC.out]; unfold ckN; rw [hc]; rfl
      subst h1
      obtain ⟨q1, q2, q3⟩ := back_de hc
      have hn0 := (ckS_parts hc).1
      have hon := ones_le n.toNat
      have hps : ps.length ≤ 1099511627776 := by
        obtain ⟨_, d2, d3, _⟩ := ckS_parts hc
        omega
      rw [HE.out] at q1 q2 q3
      obtain ⟨t1, t2, t3⟩ := de_some q1
      rw [Int.toNat_of_nonneg hn0] at t1
      obtain ⟨r1, r2, r3⟩ := de_none q2
      rw [HEL.out] at q3
      have DE := keep (decode16_any a3 X c3 E W5 (by omega) (S3.out.below d3W5.out))
      rw [t1, t2, t3] at DE
      have DZ : Hid (∀ w' ao c, Src w' ao (X + 1) c (E ++ [0]) → Calls Tryd.prog 20 #[.slice ao (X + 1) c] w' (SpA w' 0 [] 2)) := fun w' ao c h => by
        have := decode16_any ao (X + 1) c (E ++ [0]) w' (by omega) h
        rwa [r1, r2, r3] at this
      have HPS := keep hps
      clear hc q1 q2 t1 t2 t3 r1 r2 r3 hn0 hon hps
      go_wp2_with fail
      refine DE.out.mono ?_
      rintro e x1 ⟨vy, rfl, hoy, hby⟩
      obtain ⟨ay, cy, rfl, hry⟩ := own_srcS hoy
      have RY := keep hry
      rw [HSL.out] at RY HPS ⊢
      have bx1 := keep hby
      clear hoy hby hry DE
      obtain ⟨x2, hx2⟩ : ∃ Wn, x1.alloc (.cells #[.int .i64 n, .slice ay pm cy] 26) = Wn := ⟨_, rfl⟩
      have GY : Hid (x2.heap[x1.heap.size]? = some (.cells #[.int .i64 n, .slice ay pm cy] 26)) := by rw [← hx2]; exact heap_alloc_new x1 _
      have b12 : Hid (Below x1.heap.size x1 x2) := by rw [← hx2]; exact (Below.refl _ _).alloc (Nat.le_refl _) _
      have dW2 := keep (bx1.out.trans (b12.out.mono bx1.out.size))
      have d32 := keep (d3W5.out.trans (dW2.out.mono d3W5.out.size))
      have O5 : Hid ((x2.alloc (.cells #[] 5)).ownsRow x2.heap.size 5 1 (.slice (some ⟨x2.heap.size, 0, none⟩) 0 0) 0 (bv [])) := own_emptyB (Nat.le_refl _)
      have b25 : Hid (Below x2.heap.size x2 (x2.alloc (.cells #[] 5))) := (Below.refl _ _).alloc (Nat.le_refl _) _
      have d35 := keep (d32.out.trans (b25.out.mono d32.out.size))
      have S5 := keep (S3.out.below d35.out)
      go_wp2_with (first
        | (at_builtin; refine wpList_append_src rfl _ _ 41 rfl x2.heap.size i0 _ Tryd.underlying41 hi hz0 hz1 hz2 rfl _ 0 [] rfl O5.out _ X c3 E rfl S5.out (by omega) b25.out.size ?_; intro v6 x6 ho6 hg6; rw [Nat.zero_add, List.nil_append] at ho6; have b26 := keep (b25.out.grown hg6 b25.out.size (fun j hj => (O5.out.lt j hj).1)); have O6 : Hid ((x6.alloc (.cells #[.int .u8 0] 5)).ownsRow x2.heap.size 5 1 v6 X (bv E)) := own_next ho6 ((Below.refl _ _).alloc (Nat.le_refl _) _); have S6 := keep (Src.builtI x6 0 0 rfl); have c26 := keep (b26.out.alloc b26.out.size (.cells #[.int .u8 0] 5)); clear ho6 hg6)
        | (at_builtin; refine wpList_append_src rfl _ _ 41 rfl x2.heap.size i0 _ Tryd.underlying41 hi hz0 hz1 hz2 rfl _ X E rfl O6.out _ 1 1 [0] rfl S6.out (by omega) c26.out.size ?_; intro v7 x7 ho7 hg7; have b27 := keep (c26.out.grown hg7 c26.out.size (fun j hj => (O6.out.lt j hj).1)); obtain ⟨a7, c7, rfl, hs7, _⟩ := Src.of_own ho7; have S7 := keep hs7; clear ho7 hg7 hs7))
      refine (DZ.out x7 a7 c7 S7.out).mono ?_
      rintro e x8 ⟨v8, rfl, ho8, hb8⟩
      obtain ⟨a8, c8, rfl⟩ := own_is ho8
      have b28 := keep (b27.out.trans (hb8.mono b27.out.size))
      clear ho8 hb8 DZ hx2
      obtain ⟨x9, hx9⟩ : ∃ Wn, x8.alloc (.cells #[.int .i64 0, .slice a8 0 c8] 26) = Wn := ⟨_, rfl⟩
      have b29 : Hid (Below x2.heap.size x2 x9) := by rw [← hx9]; exact b28.out.alloc b28.out.size _
      have d39 := keep (d32.out.trans (b29.out.mono d32.out.size))
      have dW9 := keep (dW2.out.trans (b29.out.mono dW2.out.size))
      have B9 := keep (BW5.out.trans (dW9.out.mono BW5.out.size))
      have y0 : x9.cell? ⟨x1.heap.size, 0, none⟩ = some (.int .i64 n) := below_cell b29.out (cell_of_row _ _ _ _ _ _ GY.out)
      have y1 : x9.cell? ⟨x1.heap.size, 1, none⟩ = some (.slice ay pm cy) := below_cell b29.out (cell_of_row _ _ _ _ _ _ GY.out)
      have k0 := below_cell dW9.out jW50
      have k1 := below_cell dW9.out jW51
      have b19 := keep (b12.out.trans (b29.out.mono b12.out.size))
      have SM : Hid (∀ w', Below x9.heap.size x9 w' → Calls Tryd.prog 14 #[.agg #[.int .i64 n, .slice ay pm cy], .agg #[.int .i64 n, .slice pp pm pc]] w' fun e w'' => e = .returned (.bool true) ∧ Below w'.heap.size w' w'') := fun w' hb => rsame16_yes n ay pm cy ps pp pc w' (RY.out.below strKind_ok (b19.out.trans (hb.mono b19.out.size))) (HS.out.below strKind_ok (B9.out.trans (hb.mono B9.out.size))) (by have := HPS.out; omega)
      go_wp2_with fail
      clear hx9
      refine wp_region_held_drew (S := fun w' => Below x9.heap.size x9 w') (by kernel_rfl) ((Below.refl x9.heap.size x9).drew) (fun hZ => ?_)
      refine takeH (i := 0) 64 (v := .bool true) rfl rfl (by kernel_rfl) (by kernel_rfl) (by kernel_rfl) (fun _ _ _ h => h) (Or.inl ⟨by rfl, ?_⟩) (by assumption) ?_
      · intro w' hSw'
        go_simp
      simp only [Act.put, List.setIfInBounds_toArray, List.set_cons_zero, List.set_cons_succ]
      refine takeH (i := 1) 65 (v := .bool true) rfl rfl (by kernel_rfl) (by kernel_rfl) (by kernel_rfl) (fun _ _ _ h => h) (Or.inl ⟨by rfl, ?_⟩) (by assumption) ?_
      · intro w' hSw'
        go_simp
      simp only [Act.put, List.setIfInBounds_toArray, List.set_cons_zero, List.set_cons_succ]
      refine takeH (i := 2) 66 (v := .int .i64 0) rfl rfl (by kernel_rfl) (by kernel_rfl) (by kernel_rfl) (fun _ _ _ h => h) (Or.inl ⟨by rfl, ?_⟩) (by assumption) ?_
      · intro w' hSw'
        go_simp
      simp only [Act.put, List.setIfInBounds_toArray, List.set_cons_zero, List.set_cons_succ]
      refine takeH (i := 3) 67 (v := .bool true) rfl rfl (by kernel_rfl) (by kernel_rfl) (by kernel_rfl) (fun _ _ _ h => h) (Or.inl ⟨by rfl, ?_⟩) (by assumption) ?_
      · intro w' hSw'
        go_simp
      simp only [Act.put, List.setIfInBounds_toArray, List.set_cons_zero, List.set_cons_succ]
      refine takeH (i := 4) 68 (v := .bool true) rfl rfl (by kernel_rfl) (by kernel_rfl) (by kernel_rfl) (fun _ _ _ h => h) (Or.inl ⟨by rfl, ?_⟩) (by assumption) ?_
      · intro w' hSw'
        go_simp
      simp only [Act.put, List.setIfInBounds_toArray, List.set_cons_zero, List.set_cons_succ]
      refine takeH (i := 5) 69 (v := .bool true) rfl rfl (by kernel_rfl) (by kernel_rfl) (by kernel_rfl) (fun _ _ _ h => h) (Or.inl ⟨by rfl, ?_⟩) (by assumption) ?_
      · intro w' hSw'
        go_simp
      simp only [Act.put, List.setIfInBounds_toArray, List.set_cons_zero, List.set_cons_succ]
      refine takeH (i := 6) 70 (v := .agg #[.int .i64 n, .slice ay pm cy]) rfl rfl (by kernel_rfl) (by kernel_rfl) (by kernel_rfl) (fun _ _ _ h => h) (Or.inl ⟨by rfl, ?_⟩) (by assumption) ?_
      · intro w' hSw'
        have z0 := below_cell hSw' y0
        have z1 := below_cell hSw' y1
        go_simp
      simp only [Act.put, List.setIfInBounds_toArray, List.set_cons_zero, List.set_cons_succ]
      refine takeH (i := 8) 72 (v := .agg #[.int .i64 n, .slice pp pm pc]) rfl rfl (by kernel_rfl) (by kernel_rfl) (by kernel_rfl) (fun _ _ _ h => h) (Or.inl ⟨by rfl, ?_⟩) (by assumption) ?_
      · intro w' hSw'
        have z0 := below_cell hSw' k0
        have z1 := below_cell hSw' k1
        go_simp
      simp only [Act.put, List.setIfInBounds_toArray, List.set_cons_zero, List.set_cons_succ]
      refine wpAnyH_ready (rs := [7]) (by kernel_rfl) (by simp) ?_
      refine AllReadyH.cons rfl (fun K hK => ?_) AllReadyH.nil
      go_simp
      refine (theirs_any n ay pm cy _).mono ?_
      rintro e wa ⟨rfl, hb⟩
      have bwa := keep ((Below.refl x9.heap.size x9).drew.trans (hb.mono (Below.refl x9.heap.size x9).drew.size))
      clear hb
      go_wp2_with fail
      refine hK.out _ _ (bwa.out) (fun hZ1 => ?_)
      clear hK K
      refine wpAnyH_ready (rs := [9]) (by kernel_rfl) (by simp) ?_
      refine AllReadyH.cons rfl (fun K hK => ?_) AllReadyH.nil
      go_simp
      refine (SM.out _ bwa.out).mono ?_
      rintro e wb ⟨rfl, hb⟩
      have bwb := keep (bwa.out.trans (hb.mono bwa.out.size))
      clear hb
      go_wp2_with fail
      refine hK.out _ _ (bwb.out) (fun hZ2 => ?_)
      clear hK K
      refine takeH (i := 10) 74 (v := .bool true) rfl rfl (by kernel_rfl) (by kernel_rfl) (by kernel_rfl) (fun _ _ _ h => h) (Or.inl ⟨by rfl, ?_⟩) (by assumption) ?_
      · intro w' hSw'
        go_simp
      simp only [Act.put, List.setIfInBounds_toArray, List.set_cons_zero, List.set_cons_succ]
      refine takeH (i := 11) 75 (v := .bool true) rfl rfl (by kernel_rfl) (by kernel_rfl) (by kernel_rfl) (fun _ _ _ h => h) (Or.inl ⟨by rfl, ?_⟩) (by assumption) ?_
      · intro w' hSw'
        go_simp
      simp only [Act.put, List.setIfInBounds_toArray, List.set_cons_zero, List.set_cons_succ]
      refine takeH (i := 12) 76 (v := .int .i64 2) rfl rfl (by kernel_rfl) (by kernel_rfl) (by kernel_rfl) (fun _ _ _ h => h) (Or.inl ⟨by rfl, ?_⟩) (by assumption) ?_
      · intro w' hSw'
        go_simp
      simp only [Act.put, List.setIfInBounds_toArray, List.set_cons_zero, List.set_cons_succ]
      refine takeH (i := 13) 77 (v := .bool true) rfl rfl (by kernel_rfl) (by kernel_rfl) (by kernel_rfl) (fun _ _ _ h => h) (Or.inl ⟨by rfl, ?_⟩) (by assumption) ?_
      · intro w' hSw'
        go_simp
      simp only [Act.put, List.setIfInBounds_toArray, List.set_cons_zero, List.set_cons_succ]
      refine takeH (i := 14) 78 (v := .bool true) rfl rfl (by kernel_rfl) (by kernel_rfl) (by kernel_rfl) (fun _ _ _ h => h) (Or.inl ⟨by rfl, ?_⟩) (by assumption) ?_
      · intro w' hSw'
        go_simp
      simp only [Act.put, List.setIfInBounds_toArray, List.set_cons_zero, List.set_cons_succ]
      refine takeH (i := 15) 4 (v := .bool true) rfl rfl (by kernel_rfl) (by kernel_rfl) (by kernel_rfl) (fun _ _ _ h => h) (Or.inl ⟨by rfl, ?_⟩) (by assumption) ?_
      · intro w' hSw'
        go_simp
      simp only [Act.put, List.setIfInBounds_toArray, List.set_cons_zero, List.set_cons_succ]
      refine wpAnyH_done (by kernel_rfl) ?_ _
      go_wp2
      go_ret
      exact ⟨rfl, B9.out.trans (bwb.out.mono B9.out.size)⟩
  | some x =>
    obtain ⟨N, qs⟩ := x
    obtain ⟨q1, q2, q3⟩ := de_some hd
    obtain ⟨u1, u2, u3⟩ := back_en hd
    rw [q1, q2, q3] at DB
    clear hd q1 q2 q3
    go_enter Tryd.func6, Tryd.ntmps6
    go_wp2_with fail
    refine AW.out.mono ?_
    rintro e w1 ⟨rfl, hb1⟩
    have B1 := keep (b1.out.trans (hb1.mono b1.out.size))
    have k0 : w1.cell? ⟨w.heap.size, 0, none⟩ = some (.int .i64 n) := below_cell hb1 (cell_of_row _ _ _ _ _ _ G1.out)
    have k1 : w1.cell? ⟨w.heap.size, 1, none⟩ = some (.slice pp pm pc) := below_cell hb1 (cell_of_row _ _ _ _ _ _ G1.out)
    clear hb1 AW hW1
    go_wp2_with fail
    refine (mine_any n pp pm pc w1).mono ?_
    rintro e w2 ⟨rfl, hb2⟩
    have B2 := keep (B1.out.trans (hb2.mono B1.out.size))
    have k20 := below_cell hb2 k0
    have k21 := below_cell hb2 k1
    clear hb2 k0 k1
    go_wp2_with fail
    refine (EN.out w2 B2.out).mono ?_
    rintro e w3 ⟨v3, rfl, ho3, hb3⟩
    obtain ⟨a3, c3, rfl, hs3, _⟩ := Src.of_own ho3
    have S3 := keep hs3
    rw [HEL.out] at S3 ⊢
    have B3 := keep (B2.out.trans (hb3.mono B2.out.size))
    have i0c := below_cell hb3 k20
    have i1c := below_cell hb3 k21
    clear ho3 hs3 hb3 EN k20 k21
    go_wp2_with fail
    refine (DB.out w3 B3.out).mono ?_
    rintro e w4 ⟨v4, rfl, ho4, hb4⟩
    obtain ⟨a4, c4, rfl, hr4⟩ := own_srcS ho4
    have R4 := keep hr4
    have b3w4 := keep hb4
    clear ho4 hr4 hb4 DB
    obtain ⟨W5, hW5⟩ : ∃ Wn, w4.alloc (.cells #[.int .i64 (N : Int), .slice a4 qs.length c4] 26) = Wn := ⟨_, rfl⟩
    have b45 : Hid (Below w4.heap.size w4 W5) := by rw [← hW5]; exact (Below.refl _ _).alloc (Nat.le_refl _) _
    have G5 : Hid (W5.heap[w4.heap.size]? = some (.cells #[.int .i64 (N : Int), .slice a4 qs.length c4] 26)) := by rw [← hW5]; exact heap_alloc_new w4 _
    have d35 := keep (b3w4.out.trans (b45.out.mono b3w4.out.size))
    have B5 := keep (B3.out.trans (d35.out.mono B3.out.size))
    have RX5 := keep (R4.out.below strKind_ok b45.out)
    have EX := keep (encode16_any (N : Int) a4 qs.length c4 qs W5 RX5.out (by omega))
    rw [u1, u2] at EX
    have e0 : W5.cell? ⟨w4.heap.size, 0, none⟩ = some (.int .i64 (N : Int)) := cell_of_row _ _ _ _ _ _ G5.out
    have e1 : W5.cell? ⟨w4.heap.size, 1, none⟩ = some (.slice a4 qs.length c4) := cell_of_row _ _ _ _ _ _ G5.out
    clear u1 u2 u3
    go_wp2_with fail
    refine EX.out.mono ?_
    rintro e w6 ⟨v6, rfl, ho6, hb6⟩
    obtain ⟨a6, c6, rfl, hs6, _⟩ := Src.of_own ho6
    have S6 := keep hs6
    have b56 := keep hb6
    have d36 := keep (d35.out.trans (b56.out.mono d35.out.size))
    have B6 := keep (B3.out.trans (d36.out.mono B3.out.size))
    clear ho6 hb6 hs6 EX hW5 e0 e1
    have SB := keep (same_any a6 lb.length c6 lb ab mb cb lb w6 S6.out (HB.out.below B6.out))
    rw [decide_eq_true rfl] at SB
    go_wp2_with fail
    refine SB.out.mono ?_
    rintro e w7 ⟨rfl, hb7⟩
    have d3w7 := keep (d36.out.trans (hb7.mono d36.out.size))
    have Bw7 := keep (B3.out.trans (d3w7.out.mono B3.out.size))
    have jw70 := below_cell d3w7.out i0c
    have jw71 := below_cell d3w7.out i1c
    clear hb7 SB i0c i1c
    cases hc : ckS n ps with
    | false =>
      have h1 : C = 1 := by rw [← HC.out]; unfold ckN; rw [hc]; rfl
      subst h1
      clear hc
      go_wp2
      go_ret
      exact ⟨rfl, Bw7.out⟩
    | true =>
      have h1 : C = 0 := by rw [← HC.out]; unfold ckN; rw [hc]; rfl
      subst h1
      obtain ⟨q1, q2, q3⟩ := back_de hc
      have hn0 := (ckS_parts hc).1
      have hon := ones_le n.toNat
      have hps : ps.length ≤ 1099511627776 := by
        obtain ⟨_, d2, d3, _⟩ := ckS_parts hc
        omega
      rw [HE.out] at q1 q2 q3
      obtain ⟨t1, t2, t3⟩ := de_some q1
      rw [Int.toNat_of_nonneg hn0] at t1
      obtain ⟨r1, r2, r3⟩ := de_none q2
      rw [HEL.out] at q3
      have DE := keep (decode16_any a3 X c3 E w7 (by omega) (S3.out.below d3w7.out))
      rw [t1, t2, t3] at DE
      have DZ : Hid (∀ w' ao c, Src w' ao (X + 1) c (E ++ [0]) → Calls Tryd.prog 20 #[.slice ao (X + 1) c] w' (SpA w' 0 [] 2)) := fun w' ao c h => by
        have := decode16_any ao (X + 1) c (E ++ [0]) w' (by omega) h
        rwa [r1, r2, r3] at this
      have HPS := keep hps
      clear hc q1 q2 t1 t2 t3 r1 r2 r3 hn0 hon hps
      go_wp2_with fail
      refine DE.out.mono ?_
      rintro e x1 ⟨vy, rfl, hoy, hby⟩
      obtain ⟨ay, cy, rfl, hry⟩ := own_srcS hoy
      have RY := keep hry
      rw [HSL.out] at RY HPS ⊢
      have bx1 := keep hby
      clear hoy hby hry DE
      obtain ⟨x2, hx2⟩ : ∃ Wn, x1.alloc (.cells #[.int .i64 n, .slice ay pm cy] 26) = Wn := ⟨_, rfl⟩
      have GY : Hid (x2.heap[x1.heap.size]? = some (.cells #[.int .i64 n, .slice ay pm cy] 26)) := by rw [← hx2]; exact heap_alloc_new x1 _
      have b12 : Hid (Below x1.heap.size x1 x2) := by rw [← hx2]; exact (Below.refl _ _).alloc (Nat.le_refl _) _
      have dW2 := keep (bx1.out.trans (b12.out.mono bx1.out.size))
      have d32 := keep (d3w7.out.trans (dW2.out.mono d3w7.out.size))
      have O5 : Hid ((x2.alloc (.cells #[] 5)).ownsRow x2.heap.size 5 1 (.slice (some ⟨x2.heap.size, 0, none⟩) 0 0) 0 (bv [])) := own_emptyB (Nat.le_refl _)
      have b25 : Hid (Below x2.heap.size x2 (x2.alloc (.cells #[] 5))) := (Below.refl _ _).alloc (Nat.le_refl _) _
      have d35 := keep (d32.out.trans (b25.out.mono d32.out.size))
      have S5 := keep (S3.out.below d35.out)
      go_wp2_with (first
        | (at_builtin; refine wpList_append_src rfl _ _ 41 rfl x2.heap.size i0 _ Tryd.underlying41 hi hz0 hz1 hz2 rfl _ 0 [] rfl O5.out _ X c3 E rfl S5.out (by omega) b25.out.size ?_; intro v6 x6 ho6 hg6; rw [Nat.zero_add, List.nil_append] at ho6; have b26 := keep (b25.out.grown hg6 b25.out.size (fun j hj => (O5.out.lt j hj).1)); have O6 : Hid ((x6.alloc (.cells #[.int .u8 0] 5)).ownsRow x2.heap.size 5 1 v6 X (bv E)) := own_next ho6 ((Below.refl _ _).alloc (Nat.le_refl _) _); have S6 := keep (Src.builtI x6 0 0 rfl); have c26 := keep (b26.out.alloc b26.out.size (.cells #[.int .u8 0] 5)); clear ho6 hg6)
        | (at_builtin; refine wpList_append_src rfl _ _ 41 rfl x2.heap.size i0 _ Tryd.underlying41 hi hz0 hz1 hz2 rfl _ X E rfl O6.out _ 1 1 [0] rfl S6.out (by omega) c26.out.size ?_; intro v7 x7 ho7 hg7; have b27 := keep (c26.out.grown hg7 c26.out.size (fun j hj => (O6.out.lt j hj).1)); obtain ⟨a7, c7, rfl, hs7, _⟩ := Src.of_own ho7; have S7 := keep hs7; clear ho7 hg7 hs7))
      refine (DZ.out x7 a7 c7 S7.out).mono ?_
      rintro e x8 ⟨v8, rfl, ho8, hb8⟩
      obtain ⟨a8, c8, rfl⟩ := own_is ho8
      have b28 := keep (b27.out.trans (hb8.mono b27.out.size))
      clear ho8 hb8 DZ hx2
      obtain ⟨x9, hx9⟩ : ∃ Wn, x8.alloc (.cells #[.int .i64 0, .slice a8 0 c8] 26) = Wn := ⟨_, rfl⟩
      have b29 : Hid (Below x2.heap.size x2 x9) := by rw [← hx9]; exact b28.out.alloc b28.out.size _
      have d39 := keep (d32.out.trans (b29.out.mono d32.out.size))
      have dW9 := keep (dW2.out.trans (b29.out.mono dW2.out.size))
      have B9 := keep (Bw7.out.trans (dW9.out.mono Bw7.out.size))
      have y0 : x9.cell? ⟨x1.heap.size, 0, none⟩ = some (.int .i64 n) := below_cell b29.out (cell_of_row _ _ _ _ _ _ GY.out)
      have y1 : x9.cell? ⟨x1.heap.size, 1, none⟩ = some (.slice ay pm cy) := below_cell b29.out (cell_of_row _ _ _ _ _ _ GY.out)
      have k0 := below_cell dW9.out jw70
      have k1 := below_cell dW9.out jw71
      have b19 := keep (b12.out.trans (b29.out.mono b12.out.size))
      have SM : Hid (∀ w', Below x9.heap.size x9 w' → Calls Tryd.prog 14 #[.agg #[.int .i64 n, .slice ay pm cy], .agg #[.int .i64 n, .slice pp pm pc]] w' fun e w'' => e = .returned (.bool true) ∧ Below w'.heap.size w' w'') := fun w' hb => rsame16_yes n ay pm cy ps pp pc w' (RY.out.below strKind_ok (b19.out.trans (hb.mono b19.out.size))) (HS.out.below strKind_ok (B9.out.trans (hb.mono B9.out.size))) (by have := HPS.out; omega)
      go_wp2_with fail
      clear hx9
      refine wp_region_held_drew (S := fun w' => Below x9.heap.size x9 w') (by kernel_rfl) ((Below.refl x9.heap.size x9).drew) (fun hZ => ?_)
      refine takeH (i := 0) 64 (v := .bool true) rfl rfl (by kernel_rfl) (by kernel_rfl) (by kernel_rfl) (fun _ _ _ h => h) (Or.inl ⟨by rfl, ?_⟩) (by assumption) ?_
      · intro w' hSw'
        go_simp
      simp only [Act.put, List.setIfInBounds_toArray, List.set_cons_zero, List.set_cons_succ]
      refine takeH (i := 1) 65 (v := .bool true) rfl rfl (by kernel_rfl) (by kernel_rfl) (by kernel_rfl) (fun _ _ _ h => h) (Or.inl ⟨by rfl, ?_⟩) (by assumption) ?_
      · intro w' hSw'
        go_simp
      simp only [Act.put, List.setIfInBounds_toArray, List.set_cons_zero, List.set_cons_succ]
      refine takeH (i := 2) 66 (v := .int .i64 0) rfl rfl (by kernel_rfl) (by kernel_rfl) (by kernel_rfl) (fun _ _ _ h => h) (Or.inl ⟨by rfl, ?_⟩) (by assumption) ?_
      · intro w' hSw'
        go_simp
      simp only [Act.put, List.setIfInBounds_toArray, List.set_cons_zero, List.set_cons_succ]
      refine takeH (i := 3) 67 (v := .bool true) rfl rfl (by kernel_rfl) (by kernel_rfl) (by kernel_rfl) (fun _ _ _ h => h) (Or.inl ⟨by rfl, ?_⟩) (by assumption) ?_
      · intro w' hSw'
        go_simp
      simp only [Act.put, List.setIfInBounds_toArray, List.set_cons_zero, List.set_cons_succ]
      refine takeH (i := 4) 68 (v := .bool true) rfl rfl (by kernel_rfl) (by kernel_rfl) (by kernel_rfl) (fun _ _ _ h => h) (Or.inl ⟨by rfl, ?_⟩) (by assumption) ?_
      · intro w' hSw'
        go_simp
      simp only [Act.put, List.setIfInBounds_toArray, List.set_cons_zero, List.set_cons_succ]
      refine takeH (i := 5) 69 (v := .bool true) rfl rfl (by kernel_rfl) (by kernel_rfl) (by kernel_rfl) (fun _ _ _ h => h) (Or.inl ⟨by rfl, ?_⟩) (by assumption) ?_
      · intro w' hSw'
        go_simp
      simp only [Act.put, List.setIfInBounds_toArray, List.set_cons_zero, List.set_cons_succ]
      refine takeH (i := 6) 70 (v := .agg #[.int .i64 n, .slice ay pm cy]) rfl rfl (by kernel_rfl) (by kernel_rfl) (by kernel_rfl) (fun _ _ _ h => h) (Or.inl ⟨by rfl, ?_⟩) (by assumption) ?_
      · intro w' hSw'
        have z0 := below_cell hSw' y0
        have z1 := below_cell hSw' y1
        go_simp
      simp only [Act.put, List.setIfInBounds_toArray, List.set_cons_zero, List.set_cons_succ]
      refine takeH (i := 8) 72 (v := .agg #[.int .i64 n, .slice pp pm pc]) rfl rfl (by kernel_rfl) (by kernel_rfl) (by kernel_rfl) (fun _ _ _ h => h) (Or.inl ⟨by rfl, ?_⟩) (by assumption) ?_
      · intro w' hSw'
        have z0 := below_cell hSw' k0
        have z1 := below_cell hSw' k1
        go_simp
      simp only [Act.put, List.setIfInBounds_toArray, List.set_cons_zero, List.set_cons_succ]
      refine wpAnyH_ready (rs := [7]) (by kernel_rfl) (by simp) ?_
      refine AllReadyH.cons rfl (fun K hK => ?_) AllReadyH.nil
      go_simp
      refine (theirs_any n ay pm cy _).mono ?_
      rintro e wa ⟨rfl, hb⟩
      have bwa := keep ((Below.refl x9.heap.size x9).drew.trans (hb.mono (Below.refl x9.heap.size x9).drew.size))
      clear hb
      go_wp2_with fail
      refine hK.out _ _ (bwa.out) (fun hZ1 => ?_)
      clear hK K
      refine wpAnyH_ready (rs := [9]) (by kernel_rfl) (by simp) ?_
      refine AllReadyH.cons rfl (fun K hK => ?_) AllReadyH.nil
      go_simp
      refine (SM.out _ bwa.out).mono ?_
      rintro e wb ⟨rfl, hb⟩
      have bwb := keep (bwa.out.trans (hb.mono bwa.out.size))
      clear hb
      go_wp2_with fail
      refine hK.out _ _ (bwb.out) (fun hZ2 => ?_)
      clear hK K
      refine takeH (i := 10) 74 (v := .bool true) rfl rfl (by kernel_rfl) (by kernel_rfl) (by kernel_rfl) (fun _ _ _ h => h) (Or.inl ⟨by rfl, ?_⟩) (by assumption) ?_
      · intro w' hSw'
        go_simp
      simp only [Act.put, List.setIfInBounds_toArray, List.set_cons_zero, List.set_cons_succ]
      refine takeH (i := 11) 75 (v := .bool true) rfl rfl (by kernel_rfl) (by kernel_rfl) (by kernel_rfl) (fun _ _ _ h => h) (Or.inl ⟨by rfl, ?_⟩) (by assumption) ?_
      · intro w' hSw'
        go_simp
      simp only [Act.put, List.setIfInBounds_toArray, List.set_cons_zero, List.set_cons_succ]
      refine takeH (i := 12) 76 (v := .int .i64 2) rfl rfl (by kernel_rfl) (by kernel_rfl) (by kernel_rfl) (fun _ _ _ h => h) (Or.inl ⟨by rfl, ?_⟩) (by assumption) ?_
      · intro w' hSw'
        go_simp
      simp only [Act.put, List.setIfInBounds_toArray, List.set_cons_zero, List.set_cons_succ]
      refine takeH (i := 13) 77 (v := .bool true) rfl rfl (by kernel_rfl) (by kernel_rfl) (by kernel_rfl) (fun _ _ _ h => h) (Or.inl ⟨by rfl, ?_⟩) (by assumption) ?_
      · intro w' hSw'
        go_simp
      simp only [Act.put, List.setIfInBounds_toArray, List.set_cons_zero, List.set_cons_succ]
      refine takeH (i := 14) 78 (v := .bool true) rfl rfl (by kernel_rfl) (by kernel_rfl) (by kernel_rfl) (fun _ _ _ h => h) (Or.inl ⟨by rfl, ?_⟩) (by assumption) ?_
      · intro w' hSw'
        go_simp
      simp only [Act.put, List.setIfInBounds_toArray, List.set_cons_zero, List.set_cons_succ]
      refine takeH (i := 15) 4 (v := .bool true) rfl rfl (by kernel_rfl) (by kernel_rfl) (by kernel_rfl) (fun _ _ _ h => h) (Or.inl ⟨by rfl, ?_⟩) (by assumption) ?_
      · intro w' hSw'
        go_simp
      simp only [Act.put, List.setIfInBounds_toArray, List.set_cons_zero, List.set_cons_succ]
      refine wpAnyH_done (by kernel_rfl) ?_ _
      go_wp2
      go_ret
      exact ⟨rfl, B9.out.trans (bwb.out.mono B9.out.size)⟩
end Go.Proofs.YtkepjjkiajkdmaaDoor
