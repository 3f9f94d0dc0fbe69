/- The walk of SpanCodes. -/
import Derived.Test.YtkepjjkiajkdmaaDoorWc
import Derived.Test.YtkepjjkiajkdmaaDoorJoinUi
namespace Go.Proofs.YtkepjjkiajkdmaaDoor
open Go.RowKit

theorem deP_len (l : List UInt8) : (deP l).length ≤ 1099511627776 := by
  cases h : deS l with
  | none => rw [(de_none h).2.1]; exact Nat.zero_le _
  | some x =>
    obtain ⟨N, ps⟩ := x
    rw [(de_some h).2.1]
    exact (back_en h).2.2
set_option maxHeartbeats 8000000 in
set_option maxRecDepth 100000 in
theorem spanCodes_walk (n : Int) (pp : Option Addr) (pm pc : Nat) (ps : List (List UInt8)) (ab : Option Addr) (mb cb : Nat) (lb : List UInt8) (w : World) (hL : Ld w) (hs : RSrc strKind w pp pm pc ps) (hm : pm ≤ 4611686018427387904) (hsb : Src w ab mb cb lb) (hmb : mb ≤ 140737488355328) :
    Calls Tryd.prog 4 #[.agg #[.int .i64 n, .slice pp pm pc], .slice ab mb cb] w fun e w' => e = .returned (.bool true) ∧ Below w.heap.size w w' := by
  have HLd := keep hL
  have HS := keep hs
  have HB := keep hsb
  obtain ⟨W1, hW1⟩ : ∃ Wn, w.alloc (.cells #[.int .i64 n, .slice pp pm pc] 24) = Wn := ⟨_, rfl⟩
  have b1 : Hid (Below w.heap.size w W1) := by rw [← hW1]; exact (Below.refl _ _).alloc (Nat.le_refl _) _
  have G1 : Hid (W1.heap[w.heap.size]? = some (.cells #[.int .i64 n, .slice pp pm pc] 24)) := by rw [← hW1]; exact heap_alloc_new w _
  have AW := keep (awake16_any W1 (HLd.out.below b1.out))
  have EN : Hid (∀ w', Below w.heap.size w w' → Calls Tryd.prog 18 #[.agg #[.int .i64 n, .slice pp pm pc]] w' (EnA w' (enL n ps) (ckN n ps))) := fun w' hb => encode16_any n pp pm pc ps w' (HS.out.below strKind_ok hb) hm
  have REN : Hid (∀ w', Below w.heap.size w w' → Calls Tryd.prog 19 #[.agg #[.int .i64 n, .slice pp pm pc]] w' (EnA w' (enL n ps) (ckN n ps))) := fun w' hb => rencode16_any n pp pm pc ps w' (HS.out.below strKind_ok hb) hm
  have DB : Hid (∀ w', Below w.heap.size w w' → Calls Tryd.prog 20 #[.slice ab mb cb] w' (SpA w' (deN lb) (deP lb) (deE lb))) := fun w' hb => decode16_any ab mb cb lb w' hmb (HB.out.below hb)
  have RDB : Hid (∀ w', Below w.heap.size w w' → Calls Tryd.prog 21 #[.slice ab mb cb] w' (SpA w' (deN lb) (deP lb) (deE lb))) := fun w' hb => rdecode16_any ab mb cb lb w' hmb (HB.out.below hb)
  have PLL := keep (deP_len lb)
  obtain ⟨E, hE⟩ : ∃ E, enL n ps = E := ⟨_, rfl⟩
  obtain ⟨C, hC⟩ : ∃ C, ckN n ps = C := ⟨_, rfl⟩
  obtain ⟨X, hX⟩ : ∃ X, E.length = X := ⟨_, rfl⟩
  obtain ⟨Z, hZ⟩ : ∃ Z, deN lb = Z := ⟨_, rfl⟩
  obtain ⟨P, hP⟩ : ∃ P, deP lb = P := ⟨_, rfl⟩
  obtain ⟨G, hG⟩ : ∃ G, deE lb = G := ⟨_, rfl⟩
  obtain ⟨L, hL⟩ : ∃ L, P.length = L := ⟨_, rfl⟩
  have HX := keep hX
  have HL := keep hL
  rw [hE, hC] at EN REN
  rw [hZ, hP, hG] at DB RDB
  rw [hP, hL] at PLL
  clear hs hsb hE hC hX hm hZ hP hG hL hmb
  go_enter Tryd.func4, Tryd.ntmps4
  go_wp2_with fail
  refine AW.out.mono ?_
  rintro e w1 ⟨rfl, hb1⟩
  have B1 := keep (b1.out.trans (hb1.mono b1.out.size))
  have k0 : w1.cell? ⟨w.heap.size, 0, none⟩ = some (.int .i64 n) := below_cell hb1 (cell_of_row _ _ _ _ _ _ G1.out)
  have k1 : w1.cell? ⟨w.heap.size, 1, none⟩ = some (.slice pp pm pc) := below_cell hb1 (cell_of_row _ _ _ _ _ _ G1.out)
  clear hb1 AW hW1
  go_wp2_with fail
  refine (mine_any n pp pm pc w1).mono ?_
  rintro e w2 ⟨rfl, hb2⟩
  have B2 := keep (B1.out.trans (hb2.mono B1.out.size))
  have k20 := below_cell hb2 k0
  have k21 := below_cell hb2 k1
  clear hb2 k0 k1
  go_wp2_with fail
  refine (EN.out w2 B2.out).mono ?_
  rintro e w3 ⟨v3, rfl, ho3, hb3⟩
  obtain ⟨a3, c3, rfl, hs3, _⟩ := Src.of_own ho3
  have S3 := keep hs3
  rw [HX.out] at S3 ⊢
  have B3 := keep (B2.out.trans (hb3.mono B2.out.size))
  have k30 := below_cell hb3 k20
  have k31 := below_cell hb3 k21
  clear ho3 hs3 hb3 EN k20 k21
  go_wp2_with fail
  refine (REN.out w3 B3.out).mono ?_
  rintro e w4 ⟨v4, rfl, ho4, hb4⟩
  obtain ⟨a4, c4, rfl, hs4, _⟩ := Src.of_own ho4
  have S4 := keep hs4
  rw [HX.out] at S4 ⊢
  have b34 := keep hb4
  have B4 := keep (B3.out.trans (hb4.mono B3.out.size))
  clear ho4 hs4 hb4 REN k30 k31
  go_wp2_with fail
  refine (DB.out w4 B4.out).mono ?_
  rintro e w5 ⟨v5, rfl, ho5, hb5⟩
  obtain ⟨a5, c5, rfl, hr5⟩ := own_srcS ho5
  have R5 := keep hr5
  rw [HL.out] at R5 ⊢
  have b45 := keep hb5
  clear ho5 hr5 hb5 DB
  obtain ⟨W6, hW6⟩ : ∃ Wn, w5.alloc (.cells #[.int .i64 Z, .slice a5 L c5] 26) = Wn := ⟨_, rfl⟩
  have G6 : Hid (W6.heap[w5.heap.size]? = some (.cells #[.int .i64 Z, .slice a5 L c5] 26)) := by rw [← hW6]; exact heap_alloc_new w5 _
  have b56 : Hid (Below w5.heap.size w5 W6) := by rw [← hW6]; exact (Below.refl _ _).alloc (Nat.le_refl _) _
  have b46 := keep (b45.out.trans (b56.out.mono b45.out.size))
  have B6 := keep (B4.out.trans (b46.out.mono B4.out.size))
  go_wp2_with fail
  refine (RDB.out W6 B6.out).mono ?_
  rintro e w7 ⟨v7, rfl, ho7, hb7⟩
  obtain ⟨a7, c7, rfl, hr7⟩ := own_srcS ho7
  have R7 := keep hr7
  rw [HL.out] at R7 ⊢
  have b67 := keep hb7
  clear ho7 hr7 hb7 RDB hW6
  obtain ⟨w9, hw9⟩ : ∃ Wn, w7.alloc (.cells #[.int .i64 Z, .slice a7 L c7] 24) = Wn := ⟨_, rfl⟩
  have G9 : Hid (w9.heap[w7.heap.size]? = some (.cells #[.int .i64 Z, .slice a7 L c7] 24)) := by rw [← hw9]; exact heap_alloc_new w7 _
  have b79 : Hid (Below w7.heap.size w7 w9) := by rw [← hw9]; exact (Below.refl _ _).alloc (Nat.le_refl _) _
  have b69 := keep (b67.out.trans (b79.out.mono b67.out.size))
  have b59 := keep (b56.out.trans (b69.out.mono b56.out.size))
  have b49 := keep (b46.out.trans (b69.out.mono b46.out.size))
  have b39 := keep (b34.out.trans (b49.out.mono b34.out.size))
  have B9 := keep (B6.out.trans (b69.out.mono B6.out.size))
  have k50 : w9.cell? ⟨w5.heap.size, 0, none⟩ = some (.int .i64 Z) := below_cell b69.out (cell_of_row _ _ _ _ _ _ G6.out)
  have k51 : w9.cell? ⟨w5.heap.size, 1, none⟩ = some (.slice a5 L c5) := below_cell b69.out (cell_of_row _ _ _ _ _ _ G6.out)
  have k70 : w9.cell? ⟨w7.heap.size, 0, none⟩ = some (.int .i64 Z) := cell_of_row _ _ _ _ _ _ G9.out
  have k71 : w9.cell? ⟨w7.heap.size, 1, none⟩ = some (.slice a7 L c7) := cell_of_row _ _ _ _ _ _ G9.out
  have SB : Hid (∀ w', Below w9.heap.size w9 w' → Calls Tryd.prog 22 #[.slice a3 X c3, .slice a4 X c4] w' fun e w'' => e = .returned (.bool true) ∧ Below w'.heap.size w' w'') := fun w' hb => by
    have h := same_any a3 X c3 E a4 X c4 E w' (S3.out.below (b39.out.trans (hb.mono b39.out.size))) (S4.out.below (b49.out.trans (hb.mono b49.out.size)))
    rwa [decide_eq_true rfl] at h
  have SM : Hid (∀ w', Below w9.heap.size w9 w' → Calls Tryd.prog 14 #[.agg #[.int .i64 Z, .slice a5 L c5], .agg #[.int .i64 Z, .slice a7 L c7]] w' fun e w'' => e = .returned (.bool true) ∧ Below w'.heap.size w' w'') := fun w' hb => rsame16_yes Z a5 L c5 P a7 c7 w' (R5.out.below strKind_ok (b59.out.trans (hb.mono b59.out.size))) (R7.out.below strKind_ok (b79.out.trans (hb.mono b79.out.size))) (by have := PLL.out; omega)
  go_wp2_with fail
  clear hw9
  refine wp_region_held_drew (S := fun w' => Below w9.heap.size w9 w') (by kernel_rfl) ((Below.refl w9.heap.size w9).drew) (fun hZ => ?_)
  refine takeH (i := 0) 36 (v := .bool true) rfl rfl (by kernel_rfl) (by kernel_rfl) (by kernel_rfl) (fun _ _ _ h => h) (Or.inl ⟨by rfl, ?_⟩) (by assumption) ?_
  · intro w' hSw'
    go_simp
  simp only [Act.put, List.setIfInBounds_toArray, List.set_cons_zero, List.set_cons_succ]
  refine takeH (i := 1) 37 (v := .bool true) rfl rfl (by kernel_rfl) (by kernel_rfl) (by kernel_rfl) (fun _ _ _ h => h) (Or.inl ⟨by rfl, ?_⟩) (by assumption) ?_
  · intro w' hSw'
    go_simp
  simp only [Act.put, List.setIfInBounds_toArray, List.set_cons_zero, List.set_cons_succ]
  refine takeH (i := 2) 38 (v := .int .i64 C) rfl rfl (by kernel_rfl) (by kernel_rfl) (by kernel_rfl) (fun _ _ _ h => h) (Or.inl ⟨by rfl, ?_⟩) (by assumption) ?_
  · intro w' hSw'
    go_simp
  simp only [Act.put, List.setIfInBounds_toArray, List.set_cons_zero, List.set_cons_succ]
  refine takeH (i := 3) 39 (v := .int .i64 C) rfl rfl (by kernel_rfl) (by kernel_rfl) (by kernel_rfl) (fun _ _ _ h => h) (Or.inl ⟨by rfl, ?_⟩) (by assumption) ?_
  · intro w' hSw'
    go_simp
  simp only [Act.put, List.setIfInBounds_toArray, List.set_cons_zero, List.set_cons_succ]
  refine takeH (i := 4) 40 (v := .bool true) rfl rfl (by kernel_rfl) (by kernel_rfl) (by kernel_rfl) (fun _ _ _ h => h) (Or.inl ⟨by rfl, ?_⟩) (by assumption) ?_
  · intro w' hSw'
    go_simp
  simp only [Act.put, List.setIfInBounds_toArray, List.set_cons_zero, List.set_cons_succ]
  refine takeH (i := 5) 41 (v := .bool true) rfl rfl (by kernel_rfl) (by kernel_rfl) (by kernel_rfl) (fun _ _ _ h => h) (Or.inl ⟨by rfl, ?_⟩) (by assumption) ?_
  · intro w' hSw'
    go_simp
  simp only [Act.put, List.setIfInBounds_toArray, List.set_cons_zero, List.set_cons_succ]
  refine takeH (i := 6) 42 (v := .bool true) rfl rfl (by kernel_rfl) (by kernel_rfl) (by kernel_rfl) (fun _ _ _ h => h) (Or.inl ⟨by rfl, ?_⟩) (by assumption) ?_
  · intro w' hSw'
    go_simp
  simp only [Act.put, List.setIfInBounds_toArray, List.set_cons_zero, List.set_cons_succ]
  refine takeH (i := 7) 43 (v := .slice a3 X c3) rfl rfl (by kernel_rfl) (by kernel_rfl) (by kernel_rfl) (fun _ _ _ h => h) (Or.inl ⟨by rfl, ?_⟩) (by assumption) ?_
  · intro w' hSw'
    go_simp
  simp only [Act.put, List.setIfInBounds_toArray, List.set_cons_zero, List.set_cons_succ]
  refine takeH (i := 8) 44 (v := .slice a4 X c4) rfl rfl (by kernel_rfl) (by kernel_rfl) (by kernel_rfl) (fun _ _ _ h => h) (Or.inl ⟨by rfl, ?_⟩) (by assumption) ?_
  · intro w' hSw'
    go_simp
  simp only [Act.put, List.setIfInBounds_toArray, List.set_cons_zero, List.set_cons_succ]
  refine wpAnyH_ready (rs := [9]) (by kernel_rfl) (by simp) ?_
  refine AllReadyH.cons rfl (fun K hK => ?_) AllReadyH.nil
  go_simp
  refine (SB.out _ (Below.refl w9.heap.size w9).drew).mono ?_
  rintro e wa ⟨rfl, hb⟩
  have bwa := keep ((Below.refl w9.heap.size w9).drew.trans (hb.mono (Below.refl w9.heap.size w9).drew.size))
  clear hb
  go_wp2_with fail
  refine hK.out _ _ (bwa.out) (fun hZ1 => ?_)
  clear hK K
  refine takeH (i := 10) 46 (v := .bool true) rfl rfl (by kernel_rfl) (by kernel_rfl) (by kernel_rfl) (fun _ _ _ h => h) (Or.inl ⟨by rfl, ?_⟩) (by assumption) ?_
  · intro w' hSw'
    go_simp
  simp only [Act.put, List.setIfInBounds_toArray, List.set_cons_zero, List.set_cons_succ]
  refine takeH (i := 11) 47 (v := .bool true) rfl rfl (by kernel_rfl) (by kernel_rfl) (by kernel_rfl) (fun _ _ _ h => h) (Or.inl ⟨by rfl, ?_⟩) (by assumption) ?_
  · intro w' hSw'
    go_simp
  simp only [Act.put, List.setIfInBounds_toArray, List.set_cons_zero, List.set_cons_succ]
  refine takeH (i := 12) 48 (v := .int .i64 G) rfl rfl (by kernel_rfl) (by kernel_rfl) (by kernel_rfl) (fun _ _ _ h => h) (Or.inl ⟨by rfl, ?_⟩) (by assumption) ?_
  · intro w' hSw'
    go_simp
  simp only [Act.put, List.setIfInBounds_toArray, List.set_cons_zero, List.set_cons_succ]
  refine takeH (i := 13) 49 (v := .int .i64 G) rfl rfl (by kernel_rfl) (by kernel_rfl) (by kernel_rfl) (fun _ _ _ h => h) (Or.inl ⟨by rfl, ?_⟩) (by assumption) ?_
  · intro w' hSw'
    go_simp
  simp only [Act.put, List.setIfInBounds_toArray, List.set_cons_zero, List.set_cons_succ]
  refine takeH (i := 14) 50 (v := .bool true) rfl rfl (by kernel_rfl) (by kernel_rfl) (by kernel_rfl) (fun _ _ _ h => h) (Or.inl ⟨by rfl, ?_⟩) (by assumption) ?_
  · intro w' hSw'
    go_simp
  simp only [Act.put, List.setIfInBounds_toArray, List.set_cons_zero, List.set_cons_succ]
  refine takeH (i := 15) 51 (v := .bool true) rfl rfl (by kernel_rfl) (by kernel_rfl) (by kernel_rfl) (fun _ _ _ h => h) (Or.inl ⟨by rfl, ?_⟩) (by assumption) ?_
  · intro w' hSw'
    go_simp
  simp only [Act.put, List.setIfInBounds_toArray, List.set_cons_zero, List.set_cons_succ]
  refine takeH (i := 16) 52 (v := .bool true) rfl rfl (by kernel_rfl) (by kernel_rfl) (by kernel_rfl) (fun _ _ _ h => h) (Or.inl ⟨by rfl, ?_⟩) (by assumption) ?_
  · intro w' hSw'
    go_simp
  simp only [Act.put, List.setIfInBounds_toArray, List.set_cons_zero, List.set_cons_succ]
  refine takeH (i := 17) 53 (v := .agg #[.int .i64 Z, .slice a5 L c5]) rfl rfl (by kernel_rfl) (by kernel_rfl) (by kernel_rfl) (fun _ _ _ h => h) (Or.inl ⟨by rfl, ?_⟩) (by assumption) ?_
  · intro w' hSw'
    have z0 := below_cell hSw' k50
    have z1 := below_cell hSw' k51
    go_simp
  simp only [Act.put, List.setIfInBounds_toArray, List.set_cons_zero, List.set_cons_succ]
  refine takeH (i := 19) 55 (v := .agg #[.int .i64 Z, .slice a7 L c7]) rfl rfl (by kernel_rfl) (by kernel_rfl) (by kernel_rfl) (fun _ _ _ h => h) (Or.inl ⟨by rfl, ?_⟩) (by assumption) ?_
  · intro w' hSw'
    have z0 := below_cell hSw' k70
    have z1 := below_cell hSw' k71
    go_simp
  simp only [Act.put, List.setIfInBounds_toArray, List.set_cons_zero, List.set_cons_succ]
  refine wpAnyH_ready (rs := [18]) (by kernel_rfl) (by simp) ?_
  refine AllReadyH.cons rfl (fun K hK => ?_) AllReadyH.nil
  go_simp
  refine (theirs_any Z a5 L c5 _).mono ?_
  rintro e wb ⟨rfl, hb⟩
  have bwb := keep (bwa.out.trans (hb.mono bwa.out.size))
  clear hb
  go_wp2_with fail
  refine hK.out _ _ (bwb.out) (fun hZ2 => ?_)
  clear hK K
  refine wpAnyH_ready (rs := [20]) (by kernel_rfl) (by simp) ?_
  refine AllReadyH.cons rfl (fun K hK => ?_) AllReadyH.nil
  go_simp
  refine (SM.out _ bwb.out).mono ?_
  rintro e wc ⟨rfl, hb⟩
  have bwc := keep (bwb.out.trans (hb.mono bwb.out.size))
  clear hb
  go_wp2_with fail
  refine hK.out _ _ (bwc.out) (fun hZ3 => ?_)
  clear hK K
  refine takeH (i := 21) 57 (v := .bool true) rfl rfl (by kernel_rfl) (by kernel_rfl) (by kernel_rfl) (fun _ _ _ h => h) (Or.inl ⟨by rfl, ?_⟩) (by assumption) ?_
  · intro w' hSw'
    go_simp
  simp only [Act.put, List.setIfInBounds_toArray, List.set_cons_zero, List.set_cons_succ]
  refine takeH (i := 0x16) 4 (v := .bool true) rfl rfl (by kernel_rfl) (by kernel_rfl) (by kernel_rfl) (fun _ _ _ h => h) (Or.inl ⟨by rfl, ?_⟩) (by assumption) ?_
  · intro w' hSw'
    go_simp
  simp only [Act.put, List.setIfInBounds_toArray, List.set_cons_zero, List.set_cons_succ]
  refine wpAnyH_done (by kernel_rfl) ?_ _
  go_wp2
  go_ret
  exact ⟨rfl, B9.out.trans (bwc.out.mono B9.out.size)⟩
end Go.Proofs.YtkepjjkiajkdmaaDoor
