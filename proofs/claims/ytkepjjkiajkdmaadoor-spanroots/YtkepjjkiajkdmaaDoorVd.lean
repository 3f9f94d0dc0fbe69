/- The walk of the program's Push. -/
import Derived.Test.YtkepjjkiajkdmaaDoorVc
import Derived.Test.YtkepjjkiajkdmaaDoorUx
namespace Go.Proofs.YtkepjjkiajkdmaaDoor
open Go.RowKit

theorem set_cell_far {w : World} {R i : Nat} {v : Value} : (w.setCell ⟨R + 1, i, none⟩ v).cell? ⟨R, 0, none⟩ = w.cell? ⟨R, 0, none⟩ := by
  have h : (w.setCell ⟨R + 1, i, none⟩ v).heap[R]? = w.heap[R]? := set_far i v (by omega)
  simp only [World.cell?, h]
set_option maxHeartbeats 4000000 in
set_option maxRecDepth 100000 in
theorem push16_any (n : Int) (pp : Option Addr) (pm pc : Nat) (ps : List (List UInt8)) (leaf : List UInt8) (w : World) (hL : Ld w) (hs : RSrc strKind w pp pm pc ps) (hm : pm ≤ 4611686018427387904) :
    Calls Tryd.prog 9 #[.agg #[.int .i64 n, .slice pp pm pc], .string ⟨leaf.toArray⟩] w (SpA w (pN n ps leaf) (pL n ps leaf) (pE n ps leaf)) := by
  obtain ⟨W1, hW1⟩ : ∃ Wn, w.alloc (.cells #[.int .i64 n, .slice pp pm pc] 26) = Wn := ⟨_, rfl⟩
  have b1 : Hid (Below w.heap.size w W1) := by rw [← hW1]; exact (Below.refl _ _).alloc (Nat.le_refl _) _
  have s1 : W1.heap.size = w.heap.size + 1 := by rw [← hW1, alloc_size]
  have g1 : W1.heap[w.heap.size]? = some (.cells #[.int .i64 n, .slice pp pm pc] 26) := by rw [← hW1]; exact heap_alloc_new w _
  obtain ⟨W2, hW2⟩ : ∃ Wn, W1.alloc (.cells #[.int .i64 0, .slice none 0 0] 26) = Wn := ⟨_, rfl⟩
  have b2 : Hid (Below W1.heap.size W1 W2) := by rw [← hW2]; exact (Below.refl _ _).alloc (Nat.le_refl _) _
  have s2 : Hid (W2.heap.size = w.heap.size + 2) := by show _ = _; rw [← hW2, alloc_size, s1]
  have G2 : Hid (W2.heap[w.heap.size]? = some (.cells #[.int .i64 n, .slice pp pm pc] 26) ∧ W2.heap[w.heap.size + 1]? = some (.cells #[.int .i64 0, .slice none 0 0] 26)) := ⟨(b2.out.block _ (by omega)).trans g1, by rw [← s1, ← hW2]; exact heap_alloc_new W1 _⟩
  have B2 := keep (b1.out.trans (b2.out.mono b1.out.size))
  have c0 : W2.cell? ⟨w.heap.size, 0, none⟩ = some (.int .i64 n) := cell_of_row _ _ _ _ _ _ G2.out.1
  have c1 : W2.cell? ⟨w.heap.size, 1, none⟩ = some (.slice pp pm pc) := cell_of_row _ _ _ _ _ _ G2.out.1
  have CK := keep (check16_any n pp pm pc ps W2 (hs.below strKind_ok B2.out) hm)
  have HLd := keep hL
  have HS := keep hs
  have HSL := keep hs.len
  clear hs hL g1
  have NONE : Hid (∀ w' er, Below W2.heap.size W2 w' → w'.heap[w.heap.size + 1]? = some (.cells #[.int .i64 0, .slice none 0 0] 26) ∧ Below w.heap.size w ((w'.setCell ⟨w.heap.size + 1, 0, none⟩ (.int .i64 0)).setCell ⟨w.heap.size + 1, 1, none⟩ (.slice none 0 0)) ∧ SpA w 0 [] er (.returned (.tuple #[.agg #[.int .i64 0, .slice none 0 0], .int .i64 er])) ((w'.setCell ⟨w.heap.size + 1, 0, none⟩ (.int .i64 0)).setCell ⟨w.heap.size + 1, 1, none⟩ (.slice none 0 0))) := fun w' er hb => by
    have h1 := ((B2.out.trans (hb.mono B2.out.size)).setCell (p := ⟨w.heap.size + 1, 0, none⟩) (Nat.le_succ _) (.int .i64 0)).setCell (p := ⟨w.heap.size + 1, 1, none⟩) (Nat.le_succ _) (.slice none 0 0)
    exact ⟨(hb.block _ (by rw [s2.out]; omega)).trans G2.out.2, h1, SpA.none h1⟩
  cases hc : ckS n ps with
  | false =>
    have h1 : ckN n ps = 1 := by unfold ckN; rw [hc]; rfl
    obtain ⟨q1, q2, q3⟩ := p_no (leaf := leaf) (show pOk n ps leaf = false by unfold pOk; rw [hc]; rfl)
    rw [h1] at CK
    rw [q1, q2, q3]
    clear hc h1 q1 q2 q3 HLd HS HSL
    go_enter Tryd.func9, Tryd.ntmps9
    go_wp2_with fail
    refine CK.out.mono ?_
    rintro e w3 ⟨rfl, hb3⟩
    have N3 := keep (NONE.out w3 1 hb3)
    clear hb3 CK hW1 hW2 c0 c1 s1 NONE
    have z0 : w3.cell? ⟨w.heap.size + 1, 0, none⟩ = some (.int .i64 0) := cell_of_row _ _ _ _ _ _ N3.out.1
    have z1 : w3.cell? ⟨w.heap.size + 1, 1, none⟩ = some (.slice none 0 0) := cell_of_row _ _ _ _ _ _ N3.out.1
    have f0 : w3.frozen? ⟨w.heap.size + 1, 0, none⟩ = false := by simp [World.frozen?, N3.out.1]
    have f1 : w3.frozen? ⟨w.heap.size + 1, 1, none⟩ = false := by simp [World.frozen?, N3.out.1]
    go_wp2
    have R6 := keep (set2 N3.out.1 (.int .i64 0) (.slice none 0 0))
    refine ⟨rfl, .tuple #[.agg #[.int .i64 0, .slice none 0 0], .int .i64 1], ?_, N3.out.2.2⟩
    have r0 : ((w3.setCell ⟨w.heap.size + 1, 0, none⟩ (.int .i64 0)).setCell ⟨w.heap.size + 1, 1, none⟩ (.slice none 0 0)).cell? ⟨w.heap.size + 1, 0, none⟩ = some (.int .i64 0) := cell_of_row _ _ _ _ _ _ R6.out
    have r1 : ((w3.setCell ⟨w.heap.size + 1, 0, none⟩ (.int .i64 0)).setCell ⟨w.heap.size + 1, 1, none⟩ (.slice none 0 0)).cell? ⟨w.heap.size + 1, 1, none⟩ = some (.slice none 0 0) := cell_of_row _ _ _ _ _ _ R6.out
    simp [results, Tryd.f9, go_sem, loadCells, loadCellsFrom, r0, r1]
  | true =>
    have h1 : ckN n ps = 0 := by unfold ckN; rw [hc]; rfl
    obtain ⟨d1, d2, d3, d4⟩ := ckS_parts hc
    rw [h1] at CK
    by_cases hmax : n = 1099511627776
    · subst hmax
      obtain ⟨q1, q2, q3⟩ := p_no (leaf := leaf) (show pOk 1099511627776 ps leaf = false by unfold pOk; rw [hc]; rfl)
      rw [q1, q2, q3]
      clear hc h1 q1 q2 q3 HLd HS HSL d1 d2 d3 d4
      go_enter Tryd.func9, Tryd.ntmps9
      go_wp2_with fail
      refine CK.out.mono ?_
      rintro e w3 ⟨rfl, hb3⟩
      have N3 := keep (NONE.out w3 1 hb3)
      have e0 := below_cell hb3 c0
      clear hb3 CK hW1 hW2 c0 c1 s1 NONE
      have z0 : w3.cell? ⟨w.heap.size + 1, 0, none⟩ = some (.int .i64 0) := cell_of_row _ _ _ _ _ _ N3.out.1
      have z1 : w3.cell? ⟨w.heap.size + 1, 1, none⟩ = some (.slice none 0 0) := cell_of_row _ _ _ _ _ _ N3.out.1
      have f0 : w3.frozen? ⟨w.heap.size + 1, 0, none⟩ = false := by simp [World.frozen?, N3.out.1]
      have f1 : w3.frozen? ⟨w.heap.size + 1, 1, none⟩ = false := by simp [World.frozen?, N3.out.1]
      go_wp2
      have R6 := keep (set2 N3.out.1 (.int .i64 0) (.slice none 0 0))
      refine ⟨rfl, .tuple #[.agg #[.int .i64 0, .slice none 0 0], .int .i64 1], ?_, N3.out.2.2⟩
      have r0 : ((w3.setCell ⟨w.heap.size + 1, 0, none⟩ (.int .i64 0)).setCell ⟨w.heap.size + 1, 1, none⟩ (.slice none 0 0)).cell? ⟨w.heap.size + 1, 0, none⟩ = some (.int .i64 0) := cell_of_row _ _ _ _ _ _ R6.out
      have r1 : ((w3.setCell ⟨w.heap.size + 1, 0, none⟩ (.int .i64 0)).setCell ⟨w.heap.size + 1, 1, none⟩ (.slice none 0 0)).cell? ⟨w.heap.size + 1, 1, none⟩ = some (.slice none 0 0) := cell_of_row _ _ _ _ _ _ R6.out
      simp [results, Tryd.f9, go_sem, loadCells, loadCellsFrom, r0, r1]
    · obtain ⟨N, rfl⟩ : ∃ N : Nat, n = (N : Int) := ⟨n.toNat, by omega⟩
      rw [Int.toNat_natCast, HSL.out] at d3
      have hne : ¬ (N : Int) = 1099511627776 := by omega
      have hne2 : ((N : Int) == 1099511627776) = false := by simp; omega
      have hle : (N : Int) < 1099511627776 := by omega
      by_cases h32 : leaf.length = 32
      · have IH : Hid (∀ w', Calls Tryd.prog 29 #[.string ⟨leaf.toArray⟩] w' fun e w'' => e = .returned (.bool false) ∧ w'' = w') := fun w' => by
          have := isNoHash_any leaf w'
          rwa [decide_eq_true h32, Bool.not_true] at this
        obtain ⟨q1, q2, q3⟩ := p_yes (leaf := leaf) (show pOk (N : Int) ps leaf = true by unfold pOk; rw [hc, decide_eq_false hne, decide_eq_true h32]; rfl)
        rw [Int.toNat_natCast] at q1
        rw [q1, q2, q3]
        have H32 := keep h32
        have D3 := keep d3
        have D4 := keep d4
        have hon := ones_le' N
        have hpm : pm ≤ 1099511627776 := by omega
        obtain ⟨T, hT⟩ : ∃ T, Mt.mrg nodeL N (ps ++ [leaf]) = T := ⟨_, rfl⟩
        have HT := keep hT
        rw [hT]
        have N0 : (0 : Int) ≤ (N : Int) := by omega
        clear hc h1 q1 q2 q3 d1 d2 d3 d4 h32 hT hmax hon
        go_enter Tryd.func9, Tryd.ntmps9
        go_wp2_with fail
        refine CK.out.mono ?_
        rintro e w2 ⟨rfl, hb2⟩
        have e0 := below_cell hb2 c0
        have e1 := below_cell hb2 c1
        have C2 := keep hb2
        clear hb2 CK hW1 hW2 c0 c1 s1 NONE
        go_wp2_with fail
        refine (IH.out w2).mono ?_
        rintro e w2' ⟨rfl, hw2⟩
        have hw2 := hw2.symm
        subst hw2
        have L2 : Hid (Below w.heap.size w w2) := B2.out.trans (C2.out.mono B2.out.size)
        obtain ⟨W3, hW3⟩ : ∃ Wn, (w2.alloc (.cells #[.string ⟨leaf.toArray⟩] 9)).alloc (.cells #[.slice pp pm pc, .slice (some ⟨w2.heap.size, 0, none⟩) 1 1] 22) = Wn := ⟨_, rfl⟩
        have bb3 : Hid (Below w2.heap.size w2 W3) := by rw [← hW3]; exact ((Below.refl _ _).alloc (Nat.le_refl _) _).alloc (by rw [alloc_size]; omega) _
        have rl3 : Hid (RSrc strKind W3 (some ⟨w2.heap.size, 0, none⟩) 1 1 [leaf]) := by rw [← hW3]; exact (one_text w2 leaf).below strKind_ok ((Below.refl _ _).alloc (Nat.le_refl _) _)
        have B3 : Hid (Below w.heap.size w W3) := L2.out.trans (bb3.out.mono L2.out.size)
        have s3 : Hid (w.heap.size + 2 ≤ W3.heap.size) := by
          have h1 := C2.out.size
          have h2 := bb3.out.size
          rw [s2.out] at h1
          exact Nat.le_trans h1 h2
        have G3 : Hid (W3.heap[w.heap.size]? = some (.cells #[.int .i64 (N : Int), .slice pp pm pc] 26) ∧ W3.heap[w.heap.size + 1]? = some (.cells #[.int .i64 0, .slice none 0 0] 26)) := by
          have h0 := C2.out.size
          have h1 := (C2.out.block _ (by rw [s2.out]; omega)).trans G2.out.1
          have h2 := (C2.out.block _ (by rw [s2.out]; omega)).trans G2.out.2
          rw [s2.out] at h0
          exact ⟨(bb3.out.block _ (by omega)).trans h1, (bb3.out.block _ (by omega)).trans h2⟩
        have SZ : Hid (W3.heap.size = w2.heap.size + 2) := by show _ = _; rw [← hW3, alloc_size, alloc_size]
        have KK : Hid (W3.cell? ⟨w2.heap.size + 1, 0, none⟩ = some (.slice pp pm pc) ∧ W3.cell? ⟨w2.heap.size + 1, 1, none⟩ = some (.slice (some ⟨w2.heap.size, 0, none⟩) 1 1)) := by
          have := heap_alloc_new (w2.alloc (.cells #[.string ⟨leaf.toArray⟩] 9)) (.cells #[.slice pp pm pc, .slice (some ⟨w2.heap.size, 0, none⟩) 1 1] 22)
          rw [hW3, alloc_size] at this
          exact ⟨cell_of_row _ _ _ _ _ _ this, cell_of_row _ _ _ _ _ _ this⟩
        have CC := keep (concatS_two (w2.heap.size + 1) pp pm pc ps (some ⟨w2.heap.size, 0, none⟩) 1 1 [leaf] W3 (by omega) (by omega) KK.out.1 KK.out.2 (HS.out.below strKind_ok B3.out) rl3.out)
        clear IH KK rl3
        go_wp2_with fail
        refine CC.out.mono ?_
        rintro e w4 ⟨v4, rfl, ho4, hb4⟩
        obtain ⟨g4, c4, rfl, hc4⟩ := own_form ho4 (by omega)
        have O4 := keep ho4
        have b4 := keep hb4
        have B4 : Hid (Below w.heap.size w w4) := B3.out.trans (b4.out.mono B3.out.size)
        have s0 : w4.cell? ⟨w.heap.size, 0, none⟩ = some (.int .i64 (N : Int)) := below_cell b4.out (cell_of_row _ _ _ _ _ _ G3.out.1)
        have JN := keep (joined_any W3 (HLd.out.below B3.out) g4 c4 (pm + 1) N (ps ++ [leaf]) T w4.drew (by rw [D3.out]) (by omega) hc4 ⟨own_next O4.out (Below.refl _ _).drew, b4.out.drew, fun e he => by
          rcases List.mem_append.1 he with he | he
          · rw [wholeL_mem D4.out e he]; decide
          · rw [List.mem_singleton.1 he, H32.out]; decide, HT.out, by rw [List.length_append, HSL.out]; rfl⟩)
        have N1 : (N : Int) ≤ 1099511627776 := by omega
        have nw : IntKind.i64.wrap ((N : Int) + 1) = (N : Int) + 1 := wrap_small _ (by omega) (by omega)
        clear ho4 hb4 CC hW3 e0 e1 G2 s2 C2 bb3 L2 SZ
        go_wp2_with fail
        refine wp_region_held_drew (S := fun w' => Below w.heap.size w w' ∧ w'.cell? ⟨w.heap.size, 0, none⟩ = some (.int .i64 (N : Int))) (by kernel_rfl) (⟨B4.out.drew, below_cell (Below.refl w4.heap.size w4).drew s0⟩) (fun hZ => ?_)
        refine takeH (i := 0) 26 (v := .pointer (some ⟨w.heap.size, 0, none⟩)) rfl rfl (by kernel_rfl) (by kernel_rfl) (by kernel_rfl) (fun _ _ _ h => h) (Or.inl ⟨by rfl, ?_⟩) (by assumption) ?_
        · intro w' hSw'
          go_simp
        simp only [Act.put, List.setIfInBounds_toArray, List.set_cons_zero, List.set_cons_succ]
        refine takeH (i := 1) 27 (v := .int .i64 (N : Int)) rfl rfl (by kernel_rfl) (by kernel_rfl) (by kernel_rfl) (fun _ _ _ h => h) (Or.inl ⟨by rfl, ?_⟩) (by assumption) ?_
        · intro w' hSw'
          have z0 := hSw'.2
          go_simp
        simp only [Act.put, List.setIfInBounds_toArray, List.set_cons_zero, List.set_cons_succ]
        refine takeH (i := 2) 28 (v := .int .i64 ((N : Int) + 1)) rfl rfl (by kernel_rfl) (by kernel_rfl) (by kernel_rfl) (fun _ _ _ h => h) (Or.inl ⟨by rfl, ?_⟩) (by assumption) ?_
        · intro w' hSw'
          go_simp
        simp only [Act.put, List.setIfInBounds_toArray, List.set_cons_zero, List.set_cons_succ]
        refine takeH (i := 3) 29 (v := .slice (some ⟨g4, 0, none⟩) (pm + 1) c4) rfl rfl (by kernel_rfl) (by kernel_rfl) (by kernel_rfl) (fun _ _ _ h => h) (Or.inl ⟨by rfl, ?_⟩) (by assumption) ?_
        · intro w' hSw'
          go_simp
        simp only [Act.put, List.setIfInBounds_toArray, List.set_cons_zero, List.set_cons_succ]
        refine takeH (i := 4) 30 (v := .pointer (some ⟨w.heap.size, 0, none⟩)) rfl rfl (by kernel_rfl) (by kernel_rfl) (by kernel_rfl) (fun _ _ _ h => h) (Or.inl ⟨by rfl, ?_⟩) (by assumption) ?_
        · intro w' hSw'
          go_simp
        simp only [Act.put, List.setIfInBounds_toArray, List.set_cons_zero, List.set_cons_succ]
        refine takeH (i := 5) 31 (v := .int .i64 (N : Int)) rfl rfl (by kernel_rfl) (by kernel_rfl) (by kernel_rfl) (fun _ _ _ h => h) (Or.inl ⟨by rfl, ?_⟩) (by assumption) ?_
        · intro w' hSw'
          have z0 := hSw'.2
          go_simp
        simp only [Act.put, List.setIfInBounds_toArray, List.set_cons_zero, List.set_cons_succ]
        refine wpAnyH_ready (rs := [6]) (by kernel_rfl) (by simp) ?_
        refine AllReadyH.cons rfl (fun K hK => ?_) AllReadyH.nil
        go_simp
        refine (JN.out).mono ?_
        rintro e w5 ⟨v5, rfl, ho5, hb5⟩
        obtain ⟨a5, c5, rfl⟩ := own_is ho5
        have O5 := keep ho5
        have b5 := keep hb5
        have B5 : Hid (Below w.heap.size w w5) := B3.out.trans (b5.out.mono B3.out.size)
        have G5 : Hid (w5.heap[w.heap.size]? = some (.cells #[.int .i64 (N : Int), .slice pp pm pc] 26) ∧ w5.heap[w.heap.size + 1]? = some (.cells #[.int .i64 0, .slice none 0 0] 26)) := ⟨(b5.out.block _ (by have := s3.out; omega)).trans G3.out.1, (b5.out.block _ (by have := s3.out; omega)).trans G3.out.2⟩
        clear ho5 hb5 JN
        have g50 : w5.cell? ⟨w.heap.size, 0, none⟩ = some (.int .i64 (N : Int)) := cell_of_row _ _ _ _ _ _ G5.out.1
        go_wp2_with fail
        refine hK.out _ _ (⟨B5.out, g50⟩) (fun hZ1 => ?_)
        clear hK K
        refine takeH (i := 7) 33 (v := .agg #[.int .i64 ((N : Int) + 1), .slice a5 T.length c5]) rfl rfl (by kernel_rfl) (by kernel_rfl) (by kernel_rfl) (fun _ _ _ h => h) (Or.inl ⟨by rfl, ?_⟩) (by assumption) ?_
        · intro w' hSw'
          go_simp
        simp only [Act.put, List.setIfInBounds_toArray, List.set_cons_zero, List.set_cons_succ]
        have z0 : w5.cell? ⟨w.heap.size + 1, 0, none⟩ = some (.int .i64 0) := cell_of_row _ _ _ _ _ _ G5.out.2
        have z1 : w5.cell? ⟨w.heap.size + 1, 1, none⟩ = some (.slice none 0 0) := cell_of_row _ _ _ _ _ _ G5.out.2
        have f0 : w5.frozen? ⟨w.heap.size + 1, 0, none⟩ = false := by simp [World.frozen?, G5.out.2]
        have f1 : w5.frozen? ⟨w.heap.size + 1, 1, none⟩ = false := by simp [World.frozen?, G5.out.2]
        refine wpAnyH_ready (rs := [8]) (by kernel_rfl) (by simp) ?_
        refine AllReadyH.cons rfl (fun K hK => ?_) AllReadyH.nil
        go_simp
        refine hK.out _ _ (⟨(B5.out.setCell (p := ⟨w.heap.size + 1, 0, none⟩) (Nat.le_succ _) _).setCell (p := ⟨w.heap.size + 1, 1, none⟩) (Nat.le_succ _) _, by rw [set_cell_far, set_cell_far]; exact g50⟩) (fun hZ2 => ?_)
        clear hK K
        refine takeH (i := 9) 5 (v := .int .i64 0) rfl rfl (by kernel_rfl) (by kernel_rfl) (by kernel_rfl) (fun _ _ _ h => h) (Or.inl ⟨by rfl, ?_⟩) (by assumption) ?_
        · intro w' hSw'
          go_simp
        simp only [Act.put, List.setIfInBounds_toArray, List.set_cons_zero, List.set_cons_succ]
        refine wpAnyH_done (by kernel_rfl) ?_ _
        go_wp2
        have R6 := keep (set2 G5.out.2 (.int .i64 ((N : Int) + 1)) (.slice a5 T.length c5))
        refine ⟨rfl, .tuple #[.agg #[.int .i64 ((N : Int) + 1), .slice a5 T.length c5], .int .i64 0], ?_, ?_⟩
        · have r0 : ((w5.setCell ⟨w.heap.size + 1, 0, none⟩ (.int .i64 ((N : Int) + 1))).setCell ⟨w.heap.size + 1, 1, none⟩ (.slice a5 T.length c5)).cell? ⟨w.heap.size + 1, 0, none⟩ = some (.int .i64 ((N : Int) + 1)) := cell_of_row _ _ _ _ _ _ R6.out
          have r1 : ((w5.setCell ⟨w.heap.size + 1, 0, none⟩ (.int .i64 ((N : Int) + 1))).setCell ⟨w.heap.size + 1, 1, none⟩ (.slice a5 T.length c5)).cell? ⟨w.heap.size + 1, 1, none⟩ = some (.slice a5 T.length c5) := cell_of_row _ _ _ _ _ _ R6.out
          simp [results, Tryd.f9, go_sem, loadCells, loadCellsFrom, r0, r1]
        · refine ⟨_, rfl, own_low (own_set (own_set O5.out (by have := s3.out; omega) _ _) (by have := s3.out; omega) _ _) B3.out.size, (B5.out.setCell (p := ⟨w.heap.size + 1, 0, none⟩) (Nat.le_succ _) _).setCell (p := ⟨w.heap.size + 1, 1, none⟩) (Nat.le_succ _) _⟩
      · have IH : Hid (∀ w', Calls Tryd.prog 29 #[.string ⟨leaf.toArray⟩] w' fun e w'' => e = .returned (.bool true) ∧ w'' = w') := fun w' => by
          have := isNoHash_any leaf w'
          rwa [decide_eq_false h32, Bool.not_false] at this
        obtain ⟨q1, q2, q3⟩ := p_no (leaf := leaf) (show pOk (N : Int) ps leaf = false by unfold pOk; rw [hc, decide_eq_false h32, Bool.and_false, Bool.and_false])
        rw [q1, q2, q3]
        clear hc h1 q1 q2 q3 HLd HS HSL d1 d2 d3 d4 h32 hmax
        go_enter Tryd.func9, Tryd.ntmps9
        go_wp2_with fail
        refine CK.out.mono ?_
        rintro e w3 ⟨rfl, hb3⟩
        have N3 := keep (NONE.out w3 1 hb3)
        have e0 := below_cell hb3 c0
        clear hb3 CK hW1 hW2 c0 c1 s1 NONE
        go_wp2_with fail
        refine (IH.out w3).mono ?_
        rintro e w3' ⟨rfl, hw3⟩
        have hw3 := hw3.symm
        subst hw3
        have z0 : w3.cell? ⟨w.heap.size + 1, 0, none⟩ = some (.int .i64 0) := cell_of_row _ _ _ _ _ _ N3.out.1
        have z1 : w3.cell? ⟨w.heap.size + 1, 1, none⟩ = some (.slice none 0 0) := cell_of_row _ _ _ _ _ _ N3.out.1
        have f0 : w3.frozen? ⟨w.heap.size + 1, 0, none⟩ = false := by simp [World.frozen?, N3.out.1]
        have f1 : w3.frozen? ⟨w.heap.size + 1, 1, none⟩ = false := by simp [World.frozen?, N3.out.1]
        go_wp2
        have R6 := keep (set2 N3.out.1 (.int .i64 0) (.slice none 0 0))
        refine ⟨rfl, .tuple #[.agg #[.int .i64 0, .slice none 0 0], .int .i64 1], ?_, N3.out.2.2⟩
        have r0 : ((w3.setCell ⟨w.heap.size + 1, 0, none⟩ (.int .i64 0)).setCell ⟨w.heap.size + 1, 1, none⟩ (.slice none 0 0)).cell? ⟨w.heap.size + 1, 0, none⟩ = some (.int .i64 0) := cell_of_row _ _ _ _ _ _ R6.out
        have r1 : ((w3.setCell ⟨w.heap.size + 1, 0, none⟩ (.int .i64 0)).setCell ⟨w.heap.size + 1, 1, none⟩ (.slice none 0 0)).cell? ⟨w.heap.size + 1, 1, none⟩ = some (.slice none 0 0) := cell_of_row _ _ _ _ _ _ R6.out
        simp [results, Tryd.f9, go_sem, loadCells, loadCellsFrom, r0, r1]
end Go.Proofs.YtkepjjkiajkdmaaDoor
