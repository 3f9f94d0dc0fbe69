/- The walk of the laws' awake. -/
import Derived.Test.YtelebhcaljepaabDoorPm
import Derived.Test.YtelebhcaljepaabDoorKw
import Derived.Lib.SlBytesConst
namespace Go.Proofs.YtelebhcaljepaabDoor
open Go.RowKit

theorem Src.builtF (w : World) (b : UInt8) : Src (w.alloc (.cells #[.int .u8 (b.toNat : Int)] 5 (1, 2))) (some ⟨w.heap.size, 0, none⟩) 1 1 [b] :=
  Src.mk_bytes rfl (Nat.le_refl _) (fun i hi => by
    obtain rfl : i = 0 := by omega
    rw [cell_of_row _ _ _ _ _ _ (heap_alloc_new w _)]
    rfl)
theorem conv_const (w : World) (C : Array Value) (n c : Nat) : (convert 24 24 (.slice (some ⟨w.heap.size, 0, none⟩) n c)).run Tryd.prog (w.alloc (.cells C 5)) = .ok (.slice (some ⟨w.heap.size, 0, none⟩) n c) (w.alloc (.cells C 5 (C.size, C.size + 1))) :=
  Lib.run_convert_bytes_const (P := Tryd.prog) w 24 5 C n c Tryd.underlying24 Tryd.underlying5
theorem three_texts (w : World) (a b c : List UInt8) : RSrc strKind (w.alloc (.cells #[.string ⟨a.toArray⟩, .string ⟨b.toArray⟩, .string ⟨c.toArray⟩] 9)) (some ⟨w.heap.size, 0, none⟩) 3 3 [a, b, c] := by
  have h : (w.alloc (.cells #[.string ⟨a.toArray⟩, .string ⟨b.toArray⟩, .string ⟨c.toArray⟩] 9)).ownsRow w.heap.size 9 1 (.slice (some ⟨w.heap.size, 0, none⟩) 3 3) 3 (rv strKind [a, b, c]) :=
    ⟨by simp [rv, strKind], .inr ⟨_, _, _, rfl, Nat.le_refl _, heap_alloc_new w _, Nat.le_refl _, by decide, by simp, by simp [rv, strKind]⟩⟩
  obtain ⟨ao, c, e, hr, _⟩ := RSrc.own strKind_ok h (fun _ _ => trivial)
  obtain ⟨e1, _, e3⟩ := Value.slice.inj e
  subst e1
  subst e3
  exact hr
set_option maxHeartbeats 8000000 in
set_option maxRecDepth 100000 in
theorem awake_core (A B C AB R : List UInt8) (hA : leafL [97] = A) (hB : leafL [98] = B) (hC : leafL [99] = C) (hAB : nodeL A B = AB) (hR : nodeL AB C = R) (hroot : rootL [A, B, C] = R) (hpath : pathL [A, B, C] 2 = [AB]) (hproof : proofL [A, B, C] 2 = [C])
    (hyes : checkP C 2 3 [AB] R = 0) (hgrows : checkF 2 3 [C] AB R = 0) (hno : checkP B 2 3 [AB] R = 9) (w : World) (hL : Ld w) :
    Calls Tryd.prog 7 #[] w fun e w' => e = .returned (.bool true) ∧ Below w.heap.size w w' := by
  have HLd := keep hL
  have lA : A.length = 32 := by rw [← hA]; exact leafL_len _
  have lB : B.length = 32 := by rw [← hB]; exact leafL_len _
  have lC : C.length = 32 := by rw [← hC]; exact leafL_len _
  have lAB : AB.length = 32 := by rw [← hAB]; exact nodeL_len _ _
  have RL : Hid (R.length = 32) := by rw [← hR]; exact nodeL_len _ _
  have short3 : Hid (∀ e ∈ [A, B, C], e.length ≤ 1099511627776) := fun e he => by
    simp only [List.mem_cons, List.not_mem_nil, or_false] at he
    rcases he with rfl | rfl | rfl <;> omega
  have LF : Hid (∀ (b : UInt8) (w' : World), Ld w' → Calls Tryd.prog 15 #[.slice (some ⟨w'.heap.size, 0, none⟩) 1 1] (w'.alloc (.cells #[.int .u8 (b.toNat : Int)] 5 (1, 2))) fun e w'' => e = .returned (.string ⟨(leafL [b]).toArray⟩) ∧ Below w'.heap.size w' w'') := fun b w' h => by
    refine (leaf_any _ 1 1 [b] _ (by decide) (h.below ((Below.refl _ _).alloc (Nat.le_refl _) _)) (Src.builtF w' b)).mono ?_
    rintro e w'' ⟨rfl, hb⟩
    exact ⟨rfl, ((Below.refl _ _).alloc (Nat.le_refl _) _).trans (hb.mono (le_alloc (Nat.le_refl _) _))⟩
  have L97 : Hid (∀ w', Ld w' → Calls Tryd.prog 15 #[.slice (some ⟨w'.heap.size, 0, none⟩) 1 1] (w'.alloc (.cells #[.int .u8 97] 5 (1, 2))) fun e w'' => e = .returned (.string ⟨(leafL [97]).toArray⟩) ∧ Below w'.heap.size w' w'') := fun w' h => LF.out 97 w' h
  have L98 : Hid (∀ w', Ld w' → Calls Tryd.prog 15 #[.slice (some ⟨w'.heap.size, 0, none⟩) 1 1] (w'.alloc (.cells #[.int .u8 98] 5 (1, 2))) fun e w'' => e = .returned (.string ⟨(leafL [98]).toArray⟩) ∧ Below w'.heap.size w' w'') := fun w' h => LF.out 98 w' h
  have L99 : Hid (∀ w', Ld w' → Calls Tryd.prog 15 #[.slice (some ⟨w'.heap.size, 0, none⟩) 1 1] (w'.alloc (.cells #[.int .u8 99] 5 (1, 2))) fun e w'' => e = .returned (.string ⟨(leafL [99]).toArray⟩) ∧ Below w'.heap.size w' w'') := fun w' h => LF.out 99 w' h
  rw [hA] at L97
  rw [hB] at L98
  rw [hC] at L99
  have NAB : Hid (∀ w', Ld w' → Calls Tryd.prog 12 #[.string ⟨A.toArray⟩, .string ⟨B.toArray⟩] w' fun e w'' => e = .returned (.string ⟨AB.toArray⟩) ∧ Below w'.heap.size w' w'') := fun w' h => by rw [← hAB]; exact node_any A B w' (by omega) h
  have NR : Hid (∀ w', Ld w' → Calls Tryd.prog 12 #[.string ⟨AB.toArray⟩, .string ⟨C.toArray⟩] w' fun e w'' => e = .returned (.string ⟨R.toArray⟩) ∧ Below w'.heap.size w' w'') := fun w' h => by rw [← hR]; exact node_any AB C w' (by omega) h
  have RT : Hid (∀ w' ao c, Ld w' → RSrc strKind w' ao 3 c [A, B, C] → Calls Tryd.prog 11 #[.slice ao 3 c] w' fun e w'' => e = .returned (.string ⟨R.toArray⟩) ∧ Below w'.heap.size w' w'') := fun w' ao c h hs => by rw [← hroot]; exact root_any 3 [A, B, C] rfl ao c w' h hs short3.out (by decide)
  have PA : Hid (∀ w' ao c, Ld w' → RSrc strKind w' ao 3 c [A, B, C] → Calls Tryd.prog 13 #[.slice ao 3 c, .int .i64 2] w' (RowA w' [AB])) := fun w' ao c h hs => by rw [← hpath]; exact path_any 3 [A, B, C] rfl 2 (by decide) ao c w' h hs short3.out (by decide)
  have PF : Hid (∀ w' ao c, Ld w' → RSrc strKind w' ao 3 c [A, B, C] → Calls Tryd.prog 14 #[.slice ao 3 c, .int .i64 2] w' (RowA w' [C])) := fun w' ao c h hs => by rw [← hproof]; exact proof_any 3 [A, B, C] rfl 2 (by decide) (by decide) ao c w' h hs short3.out (by decide)
  have CY : Hid (∀ w' ao c, Ld w' → RSrc strKind w' ao 1 c [AB] → Calls Tryd.prog 16 #[.string ⟨C.toArray⟩, .int .i64 2, .int .i64 3, .slice ao 1 c, .string ⟨R.toArray⟩] w' fun e w'' => e = .returned (.int .i64 0) ∧ Below w'.heap.size w' w'') := fun w' ao c h hs => by rw [← hyes]; exact checkPath_any C 2 3 ao 1 c [AB] R w' h hs (by decide)
  have CN : Hid (∀ w' ao c, Ld w' → RSrc strKind w' ao 1 c [AB] → Calls Tryd.prog 16 #[.string ⟨B.toArray⟩, .int .i64 2, .int .i64 3, .slice ao 1 c, .string ⟨R.toArray⟩] w' fun e w'' => e = .returned (.int .i64 9) ∧ Below w'.heap.size w' w'') := fun w' ao c h hs => by rw [← hno]; exact checkPath_any B 2 3 ao 1 c [AB] R w' h hs (by decide)
  have CF : Hid (∀ w' ao c, Ld w' → RSrc strKind w' ao 1 c [C] → Calls Tryd.prog 17 #[.int .i64 2, .int .i64 3, .slice ao 1 c, .string ⟨AB.toArray⟩, .string ⟨R.toArray⟩] w' fun e w'' => e = .returned (.int .i64 0) ∧ Below w'.heap.size w' w'') := fun w' ao c h hs => by rw [← hgrows]; exact checkProof_any 2 3 ao 1 c [C] AB R w' h hs (by decide)
  clear hL hA hB hC hAB hR hroot hpath hproof hyes hgrows hno lA lB lC lAB short3 LF
  have kc := conv_const
  go_enter Tryd.func7, Tryd.ntmps7
  go_wp2_with fail
  refine (L97.out w HLd.out).mono ?_
  rintro e w2 ⟨rfl, hb2⟩
  have B2 := keep hb2
  clear hb2 L97
  go_wp2_with fail
  refine (L98.out w2 (HLd.out.below B2.out)).mono ?_
  rintro e w4 ⟨rfl, hb4⟩
  have B4 := keep (B2.out.trans (hb4.mono B2.out.size))
  clear hb4 L98
  go_wp2_with fail
  refine (L99.out w4 (HLd.out.below B4.out)).mono ?_
  rintro e w6 ⟨rfl, hb6⟩
  have B6 := keep (B4.out.trans (hb6.mono B4.out.size))
  clear hb6 L99
  obtain ⟨W7, hW7⟩ : ∃ Wn, w6.alloc (.cells #[.string ⟨A.toArray⟩, .string ⟨B.toArray⟩, .string ⟨C.toArray⟩] 9) = Wn := ⟨_, rfl⟩
  have b7 : Hid (Below w6.heap.size w6 W7) := by rw [← hW7]; exact (Below.refl _ _).alloc (Nat.le_refl _) _
  have B7 := keep (B6.out.trans (b7.out.mono B6.out.size))
  have RS : Hid (RSrc strKind W7 (some ⟨w6.heap.size, 0, none⟩) 3 3 [A, B, C]) := by rw [← hW7]; exact three_texts w6 A B C
  have D0 : Hid (W7.cell? ⟨w6.heap.size, 0, none⟩ = some (.string ⟨A.toArray⟩)) := by rw [← hW7]; exact cell_of_row _ _ _ _ _ _ (heap_alloc_new w6 _)
  have D1 : Hid (W7.cell? ⟨w6.heap.size, 1, none⟩ = some (.string ⟨B.toArray⟩)) := by rw [← hW7]; exact cell_of_row _ _ _ _ _ _ (heap_alloc_new w6 _)
  have D2 : Hid (W7.cell? ⟨w6.heap.size, 2, none⟩ = some (.string ⟨C.toArray⟩)) := by rw [← hW7]; exact cell_of_row _ _ _ _ _ _ (heap_alloc_new w6 _)
  obtain ⟨g, hg⟩ : ∃ g, w6.heap.size = g := ⟨_, rfl⟩
  rw [hg] at RS D0 D1 D2
  go_wp2_with fail
  clear hW7 hg kc
  refine wp_region_held_drew (S := fun w' => Below W7.heap.size W7 w') (by kernel_rfl) ((Below.refl W7.heap.size W7).drew) (fun hZ => ?_)
  refine takeH (i := 0) 18 (v := .slice (some ⟨g, 0, none⟩) 3 3) rfl rfl (by kernel_rfl) (by kernel_rfl) (by kernel_rfl) (fun _ _ _ h => h) (Or.inl ⟨by rfl, ?_⟩) (by assumption) ?_
  · intro w' hSw'
    go_simp
  simp only [Act.put, List.setIfInBounds_toArray, List.set_cons_zero, List.set_cons_succ]
  refine takeH (i := 1) 19 (v := .pointer (some ⟨g, 0, none⟩)) rfl rfl (by kernel_rfl) (by kernel_rfl) (by kernel_rfl) (fun _ _ _ h => h) (Or.inl ⟨by rfl, ?_⟩) (by assumption) ?_
  · intro w' hSw'
    go_simp
  simp only [Act.put, List.setIfInBounds_toArray, List.set_cons_zero, List.set_cons_succ]
  refine takeH (i := 2) 20 (v := .string ⟨A.toArray⟩) rfl rfl (by kernel_rfl) (by kernel_rfl) (by kernel_rfl) (fun _ _ _ h => h) (Or.inl ⟨by rfl, ?_⟩) (by assumption) ?_
  · intro w' hSw'
    have z0 := below_cell hSw' D0.out
    go_simp
  simp only [Act.put, List.setIfInBounds_toArray, List.set_cons_zero, List.set_cons_succ]
  refine takeH (i := 3) 21 (v := .slice (some ⟨g, 0, none⟩) 3 3) rfl rfl (by kernel_rfl) (by kernel_rfl) (by kernel_rfl) (fun _ _ _ h => h) (Or.inl ⟨by rfl, ?_⟩) (by assumption) ?_
  · intro w' hSw'
    go_simp
  simp only [Act.put, List.setIfInBounds_toArray, List.set_cons_zero, List.set_cons_succ]
  refine takeH (i := 4) 0x16 (v := .pointer (some ⟨g, 1, none⟩)) rfl rfl (by kernel_rfl) (by kernel_rfl) (by kernel_rfl) (fun _ _ _ h => h) (Or.inl ⟨by rfl, ?_⟩) (by assumption) ?_
  · intro w' hSw'
    go_simp
  simp only [Act.put, List.setIfInBounds_toArray, List.set_cons_zero, List.set_cons_succ]
  refine takeH (i := 5) 23 (v := .string ⟨B.toArray⟩) rfl rfl (by kernel_rfl) (by kernel_rfl) (by kernel_rfl) (fun _ _ _ h => h) (Or.inl ⟨by rfl, ?_⟩) (by assumption) ?_
  · intro w' hSw'
    have z0 := below_cell hSw' D1.out
    go_simp
  simp only [Act.put, List.setIfInBounds_toArray, List.set_cons_zero, List.set_cons_succ]
  refine wpAnyH_ready (rs := [6]) (by kernel_rfl) (by simp) ?_
  refine AllReadyH.cons rfl (fun K hK => ?_) AllReadyH.nil
  go_simp
  refine (NAB.out _ (HLd.out.below (B7.out.trans ((Below.refl W7.heap.size W7).drew.mono B7.out.size)))).mono ?_
  rintro e w8 ⟨rfl, hb8⟩
  have b8 : Hid (Below W7.heap.size W7 w8) := (Below.refl W7.heap.size W7).drew.trans (hb8.mono (Nat.le_refl _))
  clear hb8
  go_wp2_with fail
  refine hK.out _ _ (b8.out) (fun hZ1 => ?_)
  clear hK K
  refine takeH (i := 7) 2 (v := .string ⟨AB.toArray⟩) rfl rfl (by kernel_rfl) (by kernel_rfl) (by kernel_rfl) (fun _ _ _ h => h) (Or.inl ⟨by rfl, ?_⟩) (by assumption) ?_
  · intro w' hSw'
    go_simp
  simp only [Act.put, List.setIfInBounds_toArray, List.set_cons_zero, List.set_cons_succ]
  refine wpAnyH_done (by kernel_rfl) ?_ _
  have B8 := keep (B7.out.trans (b8.out.mono B7.out.size))
  have RS8 := keep (RS.out.below strKind_ok b8.out)
  go_wp2_with fail
  refine (RT.out w8 _ 3 (HLd.out.below B8.out) RS8.out).mono ?_
  rintro e w9 ⟨rfl, hb9⟩
  have b9 := keep (b8.out.trans (hb9.mono b8.out.size))
  clear hb9
  have B9 := keep (B7.out.trans (b9.out.mono B7.out.size))
  have RS9 := keep (RS.out.below strKind_ok b9.out)
  go_wp2_with fail
  refine (PA.out w9 _ 3 (HLd.out.below B9.out) RS9.out).mono ?_
  rintro e wa ⟨va, rfl, hoa, hba⟩
  have ba := keep (b9.out.trans (hba.mono b9.out.size))
  obtain ⟨pp, pc, rfl, hpa, _⟩ := RSrc.own strKind_ok hoa (fun _ _ => trivial)
  have RPa := keep hpa
  obtain ⟨pb, poff, hpb, _, hpc⟩ := strs_at hpa (by simp)
  subst hpb
  have P0 := keep (hpc 0 AB rfl)
  rw [Nat.add_zero] at P0
  clear hoa hba hpa hpc
  have Ba := keep (B7.out.trans (ba.out.mono B7.out.size))
  have RSa := keep (RS.out.below strKind_ok ba.out)
  go_wp2_with fail
  refine (PF.out wa _ 3 (HLd.out.below Ba.out) RSa.out).mono ?_
  rintro e wb ⟨vb, rfl, hob, hbb⟩
  have bb := keep (ba.out.trans (hbb.mono ba.out.size))
  have P1 := keep (below_cell hbb P0.out)
  have RPb := keep (RPa.out.below strKind_ok hbb)
  obtain ⟨qp, qc, rfl, hqa, _⟩ := RSrc.own strKind_ok hob (fun _ _ => trivial)
  have RQ := keep hqa
  obtain ⟨qb, qoff, hqb, _, hqcell⟩ := strs_at hqa (by simp)
  subst hqb
  have Q0 := keep (hqcell 0 C rfl)
  rw [Nat.add_zero] at Q0
  clear hob hbb hqa hqcell P0 RPa RT PA PF NAB RS8 RS9 RSa
  have Bb := keep (B7.out.trans (bb.out.mono B7.out.size))
  have E1 := keep (below_cell bb.out D1.out)
  have E2 := keep (below_cell bb.out D2.out)
  have LDB : Hid (∀ w', Below wb.heap.size wb w' → Ld w') := fun w' hb => HLd.out.below (Bb.out.trans (hb.mono Bb.out.size))
  clear D0 D1 D2 RS
  go_wp2_with fail
  refine wp_region_held_drew (S := fun w' => Below wb.heap.size wb w') (by kernel_rfl) ((Below.refl wb.heap.size wb).drew) (fun hY => ?_)
  refine takeH (i := 0) 37 (v := .string ⟨R.toArray⟩) rfl rfl (by kernel_rfl) (by kernel_rfl) (by kernel_rfl) (fun _ _ _ h => h) (Or.inl ⟨by rfl, ?_⟩) (by assumption) ?_
  · intro w' hSw'
    go_simp
  simp only [Act.put, List.setIfInBounds_toArray, List.set_cons_zero, List.set_cons_succ]
  refine takeH (i := 1) 38 (v := .string ⟨AB.toArray⟩) rfl rfl (by kernel_rfl) (by kernel_rfl) (by kernel_rfl) (fun _ _ _ h => h) (Or.inl ⟨by rfl, ?_⟩) (by assumption) ?_
  · intro w' hSw'
    go_simp
  simp only [Act.put, List.setIfInBounds_toArray, List.set_cons_zero, List.set_cons_succ]
  refine takeH (i := 2) 39 (v := .slice (some ⟨g, 0, none⟩) 3 3) rfl rfl (by kernel_rfl) (by kernel_rfl) (by kernel_rfl) (fun _ _ _ h => h) (Or.inl ⟨by rfl, ?_⟩) (by assumption) ?_
  · intro w' hSw'
    go_simp
  simp only [Act.put, List.setIfInBounds_toArray, List.set_cons_zero, List.set_cons_succ]
  refine takeH (i := 3) 40 (v := .pointer (some ⟨g, 2, none⟩)) rfl rfl (by kernel_rfl) (by kernel_rfl) (by kernel_rfl) (fun _ _ _ h => h) (Or.inl ⟨by rfl, ?_⟩) (by assumption) ?_
  · intro w' hSw'
    go_simp
  simp only [Act.put, List.setIfInBounds_toArray, List.set_cons_zero, List.set_cons_succ]
  refine takeH (i := 4) 41 (v := .string ⟨C.toArray⟩) rfl rfl (by kernel_rfl) (by kernel_rfl) (by kernel_rfl) (fun _ _ _ h => h) (Or.inl ⟨by rfl, ?_⟩) (by assumption) ?_
  · intro w' hSw'
    have z0 := below_cell hSw' E2.out
    go_simp
  simp only [Act.put, List.setIfInBounds_toArray, List.set_cons_zero, List.set_cons_succ]
  refine wpAnyH_ready (rs := [5]) (by kernel_rfl) (by simp) ?_
  refine AllReadyH.cons rfl (fun K hK => ?_) AllReadyH.nil
  go_simp
  refine (NR.out _ (LDB.out _ (Below.refl wb.heap.size wb).drew)).mono ?_
  rintro e wc ⟨rfl, hbc⟩
  have bc : Hid (Below wb.heap.size wb wc) := (Below.refl wb.heap.size wb).drew.trans (hbc.mono (Below.refl wb.heap.size wb).drew.size)
  clear hbc
  go_wp2_with fail
  refine hK.out _ _ (bc.out) (fun hY1 => ?_)
  clear hK K
  refine takeH (i := 6) 43 (v := .bool true) rfl rfl (by kernel_rfl) (by kernel_rfl) (by kernel_rfl) (fun _ _ _ h => h) (Or.inl ⟨by rfl, ?_⟩) (by assumption) ?_
  · intro w' hSw'
    go_simp
  simp only [Act.put, List.setIfInBounds_toArray, List.set_cons_zero, List.set_cons_succ]
  refine takeH (i := 7) 44 (v := .bool true) rfl rfl (by kernel_rfl) (by kernel_rfl) (by kernel_rfl) (fun _ _ _ h => h) (Or.inl ⟨by rfl, ?_⟩) (by assumption) ?_
  · intro w' hSw'
    go_simp
  simp only [Act.put, List.setIfInBounds_toArray, List.set_cons_zero, List.set_cons_succ]
  refine takeH (i := 8) 45 (v := .string ⟨R.toArray⟩) rfl rfl (by kernel_rfl) (by kernel_rfl) (by kernel_rfl) (fun _ _ _ h => h) (Or.inl ⟨by rfl, ?_⟩) (by assumption) ?_
  · intro w' hSw'
    go_simp
  simp only [Act.put, List.setIfInBounds_toArray, List.set_cons_zero, List.set_cons_succ]
  refine takeH (i := 9) 46 (v := .int .i64 32) rfl rfl (by kernel_rfl) (by kernel_rfl) (by kernel_rfl) (fun _ _ _ h => h) (Or.inl ⟨by rfl, ?_⟩) (by assumption) ?_
  · intro w' hSw'
    have q1 := RL.out
    go_simp
  simp only [Act.put, List.setIfInBounds_toArray, List.set_cons_zero, List.set_cons_succ]
  refine takeH (i := 10) 47 (v := .bool true) rfl rfl (by kernel_rfl) (by kernel_rfl) (by kernel_rfl) (fun _ _ _ h => h) (Or.inl ⟨by rfl, ?_⟩) (by assumption) ?_
  · intro w' hSw'
    go_simp
  simp only [Act.put, List.setIfInBounds_toArray, List.set_cons_zero, List.set_cons_succ]
  refine takeH (i := 11) 48 (v := .bool true) rfl rfl (by kernel_rfl) (by kernel_rfl) (by kernel_rfl) (fun _ _ _ h => h) (Or.inl ⟨by rfl, ?_⟩) (by assumption) ?_
  · intro w' hSw'
    go_simp
  simp only [Act.put, List.setIfInBounds_toArray, List.set_cons_zero, List.set_cons_succ]
  refine takeH (i := 12) 49 (v := .bool true) rfl rfl (by kernel_rfl) (by kernel_rfl) (by kernel_rfl) (fun _ _ _ h => h) (Or.inl ⟨by rfl, ?_⟩) (by assumption) ?_
  · intro w' hSw'
    go_simp
  simp only [Act.put, List.setIfInBounds_toArray, List.set_cons_zero, List.set_cons_succ]
  refine takeH (i := 13) 50 (v := .int .i64 0) rfl rfl (by kernel_rfl) (by kernel_rfl) (by kernel_rfl) (fun _ _ _ h => h) (Or.inl ⟨by rfl, ?_⟩) (by assumption) ?_
  · intro w' hSw'
    go_simp
  simp only [Act.put, List.setIfInBounds_toArray, List.set_cons_zero, List.set_cons_succ]
  refine takeH (i := 14) 51 (v := .bool true) rfl rfl (by kernel_rfl) (by kernel_rfl) (by kernel_rfl) (fun _ _ _ h => h) (Or.inl ⟨by rfl, ?_⟩) (by assumption) ?_
  · intro w' hSw'
    go_simp
  simp only [Act.put, List.setIfInBounds_toArray, List.set_cons_zero, List.set_cons_succ]
  refine takeH (i := 15) 52 (v := .bool true) rfl rfl (by kernel_rfl) (by kernel_rfl) (by kernel_rfl) (fun _ _ _ h => h) (Or.inl ⟨by rfl, ?_⟩) (by assumption) ?_
  · intro w' hSw'
    go_simp
  simp only [Act.put, List.setIfInBounds_toArray, List.set_cons_zero, List.set_cons_succ]
  refine takeH (i := 16) 53 (v := .bool true) rfl rfl (by kernel_rfl) (by kernel_rfl) (by kernel_rfl) (fun _ _ _ h => h) (Or.inl ⟨by rfl, ?_⟩) (by assumption) ?_
  · intro w' hSw'
    go_simp
  simp only [Act.put, List.setIfInBounds_toArray, List.set_cons_zero, List.set_cons_succ]
  refine takeH (i := 17) 54 (v := .slice (some ⟨pb, poff, none⟩) 1 pc) rfl rfl (by kernel_rfl) (by kernel_rfl) (by kernel_rfl) (fun _ _ _ h => h) (Or.inl ⟨by rfl, ?_⟩) (by assumption) ?_
  · intro w' hSw'
    go_simp
  simp only [Act.put, List.setIfInBounds_toArray, List.set_cons_zero, List.set_cons_succ]
  refine takeH (i := 18) 55 (v := .int .i64 1) rfl rfl (by kernel_rfl) (by kernel_rfl) (by kernel_rfl) (fun _ _ _ h => h) (Or.inl ⟨by rfl, ?_⟩) (by assumption) ?_
  · intro w' hSw'
    go_simp
  simp only [Act.put, List.setIfInBounds_toArray, List.set_cons_zero, List.set_cons_succ]
  refine takeH (i := 19) 56 (v := .bool true) rfl rfl (by kernel_rfl) (by kernel_rfl) (by kernel_rfl) (fun _ _ _ h => h) (Or.inl ⟨by rfl, ?_⟩) (by assumption) ?_
  · intro w' hSw'
    go_simp
  simp only [Act.put, List.setIfInBounds_toArray, List.set_cons_zero, List.set_cons_succ]
  refine takeH (i := 20) 57 (v := .bool true) rfl rfl (by kernel_rfl) (by kernel_rfl) (by kernel_rfl) (fun _ _ _ h => h) (Or.inl ⟨by rfl, ?_⟩) (by assumption) ?_
  · intro w' hSw'
    go_simp
  simp only [Act.put, List.setIfInBounds_toArray, List.set_cons_zero, List.set_cons_succ]
  refine takeH (i := 21) 58 (v := .bool true) rfl rfl (by kernel_rfl) (by kernel_rfl) (by kernel_rfl) (fun _ _ _ h => h) (Or.inl ⟨by rfl, ?_⟩) (by assumption) ?_
  · intro w' hSw'
    go_simp
  simp only [Act.put, List.setIfInBounds_toArray, List.set_cons_zero, List.set_cons_succ]
  refine takeH (i := 0x16) 59 (v := .slice (some ⟨pb, poff, none⟩) 1 pc) rfl rfl (by kernel_rfl) (by kernel_rfl) (by kernel_rfl) (fun _ _ _ h => h) (Or.inl ⟨by rfl, ?_⟩) (by assumption) ?_
  · intro w' hSw'
    go_simp
  simp only [Act.put, List.setIfInBounds_toArray, List.set_cons_zero, List.set_cons_succ]
  refine takeH (i := 23) 60 (v := .pointer (some ⟨pb, poff, none⟩)) rfl rfl (by kernel_rfl) (by kernel_rfl) (by kernel_rfl) (fun _ _ _ h => h) (Or.inl ⟨by rfl, ?_⟩) (by assumption) ?_
  · intro w' hSw'
    go_simp
  simp only [Act.put, List.setIfInBounds_toArray, List.set_cons_zero, List.set_cons_succ]
  refine takeH (i := 24) 61 (v := .string ⟨AB.toArray⟩) rfl rfl (by kernel_rfl) (by kernel_rfl) (by kernel_rfl) (fun _ _ _ h => h) (Or.inl ⟨by rfl, ?_⟩) (by assumption) ?_
  · intro w' hSw'
    have z0 := below_cell hSw' P1.out
    go_simp
  simp only [Act.put, List.setIfInBounds_toArray, List.set_cons_zero, List.set_cons_succ]
  refine takeH (i := 25) 62 (v := .string ⟨AB.toArray⟩) rfl rfl (by kernel_rfl) (by kernel_rfl) (by kernel_rfl) (fun _ _ _ h => h) (Or.inl ⟨by rfl, ?_⟩) (by assumption) ?_
  · intro w' hSw'
    go_simp
  simp only [Act.put, List.setIfInBounds_toArray, List.set_cons_zero, List.set_cons_succ]
  refine takeH (i := 26) 63 (v := .bool true) rfl rfl (by kernel_rfl) (by kernel_rfl) (by kernel_rfl) (fun _ _ _ h => h) (Or.inl ⟨by rfl, ?_⟩) (by assumption) ?_
  · intro w' hSw'
    go_simp
  simp only [Act.put, List.setIfInBounds_toArray, List.set_cons_zero, List.set_cons_succ]
  refine takeH (i := 27) 64 (v := .bool true) rfl rfl (by kernel_rfl) (by kernel_rfl) (by kernel_rfl) (fun _ _ _ h => h) (Or.inl ⟨by rfl, ?_⟩) (by assumption) ?_
  · intro w' hSw'
    go_simp
  simp only [Act.put, List.setIfInBounds_toArray, List.set_cons_zero, List.set_cons_succ]
  refine takeH (i := 28) 65 (v := .bool true) rfl rfl (by kernel_rfl) (by kernel_rfl) (by kernel_rfl) (fun _ _ _ h => h) (Or.inl ⟨by rfl, ?_⟩) (by assumption) ?_
  · intro w' hSw'
    go_simp
  simp only [Act.put, List.setIfInBounds_toArray, List.set_cons_zero, List.set_cons_succ]
  refine takeH (i := 29) 66 (v := .int .i64 0) rfl rfl (by kernel_rfl) (by kernel_rfl) (by kernel_rfl) (fun _ _ _ h => h) (Or.inl ⟨by rfl, ?_⟩) (by assumption) ?_
  · intro w' hSw'
    go_simp
  simp only [Act.put, List.setIfInBounds_toArray, List.set_cons_zero, List.set_cons_succ]
  refine takeH (i := 30) 67 (v := .bool true) rfl rfl (by kernel_rfl) (by kernel_rfl) (by kernel_rfl) (fun _ _ _ h => h) (Or.inl ⟨by rfl, ?_⟩) (by assumption) ?_
  · intro w' hSw'
    go_simp
  simp only [Act.put, List.setIfInBounds_toArray, List.set_cons_zero, List.set_cons_succ]
  refine takeH (i := 31) 68 (v := .bool true) rfl rfl (by kernel_rfl) (by kernel_rfl) (by kernel_rfl) (fun _ _ _ h => h) (Or.inl ⟨by rfl, ?_⟩) (by assumption) ?_
  · intro w' hSw'
    go_simp
  simp only [Act.put, List.setIfInBounds_toArray, List.set_cons_zero, List.set_cons_succ]
  refine takeH (i := 32) 69 (v := .bool true) rfl rfl (by kernel_rfl) (by kernel_rfl) (by kernel_rfl) (fun _ _ _ h => h) (Or.inl ⟨by rfl, ?_⟩) (by assumption) ?_
  · intro w' hSw'
    go_simp
  simp only [Act.put, List.setIfInBounds_toArray, List.set_cons_zero, List.set_cons_succ]
  refine takeH (i := 33) 70 (v := .slice (some ⟨qb, qoff, none⟩) 1 qc) rfl rfl (by kernel_rfl) (by kernel_rfl) (by kernel_rfl) (fun _ _ _ h => h) (Or.inl ⟨by rfl, ?_⟩) (by assumption) ?_
  · intro w' hSw'
    go_simp
  simp only [Act.put, List.setIfInBounds_toArray, List.set_cons_zero, List.set_cons_succ]
  refine takeH (i := 34) 71 (v := .int .i64 1) rfl rfl (by kernel_rfl) (by kernel_rfl) (by kernel_rfl) (fun _ _ _ h => h) (Or.inl ⟨by rfl, ?_⟩) (by assumption) ?_
  · intro w' hSw'
    go_simp
  simp only [Act.put, List.setIfInBounds_toArray, List.set_cons_zero, List.set_cons_succ]
  refine takeH (i := 35) 72 (v := .bool true) rfl rfl (by kernel_rfl) (by kernel_rfl) (by kernel_rfl) (fun _ _ _ h => h) (Or.inl ⟨by rfl, ?_⟩) (by assumption) ?_
  · intro w' hSw'
    go_simp
  simp only [Act.put, List.setIfInBounds_toArray, List.set_cons_zero, List.set_cons_succ]
  refine takeH (i := 36) 73 (v := .bool true) rfl rfl (by kernel_rfl) (by kernel_rfl) (by kernel_rfl) (fun _ _ _ h => h) (Or.inl ⟨by rfl, ?_⟩) (by assumption) ?_
  · intro w' hSw'
    go_simp
  simp only [Act.put, List.setIfInBounds_toArray, List.set_cons_zero, List.set_cons_succ]
  refine takeH (i := 37) 74 (v := .bool true) rfl rfl (by kernel_rfl) (by kernel_rfl) (by kernel_rfl) (fun _ _ _ h => h) (Or.inl ⟨by rfl, ?_⟩) (by assumption) ?_
  · intro w' hSw'
    go_simp
  simp only [Act.put, List.setIfInBounds_toArray, List.set_cons_zero, List.set_cons_succ]
  refine takeH (i := 38) 75 (v := .slice (some ⟨qb, qoff, none⟩) 1 qc) rfl rfl (by kernel_rfl) (by kernel_rfl) (by kernel_rfl) (fun _ _ _ h => h) (Or.inl ⟨by rfl, ?_⟩) (by assumption) ?_
  · intro w' hSw'
    go_simp
  simp only [Act.put, List.setIfInBounds_toArray, List.set_cons_zero, List.set_cons_succ]
  refine takeH (i := 39) 76 (v := .pointer (some ⟨qb, qoff, none⟩)) rfl rfl (by kernel_rfl) (by kernel_rfl) (by kernel_rfl) (fun _ _ _ h => h) (Or.inl ⟨by rfl, ?_⟩) (by assumption) ?_
  · intro w' hSw'
    go_simp
  simp only [Act.put, List.setIfInBounds_toArray, List.set_cons_zero, List.set_cons_succ]
  refine takeH (i := 40) 77 (v := .string ⟨C.toArray⟩) rfl rfl (by kernel_rfl) (by kernel_rfl) (by kernel_rfl) (fun _ _ _ h => h) (Or.inl ⟨by rfl, ?_⟩) (by assumption) ?_
  · intro w' hSw'
    have z0 := below_cell hSw' Q0.out
    go_simp
  simp only [Act.put, List.setIfInBounds_toArray, List.set_cons_zero, List.set_cons_succ]
  refine takeH (i := 41) 78 (v := .slice (some ⟨g, 0, none⟩) 3 3) rfl rfl (by kernel_rfl) (by kernel_rfl) (by kernel_rfl) (fun _ _ _ h => h) (Or.inl ⟨by rfl, ?_⟩) (by assumption) ?_
  · intro w' hSw'
    go_simp
  simp only [Act.put, List.setIfInBounds_toArray, List.set_cons_zero, List.set_cons_succ]
  refine takeH (i := 42) 79 (v := .pointer (some ⟨g, 2, none⟩)) rfl rfl (by kernel_rfl) (by kernel_rfl) (by kernel_rfl) (fun _ _ _ h => h) (Or.inl ⟨by rfl, ?_⟩) (by assumption) ?_
  · intro w' hSw'
    go_simp
  simp only [Act.put, List.setIfInBounds_toArray, List.set_cons_zero, List.set_cons_succ]
  refine takeH (i := 43) 80 (v := .string ⟨C.toArray⟩) rfl rfl (by kernel_rfl) (by kernel_rfl) (by kernel_rfl) (fun _ _ _ h => h) (Or.inl ⟨by rfl, ?_⟩) (by assumption) ?_
  · intro w' hSw'
    have z0 := below_cell hSw' E2.out
    go_simp
  simp only [Act.put, List.setIfInBounds_toArray, List.set_cons_zero, List.set_cons_succ]
  refine takeH (i := 44) 81 (v := .bool true) rfl rfl (by kernel_rfl) (by kernel_rfl) (by kernel_rfl) (fun _ _ _ h => h) (Or.inl ⟨by rfl, ?_⟩) (by assumption) ?_
  · intro w' hSw'
    go_simp
  simp only [Act.put, List.setIfInBounds_toArray, List.set_cons_zero, List.set_cons_succ]
  refine takeH (i := 45) 82 (v := .bool true) rfl rfl (by kernel_rfl) (by kernel_rfl) (by kernel_rfl) (fun _ _ _ h => h) (Or.inl ⟨by rfl, ?_⟩) (by assumption) ?_
  · intro w' hSw'
    go_simp
  simp only [Act.put, List.setIfInBounds_toArray, List.set_cons_zero, List.set_cons_succ]
  refine takeH (i := 46) 83 (v := .bool true) rfl rfl (by kernel_rfl) (by kernel_rfl) (by kernel_rfl) (fun _ _ _ h => h) (Or.inl ⟨by rfl, ?_⟩) (by assumption) ?_
  · intro w' hSw'
    go_simp
  simp only [Act.put, List.setIfInBounds_toArray, List.set_cons_zero, List.set_cons_succ]
  refine takeH (i := 47) 84 (v := .slice (some ⟨g, 0, none⟩) 3 3) rfl rfl (by kernel_rfl) (by kernel_rfl) (by kernel_rfl) (fun _ _ _ h => h) (Or.inl ⟨by rfl, ?_⟩) (by assumption) ?_
  · intro w' hSw'
    go_simp
  simp only [Act.put, List.setIfInBounds_toArray, List.set_cons_zero, List.set_cons_succ]
  refine takeH (i := 48) 85 (v := .pointer (some ⟨g, 2, none⟩)) rfl rfl (by kernel_rfl) (by kernel_rfl) (by kernel_rfl) (fun _ _ _ h => h) (Or.inl ⟨by rfl, ?_⟩) (by assumption) ?_
  · intro w' hSw'
    go_simp
  simp only [Act.put, List.setIfInBounds_toArray, List.set_cons_zero, List.set_cons_succ]
  refine takeH (i := 49) 86 (v := .string ⟨C.toArray⟩) rfl rfl (by kernel_rfl) (by kernel_rfl) (by kernel_rfl) (fun _ _ _ h => h) (Or.inl ⟨by rfl, ?_⟩) (by assumption) ?_
  · intro w' hSw'
    have z0 := below_cell hSw' E2.out
    go_simp
  simp only [Act.put, List.setIfInBounds_toArray, List.set_cons_zero, List.set_cons_succ]
  refine takeH (i := 50) 87 (v := .slice (some ⟨pb, poff, none⟩) 1 pc) rfl rfl (by kernel_rfl) (by kernel_rfl) (by kernel_rfl) (fun _ _ _ h => h) (Or.inl ⟨by rfl, ?_⟩) (by assumption) ?_
  · intro w' hSw'
    go_simp
  simp only [Act.put, List.setIfInBounds_toArray, List.set_cons_zero, List.set_cons_succ]
  refine takeH (i := 51) 88 (v := .string ⟨R.toArray⟩) rfl rfl (by kernel_rfl) (by kernel_rfl) (by kernel_rfl) (fun _ _ _ h => h) (Or.inl ⟨by rfl, ?_⟩) (by assumption) ?_
  · intro w' hSw'
    go_simp
  simp only [Act.put, List.setIfInBounds_toArray, List.set_cons_zero, List.set_cons_succ]
  refine wpAnyH_ready (rs := [52]) (by kernel_rfl) (by simp) ?_
  refine AllReadyH.cons rfl (fun K hK => ?_) AllReadyH.nil
  go_simp
  refine (CY.out wc _ pc (LDB.out _ bc.out) (RPb.out.below strKind_ok bc.out)).mono ?_
  rintro e wd ⟨rfl, hbd⟩
  have bd : Hid (Below wb.heap.size wb wd) := bc.out.trans (hbd.mono bc.out.size)
  clear hbd
  go_wp2_with fail
  refine hK.out _ _ (bd.out) (fun hY2 => ?_)
  clear hK K
  refine takeH (i := 53) 90 (v := .bool true) rfl rfl (by kernel_rfl) (by kernel_rfl) (by kernel_rfl) (fun _ _ _ h => h) (Or.inl ⟨by rfl, ?_⟩) (by assumption) ?_
  · intro w' hSw'
    go_simp
  simp only [Act.put, List.setIfInBounds_toArray, List.set_cons_zero, List.set_cons_succ]
  refine takeH (i := 54) 91 (v := .bool true) rfl rfl (by kernel_rfl) (by kernel_rfl) (by kernel_rfl) (fun _ _ _ h => h) (Or.inl ⟨by rfl, ?_⟩) (by assumption) ?_
  · intro w' hSw'
    go_simp
  simp only [Act.put, List.setIfInBounds_toArray, List.set_cons_zero, List.set_cons_succ]
  refine takeH (i := 55) 92 (v := .bool true) rfl rfl (by kernel_rfl) (by kernel_rfl) (by kernel_rfl) (fun _ _ _ h => h) (Or.inl ⟨by rfl, ?_⟩) (by assumption) ?_
  · intro w' hSw'
    go_simp
  simp only [Act.put, List.setIfInBounds_toArray, List.set_cons_zero, List.set_cons_succ]
  refine takeH (i := 56) 93 (v := .slice (some ⟨qb, qoff, none⟩) 1 qc) rfl rfl (by kernel_rfl) (by kernel_rfl) (by kernel_rfl) (fun _ _ _ h => h) (Or.inl ⟨by rfl, ?_⟩) (by assumption) ?_
  · intro w' hSw'
    go_simp
  simp only [Act.put, List.setIfInBounds_toArray, List.set_cons_zero, List.set_cons_succ]
  refine takeH (i := 57) 94 (v := .string ⟨AB.toArray⟩) rfl rfl (by kernel_rfl) (by kernel_rfl) (by kernel_rfl) (fun _ _ _ h => h) (Or.inl ⟨by rfl, ?_⟩) (by assumption) ?_
  · intro w' hSw'
    go_simp
  simp only [Act.put, List.setIfInBounds_toArray, List.set_cons_zero, List.set_cons_succ]
  refine takeH (i := 58) 95 (v := .string ⟨R.toArray⟩) rfl rfl (by kernel_rfl) (by kernel_rfl) (by kernel_rfl) (fun _ _ _ h => h) (Or.inl ⟨by rfl, ?_⟩) (by assumption) ?_
  · intro w' hSw'
    go_simp
  simp only [Act.put, List.setIfInBounds_toArray, List.set_cons_zero, List.set_cons_succ]
  refine wpAnyH_ready (rs := [59]) (by kernel_rfl) (by simp) ?_
  refine AllReadyH.cons rfl (fun K hK => ?_) AllReadyH.nil
  go_simp
  refine (CF.out wd _ qc (LDB.out _ bd.out) (RQ.out.below strKind_ok bd.out)).mono ?_
  rintro e we ⟨rfl, hbe⟩
  have be : Hid (Below wb.heap.size wb we) := bd.out.trans (hbe.mono bd.out.size)
  clear hbe
  go_wp2_with fail
  refine hK.out _ _ (be.out) (fun hY3 => ?_)
  clear hK K
  refine takeH (i := 60) 97 (v := .bool true) rfl rfl (by kernel_rfl) (by kernel_rfl) (by kernel_rfl) (fun _ _ _ h => h) (Or.inl ⟨by rfl, ?_⟩) (by assumption) ?_
  · intro w' hSw'
    go_simp
  simp only [Act.put, List.setIfInBounds_toArray, List.set_cons_zero, List.set_cons_succ]
  refine takeH (i := 61) 98 (v := .bool true) rfl rfl (by kernel_rfl) (by kernel_rfl) (by kernel_rfl) (fun _ _ _ h => h) (Or.inl ⟨by rfl, ?_⟩) (by assumption) ?_
  · intro w' hSw'
    go_simp
  simp only [Act.put, List.setIfInBounds_toArray, List.set_cons_zero, List.set_cons_succ]
  refine takeH (i := 62) 99 (v := .bool true) rfl rfl (by kernel_rfl) (by kernel_rfl) (by kernel_rfl) (fun _ _ _ h => h) (Or.inl ⟨by rfl, ?_⟩) (by assumption) ?_
  · intro w' hSw'
    go_simp
  simp only [Act.put, List.setIfInBounds_toArray, List.set_cons_zero, List.set_cons_succ]
  refine takeH (i := 63) 100 (v := .slice (some ⟨g, 0, none⟩) 3 3) rfl rfl (by kernel_rfl) (by kernel_rfl) (by kernel_rfl) (fun _ _ _ h => h) (Or.inl ⟨by rfl, ?_⟩) (by assumption) ?_
  · intro w' hSw'
    go_simp
  simp only [Act.put, List.setIfInBounds_toArray, List.set_cons_zero, List.set_cons_succ]
  refine takeH (i := 64) 101 (v := .pointer (some ⟨g, 1, none⟩)) rfl rfl (by kernel_rfl) (by kernel_rfl) (by kernel_rfl) (fun _ _ _ h => h) (Or.inl ⟨by rfl, ?_⟩) (by assumption) ?_
  · intro w' hSw'
    go_simp
  simp only [Act.put, List.setIfInBounds_toArray, List.set_cons_zero, List.set_cons_succ]
  refine takeH (i := 65) 102 (v := .string ⟨B.toArray⟩) rfl rfl (by kernel_rfl) (by kernel_rfl) (by kernel_rfl) (fun _ _ _ h => h) (Or.inl ⟨by rfl, ?_⟩) (by assumption) ?_
  · intro w' hSw'
    have z0 := below_cell hSw' E1.out
    go_simp
  simp only [Act.put, List.setIfInBounds_toArray, List.set_cons_zero, List.set_cons_succ]
  refine takeH (i := 66) 103 (v := .slice (some ⟨pb, poff, none⟩) 1 pc) rfl rfl (by kernel_rfl) (by kernel_rfl) (by kernel_rfl) (fun _ _ _ h => h) (Or.inl ⟨by rfl, ?_⟩) (by assumption) ?_
  · intro w' hSw'
    go_simp
  simp only [Act.put, List.setIfInBounds_toArray, List.set_cons_zero, List.set_cons_succ]
  refine takeH (i := 67) 104 (v := .string ⟨R.toArray⟩) rfl rfl (by kernel_rfl) (by kernel_rfl) (by kernel_rfl) (fun _ _ _ h => h) (Or.inl ⟨by rfl, ?_⟩) (by assumption) ?_
  · intro w' hSw'
    go_simp
  simp only [Act.put, List.setIfInBounds_toArray, List.set_cons_zero, List.set_cons_succ]
  refine wpAnyH_ready (rs := [68]) (by kernel_rfl) (by simp) ?_
  refine AllReadyH.cons rfl (fun K hK => ?_) AllReadyH.nil
  go_simp
  refine (CN.out we _ pc (LDB.out _ be.out) (RPb.out.below strKind_ok be.out)).mono ?_
  rintro e wf ⟨rfl, hbf⟩
  have bf : Hid (Below wb.heap.size wb wf) := be.out.trans (hbf.mono be.out.size)
  clear hbf
  go_wp2_with fail
  refine hK.out _ _ (bf.out) (fun hY4 => ?_)
  clear hK K
  refine takeH (i := 69) 106 (v := .bool true) rfl rfl (by kernel_rfl) (by kernel_rfl) (by kernel_rfl) (fun _ _ _ h => h) (Or.inl ⟨by rfl, ?_⟩) (by assumption) ?_
  · intro w' hSw'
    go_simp
  simp only [Act.put, List.setIfInBounds_toArray, List.set_cons_zero, List.set_cons_succ]
  refine takeH (i := 70) 107 (v := .bool true) rfl rfl (by kernel_rfl) (by kernel_rfl) (by kernel_rfl) (fun _ _ _ h => h) (Or.inl ⟨by rfl, ?_⟩) (by assumption) ?_
  · intro w' hSw'
    go_simp
  simp only [Act.put, List.setIfInBounds_toArray, List.set_cons_zero, List.set_cons_succ]
  refine takeH (i := 71) 0 (v := .bool true) rfl rfl (by kernel_rfl) (by kernel_rfl) (by kernel_rfl) (fun _ _ _ h => h) (Or.inl ⟨by rfl, ?_⟩) (by assumption) ?_
  · intro w' hSw'
    go_simp
  simp only [Act.put, List.setIfInBounds_toArray, List.set_cons_zero]
  refine wpAnyH_done (by kernel_rfl) ?_ _
  go_wp2
  go_ret
  exact ⟨rfl, Bb.out.trans (bf.out.mono Bb.out.size)⟩
theorem awake_any (w : World) (hL : Ld w) : Calls Tryd.prog 7 #[] w fun e w' => e = .returned (.bool true) ∧ Below w.heap.size w w' :=
  awake_core exA exB exC exAB (nodeL exAB exC) rfl rfl rfl rfl rfl ex_root ex_path ex_proof ex_yes ex_grows ex_no w hL
end Go.Proofs.YtelebhcaljepaabDoor
