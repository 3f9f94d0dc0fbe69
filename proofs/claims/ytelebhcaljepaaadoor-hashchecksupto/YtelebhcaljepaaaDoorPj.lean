/- The walk of climb. -/
import Derived.Test.YtelebhcaljepaaaDoorPi
namespace Go.Proofs.YtelebhcaljepaaaDoor
open Go.RowKit

theorem ClA.far {w w' : World} {leaf : List UInt8} {i n : Int} {ps : List (List UInt8)} (h : inRange i n = false) (hb : Below w.heap.size w w') : ClA w leaf i n ps (.returned (.tuple #[.slice none 0 0, .string ⟨#[]⟩, .int .i64 8])) w' := by
  unfold ClA
  rw [h]
  exact ⟨rfl, hb⟩
theorem ClA.no {w w' : World} {leaf : List UInt8} {I N : Nat} {ps : List (List UInt8)} (hr : inRange (I : Int) (N : Int) = true) (h : climbOk leaf I N ps = false) (hb : Below w.heap.size w w') : ClA w leaf (I : Int) (N : Int) ps (.returned (.tuple #[.slice none 0 0, .string ⟨#[]⟩, .int .i64 9])) w' := by
  unfold ClA
  rw [hr, if_pos rfl, Int.toNat_natCast, Int.toNat_natCast, h]
  exact ⟨rfl, hb⟩
theorem ClA.yes {w w' : World} {leaf : List UInt8} {I N : Nat} {ps : List (List UInt8)} {v : Value} (hr : inRange (I : Int) (N : Int) = true) (h : climbOk leaf I N ps = true) (ho : w'.ownsRow w.heap.size 45 2 v (prs leaf (Mt.sides I N) ps).length (rv pairKind (prs leaf (Mt.sides I N) ps))) (hb : Below w.heap.size w w') : ClA w leaf (I : Int) (N : Int) ps (.returned (.tuple #[v, .string ⟨(Mt.top nodeL leaf (Mt.sides I N) ps).toArray⟩, .int .i64 0])) w' := by
  unfold ClA
  rw [hr, if_pos rfl, Int.toNat_natCast, Int.toNat_natCast, h]
  exact ⟨⟨v, rfl, ho⟩, hb⟩
set_option maxHeartbeats 4000000 in
set_option maxRecDepth 100000 in
theorem climb_any (leaf : List UInt8) (i n : Int) (pp : Option Addr) (m pc : Nat) (ps : List (List UInt8)) (w : World) (hL : Ld w) (hp : RSrc strKind w pp m pc ps) (hm : m ≤ 4611686018427387904) :
    Calls Tryd.prog 37 #[.string ⟨leaf.toArray⟩, .int .i64 i, .int .i64 n, .slice pp m pc] w (ClA w leaf i n ps) := by
  obtain ⟨ip0, hip0, hpz0, hpz1, hpz2⟩ := info_partsS infoP
  have HLd := keep hL
  have HP := keep hp
  have HPL := keep hp.len
  clear hp hL
  cases hr : inRange i n with
  | false =>
    have FAR : Hid (∀ w', Below w.heap.size w w' → ClA w leaf i n ps (.returned (.tuple #[.slice none 0 0, .string ⟨#[]⟩, .int .i64 8])) w') := fun w' hb => ClA.far hr hb
    unfold inRange at hr
    by_cases h1 : n < 1
    · clear hr
      go_enter Tryd.func37, Tryd.ntmps37
      go_wp2
      go_ret3
      exact FAR.out _ (Below.refl _ _)
    by_cases h2 : 1099511627776 < n
    · clear hr
      go_enter Tryd.func37, Tryd.ntmps37
      go_wp2
      go_ret3
      exact FAR.out _ (Below.refl _ _)
    by_cases h3 : i < 0
    · clear hr
      go_enter Tryd.func37, Tryd.ntmps37
      go_wp2
      go_ret3
      exact FAR.out _ (Below.refl _ _)
    have h4 : n ≤ i := by
      rw [decide_eq_true (show 1 ≤ n by omega), decide_eq_true (show n ≤ 1099511627776 by omega), decide_eq_true (show 0 ≤ i by omega)] at hr
      have := of_decide_eq_false hr
      omega
    clear hr
    go_enter Tryd.func37, Tryd.ntmps37
    go_wp2
    go_ret3
    exact FAR.out _ (Below.refl _ _)
  | true =>
    have hr2 := hr
    unfold inRange at hr2
    simp only [Bool.and_eq_true, decide_eq_true_eq] at hr2
    obtain ⟨r1, r2, r3, r4⟩ := hr2
    obtain ⟨I, rfl⟩ : ∃ I : Nat, i = (I : Int) := ⟨i.toNat, by omega⟩
    obtain ⟨N, rfl⟩ : ∃ N : Nat, n = (N : Int) := ⟨n.toNat, by omega⟩
    have TL := keep (toLeaf_any I N w (by omega) (by omega))
    have WI := Mt.way_in (E := Mt.leafE) (i := I) (fun a h1 h2 => Mt.leafE_one a h1 h2) N 0 N (by omega) (Nat.zero_le _) (by omega)
    have RL := keep (Nat.le_trans WI.2.2.2 (Mt.lv_le (n := N) (j := 40) (by omega)))
    have hsd := Mt.way_sides I N 0 N (by omega) (Nat.zero_le _) (by omega)
    rw [Nat.sub_zero, Nat.sub_zero] at hsd
    have q1 : ¬ (N : Int) < 1 := by omega
    have q2 : ¬ (1099511627776 : Int) < (N : Int) := by omega
    have q3 : ¬ (I : Int) < 0 := by omega
    have q4 : ¬ (N : Int) ≤ (I : Int) := by omega
    have NO : Hid (∀ w', climbOk leaf I N ps = false → Below w.heap.size w w' → ClA w leaf (I : Int) (N : Int) ps (.returned (.tuple #[.slice none 0 0, .string ⟨#[]⟩, .int .i64 9])) w') := fun w' h hb => ClA.no hr h hb
    have YES : Hid (∀ v w', climbOk leaf I N ps = true → w'.ownsRow w.heap.size 45 2 v (prs leaf (Mt.sides I N) ps).length (rv pairKind (prs leaf (Mt.sides I N) ps)) → Below w.heap.size w w' → ClA w leaf (I : Int) (N : Int) ps (.returned (.tuple #[v, .string ⟨(Mt.top nodeL leaf (Mt.sides I N) ps).toArray⟩, .int .i64 0])) w') := fun v w' h ho hb => ClA.yes hr h ho hb
    unfold climbOk at NO YES
    obtain ⟨⟨R, en⟩, hR⟩ : ∃ R, Mt.way Mt.leafE I 0 N = R := ⟨_, rfl⟩
    rw [hR] at TL RL hsd
    simp only at TL RL hsd
    obtain ⟨S, hS⟩ : ∃ S, Mt.sides I N = S := ⟨_, rfl⟩
    rw [hS] at hsd NO YES
    have HSD := keep hsd
    have HSL : Hid (S.length = R.length) := by show _ = _; rw [← hsd, List.length_map]
    rw [HSL.out] at NO YES
    clear hr r1 r2 r3 r4 hS hR WI hsd
    go_enter Tryd.func37, Tryd.ntmps37
    go_wp2_with fail
    refine TL.out.mono ?_
    rintro e w1 ⟨v, rfl, hA⟩
    obtain ⟨rp, rc, rfl, hrs⟩ := hA.src
    have B1 := keep hA.2
    have RS := keep hrs
    clear hA hrs TL
    obtain ⟨L, hLL⟩ : ∃ L, R.length = L := ⟨_, rfl⟩
    rw [hLL] at RS RL HSL NO YES ⊢
    have hL40 := RL.out
    have AH := keep (areHashes_any pp m pc ps w1 (HP.out.below strKind_ok B1.out) hm)
    by_cases hml : m = L
    · subst hml
      have hNO := NO.out
      have hYES := YES.out
      rw [HPL.out, decide_eq_true rfl, Bool.true_and] at hNO hYES
      have NO2 := keep hNO
      have YES2 := keep hYES
      clear hNO hYES NO YES
      cases hw1 : wholeL ps with
      | false =>
        rw [hw1] at AH NO2
        clear hw1
        go_wp2_with fail
        refine AH.out.mono ?_
        rintro e w2 ⟨rfl, hb2⟩
        have B2 := keep (B1.out.trans (hb2.mono B1.out.size))
        clear hb2 AH
        go_wp2
        go_ret3
        exact NO2.out _ rfl B2.out
      | true =>
        have HMEM := keep (wholeL_mem hw1)
        rw [hw1] at AH NO2 YES2
        clear hw1
        go_wp2_with fail
        refine AH.out.mono ?_
        rintro e w2 ⟨rfl, hb2⟩
        have B2 := keep (B1.out.trans (hb2.mono B1.out.size))
        have RS2 := keep (RS.out.below sideKind_ok hb2)
        clear hb2 AH RS
        have IS := keep (isHash_any leaf w2)
        by_cases h32 : leaf.length = 32
        · rw [decide_eq_true h32] at IS NO2 YES2
          have HX32 := keep h32
          clear h32
          go_wp2_with fail
          refine IS.out.mono ?_
          rintro e w3 ⟨rfl, hw3⟩
          subst hw3
          clear IS NO2
          go_wp2
          go_loopw [12, 13, 53] (fun v x i wr => ∃ k : Nat, k ≤ m ∧ i = .int .i64 (k : Int) ∧ x = .string ⟨(Mt.top nodeL leaf (S.take k) (ps.take k)).toArray⟩ ∧ Hid (wr.ownsRow w3.heap.size 45 2 v k (rv pairKind (prs leaf (S.take k) (ps.take k))) ∧ Below w3.heap.size w3 wr)) (fun _ _ i _ => m - (intOf i).toNat)
          case atStart => exact ⟨0, Nat.zero_le _, rfl, rfl, World.ownsRow_nil _ _ _ _, Below.refl _ _⟩
          case round =>
            obtain ⟨k, hk, rfl, rfl, hI⟩ := hrel
            obtain ⟨vp, vc, hv⟩ := own_is hI.out.1
            subst hv
            have O1 := keep hI.out.1
            have C1 := keep hI.out.2
            clear hI
            by_cases hkn : k < m
            · obtain ⟨b, off, rfl, _, _⟩ := RS2.out.form sideKind_ok (by omega)
              obtain ⟨b2, off2, rfl, _, hcell⟩ := strs_at (HP.out.below strKind_ok B2.out) (by omega)
              obtain ⟨s, hsk⟩ : ∃ s, R[k]? = some s := ⟨R[k]'(by rw [hLL]; exact hkn), List.getElem?_eq_getElem _⟩
              obtain ⟨y, hyk⟩ : ∃ y, ps[k]? = some y := ⟨ps[k]'(by rw [HPL.out]; exact hkn), List.getElem?_eq_getElem _⟩
              obtain ⟨c0, c1, c2⟩ := side_cells RS2.out hsk
              have d0 := below_cell C1.out c0
              have d1 := below_cell C1.out c1
              have d2 := below_cell C1.out c2
              have d3 := below_cell C1.out (hcell k y hyk)
              have hsS : S[k]? = some (!s.ah) := by rw [← HSD.out, List.getElem?_map, hsk]; rfl
              have tkl : (S.take k).length = (ps.take k).length := by rw [List.length_take, List.length_take, HSL.out, HPL.out]
              have NT : Hid (Mt.top nodeL leaf (S.take (k + 1)) (ps.take (k + 1)) = Mt.up nodeL (Mt.top nodeL leaf (S.take k) (ps.take k)) (!s.ah) y) := by show _ = _; rw [take_snoc hsS, take_snoc hyk, Mt.top_snoc nodeL leaf tkl]
              have NP : Hid (prs leaf (S.take (k + 1)) (ps.take (k + 1)) = prs leaf (S.take k) (ps.take k) ++ [if (!s.ah) then (Mt.top nodeL leaf (S.take k) (ps.take k), y) else (y, Mt.top nodeL leaf (S.take k) (ps.take k))]) := by show _ = _; rw [take_snoc hsS, take_snoc hyk, prs_snoc _ _ _ _ _ tkl]
              have X32 : (Mt.top nodeL leaf (S.take k) (ps.take k)).length = 32 := xs_32 HX32.out S ps k
              have y32 := HMEM.out y (List.mem_of_getElem? hyk)
              obtain ⟨X, hX⟩ : ∃ X, Mt.top nodeL leaf (S.take k) (ps.take k) = X := ⟨_, rfl⟩
              obtain ⟨D, hD⟩ : ∃ D, prs leaf (S.take k) (ps.take k) = D := ⟨_, rfl⟩
              rw [hX] at NT NP X32 ⊢
              rw [hD] at NP O1
              obtain ⟨sa, sb, sah⟩ := s
              simp only at d0 d1 d2 NT NP
              have BS : Hid (∀ w', Calls Tryd.prog 56 #[.agg #[.int .i64 (sa : Int), .int .i64 (sb : Int), .bool sah], .string ⟨X.toArray⟩, .string ⟨y.toArray⟩] w' fun e w'' => e = .returned (.agg #[.string ⟨(if sah then y else X).toArray⟩, .string ⟨(if sah then X else y).toArray⟩]) ∧ Below w'.heap.size w' w'') := fun w' => beside_any ⟨sa, sb, sah⟩ X y w'
              obtain ⟨P1, hP1⟩ : ∃ P, (if sah then y else X) = P := ⟨_, rfl⟩
              obtain ⟨P2, hP2⟩ : ∃ P, (if sah then X else y) = P := ⟨_, rfl⟩
              rw [hP1, hP2] at BS
              have NT2 : Hid (Mt.top nodeL leaf (S.take (k + 1)) (ps.take (k + 1)) = nodeL P1 P2) := by show _ = _; rw [NT.out, ← hP1, ← hP2]; cases sah <;> rfl
              have NP2 : Hid (prs leaf (S.take (k + 1)) (ps.take (k + 1)) = D ++ [(P1, P2)]) := by show _ = _; rw [NP.out, ← hP1, ← hP2]; cases sah <;> rfl
              have PL : Hid (P1.length + P2.length ≤ 140737488354000) := by show _ ≤ _; rw [← hP1, ← hP2]; cases sah <;> simp [X32, y32]
              have k0 : (0 : Int) ≤ (k : Int) := by omega
              have k1 : (k : Int) < (m : Int) := by omega
              clear c0 c1 c2 hcell hsk hyk hsS tkl NT NP hX hD hP1 hP2 X32 y32
              obtain ⟨W1, hW1⟩ : ∃ Wn, wr.alloc (.cells #[.int .i64 (sa : Int), .int .i64 (sb : Int), .bool sah] 81) = Wn := ⟨_, rfl⟩
              have b1 : Hid (Below wr.heap.size wr W1) := by rw [← hW1]; exact (Below.refl _ _).alloc (Nat.le_refl _) _
              have g1 : W1.heap[wr.heap.size]? = some (.cells #[.int .i64 (sa : Int), .int .i64 (sb : Int), .bool sah] 81) := by rw [← hW1]; exact heap_alloc_new wr _
              have e0 : W1.cell? ⟨wr.heap.size, 0, none⟩ = some (.int .i64 (sa : Int)) := cell_of_row _ _ _ _ _ _ g1
              have e1 : W1.cell? ⟨wr.heap.size, 1, none⟩ = some (.int .i64 (sb : Int)) := cell_of_row _ _ _ _ _ _ g1
              have e2 : W1.cell? ⟨wr.heap.size, 2, none⟩ = some (.bool sah) := cell_of_row _ _ _ _ _ _ g1
              have e3 := below_cell b1.out d3
              have C2 := keep (C1.out.trans (b1.out.mono C1.out.size))
              have E0 := keep e0
              have E1 := keep e1
              have E2 := keep e2
              have E3 := keep e3
              clear g1 e0 e1 e2 e3
              go_wp2_with fail
              clear hW1 d0 d1 d2 d3
              refine region_share (fun a a' w' => ∃ g : Nat, a' = sets a [(58, .agg #[.int .i64 (sa : Int), .int .i64 (sb : Int), .bool sah]), (59, .string ⟨X.toArray⟩), (60, .slice (some ⟨b2, off2, none⟩) m pc), (61, .int .i64 (k : Int)), (62, .pointer (some ⟨b2, off2 + k, none⟩)), (63, .string ⟨y.toArray⟩), (64, .agg #[.string ⟨P1.toArray⟩, .string ⟨P2.toArray⟩]), (16, .pointer (some ⟨g, 0, none⟩))] ∧ w'.heap[g]? = some (.cells #[.string ⟨P1.toArray⟩, .string ⟨P2.toArray⟩] 45) ∧ W1.heap.size ≤ g ∧ Below W1.heap.size W1 w') ?_ ?_
              · refine wp_region_held_drew (S := fun w' => Below W1.heap.size W1 w') (by kernel_rfl) ((Below.refl _ _).drew) (fun hZ => ?_)
                refine takeH (i := 0) 58 (v := .agg #[.int .i64 (sa : Int), .int .i64 (sb : Int), .bool sah]) rfl rfl (by kernel_rfl) (by kernel_rfl) (by kernel_rfl) (fun _ _ _ h => h) (Or.inl ⟨by rfl, ?_⟩) (by assumption) ?_
                · intro w' hSw'
                  have z0 := below_cell hSw' E0.out
                  have z1 := below_cell hSw' E1.out
                  have z2 := below_cell hSw' E2.out
                  go_simp
                simp only [Act.put, List.setIfInBounds_toArray, List.set_cons_zero, List.set_cons_succ]
                refine takeH (i := 1) 59 (v := .string ⟨X.toArray⟩) rfl rfl (by kernel_rfl) (by kernel_rfl) (by kernel_rfl) (fun _ _ _ h => h) (Or.inl ⟨by rfl, ?_⟩) (by assumption) ?_
                · intro w' hSw'
                  go_simp
                simp only [Act.put, List.setIfInBounds_toArray, List.set_cons_zero, List.set_cons_succ]
                refine takeH (i := 2) 60 (v := .slice (some ⟨b2, off2, none⟩) m pc) rfl rfl (by kernel_rfl) (by kernel_rfl) (by kernel_rfl) (fun _ _ _ h => h) (Or.inl ⟨by rfl, ?_⟩) (by assumption) ?_
                · intro w' hSw'
                  go_simp
                simp only [Act.put, List.setIfInBounds_toArray, List.set_cons_zero, List.set_cons_succ]
                refine takeH (i := 3) 61 (v := .int .i64 (k : Int)) rfl rfl (by kernel_rfl) (by kernel_rfl) (by kernel_rfl) (fun _ _ _ h => h) (Or.inl ⟨by rfl, ?_⟩) (by assumption) ?_
                · intro w' hSw'
                  go_simp
                simp only [Act.put, List.setIfInBounds_toArray, List.set_cons_zero, List.set_cons_succ]
                refine takeH (i := 4) 62 (v := .pointer (some ⟨b2, off2 + k, none⟩)) rfl rfl (by kernel_rfl) (by kernel_rfl) (by kernel_rfl) (fun _ _ _ h => h) (Or.inl ⟨by rfl, ?_⟩) (by assumption) ?_
                · intro w' hSw'
                  go_simp
                simp only [Act.put, List.setIfInBounds_toArray, List.set_cons_zero, List.set_cons_succ]
                refine takeH (i := 5) 63 (v := .string ⟨y.toArray⟩) rfl rfl (by kernel_rfl) (by kernel_rfl) (by kernel_rfl) (fun _ _ _ h => h) (Or.inl ⟨by rfl, ?_⟩) (by assumption) ?_
                · intro w' hSw'
                  have z3 := below_cell hSw' E3.out
                  go_simp
                simp only [Act.put, List.setIfInBounds_toArray, List.set_cons_zero, List.set_cons_succ]
                refine wpAnyH_ready (rs := [6, 7]) (by kernel_rfl) (by simp) ?_
                refine AllReadyH.cons rfl (fun K hK => ?_) (AllReadyH.cons rfl (fun K hK => ?_) AllReadyH.nil)
                · go_simp
                  refine (BS.out _).mono ?_
                  rintro e w5 ⟨rfl, hb5⟩
                  have b5 : Hid (Below W1.heap.size W1 w5) := ((Below.refl _ _).drew).trans (hb5.mono (Nat.le_refl _))
                  clear hb5
                  go_wp2_with fail
                  refine hK.out _ _ (b5.out) (fun hA1 => ?_)
                  clear hK K
                  refine wpAnyH_ready (rs := [7]) (by kernel_rfl) (by simp) ?_
                  refine AllReadyH.cons rfl (fun K hK => ?_) AllReadyH.nil
                  go_simp
                  refine hK.out _ _ (b5.out.alloc b5.out.size _) (fun hA2 => ?_)
                  clear hK K
                  refine wpAnyH_ready (rs := [8]) (by kernel_rfl) (by simp) ?_
                  refine AllReadyH.cons rfl (fun K hK => ?_) AllReadyH.nil
                  go_simp
                  refine hK.out _ _ (b5.out.alloc b5.out.size _) (fun hA3 => ?_)
                  clear hK K
                  refine wpAnyH_done (by kernel_rfl) ?_ _
                  exact ⟨w5.heap.size, (by simp only [sets, Act.put, List.setIfInBounds_toArray, List.set_cons_zero, List.set_cons_succ]; all_goals rfl), heap_alloc_new w5 _, b5.out.size, b5.out.alloc b5.out.size _⟩
                · go_simp
                  have bZ : Hid (Below W1.heap.size W1 (W1.drew.alloc (.cells #[.string ⟨#[]⟩, .string ⟨#[]⟩] 45))) := ((Below.refl _ _).drew).alloc (Nat.le_refl _) _
                  refine hK.out _ _ (bZ.out) (fun hA1 => ?_)
                  clear hK K
                  refine wpAnyH_ready (rs := [6]) (by kernel_rfl) (by simp) ?_
                  refine AllReadyH.cons rfl (fun K hK => ?_) AllReadyH.nil
                  go_simp
                  refine (BS.out _).mono ?_
                  rintro e w5 ⟨rfl, hb5⟩
                  have b5 : Hid (Below W1.heap.size W1 w5) := bZ.out.trans (hb5.mono bZ.out.size)
                  have g5 : Hid (w5.heap[W1.heap.size]? = some (.cells #[.string ⟨#[]⟩, .string ⟨#[]⟩] 45)) := (hb5.block _ (by simp)).trans (heap_alloc_new W1.drew _)
                  clear hb5
                  go_wp2_with fail
                  refine hK.out _ _ (b5.out) (fun hA2 => ?_)
                  clear hK K
                  refine wpAnyH_ready (rs := [8]) (by kernel_rfl) (by simp) ?_
                  refine AllReadyH.cons rfl (fun K hK => ?_) AllReadyH.nil
                  have t0 : w5.cell? ⟨W1.heap.size, 0, none⟩ = some (.string ⟨#[]⟩) := cell_of_row _ _ _ _ _ _ g5.out
                  have f0 : w5.frozen? ⟨W1.heap.size, 0, none⟩ = false := by simp [World.frozen?, g5.out]
                  have t1 : w5.cell? ⟨W1.heap.size, 1, none⟩ = some (.string ⟨#[]⟩) := cell_of_row _ _ _ _ _ _ g5.out
                  have f1 : w5.frozen? ⟨W1.heap.size, 1, none⟩ = false := by simp [World.frozen?, g5.out]
                  have BL : Hid (Below W1.heap.size W1 ((w5.setCell ⟨W1.heap.size, 0, none⟩ (.string ⟨P1.toArray⟩)).setCell ⟨W1.heap.size, 1, none⟩ (.string ⟨P2.toArray⟩))) := (b5.out.setCell (p := ⟨W1.heap.size, 0, none⟩) (Nat.le_refl _) _).setCell (p := ⟨W1.heap.size, 1, none⟩) (Nat.le_refl _) _
                  have GS := keep (put_row (put_row g5.out 0 (.string ⟨P1.toArray⟩)) 1 (.string ⟨P2.toArray⟩))
                  go_simp
                  refine hK.out _ _ (BL.out) (fun hA3 => ?_)
                  clear hK K t0 t1 f0 f1
                  refine wpAnyH_done (by kernel_rfl) ?_ _
                  exact ⟨W1.heap.size, (by simp only [sets, Act.put, List.setIfInBounds_toArray, List.set_cons_zero, List.set_cons_succ]; all_goals rfl), GS.out, Nat.le_refl _, BL.out⟩
              rintro a' w5 ⟨g, rfl, hg5, hgW, hb5⟩
              simp only [sets, Act.put, List.setIfInBounds_toArray, List.set_cons_zero, List.set_cons_succ]
              have G5 := keep hg5
              have GW := keep hgW
              have B5 := keep (C2.out.trans (hb5.mono C2.out.size))
              have O5 := keep (own_next (own_next O1.out b1.out) hb5)
              have u0 : w5.cell? ⟨g, 0, none⟩ = some (.string ⟨P1.toArray⟩) := cell_of_row _ _ _ _ _ _ hg5
              have u1 : w5.cell? ⟨g, 1, none⟩ = some (.string ⟨P2.toArray⟩) := cell_of_row _ _ _ _ _ _ hg5
              have g5lt : g < w5.heap.size := (Array.getElem?_eq_some_iff.1 hg5).1
              have G5L := keep g5lt
              clear hg5 hgW hb5 g5lt
              have rc6 := keep (rec_cells (k := pairKind) w5 45 (P1, P2))
              have b6 : Hid (Below w5.heap.size w5 (w5.alloc (.cells #[.string ⟨P1.toArray⟩, .string ⟨P2.toArray⟩] 45))) := (Below.refl _ _).alloc (Nat.le_refl _) _
              have B6 := keep (B5.out.trans (b6.out.mono B5.out.size))
              have O6 := keep (own_next O5.out b6.out)
              have hD40 : k ≤ 40 := by omega
              have NOB : Hid (∀ j, (Value.slice vp k vc).ownBlock = some j → j < wr.heap.size) := fun j hj => (O1.out.lt j hj).2
              have WRS : Hid (wr.heap.size ≤ W1.heap.size) := b1.out.size
              go_wp2_with (first | fail | (at_builtin; go_loud (refine wpList_append_rec pairKind_ok rfl _ _ 54 45 rfl w3.heap.size ip0 _ 32 Tryd.underlying54 hip0 hpz0 hpz1 hpz2 rfl (.slice vp k vc) k D rfl O6.out _ 1 (P1, P2) rfl rc6.out (by unfold maxLen; omega) (by omega) B6.out.size ?_); intro v7 w7 ho7 hg7; obtain ⟨a7, c7, rfl⟩ := own_is ho7; have O7 := keep ho7; have B7 := keep (B6.out.grown hg7 B6.out.size (fun j hj => (O6.out.lt j hj).1)); have g7 : Hid (w7.heap[g]? = some (.cells #[.string ⟨P1.toArray⟩, .string ⟨P2.toArray⟩] 45)) := (hg7.block g (Nat.lt_of_lt_of_le G5L.out b6.out.size) (fun e => by have e1 := NOB.out g e.symm; have e2 := GW.out; have e3 := WRS.out; omega)).trans ((b6.out.block g G5L.out).trans G5.out); have y0 : w7.cell? ⟨g, 0, none⟩ = some (.string ⟨P1.toArray⟩) := cell_of_row _ _ _ _ _ _ g7.out; have y1 : w7.cell? ⟨g, 1, none⟩ = some (.string ⟨P2.toArray⟩) := cell_of_row _ _ _ _ _ _ g7.out; clear ho7 hg7 u0 u1))
              refine (pnode_any P1 P2 w7 PL.out (HLd.out.below (B2.out.trans (B7.out.mono B2.out.size)))).mono ?_
              rintro e w8 ⟨rfl, hb8⟩
              have B8 := keep (B7.out.trans (hb8.mono B7.out.size))
              have O8 := keep (own_next O7.out hb8)
              clear hb8 y0 y1
              go_wp2
              go_roundw
              case rel => exact ⟨k + 1, by omega, by go_num, by rw [NT2.out], by rw [NP2.out]; exact O8.out, B8.out⟩
              case measure => simp [intOf]; omega
            · obtain rfl : k = m := by omega
              have hall : S.take k = S := List.take_of_length_le (by rw [HSL.out]; exact Nat.le_refl _)
              have hall2 : ps.take k = ps := List.take_of_length_le (by rw [HPL.out]; exact Nat.le_refl _)
              rw [hall, hall2] at O1
              rw [hall, hall2]
              have PLN : Hid ((prs leaf S ps).length = k) := by show _ = _; rw [prs_len _ _ _ (by rw [HSL.out, HPL.out]), HSL.out]
              have FIN := keep (YES2.out (.slice vp k vc) wr rfl (by rw [PLN.out]; exact own_low O1.out B2.out.size) (B2.out.trans (C1.out.mono B2.out.size)))
              obtain ⟨X, hX⟩ : ∃ X, Mt.top nodeL leaf S ps = X := ⟨_, rfl⟩
              rw [hX] at FIN ⊢
              clear hall hall2 hX
              go_wp2
              go_ret3
              exact FIN.out
        · rw [decide_eq_false h32] at IS NO2
          clear h32
          go_wp2_with fail
          refine IS.out.mono ?_
          rintro e w3 ⟨rfl, hw3⟩
          subst hw3
          go_wp2
          go_ret3
          exact NO2.out _ rfl B2.out
    · have ml2 : ¬ (m : Int) = (L : Int) := by omega
      have hNO := NO.out
      rw [HPL.out, decide_eq_false hml] at hNO
      have NO2 := keep hNO
      clear hNO NO YES
      go_wp2
      go_ret3
      exact NO2.out _ rfl B1.out
end Go.Proofs.YtelebhcaljepaaaDoor
