/- The walks of CheckPath, climbBoth. -/
import Derived.Test.YtelebhcaljepaabDoorPj
namespace Go.Proofs.YtelebhcaljepaabDoor
open Go.RowKit

set_option maxHeartbeats 2000000 in
set_option maxRecDepth 100000 in
theorem checkPath_any (leaf : List UInt8) (i n : Int) (pp : Option Addr) (m pc : Nat) (ps : List (List UInt8)) (rt : List UInt8) (w : World) (hL : Ld w) (hp : RSrc strKind w pp m pc ps) (hm : m ≤ 4611686018427387904) :
    Calls Tryd.prog 16 #[.string ⟨leaf.toArray⟩, .int .i64 i, .int .i64 n, .slice pp m pc, .string ⟨rt.toArray⟩] w fun e w' => e = .returned (.int .i64 (checkP leaf i n ps rt)) ∧ Below w.heap.size w w' := by
  have CL := keep (climb_any leaf i n pp m pc ps w hL hp hm)
  unfold ClA at CL
  unfold checkP
  clear hL hp hm
  cases hr : inRange i n with
  | false =>
    rw [hr] at CL
    simp only [Bool.false_eq_true, if_false] at CL ⊢
    clear hr
    go_enter Tryd.func16, Tryd.ntmps16
    go_wp2_with fail
    refine CL.out.mono ?_
    rintro e w1 ⟨rfl, hb1⟩
    have B1 := keep hb1
    clear hb1 CL
    go_wp2
    go_ret
    exact ⟨rfl, B1.out⟩
  | true =>
    rw [pathOk_climb]
    simp only [hr, eq_self, if_true] at CL
    rw [if_pos rfl]
    clear hr
    cases hc : climbOk leaf i.toNat n.toNat ps with
    | false =>
      rw [hc] at CL
      simp only [Bool.false_eq_true, if_false, Bool.false_and] at CL ⊢
      clear hc
      go_enter Tryd.func16, Tryd.ntmps16
      go_wp2_with fail
      refine CL.out.mono ?_
      rintro e w1 ⟨rfl, hb1⟩
      have B1 := keep hb1
      clear hb1 CL
      go_wp2
      go_ret
      exact ⟨rfl, B1.out⟩
    | true =>
      simp only [hc, eq_self, if_true] at CL
      rw [Bool.true_and]
      clear hc
      obtain ⟨T, hT⟩ : ∃ T, Mt.top nodeL leaf (Mt.sides i.toNat n.toNat) ps = T := ⟨_, rfl⟩
      rw [hT] at CL ⊢
      clear hT
      by_cases hTr : T = rt
      · rw [decide_eq_true hTr, if_pos rfl]
        subst hTr
        go_enter Tryd.func16, Tryd.ntmps16
        go_wp2_with fail
        refine CL.out.mono ?_
        rintro e w1 ⟨⟨v, rfl, ho⟩, hb1⟩
        obtain ⟨va, vc, rfl⟩ := own_is ho
        have B1 := keep hb1
        clear hb1 CL ho
        go_wp2
        go_ret
        exact ⟨rfl, B1.out⟩
      · have hne : (T == rt) = false := by simpa using hTr
        rw [decide_eq_false hTr]
        simp only [Bool.false_eq_true, if_false]
        clear hTr
        go_enter Tryd.func16, Tryd.ntmps16
        go_wp2_with fail
        refine CL.out.mono ?_
        rintro e w1 ⟨⟨v, rfl, ho⟩, hb1⟩
        obtain ⟨va, vc, rfl⟩ := own_is ho
        have B1 := keep hb1
        clear hb1 CL ho
        go_wp2
        go_ret
        exact ⟨rfl, B1.out⟩
theorem both_take {x : List UInt8} {ss : List Mt.Sd} {ps : List (List UInt8)} {k : Nat} {s : Mt.Sd} {y : List UInt8} (hs : ss[k]? = some s) (hy : ps[k]? = some y) :
    Mt.both nodeL (x, x) (ss.take (k + 1)) (ps.take (k + 1)) = (if s.ah then nodeL y (Mt.both nodeL (x, x) (ss.take k) (ps.take k)).1 else (Mt.both nodeL (x, x) (ss.take k) (ps.take k)).1, if s.ah then nodeL y (Mt.both nodeL (x, x) (ss.take k) (ps.take k)).2 else nodeL (Mt.both nodeL (x, x) (ss.take k) (ps.take k)).2 y) := by
  have h1 := (List.getElem?_eq_some_iff.1 hs).1
  have h2 := (List.getElem?_eq_some_iff.1 hy).1
  rw [take_snoc hs, take_snoc hy, Mt.both_snoc nodeL _ _ _ _ _ (by rw [List.length_take, List.length_take]; omega)]
set_option maxHeartbeats 4000000 in
set_option maxRecDepth 100000 in
theorem climbBoth_any (x : List UInt8) (rp : Option Addr) (m rc : Nat) (R : List Mt.Sd) (pp : Option Addr) (pc : Nat) (ps : List (List UInt8)) (w : World) (hL : Ld w) (hrs : RSrc sideKind w rp m rc R) (hp : RSrc strKind w pp m pc ps) (hm : m ≤ 1000) (hx : x.length = 32) (hw : wholeL ps = true) :
    Calls Tryd.prog 33 #[.string ⟨x.toArray⟩, .slice rp m rc, .slice pp m pc] w fun e w' => e = .returned (.tuple #[.string ⟨(Mt.both nodeL (x, x) R ps).1.toArray⟩, .string ⟨(Mt.both nodeL (x, x) R ps).2.toArray⟩]) ∧ Below w.heap.size w w' := by
  have HLd := keep hL
  have HP := keep hp
  have HPL := keep hp.len
  have RS := keep hrs
  have HRL := keep hrs.len
  have HMEM := keep (wholeL_mem hw)
  have HX := keep hx
  clear hL hp hrs hw hx
  go_enter Tryd.func33, Tryd.ntmps33
  go_wp2
  go_loopw [6, 7, 14] (fun f a i wr => ∃ k : Nat, k ≤ m ∧ i = .int .i64 (k : Int) ∧ f = .string ⟨(Mt.both nodeL (x, x) (R.take k) (ps.take k)).1.toArray⟩ ∧ a = .string ⟨(Mt.both nodeL (x, x) (R.take k) (ps.take k)).2.toArray⟩ ∧ Hid (Below w.heap.size w wr)) (fun _ _ i _ => m - (intOf i).toNat)
  case atStart => exact ⟨0, Nat.zero_le _, rfl, rfl, rfl, Below.refl _ _⟩
  case round =>
    obtain ⟨k, hk, rfl, rfl, rfl, hI⟩ := hrel
    have C1 := keep hI.out
    clear hI
    by_cases hkn : k < m
    · obtain ⟨b, off, rfl, _, _⟩ := RS.out.form sideKind_ok (by omega)
      obtain ⟨b2, off2, rfl, _, hcell⟩ := strs_at HP.out (by omega)
      obtain ⟨s, hsk⟩ : ∃ s, R[k]? = some s := ⟨R[k]'(by rw [HRL.out]; exact hkn), List.getElem?_eq_getElem _⟩
      obtain ⟨y, hyk⟩ : ∃ y, ps[k]? = some y := ⟨ps[k]'(by rw [HPL.out]; exact hkn), List.getElem?_eq_getElem _⟩
      obtain ⟨c0, c1, c2⟩ := side_cells RS.out hsk
      have d0 := below_cell C1.out c0
      have d1 := below_cell C1.out c1
      have d2 := below_cell C1.out c2
      have d3 := below_cell C1.out (hcell k y hyk)
      have NB := keep (both_take (x := x) hsk hyk)
      have h32 := both_32 (R.take k) (ps.take k) (x, x) HX.out HX.out
      have y32 := HMEM.out y (List.mem_of_getElem? hyk)
      obtain ⟨⟨X1, X2⟩, hX⟩ : ∃ X, Mt.both nodeL (x, x) (R.take k) (ps.take k) = X := ⟨_, rfl⟩
      rw [hX] at NB h32 ⊢
      obtain ⟨sa, sb, sah⟩ := s
      simp only at d0 d1 d2 NB h32 ⊢
      have hx1 := h32.1
      have hx2 := h32.2
      have BS2 : Hid (∀ w', Calls Tryd.prog 35 #[.agg #[.int .i64 (sa : Int), .int .i64 (sb : Int), .bool sah], .string ⟨X2.toArray⟩, .string ⟨y.toArray⟩] w' fun e w'' => e = .returned (.agg #[.string ⟨(if sah then y else X2).toArray⟩, .string ⟨(if sah then X2 else y).toArray⟩]) ∧ Below w'.heap.size w' w'') := fun w' => beside_any ⟨sa, sb, sah⟩ X2 y w'
      have PN2 : Hid (∀ w', Below w.heap.size w w' → Calls Tryd.prog 26 #[.agg #[.string ⟨(if sah then y else X2).toArray⟩, .string ⟨(if sah then X2 else y).toArray⟩]] w' fun e w'' => e = .returned (.string ⟨(if sah then nodeL y X2 else nodeL X2 y).toArray⟩) ∧ Below w'.heap.size w' w'') := fun w' hb => by
        refine (pnode_any (if sah then y else X2) (if sah then X2 else y) w' (by cases sah <;> simp [hx2, y32]) (HLd.out.below hb)).mono ?_
        rintro e w'' ⟨rfl, hb2⟩
        exact ⟨by cases sah <;> rfl, hb2⟩
      have BS1 : Hid (∀ w', Calls Tryd.prog 35 #[.agg #[.int .i64 (sa : Int), .int .i64 (sb : Int), .bool true], .string ⟨X1.toArray⟩, .string ⟨y.toArray⟩] w' fun e w'' => e = .returned (.agg #[.string ⟨y.toArray⟩, .string ⟨X1.toArray⟩]) ∧ Below w'.heap.size w' w'') := fun w' => beside_any ⟨sa, sb, true⟩ X1 y w'
      have PN1 : Hid (∀ w', Below w.heap.size w w' → Calls Tryd.prog 26 #[.agg #[.string ⟨y.toArray⟩, .string ⟨X1.toArray⟩]] w' fun e w'' => e = .returned (.string ⟨(nodeL y X1).toArray⟩) ∧ Below w'.heap.size w' w'') := fun w' hb => pnode_any y X1 w' (by rw [hx1, y32]; decide) (HLd.out.below hb)
      obtain ⟨Q1, hQ1⟩ : ∃ Q, (if sah then y else X2) = Q := ⟨_, rfl⟩
      obtain ⟨Q2, hQ2⟩ : ∃ Q, (if sah then X2 else y) = Q := ⟨_, rfl⟩
      obtain ⟨Q3, hQ3⟩ : ∃ Q, (if sah then nodeL y X2 else nodeL X2 y) = Q := ⟨_, rfl⟩
      rw [hQ1, hQ2] at BS2
      rw [hQ1, hQ2, hQ3] at PN2
      rw [hQ3] at NB
      clear hQ1 hQ2 hQ3 hx1 hx2
      have k0 : (0 : Int) ≤ (k : Int) := by omega
      have k1 : (k : Int) < (m : Int) := by omega
      clear c0 c1 c2 hcell hsk hyk hX h32 y32
      obtain ⟨W1, hW1⟩ : ∃ Wn, wr.alloc (.cells #[.int .i64 (sa : Int), .int .i64 (sb : Int), .bool sah] 64) = Wn := ⟨_, rfl⟩
      have b1 : Hid (Below wr.heap.size wr W1) := by rw [← hW1]; exact (Below.refl _ _).alloc (Nat.le_refl _) _
      have g1 : W1.heap[wr.heap.size]? = some (.cells #[.int .i64 (sa : Int), .int .i64 (sb : Int), .bool sah] 64) := by rw [← hW1]; exact heap_alloc_new wr _
      have e0 : W1.cell? ⟨wr.heap.size, 0, none⟩ = some (.int .i64 (sa : Int)) := cell_of_row _ _ _ _ _ _ g1
      have e1 : W1.cell? ⟨wr.heap.size, 1, none⟩ = some (.int .i64 (sb : Int)) := cell_of_row _ _ _ _ _ _ g1
      have e2 : W1.cell? ⟨wr.heap.size, 2, none⟩ = some (.bool sah) := cell_of_row _ _ _ _ _ _ g1
      have e3 := below_cell b1.out d3
      have C2 := keep (C1.out.trans (b1.out.mono C1.out.size))
      have E0 := keep e0
      have E1 := keep e1
      have E2 := keep e2
      have E3 := keep e3
      clear g1 e0 e1 e2 e3
      go_wp2_with fail
      clear hW1 d0 d1 d2 d3
      refine wp_region_held_drew (S := fun w' => Below W1.heap.size W1 w') (by kernel_rfl) ((Below.refl W1.heap.size W1).drew) (fun hZ => ?_)
      refine takeH (i := 0) 19 (v := .agg #[.int .i64 (sa : Int), .int .i64 (sb : Int), .bool sah]) rfl rfl (by kernel_rfl) (by kernel_rfl) (by kernel_rfl) (fun _ _ _ h => h) (Or.inl ⟨by rfl, ?_⟩) (by assumption) ?_
      · intro w' hSw'
        have z0 := below_cell hSw' E0.out
        have z1 := below_cell hSw' E1.out
        have z2 := below_cell hSw' E2.out
        go_simp
      simp only [Act.put, List.setIfInBounds_toArray, List.set_cons_zero, List.set_cons_succ]
      refine takeH (i := 1) 20 (v := .string ⟨X2.toArray⟩) rfl rfl (by kernel_rfl) (by kernel_rfl) (by kernel_rfl) (fun _ _ _ h => h) (Or.inl ⟨by rfl, ?_⟩) (by assumption) ?_
      · intro w' hSw'
        go_simp
      simp only [Act.put, List.setIfInBounds_toArray, List.set_cons_zero, List.set_cons_succ]
      refine takeH (i := 2) 21 (v := .slice (some ⟨b2, off2, none⟩) m pc) rfl rfl (by kernel_rfl) (by kernel_rfl) (by kernel_rfl) (fun _ _ _ h => h) (Or.inl ⟨by rfl, ?_⟩) (by assumption) ?_
      · intro w' hSw'
        go_simp
      simp only [Act.put, List.setIfInBounds_toArray, List.set_cons_zero, List.set_cons_succ]
      refine takeH (i := 3) 0x16 (v := .int .i64 (k : Int)) rfl rfl (by kernel_rfl) (by kernel_rfl) (by kernel_rfl) (fun _ _ _ h => h) (Or.inl ⟨by rfl, ?_⟩) (by assumption) ?_
      · intro w' hSw'
        go_simp
      simp only [Act.put, List.setIfInBounds_toArray, List.set_cons_zero, List.set_cons_succ]
      refine takeH (i := 4) 23 (v := .pointer (some ⟨b2, off2 + k, none⟩)) rfl rfl (by kernel_rfl) (by kernel_rfl) (by kernel_rfl) (fun _ _ _ h => h) (Or.inl ⟨by rfl, ?_⟩) (by assumption) ?_
      · intro w' hSw'
        go_simp
      simp only [Act.put, List.setIfInBounds_toArray, List.set_cons_zero, List.set_cons_succ]
      refine takeH (i := 5) 24 (v := .string ⟨y.toArray⟩) rfl rfl (by kernel_rfl) (by kernel_rfl) (by kernel_rfl) (fun _ _ _ h => h) (Or.inl ⟨by rfl, ?_⟩) (by assumption) ?_
      · intro w' hSw'
        have z3 := below_cell hSw' E3.out
        go_simp
      simp only [Act.put, List.setIfInBounds_toArray, List.set_cons_zero, List.set_cons_succ]
      refine wpAnyH_ready (rs := [6]) (by kernel_rfl) (by simp) ?_
      refine AllReadyH.cons rfl (fun K hK => ?_) AllReadyH.nil
      go_simp
      refine (BS2.out _).mono ?_
      rintro e w5 ⟨rfl, hb5⟩
      have b5 : Hid (Below W1.heap.size W1 w5) := ((Below.refl W1.heap.size W1).drew).trans (hb5.mono (Below.refl W1.heap.size W1).drew.size)
      clear hb5
      go_wp2_with fail
      refine hK.out _ _ (b5.out) (fun hZ1 => ?_)
      clear hK K
      refine wpAnyH_ready (rs := [7]) (by kernel_rfl) (by simp) ?_
      refine AllReadyH.cons rfl (fun K hK => ?_) AllReadyH.nil
      go_simp
      refine (PN2.out w5 (C2.out.trans (b5.out.mono C2.out.size))).mono ?_
      rintro e w6 ⟨rfl, hb6⟩
      have b6 : Hid (Below W1.heap.size W1 w6) := b5.out.trans (hb6.mono b5.out.size)
      clear hb6 b5
      go_wp2_with fail
      refine hK.out _ _ (b6.out) (fun hZ2 => ?_)
      clear hK K
      refine takeH (i := 8) 7 (v := .string ⟨Q3.toArray⟩) rfl rfl (by kernel_rfl) (by kernel_rfl) (by kernel_rfl) (fun _ _ _ h => h) (Or.inl ⟨by rfl, ?_⟩) (by assumption) ?_
      · intro w' hSw'
        go_simp
      simp only [Act.put, List.setIfInBounds_toArray, List.set_cons_zero, List.set_cons_succ]
      refine wpAnyH_done (by kernel_rfl) ?_ _
      have f2 := below_cell b6.out E2.out
      cases sah with
      | true =>
        simp only [if_true] at NB
        go_wp2_with fail
        refine wp_region_held_drew (S := fun w' => Below W1.heap.size W1 w') (by kernel_rfl) (b6.out.drew) (fun hY => ?_)
        refine takeH (i := 0) 29 (v := .agg #[.int .i64 (sa : Int), .int .i64 (sb : Int), .bool true]) rfl rfl (by kernel_rfl) (by kernel_rfl) (by kernel_rfl) (fun _ _ _ h => h) (Or.inl ⟨by rfl, ?_⟩) (by assumption) ?_
        · intro w' hSw'
          have z0 := below_cell hSw' E0.out
          have z1 := below_cell hSw' E1.out
          have z2 := below_cell hSw' E2.out
          go_simp
        simp only [Act.put, List.setIfInBounds_toArray, List.set_cons_zero, List.set_cons_succ]
        refine takeH (i := 1) 30 (v := .string ⟨X1.toArray⟩) rfl rfl (by kernel_rfl) (by kernel_rfl) (by kernel_rfl) (fun _ _ _ h => h) (Or.inl ⟨by rfl, ?_⟩) (by assumption) ?_
        · intro w' hSw'
          go_simp
        simp only [Act.put, List.setIfInBounds_toArray, List.set_cons_zero, List.set_cons_succ]
        refine takeH (i := 2) 31 (v := .slice (some ⟨b2, off2, none⟩) m pc) rfl rfl (by kernel_rfl) (by kernel_rfl) (by kernel_rfl) (fun _ _ _ h => h) (Or.inl ⟨by rfl, ?_⟩) (by assumption) ?_
        · intro w' hSw'
          go_simp
        simp only [Act.put, List.setIfInBounds_toArray, List.set_cons_zero, List.set_cons_succ]
        refine takeH (i := 3) 32 (v := .int .i64 (k : Int)) rfl rfl (by kernel_rfl) (by kernel_rfl) (by kernel_rfl) (fun _ _ _ h => h) (Or.inl ⟨by rfl, ?_⟩) (by assumption) ?_
        · intro w' hSw'
          go_simp
        simp only [Act.put, List.setIfInBounds_toArray, List.set_cons_zero, List.set_cons_succ]
        refine takeH (i := 4) 33 (v := .pointer (some ⟨b2, off2 + k, none⟩)) rfl rfl (by kernel_rfl) (by kernel_rfl) (by kernel_rfl) (fun _ _ _ h => h) (Or.inl ⟨by rfl, ?_⟩) (by assumption) ?_
        · intro w' hSw'
          go_simp
        simp only [Act.put, List.setIfInBounds_toArray, List.set_cons_zero, List.set_cons_succ]
        refine takeH (i := 5) 34 (v := .string ⟨y.toArray⟩) rfl rfl (by kernel_rfl) (by kernel_rfl) (by kernel_rfl) (fun _ _ _ h => h) (Or.inl ⟨by rfl, ?_⟩) (by assumption) ?_
        · intro w' hSw'
          have z3 := below_cell hSw' E3.out
          go_simp
        simp only [Act.put, List.setIfInBounds_toArray, List.set_cons_zero, List.set_cons_succ]
        refine wpAnyH_ready (rs := [6]) (by kernel_rfl) (by simp) ?_
        refine AllReadyH.cons rfl (fun K hK => ?_) AllReadyH.nil
        go_simp
        refine (BS1.out _).mono ?_
        rintro e w7 ⟨rfl, hb7⟩
        have b7 : Hid (Below W1.heap.size W1 w7) := (b6.out.drew).trans (hb7.mono b6.out.drew.size)
        clear hb7
        go_wp2_with fail
        refine hK.out _ _ (b7.out) (fun hY1 => ?_)
        clear hK K
        refine wpAnyH_ready (rs := [7]) (by kernel_rfl) (by simp) ?_
        refine AllReadyH.cons rfl (fun K hK => ?_) AllReadyH.nil
        go_simp
        refine (PN1.out w7 (C2.out.trans (b7.out.mono C2.out.size))).mono ?_
        rintro e w8 ⟨rfl, hb8⟩
        have b8 : Hid (Below W1.heap.size W1 w8) := b7.out.trans (hb8.mono b7.out.size)
        clear hb8 b7
        go_wp2_with fail
        refine hK.out _ _ (b8.out) (fun hY2 => ?_)
        clear hK K
        refine takeH (i := 8) 6 (v := .string ⟨(nodeL y X1).toArray⟩) rfl rfl (by kernel_rfl) (by kernel_rfl) (by kernel_rfl) (fun _ _ _ h => h) (Or.inl ⟨by rfl, ?_⟩) (by assumption) ?_
        · intro w' hSw'
          go_simp
        simp only [Act.put, List.setIfInBounds_toArray, List.set_cons_zero, List.set_cons_succ]
        refine wpAnyH_done (by kernel_rfl) ?_ _
        have B8 := keep (C2.out.trans (b8.out.mono C2.out.size))
        clear f2
        go_wp2
        go_roundw
        case rel => exact ⟨k + 1, by omega, by go_num, by rw [NB.out], by rw [NB.out], B8.out⟩
        case measure => simp [intOf]; omega
      | false =>
        simp only [Bool.false_eq_true, if_false] at NB
        have B8 := keep (C2.out.trans (b6.out.mono C2.out.size))
        go_wp2
        go_roundw
        case rel => exact ⟨k + 1, by omega, by go_num, by rw [NB.out], by rw [NB.out], B8.out⟩
        case measure => simp [intOf]; omega
    · obtain rfl : k = m := by omega
      have hall : R.take k = R := List.take_of_length_le (by rw [HRL.out]; exact Nat.le_refl _)
      have hall2 : ps.take k = ps := List.take_of_length_le (by rw [HPL.out]; exact Nat.le_refl _)
      rw [hall, hall2]
      obtain ⟨⟨X1, X2⟩, hX⟩ : ∃ X, Mt.both nodeL (x, x) R ps = X := ⟨_, rfl⟩
      rw [hX]
      have HXX := keep hX
      clear hall hall2 hX
      simp only
      go_wp2
      go_ret2
      rw [HXX.out]
      exact ⟨rfl, C1.out⟩
end Go.Proofs.YtelebhcaljepaabDoor
