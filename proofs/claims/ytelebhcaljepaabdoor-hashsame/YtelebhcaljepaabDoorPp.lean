/- The walk of Collide. -/
import Derived.Test.YtelebhcaljepaabDoorPj
namespace Go.Proofs.YtelebhcaljepaabDoor
open Go.RowKit

theorem ClA.form {w w' : World} {leaf : List UInt8} {i n : Int} {ps : List (List UInt8)} {e : Ending} (h : ClA w leaf i n ps e w') : (∃ ao m c T f, e = .returned (.tuple #[.slice ao m c, .string T, .int .i64 f])) ∧ Below w.heap.size w w' := by
  refine ⟨?_, h.2⟩
  have h1 := h.1
  split at h1
  · split at h1
    · obtain ⟨v, h2, h3⟩ := h1
      obtain ⟨ao, c, rfl⟩ := own_is h3
      exact ⟨_, _, _, _, _, h2⟩
    · exact ⟨_, _, _, _, _, h1⟩
  · exact ⟨_, _, _, _, _, h1⟩
theorem ClA.bad {w w' : World} {leaf : List UInt8} {i n : Int} {ps : List (List UInt8)} {e : Ending} (h : ClA w leaf i n ps e w') (hb : inRange i n = false ∨ climbOk leaf i.toNat n.toNat ps = false) : (∃ ao m c T f, e = .returned (.tuple #[.slice ao m c, .string T, .int .i64 f]) ∧ ¬ f = 0) ∧ Below w.heap.size w w' := by
  refine ⟨?_, h.2⟩
  have h1 := h.1
  rcases hb with hb | hb
  · rw [hb] at h1
    exact ⟨_, _, _, _, _, h1, by decide⟩
  · split at h1
    · rw [hb] at h1
      exact ⟨_, _, _, _, _, h1, by decide⟩
    · exact ⟨_, _, _, _, _, h1, by decide⟩
theorem ClA.good {w w' : World} {leaf : List UInt8} {i n : Int} {ps : List (List UInt8)} {e : Ending} (h : ClA w leaf i n ps e w') (hr : inRange i n = true) (hc : climbOk leaf i.toNat n.toNat ps = true) : (∃ ao c, e = .returned (.tuple #[.slice ao (prs leaf (Mt.sides i.toNat n.toNat) ps).length c, .string ⟨(Mt.top nodeL leaf (Mt.sides i.toNat n.toNat) ps).toArray⟩, .int .i64 0]) ∧ RSrc pairKind w' ao (prs leaf (Mt.sides i.toNat n.toNat) ps).length c (prs leaf (Mt.sides i.toNat n.toNat) ps)) ∧ Below w.heap.size w w' := by
  refine ⟨?_, h.2⟩
  have h1 := h.1
  rw [hr, if_pos rfl, hc, if_pos rfl] at h1
  obtain ⟨v, h2, h3⟩ := h1
  obtain ⟨ao, c, rfl, hs, _⟩ := RSrc.own pairKind_ok h3 (fun _ _ => trivial)
  exact ⟨_, _, h2, hs⟩
theorem pair_cells {w : World} {b off n c : Nat} {rs : List (List UInt8 × List UInt8)} (h : RSrc pairKind w (some ⟨b, off, none⟩) n c rs) {i : Nat} {s : List UInt8 × List UInt8} (hs : rs[i]? = some s) :
    w.cell? ⟨b, off + i * 2, none⟩ = some (.string ⟨s.1.toArray⟩) ∧ w.cell? ⟨b, off + i * 2 + 1, none⟩ = some (.string ⟨s.2.toArray⟩) := by
  have one : ∀ (j : Nat) (u : Value), (pairKind.vals s)[j]? = some u → w.cell? ⟨b, off + i * 2 + j, none⟩ = some u := fun j u hu => by
    have hj : j < 2 := by have := (List.getElem?_eq_some_iff.1 hu).1; simpa [pairKind] using this
    have h1 := h.cells _ rfl (i * 2 + j) u ((rv_at pairKind_ok j hs hj).trans hu)
    rw [Addr.add_mid] at h1
    rw [Nat.add_assoc]
    exact h1
  exact ⟨one 0 _ rfl, one 1 _ rfl⟩
/-- What the program's Collide answers. -/
def ColB (w : World) (r : Option (List UInt8 × List UInt8)) (e : Ending) (w' : World) : Prop :=
  (match r with
   | none => e = .returned (.tuple #[.slice none 0 0, .slice none 0 0, .bool false])
   | some (l, q) => ∃ a1 m1 c1 a2 m2 c2, e = .returned (.tuple #[.slice a1 m1 c1, .slice a2 m2 c2, .bool true]) ∧ Src w' a1 m1 c1 (1 :: l) ∧ Src w' a2 m2 c2 (1 :: q) ∧ m1 ≤ 1000 ∧ m2 ≤ 1000 ∧ c1 ≤ maxLen ∧ c2 ≤ maxLen) ∧ Below w.heap.size w w'
theorem ColB.no {w w' : World} {r : Option (List UInt8 × List UInt8)} (h : r = none) (hb : Below w.heap.size w w') : ColB w r (.returned (.tuple #[.slice none 0 0, .slice none 0 0, .bool false])) w' := by
  subst h
  exact ⟨rfl, hb⟩
theorem ColB.yes {w w' : World} {l q : List UInt8} {a1 m1 c1 a2 m2 c2} (h1 : Src w' a1 m1 c1 (1 :: l)) (h2 : Src w' a2 m2 c2 (1 :: q)) (h3 : m1 ≤ 1000) (h4 : m2 ≤ 1000) (h5 : c1 ≤ maxLen) (h6 : c2 ≤ maxLen) (hb : Below w.heap.size w w') : ColB w (some (l, q)) (.returned (.tuple #[.slice a1 m1 c1, .slice a2 m2 c2, .bool true])) w' :=
  ⟨⟨a1, m1, c1, a2, m2, c2, rfl, h1, h2, h3, h4, h5, h6⟩, hb⟩
theorem prs_32 : ∀ (s : List Bool) (ps : List (List UInt8)) (x : List UInt8), x.length = 32 → (∀ e ∈ ps, e.length = 32) → ∀ p ∈ prs x s ps, p.1.length = 32 ∧ p.2.length = 32
  | b :: s, y :: ps, x, hx, hp, p, h => by
    unfold prs at h
    rcases List.mem_cons.1 h with rfl | h
    · cases b
      · exact ⟨hp y (by simp), hx⟩
      · exact ⟨hx, hp y (by simp)⟩
    · exact prs_32 s ps _ (by unfold Mt.up; split <;> exact nodeL_len _ _) (fun e he => hp e (by simp [he])) p h
  | [], _, x, _, _, p, h => by simp [prs] at h
  | _ :: _, [], x, _, _, p, h => by simp [prs] at h
set_option maxHeartbeats 4000000 in
set_option maxRecDepth 100000 in
theorem collide_any (i n : Int) (a : List UInt8) (ap : Option Addr) (am ac : Nat) (pa : List (List UInt8)) (b : List UInt8) (bp : Option Addr) (bm bc : Nat) (pb : List (List UInt8)) (w : World) (hL : Ld w) (ha : RSrc strKind w ap am ac pa) (hb : RSrc strKind w bp bm bc pb) (ham : am ≤ 4611686018427387904) (hbm : bm ≤ 4611686018427387904) :
    Calls Tryd.prog 8 #[.int .i64 i, .int .i64 n, .string ⟨a.toArray⟩, .slice ap am ac, .string ⟨b.toArray⟩, .slice bp bm bc] w (ColB w (collL i n a pa b pb)) := by
  have HLd := keep hL
  have C1 := keep (climb_any a i n ap am ac pa w hL ha ham)
  have C2 : Hid (∀ w', Below w.heap.size w w' → Calls Tryd.prog 18 #[.string ⟨b.toArray⟩, .int .i64 i, .int .i64 n, .slice bp bm bc] w' (ClA w' b i n pb)) := fun w' h => climb_any b i n bp bm bc pb w' (HLd.out.below h) (hb.below strKind_ok h) hbm
  clear hL ha hb ham hbm
  by_cases h1 : inRange i n = false ∨ climbOk a i.toNat n.toNat pa = false
  · have hN : collL i n a pa b pb = none := collL_no (h1.elim .inl (fun h => .inr (.inl h)))
    rw [hN]
    have H1 := keep h1
    clear hN h1
    go_enter Tryd.func8, Tryd.ntmps8
    go_wp2_with fail
    refine C1.out.mono ?_
    rintro e w1 hA
    obtain ⟨⟨xo, xm, xc, T, f, rfl, hf⟩, hb1⟩ := hA.bad H1.out
    have B1 := keep hb1
    clear hA hb1 C1
    go_wp2_with fail
    refine (C2.out w1 B1.out).mono ?_
    rintro e w2 hA
    obtain ⟨⟨yo, ym, yc, T2, f2, rfl⟩, hb2⟩ := hA.form
    have B2 := keep (B1.out.trans (hb2.mono B1.out.size))
    clear hA hb2 C2
    go_wp2
    go_ret3
    exact ColB.no rfl B2.out
  · have hr : inRange i n = true := by cases h : inRange i n with | true => rfl | false => exact absurd (.inl h) h1
    have hca : climbOk a i.toNat n.toNat pa = true := by cases h : climbOk a i.toNat n.toNat pa with | true => rfl | false => exact absurd (.inr h) h1
    have HR := keep hr
    have HCA := keep hca
    by_cases h2 : climbOk b i.toNat n.toNat pb = false
    · have hN : collL i n a pa b pb = none := collL_no (.inr (.inr h2))
      rw [hN]
      have H2 := keep h2
      clear hN h1 h2 hr hca
      go_enter Tryd.func8, Tryd.ntmps8
      go_wp2_with fail
      refine C1.out.mono ?_
      rintro e w1 hA
      obtain ⟨⟨xo, xc, rfl, _⟩, hb1⟩ := hA.good HR.out HCA.out
      have B1 := keep hb1
      clear hA hb1 C1
      go_wp2_with fail
      refine (C2.out w1 B1.out).mono ?_
      rintro e w2 hA
      obtain ⟨⟨yo, ym, yc, T2, f2, rfl, hf⟩, hb2⟩ := hA.bad (.inr H2.out)
      have B2 := keep (B1.out.trans (hb2.mono B1.out.size))
      clear hA hb2 C2
      go_wp2
      go_ret3
      exact ColB.no rfl B2.out
    · have hcb : climbOk b i.toNat n.toNat pb = true := by cases h : climbOk b i.toNat n.toNat pb with | true => rfl | false => exact absurd h h2
      have HCB := keep hcb
      have CE := collL_climb i n a pa b pb hr hca hcb
      rw [CE]
      unfold climbOk at hca hcb
      simp only [Bool.and_eq_true, decide_eq_true_eq] at hca hcb
      have P32 := keep (prs_32 (Mt.sides i.toNat n.toNat) pa a hca.2.2 (wholeL_mem hca.2.1))
      have Q32 := keep (prs_32 (Mt.sides i.toNat n.toNat) pb b hcb.2.2 (wholeL_mem hcb.2.1))
      have PL := keep (prs_len (Mt.sides i.toNat n.toNat) pa a hca.1.symm)
      have QL := keep (prs_len (Mt.sides i.toNat n.toNat) pb b hcb.1.symm)
      have LB : (Mt.sides i.toNat n.toNat).length ≤ 40 := by
        unfold inRange at hr
        simp only [Bool.and_eq_true, decide_eq_true_eq] at hr
        exact Nat.le_trans (Mt.sides_len n.toNat i.toNat (by omega)) (Mt.lv_le (by show n.toNat ≤ 2 ^ 40; omega))
      have G1 : Hid (∀ e w', ClA w a i n pa e w' → (∃ ao c, e = .returned (.tuple #[.slice ao (prs a (Mt.sides i.toNat n.toNat) pa).length c, .string ⟨(Mt.top nodeL a (Mt.sides i.toNat n.toNat) pa).toArray⟩, .int .i64 0]) ∧ RSrc pairKind w' ao (prs a (Mt.sides i.toNat n.toNat) pa).length c (prs a (Mt.sides i.toNat n.toNat) pa)) ∧ Below w.heap.size w w') := fun e w' h => h.good HR.out HCA.out
      have G2 : Hid (∀ w1 e w', ClA w1 b i n pb e w' → (∃ ao c, e = .returned (.tuple #[.slice ao (prs b (Mt.sides i.toNat n.toNat) pb).length c, .string ⟨(Mt.top nodeL b (Mt.sides i.toNat n.toNat) pb).toArray⟩, .int .i64 0]) ∧ RSrc pairKind w' ao (prs b (Mt.sides i.toNat n.toNat) pb).length c (prs b (Mt.sides i.toNat n.toNat) pb)) ∧ Below w1.heap.size w1 w') := fun w1 e w' h => h.good HR.out HCB.out
      obtain ⟨T1, hT1⟩ : ∃ T, Mt.top nodeL a (Mt.sides i.toNat n.toNat) pa = T := ⟨_, rfl⟩
      obtain ⟨T2, hT2⟩ : ∃ T, Mt.top nodeL b (Mt.sides i.toNat n.toNat) pb = T := ⟨_, rfl⟩
      obtain ⟨P, hP⟩ : ∃ P, prs a (Mt.sides i.toNat n.toNat) pa = P := ⟨_, rfl⟩
      obtain ⟨Q, hQ⟩ : ∃ Q, prs b (Mt.sides i.toNat n.toNat) pb = Q := ⟨_, rfl⟩
      obtain ⟨L, hLn⟩ : ∃ L, (Mt.sides i.toNat n.toNat).length = L := ⟨_, rfl⟩
      rw [hT1, hP] at G1
      rw [hT2, hQ] at G2
      rw [hP] at P32 PL
      rw [hQ] at Q32 QL
      rw [hLn] at PL QL LB
      rw [PL.out] at G1
      rw [QL.out] at G2
      rw [hT1, hT2, hP, hQ, hLn]
      clear hT1 hT2 hP hQ hLn CE h1 h2 hr hca hcb HR HCA HCB
      by_cases hT : T1 = T2
      · subst hT
        by_cases hab : a = b
        · rw [if_pos (.inr hab)]
          subst hab
          go_enter Tryd.func8, Tryd.ntmps8
          go_wp2_with fail
          refine C1.out.mono ?_
          rintro e w1 hA
          obtain ⟨⟨xo, xc, rfl, _⟩, hb1⟩ := G1.out _ _ hA
          have B1 := keep hb1
          clear hA hb1 C1
          go_wp2_with fail
          refine (C2.out w1 B1.out).mono ?_
          rintro e w2 hA
          obtain ⟨⟨yo, yc, rfl, _⟩, hb2⟩ := G2.out _ _ _ hA
          have B2 := keep (B1.out.trans (hb2.mono B1.out.size))
          clear hA hb2 C2
          go_wp2
          go_ret3
          exact ColB.no rfl B2.out
        · rw [if_neg (by simp [hab])]
          have hne : (a == b) = false := by simpa using hab
          clear hab
          go_enter Tryd.func8, Tryd.ntmps8
          go_wp2_with fail
          refine C1.out.mono ?_
          rintro e w1 hA
          obtain ⟨⟨xo, xc, rfl, hx1⟩, hb1⟩ := G1.out _ _ hA
          have B1 := keep hb1
          clear hA hb1 C1
          go_wp2_with fail
          refine (C2.out w1 B1.out).mono ?_
          rintro e w2 hA
          obtain ⟨⟨yo, yc, rfl, hy2⟩, hb2⟩ := G2.out _ _ _ hA
          have B2 := keep (B1.out.trans (hb2.mono B1.out.size))
          have XS := keep (hx1.below pairKind_ok hb2)
          have YS := keep hy2
          clear hA hb2 C2 hx1 hy2
          go_wp2
          go_loopw [21] (fun v wr => ∃ k : Nat, k ≤ L ∧ v = .int .i64 ((k : Int) - 1) ∧ Hid (Below w2.heap.size w2 wr ∧ collP P Q L = collP P Q k)) (fun v _ => (intOf v + 1).toNat)
          case atStart => exact ⟨L, Nat.le_refl _, by first | rfl | go_num, Below.refl _ _, rfl⟩
          case round =>
            obtain ⟨k, hk, rfl, hI⟩ := hrel
            have B3 := keep hI.out.1
            have HC := keep hI.out.2
            clear hI
            cases k with
            | zero =>
              have e0 := keep (show collP P Q L = none from HC.out)
              clear HC
              go_wp2
              go_ret3
              exact ColB.no e0.out (B2.out.trans (B3.out.mono B2.out.size))
            | succ k =>
              have e1 : ((k + 1 : Nat) : Int) - 1 = (k : Int) := by omega
              rw [e1]
              clear e1
              obtain ⟨xb, xoff, rfl, _, _⟩ := XS.out.form pairKind_ok (by omega)
              obtain ⟨yb, yoff, rfl, _, _⟩ := YS.out.form pairKind_ok (by omega)
              obtain ⟨⟨x1, x2⟩, hxk⟩ : ∃ s, P[k]? = some s := ⟨P[k]'(by rw [PL.out]; omega), List.getElem?_eq_getElem _⟩
              obtain ⟨⟨y1, y2⟩, hyk⟩ : ∃ s, Q[k]? = some s := ⟨Q[k]'(by rw [QL.out]; omega), List.getElem?_eq_getElem _⟩
              obtain ⟨c0, c1⟩ := pair_cells XS.out hxk
              obtain ⟨c2, c3⟩ := pair_cells YS.out hyk
              have D0 := keep (below_cell B3.out c0)
              have D1 := keep (below_cell B3.out c1)
              have D2 := keep (below_cell B3.out c2)
              have D3 := keep (below_cell B3.out c3)
              simp only at D0 D1 D2 D3
              have lx := P32.out _ (List.mem_of_getElem? hxk)
              have ly := Q32.out _ (List.mem_of_getElem? hyk)
              simp only at lx ly
              have HS : Hid (collP P Q (k + 1) = if (x1, x2) = (y1, y2) then collP P Q k else some (x1 ++ x2, y1 ++ y2)) := by
                show _ = _
                conv => lhs; unfold collP
                rw [List.getD_eq_getElem?_getD, List.getD_eq_getElem?_getD, hxk, hyk]
                rfl
              have IX : Hid (∀ w', Calls Tryd.prog 19 #[.agg #[.string ⟨x1.toArray⟩, .string ⟨x2.toArray⟩]] w' fun e w'' => ∃ v, e = .returned v ∧ New w' w'' v (1 + x1.length + x2.length) (1 :: (x1 ++ x2))) := fun w' => input_any x1 x2 w' (by omega)
              have IY : Hid (∀ w', Calls Tryd.prog 19 #[.agg #[.string ⟨y1.toArray⟩, .string ⟨y2.toArray⟩]] w' fun e w'' => ∃ v, e = .returned v ∧ New w' w'' v (1 + y1.length + y2.length) (1 :: (y1 ++ y2))) := fun w' => input_any y1 y2 w' (by omega)
              have LX : Hid (1 + x1.length + x2.length ≤ 1000) := by show _ ≤ _; omega
              have LY : Hid (1 + y1.length + y2.length ≤ 1000) := by show _ ≤ _; omega
              have k0 : (0 : Int) ≤ (k : Int) := by omega
              have k1 : (k : Int) < (L : Int) := by omega
              clear c0 c1 c2 c3 hxk hyk lx ly
              by_cases hp : (x1, x2) = (y1, y2)
              · obtain ⟨rfl, rfl⟩ := Prod.mk.inj hp
                have HS2 := keep HS.out
                rw [if_pos rfl] at HS2
                clear HS hp
                go_wp2_with fail
                refine wp_region_held_drew (S := fun w' => Below wr.heap.size wr w') (by kernel_rfl) ((Below.refl wr.heap.size wr).drew) (fun hZ => ?_)
                refine takeH (i := 0) 63 (v := .slice (some ⟨xb, xoff, none⟩) L xc) rfl rfl (by kernel_rfl) (by kernel_rfl) (by kernel_rfl) (fun _ _ _ h => h) (Or.inl ⟨by rfl, ?_⟩) (by assumption) ?_
                · intro w' hSw'
                  go_simp
                simp only [Act.put, List.setIfInBounds_toArray, List.set_cons_zero, List.set_cons_succ]
                refine takeH (i := 1) 64 (v := .int .i64 (k : Int)) rfl rfl (by kernel_rfl) (by kernel_rfl) (by kernel_rfl) (fun _ _ _ h => h) (Or.inl ⟨by rfl, ?_⟩) (by assumption) ?_
                · intro w' hSw'
                  go_simp
                simp only [Act.put, List.setIfInBounds_toArray, List.set_cons_zero, List.set_cons_succ]
                refine takeH (i := 2) 65 (v := .pointer (some ⟨xb, xoff + k * 2, none⟩)) rfl rfl (by kernel_rfl) (by kernel_rfl) (by kernel_rfl) (fun _ _ _ h => h) (Or.inl ⟨by rfl, ?_⟩) (by assumption) ?_
                · intro w' hSw'
                  go_simp
                simp only [Act.put, List.setIfInBounds_toArray, List.set_cons_zero, List.set_cons_succ]
                refine takeH (i := 3) 66 (v := .agg #[.string ⟨x1.toArray⟩, .string ⟨x2.toArray⟩]) rfl rfl (by kernel_rfl) (by kernel_rfl) (by kernel_rfl) (fun _ _ _ h => h) (Or.inl ⟨by rfl, ?_⟩) (by assumption) ?_
                · intro w' hSw'
                  have z0 := below_cell hSw' D0.out
                  have z1 := below_cell hSw' D1.out
                  go_simp
                simp only [Act.put, List.setIfInBounds_toArray, List.set_cons_zero, List.set_cons_succ]
                refine takeH (i := 4) 67 (v := .slice (some ⟨yb, yoff, none⟩) L yc) rfl rfl (by kernel_rfl) (by kernel_rfl) (by kernel_rfl) (fun _ _ _ h => h) (Or.inl ⟨by rfl, ?_⟩) (by assumption) ?_
                · intro w' hSw'
                  go_simp
                simp only [Act.put, List.setIfInBounds_toArray, List.set_cons_zero, List.set_cons_succ]
                refine takeH (i := 5) 68 (v := .int .i64 (k : Int)) rfl rfl (by kernel_rfl) (by kernel_rfl) (by kernel_rfl) (fun _ _ _ h => h) (Or.inl ⟨by rfl, ?_⟩) (by assumption) ?_
                · intro w' hSw'
                  go_simp
                simp only [Act.put, List.setIfInBounds_toArray, List.set_cons_zero, List.set_cons_succ]
                refine takeH (i := 6) 69 (v := .pointer (some ⟨yb, yoff + k * 2, none⟩)) rfl rfl (by kernel_rfl) (by kernel_rfl) (by kernel_rfl) (fun _ _ _ h => h) (Or.inl ⟨by rfl, ?_⟩) (by assumption) ?_
                · intro w' hSw'
                  go_simp
                simp only [Act.put, List.setIfInBounds_toArray, List.set_cons_zero, List.set_cons_succ]
                refine takeH (i := 7) 70 (v := .agg #[.string ⟨x1.toArray⟩, .string ⟨x2.toArray⟩]) rfl rfl (by kernel_rfl) (by kernel_rfl) (by kernel_rfl) (fun _ _ _ h => h) (Or.inl ⟨by rfl, ?_⟩) (by assumption) ?_
                · intro w' hSw'
                  have z2 := below_cell hSw' D2.out
                  have z3 := below_cell hSw' D3.out
                  go_simp
                simp only [Act.put, List.setIfInBounds_toArray, List.set_cons_zero, List.set_cons_succ]
                refine takeH (i := 8) 71 (v := .bool false) rfl rfl (by kernel_rfl) (by kernel_rfl) (by kernel_rfl) (fun _ _ _ h => h) (Or.inl ⟨by rfl, ?_⟩) (by assumption) ?_
                · intro w' hSw'
                  go_simp
                simp only [Act.put, List.setIfInBounds_toArray, List.set_cons_zero, List.set_cons_succ]
                refine wpAnyH_done (by kernel_rfl) ?_ _
                have B4 : Hid (Below w2.heap.size w2 wr.drew) := B3.out.drew
                go_wp2
                go_roundw
                case rel => exact ⟨k, by omega, by first | rfl | go_num, B4.out, HC.out.trans HS2.out⟩
                case measure => simp [intOf]
              · have HS2 := keep HS.out
                rw [if_neg hp] at HS2
                have HCC := keep (HC.out.trans HS2.out)
                have hpd : ¬ (x1 = y1 ∧ x2 = y2) := fun h => hp (by rw [h.1, h.2])
                clear HS hp HS2 HC
                go_wp2_with fail
                refine wp_region_held_drew (S := fun w' => Below wr.heap.size wr w') (by kernel_rfl) ((Below.refl wr.heap.size wr).drew) (fun hZ => ?_)
                refine takeH (i := 0) 63 (v := .slice (some ⟨xb, xoff, none⟩) L xc) rfl rfl (by kernel_rfl) (by kernel_rfl) (by kernel_rfl) (fun _ _ _ h => h) (Or.inl ⟨by rfl, ?_⟩) (by assumption) ?_
                · intro w' hSw'
                  go_simp
                simp only [Act.put, List.setIfInBounds_toArray, List.set_cons_zero, List.set_cons_succ]
                refine takeH (i := 1) 64 (v := .int .i64 (k : Int)) rfl rfl (by kernel_rfl) (by kernel_rfl) (by kernel_rfl) (fun _ _ _ h => h) (Or.inl ⟨by rfl, ?_⟩) (by assumption) ?_
                · intro w' hSw'
                  go_simp
                simp only [Act.put, List.setIfInBounds_toArray, List.set_cons_zero, List.set_cons_succ]
                refine takeH (i := 2) 65 (v := .pointer (some ⟨xb, xoff + k * 2, none⟩)) rfl rfl (by kernel_rfl) (by kernel_rfl) (by kernel_rfl) (fun _ _ _ h => h) (Or.inl ⟨by rfl, ?_⟩) (by assumption) ?_
                · intro w' hSw'
                  go_simp
                simp only [Act.put, List.setIfInBounds_toArray, List.set_cons_zero, List.set_cons_succ]
                refine takeH (i := 3) 66 (v := .agg #[.string ⟨x1.toArray⟩, .string ⟨x2.toArray⟩]) rfl rfl (by kernel_rfl) (by kernel_rfl) (by kernel_rfl) (fun _ _ _ h => h) (Or.inl ⟨by rfl, ?_⟩) (by assumption) ?_
                · intro w' hSw'
                  have z0 := below_cell hSw' D0.out
                  have z1 := below_cell hSw' D1.out
                  go_simp
                simp only [Act.put, List.setIfInBounds_toArray, List.set_cons_zero, List.set_cons_succ]
                refine takeH (i := 4) 67 (v := .slice (some ⟨yb, yoff, none⟩) L yc) rfl rfl (by kernel_rfl) (by kernel_rfl) (by kernel_rfl) (fun _ _ _ h => h) (Or.inl ⟨by rfl, ?_⟩) (by assumption) ?_
                · intro w' hSw'
                  go_simp
                simp only [Act.put, List.setIfInBounds_toArray, List.set_cons_zero, List.set_cons_succ]
                refine takeH (i := 5) 68 (v := .int .i64 (k : Int)) rfl rfl (by kernel_rfl) (by kernel_rfl) (by kernel_rfl) (fun _ _ _ h => h) (Or.inl ⟨by rfl, ?_⟩) (by assumption) ?_
                · intro w' hSw'
                  go_simp
                simp only [Act.put, List.setIfInBounds_toArray, List.set_cons_zero, List.set_cons_succ]
                refine takeH (i := 6) 69 (v := .pointer (some ⟨yb, yoff + k * 2, none⟩)) rfl rfl (by kernel_rfl) (by kernel_rfl) (by kernel_rfl) (fun _ _ _ h => h) (Or.inl ⟨by rfl, ?_⟩) (by assumption) ?_
                · intro w' hSw'
                  go_simp
                simp only [Act.put, List.setIfInBounds_toArray, List.set_cons_zero, List.set_cons_succ]
                refine takeH (i := 7) 70 (v := .agg #[.string ⟨y1.toArray⟩, .string ⟨y2.toArray⟩]) rfl rfl (by kernel_rfl) (by kernel_rfl) (by kernel_rfl) (fun _ _ _ h => h) (Or.inl ⟨by rfl, ?_⟩) (by assumption) ?_
                · intro w' hSw'
                  have z2 := below_cell hSw' D2.out
                  have z3 := below_cell hSw' D3.out
                  go_simp
                simp only [Act.put, List.setIfInBounds_toArray, List.set_cons_zero, List.set_cons_succ]
                refine takeH (i := 8) 71 (v := .bool true) rfl rfl (by kernel_rfl) (by kernel_rfl) (by kernel_rfl) (fun _ _ _ h => h) (Or.inl ⟨by rfl, ?_⟩) (by assumption) ?_
                · intro w' hSw'
                  have hd : ¬ (x1 = y1 ∧ x2 = y2) := hpd
                  go_simp
                  exact fun h1 h2 => hd ⟨h1, h2⟩
                simp only [Act.put, List.setIfInBounds_toArray, List.set_cons_zero, List.set_cons_succ]
                refine wpAnyH_done (by kernel_rfl) ?_ _
                clear hpd
                go_wp2_with fail
                refine wp_region_held_drew (S := fun w' => Below wr.heap.size wr w') (by kernel_rfl) ((Below.refl wr.heap.size wr).drew.drew) (fun hY => ?_)
                refine takeH (i := 0) 72 (v := .slice (some ⟨xb, xoff, none⟩) L xc) rfl rfl (by kernel_rfl) (by kernel_rfl) (by kernel_rfl) (fun _ _ _ h => h) (Or.inl ⟨by rfl, ?_⟩) (by assumption) ?_
                · intro w' hSw'
                  go_simp
                simp only [Act.put, List.setIfInBounds_toArray, List.set_cons_zero, List.set_cons_succ]
                refine takeH (i := 1) 73 (v := .int .i64 (k : Int)) rfl rfl (by kernel_rfl) (by kernel_rfl) (by kernel_rfl) (fun _ _ _ h => h) (Or.inl ⟨by rfl, ?_⟩) (by assumption) ?_
                · intro w' hSw'
                  go_simp
                simp only [Act.put, List.setIfInBounds_toArray, List.set_cons_zero, List.set_cons_succ]
                refine takeH (i := 2) 74 (v := .pointer (some ⟨xb, xoff + k * 2, none⟩)) rfl rfl (by kernel_rfl) (by kernel_rfl) (by kernel_rfl) (fun _ _ _ h => h) (Or.inl ⟨by rfl, ?_⟩) (by assumption) ?_
                · intro w' hSw'
                  go_simp
                simp only [Act.put, List.setIfInBounds_toArray, List.set_cons_zero, List.set_cons_succ]
                refine takeH (i := 3) 75 (v := .agg #[.string ⟨x1.toArray⟩, .string ⟨x2.toArray⟩]) rfl rfl (by kernel_rfl) (by kernel_rfl) (by kernel_rfl) (fun _ _ _ h => h) (Or.inl ⟨by rfl, ?_⟩) (by assumption) ?_
                · intro w' hSw'
                  have z0 := below_cell hSw' D0.out
                  have z1 := below_cell hSw' D1.out
                  go_simp
                simp only [Act.put, List.setIfInBounds_toArray, List.set_cons_zero, List.set_cons_succ]
                refine takeH (i := 5) 77 (v := .slice (some ⟨yb, yoff, none⟩) L yc) rfl rfl (by kernel_rfl) (by kernel_rfl) (by kernel_rfl) (fun _ _ _ h => h) (Or.inl ⟨by rfl, ?_⟩) (by assumption) ?_
                · intro w' hSw'
                  go_simp
                simp only [Act.put, List.setIfInBounds_toArray, List.set_cons_zero, List.set_cons_succ]
                refine takeH (i := 6) 78 (v := .int .i64 (k : Int)) rfl rfl (by kernel_rfl) (by kernel_rfl) (by kernel_rfl) (fun _ _ _ h => h) (Or.inl ⟨by rfl, ?_⟩) (by assumption) ?_
                · intro w' hSw'
                  go_simp
                simp only [Act.put, List.setIfInBounds_toArray, List.set_cons_zero, List.set_cons_succ]
                refine takeH (i := 7) 79 (v := .pointer (some ⟨yb, yoff + k * 2, none⟩)) rfl rfl (by kernel_rfl) (by kernel_rfl) (by kernel_rfl) (fun _ _ _ h => h) (Or.inl ⟨by rfl, ?_⟩) (by assumption) ?_
                · intro w' hSw'
                  go_simp
                simp only [Act.put, List.setIfInBounds_toArray, List.set_cons_zero, List.set_cons_succ]
                refine takeH (i := 8) 80 (v := .agg #[.string ⟨y1.toArray⟩, .string ⟨y2.toArray⟩]) rfl rfl (by kernel_rfl) (by kernel_rfl) (by kernel_rfl) (fun _ _ _ h => h) (Or.inl ⟨by rfl, ?_⟩) (by assumption) ?_
                · intro w' hSw'
                  have z2 := below_cell hSw' D2.out
                  have z3 := below_cell hSw' D3.out
                  go_simp
                simp only [Act.put, List.setIfInBounds_toArray, List.set_cons_zero, List.set_cons_succ]
                refine wpAnyH_ready (rs := [4]) (by kernel_rfl) (by simp) ?_
                refine AllReadyH.cons rfl (fun K hK => ?_) AllReadyH.nil
                go_simp
                refine (IX.out _).mono ?_
                rintro e w5 ⟨v5, rfl, hN5⟩
                obtain ⟨a5, m5, rfl⟩ := own_is hN5.1
                obtain ⟨a5b, c5b, e5, s5, hm5⟩ := hN5.src
                obtain ⟨e5a, _, e5c⟩ := Value.slice.inj e5
                subst e5a
                subst e5c
                have N5 := keep s5
                have M5 := keep hm5
                have b5 : Hid (Below wr.heap.size wr w5) := (Below.refl wr.heap.size wr).drew.drew.trans (hN5.2.mono (Nat.le_refl _))
                clear hN5 s5 e5 hm5
                go_wp2_with fail
                refine hK.out _ _ (b5.out) (fun hY1 => ?_)
                clear hK K
                refine wpAnyH_ready (rs := [9]) (by kernel_rfl) (by simp) ?_
                refine AllReadyH.cons rfl (fun K hK => ?_) AllReadyH.nil
                go_simp
                refine (IY.out w5).mono ?_
                rintro e w6 ⟨v6, rfl, hN6⟩
                obtain ⟨a6, m6, rfl⟩ := own_is hN6.1
                obtain ⟨a6b, c6b, e6, s6, hm6⟩ := hN6.src
                obtain ⟨e6a, _, e6c⟩ := Value.slice.inj e6
                subst e6a
                subst e6c
                have N6 := keep s6
                have M6 := keep hm6
                have N5b := keep (N5.out.below hN6.2)
                have b6 : Hid (Below wr.heap.size wr w6) := b5.out.trans (hN6.2.mono b5.out.size)
                clear hN6 s6 e6 hm6
                go_wp2_with fail
                refine hK.out _ _ (b6.out) (fun hY2 => ?_)
                clear hK K
                refine takeH (i := 10) 12 (v := .slice a5 (1 + x1.length + x2.length) m5) rfl rfl (by kernel_rfl) (by kernel_rfl) (by kernel_rfl) (fun _ _ _ h => h) (Or.inl ⟨by rfl, ?_⟩) (by assumption) ?_
                · intro w' hSw'
                  go_simp
                simp only [Act.put, List.setIfInBounds_toArray, List.set_cons_zero, List.set_cons_succ]
                refine takeH (i := 11) 13 (v := .slice a6 (1 + y1.length + y2.length) m6) rfl rfl (by kernel_rfl) (by kernel_rfl) (by kernel_rfl) (fun _ _ _ h => h) (Or.inl ⟨by rfl, ?_⟩) (by assumption) ?_
                · intro w' hSw'
                  go_simp
                simp only [Act.put, List.setIfInBounds_toArray, List.set_cons_zero, List.set_cons_succ]
                refine takeH (i := 12) 14 (v := .bool true) rfl rfl (by kernel_rfl) (by kernel_rfl) (by kernel_rfl) (fun _ _ _ h => h) (Or.inl ⟨by rfl, ?_⟩) (by assumption) ?_
                · intro w' hSw'
                  go_simp
                simp only [Act.put, List.setIfInBounds_toArray, List.set_cons_zero, List.set_cons_succ]
                refine wpAnyH_done (by kernel_rfl) ?_ _
                go_wp2
                go_ret3
                rw [HCC.out]
                exact ColB.yes N5b.out N6.out LX.out LY.out M5.out M6.out (B2.out.trans ((B3.out.trans (b6.out.mono B3.out.size)).mono B2.out.size))
      · rw [if_pos (.inl hT)]
        have hne : (T1 == T2) = false := by simpa using hT
        clear hT
        go_enter Tryd.func8, Tryd.ntmps8
        go_wp2_with fail
        refine C1.out.mono ?_
        rintro e w1 hA
        obtain ⟨⟨xo, xc, rfl, _⟩, hb1⟩ := G1.out _ _ hA
        have B1 := keep hb1
        clear hA hb1 C1
        go_wp2_with fail
        refine (C2.out w1 B1.out).mono ?_
        rintro e w2 hA
        obtain ⟨⟨yo, yc, rfl, _⟩, hb2⟩ := G2.out _ _ _ hA
        have B2 := keep (B1.out.trans (hb2.mono B1.out.size))
        clear hA hb2 C2
        go_wp2
        go_ret3
        exact ColB.no rfl B2.out
end Go.Proofs.YtelebhcaljepaabDoor
