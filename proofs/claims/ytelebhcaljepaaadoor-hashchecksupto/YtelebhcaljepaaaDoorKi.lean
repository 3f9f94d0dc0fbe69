/- The walk of the document's CheckPath. -/
import Derived.Test.YtelebhcaljepaaaDoorKg
import Derived.Test.YtelebhcaljepaaaDoorKd
namespace Go.Proofs.YtelebhcaljepaaaDoor
open Go.RowKit

set_option maxHeartbeats 2000000 in
set_option maxRecDepth 100000 in
theorem rcheckPath_any (leaf : List UInt8) (i n : Int) (pp : Option Addr) (m pc : Nat) (ps : List (List UInt8)) (rt : List UInt8) (w : World) (hp : RSrc strKind w pp m pc ps) (hm : m ≤ 4611686018427387904) :
    Calls Tryd.prog 22 #[.string ⟨leaf.toArray⟩, .int .i64 i, .int .i64 n, .slice pp m pc, .string ⟨rt.toArray⟩] w fun e w' => e = .returned (.int .i64 (checkP leaf i n ps rt)) ∧ Below w.heap.size w w' := by
  have HP := keep hp
  have HPL := keep hp.len
  clear hp
  cases hr : inRange i n with
  | false =>
    have hA : checkP leaf i n ps rt = 8 := by unfold checkP; rw [hr]; rfl
    rw [hA]
    unfold inRange at hr
    clear hA
    by_cases h1 : n < 1
    · clear hr
      go_enter Tryd.func22, Tryd.ntmps22
      go_wp2
      go_ret
      exact ⟨rfl, Below.refl _ _⟩
    by_cases h2 : 1099511627776 < n
    · clear hr
      go_enter Tryd.func22, Tryd.ntmps22
      go_wp2
      go_ret
      exact ⟨rfl, Below.refl _ _⟩
    by_cases h3 : i < 0
    · clear hr
      go_enter Tryd.func22, Tryd.ntmps22
      go_wp2
      go_ret
      exact ⟨rfl, Below.refl _ _⟩
    have h4 : n ≤ i := by
      rw [decide_eq_true (show 1 ≤ n by omega), decide_eq_true (show n ≤ 1099511627776 by omega), decide_eq_true (show 0 ≤ i by omega)] at hr
      have := of_decide_eq_false hr
      omega
    clear hr
    go_enter Tryd.func22, Tryd.ntmps22
    go_wp2
    go_ret
    exact ⟨rfl, Below.refl _ _⟩
  | true =>
    have hr2 := hr
    unfold inRange at hr2
    simp only [Bool.and_eq_true, decide_eq_true_eq] at hr2
    obtain ⟨r1, r2, r3, r4⟩ := hr2
    obtain ⟨I, rfl⟩ : ∃ I : Nat, i = (I : Int) := ⟨i.toNat, by omega⟩
    obtain ⟨N, rfl⟩ : ∃ N : Nat, n = (N : Int) := ⟨n.toNat, by omega⟩
    have hA : Hid (checkP leaf (I : Int) (N : Int) ps rt = if pathOk leaf I N ps rt then 0 else 9) := by show _ = _; unfold checkP; rw [hr]; rfl
    have SD := keep (rsides_any N I (by omega) (by omega) w)
    have SL := keep (Nat.le_trans (Mt.sides_len N I (by omega)) (Mt.lv_le (n := N) (j := 40) (by omega)))
    have q1 : ¬ (N : Int) < 1 := by omega
    have q2 : ¬ (1099511627776 : Int) < (N : Int) := by omega
    have q3 : ¬ (I : Int) < 0 := by omega
    have q4 : ¬ (N : Int) ≤ (I : Int) := by omega
    have NO : Hid (∀ w', pathOk leaf I N ps rt = false → Below w.heap.size w w' → Ending.returned (.int .i64 9) = .returned (.int .i64 (checkP leaf (I : Int) (N : Int) ps rt)) ∧ Below w.heap.size w w') := fun w' h hb => ⟨by rw [hA.out, h]; rfl, hb⟩
    have YES : Hid (∀ w', pathOk leaf I N ps rt = true → Below w.heap.size w w' → Ending.returned (.int .i64 0) = .returned (.int .i64 (checkP leaf (I : Int) (N : Int) ps rt)) ∧ Below w.heap.size w w') := fun w' h hb => ⟨by rw [hA.out, h]; rfl, hb⟩
    unfold pathOk at NO YES
    obtain ⟨S, hS⟩ : ∃ S, Mt.sides I N = S := ⟨_, rfl⟩
    rw [hS] at SD SL NO YES
    clear hr r1 r2 r3 r4 hA hS
    go_enter Tryd.func22, Tryd.ntmps22
    go_wp2_with fail
    refine SD.out.mono ?_
    rintro e w1 ⟨v, rfl, ho, hb1⟩
    have B1 := keep hb1
    have O1 := keep ho
    obtain ⟨sp, sc, hv, SS, _⟩ := RSrc.own boolKind_ok ho (fun _ _ => trivial)
    subst hv
    have SSH := keep SS
    obtain ⟨L, hL⟩ : ∃ L, S.length = L := ⟨_, rfl⟩
    rw [hL] at SSH SL NO YES ⊢
    have hL40 := SL.out
    have WH := keep (rwhole_any pp m pc ps w1 (HP.out.below strKind_ok B1.out) hm)
    clear hb1 ho SS SD
    by_cases hml : m = L
    · subst hml
      have hNO := NO.out
      have hYES := YES.out
      rw [HPL.out, decide_eq_true rfl, Bool.true_and] at hNO hYES
      have NO2 := keep hNO
      have YES2 := keep hYES
      clear hNO hYES NO YES
      cases hw1 : wholeL ps with
      | false =>
        rw [hw1] at WH NO2
        clear hw1
        go_wp2_with fail
        refine WH.out.mono ?_
        rintro e w2 ⟨rfl, hb2⟩
        have B2 := keep (B1.out.trans (hb2.mono B1.out.size))
        clear hb2 WH
        go_wp2
        go_ret
        exact NO2.out _ rfl B2.out
      | true =>
        have hmem := wholeL_mem hw1
        rw [hw1] at WH NO2 YES2
        clear hw1
        go_wp2_with fail
        refine WH.out.mono ?_
        rintro e w2 ⟨rfl, hb2⟩
        have B2 := keep (B1.out.trans (hb2.mono B1.out.size))
        have Q2 := keep hb2
        obtain ⟨W3, hW3⟩ : ∃ W3, w2.alloc (.cells #[.string ⟨leaf.toArray⟩, .string ⟨rt.toArray⟩] 9) = W3 := ⟨_, rfl⟩
        have b3 : Hid (Below w2.heap.size w2 W3) := by rw [← hW3]; exact (Below.refl _ _).alloc (Nat.le_refl _) _
        have WH2 : Hid (Calls Tryd.prog 39 #[.slice (some ⟨w2.heap.size, 0, none⟩) 2 2] W3 fun e w' => e = .returned (.bool (wholeL [leaf, rt])) ∧ Below W3.heap.size W3 w') := by rw [← hW3]; exact rwhole_any _ 2 2 [leaf, rt] _ (two_texts w2 leaf rt) (by decide)
        have B3 := keep (B2.out.trans (b3.out.mono B2.out.size))
        clear hb2 WH
        cases hw2 : wholeL [leaf, rt] with
        | false =>
          rw [hw2] at WH2 NO2
          clear hw2
          go_wp2_with fail
          refine WH2.out.mono ?_
          rintro e w4 ⟨rfl, hb4⟩
          have B4 := keep (B3.out.trans (hb4.mono B3.out.size))
          clear hb4 WH2
          go_wp2
          go_ret
          exact NO2.out _ rfl B4.out
        | true =>
          have hmem2 := wholeL_mem hw2
          rw [hw2] at WH2 NO2 YES2
          have hx32 : leaf.length = 32 := hmem2 leaf (by simp)
          clear hw2
          go_wp2_with fail
          refine WH2.out.mono ?_
          rintro e w4 ⟨rfl, hb4⟩
          have B4 := keep (B3.out.trans (hb4.mono B3.out.size))
          have Q4 := keep ((Q2.out.trans (b3.out.mono Q2.out.size)).trans (hb4.mono (Nat.le_trans Q2.out.size b3.out.size)))
          have CL := keep (rclimb_any leaf m sp sc S pp pc ps w4 (SSH.out.below boolKind_ok Q4.out) (HP.out.below strKind_ok B4.out) (by omega) (by omega) (fun e he => by rw [hmem e he]; decide))
          have hlen : S.length = ps.length := by rw [hL, HPL.out]
          have hlast := Mt.climb_at nodeL leaf S ps hlen m (by omega)
          rw [List.take_of_length_le (by omega), List.take_of_length_le (by omega)] at hlast
          have hclen := Mt.climb_len nodeL leaf S ps hlen
          obtain ⟨T, hT⟩ : ∃ T, Mt.top nodeL leaf S ps = T := ⟨_, rfl⟩
          rw [hT] at hlast NO2 YES2
          obtain ⟨C, hC⟩ : ∃ C, Mt.climb nodeL leaf S ps = C := ⟨_, rfl⟩
          rw [hC] at hlast hclen CL
          clear hb4 WH2 hT hC hmem hmem2 hx32 hlen hW3
          go_wp2_with fail
          refine CL.out.mono ?_
          rintro e w5 ⟨v5, rfl, ho5, hb5⟩
          have B5 := keep (B4.out.trans (hb5.mono B4.out.size))
          rw [hclen, hL] at ho5
          obtain ⟨cp, cc, hv5, hR5, _⟩ := RSrc.own strKind_ok ho5 (fun _ _ => trivial)
          subst hv5
          obtain ⟨b6, off6, hb6, _, hc6⟩ := strs_at hR5 (by omega)
          subst hb6
          have c6 : w5.cell? ⟨b6, off6 + m, none⟩ = some (.string ⟨T.toArray⟩) := hc6 m T hlast
          have m0 : (0 : Int) ≤ (m : Int) := by omega
          have m1 : (m : Int) < ((m + 1 : Nat) : Int) := by omega
          have m2 : ((m + 1 : Nat) : Int) - 1 = (m : Int) := by omega
          clear ho5 hb5 hR5 hc6 CL hlast hclen hL
          by_cases hTr : T = rt
          · have Y3 := keep (YES2.out)
            rw [decide_eq_true hTr] at Y3
            subst hTr
            go_wp2
            go_ret
            exact Y3.out _ rfl B5.out
          · have N3 := keep (NO2.out)
            rw [decide_eq_false hTr] at N3
            have hne : (T == rt) = false := by simpa using hTr
            clear hTr
            go_wp2
            go_ret
            exact N3.out _ rfl B5.out
    · have hml2 : ¬ (m : Int) = (L : Int) := by omega
      have hNO := NO.out
      rw [HPL.out, decide_eq_false hml, Bool.false_and] at hNO
      have NO2 := keep hNO
      clear hNO NO YES WH hml
      go_wp2
      go_ret
      exact NO2.out _ (by first | rfl | trivial) B1.out
end Go.Proofs.YtelebhcaljepaaaDoor
