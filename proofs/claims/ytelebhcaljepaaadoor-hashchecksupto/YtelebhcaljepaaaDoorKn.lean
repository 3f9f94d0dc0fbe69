/- The walk of the document's CheckProof. -/
import Derived.Test.YtelebhcaljepaaaDoorKk
namespace Go.Proofs.YtelebhcaljepaaaDoor
open Go.RowKit

set_option maxHeartbeats 2000000 in
set_option maxRecDepth 100000 in
theorem rcheckProof_any (m n : Int) (pp : Option Addr) (q pc : Nat) (ps : List (List UInt8)) (old rt : List UInt8) (w : World) (hp : RSrc strKind w pp q pc ps) (hz : ∀ ad, pp = some ad → ad.block < w.heap.size) (hq : q ≤ 4611686018427387904) (hsh : short ps) (hol : old.length ≤ 1099511627776) :
    Calls Tryd.prog 24 #[.int .i64 m, .int .i64 n, .slice pp q pc, .string ⟨old.toArray⟩, .string ⟨rt.toArray⟩] w fun e w' => e = .returned (.int .i64 (checkF m n ps old rt)) ∧ Below w.heap.size w w' := by
  have HP := keep hp
  have HZ := keep hz
  have SH := keep hsh
  clear hp hz hsh
  cases hr : inRangeF m n with
  | false =>
    have hA : checkF m n ps old rt = 8 := by unfold checkF; rw [hr]; rfl
    rw [hA]
    unfold inRangeF at hr
    clear hA
    by_cases h1 : m < 1
    · clear hr
      go_enter Tryd.func24, Tryd.ntmps24
      go_wp2
      go_ret
      exact ⟨rfl, Below.refl _ _⟩
    by_cases h2 : n < m
    · clear hr
      go_enter Tryd.func24, Tryd.ntmps24
      go_wp2
      go_ret
      exact ⟨rfl, Below.refl _ _⟩
    have h4 : 1099511627776 < n := by
      rw [decide_eq_true (show 1 ≤ m by omega), decide_eq_true (show m ≤ n by omega)] at hr
      have := of_decide_eq_false hr
      omega
    clear hr
    go_enter Tryd.func24, Tryd.ntmps24
    go_wp2
    go_ret
    exact ⟨rfl, Below.refl _ _⟩
  | true =>
    have hr2 := hr
    unfold inRangeF at hr2
    simp only [Bool.and_eq_true, decide_eq_true_eq] at hr2
    obtain ⟨r1, r2, r3⟩ := hr2
    obtain ⟨M, rfl⟩ : ∃ M : Nat, m = (M : Int) := ⟨m.toNat, by omega⟩
    obtain ⟨N, rfl⟩ : ∃ N : Nat, n = (N : Int) := ⟨n.toNat, by omega⟩
    have hA : Hid (checkF (M : Int) (N : Int) ps old rt = if proofOk M N ps old rt then 0 else 9) := by show _ = _; unfold checkF; rw [hr]; rfl
    have q1 : ¬ (M : Int) < 1 := by omega
    have q2 : ¬ (N : Int) < (M : Int) := by omega
    have q3 : ¬ (1099511627776 : Int) < (N : Int) := by omega
    have NO : Hid (∀ w', proofOk M N ps old rt = false → Below w.heap.size w w' → Ending.returned (.int .i64 9) = .returned (.int .i64 (checkF (M : Int) (N : Int) ps old rt)) ∧ Below w.heap.size w w') := fun w' h hb => ⟨by rw [hA.out, h]; rfl, hb⟩
    have YES : Hid (∀ w', proofOk M N ps old rt = true → Below w.heap.size w w' → Ending.returned (.int .i64 0) = .returned (.int .i64 (checkF (M : Int) (N : Int) ps old rt)) ∧ Below w.heap.size w w') := fun w' h hb => ⟨by rw [hA.out, h]; rfl, hb⟩
    unfold proofOk at NO YES
    obtain ⟨W1, hW1⟩ : ∃ W1, w.alloc (.cells #[.slice pp q pc, .bool false] 66) = W1 := ⟨_, rfl⟩
    have b1 : Hid (Below w.heap.size w W1) := by rw [← hW1]; exact (Below.refl _ _).alloc (Nat.le_refl _) _
    have T1 : Hid (Tk w.heap.size W1 w.heap.size (ps, false)) := ⟨Nat.le_refl _, pp, q, pc, by rw [← hW1]; exact heap_alloc_new w _, strs_z HP.out HZ.out b1.out, HZ.out⟩
    have WK := keep (rwalk_any N M true (by omega) (by omega) (by omega) old w.heap.size w.heap.size (ps, false) W1 T1.out SH.out hol)
    obtain ⟨R, hR⟩ : ∃ R, Mt.walk nodeL [] M N true old (ps, false) = R := ⟨_, rfl⟩
    rw [hR] at WK NO YES
    obtain ⟨⟨A, Bq⟩, ⟨L2, bad⟩⟩ := R
    unfold WkA at WK
    simp only at WK NO YES
    clear hr r1 r2 r3 hA hR
    go_enter Tryd.func24, Tryd.ntmps24
    go_wp2_with fail
    refine WK.out.mono ?_
    rintro e w2 ⟨rfl, hT2, hb2⟩
    have b2 := keep (b1.out.trans hb2)
    obtain ⟨ao2, n2, c2, hrow, hs2, _⟩ := hT2.row
    have hn2 := hs2.len
    have t0 : w2.cell? ⟨w.heap.size, 0, none⟩ = some (.slice ao2 n2 c2) := cell_of_row _ _ _ _ _ _ hrow
    have t1 : w2.cell? ⟨w.heap.size, 1, none⟩ = some (.bool bad) := cell_of_row _ _ _ _ _ _ hrow
    simp only at hn2
    rw [hn2] at NO YES
    have WH := keep (rwhole_any pp q pc ps w2 (strs_z HP.out HZ.out b2.out) hq)
    clear hT2 hb2 hrow hs2 hn2 WK hW1
    cases bad with
    | true =>
      clear WH YES
      go_wp2
      go_ret
      exact NO.out _ rfl b2.out
    | false =>
      have hNO := NO.out
      have hYES := YES.out
      rw [Bool.not_false, Bool.true_and] at hNO hYES
      by_cases h0 : n2 = 0
      · rw [decide_eq_true h0, Bool.true_and] at hNO hYES
        have NO2 := keep hNO
        have YES2 := keep hYES
        clear hNO hYES NO YES
        subst h0
        cases hw1 : wholeL ps with
        | false =>
          rw [hw1] at WH NO2
          clear hw1 YES2
          go_wp2_with fail
          refine WH.out.mono ?_
          rintro e w3 ⟨rfl, hb3⟩
          have B3 := keep (b2.out.trans (hb3.mono b2.out.size))
          clear hb3 WH
          go_wp2
          go_ret
          exact NO2.out _ rfl B3.out
        | true =>
          rw [hw1] at WH NO2 YES2
          clear hw1
          go_wp2_with fail
          refine WH.out.mono ?_
          rintro e w3 ⟨rfl, hb3⟩
          have B3 := keep (b2.out.trans (hb3.mono b2.out.size))
          obtain ⟨W4, hW4⟩ : ∃ W4, w3.alloc (.cells #[.string ⟨old.toArray⟩, .string ⟨rt.toArray⟩] 9) = W4 := ⟨_, rfl⟩
          have b4 : Hid (Below w3.heap.size w3 W4) := by rw [← hW4]; exact (Below.refl _ _).alloc (Nat.le_refl _) _
          have WH2 : Hid (Calls Tryd.prog 39 #[.slice (some ⟨w3.heap.size, 0, none⟩) 2 2] W4 fun e w' => e = .returned (.bool (wholeL [old, rt])) ∧ Below W4.heap.size W4 w') := by rw [← hW4]; exact rwhole_any _ 2 2 [old, rt] _ (two_texts w3 old rt) (by decide)
          have B4 := keep (B3.out.trans (b4.out.mono B3.out.size))
          clear hb3 WH
          cases hw2 : wholeL [old, rt] with
          | false =>
            rw [hw2] at WH2 NO2
            clear hw2 YES2
            go_wp2_with fail
            refine WH2.out.mono ?_
            rintro e w5 ⟨rfl, hb5⟩
            have B5 := keep (B4.out.trans (hb5.mono B4.out.size))
            clear hb5 WH2
            go_wp2
            go_ret
            exact NO2.out _ rfl B5.out
          | true =>
            rw [hw2] at WH2 NO2 YES2
            clear hw2
            go_wp2_with fail
            refine WH2.out.mono ?_
            rintro e w5 ⟨rfl, hb5⟩
            have B5 := keep (B4.out.trans (hb5.mono B4.out.size))
            clear hb5 WH2 hW4
            by_cases hA : A = old
            · have hA2 := decide_eq_true hA
              rw [hA2] at NO2 YES2
              subst hA
              by_cases hB : Bq = rt
              · rw [decide_eq_true hB] at YES2
                subst hB
                clear NO2 hA2
                go_wp2
                go_ret
                exact YES2.out _ rfl B5.out
              · rw [decide_eq_false hB] at NO2
                have hne : (Bq == rt) = false := by simpa using hB
                clear hB YES2 hA2
                go_wp2
                go_ret
                exact NO2.out _ rfl B5.out
            · rw [decide_eq_false hA] at NO2
              have hne : (A == old) = false := by simpa using hA
              clear hA YES2
              go_wp2
              go_ret
              exact NO2.out _ rfl B5.out
      · rw [decide_eq_false h0, Bool.false_and] at hNO
        have NO2 := keep hNO
        have h3 : (0 : Int) < (n2 : Int) := by omega
        clear hNO hYES NO YES WH h0
        go_wp2
        go_ret
        exact NO2.out _ (by first | rfl | trivial) b2.out
end Go.Proofs.YtelebhcaljepaaaDoor
