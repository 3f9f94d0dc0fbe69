/- The walk of HashSound. -/
import Derived.Test.YtelebhcaljepaaaDoorPn
import Derived.Test.YtelebhcaljepaaaDoorPp
namespace Go.Proofs.YtelebhcaljepaaaDoor
open Go.RowKit

theorem conv_src {w : World} {ao : Option Addr} {m c : Nat} {l : List UInt8} (h : Src w ao m c l) : (convert 23 9 (.slice ao m c)).run Tryd.prog w = .ok (.string ⟨l.toArray⟩) w := by
  rcases Nat.eq_zero_or_pos m with h0 | h0
  · subst h0
    have hl : l = [] := List.length_eq_zero_iff.1 h.len
    subst hl
    rw [run_convert_bytes_string w 23 9 5 _ 0 c Tryd.underlying23 Tryd.underlying5 Tryd.underlying9]
    cases ao <;> simp [Conv.bytesToString, loadCells]
    all_goals rfl
  · obtain ⟨b, off, e, _, hby⟩ := h.form h0
    cases e
    have hl := h.len
    have := run_convert_bytes_arg (P := Tryd.prog) w 23 5 Tryd.underlying23 Tryd.underlying5 b off m c (l.map fun b => (b.toNat : Int)) (by simpa using h.len) (fun i hi => by
      rw [hby i hi]
      have : i < l.length := by omega
      simp [fn, List.getD, this]) 9 Tryd.underlying9
    rwa [strOfNums_bytes] at this
set_option maxHeartbeats 4000000 in
set_option maxRecDepth 100000 in
theorem hashSound_walk (i n : Int) (a : List UInt8) (ap : Option Addr) (am ac : Nat) (pa : List (List UInt8)) (b : List UInt8) (bp : Option Addr) (bm bc : Nat) (pb : List (List UInt8)) (rt : List UInt8) (w : World) (hL : Ld w) (ha : RSrc strKind w ap am ac pa) (hb : RSrc strKind w bp bm bc pb) (ham : am ≤ 4611686018427387904) (hbm : bm ≤ 4611686018427387904) :
    Calls Tryd.prog 8 #[.int .i64 i, .int .i64 n, .string ⟨a.toArray⟩, .slice ap am ac, .string ⟨b.toArray⟩, .slice bp bm bc, .string ⟨rt.toArray⟩] w fun e w' => e = .returned (.bool true) ∧ Below w.heap.size w w' := by
  have HLd := keep hL
  have AW := keep (awake_any w hL)
  have CO : Hid (∀ w', Below w.heap.size w w' → Calls Tryd.prog 26 #[.int .i64 i, .int .i64 n, .string ⟨a.toArray⟩, .slice ap am ac, .string ⟨b.toArray⟩, .slice bp bm bc] w' (ColB w' (collL i n a pa b pb))) := fun w' h => collide_any i n a ap am ac pa b bp bm bc pb w' (HLd.out.below h) (ha.below strKind_ok h) (hb.below strKind_ok h) ham hbm
  have K1 : Hid (∀ w', Below w.heap.size w w' → Calls Tryd.prog 21 #[.string ⟨a.toArray⟩, .int .i64 i, .int .i64 n, .slice ap am ac, .string ⟨rt.toArray⟩] w' fun e w'' => e = .returned (.int .i64 (checkP a i n pa rt)) ∧ Below w'.heap.size w' w'') := fun w' h => checkPath_any a i n ap am ac pa rt w' (HLd.out.below h) (ha.below strKind_ok h) ham
  have K2 : Hid (∀ w', Below w.heap.size w w' → Calls Tryd.prog 21 #[.string ⟨b.toArray⟩, .int .i64 i, .int .i64 n, .slice bp bm bc, .string ⟨rt.toArray⟩] w' fun e w'' => e = .returned (.int .i64 (checkP b i n pb rt)) ∧ Below w'.heap.size w' w'') := fun w' h => checkPath_any b i n bp bm bc pb rt w' (HLd.out.below h) (hb.below strKind_ok h) hbm
  have SO := keep (fun (h1 : checkP a i n pa rt = 0) (h2 : checkP b i n pb rt = 0) (h : ¬ a = b) => sound h1 h2 h)
  have CS := keep (fun l r (h : collL i n a pa b pb = some (l, r)) => coll_sum h)
  obtain ⟨x1, hx1⟩ : ∃ x, checkP a i n pa rt = x := ⟨_, rfl⟩
  obtain ⟨x2, hx2⟩ : ∃ x, checkP b i n pb rt = x := ⟨_, rfl⟩
  rw [hx1] at K1 SO
  rw [hx2] at K2 SO
  obtain ⟨r, hr⟩ : ∃ r, collL i n a pa b pb = r := ⟨_, rfl⟩
  rw [hr] at CO SO CS
  clear hL ha hb ham hbm hx1 hx2 hr
  cases r with
  | none =>
    have SO2 : Hid (¬ (x1 = 0 ∧ x2 = 0 ∧ ¬ a = b)) := fun h => by have := SO.out h.1 h.2.1 h.2.2; cases this
    clear SO CS
    go_enter Tryd.func8, Tryd.ntmps8
    go_wp2_with fail
    refine AW.out.mono ?_
    rintro e w1 ⟨rfl, hb1⟩
    have B1 := keep hb1
    clear hb1 AW
    go_wp2_with fail
    refine (CO.out w1 B1.out).mono ?_
    rintro e w2 ⟨rfl, hb2⟩
    have B2 := keep (B1.out.trans (hb2.mono B1.out.size))
    clear hb2 CO
    go_wp2_with fail
    refine (K1.out w2 B2.out).mono ?_
    rintro e w3 ⟨rfl, hb3⟩
    have B3 := keep (B2.out.trans (hb3.mono B2.out.size))
    clear hb3 K1
    go_wp2_with fail
    refine (K2.out w3 B3.out).mono ?_
    rintro e w4 ⟨rfl, hb4⟩
    have B4 := keep (B3.out.trans (hb4.mono B3.out.size))
    clear hb4 K2
    by_cases h1 : x1 = 0
    · by_cases h2 : x2 = 0
      · have hab : a = b := by
          by_cases h : a = b
          · exact h
          · exact absurd ⟨h1, h2, h⟩ SO2.out
        subst hab
        subst h1
        subst h2
        clear SO2
        go_wp2
        go_ret
        exact ⟨rfl, B4.out⟩
      · have n2 : (x2 == 0) = false := by simpa using h2
        subst h1
        clear SO2
        go_wp2
        go_ret
        exact ⟨rfl, B4.out⟩
    · have n1 : (x1 == 0) = false := by simpa using h1
      clear SO2
      go_wp2
      go_ret
      exact ⟨rfl, B4.out⟩
  | some lq =>
    obtain ⟨l, q⟩ := lq
    obtain ⟨hne, hsum⟩ := CS.out l q rfl
    have hne2 : ((1 :: l : List UInt8) == 1 :: q) = false := by simpa using hne
    have CO2 : Hid (∀ w', Below w.heap.size w w' → Calls Tryd.prog 26 #[.int .i64 i, .int .i64 n, .string ⟨a.toArray⟩, .slice ap am ac, .string ⟨b.toArray⟩, .slice bp bm bc] w' fun e w'' => (∃ a1 m1 c1 a2 m2 c2, e = .returned (.tuple #[.slice a1 m1 c1, .slice a2 m2 c2, .bool true]) ∧ Src w'' a1 m1 c1 (1 :: l) ∧ Src w'' a2 m2 c2 (1 :: q) ∧ m1 ≤ 1000 ∧ m2 ≤ 1000 ∧ c1 ≤ maxLen ∧ c2 ≤ maxLen) ∧ Below w'.heap.size w' w'') := fun w' h => CO.out w' h
    obtain ⟨X, hX⟩ : ∃ X, (1 :: l : List UInt8) = X := ⟨_, rfl⟩
    obtain ⟨Y, hY⟩ : ∃ Y, (1 :: q : List UInt8) = Y := ⟨_, rfl⟩
    rw [hX, hY] at hne2 hsum CO2
    clear hX hY hne CS CO SO
    go_enter Tryd.func8, Tryd.ntmps8
    go_wp2_with fail
    refine AW.out.mono ?_
    rintro e w1 ⟨rfl, hb1⟩
    have B1 := keep hb1
    clear hb1 AW
    go_wp2_with fail
    refine (CO2.out w1 B1.out).mono ?_
    rintro e w2 ⟨⟨a1, m1, c1, a2, m2, c2, rfl, hs1, hs2, hm1, hm2, hc1, hc2⟩, hb2⟩
    have B2 := keep (B1.out.trans (hb2.mono B1.out.size))
    have v1 := conv_src hs1
    have v2 := conv_src hs2
    have SM1 := keep (sumK a1 m1 c1 X w2 (by omega) hc1 (HLd.out.below B2.out) hs1)
    have SM2 : Hid (∀ w', Below w2.heap.size w2 w' → Calls Tryd.prog 27 #[.slice a2 m2 c2] w' fun e w'' => e = .returned (.string ⟨(Sha.sum Y).toArray⟩) ∧ Below w'.heap.size w' w'') := fun w' h => sumK a2 m2 c2 Y w' (by omega) hc2 (HLd.out.below (B2.out.trans (h.mono B2.out.size))) (hs2.below h)
    rw [← hsum] at SM2
    obtain ⟨Z, hZ⟩ : ∃ Z, Sha.sum X = Z := ⟨_, rfl⟩
    rw [hZ] at SM1 SM2
    clear hb2 CO2 hs1 hs2 hm1 hm2 hc1 hc2 hZ hsum
    go_wp2_with fail
    refine SM1.out.mono ?_
    rintro e w3 ⟨rfl, hb3⟩
    have b3 := keep hb3
    clear hb3 SM1
    go_wp2_with fail
    refine (SM2.out w3 b3.out).mono ?_
    rintro e w4 ⟨rfl, hb4⟩
    have B4 := keep (B2.out.trans ((b3.out.trans (hb4.mono b3.out.size)).mono B2.out.size))
    clear hb4 SM2
    go_wp2_with fail
    refine (K1.out w4 B4.out).mono ?_
    rintro e w5 ⟨rfl, hb5⟩
    have B5 := keep (B4.out.trans (hb5.mono B4.out.size))
    clear hb5 K1
    go_wp2_with fail
    refine (K2.out w5 B5.out).mono ?_
    rintro e w6 ⟨rfl, hb6⟩
    have B6 := keep (B5.out.trans (hb6.mono B5.out.size))
    clear hb6 K2 v1 v2 hne2
    by_cases h1 : x1 = 0
    · by_cases h2 : x2 = 0
      · subst h1
        subst h2
        by_cases hab : a = b
        · subst hab
          go_wp2
          go_ret
          exact ⟨rfl, B6.out⟩
        · have hn : (a == b) = false := by simpa using hab
          clear hab
          go_wp2
          go_ret
          exact ⟨rfl, B6.out⟩
      · have n2 : (x2 == 0) = false := by simpa using h2
        subst h1
        go_wp2
        go_ret
        exact ⟨rfl, B6.out⟩
    · have n1 : (x1 == 0) = false := by simpa using h1
      go_wp2
      go_ret
      exact ⟨rfl, B6.out⟩
end Go.Proofs.YtelebhcaljepaaaDoor
