/- The walk of the statement on frames. -/
import Derived.Test.YticglckbjdchjaaRh
namespace Go.Proofs.Yticglckbjdchjaa
open Go.RowKit

theorem took_yesF {w : World} {f : FuncId} {args : Array Value} {t : Option (List UInt8 × List UInt8)} {B R : List UInt8} (h : Calls Try.prog f args w (TookF w t)) (ht : t = some (B, R)) :
    Calls Try.prog f args w fun e w' => ∃ a1 c1 a2 c2, e = .returned (.tuple #[.slice a1 B.length c1, .slice a2 R.length c2, .int .i64 0]) ∧ Src w' a1 B.length c1 B ∧ Src w' a2 R.length c2 R ∧ Below w.heap.size w w' :=
  h.mono fun e w' h => by
    rcases h with ⟨B', R', a1, c1, a2, c2, h1, rfl, h2, h3, h4⟩ | ⟨h1, _⟩
    · rw [ht] at h1
      cases h1
      exact ⟨a1, c1, a2, c2, rfl, h2, h3, h4⟩
    · rw [ht] at h1; cases h1
theorem took_noF {w : World} {f : FuncId} {args : Array Value} {t : Option (List UInt8 × List UInt8)} (h : Calls Try.prog f args w (TookF w t)) (ht : t = none) :
    Calls Try.prog f args w fun e w' => ∃ a1 c1 a2 c2, e = .returned (.tuple #[.slice a1 ([] : List UInt8).length c1, .slice a2 ([] : List UInt8).length c2, .int .i64 2]) ∧ Src w' a1 ([] : List UInt8).length c1 [] ∧ Src w' a2 ([] : List UInt8).length c2 [] ∧ Below w.heap.size w w' :=
  h.mono fun e w' h => by
    rcases h with ⟨B', R', a1, c1, a2, c2, h1, _⟩ | ⟨_, rfl, h3⟩
    · rw [ht] at h1; cases h1
    · exact ⟨none, 0, none, 0, rfl, src_nil _, src_nil _, h3⟩

set_option maxHeartbeats 1000000 in
set_option maxRecDepth 100000 in
theorem frames_yes (ao : Option Addr) (m c : Nat) (l : List UInt8) (ao2 : Option Addr) (m2 c2 : Nat) (body : List UInt8) (most : Int) (w : World) (hb0 : m + m2 ≤ 1048576) (hs : Src w ao m c l) (hs2 : Src w ao2 m2 c2 body) (B R : List UInt8) (ht : tfr l most = some (B, R)) :
    Calls Try.prog 7 #[.slice ao m c, .slice ao2 m2 c2, .int .i64 most] w fun e w' => e = .returned (.bool true) ∧ Below w.heap.size w w' := by
  have K1 := keep (fun w' (hb : Below w.heap.size w w') => took_yesF (takeFrame_any ao m c l most w' (by omega) (hs.below hb)) ht)
  have K2 := keep (fun w' (hb : Below w.heap.size w w') => took_yesF (rtakeFrame_any ao m c l most w' (by omega) (hs.below hb)) ht)
  have K3 := keep (fun w' (hb : Below w.heap.size w w') => putFrame_any ao m c l ao2 m2 c2 body w' (by omega) (hs.below hb) (hs2.below hb))
  have K4 := keep (fun w' (hb : Below w.heap.size w w') => rputFrame_any ao m c l ao2 m2 c2 body w' (by omega) (hs.below hb) (hs2.below hb))
  clear hs hs2 ht
  go_enter Try.func7, Try.ntmps7
  go_wp2_with fail
  go_fit (K1.out w (Below.refl _ _))
  rintro e w1 ⟨a1, c1, x1, y1, rfl, hs1, ht1, hb1⟩
  have b1 := keep hb1
  have S1 := keep hs1
  have R1 := keep ht1
  clear hb1 hs1 ht1 K1
  go_wp2_with fail
  go_fit (K2.out w1 b1.out)
  rintro e w2 ⟨a2, d2, x2, y2, rfl, hs2, ht2, hb2⟩
  have b2 := keep (b1.out.trans (hb2.mono b1.out.size))
  have S1' := keep (S1.out.below hb2)
  have R1' := keep (R1.out.below hb2)
  have S2 := keep hs2
  have R2 := keep ht2
  clear hb2 hs2 ht2 K2 b1 S1 R1
  go_wp2_with fail
  go_fit (K3.out w2 b2.out)
  rintro e w3 ⟨v3, rfl, hn3⟩
  obtain ⟨a3, c3, rfl, hs3, _⟩ := hn3.src
  have b3 := keep (b2.out.trans (hn3.2.mono b2.out.size))
  have T1 := keep (S1'.out.below hn3.2)
  have T2 := keep (S2.out.below hn3.2)
  have Q1 := keep (R1'.out.below hn3.2)
  have Q2 := keep (R2.out.below hn3.2)
  have S3 := keep hs3
  clear hn3 hs3 K3 b2 S1' S2 R1' R2
  go_wp2_with fail
  go_fit (K4.out w3 b3.out)
  rintro e w4 ⟨v4, rfl, hn4⟩
  obtain ⟨a4, c4, rfl, hs4, _⟩ := hn4.src
  have b4 := keep (b3.out.trans (hn4.2.mono b3.out.size))
  have S1 := keep (T1.out.below hn4.2)
  have S2 := keep (T2.out.below hn4.2)
  have R1 := keep (Q1.out.below hn4.2)
  have R2 := keep (Q2.out.below hn4.2)
  have S3' := keep (S3.out.below hn4.2)
  have S4 := keep hs4
  clear hn4 hs4 K4 b3 T1 T2 S3 Q1 Q2
  go_wp2_with fail
  refine (same_any a3 _ c3 _ a4 _ c4 _ w4 S3'.out S4.out).mono ?_
  rintro e w5 ⟨rfl, hb5⟩
  have b5 := keep (b4.out.trans (hb5.mono b4.out.size))
  have T1 := keep (S1.out.below hb5)
  have T2 := keep (S2.out.below hb5)
  have Q1 := keep (R1.out.below hb5)
  have Q2 := keep (R2.out.below hb5)
  clear hb5 b4 S1 S2 S3' S4 R1 R2
  rw [decide_eq_true rfl]
  go_wp2_with fail
  refine (same_any a1 _ c1 _ a2 _ d2 _ w5 T1.out T2.out).mono ?_
  rintro e w6 ⟨rfl, hb6⟩
  have b6 := keep (b5.out.trans (hb6.mono b5.out.size))
  have R1 := keep (Q1.out.below hb6)
  have R2 := keep (Q2.out.below hb6)
  clear hb6 b5 T1 T2 Q1 Q2
  rw [decide_eq_true rfl]
  go_wp2_with fail
  refine (same_any x1 _ y1 _ x2 _ y2 _ w6 R1.out R2.out).mono ?_
  rintro e w7 ⟨rfl, hb7⟩
  have b7 := keep (b6.out.trans (hb7.mono b6.out.size))
  clear hb7 b6 R1 R2
  rw [decide_eq_true rfl]
  go_wp2
  go_ret
  exact ⟨rfl, b7.out⟩

set_option maxHeartbeats 1000000 in
set_option maxRecDepth 100000 in
theorem frames_no (ao : Option Addr) (m c : Nat) (l : List UInt8) (ao2 : Option Addr) (m2 c2 : Nat) (body : List UInt8) (most : Int) (w : World) (hb0 : m + m2 ≤ 1048576) (hs : Src w ao m c l) (hs2 : Src w ao2 m2 c2 body) (ht : tfr l most = none) :
    Calls Try.prog 7 #[.slice ao m c, .slice ao2 m2 c2, .int .i64 most] w fun e w' => e = .returned (.bool true) ∧ Below w.heap.size w w' := by
  have K1 := keep (fun w' (hb : Below w.heap.size w w') => took_noF (takeFrame_any ao m c l most w' (by omega) (hs.below hb)) ht)
  have K2 := keep (fun w' (hb : Below w.heap.size w w') => took_noF (rtakeFrame_any ao m c l most w' (by omega) (hs.below hb)) ht)
  have K3 := keep (fun w' (hb : Below w.heap.size w w') => putFrame_any ao m c l ao2 m2 c2 body w' (by omega) (hs.below hb) (hs2.below hb))
  have K4 := keep (fun w' (hb : Below w.heap.size w w') => rputFrame_any ao m c l ao2 m2 c2 body w' (by omega) (hs.below hb) (hs2.below hb))
  clear hs hs2 ht
  go_enter Try.func7, Try.ntmps7
  go_wp2_with fail
  go_fit (K1.out w (Below.refl _ _))
  rintro e w1 ⟨a1, c1, x1, y1, rfl, hs1, ht1, hb1⟩
  have b1 := keep hb1
  have S1 := keep hs1
  have R1 := keep ht1
  clear hb1 hs1 ht1 K1
  go_wp2_with fail
  go_fit (K2.out w1 b1.out)
  rintro e w2 ⟨a2, d2, x2, y2, rfl, hs2, ht2, hb2⟩
  have b2 := keep (b1.out.trans (hb2.mono b1.out.size))
  have S1' := keep (S1.out.below hb2)
  have R1' := keep (R1.out.below hb2)
  have S2 := keep hs2
  have R2 := keep ht2
  clear hb2 hs2 ht2 K2 b1 S1 R1
  go_wp2_with fail
  go_fit (K3.out w2 b2.out)
  rintro e w3 ⟨v3, rfl, hn3⟩
  obtain ⟨a3, c3, rfl, hs3, _⟩ := hn3.src
  have b3 := keep (b2.out.trans (hn3.2.mono b2.out.size))
  have T1 := keep (S1'.out.below hn3.2)
  have T2 := keep (S2.out.below hn3.2)
  have Q1 := keep (R1'.out.below hn3.2)
  have Q2 := keep (R2.out.below hn3.2)
  have S3 := keep hs3
  clear hn3 hs3 K3 b2 S1' S2 R1' R2
  go_wp2_with fail
  go_fit (K4.out w3 b3.out)
  rintro e w4 ⟨v4, rfl, hn4⟩
  obtain ⟨a4, c4, rfl, hs4, _⟩ := hn4.src
  have b4 := keep (b3.out.trans (hn4.2.mono b3.out.size))
  have S1 := keep (T1.out.below hn4.2)
  have S2 := keep (T2.out.below hn4.2)
  have R1 := keep (Q1.out.below hn4.2)
  have R2 := keep (Q2.out.below hn4.2)
  have S3' := keep (S3.out.below hn4.2)
  have S4 := keep hs4
  clear hn4 hs4 K4 b3 T1 T2 S3 Q1 Q2
  go_wp2_with fail
  refine (same_any a3 _ c3 _ a4 _ c4 _ w4 S3'.out S4.out).mono ?_
  rintro e w5 ⟨rfl, hb5⟩
  have b5 := keep (b4.out.trans (hb5.mono b4.out.size))
  have T1 := keep (S1.out.below hb5)
  have T2 := keep (S2.out.below hb5)
  have Q1 := keep (R1.out.below hb5)
  have Q2 := keep (R2.out.below hb5)
  clear hb5 b4 S1 S2 S3' S4 R1 R2
  rw [decide_eq_true rfl]
  go_wp2_with fail
  refine (same_any a1 _ c1 _ a2 _ d2 _ w5 T1.out T2.out).mono ?_
  rintro e w6 ⟨rfl, hb6⟩
  have b6 := keep (b5.out.trans (hb6.mono b5.out.size))
  have R1 := keep (Q1.out.below hb6)
  have R2 := keep (Q2.out.below hb6)
  clear hb6 b5 T1 T2 Q1 Q2
  rw [decide_eq_true rfl]
  go_wp2_with fail
  refine (same_any x1 _ y1 _ x2 _ y2 _ w6 R1.out R2.out).mono ?_
  rintro e w7 ⟨rfl, hb7⟩
  have b7 := keep (b6.out.trans (hb7.mono b6.out.size))
  clear hb7 b6 R1 R2
  rw [decide_eq_true rfl]
  go_wp2
  go_ret
  exact ⟨rfl, b7.out⟩

theorem frames_walk (ao : Option Addr) (m c : Nat) (l : List UInt8) (ao2 : Option Addr) (m2 c2 : Nat) (body : List UInt8) (most : Int) (w : World) (hb0 : m + m2 ≤ 1048576) (_hm : -9223372036854775808 ≤ most ∧ most < 9223372036854775808) (hs : Src w ao m c l) (hs2 : Src w ao2 m2 c2 body) :
    Calls Try.prog 7 #[.slice ao m c, .slice ao2 m2 c2, .int .i64 most] w fun e w' => e = .returned (.bool true) ∧ Below w.heap.size w w' := by
  cases ht : tfr l most with
  | none => exact frames_no ao m c l ao2 m2 c2 body most w hb0 hs hs2 ht
  | some x => exact frames_yes ao m c l ao2 m2 c2 body most w hb0 hs hs2 x.1 x.2 ht
end Go.Proofs.Yticglckbjdchjaa
