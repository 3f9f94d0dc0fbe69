/- The walk of the statement on texts. -/
import Derived.Test.YticglckbjdchjaaTe
import Derived.Test.YticglckbjdchjaaRu
import Derived.Test.YticglckbjdchjaaTx
namespace Go.Proofs.Yticglckbjdchjaa
open Go.RowKit

theorem took_yesT {w : World} {f : FuncId} {args : Array Value} {t : Option (List UInt8 × List UInt8)} {S R : List UInt8} (h : Calls Try.prog f args w (TookT w t)) (ht : t = some (S, R)) :
    Calls Try.prog f args w fun e w' => ∃ a1 c1, e = .returned (.tuple #[.string ⟨S.toArray⟩, .slice a1 R.length c1, .int .i64 0]) ∧ Src w' a1 R.length c1 R ∧ Below w.heap.size w w' :=
  h.mono fun e w' h => by
    rcases h with ⟨S', R', a1, c1, h1, rfl, h2, h3⟩ | ⟨h1, _⟩
    · rw [ht] at h1
      cases h1
      exact ⟨a1, c1, rfl, h2, h3⟩
    · rw [ht] at h1; cases h1
theorem took_noT {w : World} {f : FuncId} {args : Array Value} {t : Option (List UInt8 × List UInt8)} (h : Calls Try.prog f args w (TookT w t)) (ht : t = none) :
    Calls Try.prog f args w fun e w' => ∃ a1 c1, e = .returned (.tuple #[.string ⟨#[]⟩, .slice a1 ([] : List UInt8).length c1, .int .i64 2]) ∧ Src w' a1 ([] : List UInt8).length c1 [] ∧ Below w.heap.size w w' :=
  h.mono fun e w' h => by
    rcases h with ⟨S', R', a1, c1, h1, _⟩ | ⟨_, rfl, h3⟩
    · rw [ht] at h1; cases h1
    · exact ⟨none, 0, rfl, src_nil _, h3⟩

set_option maxHeartbeats 1000000 in
set_option maxRecDepth 100000 in
theorem texts_yes (ao : Option Addr) (m c : Nat) (l : List UInt8) (s : ByteArray) (m2 : Nat) (l2 : List UInt8) (most : Int) (w : World) (hb0 : m + m2 ≤ 1048576) (hs : Src w ao m c l) (hl2 : l2.length = m2) (hsl : s = ⟨l2.toArray⟩) (S R : List UInt8) (ht : txt l most = some (S, R)) :
    Calls Try.prog 5 #[.slice ao m c, .string s, .int .i64 most] w fun e w' => e = .returned (.bool true) ∧ Below w.heap.size w w' := by
  have K1 := keep (fun w' (hb : Below w.heap.size w w') => took_yesT (takeText_any ao m c l most w' (by omega) (hs.below hb)) ht)
  have K2 := keep (fun w' (hb : Below w.heap.size w w') => took_yesT (rtakeText_any ao m c l most w' (by omega) (hs.below hb)) ht)
  have K3 := keep (fun w' (hb : Below w.heap.size w w') => putText_any ao m c l s m2 l2 w' hl2 hsl (by omega) (hs.below hb))
  have K4 := keep (fun w' (hb : Below w.heap.size w w') => rputText_any ao m c l s m2 l2 w' hl2 hsl (by omega) (hs.below hb))
  clear hs hl2 hsl ht
  go_enter Try.func5, Try.ntmps5
  go_wp2_with fail
  go_fit (K1.out w (Below.refl _ _))
  rintro e w1 ⟨a1, c1, rfl, hs1, hb1⟩
  have b1 := keep hb1
  have S1 := keep hs1
  clear hb1 hs1 K1
  go_wp2_with fail
  go_fit (K2.out w1 b1.out)
  rintro e w2 ⟨a2, c2, rfl, hs2, hb2⟩
  have b2 := keep (b1.out.trans (hb2.mono b1.out.size))
  have S1' := keep (S1.out.below hb2)
  have S2 := keep hs2
  clear hb2 hs2 K2 b1 S1
  go_wp2_with fail
  go_fit (K3.out w2 b2.out)
  rintro e w3 ⟨v3, rfl, hn3⟩
  obtain ⟨a3, c3, rfl, hs3, _⟩ := hn3.src
  have b3 := keep (b2.out.trans (hn3.2.mono b2.out.size))
  have T1 := keep (S1'.out.below hn3.2)
  have T2 := keep (S2.out.below hn3.2)
  have S3 := keep hs3
  clear hn3 hs3 K3 b2 S1' S2
  go_wp2_with fail
  go_fit (K4.out w3 b3.out)
  rintro e w4 ⟨v4, rfl, hn4⟩
  obtain ⟨a4, c4, rfl, hs4, _⟩ := hn4.src
  have b4 := keep (b3.out.trans (hn4.2.mono b3.out.size))
  have S1 := keep (T1.out.below hn4.2)
  have S2 := keep (T2.out.below hn4.2)
  have S3' := keep (S3.out.below hn4.2)
  have S4 := keep hs4
  clear hn4 hs4 K4 b3 T1 T2 S3
  go_wp2_with fail
  refine (same_any a3 _ c3 _ a4 _ c4 _ w4 S3'.out S4.out).mono ?_
  rintro e w5 ⟨rfl, hb5⟩
  have b5 := keep (b4.out.trans (hb5.mono b4.out.size))
  have T1 := keep (S1.out.below hb5)
  have T2 := keep (S2.out.below hb5)
  clear hb5 b4 S1 S2 S3' S4
  rw [decide_eq_true rfl]
  go_wp2_with fail
  refine (same_any a1 _ c1 _ a2 _ c2 _ w5 T1.out T2.out).mono ?_
  rintro e w6 ⟨rfl, hb6⟩
  have b6 := keep (b5.out.trans (hb6.mono b5.out.size))
  clear hb6 b5 T1 T2
  rw [decide_eq_true rfl]
  go_wp2
  go_ret
  exact ⟨rfl, b6.out⟩

set_option maxHeartbeats 1000000 in
set_option maxRecDepth 100000 in
theorem texts_no (ao : Option Addr) (m c : Nat) (l : List UInt8) (s : ByteArray) (m2 : Nat) (l2 : List UInt8) (most : Int) (w : World) (hb0 : m + m2 ≤ 1048576) (hs : Src w ao m c l) (hl2 : l2.length = m2) (hsl : s = ⟨l2.toArray⟩) (ht : txt l most = none) :
    Calls Try.prog 5 #[.slice ao m c, .string s, .int .i64 most] w fun e w' => e = .returned (.bool true) ∧ Below w.heap.size w w' := by
  have K1 := keep (fun w' (hb : Below w.heap.size w w') => took_noT (takeText_any ao m c l most w' (by omega) (hs.below hb)) ht)
  have K2 := keep (fun w' (hb : Below w.heap.size w w') => took_noT (rtakeText_any ao m c l most w' (by omega) (hs.below hb)) ht)
  have K3 := keep (fun w' (hb : Below w.heap.size w w') => putText_any ao m c l s m2 l2 w' hl2 hsl (by omega) (hs.below hb))
  have K4 := keep (fun w' (hb : Below w.heap.size w w') => rputText_any ao m c l s m2 l2 w' hl2 hsl (by omega) (hs.below hb))
  clear hs hl2 hsl ht
  go_enter Try.func5, Try.ntmps5
  go_wp2_with fail
  go_fit (K1.out w (Below.refl _ _))
  rintro e w1 ⟨a1, c1, rfl, hs1, hb1⟩
  have b1 := keep hb1
  have S1 := keep hs1
  clear hb1 hs1 K1
  go_wp2_with fail
  go_fit (K2.out w1 b1.out)
  rintro e w2 ⟨a2, c2, rfl, hs2, hb2⟩
  have b2 := keep (b1.out.trans (hb2.mono b1.out.size))
  have S1' := keep (S1.out.below hb2)
  have S2 := keep hs2
  clear hb2 hs2 K2 b1 S1
  go_wp2_with fail
  go_fit (K3.out w2 b2.out)
  rintro e w3 ⟨v3, rfl, hn3⟩
  obtain ⟨a3, c3, rfl, hs3, _⟩ := hn3.src
  have b3 := keep (b2.out.trans (hn3.2.mono b2.out.size))
  have T1 := keep (S1'.out.below hn3.2)
  have T2 := keep (S2.out.below hn3.2)
  have S3 := keep hs3
  clear hn3 hs3 K3 b2 S1' S2
  go_wp2_with fail
  go_fit (K4.out w3 b3.out)
  rintro e w4 ⟨v4, rfl, hn4⟩
  obtain ⟨a4, c4, rfl, hs4, _⟩ := hn4.src
  have b4 := keep (b3.out.trans (hn4.2.mono b3.out.size))
  have S1 := keep (T1.out.below hn4.2)
  have S2 := keep (T2.out.below hn4.2)
  have S3' := keep (S3.out.below hn4.2)
  have S4 := keep hs4
  clear hn4 hs4 K4 b3 T1 T2 S3
  go_wp2_with fail
  refine (same_any a3 _ c3 _ a4 _ c4 _ w4 S3'.out S4.out).mono ?_
  rintro e w5 ⟨rfl, hb5⟩
  have b5 := keep (b4.out.trans (hb5.mono b4.out.size))
  have T1 := keep (S1.out.below hb5)
  have T2 := keep (S2.out.below hb5)
  clear hb5 b4 S1 S2 S3' S4
  rw [decide_eq_true rfl]
  go_wp2_with fail
  refine (same_any a1 _ c1 _ a2 _ c2 _ w5 T1.out T2.out).mono ?_
  rintro e w6 ⟨rfl, hb6⟩
  have b6 := keep (b5.out.trans (hb6.mono b5.out.size))
  clear hb6 b5 T1 T2
  rw [decide_eq_true rfl]
  go_wp2
  go_ret
  exact ⟨rfl, b6.out⟩

theorem texts_walk (ao : Option Addr) (m c : Nat) (l : List UInt8) (s : ByteArray) (most : Int) (w : World) (hb0 : m + s.size ≤ 1048576) (_hm : -9223372036854775808 ≤ most ∧ most < 9223372036854775808) (hs : Src w ao m c l) :
    Calls Try.prog 5 #[.slice ao m c, .string s, .int .i64 most] w fun e w' => e = .returned (.bool true) ∧ Below w.heap.size w w' := by
  have hl2 : s.data.toList.length = s.size := by rw [Array.length_toList]; rfl
  cases ht : txt l most with
  | none => exact texts_no ao m c l s s.size s.data.toList most w hb0 hs hl2 (str_list s).symm ht
  | some x => exact texts_yes ao m c l s s.size s.data.toList most w hb0 hs hl2 (str_list s).symm x.1 x.2 ht
end Go.Proofs.Yticglckbjdchjaa
