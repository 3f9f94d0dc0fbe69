/- The walk of the statement on what number any bytes begin with. -/
import Derived.Test.YticglckbjdchjaaUn
import Derived.Test.YticglckbjdchjaaRt
import Derived.Test.YticglckbjdchjaaRf
namespace Go.Proofs.Yticglckbjdchjaa
open Go.RowKit

theorem rtakeNum_uni (ao : Option Addr) (m c : Nat) (l : List UInt8) (w : World) (hm : m ≤ 140737488355328) (hs : Src w ao m c l) : Calls Try.prog 15 #[.slice ao m c] w (Took w (nOf l) (rOf l) (eOf l)) :=
  (rtakeNum_any ao m c l w hm hs).mono fun _ _ h => took_num h
theorem rtakeFix_uni (ao : Option Addr) (m c : Nat) (l : List UInt8) (w : World) (hm : m ≤ 140737488355328) (hs : Src w ao m c l) : Calls Try.prog 17 #[.slice ao m c] w (Took w (fnOf l) (frOf l) (feOf l)) :=
  (rtakeFix_any ao m c l w hm hs).mono fun _ _ h => took_fix hs.len h

set_option maxHeartbeats 1000000 in
set_option maxRecDepth 100000 in
theorem takes_walk (ao : Option Addr) (m c : Nat) (l : List UInt8) (w : World) (hm : m ≤ 140737488351232) (hs : Src w ao m c l) :
    Calls Try.prog 4 #[.slice ao m c] w fun e w' => e = .returned (.bool true) ∧ Below w.heap.size w w' := by
  have C1 := keep (fun w' (hb : Below w.heap.size w w') => takeNum_uni ao m c l w' (by omega) (hs.below hb))
  have C2 := keep (fun w' (hb : Below w.heap.size w w') => rtakeNum_uni ao m c l w' (by omega) (hs.below hb))
  have C3 := keep (fun w' (hb : Below w.heap.size w w') => takeFix_uni ao m c l w' (by omega) (hs.below hb))
  have C4 := keep (fun w' (hb : Below w.heap.size w w') => rtakeFix_uni ao m c l w' (by omega) (hs.below hb))
  have C5 := keep (fun w' => takeNum_uni none 0 0 [] w' (by omega) (src_nil w'))
  rw [eOf_nil] at C5
  generalize nOf l = N at C1 C2
  generalize rOf l = R at C1 C2
  generalize eOf l = E at C1 C2
  generalize fnOf l = N' at C3 C4
  generalize frOf l = R' at C3 C4
  generalize feOf l = E' at C3 C4
  generalize nOf [] = N0 at C5
  generalize rOf [] = R0 at C5
  clear hs
  go_enter Try.func4, Try.ntmps4
  go_wp2_with fail
  refine (C1.out _ (Below.refl _ _)).mono ?_
  rintro e w1 ⟨a1, c1, rfl, hs1, hb1⟩
  have b1 := keep hb1
  have S1 := keep hs1
  clear hb1 hs1
  go_wp2_with fail
  refine (C2.out _ b1.out).mono ?_
  rintro e w2 ⟨a2, c2, rfl, hs2, hb2⟩
  have b2 := keep (b1.out.trans (hb2.mono b1.out.size))
  have S1' := keep (S1.out.below hb2)
  have S2 := keep hs2
  clear hb2 hs2 S1 b1
  go_wp2_with fail
  refine (C3.out _ b2.out).mono ?_
  rintro e w3 ⟨a3, c3, rfl, hs3, hb3⟩
  have b3 := keep (b2.out.trans (hb3.mono b2.out.size))
  have S1 := keep (S1'.out.below hb3)
  have S2' := keep (S2.out.below hb3)
  have S3 := keep hs3
  clear hb3 hs3 S1' S2 b2
  go_wp2_with fail
  refine (C4.out _ b3.out).mono ?_
  rintro e w4 ⟨a4, c4, rfl, hs4, hb4⟩
  have b4 := keep (b3.out.trans (hb4.mono b3.out.size))
  have S1' := keep (S1.out.below hb4)
  have S2 := keep (S2'.out.below hb4)
  have S3' := keep (S3.out.below hb4)
  have S4 := keep hs4
  clear hb4 hs4 S1 S2' S3 b3
  go_wp2_with fail
  refine (C5.out _).mono ?_
  rintro e w5 ⟨a5, c5, rfl, hs5, hb5⟩
  have b5 := keep (b4.out.trans (hb5.mono b4.out.size))
  have T1 := keep (S1'.out.below hb5)
  have T2 := keep (S2.out.below hb5)
  have T3 := keep (S3'.out.below hb5)
  have T4 := keep (S4.out.below hb5)
  clear hb5 hs5 S1' S2 S3' S4 b4 C1 C2 C3 C4 C5
  go_wp2_with fail
  refine (same_any a1 _ c1 _ a2 _ c2 _ _ T1.out T2.out).mono ?_
  rintro e w6 ⟨rfl, hb6⟩
  have b6 := keep (b5.out.trans (hb6.mono b5.out.size))
  have U3 := keep (T3.out.below hb6)
  have U4 := keep (T4.out.below hb6)
  clear hb6 T1 T2 T3 T4 b5
  rw [decide_eq_true rfl]
  go_wp2_with fail
  refine (same_any a3 _ c3 _ a4 _ c4 _ _ U3.out U4.out).mono ?_
  rintro e w7 ⟨rfl, hb7⟩
  have b7 := keep (b6.out.trans (hb7.mono b6.out.size))
  clear hb7 U3 U4 b6
  rw [decide_eq_true rfl]
  go_wp2
  go_ret
  exact ⟨rfl, b7.out⟩
end Go.Proofs.Yticglckbjdchjaa
