/- The walk of the statement on numbers behind bytes. -/
import Derived.Test.YticglckbjdchjaaRp
namespace Go.Proofs.Yticglckbjdchjaa
open Go.RowKit

theorem rputFix_any (ao : Option Addr) (m c : Nat) (l : List UInt8) (n : Int) (w : World) (hm : m + 8 ≤ 140737488355328) (hn : n < 9223372036854775808) (hs : Src w ao m c l) :
    Calls Try.prog 13 #[.slice ao m c, .int .i64 n] w fun e w' => ∃ v, e = .returned v ∧ New w w' v (m + 8) (l ++ be 8 n.toNat) := by
  by_cases h : n < 0
  · exact rputFix_neg ao m c l n n.toNat w h (by omega) hm hs
  · obtain ⟨N, rfl⟩ : ∃ N : Nat, n = (N : Int) := ⟨n.toNat, by omega⟩
    rw [Int.toNat_natCast]
    exact rputFix_pos ao m c l N w hn hm hs

set_option maxHeartbeats 1000000 in
set_option maxRecDepth 100000 in
theorem puts_walk (ao : Option Addr) (m c : Nat) (l : List UInt8) (n : Int) (w : World) (hm : m ≤ 140737488351232) (hn : -9223372036854775808 ≤ n ∧ n < 9223372036854775808) (hs : Src w ao m c l) :
    Calls Try.prog 3 #[.slice ao m c, .int .i64 n] w fun e w' => e = .returned (.bool true) ∧ Below w.heap.size w w' := by
  have HS := keep hs
  clear hs
  go_enter Try.func3, Try.ntmps3
  go_wp2_with fail
  refine (putNum_any ao m c l n _ (by omega) HS.out).mono ?_
  rintro e w1 ⟨v1, rfl, hn1⟩
  obtain ⟨a1, c1, rfl, hs1, _⟩ := hn1.src
  have b1 := keep hn1.2
  have S1 := keep hs1
  clear hn1 hs1
  go_wp2_with fail
  refine (rputNum_any ao m c l n _ (by omega) (HS.out.below b1.out)).mono ?_
  rintro e w2 ⟨v2, rfl, hn2⟩
  obtain ⟨a2, c2, rfl, hs2, _⟩ := hn2.src
  have b2 := keep (b1.out.trans (hn2.2.mono b1.out.size))
  have S1' := keep (S1.out.below hn2.2)
  have S2 := keep hs2
  clear hn2 hs2 b1 S1
  go_wp2_with fail
  refine (same_any a1 _ c1 _ a2 _ c2 _ _ S1'.out S2.out).mono ?_
  rintro e w3 ⟨rfl, hb3⟩
  have b3 := keep (b2.out.trans (hb3.mono b2.out.size))
  clear hb3 b2 S1' S2
  rw [decide_eq_true rfl]
  go_wp2_with fail
  refine (putFix_any ao m c l n _ (by omega) hn.2 (HS.out.below b3.out)).mono ?_
  rintro e w4 ⟨v4, rfl, hn4⟩
  obtain ⟨a4, c4, rfl, hs4, _⟩ := hn4.src
  have b4 := keep (b3.out.trans (hn4.2.mono b3.out.size))
  have S4 := keep hs4
  clear hn4 hs4 b3
  go_wp2_with fail
  refine (rputFix_any ao m c l n _ (by omega) hn.2 (HS.out.below b4.out)).mono ?_
  rintro e w5 ⟨v5, rfl, hn5⟩
  obtain ⟨a5, c5, rfl, hs5, _⟩ := hn5.src
  have b5 := keep (b4.out.trans (hn5.2.mono b4.out.size))
  have S4' := keep (S4.out.below hn5.2)
  have S5 := keep hs5
  clear hn5 hs5 b4 S4
  go_wp2_with fail
  refine (same_any a4 _ c4 _ a5 _ c5 _ _ S4'.out S5.out).mono ?_
  rintro e w6 ⟨rfl, hb6⟩
  have b6 := keep (b5.out.trans (hb6.mono b5.out.size))
  clear hb6 b5 S4' S5
  rw [decide_eq_true rfl]
  go_wp2
  go_ret
  exact ⟨rfl, b6.out⟩
end Go.Proofs.Yticglckbjdchjaa
