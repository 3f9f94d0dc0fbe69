/- The walk of the statement on less, beginnings and what is next. -/
import Derived.Test.YtomceheophnjnaaRl
import Derived.Test.YtomceheophnjnaaCp
import Derived.Test.YtomceheophnjnaaSm
namespace Go.Proofs.Ytomceheophnjnaa
open Go.RowKit

set_option maxHeartbeats 1000000 in
set_option maxRecDepth 100000 in
theorem asks_walk (ao : Option Addr) (m c : Nat) (l : List UInt8) (ao2 : Option Addr) (m2 c2 : Nat) (l2 : List UInt8) (w : World) (hm : m ≤ 140737488351232) (hm2 : m2 ≤ 140737488351232) (hs : Src w ao m c l) (hs2 : Src w ao2 m2 c2 l2) :
    Calls Try.prog 3 #[.slice ao m c, .slice ao2 m2 c2] w fun e w' => e = .returned (.bool true) ∧ Below w.heap.size w w' := by
  have HS := keep hs
  have HS2 := keep hs2
  clear hs hs2
  go_enter Try.func3, Try.ntmps3
  go_wp2_with fail
  refine (less_any ao m c l ao2 m2 c2 l2 _ HS.out HS2.out).mono ?_
  rintro e w1 ⟨rfl, rfl⟩
  obtain ⟨x1, hx1⟩ : ∃ x, less l l2 = x := ⟨_, rfl⟩
  have HX1 := keep hx1
  rw [hx1]
  clear hx1
  go_wp2_with fail
  refine (refLess_any ao m c l ao2 m2 c2 l2 _ (by omega) (by omega) HS.out HS2.out).mono ?_
  rintro e w2 ⟨rfl, hb2⟩
  have b2 := keep hb2
  clear hb2
  rw [HX1.out]
  go_wp2_with fail
  refine (has_any ao m c l ao2 m2 c2 l2 _ (HS.out.below b2.out) (HS2.out.below b2.out)).mono ?_
  rintro e w3 ⟨rfl, hb3⟩
  have b3 := keep (b2.out.trans (hb3.mono b2.out.size))
  clear hb3 b2
  obtain ⟨x2, hx2⟩ : ∃ x, decide (l2 <+: l) = x := ⟨_, rfl⟩
  have HX2 := keep hx2
  rw [hx2]
  clear hx2
  go_wp2_with fail
  refine (refHas_any ao m c l ao2 m2 c2 l2 _ (HS.out.below b3.out) (HS2.out.below b3.out)).mono ?_
  rintro e w4 ⟨rfl, hb4⟩
  have b4 := keep (b3.out.trans (hb4.mono b3.out.size))
  clear hb4 b3
  rw [HX2.out]
  go_wp2_with fail
  refine (next_any ao m c l _ (by omega) (HS.out.below b4.out)).mono ?_
  rintro e w5 ⟨v5, n5, rfl, hn5⟩
  obtain ⟨a5, c5, rfl, hs5, _⟩ := hn5.src
  have b5 := keep (b4.out.trans (hn5.2.mono b4.out.size))
  have S5 := keep hs5
  clear hn5 hs5 b4
  go_wp2_with fail
  refine (refNext_any ao m c l _ (by omega) (HS.out.below b5.out)).mono ?_
  rintro e w6 ⟨v6, n6, rfl, hn6⟩
  obtain ⟨a6, c6, rfl, hs6, _⟩ := hn6.src
  have b6 := keep (b5.out.trans (hn6.2.mono b5.out.size))
  have S5' := keep (S5.out.below hn6.2)
  have S6 := keep hs6
  clear hn6 hs6 b5 S5
  go_wp2_with fail
  refine (same_any a5 _ c5 _ a6 _ c6 _ _ S5'.out S6.out).mono ?_
  rintro e w7 ⟨rfl, hb7⟩
  have b7 := keep (b6.out.trans (hb7.mono b6.out.size))
  clear hb7 b6 S5' S6
  rw [decide_eq_true rfl]
  go_wp2_with fail
  have B8 := keep (b7.out.alloc b7.out.size (.cells #[.int .u8 0] 5))
  refine (less_any none 0 0 [] _ 1 1 [0] _ (src_nil _) (Src.builtI _ 0 0 rfl)).mono ?_
  rintro e w8 ⟨rfl, rfl⟩
  have e0 : less [] [0] = true := rfl
  rw [e0]
  go_wp2
  go_ret
  exact ⟨rfl, B8.out⟩
end Go.Proofs.Ytomceheophnjnaa
