/- The walk of code.PutFix. -/
import Derived.Test.YtomceheophnjnabDoorH
namespace Go.Proofs.YtomceheophnjnabDoor
open Go.RowKit

set_option maxHeartbeats 1000000 in
set_option maxRecDepth 100000 in
theorem putFix_any (ao : Option Addr) (m c : Nat) (l : List UInt8) (n : Int) (w : World) (hm : m + 8 ≤ 140737488355328) (hn : n < 9223372036854775808) (hs : Src w ao m c l) :
    Calls Tryd.prog 11 #[.slice ao m c, .int .i64 n] w fun e w' => ∃ v, e = .returned v ∧ New w w' v (m + 8) (l ++ be 8 n.toNat) := by
  have HS := keep hs
  clear hs
  obtain ⟨N, hN⟩ : ∃ N : Nat, N = n.toNat := ⟨_, rfl⟩
  rw [← hN]
  by_cases h0 : n < 0
  · have hN0 : N = 0 := by omega
    subst hN0
    clear hN
    go_enter Tryd.func11, Tryd.ntmps11
    go_wp2_with fail
    refine (highFirst_any 0 8 _ (by omega) (by omega)).mono ?_
    rintro e w1 ⟨v1, rfl, hn1⟩
    have HN := keep hn1
    obtain ⟨a1, c1, rfl, hs1, _⟩ := hn1.src
    have HS1 := keep hs1
    clear hs1 hn1
    go_wp2_with fail
    refine (layB_any ao m c l a1 _ c1 _ w1 (by omega) (HS.out.below HN.out.2) HS1.out).mono ?_
    rintro e w2 ⟨v2, rfl, hn2⟩
    have HN2 := keep (hn2.after HN.out.2)
    clear hn2
    go_wp2
    go_ret
    exact ⟨_, rfl, HN2.out⟩
  · obtain rfl : n = (N : Int) := by omega
    clear hN
    have h1 : (0 : Int) ≤ (N : Int) := by omega
    go_enter Tryd.func11, Tryd.ntmps11
    go_wp2_with fail
    refine (highFirst_any N 8 _ (by omega) (by omega)).mono ?_
    rintro e w1 ⟨v1, rfl, hn1⟩
    have HN := keep hn1
    obtain ⟨a1, c1, rfl, hs1, _⟩ := hn1.src
    have HS1 := keep hs1
    clear hs1 hn1
    go_wp2_with fail
    refine (layB_any ao m c l a1 _ c1 _ w1 (by omega) (HS.out.below HN.out.2) HS1.out).mono ?_
    rintro e w2 ⟨v2, rfl, hn2⟩
    have HN2 := keep (hn2.after HN.out.2)
    clear hn2
    go_wp2
    go_ret
    exact ⟨_, rfl, HN2.out⟩
theorem putFix_nil (n : Int) (w : World) (hn : n < 9223372036854775808) : Calls Tryd.prog 11 #[.slice none 0 0, .int .i64 n] w fun e w' => ∃ ao c, e = .returned (.slice ao 8 c) ∧ New w w' (.slice ao 8 c) 8 (be 8 n.toNat) :=
  (putFix_any none 0 0 [] n w (by omega) hn (src_nil w)).mono fun e w' ⟨v, he, h⟩ => by
    simp only [Nat.zero_add, List.nil_append] at h
    obtain ⟨ao, c, rfl, _, _⟩ := h.src
    exact ⟨ao, c, he, h⟩
end Go.Proofs.YtomceheophnjnabDoor
