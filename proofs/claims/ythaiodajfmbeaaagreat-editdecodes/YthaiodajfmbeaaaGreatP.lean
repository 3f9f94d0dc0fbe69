/- The walk of code.PutNum. -/
import Derived.Test.YthaiodajfmbeaaaGreatG
namespace Go.Proofs.YthaiodajfmbeaaaGreat
open Go.RowKit

set_option maxHeartbeats 1000000 in
set_option maxRecDepth 100000 in
theorem putNum_any (ao : Option Addr) (m c : Nat) (l : List UInt8) (n : Int) (w : World) (hm : m + 9 ≤ 140737488355328) (hs : Src w ao m c l) :
    Calls Tryz.prog 57 #[.slice ao m c, .int .i64 n] w fun e w' => ∃ v, e = .returned v ∧ New w w' v (m + (num (cl n)).length) (l ++ num (cl n)) := by
  have h9 := num9 n
  have HS := keep hs
  clear hs
  go_enter Tryz.func57, Tryz.ntmps57
  go_wp2_with fail
  refine (groups_any n _).mono ?_
  rintro e w1 ⟨v1, rfl, hn1⟩
  have HN := keep hn1
  obtain ⟨a1, c1, rfl, hs1, _⟩ := hn1.src
  have HS1 := keep hs1
  clear hs1 hn1
  go_wp2_with fail
  refine (layB_any ao m c l a1 _ c1 _ w1 (by omega) (HS.out.below HN.out.2) HS1.out).mono ?_
  rintro e w2 ⟨v2, rfl, hn2⟩
  have HN2 := keep (hn2.after HN.out.2)
  clear hn2
  go_wp2
  go_ret
  exact ⟨_, rfl, HN2.out⟩

theorem putNum_nil (n : Int) (w : World) : Calls Tryz.prog 57 #[.slice none 0 0, .int .i64 n] w fun e w' => ∃ ao c, e = .returned (.slice ao (num (cl n)).length c) ∧ New w w' (.slice ao (num (cl n)).length c) (num (cl n)).length (num (cl n)) :=
  (putNum_any none 0 0 [] n w (by omega) (src_nil w)).mono fun e w' ⟨v, he, h⟩ => by
    simp only [Nat.zero_add, List.nil_append] at h
    obtain ⟨ao, c, rfl, _, _⟩ := h.src
    exact ⟨ao, c, he, h⟩
end Go.Proofs.YthaiodajfmbeaaaGreat
