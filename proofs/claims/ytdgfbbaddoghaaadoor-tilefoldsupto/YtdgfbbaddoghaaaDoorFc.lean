/- The walk of TileFolds. -/
import Derived.Test.YtdgfbbaddoghaaaDoorFb
import Derived.Test.YtdgfbbaddoghaaaDoorTv
namespace Go.Proofs.YtdgfbbaddoghaaaDoor
open Go.RowKit

set_option maxHeartbeats 1000000 in
set_option maxRecDepth 100000 in
theorem tileFolds_walk (lp : Option Addr) (ln lc : Nat) (ls : List (List UInt8)) (w : World) (hL : Ld w) (hsl : RSrc strKind w lp ln lc ls) (hsh : ∀ e ∈ ls, e.length ≤ 1048576) (hln : ln ≤ 1048576) :
    Calls Tryd.prog 3 #[.slice lp ln lc] w fun e w' => e = .returned (.bool true) ∧ Below w.heap.size w w' := by
  have AW := keep (awake_any w)
  by_cases h2 : (300 : Int) < (ln : Int)
  · clear hL hsl hsh
    go_enter Tryd.func3, Tryd.ntmps3
    go_wp2_with fail
    refine AW.out.mono ?_
    rintro e w1 ⟨rfl, hb1⟩
    have B1 := keep hb1
    clear hb1 AW
    go_wp2
    go_ret
    exact ⟨rfl, B1.out⟩
  · have FA : Hid (∀ w', Below w.heap.size w w' → Calls Tryd.prog 7 #[.slice lp ln lc] w' fun e w'' => e = .returned (.string ⟨(foldL ls).toArray⟩) ∧ Below w'.heap.size w' w'') := fun w' hb => fold_any lp ln lc ls w' (hL.below hb) (hsl.below strKind_ok hb) (fun e he => Nat.le_trans (hsh e he) (by decide)) (by omega)
    have RA : Hid (∀ w', Below w.heap.size w w' → Calls Tryd.prog 8 #[.slice lp ln lc] w' fun e w'' => e = .returned (.string ⟨(foldL ls).toArray⟩) ∧ Below w'.heap.size w' w'') := fun w' hb => rfold_any lp ln lc ls w' (hsl.below strKind_ok hb) (fun e he => Nat.le_trans (hsh e he) (by decide)) (by omega)
    obtain ⟨X, hX⟩ : ∃ X, foldL ls = X := ⟨_, rfl⟩
    rw [hX] at FA RA
    clear hL hsl hsh hX
    go_enter Tryd.func3, Tryd.ntmps3
    go_wp2_with fail
    refine AW.out.mono ?_
    rintro e w1 ⟨rfl, hb1⟩
    have B1 := keep hb1
    clear hb1 AW
    go_wp2_with fail
    refine (FA.out w1 B1.out).mono ?_
    rintro e w2 ⟨rfl, hb2⟩
    have B2 := keep (B1.out.trans (hb2.mono B1.out.size))
    clear hb2 FA
    go_wp2_with fail
    refine (RA.out w2 B2.out).mono ?_
    rintro e w3 ⟨rfl, hb3⟩
    have B3 := keep (B2.out.trans (hb3.mono B2.out.size))
    clear hb3 RA
    go_wp2
    go_ret
    exact ⟨rfl, B3.out⟩
end Go.Proofs.YtdgfbbaddoghaaaDoor
