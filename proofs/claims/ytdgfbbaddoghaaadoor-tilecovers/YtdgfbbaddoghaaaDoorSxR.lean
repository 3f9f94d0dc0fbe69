/- The walks of turn, RotateLeft32 and the document's turned. -/
import Derived.Test.YtdgfbbaddoghaaaDoorRows
import Derived.Test.YtdgfbbaddoghaaaDoorSxU
import Derived.Deep.QuietTactic
import Derived.BigQuiet
namespace Go.Proofs.YtdgfbbaddoghaaaDoor.Sha
open Go.RowKit

set_option maxHeartbeats 400000 in
theorem rl32 (x : UInt32) (n : Nat) (h1 : 0 < n) (h2 : n < 32) (w : World) :
    Calls Tryd.prog 64 #[.int .u32 (U x), .int .i64 (-(n : Int))] w fun e w' => e = .returned (.int .u32 (U (rotr x n))) ∧ w' = w := by
  have hm := minus_and n h1 h2
  go_enter Tryd.func64, Tryd.ntmps64
  go_wp2
  rw [show 32 - (32 - n) = n from by omega, rotr_walk' x n h1 h2]
  go_ret
  exact ⟨rfl, rfl⟩
set_option maxHeartbeats 400000 in
theorem turn (x : UInt32) (n : Nat) (h1 : 0 < n) (h2 : n < 32) (w : World) :
    Calls Tryd.prog 63 #[.int .u32 (U x), .int .i64 (n : Int)] w fun e w' => e = .returned (.int .u32 (U (rotr x n))) ∧ w' = w := by
  go_enter Tryd.func63, Tryd.ntmps63
  go_wp2_with fail
  refine (rl32 x n h1 h2 _).mono ?_
  rintro e w1 ⟨rfl, rfl⟩
  go_wp2
  go_ret
  exact ⟨rfl, rfl⟩
set_option maxHeartbeats 400000 in
theorem turned (x : UInt32) (n : Nat) (h1 : 0 < n) (h2 : n < 32) (w : World) :
    Calls Tryd.prog 61 #[.int .u32 (U x), .int .i64 (n : Int)] w fun e w' => e = .returned (.int .u32 (U (rotr x n))) ∧ ∃ k, w' = w.drewN k := by
  go_enter Tryd.func61, Tryd.ntmps61
  go_wp2
  go_quiet (fail)
  rw [rotr_walk x n h1 h2]
  go_wp2
  go_ret
  exact ⟨rfl, _, rfl⟩
theorem turnI (x : UInt32) (n : Int) (h1 : 0 < n) (h2 : n < 32) (w : World) :
    Calls Tryd.prog 63 #[.int .u32 (U x), .int .i64 n] w fun e w' => e = .returned (.int .u32 (U (rotI x n))) ∧ w' = w := by
  obtain ⟨m, rfl⟩ : ∃ m : Nat, n = (m : Int) := ⟨n.toNat, by omega⟩
  unfold rotI
  rw [Int.toNat_natCast]
  exact turn x m (by omega) (by omega) w
theorem turnedI (x : UInt32) (n : Int) (h1 : 0 < n) (h2 : n < 32) (w : World) :
    Calls Tryd.prog 61 #[.int .u32 (U x), .int .i64 n] w fun e w' => e = .returned (.int .u32 (U (rotI x n))) ∧ ∃ k, w' = w.drewN k := by
  obtain ⟨m, rfl⟩ : ∃ m : Nat, n = (m : Int) := ⟨n.toNat, by omega⟩
  unfold rotI
  rw [Int.toNat_natCast]
  exact turned x m (by omega) (by omega) w
end Go.Proofs.YtdgfbbaddoghaaaDoor.Sha
