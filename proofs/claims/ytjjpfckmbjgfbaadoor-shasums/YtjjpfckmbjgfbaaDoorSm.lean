/- The walk of the statement on the hash of any bytes. -/
import Derived.Test.YtjjpfckmbjgfbaaDoorRd
namespace Go.Proofs.YtjjpfckmbjgfbaaDoor
open Go.RowKit

set_option maxHeartbeats 1000000 in
set_option maxRecDepth 100000 in
theorem sums_walk (ao : Option Addr) (m c : Nat) (l : List UInt8) (w : World) (hm : m ≤ 140737488351232) (hc : c ≤ maxLen) (hT : Tab w) (hF : Fst w) (hs : Src w ao m c l) :
    Calls Tryd.prog 3 #[.slice ao m c] w fun e w' => e = .returned (.bool true) ∧ Below w.heap.size w w' := by
  go_enter Tryd.func3, Tryd.ntmps3
  go_wp2_with fail
  refine (sum_any ao m c l w (by omega) hc hT hF hs).mono ?_
  rintro e w1 ⟨rfl, hb1⟩
  have HS : Hid (Src w1 ao m c l) := hs.below hb1
  have hb1' : Hid (Below w.heap.size w w1) := hb1
  obtain ⟨sm, hsm⟩ : ∃ sm, sum l = sm := ⟨_, rfl⟩
  rw [hsm]
  have hsl : sm.length = 32 := by rw [← hsm]; exact sum_length l
  have hbs : (⟨sm.toArray⟩ : ByteArray).size = 32 := hsl
  have HSM : Hid (sum l = sm) := hsm
  clear hsm hs hT hF hb1
  go_wp2_with fail
  refine (rsum_any ao m c l w1 (by omega) HS.out).mono ?_
  rintro e w2 ⟨rfl, hb2⟩
  rw [HSM.out]
  clear HS HSM
  go_wp2
  go_ret
  exact ⟨by simp, hb1'.out.trans (hb2.mono hb1'.out.size)⟩
end Go.Proofs.YtjjpfckmbjgfbaaDoor
