/- The walk of the statement on the code of any bytes under any key. -/
import Derived.Test.YtjjpfckmbjgfbaaDoorRf
namespace Go.Proofs.YtjjpfckmbjgfbaaDoor
open Go.RowKit

set_option maxHeartbeats 1000000 in
set_option maxRecDepth 100000 in
theorem macs_walk (ao : Option Addr) (m c : Nat) (key : List UInt8) (ao2 : Option Addr) (m2 c2 : Nat) (l : List UInt8) (w : World) (hm : m ≤ 140737488351232) (hc : c ≤ maxLen) (hm2 : m2 ≤ 140737488351232) (hT : Tab w) (hF : Fst w) (hs : Src w ao m c key) (hs2 : Src w ao2 m2 c2 l) :
    Calls Tryd.prog 4 #[.slice ao m c, .slice ao2 m2 c2] w fun e w' => e = .returned (.bool true) ∧ Below w.heap.size w w' := by
  go_enter Tryd.func4, Tryd.ntmps4
  go_wp2_with fail
  refine (mac_any ao m c key ao2 m2 c2 l w (by omega) hc (by omega) hT hF hs hs2).mono ?_
  rintro e w1 ⟨rfl, hb1⟩
  have HS : Hid (Src w1 ao m c key) := hs.below hb1
  have HS2 : Hid (Src w1 ao2 m2 c2 l) := hs2.below hb1
  have hb1' : Hid (Below w.heap.size w w1) := hb1
  obtain ⟨sm, hsm⟩ : ∃ sm, mac key l = sm := ⟨_, rfl⟩
  rw [hsm]
  have hsl : sm.length = 32 := by rw [← hsm]; exact sum_length _
  have hbs : (⟨sm.toArray⟩ : ByteArray).size = 32 := hsl
  have HSM : Hid (mac key l = sm) := hsm
  clear hsm hs hs2 hT hF hb1
  go_wp2_with fail
  refine (rmac_any ao m c key ao2 m2 c2 l w1 hm hm2 HS.out HS2.out).mono ?_
  rintro e w2 ⟨rfl, hb2⟩
  rw [HSM.out]
  clear HS HS2 HSM
  go_wp2
  go_ret
  exact ⟨by simp, hb1'.out.trans (hb2.mono hb1'.out.size)⟩
end Go.Proofs.YtjjpfckmbjgfbaaDoor
