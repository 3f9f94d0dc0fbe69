/- The walks of code.crcOf, code.Crc. -/
import Derived.Test.YtlhblbaingojaabC
namespace Go.Proofs.Ytlhblbaingojaab
open Go.RowKit
attribute [local go_sem] U_xor U_xorb low_bit half low_poly U_not

set_option maxHeartbeats 1000000 in
set_option maxRecDepth 100000 in
theorem crcOf_any (ao : Option Addr) (m c : Nat) (l : List UInt8) (ao2 : Option Addr) (m2 c2 : Nat) (l2 : List UInt8) (w : World) (hm : m ≤ 140737488355328) (hm2 : m2 ≤ 140737488355328) (hs : Src w ao m c l) (hs2 : Src w ao2 m2 c2 l2) :
    Calls Try.prog 53 #[.slice ao m c, .slice ao2 m2 c2] w fun e w' => e = .returned (.int .u32 (U (crc (l ++ l2)))) ∧ Below w.heap.size w w' := by
  have HS := keep hs
  have HS2 := keep hs2
  clear hs hs2
  have hcr : Hid (crc (l ++ l2) = ~~~ crcW (crcW 0xFFFFFFFF l) l2) := by show _ = _; unfold crc; rw [crcW_append]
  go_enter Try.func53, Try.ntmps53
  go_wp2_with fail
  refine (crcGoOn_any 0xFFFFFFFF ao m c l _ hm HS.out).mono ?_
  rintro e w1 ⟨rfl, hb1⟩
  have HB := keep hb1
  clear hb1
  go_wp2_with fail
  refine (crcGoOn_any _ ao2 m2 c2 l2 _ hm2 (HS2.out.below HB.out)).mono ?_
  rintro e w2 ⟨rfl, hb2⟩
  have HB2 := keep (HB.out.trans (hb2.mono HB.out.size))
  clear hb2
  go_wp2
  go_ret
  refine ⟨?_, HB2.out⟩
  rw [hcr.out]
  rfl

set_option maxHeartbeats 1000000 in
set_option maxRecDepth 100000 in
theorem crc_any (ao : Option Addr) (m c : Nat) (l : List UInt8) (w : World) (hm : m ≤ 140737488355328) (hs : Src w ao m c l) :
    Calls Try.prog 42 #[.slice ao m c] w fun e w' => e = .returned (.int .u32 (U (crc l))) ∧ Below w.heap.size w w' := by
  have HS := keep hs
  clear hs
  go_enter Try.func42, Try.ntmps42
  go_wp2_with fail
  refine (crcOf_any ao m c l none 0 0 [] _ hm (by omega) HS.out (Src.empty (fun _ => rfl))).mono ?_
  rintro e w1 ⟨rfl, hb1⟩
  rw [List.append_nil]
  have HB := keep hb1
  clear hb1
  go_wp2
  go_ret
  exact ⟨rfl, HB.out⟩
end Go.Proofs.Ytlhblbaingojaab
