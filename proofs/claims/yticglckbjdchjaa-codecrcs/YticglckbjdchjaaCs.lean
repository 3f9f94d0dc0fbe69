/- The walk of the statement on the sum of any bytes. -/
import Derived.Test.YticglckbjdchjaaCr
import Derived.Test.YticglckbjdchjaaRc
import Derived.Lib.SlBytesConst
namespace Go.Proofs.Yticglckbjdchjaa
open Go.RowKit

theorem Src.block {w : World} {g n : Nat} {l : List UInt8} {fr : Nat × Nat} (h : w.heap[g]? = some (.cells (bv l).toArray 5 fr)) (hl : l.length = n) : Src w (some ⟨g, 0, none⟩) n n l :=
  ⟨hl, Nat.le_refl _, (fun e => by cases e), fun ad had j u hu => by
    cases had
    rw [Addr.add_mid, Nat.zero_add, cell_of_row _ _ _ _ _ _ h]
    simpa using hu⟩
theorem conv_const (w : World) (C : Array Value) (n c : Nat) : (convert 22 22 (.slice (some ⟨w.heap.size, 0, none⟩) n c)).run Try.prog (w.alloc (.cells C 5)) = .ok (.slice (some ⟨w.heap.size, 0, none⟩) n c) (w.alloc (.cells C 5 (C.size, C.size + 1))) :=
  Lib.run_convert_bytes_const w 22 5 C n c Try.underlying22 Try.underlying5
theorem crc_known : crc [49, 50, 51, 52, 53, 54, 55, 56, 57] = 3421780262 := by decide +kernel
theorem U_known : U 3421780262 = 3421780262 := by unfold U; rfl

set_option maxHeartbeats 1000000 in
set_option maxRecDepth 100000 in
theorem crcs_walk (ao : Option Addr) (m c : Nat) (l : List UInt8) (w : World) (hm : m ≤ 140737488351232) (hs : Src w ao m c l) :
    Calls Try.prog 6 #[.slice ao m c] w fun e w' => e = .returned (.bool true) ∧ Below w.heap.size w w' := by
  have hcv := conv_const
  have HS := keep hs
  clear hs
  go_enter Try.func6, Try.ntmps6
  go_wp2_with fail
  have b0 := keep ((Below.refl w.heap.size w).alloc (Nat.le_refl _) (.cells (bv [49, 50, 51, 52, 53, 54, 55, 56, 57]).toArray 5 (9, 10)))
  refine (crc_any (some ⟨w.heap.size, 0, none⟩) 9 9 [49, 50, 51, 52, 53, 54, 55, 56, 57] _ (by omega) (Src.block (heap_alloc_new w _) rfl)).mono ?_
  rintro e w1 ⟨rfl, hb1⟩
  rw [crc_known, U_known]
  have b1 := keep (b0.out.trans (hb1.mono b0.out.size))
  clear hb1 b0
  go_wp2_with fail
  refine (crc_any ao m c l _ (by omega) (HS.out.below b1.out)).mono ?_
  rintro e w2 ⟨rfl, hb2⟩
  have b2 := keep (b1.out.trans (hb2.mono b1.out.size))
  clear hb2 b1
  go_wp2_with fail
  refine (rcrc_any ao m c l _ (by omega) (HS.out.below b2.out)).mono ?_
  rintro e w3 ⟨rfl, hb3⟩
  have b3 := keep (b2.out.trans (hb3.mono b2.out.size))
  clear hb3 b2
  go_wp2
  go_ret
  exact ⟨by simp, b3.out⟩
end Go.Proofs.Yticglckbjdchjaa
