/- The walks of the document's PutNum and of Same. -/
import Derived.Test.YthaiodajfmbeaaaGreatP
namespace Go.Proofs.YthaiodajfmbeaaaGreat
open Go.RowKit

set_option maxHeartbeats 1000000 in
set_option maxRecDepth 100000 in
theorem same_any (ao : Option Addr) (m c : Nat) (l : List UInt8) (ao2 : Option Addr) (m2 c2 : Nat) (l2 : List UInt8) (w : World) (hs : Src w ao m c l) (hs2 : Src w ao2 m2 c2 l2) :
    Calls Tryz.prog 19 #[.slice ao m c, .slice ao2 m2 c2] w fun e w' => e = .returned (.bool (decide (l = l2))) ∧ Below w.heap.size w w' := by
  have h1 := conv_src hs
  have h2 := conv_src hs2
  clear hs hs2
  go_enter Tryz.func19, Tryz.ntmps19
  go_wp2
  go_ret
  exact ⟨by rw [← list_beq]; rfl, by first | exact Below.refl _ _ | exact (Below.refl _ _).drew⟩

end Go.Proofs.YthaiodajfmbeaaaGreat
