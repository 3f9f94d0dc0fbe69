/- Entries that a call owns; no walk. -/
import Derived.Test.YtgdggeacjfhkkaaSb
import Derived.Test.YtgdggeacjfhkkaaOw
import Derived.Deep.RegionWith
import Derived.BigRegion
namespace Go.Proofs.Ytgdggeacjfhkkaa
open Go.RowKit
open Sk (Ent)

theorem set_far {w : World} {g b : Nat} (i : Nat) (v : Value) (h : g ≠ b) : (w.setCell ⟨b, i, none⟩ v).heap[g]? = w.heap[g]? := Below.heap_setCell w ⟨b, i, none⟩ v g h
/-- An entry in memory that was made at or beyond B. -/
def OwnE (B : Nat) (w : World) (y : EV) : Prop := w.ownsRow B 5 1 (.slice y.kp y.e.key.length y.kc) y.e.key.length (bv y.e.key) ∧ w.ownsRow B 5 1 (.slice y.vp y.e.val.length y.vc) y.e.val.length (bv y.e.val)
end Go.Proofs.Ytgdggeacjfhkkaa
