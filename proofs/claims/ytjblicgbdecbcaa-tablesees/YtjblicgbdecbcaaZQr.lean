/- A region's answers joined; slots set; no walk. -/
import Derived.Test.YtjblicgbdecbcaaZJ9
namespace Go.Proofs.Ytjblicgbdecbcaa
open Go.RowKit
open Sk (Ent)

/-- R where the region ends as it should; never elsewhere. -/
def OnlyN (R : Act → World → Prop) : Exit → Act → World → Prop
  | .normal, a, w => R a w
  | _, _, _ => False
theorem region_share {P : Program} {id : Nat} {ops : Array Oper} {b : Bool} {Q : Exit → Act → World → Prop} {a : Act} {w : World} (R : Act → Act → World → Prop) (h1 : (Code.region id ops b).wp P (OnlyN (R a)) a w) (h2 : ∀ a' w', R a a' w' → Q .normal a' w') : (Code.region id ops b).wp P Q a w :=
  Code.wp_mono (fun e a' w' hh => by
    cases e with
    | normal => exact h2 a' w' hh
    | _ => exact (hh : False).elim) h1
/-- An activation, some slots set. -/
def sets (a : Act) : List (Nat × Value) → Act
  | [] => a
  | (i, v) :: t => sets (a.put (some i) v) t
end Go.Proofs.Ytjblicgbdecbcaa
