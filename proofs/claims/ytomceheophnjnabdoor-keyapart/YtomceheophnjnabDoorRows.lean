/-
  NARROWER THAN 'FOR EVERY INPUT', by the rows' own cells (each row's printed sentence says how): KeyTables: laid · KeyApart: laid.
  DERIVED. THE GIVEN ROWS OF THIS SEAT. 2 by the template 'for every input the law returns true; each argument reads behind the call as it read before'; 0 by the template 'total and deterministic' (their statements: YtomceheophnjnabDoorTotals.lean).
  GIVEN WITH THE SEED: the statements are not yours to turn. If you find one false, say at which input.
  Laid BY PROGRAM, IN A SANDBOX (cutbox-rows.mjs): the forced cells as the released guide's own fill.sh prints them over the translation 6acaa7eab1ad3cd9… (all of the seat's roots in one cut). By AI agents, Wed Nov 11 2026. No macro, syntax, notation, axiom, sorry.
-/
import Derived.Test.YtomceheophnjnabDoorChecked
import GoSem.Claim
import GoSem.ClaimJoined
import GoSem.ClaimMapViews
import Derived.JoinedTies
import Derived.KernelRfl
namespace Go.Proofs.YtomceheophnjnabDoor
/- THE CELL 'sum', in the pinned program and in every row, IS THE sha256 OF THE DUMP (.gsa) THAT YtomceheophnjnabDoorProg.lean LOADS. Nothing in Lean hashes anything: it is a label: what it is worth is what the hold of that sum in a sandbox is worth. -/
noncomputable def Tryd.pinned : Pinned := { name := "ytomceheophnjnabdoor", sum := "6acaa7eab1ad3cd99334d26fb6fb795c5641feb8929fe7ce33b40fb62e29ccb3", checked := Tryd.checked }
namespace Rows
def none {H : Type} : Left H := { results := [], args := [] }

/- WHAT THE LISTED PACKAGE-LEVEL VARIABLES READ AS WHEN THE CALL BEGINS. Each datum BY PROGRAM (the guide's laid-datum.mjs) off the statement by which the dump's own 'gosem.cut.vars' lays the variable. In a bare row this is a premise. The card (YtomceheophnjnabDoorCards.lean) ties it to the program's text. -/
def laid_sawyer_key_errNotMade {H : Type} : DataW H := .iface "*errors.errorString" (.ptr (.agg [.lit (.string [110, 111, 32, 107, 101, 121, 32, 105, 115, 32, 109, 97, 100, 101, 32, 115, 111])]))

/-- 'sawyerlaw03.KeyTables': WHATEVER THE INPUT: true; the input reads as it did. -/
def keyTablesSpec : ChangeSpec := { name := "keyTables", fn := fun _ => fun
  | [d1, d2, d3, d4, d5] => { results := [.lit (.bool true)], args := [d1, d2, d3, d4, d5] }
  | _ => none }
def keyTablesRow : OpenClaim := { program := "ytomceheophnjnabdoor", sum := "6acaa7eab1ad3cd99334d26fb6fb795c5641feb8929fe7ce33b40fb62e29ccb3", func := "sawyer/sawyerlaw03.KeyTables", spec := "keyTables", inPlace := ["internal/reflectlite.TypeOf", "internal/bytealg.Compare"], unfollowed := true, recurses := true, named := ["sawyer/key.errNotMade"], apart := false, laid := [("sawyer/key.errNotMade", laid_sawyer_key_errNotMade)] }
def KeyTablesSaid : Prop := keyTablesRow.holds Tryd.pinned (OpenSpec.ofChange keyTablesSpec)

/-- ITS FALSE NEIGHBOUR: 'it returns false'. Refute it at one input. -/
def keyTablesWrong : ChangeSpec := { name := "keyTables", fn := fun _ => fun
  | [d1, d2, d3, d4, d5] => { results := [.lit (.bool false)], args := [d1, d2, d3, d4, d5] }
  | _ => none }
def KeyTablesWrongFalsely : Prop := keyTablesRow.holds Tryd.pinned (OpenSpec.ofChange keyTablesWrong)

/-- 'sawyerlaw03.KeyApart': WHATEVER THE INPUT: true; the input reads as it did. -/
def keyApartSpec : ChangeSpec := { name := "keyApart", fn := fun _ => fun
  | [d1, d2, d3, d4, d5, d6] => { results := [.lit (.bool true)], args := [d1, d2, d3, d4, d5, d6] }
  | _ => none }
def keyApartRow : OpenClaim := { program := "ytomceheophnjnabdoor", sum := "6acaa7eab1ad3cd99334d26fb6fb795c5641feb8929fe7ce33b40fb62e29ccb3", func := "sawyer/sawyerlaw03.KeyApart", spec := "keyApart", inPlace := ["internal/reflectlite.TypeOf", "internal/bytealg.Compare"], unfollowed := true, recurses := true, named := ["sawyer/key.errNotMade"], apart := false, laid := [("sawyer/key.errNotMade", laid_sawyer_key_errNotMade)] }
def KeyApartSaid : Prop := keyApartRow.holds Tryd.pinned (OpenSpec.ofChange keyApartSpec)

/-- ITS FALSE NEIGHBOUR: 'it returns false'. Refute it at one input. -/
def keyApartWrong : ChangeSpec := { name := "keyApart", fn := fun _ => fun
  | [d1, d2, d3, d4, d5, d6] => { results := [.lit (.bool false)], args := [d1, d2, d3, d4, d5, d6] }
  | _ => none }
def KeyApartWrongFalsely : Prop := keyApartRow.holds Tryd.pinned (OpenSpec.ofChange keyApartWrong)

/- THE SECOND FORM. 'bulk': how many values and letters a reading holds, each counted each time it is reached (what is shared counts as often as it is met; a slice's spare places count too). A statement '..UptoSaid' is the law's where the arguments, and the package variables that the reading takes, are together of bulk at most 1048576: NARROWER than '..Said'. Prove '..Said' where nothing that the law and all that it calls make is longer than what came in: it says more and counts as full. Else prove '..UptoSaid'. A law counts once. -/
mutual
def uptoBulk {H : Type} : DataW H → Nat
  | .lit (.string bytes) => bytes.length + 1
  | .lit _ => 1
  | .nil => 1
  | .ptr d => uptoBulk d + 1
  | .slice elems spare => uptoBulkAll elems + uptoBulkAll spare + 1
  | .agg parts => uptoBulkAll parts + 1
  | .iface _ d => uptoBulk d + 1
  | .map entries => uptoBulkEntries entries + 1
  | .held _ => 1
def uptoBulkAll {H : Type} : List (DataW H) → Nat
  | [] => 0
  | d :: r => uptoBulk d + uptoBulkAll r
def uptoBulkEntries {H : Type} : List (Lit × DataW H) → Nat
  | [] => 0
  | x :: r => uptoBulkEntry x + uptoBulkEntries r
def uptoBulkEntry {H : Type} : Lit × DataW H → Nat
  | (.string bytes, d) => bytes.length + uptoBulk d + 1
  | (_, d) => uptoBulk d + 1
 end
def uptoSmall : (H : Type) → List (DataW H) → Bool := fun _ ds => decide (uptoBulkAll ds ≤ 1048576)
def OpenSpec.upto (s : _root_.Go.ChangeSpec) : _root_.Go.OpenSpec := { _root_.Go.OpenSpec.ofChange s with cond := some uptoSmall }

/-- 'sawyerlaw03.KeyTables', WHERE WHAT IT READS IS OF BULK AT MOST 1048576: true; the input reads as it did. -/
def keyTablesUptoRow : OpenClaim := { program := "ytomceheophnjnabdoor", sum := "6acaa7eab1ad3cd99334d26fb6fb795c5641feb8929fe7ce33b40fb62e29ccb3", func := "sawyer/sawyerlaw03.KeyTables", spec := "keyTables", inPlace := ["internal/reflectlite.TypeOf", "internal/bytealg.Compare"], unfollowed := true, recurses := true, named := ["sawyer/key.errNotMade"], apart := false, laid := [("sawyer/key.errNotMade", laid_sawyer_key_errNotMade)], narrowed := true }
def KeyTablesUptoSaid : Prop := keyTablesUptoRow.holds Tryd.pinned (OpenSpec.upto keyTablesSpec)

/-- 'sawyerlaw03.KeyApart', WHERE WHAT IT READS IS OF BULK AT MOST 1048576: true; the input reads as it did. -/
def keyApartUptoRow : OpenClaim := { program := "ytomceheophnjnabdoor", sum := "6acaa7eab1ad3cd99334d26fb6fb795c5641feb8929fe7ce33b40fb62e29ccb3", func := "sawyer/sawyerlaw03.KeyApart", spec := "keyApart", inPlace := ["internal/reflectlite.TypeOf", "internal/bytealg.Compare"], unfollowed := true, recurses := true, named := ["sawyer/key.errNotMade"], apart := false, laid := [("sawyer/key.errNotMade", laid_sawyer_key_errNotMade)], narrowed := true }
def KeyApartUptoSaid : Prop := keyApartUptoRow.holds Tryd.pinned (OpenSpec.upto keyApartSpec)

end Rows
end Go.Proofs.YtomceheophnjnabDoor
