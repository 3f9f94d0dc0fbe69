/-
  DERIVED. GIVEN WITH THE SEED: THE CARDS: each row of YtkepjjkiajkdmaaDoorRows.lean that lists a variable, with what it lists TIED to the program's text (the seventh form; the later family's looks); each row that meets fmt, with fmt's text TOLD by the authors' own Lean function (tested against real Go, not proved from fmt's source: count such statements apart). THE CARD IS WHAT COUNTS. Prove the row's statement (the work); the ties are given (YtkepjjkiajkdmaaDoorTie.lean); close each card by the builder's one call (the guide's Derived/Test/ToyasCard.lean, 'card_holds'). Laid BY PROGRAM, IN A SANDBOX (cutbox-door.mjs). By AI agents, Wed Nov 11 2026. No macro, syntax, notation, axiom, sorry.
-/
import Derived.Test.YtkepjjkiajkdmaaDoorRows
import GoSem.ClaimSeven
namespace Go.Proofs.YtkepjjkiajkdmaaDoor
namespace Rows

/-- THE TIED CARD OF 'sawyerlaw16.SpanPushes'. -/
def spanPushesCard : Claim7 := { stood := { row := spanPushesRow, standIns := [], harness := (true, "0b6d4a8b26488006ba73977e682b94af95288336c06322ddbd262bf388691e45"), looks := false }, kinds := [], alts := [], laidByText := true, laidKinds := [.data, .data], laidTests := true, laidLooks := .later }
def SpanPushesCardSaid : Prop := Claim7.holds Tryd.pinned (.plain (OpenSpec.ofChange spanPushesSpec)) spanPushesCard

/-- THE TIED CARD OF 'sawyerlaw16.SpanCodes'. -/
def spanCodesCard : Claim7 := { stood := { row := spanCodesRow, standIns := [], harness := (true, "0b6d4a8b26488006ba73977e682b94af95288336c06322ddbd262bf388691e45"), looks := false }, kinds := [], alts := [], laidByText := true, laidKinds := [.data, .data], laidTests := true, laidLooks := .later }
def SpanCodesCardSaid : Prop := Claim7.holds Tryd.pinned (.plain (OpenSpec.ofChange spanCodesSpec)) spanCodesCard

/-- THE TIED CARD OF 'sawyerlaw16.SpanRoots'. -/
def spanRootsCard : Claim7 := { stood := { row := spanRootsRow, standIns := [], harness := (true, "0b6d4a8b26488006ba73977e682b94af95288336c06322ddbd262bf388691e45"), looks := false }, kinds := [], alts := [], laidByText := true, laidKinds := [.data, .data], laidTests := true, laidLooks := .later }
def SpanRootsCardSaid : Prop := Claim7.holds Tryd.pinned (.plain (OpenSpec.ofChange spanRootsSpec)) spanRootsCard

/-- THE TIED CARD OF 'sawyerlaw16.SpanBack'. -/
def spanBackCard : Claim7 := { stood := { row := spanBackRow, standIns := [], harness := (true, "0b6d4a8b26488006ba73977e682b94af95288336c06322ddbd262bf388691e45"), looks := false }, kinds := [], alts := [], laidByText := true, laidKinds := [.data, .data], laidTests := true, laidLooks := .later }
def SpanBackCardSaid : Prop := Claim7.holds Tryd.pinned (.plain (OpenSpec.ofChange spanBackSpec)) spanBackCard

/-- THE TIED CARD OF 'sawyerlaw16.SpanKeeps'. -/
def spanKeepsCard : Claim7 := { stood := { row := spanKeepsRow, standIns := [], harness := (true, "0b6d4a8b26488006ba73977e682b94af95288336c06322ddbd262bf388691e45"), looks := false }, kinds := [], alts := [], laidByText := true, laidKinds := [.data, .data], laidTests := true, laidLooks := .later }
def SpanKeepsCardSaid : Prop := Claim7.holds Tryd.pinned (.plain (OpenSpec.ofChange spanKeepsSpec)) spanKeepsCard

/-- THE SECOND FORM's CARD OF 'sawyerlaw16.SpanPushes'. -/
def spanPushesUptoCard : Claim7 := { stood := { row := spanPushesUptoRow, standIns := [], harness := (true, "0b6d4a8b26488006ba73977e682b94af95288336c06322ddbd262bf388691e45"), looks := false }, kinds := [], alts := [], laidByText := true, laidKinds := [.data, .data], laidTests := true, laidLooks := .later }
def SpanPushesUptoCardSaid : Prop := Claim7.holds Tryd.pinned (.plain (OpenSpec.upto spanPushesSpec)) spanPushesUptoCard

/-- THE SECOND FORM's CARD OF 'sawyerlaw16.SpanCodes'. -/
def spanCodesUptoCard : Claim7 := { stood := { row := spanCodesUptoRow, standIns := [], harness := (true, "0b6d4a8b26488006ba73977e682b94af95288336c06322ddbd262bf388691e45"), looks := false }, kinds := [], alts := [], laidByText := true, laidKinds := [.data, .data], laidTests := true, laidLooks := .later }
def SpanCodesUptoCardSaid : Prop := Claim7.holds Tryd.pinned (.plain (OpenSpec.upto spanCodesSpec)) spanCodesUptoCard

/-- THE SECOND FORM's CARD OF 'sawyerlaw16.SpanRoots'. -/
def spanRootsUptoCard : Claim7 := { stood := { row := spanRootsUptoRow, standIns := [], harness := (true, "0b6d4a8b26488006ba73977e682b94af95288336c06322ddbd262bf388691e45"), looks := false }, kinds := [], alts := [], laidByText := true, laidKinds := [.data, .data], laidTests := true, laidLooks := .later }
def SpanRootsUptoCardSaid : Prop := Claim7.holds Tryd.pinned (.plain (OpenSpec.upto spanRootsSpec)) spanRootsUptoCard

/-- THE SECOND FORM's CARD OF 'sawyerlaw16.SpanBack'. -/
def spanBackUptoCard : Claim7 := { stood := { row := spanBackUptoRow, standIns := [], harness := (true, "0b6d4a8b26488006ba73977e682b94af95288336c06322ddbd262bf388691e45"), looks := false }, kinds := [], alts := [], laidByText := true, laidKinds := [.data, .data], laidTests := true, laidLooks := .later }
def SpanBackUptoCardSaid : Prop := Claim7.holds Tryd.pinned (.plain (OpenSpec.upto spanBackSpec)) spanBackUptoCard

/-- THE SECOND FORM's CARD OF 'sawyerlaw16.SpanKeeps'. -/
def spanKeepsUptoCard : Claim7 := { stood := { row := spanKeepsUptoRow, standIns := [], harness := (true, "0b6d4a8b26488006ba73977e682b94af95288336c06322ddbd262bf388691e45"), looks := false }, kinds := [], alts := [], laidByText := true, laidKinds := [.data, .data], laidTests := true, laidLooks := .later }
def SpanKeepsUptoCardSaid : Prop := Claim7.holds Tryd.pinned (.plain (OpenSpec.upto spanKeepsSpec)) spanKeepsUptoCard
end Rows
end Go.Proofs.YtkepjjkiajkdmaaDoor
