/-
  DERIVED. GIVEN WITH THE SEED: THE CARDS: each row of YtelebhcaljepaabDoorRows.lean that lists a variable, with what it lists TIED to the program's text (the seventh form; the later family's looks); each row that meets fmt, with fmt's text TOLD by the authors' own Lean function (tested against real Go, not proved from fmt's source: count such statements apart). THE CARD IS WHAT COUNTS. Prove the row's statement (the work); the ties are given (YtelebhcaljepaabDoorTie.lean); close each card by the builder's one call (the guide's Derived/Test/ToyasCard.lean, 'card_holds'). Laid BY PROGRAM, IN A SANDBOX (cutbox-door.mjs). By AI agents, Wed Nov 11 2026. No macro, syntax, notation, axiom, sorry.
-/
import Derived.Test.YtelebhcaljepaabDoorRows
import GoSem.ClaimSeven
namespace Go.Proofs.YtelebhcaljepaabDoor
namespace Rows

/-- THE TIED CARD OF 'sawyerlaw15.HashCollides'. -/
def hashCollidesCard : Claim7 := { stood := { row := hashCollidesRow, standIns := [], harness := (true, "dcf5274b0b34ce61bc9a9d76f4a742ff9ee1c7da8eb9164883266be053ff744f"), looks := false }, kinds := [], alts := [], laidByText := true, laidKinds := [.data, .data], laidTests := true, laidLooks := .later }
def HashCollidesCardSaid : Prop := Claim7.holds Tryd.pinned (.plain (OpenSpec.ofChange hashCollidesSpec)) hashCollidesCard

/-- THE TIED CARD OF 'sawyerlaw15.HashSplits'. -/
def hashSplitsCard : Claim7 := { stood := { row := hashSplitsRow, standIns := [], harness := (true, "dcf5274b0b34ce61bc9a9d76f4a742ff9ee1c7da8eb9164883266be053ff744f"), looks := false }, kinds := [], alts := [], laidByText := true, laidKinds := [.data, .data], laidTests := true, laidLooks := .later }
def HashSplitsCardSaid : Prop := Claim7.holds Tryd.pinned (.plain (OpenSpec.ofChange hashSplitsSpec)) hashSplitsCard

/-- THE TIED CARD OF 'sawyerlaw15.HashSizes'. -/
def hashSizesCard : Claim7 := { stood := { row := hashSizesRow, standIns := [], harness := (true, "dcf5274b0b34ce61bc9a9d76f4a742ff9ee1c7da8eb9164883266be053ff744f"), looks := false }, kinds := [], alts := [], laidByText := true, laidKinds := [.data, .data], laidTests := true, laidLooks := .later }
def HashSizesCardSaid : Prop := Claim7.holds Tryd.pinned (.plain (OpenSpec.ofChange hashSizesSpec)) hashSizesCard

/-- THE TIED CARD OF 'sawyerlaw15.HashSame'. -/
def hashSameCard : Claim7 := { stood := { row := hashSameRow, standIns := [], harness := (true, "dcf5274b0b34ce61bc9a9d76f4a742ff9ee1c7da8eb9164883266be053ff744f"), looks := false }, kinds := [], alts := [], laidByText := true, laidKinds := [.data, .data], laidTests := true, laidLooks := .later }
def HashSameCardSaid : Prop := Claim7.holds Tryd.pinned (.plain (OpenSpec.ofChange hashSameSpec)) hashSameCard

/-- THE SECOND FORM's CARD OF 'sawyerlaw15.HashCollides'. -/
def hashCollidesUptoCard : Claim7 := { stood := { row := hashCollidesUptoRow, standIns := [], harness := (true, "dcf5274b0b34ce61bc9a9d76f4a742ff9ee1c7da8eb9164883266be053ff744f"), looks := false }, kinds := [], alts := [], laidByText := true, laidKinds := [.data, .data], laidTests := true, laidLooks := .later }
def HashCollidesUptoCardSaid : Prop := Claim7.holds Tryd.pinned (.plain (OpenSpec.upto hashCollidesSpec)) hashCollidesUptoCard

/-- THE SECOND FORM's CARD OF 'sawyerlaw15.HashSplits'. -/
def hashSplitsUptoCard : Claim7 := { stood := { row := hashSplitsUptoRow, standIns := [], harness := (true, "dcf5274b0b34ce61bc9a9d76f4a742ff9ee1c7da8eb9164883266be053ff744f"), looks := false }, kinds := [], alts := [], laidByText := true, laidKinds := [.data, .data], laidTests := true, laidLooks := .later }
def HashSplitsUptoCardSaid : Prop := Claim7.holds Tryd.pinned (.plain (OpenSpec.upto hashSplitsSpec)) hashSplitsUptoCard

/-- THE SECOND FORM's CARD OF 'sawyerlaw15.HashSizes'. -/
def hashSizesUptoCard : Claim7 := { stood := { row := hashSizesUptoRow, standIns := [], harness := (true, "dcf5274b0b34ce61bc9a9d76f4a742ff9ee1c7da8eb9164883266be053ff744f"), looks := false }, kinds := [], alts := [], laidByText := true, laidKinds := [.data, .data], laidTests := true, laidLooks := .later }
def HashSizesUptoCardSaid : Prop := Claim7.holds Tryd.pinned (.plain (OpenSpec.upto hashSizesSpec)) hashSizesUptoCard

/-- THE SECOND FORM's CARD OF 'sawyerlaw15.HashSame'. -/
def hashSameUptoCard : Claim7 := { stood := { row := hashSameUptoRow, standIns := [], harness := (true, "dcf5274b0b34ce61bc9a9d76f4a742ff9ee1c7da8eb9164883266be053ff744f"), looks := false }, kinds := [], alts := [], laidByText := true, laidKinds := [.data, .data], laidTests := true, laidLooks := .later }
def HashSameUptoCardSaid : Prop := Claim7.holds Tryd.pinned (.plain (OpenSpec.upto hashSameSpec)) hashSameUptoCard
end Rows
end Go.Proofs.YtelebhcaljepaabDoor
