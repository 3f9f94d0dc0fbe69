/-
  DERIVED. GIVEN WITH THE SEED: THE CARDS: each row of YtomceheophnjnabDoorRows.lean that lists a variable, with what it lists TIED to the program's text (the seventh form; the later family's looks); each row that meets fmt, with fmt's text TOLD by the authors' own Lean function (tested against real Go, not proved from fmt's source: count such statements apart). THE CARD IS WHAT COUNTS. Prove the row's statement (the work); the ties are given (YtomceheophnjnabDoorTie.lean); close each card by the builder's one call (the guide's Derived/Test/ToyasCard.lean, 'card_holds'). Laid BY PROGRAM, IN A SANDBOX (cutbox-door.mjs). By AI agents, Wed Nov 11 2026. No macro, syntax, notation, axiom, sorry.
-/
import Derived.Test.YtomceheophnjnabDoorRows
import GoSem.ClaimSeven
namespace Go.Proofs.YtomceheophnjnabDoor
namespace Rows

/-- THE TIED CARD OF 'sawyerlaw03.KeyTables'. -/
def keyTablesCard : Claim7 := { stood := { row := keyTablesRow, standIns := [], harness := (true, "288e8ae9c05b08fcfbd5cf7d2d0dbb71a9be3c4aacd1072d4229cfb7be87ba0f"), looks := true }, kinds := [], alts := [], laidByText := true, laidKinds := [.sentinel], laidTests := true, laidLooks := .later }
def KeyTablesCardSaid : Prop := Claim7.holds Tryd.pinned (.plain (OpenSpec.ofChange keyTablesSpec)) keyTablesCard

/-- THE TIED CARD OF 'sawyerlaw03.KeyApart'. -/
def keyApartCard : Claim7 := { stood := { row := keyApartRow, standIns := [], harness := (true, "288e8ae9c05b08fcfbd5cf7d2d0dbb71a9be3c4aacd1072d4229cfb7be87ba0f"), looks := true }, kinds := [], alts := [], laidByText := true, laidKinds := [.sentinel], laidTests := true, laidLooks := .later }
def KeyApartCardSaid : Prop := Claim7.holds Tryd.pinned (.plain (OpenSpec.ofChange keyApartSpec)) keyApartCard

/-- THE SECOND FORM's CARD OF 'sawyerlaw03.KeyTables'. -/
def keyTablesUptoCard : Claim7 := { stood := { row := keyTablesUptoRow, standIns := [], harness := (true, "288e8ae9c05b08fcfbd5cf7d2d0dbb71a9be3c4aacd1072d4229cfb7be87ba0f"), looks := true }, kinds := [], alts := [], laidByText := true, laidKinds := [.sentinel], laidTests := true, laidLooks := .later }
def KeyTablesUptoCardSaid : Prop := Claim7.holds Tryd.pinned (.plain (OpenSpec.upto keyTablesSpec)) keyTablesUptoCard

/-- THE SECOND FORM's CARD OF 'sawyerlaw03.KeyApart'. -/
def keyApartUptoCard : Claim7 := { stood := { row := keyApartUptoRow, standIns := [], harness := (true, "288e8ae9c05b08fcfbd5cf7d2d0dbb71a9be3c4aacd1072d4229cfb7be87ba0f"), looks := true }, kinds := [], alts := [], laidByText := true, laidKinds := [.sentinel], laidTests := true, laidLooks := .later }
def KeyApartUptoCardSaid : Prop := Claim7.holds Tryd.pinned (.plain (OpenSpec.upto keyApartSpec)) keyApartUptoCard
end Rows
end Go.Proofs.YtomceheophnjnabDoor
