/-
  DERIVED. GIVEN WITH THE SEED: THE CARDS: each row of YtogphpejdnhnjaaGreatDoorRows.lean that lists a variable, with what it lists TIED to the program's text (the seventh form; the later family's looks); each row that meets fmt, with fmt's text TOLD by the authors' own Lean function (tested against real Go, not proved from fmt's source: count such statements apart). THE CARD IS WHAT COUNTS. Prove the row's statement (the work); the ties are given (YtogphpejdnhnjaaGreatDoorTie.lean); close each card by the builder's one call (the guide's Derived/Test/ToyasCard.lean, 'card_holds'). Laid BY PROGRAM, IN A SANDBOX (cutbox-door.mjs). By AI agents, Wed Nov 11 2026. No macro, syntax, notation, axiom, sorry.
-/
import Derived.Test.YtogphpejdnhnjaaGreatDoorRows
import GoSem.ClaimSeven
namespace Go.Proofs.YtogphpejdnhnjaaGreatDoor
namespace Rows

/-- THE TIED CARD OF 'sawyerlaw18.RowsSigns'. -/
def rowsSignsCard : Claim7 := { stood := { row := rowsSignsRow, standIns := [], harness := (true, "f441f72bb7bbb9afa6c2010aa408603d5055b863a0e3960256cb9be67d323e38"), looks := true }, kinds := [], alts := [], laidByText := true, laidKinds := [.data, .data, .data, .sentinel, .sentinel, .data, .data, .sentinel], laidTests := true, laidLooks := .later }
def RowsSignsCardSaid : Prop := Claim7.holds Tryz.pinned (.plain (OpenSpec.ofChange rowsSignsSpec)) rowsSignsCard

/-- THE SECOND FORM's CARD OF 'sawyerlaw18.RowsSigns'. -/
def rowsSignsUptoCard : Claim7 := { stood := { row := rowsSignsUptoRow, standIns := [], harness := (true, "f441f72bb7bbb9afa6c2010aa408603d5055b863a0e3960256cb9be67d323e38"), looks := true }, kinds := [], alts := [], laidByText := true, laidKinds := [.data, .data, .data, .sentinel, .sentinel, .data, .data, .sentinel], laidTests := true, laidLooks := .later }
def RowsSignsUptoCardSaid : Prop := Claim7.holds Tryz.pinned (.plain (OpenSpec.upto rowsSignsSpec)) rowsSignsUptoCard
end Rows
end Go.Proofs.YtogphpejdnhnjaaGreatDoor
