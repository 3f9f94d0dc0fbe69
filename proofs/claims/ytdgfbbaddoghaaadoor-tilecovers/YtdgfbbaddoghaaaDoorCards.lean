/-
  DERIVED. GIVEN WITH THE SEED: THE CARDS: each row of YtdgfbbaddoghaaaDoorRows.lean that lists a variable, with what it lists TIED to the program's text (the seventh form; the later family's looks); each row that meets fmt, with fmt's text TOLD by the authors' own Lean function (tested against real Go, not proved from fmt's source: count such statements apart). THE CARD IS WHAT COUNTS. Prove the row's statement (the work); the ties are given (YtdgfbbaddoghaaaDoorTie.lean); close each card by the builder's one call (the guide's Derived/Test/ToyasCard.lean, 'card_holds'). Laid BY PROGRAM, IN A SANDBOX (cutbox-door.mjs). By AI agents, Wed Nov 11 2026. No macro, syntax, notation, axiom, sorry.
-/
import Derived.Test.YtdgfbbaddoghaaaDoorRows
import GoSem.ClaimSeven
namespace Go.Proofs.YtdgfbbaddoghaaaDoor
namespace Rows

/-- THE TIED CARD OF 'sawyerlaw17.TileFolds'. -/
def tileFoldsCard : Claim7 := { stood := { row := tileFoldsRow, standIns := [], harness := (true, "12b352020962db7da0d6ec84a735feaab6cff2bd3b0783e3355d193ecf195d50"), looks := false }, kinds := [], alts := [], laidByText := true, laidKinds := [.data, .data], laidTests := true, laidLooks := .later }
def TileFoldsCardSaid : Prop := Claim7.holds Tryd.pinned (.plain (OpenSpec.ofChange tileFoldsSpec)) tileFoldsCard

/-- THE TIED CARD OF 'sawyerlaw17.TilePaths'. -/
def tilePathsCard : Claim7 := { stood := { row := tilePathsRow, standIns := [], harness := (true, "12b352020962db7da0d6ec84a735feaab6cff2bd3b0783e3355d193ecf195d50"), looks := false }, kinds := [], alts := [], laidByText := true, laidKinds := [.data, .data], laidTests := true, laidLooks := .later }
def TilePathsCardSaid : Prop := Claim7.holds Tryd.pinned (.plain (OpenSpec.ofChange tilePathsSpec)) tilePathsCard

/-- THE TIED CARD OF 'sawyerlaw17.TileCovers'. -/
def tileCoversCard : Claim7 := { stood := { row := tileCoversRow, standIns := [], harness := (true, "12b352020962db7da0d6ec84a735feaab6cff2bd3b0783e3355d193ecf195d50"), looks := false }, kinds := [], alts := [], laidByText := true, laidKinds := [.data, .data], laidTests := true, laidLooks := .later }
def TileCoversCardSaid : Prop := Claim7.holds Tryd.pinned (.plain (OpenSpec.ofChange tileCoversSpec)) tileCoversCard

/-- THE SECOND FORM's CARD OF 'sawyerlaw17.TileFolds'. -/
def tileFoldsUptoCard : Claim7 := { stood := { row := tileFoldsUptoRow, standIns := [], harness := (true, "12b352020962db7da0d6ec84a735feaab6cff2bd3b0783e3355d193ecf195d50"), looks := false }, kinds := [], alts := [], laidByText := true, laidKinds := [.data, .data], laidTests := true, laidLooks := .later }
def TileFoldsUptoCardSaid : Prop := Claim7.holds Tryd.pinned (.plain (OpenSpec.upto tileFoldsSpec)) tileFoldsUptoCard

/-- THE SECOND FORM's CARD OF 'sawyerlaw17.TilePaths'. -/
def tilePathsUptoCard : Claim7 := { stood := { row := tilePathsUptoRow, standIns := [], harness := (true, "12b352020962db7da0d6ec84a735feaab6cff2bd3b0783e3355d193ecf195d50"), looks := false }, kinds := [], alts := [], laidByText := true, laidKinds := [.data, .data], laidTests := true, laidLooks := .later }
def TilePathsUptoCardSaid : Prop := Claim7.holds Tryd.pinned (.plain (OpenSpec.upto tilePathsSpec)) tilePathsUptoCard

/-- THE SECOND FORM's CARD OF 'sawyerlaw17.TileCovers'. -/
def tileCoversUptoCard : Claim7 := { stood := { row := tileCoversUptoRow, standIns := [], harness := (true, "12b352020962db7da0d6ec84a735feaab6cff2bd3b0783e3355d193ecf195d50"), looks := false }, kinds := [], alts := [], laidByText := true, laidKinds := [.data, .data], laidTests := true, laidLooks := .later }
def TileCoversUptoCardSaid : Prop := Claim7.holds Tryd.pinned (.plain (OpenSpec.upto tileCoversSpec)) tileCoversUptoCard
end Rows
end Go.Proofs.YtdgfbbaddoghaaaDoor
