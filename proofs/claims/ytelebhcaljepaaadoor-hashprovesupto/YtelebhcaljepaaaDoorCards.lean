/-
  DERIVED. GIVEN WITH THE SEED: THE CARDS: each row of YtelebhcaljepaaaDoorRows.lean that lists a variable, with what it lists TIED to the program's text (the seventh form; the later family's looks); each row that meets fmt, with fmt's text TOLD by the authors' own Lean function (tested against real Go, not proved from fmt's source: count such statements apart). THE CARD IS WHAT COUNTS. Prove the row's statement (the work); the ties are given (YtelebhcaljepaaaDoorTie.lean); close each card by the builder's one call (the guide's Derived/Test/ToyasCard.lean, 'card_holds'). Laid BY PROGRAM, IN A SANDBOX (cutbox-door.mjs). By AI agents, Wed Nov 11 2026. No macro, syntax, notation, axiom, sorry.
-/
import Derived.Test.YtelebhcaljepaaaDoorRows
import GoSem.ClaimSeven
namespace Go.Proofs.YtelebhcaljepaaaDoor
namespace Rows

/-- THE TIED CARD OF 'sawyerlaw15.HashRoots'. -/
def hashRootsCard : Claim7 := { stood := { row := hashRootsRow, standIns := [], harness := (true, "b150023ac5ed17ecb234cfc253af8524c945e444e3163750c7bc871a72609fb8"), looks := false }, kinds := [], alts := [], laidByText := true, laidKinds := [.data, .data], laidTests := true, laidLooks := .later }
def HashRootsCardSaid : Prop := Claim7.holds Tryd.pinned (.plain (OpenSpec.ofChange hashRootsSpec)) hashRootsCard

/-- THE TIED CARD OF 'sawyerlaw15.HashProves'. -/
def hashProvesCard : Claim7 := { stood := { row := hashProvesRow, standIns := [], harness := (true, "b150023ac5ed17ecb234cfc253af8524c945e444e3163750c7bc871a72609fb8"), looks := false }, kinds := [], alts := [], laidByText := true, laidKinds := [.data, .data], laidTests := true, laidLooks := .later }
def HashProvesCardSaid : Prop := Claim7.holds Tryd.pinned (.plain (OpenSpec.ofChange hashProvesSpec)) hashProvesCard

/-- THE TIED CARD OF 'sawyerlaw15.HashChecks'. -/
def hashChecksCard : Claim7 := { stood := { row := hashChecksRow, standIns := [], harness := (true, "b150023ac5ed17ecb234cfc253af8524c945e444e3163750c7bc871a72609fb8"), looks := false }, kinds := [], alts := [], laidByText := true, laidKinds := [.data, .data], laidTests := true, laidLooks := .later }
def HashChecksCardSaid : Prop := Claim7.holds Tryd.pinned (.plain (OpenSpec.ofChange hashChecksSpec)) hashChecksCard

/-- THE TIED CARD OF 'sawyerlaw15.HashPaths'. -/
def hashPathsCard : Claim7 := { stood := { row := hashPathsRow, standIns := [], harness := (true, "b150023ac5ed17ecb234cfc253af8524c945e444e3163750c7bc871a72609fb8"), looks := false }, kinds := [], alts := [], laidByText := true, laidKinds := [.data, .data], laidTests := true, laidLooks := .later }
def HashPathsCardSaid : Prop := Claim7.holds Tryd.pinned (.plain (OpenSpec.ofChange hashPathsSpec)) hashPathsCard

/-- THE TIED CARD OF 'sawyerlaw15.HashGrows'. -/
def hashGrowsCard : Claim7 := { stood := { row := hashGrowsRow, standIns := [], harness := (true, "b150023ac5ed17ecb234cfc253af8524c945e444e3163750c7bc871a72609fb8"), looks := false }, kinds := [], alts := [], laidByText := true, laidKinds := [.data, .data], laidTests := true, laidLooks := .later }
def HashGrowsCardSaid : Prop := Claim7.holds Tryd.pinned (.plain (OpenSpec.ofChange hashGrowsSpec)) hashGrowsCard

/-- THE TIED CARD OF 'sawyerlaw15.HashSound'. -/
def hashSoundCard : Claim7 := { stood := { row := hashSoundRow, standIns := [], harness := (true, "b150023ac5ed17ecb234cfc253af8524c945e444e3163750c7bc871a72609fb8"), looks := false }, kinds := [], alts := [], laidByText := true, laidKinds := [.data, .data], laidTests := true, laidLooks := .later }
def HashSoundCardSaid : Prop := Claim7.holds Tryd.pinned (.plain (OpenSpec.ofChange hashSoundSpec)) hashSoundCard

/-- THE SECOND FORM's CARD OF 'sawyerlaw15.HashRoots'. -/
def hashRootsUptoCard : Claim7 := { stood := { row := hashRootsUptoRow, standIns := [], harness := (true, "b150023ac5ed17ecb234cfc253af8524c945e444e3163750c7bc871a72609fb8"), looks := false }, kinds := [], alts := [], laidByText := true, laidKinds := [.data, .data], laidTests := true, laidLooks := .later }
def HashRootsUptoCardSaid : Prop := Claim7.holds Tryd.pinned (.plain (OpenSpec.upto hashRootsSpec)) hashRootsUptoCard

/-- THE SECOND FORM's CARD OF 'sawyerlaw15.HashProves'. -/
def hashProvesUptoCard : Claim7 := { stood := { row := hashProvesUptoRow, standIns := [], harness := (true, "b150023ac5ed17ecb234cfc253af8524c945e444e3163750c7bc871a72609fb8"), looks := false }, kinds := [], alts := [], laidByText := true, laidKinds := [.data, .data], laidTests := true, laidLooks := .later }
def HashProvesUptoCardSaid : Prop := Claim7.holds Tryd.pinned (.plain (OpenSpec.upto hashProvesSpec)) hashProvesUptoCard

/-- THE SECOND FORM's CARD OF 'sawyerlaw15.HashChecks'. -/
def hashChecksUptoCard : Claim7 := { stood := { row := hashChecksUptoRow, standIns := [], harness := (true, "b150023ac5ed17ecb234cfc253af8524c945e444e3163750c7bc871a72609fb8"), looks := false }, kinds := [], alts := [], laidByText := true, laidKinds := [.data, .data], laidTests := true, laidLooks := .later }
def HashChecksUptoCardSaid : Prop := Claim7.holds Tryd.pinned (.plain (OpenSpec.upto hashChecksSpec)) hashChecksUptoCard

/-- THE SECOND FORM's CARD OF 'sawyerlaw15.HashPaths'. -/
def hashPathsUptoCard : Claim7 := { stood := { row := hashPathsUptoRow, standIns := [], harness := (true, "b150023ac5ed17ecb234cfc253af8524c945e444e3163750c7bc871a72609fb8"), looks := false }, kinds := [], alts := [], laidByText := true, laidKinds := [.data, .data], laidTests := true, laidLooks := .later }
def HashPathsUptoCardSaid : Prop := Claim7.holds Tryd.pinned (.plain (OpenSpec.upto hashPathsSpec)) hashPathsUptoCard

/-- THE SECOND FORM's CARD OF 'sawyerlaw15.HashGrows'. -/
def hashGrowsUptoCard : Claim7 := { stood := { row := hashGrowsUptoRow, standIns := [], harness := (true, "b150023ac5ed17ecb234cfc253af8524c945e444e3163750c7bc871a72609fb8"), looks := false }, kinds := [], alts := [], laidByText := true, laidKinds := [.data, .data], laidTests := true, laidLooks := .later }
def HashGrowsUptoCardSaid : Prop := Claim7.holds Tryd.pinned (.plain (OpenSpec.upto hashGrowsSpec)) hashGrowsUptoCard

/-- THE SECOND FORM's CARD OF 'sawyerlaw15.HashSound'. -/
def hashSoundUptoCard : Claim7 := { stood := { row := hashSoundUptoRow, standIns := [], harness := (true, "b150023ac5ed17ecb234cfc253af8524c945e444e3163750c7bc871a72609fb8"), looks := false }, kinds := [], alts := [], laidByText := true, laidKinds := [.data, .data], laidTests := true, laidLooks := .later }
def HashSoundUptoCardSaid : Prop := Claim7.holds Tryd.pinned (.plain (OpenSpec.upto hashSoundSpec)) hashSoundUptoCard
end Rows
end Go.Proofs.YtelebhcaljepaaaDoor
