/-
  DERIVED. GIVEN WITH THE SEED: THE CARDS: each row of YtaclbffacnoddaaGreatDoorRows.lean that lists a variable, with what it lists TIED to the program's text (the seventh form; the later family's looks); each row that meets fmt, with fmt's text TOLD by the authors' own Lean function (tested against real Go, not proved from fmt's source: count such statements apart). THE CARD IS WHAT COUNTS. Prove the row's statement (the work); the ties are given (YtaclbffacnoddaaGreatDoorTie.lean); close each card by the builder's one call (the guide's Derived/Test/ToyasCard.lean, 'card_holds'). Laid BY PROGRAM, IN A SANDBOX (cutbox-door.mjs). By AI agents, Wed Nov 11 2026. No macro, syntax, notation, axiom, sorry.
-/
import Derived.Test.YtaclbffacnoddaaGreatDoorRows
import GoSem.ClaimSeven
namespace Go.Proofs.YtaclbffacnoddaaGreatDoor
namespace Rows

/-- THE TIED CARD OF 'granarylaw4.PaperBack'. -/
def paperBackCard : Claim7 := { stood := { row := paperBackRow, standIns := [], harness := (true, "0e4c7342715921f6480b2d4494ec3f225facf180a6eef37d58fa4ed749f4702c"), looks := false }, kinds := [], alts := [], laidByText := true, laidKinds := [.data, .data, .data, .data], laidTests := true, laidLooks := .later }
def PaperBackCardSaid : Prop := Claim7.holds Tryz.pinned (.plain (OpenSpec.ofChange paperBackSpec)) paperBackCard

/-- THE TIED CARD OF 'granarylaw4.PaperMetas'. -/
def paperMetasCard : Claim7 := { stood := { row := paperMetasRow, standIns := [], harness := (true, "0e4c7342715921f6480b2d4494ec3f225facf180a6eef37d58fa4ed749f4702c"), looks := false }, kinds := [], alts := [], laidByText := true, laidKinds := [.data, .data, .data, .data], laidTests := true, laidLooks := .later }
def PaperMetasCardSaid : Prop := Claim7.holds Tryz.pinned (.plain (OpenSpec.ofChange paperMetasSpec)) paperMetasCard

/-- THE SECOND FORM's CARD OF 'granarylaw4.PaperBack'. -/
def paperBackUptoCard : Claim7 := { stood := { row := paperBackUptoRow, standIns := [], harness := (true, "0e4c7342715921f6480b2d4494ec3f225facf180a6eef37d58fa4ed749f4702c"), looks := false }, kinds := [], alts := [], laidByText := true, laidKinds := [.data, .data, .data, .data], laidTests := true, laidLooks := .later }
def PaperBackUptoCardSaid : Prop := Claim7.holds Tryz.pinned (.plain (OpenSpec.upto paperBackSpec)) paperBackUptoCard

/-- THE SECOND FORM's CARD OF 'granarylaw4.PaperMetas'. -/
def paperMetasUptoCard : Claim7 := { stood := { row := paperMetasUptoRow, standIns := [], harness := (true, "0e4c7342715921f6480b2d4494ec3f225facf180a6eef37d58fa4ed749f4702c"), looks := false }, kinds := [], alts := [], laidByText := true, laidKinds := [.data, .data, .data, .data], laidTests := true, laidLooks := .later }
def PaperMetasUptoCardSaid : Prop := Claim7.holds Tryz.pinned (.plain (OpenSpec.upto paperMetasSpec)) paperMetasUptoCard
end Rows
end Go.Proofs.YtaclbffacnoddaaGreatDoor
