/-
  DERIVED. GIVEN WITH THE SEED: THE CARDS: each row of YtgdibjnendjhnaaGreatDoorRows.lean that lists a variable, with what it lists TIED to the program's text (the seventh form; the later family's looks); each row that meets fmt, with fmt's text TOLD by the authors' own Lean function (tested against real Go, not proved from fmt's source: count such statements apart). THE CARD IS WHAT COUNTS. Prove the row's statement (the work); the ties are given (YtgdibjnendjhnaaGreatDoorTie.lean); close each card by the builder's one call (the guide's Derived/Test/ToyasCard.lean, 'card_holds'). Laid BY PROGRAM, IN A SANDBOX (cutbox-door.mjs). By AI agents, Wed Nov 11 2026. No macro, syntax, notation, axiom, sorry.
-/
import Derived.Test.YtgdibjnendjhnaaGreatDoorRows
import GoSem.ClaimSeven
namespace Go.Proofs.YtgdibjnendjhnaaGreatDoor
namespace Rows

/-- THE TIED CARD OF 'granarylaw1.DiskPaths'. -/
def diskPathsCard : Claim7 := { stood := { row := diskPathsRow, standIns := [], harness := (true, "8ddea2d6ebf619a5a516c47d39f4475ebc5ec1c5ebbd779e8a24dfb2e8734422"), looks := false }, kinds := [], alts := [], laidByText := true, laidKinds := [.data, .pinned], laidTests := true, laidLooks := .later }
def DiskPathsCardSaid : Prop := Claim7.holds Tryz.pinned (.plain (OpenSpec.ofChange diskPathsSpec)) diskPathsCard

/-- THE SECOND FORM's CARD OF 'granarylaw1.DiskPaths'. -/
def diskPathsUptoCard : Claim7 := { stood := { row := diskPathsUptoRow, standIns := [], harness := (true, "8ddea2d6ebf619a5a516c47d39f4475ebc5ec1c5ebbd779e8a24dfb2e8734422"), looks := false }, kinds := [], alts := [], laidByText := true, laidKinds := [.data, .pinned], laidTests := true, laidLooks := .later }
def DiskPathsUptoCardSaid : Prop := Claim7.holds Tryz.pinned (.plain (OpenSpec.upto diskPathsSpec)) diskPathsUptoCard
end Rows
end Go.Proofs.YtgdibjnendjhnaaGreatDoor
