/-
  DERIVED. GIVEN WITH THE SEED: THE CARDS: each row of YtgdopepghmjopaaGreatDoorRows.lean that lists a variable, with what it lists TIED to the program's text (the seventh form; the later family's looks); each row that meets fmt, with fmt's text TOLD by the authors' own Lean function (tested against real Go, not proved from fmt's source: count such statements apart). THE CARD IS WHAT COUNTS. Prove the row's statement (the work); the ties are given (YtgdopepghmjopaaGreatDoorTie.lean); close each card by the builder's one call (the guide's Derived/Test/ToyasCard.lean, 'card_holds'). Laid BY PROGRAM, IN A SANDBOX (cutbox-door.mjs). By AI agents, Wed Nov 11 2026. No macro, syntax, notation, axiom, sorry.
-/
import Derived.Test.YtgdopepghmjopaaGreatDoorRows
import GoSem.ClaimSeven
namespace Go.Proofs.YtgdopepghmjopaaGreatDoor
namespace Rows

/-- THE TIED CARD OF 'granarylaw4.PaperManifests'. -/
def paperManifestsCard : Claim7 := { stood := { row := paperManifestsRow, standIns := [], harness := (true, "042fe14f2fcb199a9cab189d72c204ad2ccb34a3f3b800d6d61731602018828d"), looks := false }, kinds := [], alts := [], laidByText := true, laidKinds := [.data, .data, .data, .data, .data], laidTests := true, laidLooks := .later }
def PaperManifestsCardSaid : Prop := Claim7.holds Tryz.pinned (.plain (OpenSpec.ofChange paperManifestsSpec)) paperManifestsCard

/-- THE SECOND FORM's CARD OF 'granarylaw4.PaperManifests'. -/
def paperManifestsUptoCard : Claim7 := { stood := { row := paperManifestsUptoRow, standIns := [], harness := (true, "042fe14f2fcb199a9cab189d72c204ad2ccb34a3f3b800d6d61731602018828d"), looks := false }, kinds := [], alts := [], laidByText := true, laidKinds := [.data, .data, .data, .data, .data], laidTests := true, laidLooks := .later }
def PaperManifestsUptoCardSaid : Prop := Claim7.holds Tryz.pinned (.plain (OpenSpec.upto paperManifestsSpec)) paperManifestsUptoCard
end Rows
end Go.Proofs.YtgdopepghmjopaaGreatDoor
