/-
  DERIVED. GIVEN WITH THE SEED: THE CARDS: each row of YtioiphonajinmaaGreatDoorRows.lean that lists a variable, with what it lists TIED to the program's text (the seventh form; the later family's looks); each row that meets fmt, with fmt's text TOLD by the authors' own Lean function (tested against real Go, not proved from fmt's source: count such statements apart). THE CARD IS WHAT COUNTS. Prove the row's statement (the work); the ties are given (YtioiphonajinmaaGreatDoorTie.lean); close each card by the builder's one call (the guide's Derived/Test/ToyasCard.lean, 'card_holds'). Laid BY PROGRAM, IN A SANDBOX (cutbox-door.mjs). By AI agents, Wed Nov 11 2026. No macro, syntax, notation, axiom, sorry.
-/
import Derived.Test.YtioiphonajinmaaGreatDoorRows
import GoSem.ClaimSeven
namespace Go.Proofs.YtioiphonajinmaaGreatDoor
namespace Rows

/-- THE TIED CARD OF 'granarylaw6.RingCovers'. -/
def ringCoversCard : Claim7 := { stood := { row := ringCoversRow, standIns := [], harness := (true, "daff12338528da960d41883bfb8fde2030eafef0caadc79e9b502a3da5602961"), looks := true }, kinds := [], alts := [], laidByText := true, laidKinds := [.data, .data, .data, .sentinel, .sentinel, .data, .data], laidTests := true, laidLooks := .later }
def RingCoversCardSaid : Prop := Claim7.holds Tryz.pinned (.plain (OpenSpec.ofChange ringCoversSpec)) ringCoversCard

/-- THE SECOND FORM's CARD OF 'granarylaw6.RingCovers'. -/
def ringCoversUptoCard : Claim7 := { stood := { row := ringCoversUptoRow, standIns := [], harness := (true, "daff12338528da960d41883bfb8fde2030eafef0caadc79e9b502a3da5602961"), looks := true }, kinds := [], alts := [], laidByText := true, laidKinds := [.data, .data, .data, .sentinel, .sentinel, .data, .data], laidTests := true, laidLooks := .later }
def RingCoversUptoCardSaid : Prop := Claim7.holds Tryz.pinned (.plain (OpenSpec.upto ringCoversSpec)) ringCoversUptoCard
end Rows
end Go.Proofs.YtioiphonajinmaaGreatDoor
