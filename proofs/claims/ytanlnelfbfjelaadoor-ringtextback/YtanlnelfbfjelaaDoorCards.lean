/-
  DERIVED. GIVEN WITH THE SEED: THE CARDS: each row of YtanlnelfbfjelaaDoorRows.lean that lists a variable, with what it lists TIED to the program's text (the seventh form; the later family's looks); each row that meets fmt, with fmt's text TOLD by the authors' own Lean function (tested against real Go, not proved from fmt's source: count such statements apart). THE CARD IS WHAT COUNTS. Prove the row's statement (the work); the ties are given (YtanlnelfbfjelaaDoorTie.lean); close each card by the builder's one call (the guide's Derived/Test/ToyasCard.lean, 'card_holds'). Laid BY PROGRAM, IN A SANDBOX (cutbox-door.mjs). By AI agents, Wed Nov 11 2026. No macro, syntax, notation, axiom, sorry.
-/
import Derived.Test.YtanlnelfbfjelaaDoorRows
import GoSem.ClaimSeven
namespace Go.Proofs.YtanlnelfbfjelaaDoor
namespace Rows

/-- THE TIED CARD OF 'granarylaw6.RingParses'. -/
def ringParsesCard : Claim7 := { stood := { row := ringParsesRow, standIns := [], harness := (true, "bb708f99e1ca61649aed2fc51fa2fbd1d03fde2a29cc50dffee4bf3643fdd3d8"), looks := false }, kinds := [], alts := [], laidByText := true, laidKinds := [.data, .data, .data, .pinned], laidTests := true, laidLooks := .later }
def RingParsesCardSaid : Prop := Claim7.holds Tryd.pinned (.plain (OpenSpec.ofChange ringParsesSpec)) ringParsesCard

/-- THE TIED CARD OF 'granarylaw6.RingTextBack'. -/
def ringTextBackCard : Claim7 := { stood := { row := ringTextBackRow, standIns := [], harness := (true, "bb708f99e1ca61649aed2fc51fa2fbd1d03fde2a29cc50dffee4bf3643fdd3d8"), looks := false }, kinds := [], alts := [], laidByText := true, laidKinds := [.data, .data, .data, .data, .pinned], laidTests := true, laidLooks := .later }
def RingTextBackCardSaid : Prop := Claim7.holds Tryd.pinned (.plain (OpenSpec.ofChange ringTextBackSpec)) ringTextBackCard

/-- THE SECOND FORM's CARD OF 'granarylaw6.RingParses'. -/
def ringParsesUptoCard : Claim7 := { stood := { row := ringParsesUptoRow, standIns := [], harness := (true, "bb708f99e1ca61649aed2fc51fa2fbd1d03fde2a29cc50dffee4bf3643fdd3d8"), looks := false }, kinds := [], alts := [], laidByText := true, laidKinds := [.data, .data, .data, .pinned], laidTests := true, laidLooks := .later }
def RingParsesUptoCardSaid : Prop := Claim7.holds Tryd.pinned (.plain (OpenSpec.upto ringParsesSpec)) ringParsesUptoCard

/-- THE SECOND FORM's CARD OF 'granarylaw6.RingTextBack'. -/
def ringTextBackUptoCard : Claim7 := { stood := { row := ringTextBackUptoRow, standIns := [], harness := (true, "bb708f99e1ca61649aed2fc51fa2fbd1d03fde2a29cc50dffee4bf3643fdd3d8"), looks := false }, kinds := [], alts := [], laidByText := true, laidKinds := [.data, .data, .data, .data, .pinned], laidTests := true, laidLooks := .later }
def RingTextBackUptoCardSaid : Prop := Claim7.holds Tryd.pinned (.plain (OpenSpec.upto ringTextBackSpec)) ringTextBackUptoCard
end Rows
end Go.Proofs.YtanlnelfbfjelaaDoor
