/-
  DERIVED. GIVEN WITH THE SEED: THE CARDS: each row of YtdcapajolkgimaaDoorRows.lean that lists a variable, with what it lists TIED to the program's text (the seventh form; the later family's looks); each row that meets fmt, with fmt's text TOLD by the authors' own Lean function (tested against real Go, not proved from fmt's source: count such statements apart). THE CARD IS WHAT COUNTS. Prove the row's statement (the work); the ties are given (YtdcapajolkgimaaDoorTie.lean); close each card by the builder's one call (the guide's Derived/Test/ToyasCard.lean, 'card_holds'). Laid BY PROGRAM, IN A SANDBOX (cutbox-door.mjs). By AI agents, Wed Nov 11 2026. No macro, syntax, notation, axiom, sorry.
-/
import Derived.Test.YtdcapajolkgimaaDoorRows
import GoSem.ClaimSeven
namespace Go.Proofs.YtdcapajolkgimaaDoor
namespace Rows

/-- THE TIED CARD OF 'granarylaw4.PaperPointers'. -/
def paperPointersCard : Claim7 := { stood := { row := paperPointersRow, standIns := [], harness := (true, "3c3ad352d803da80c8e9dc05154d7a0e513df8b4ed4d5d54d56d644a67e953e9"), looks := false }, kinds := [], alts := [], laidByText := true, laidKinds := [.data, .data, .data, .data], laidTests := true, laidLooks := .later }
def PaperPointersCardSaid : Prop := Claim7.holds Tryd.pinned (.plain (OpenSpec.ofChange paperPointersSpec)) paperPointersCard

/-- THE SECOND FORM's CARD OF 'granarylaw4.PaperPointers'. -/
def paperPointersUptoCard : Claim7 := { stood := { row := paperPointersUptoRow, standIns := [], harness := (true, "3c3ad352d803da80c8e9dc05154d7a0e513df8b4ed4d5d54d56d644a67e953e9"), looks := false }, kinds := [], alts := [], laidByText := true, laidKinds := [.data, .data, .data, .data], laidTests := true, laidLooks := .later }
def PaperPointersUptoCardSaid : Prop := Claim7.holds Tryd.pinned (.plain (OpenSpec.upto paperPointersSpec)) paperPointersUptoCard
end Rows
end Go.Proofs.YtdcapajolkgimaaDoor
