/-
  DERIVED. GIVEN WITH THE SEED: THE CARDS: each row of YtbcpfekbnkkflaaDoorRows.lean that lists a variable, with what it lists TIED to the program's text (the seventh form; the later family's looks); each row that meets fmt, with fmt's text TOLD by the authors' own Lean function (tested against real Go, not proved from fmt's source: count such statements apart). THE CARD IS WHAT COUNTS. Prove the row's statement (the work); the ties are given (YtbcpfekbnkkflaaDoorTie.lean); close each card by the builder's one call (the guide's Derived/Test/ToyasCard.lean, 'card_holds'). Laid BY PROGRAM, IN A SANDBOX (cutbox-door.mjs). By AI agents, Wed Nov 11 2026. No macro, syntax, notation, axiom, sorry.
-/
import Derived.Test.YtbcpfekbnkkflaaDoorRows
import GoSem.ClaimSeven
namespace Go.Proofs.YtbcpfekbnkkflaaDoor
namespace Rows

/-- THE TIED CARD OF 'granarylaw4.PaperNotes'. -/
def paperNotesCard : Claim7 := { stood := { row := paperNotesRow, standIns := [], harness := (true, "2b597b8670b4555f9502f3ec32a2e2b31c6a57a38f367a229979e85f76d22525"), looks := false }, kinds := [], alts := [], laidByText := true, laidKinds := [.data, .data, .data, .data], laidTests := true, laidLooks := .later }
def PaperNotesCardSaid : Prop := Claim7.holds Tryd.pinned (.plain (OpenSpec.ofChange paperNotesSpec)) paperNotesCard

/-- THE TIED CARD OF 'granarylaw4.PaperJournal'. -/
def paperJournalCard : Claim7 := { stood := { row := paperJournalRow, standIns := [], harness := (true, "2b597b8670b4555f9502f3ec32a2e2b31c6a57a38f367a229979e85f76d22525"), looks := false }, kinds := [], alts := [], laidByText := true, laidKinds := [.data, .data, .data, .data], laidTests := true, laidLooks := .later }
def PaperJournalCardSaid : Prop := Claim7.holds Tryd.pinned (.plain (OpenSpec.ofChange paperJournalSpec)) paperJournalCard

/-- THE TIED CARD OF 'granarylaw4.PaperPointers'. -/
def paperPointersCard : Claim7 := { stood := { row := paperPointersRow, standIns := [], harness := (true, "2b597b8670b4555f9502f3ec32a2e2b31c6a57a38f367a229979e85f76d22525"), looks := false }, kinds := [], alts := [], laidByText := true, laidKinds := [.data, .data, .data, .data], laidTests := true, laidLooks := .later }
def PaperPointersCardSaid : Prop := Claim7.holds Tryd.pinned (.plain (OpenSpec.ofChange paperPointersSpec)) paperPointersCard

/-- THE SECOND FORM's CARD OF 'granarylaw4.PaperNotes'. -/
def paperNotesUptoCard : Claim7 := { stood := { row := paperNotesUptoRow, standIns := [], harness := (true, "2b597b8670b4555f9502f3ec32a2e2b31c6a57a38f367a229979e85f76d22525"), looks := false }, kinds := [], alts := [], laidByText := true, laidKinds := [.data, .data, .data, .data], laidTests := true, laidLooks := .later }
def PaperNotesUptoCardSaid : Prop := Claim7.holds Tryd.pinned (.plain (OpenSpec.upto paperNotesSpec)) paperNotesUptoCard

/-- THE SECOND FORM's CARD OF 'granarylaw4.PaperJournal'. -/
def paperJournalUptoCard : Claim7 := { stood := { row := paperJournalUptoRow, standIns := [], harness := (true, "2b597b8670b4555f9502f3ec32a2e2b31c6a57a38f367a229979e85f76d22525"), looks := false }, kinds := [], alts := [], laidByText := true, laidKinds := [.data, .data, .data, .data], laidTests := true, laidLooks := .later }
def PaperJournalUptoCardSaid : Prop := Claim7.holds Tryd.pinned (.plain (OpenSpec.upto paperJournalSpec)) paperJournalUptoCard

/-- THE SECOND FORM's CARD OF 'granarylaw4.PaperPointers'. -/
def paperPointersUptoCard : Claim7 := { stood := { row := paperPointersUptoRow, standIns := [], harness := (true, "2b597b8670b4555f9502f3ec32a2e2b31c6a57a38f367a229979e85f76d22525"), looks := false }, kinds := [], alts := [], laidByText := true, laidKinds := [.data, .data, .data, .data], laidTests := true, laidLooks := .later }
def PaperPointersUptoCardSaid : Prop := Claim7.holds Tryd.pinned (.plain (OpenSpec.upto paperPointersSpec)) paperPointersUptoCard
end Rows
end Go.Proofs.YtbcpfekbnkkflaaDoor
