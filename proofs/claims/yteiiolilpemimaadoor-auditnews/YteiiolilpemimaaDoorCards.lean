/-
  DERIVED. GIVEN WITH THE SEED: THE CARDS: each row of YteiiolilpemimaaDoorRows.lean that lists a variable, with what it lists TIED to the program's text (the seventh form; the later family's looks); each row that meets fmt, with fmt's text TOLD by the authors' own Lean function (tested against real Go, not proved from fmt's source: count such statements apart). THE CARD IS WHAT COUNTS. Prove the row's statement (the work); the ties are given (YteiiolilpemimaaDoorTie.lean); close each card by the builder's one call (the guide's Derived/Test/ToyasCard.lean, 'card_holds'). Laid BY PROGRAM, IN A SANDBOX (cutbox-door.mjs). By AI agents, Wed Nov 11 2026. No macro, syntax, notation, axiom, sorry.
-/
import Derived.Test.YteiiolilpemimaaDoorRows
import GoSem.ClaimSeven
namespace Go.Proofs.YteiiolilpemimaaDoor
namespace Rows

/-- THE TIED CARD OF 'granarylaw19.AuditTells'. -/
def auditTellsCard : Claim7 := { stood := { row := auditTellsRow, standIns := [], harness := (true, "48ca2c7a611f43ce9ecb9a916eaa08bb94a0e30882942fda1e97a2edf77d5492"), looks := false }, kinds := [], alts := [], laidByText := true, laidKinds := [.data], laidTests := true, laidLooks := .later }
def AuditTellsCardSaid : Prop := Claim7.holds Tryd.pinned (.plain (OpenSpec.ofChange auditTellsSpec)) auditTellsCard

/-- THE TIED CARD OF 'granarylaw19.AuditEnds'. -/
def auditEndsCard : Claim7 := { stood := { row := auditEndsRow, standIns := [], harness := (true, "48ca2c7a611f43ce9ecb9a916eaa08bb94a0e30882942fda1e97a2edf77d5492"), looks := false }, kinds := [], alts := [], laidByText := true, laidKinds := [.data], laidTests := true, laidLooks := .later }
def AuditEndsCardSaid : Prop := Claim7.holds Tryd.pinned (.plain (OpenSpec.ofChange auditEndsSpec)) auditEndsCard

/-- THE TIED CARD OF 'granarylaw19.AuditNews'. -/
def auditNewsCard : Claim7 := { stood := { row := auditNewsRow, standIns := [], harness := (true, "48ca2c7a611f43ce9ecb9a916eaa08bb94a0e30882942fda1e97a2edf77d5492"), looks := false }, kinds := [], alts := [], laidByText := true, laidKinds := [.data], laidTests := true, laidLooks := .later }
def AuditNewsCardSaid : Prop := Claim7.holds Tryd.pinned (.plain (OpenSpec.ofChange auditNewsSpec)) auditNewsCard

/-- THE SECOND FORM's CARD OF 'granarylaw19.AuditTells'. -/
def auditTellsUptoCard : Claim7 := { stood := { row := auditTellsUptoRow, standIns := [], harness := (true, "48ca2c7a611f43ce9ecb9a916eaa08bb94a0e30882942fda1e97a2edf77d5492"), looks := false }, kinds := [], alts := [], laidByText := true, laidKinds := [.data], laidTests := true, laidLooks := .later }
def AuditTellsUptoCardSaid : Prop := Claim7.holds Tryd.pinned (.plain (OpenSpec.upto auditTellsSpec)) auditTellsUptoCard

/-- THE SECOND FORM's CARD OF 'granarylaw19.AuditEnds'. -/
def auditEndsUptoCard : Claim7 := { stood := { row := auditEndsUptoRow, standIns := [], harness := (true, "48ca2c7a611f43ce9ecb9a916eaa08bb94a0e30882942fda1e97a2edf77d5492"), looks := false }, kinds := [], alts := [], laidByText := true, laidKinds := [.data], laidTests := true, laidLooks := .later }
def AuditEndsUptoCardSaid : Prop := Claim7.holds Tryd.pinned (.plain (OpenSpec.upto auditEndsSpec)) auditEndsUptoCard

/-- THE SECOND FORM's CARD OF 'granarylaw19.AuditNews'. -/
def auditNewsUptoCard : Claim7 := { stood := { row := auditNewsUptoRow, standIns := [], harness := (true, "48ca2c7a611f43ce9ecb9a916eaa08bb94a0e30882942fda1e97a2edf77d5492"), looks := false }, kinds := [], alts := [], laidByText := true, laidKinds := [.data], laidTests := true, laidLooks := .later }
def AuditNewsUptoCardSaid : Prop := Claim7.holds Tryd.pinned (.plain (OpenSpec.upto auditNewsSpec)) auditNewsUptoCard
end Rows
end Go.Proofs.YteiiolilpemimaaDoor
