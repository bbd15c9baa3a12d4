/-
  DERIVED. GIVEN WITH THE SEED: THE CARDS: each row of YtndfhpfhgdamgaaGreatDoorRows.lean that lists a variable, with what it lists TIED to the program's text (the seventh form; the later family's looks); each row that meets fmt, with fmt's text TOLD by the authors' own Lean function (tested against real Go, not proved from fmt's source: count such statements apart). THE CARD IS WHAT COUNTS. Prove the row's statement (the work); the ties are given (YtndfhpfhgdamgaaGreatDoorTie.lean); close each card by the builder's one call (the guide's Derived/Test/ToyasCard.lean, 'card_holds'). Laid BY PROGRAM, IN A SANDBOX (cutbox-door.mjs). By AI agents, Wed Nov 11 2026. No macro, syntax, notation, axiom, sorry.
-/
import Derived.Test.YtndfhpfhgdamgaaGreatDoorRows
import GoSem.ClaimSeven
namespace Go.Proofs.YtndfhpfhgdamgaaGreatDoor
namespace Rows

/-- THE TIED CARD OF 'granarylaw17.RouterFailover'. -/
def routerFailoverCard : Claim7 := { stood := { row := routerFailoverRow, standIns := [], harness := (true, "1b778d475b255a747c072b3986ec9adf1e538d9ae96de4e15bc6d65d2bf59c45"), looks := false }, kinds := [], alts := [], laidByText := true, laidKinds := [.data, .data], laidTests := true, laidLooks := .later }
def RouterFailoverCardSaid : Prop := Claim7.holds Tryz.pinned (.plain (OpenSpec.ofChange routerFailoverSpec)) routerFailoverCard

/-- THE TIED CARD OF 'granarylaw17.RouterTruth'. -/
def routerTruthCard : Claim7 := { stood := { row := routerTruthRow, standIns := [], harness := (true, "1b778d475b255a747c072b3986ec9adf1e538d9ae96de4e15bc6d65d2bf59c45"), looks := false }, kinds := [], alts := [], laidByText := true, laidKinds := [.data, .data], laidTests := true, laidLooks := .later }
def RouterTruthCardSaid : Prop := Claim7.holds Tryz.pinned (.plain (OpenSpec.ofChange routerTruthSpec)) routerTruthCard

/-- THE TIED CARD OF 'granarylaw17.RouterEnds'. -/
def routerEndsCard : Claim7 := { stood := { row := routerEndsRow, standIns := [], harness := (true, "1b778d475b255a747c072b3986ec9adf1e538d9ae96de4e15bc6d65d2bf59c45"), looks := false }, kinds := [], alts := [], laidByText := true, laidKinds := [.data, .data], laidTests := true, laidLooks := .later }
def RouterEndsCardSaid : Prop := Claim7.holds Tryz.pinned (.plain (OpenSpec.ofChange routerEndsSpec)) routerEndsCard

/-- THE TIED CARD OF 'granarylaw17.RouterBatch'. -/
def routerBatchCard : Claim7 := { stood := { row := routerBatchRow, standIns := [], harness := (true, "1b778d475b255a747c072b3986ec9adf1e538d9ae96de4e15bc6d65d2bf59c45"), looks := false }, kinds := [], alts := [], laidByText := true, laidKinds := [.data, .data], laidTests := true, laidLooks := .later }
def RouterBatchCardSaid : Prop := Claim7.holds Tryz.pinned (.plain (OpenSpec.ofChange routerBatchSpec)) routerBatchCard

/-- THE SECOND FORM's CARD OF 'granarylaw17.RouterFailover'. -/
def routerFailoverUptoCard : Claim7 := { stood := { row := routerFailoverUptoRow, standIns := [], harness := (true, "1b778d475b255a747c072b3986ec9adf1e538d9ae96de4e15bc6d65d2bf59c45"), looks := false }, kinds := [], alts := [], laidByText := true, laidKinds := [.data, .data], laidTests := true, laidLooks := .later }
def RouterFailoverUptoCardSaid : Prop := Claim7.holds Tryz.pinned (.plain (OpenSpec.upto routerFailoverSpec)) routerFailoverUptoCard

/-- THE SECOND FORM's CARD OF 'granarylaw17.RouterTruth'. -/
def routerTruthUptoCard : Claim7 := { stood := { row := routerTruthUptoRow, standIns := [], harness := (true, "1b778d475b255a747c072b3986ec9adf1e538d9ae96de4e15bc6d65d2bf59c45"), looks := false }, kinds := [], alts := [], laidByText := true, laidKinds := [.data, .data], laidTests := true, laidLooks := .later }
def RouterTruthUptoCardSaid : Prop := Claim7.holds Tryz.pinned (.plain (OpenSpec.upto routerTruthSpec)) routerTruthUptoCard

/-- THE SECOND FORM's CARD OF 'granarylaw17.RouterEnds'. -/
def routerEndsUptoCard : Claim7 := { stood := { row := routerEndsUptoRow, standIns := [], harness := (true, "1b778d475b255a747c072b3986ec9adf1e538d9ae96de4e15bc6d65d2bf59c45"), looks := false }, kinds := [], alts := [], laidByText := true, laidKinds := [.data, .data], laidTests := true, laidLooks := .later }
def RouterEndsUptoCardSaid : Prop := Claim7.holds Tryz.pinned (.plain (OpenSpec.upto routerEndsSpec)) routerEndsUptoCard

/-- THE SECOND FORM's CARD OF 'granarylaw17.RouterBatch'. -/
def routerBatchUptoCard : Claim7 := { stood := { row := routerBatchUptoRow, standIns := [], harness := (true, "1b778d475b255a747c072b3986ec9adf1e538d9ae96de4e15bc6d65d2bf59c45"), looks := false }, kinds := [], alts := [], laidByText := true, laidKinds := [.data, .data], laidTests := true, laidLooks := .later }
def RouterBatchUptoCardSaid : Prop := Claim7.holds Tryz.pinned (.plain (OpenSpec.upto routerBatchSpec)) routerBatchUptoCard
end Rows
end Go.Proofs.YtndfhpfhgdamgaaGreatDoor
