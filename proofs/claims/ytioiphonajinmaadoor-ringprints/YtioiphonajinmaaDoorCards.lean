/-
  DERIVED. GIVEN WITH THE SEED: THE CARDS: each row of YtioiphonajinmaaDoorRows.lean that lists a variable, with what it lists TIED to the program's text (the seventh form; the later family's looks); each row that meets fmt, with fmt's text TOLD by the authors' own Lean function (tested against real Go, not proved from fmt's source: count such statements apart). THE CARD IS WHAT COUNTS. Prove the row's statement (the work); the ties are given (YtioiphonajinmaaDoorTie.lean); close each card by the builder's one call (the guide's Derived/Test/ToyasCard.lean, 'card_holds'). Laid BY PROGRAM, IN A SANDBOX (cutbox-door.mjs). By AI agents, Wed Nov 11 2026. No macro, syntax, notation, axiom, sorry.
-/
import Derived.Test.YtioiphonajinmaaDoorRows
import GoSem.ClaimSeven
namespace Go.Proofs.YtioiphonajinmaaDoor
namespace Rows

/-- THE TIED CARD OF 'granarylaw6.RingPlaces'. -/
def ringPlacesCard : Claim7 := { stood := { row := ringPlacesRow, standIns := [], harness := (true, "794d961d976853d09eae3d257f6387b9116f190417ec1528f0369fc2f543123f"), looks := false }, kinds := [], alts := [], laidByText := true, laidKinds := [.data, .data], laidTests := true, laidLooks := .later }
def RingPlacesCardSaid : Prop := Claim7.holds Tryd.pinned (.plain (OpenSpec.ofChange ringPlacesSpec)) ringPlacesCard

/-- THE TIED CARD OF 'granarylaw6.RingPrints'. -/
def ringPrintsCard : Claim7 := { stood := { row := ringPrintsRow, standIns := [], harness := (true, "794d961d976853d09eae3d257f6387b9116f190417ec1528f0369fc2f543123f"), looks := false }, kinds := [], alts := [], laidByText := true, laidKinds := [.data, .data, .data, .data, .data], laidTests := true, laidLooks := .later }
def RingPrintsCardSaid : Prop := Claim7.holds Tryd.pinned (.plain (OpenSpec.ofChange ringPrintsSpec)) ringPrintsCard

/-- THE TIED CARD OF 'granarylaw6.RingLocates'. -/
def ringLocatesCard : Claim7 := { stood := { row := ringLocatesRow, standIns := [], harness := (true, "794d961d976853d09eae3d257f6387b9116f190417ec1528f0369fc2f543123f"), looks := false }, kinds := [], alts := [], laidByText := true, laidKinds := [.data, .data, .data, .data, .data, .data], laidTests := true, laidLooks := .later }
def RingLocatesCardSaid : Prop := Claim7.holds Tryd.pinned (.plain (OpenSpec.ofChange ringLocatesSpec)) ringLocatesCard

/-- THE TIED CARD OF 'granarylaw6.RingHolds'. -/
def ringHoldsCard : Claim7 := { stood := { row := ringHoldsRow, standIns := [], harness := (true, "794d961d976853d09eae3d257f6387b9116f190417ec1528f0369fc2f543123f"), looks := false }, kinds := [], alts := [], laidByText := true, laidKinds := [.data, .data, .data, .data], laidTests := true, laidLooks := .later }
def RingHoldsCardSaid : Prop := Claim7.holds Tryd.pinned (.plain (OpenSpec.ofChange ringHoldsSpec)) ringHoldsCard

/-- THE SECOND FORM's CARD OF 'granarylaw6.RingPlaces'. -/
def ringPlacesUptoCard : Claim7 := { stood := { row := ringPlacesUptoRow, standIns := [], harness := (true, "794d961d976853d09eae3d257f6387b9116f190417ec1528f0369fc2f543123f"), looks := false }, kinds := [], alts := [], laidByText := true, laidKinds := [.data, .data], laidTests := true, laidLooks := .later }
def RingPlacesUptoCardSaid : Prop := Claim7.holds Tryd.pinned (.plain (OpenSpec.upto ringPlacesSpec)) ringPlacesUptoCard

/-- THE SECOND FORM's CARD OF 'granarylaw6.RingPrints'. -/
def ringPrintsUptoCard : Claim7 := { stood := { row := ringPrintsUptoRow, standIns := [], harness := (true, "794d961d976853d09eae3d257f6387b9116f190417ec1528f0369fc2f543123f"), looks := false }, kinds := [], alts := [], laidByText := true, laidKinds := [.data, .data, .data, .data, .data], laidTests := true, laidLooks := .later }
def RingPrintsUptoCardSaid : Prop := Claim7.holds Tryd.pinned (.plain (OpenSpec.upto ringPrintsSpec)) ringPrintsUptoCard

/-- THE SECOND FORM's CARD OF 'granarylaw6.RingLocates'. -/
def ringLocatesUptoCard : Claim7 := { stood := { row := ringLocatesUptoRow, standIns := [], harness := (true, "794d961d976853d09eae3d257f6387b9116f190417ec1528f0369fc2f543123f"), looks := false }, kinds := [], alts := [], laidByText := true, laidKinds := [.data, .data, .data, .data, .data, .data], laidTests := true, laidLooks := .later }
def RingLocatesUptoCardSaid : Prop := Claim7.holds Tryd.pinned (.plain (OpenSpec.upto ringLocatesSpec)) ringLocatesUptoCard

/-- THE SECOND FORM's CARD OF 'granarylaw6.RingHolds'. -/
def ringHoldsUptoCard : Claim7 := { stood := { row := ringHoldsUptoRow, standIns := [], harness := (true, "794d961d976853d09eae3d257f6387b9116f190417ec1528f0369fc2f543123f"), looks := false }, kinds := [], alts := [], laidByText := true, laidKinds := [.data, .data, .data, .data], laidTests := true, laidLooks := .later }
def RingHoldsUptoCardSaid : Prop := Claim7.holds Tryd.pinned (.plain (OpenSpec.upto ringHoldsSpec)) ringHoldsUptoCard
end Rows
end Go.Proofs.YtioiphonajinmaaDoor
