/-
  No cell of these rows narrows 'for every input' (looked for: loops, veiled, ifaces, maps, wideKeys, modest, calm, conditions, laid).
  DERIVED. THE GIVEN ROWS OF THIS SEAT. 2 by the template 'for every input the law returns true; each argument reads behind the call as it read before'; 0 by the template 'total and deterministic' (their statements: YtbmhllcbkeblfaaTotals.lean).
  GIVEN WITH THE SEED: the statements are not yours to turn. If you find one false, say at which input.
  Laid BY PROGRAM, IN A SANDBOX (cutbox-rows.mjs): the forced cells as the released guide's own fill.sh prints them over the translation f8ae240801ea937d… (all of the seat's roots in one cut). By AI agents, Wed Nov 11 2026. No macro, syntax, notation, axiom, sorry.
-/
import Derived.Test.YtbmhllcbkeblfaaChecked
import GoSem.Claim
import GoSem.ClaimJoined
import GoSem.ClaimMapViews
import Derived.JoinedTies
import Derived.KernelRfl
namespace Go.Proofs.Ytbmhllcbkeblfaa
/- THE CELL 'sum', in the pinned program and in every row, IS THE sha256 OF THE DUMP (.gsa) THAT YtbmhllcbkeblfaaProg.lean LOADS. Nothing in Lean hashes anything: it is a label: what it is worth is what the hold of that sum in a sandbox is worth. -/
noncomputable def Try.pinned : Pinned := { name := "ytbmhllcbkeblfaa", sum := "f8ae240801ea937dab50c3d32cd569f094b22508e46ddee98cea22fdd8436d1d", checked := Try.checked }
namespace Rows
def none {H : Type} : Left H := { results := [], args := [] }

/-- 'granarylaw21.ExportEnds': WHATEVER THE INPUT: true; the input reads as it did. -/
def exportEndsSpec : ChangeSpec := { name := "exportEnds", fn := fun _ => fun
  | [d1, d2] => { results := [.lit (.bool true)], args := [d1, d2] }
  | _ => none }
def exportEndsRow : OpenClaim := { program := "ytbmhllcbkeblfaa", sum := "f8ae240801ea937dab50c3d32cd569f094b22508e46ddee98cea22fdd8436d1d", func := "granary/granarylaw21.ExportEnds", spec := "exportEnds", inPlace := ["internal/bytealg.IndexByteString"], apart := false }
def ExportEndsSaid : Prop := exportEndsRow.holds Try.pinned (OpenSpec.ofChange exportEndsSpec)

/-- ITS FALSE NEIGHBOUR: 'it returns false'. Refute it at one input. -/
def exportEndsWrong : ChangeSpec := { name := "exportEnds", fn := fun _ => fun
  | [d1, d2] => { results := [.lit (.bool false)], args := [d1, d2] }
  | _ => none }
def ExportEndsWrongFalsely : Prop := exportEndsRow.holds Try.pinned (OpenSpec.ofChange exportEndsWrong)

/-- 'granarylaw21.ExportWhole': WHATEVER THE INPUT: true; the input reads as it did. -/
def exportWholeSpec : ChangeSpec := { name := "exportWhole", fn := fun _ => fun
  | [d1, d2, d3, d4] => { results := [.lit (.bool true)], args := [d1, d2, d3, d4] }
  | _ => none }
def exportWholeRow : OpenClaim := { program := "ytbmhllcbkeblfaa", sum := "f8ae240801ea937dab50c3d32cd569f094b22508e46ddee98cea22fdd8436d1d", func := "granary/granarylaw21.ExportWhole", spec := "exportWhole", inPlace := ["internal/bytealg.IndexByteString"], apart := false }
def ExportWholeSaid : Prop := exportWholeRow.holds Try.pinned (OpenSpec.ofChange exportWholeSpec)

/-- ITS FALSE NEIGHBOUR: 'it returns false'. Refute it at one input. -/
def exportWholeWrong : ChangeSpec := { name := "exportWhole", fn := fun _ => fun
  | [d1, d2, d3, d4] => { results := [.lit (.bool false)], args := [d1, d2, d3, d4] }
  | _ => none }
def ExportWholeWrongFalsely : Prop := exportWholeRow.holds Try.pinned (OpenSpec.ofChange exportWholeWrong)

/- THE SECOND FORM. 'bulk': how many values and letters a reading holds, each counted each time it is reached (what is shared counts as often as it is met; a slice's spare places count too). A statement '..UptoSaid' is the law's where the arguments, and the package variables that the reading takes, are together of bulk at most 1048576: NARROWER than '..Said'. Prove '..Said' where nothing that the law and all that it calls make is longer than what came in: it says more and counts as full. Else prove '..UptoSaid'. A law counts once. -/
mutual
def uptoBulk {H : Type} : DataW H → Nat
  | .lit (.string bytes) => bytes.length + 1
  | .lit _ => 1
  | .nil => 1
  | .ptr d => uptoBulk d + 1
  | .slice elems spare => uptoBulkAll elems + uptoBulkAll spare + 1
  | .agg parts => uptoBulkAll parts + 1
  | .iface _ d => uptoBulk d + 1
  | .map entries => uptoBulkEntries entries + 1
  | .held _ => 1
def uptoBulkAll {H : Type} : List (DataW H) → Nat
  | [] => 0
  | d :: r => uptoBulk d + uptoBulkAll r
def uptoBulkEntries {H : Type} : List (Lit × DataW H) → Nat
  | [] => 0
  | x :: r => uptoBulkEntry x + uptoBulkEntries r
def uptoBulkEntry {H : Type} : Lit × DataW H → Nat
  | (.string bytes, d) => bytes.length + uptoBulk d + 1
  | (_, d) => uptoBulk d + 1
 end
def uptoSmall : (H : Type) → List (DataW H) → Bool := fun _ ds => decide (uptoBulkAll ds ≤ 1048576)
def OpenSpec.upto (s : _root_.Go.ChangeSpec) : _root_.Go.OpenSpec := { _root_.Go.OpenSpec.ofChange s with cond := some uptoSmall }

/-- 'granarylaw21.ExportEnds', WHERE WHAT IT READS IS OF BULK AT MOST 1048576: true; the input reads as it did. -/
def exportEndsUptoRow : OpenClaim := { program := "ytbmhllcbkeblfaa", sum := "f8ae240801ea937dab50c3d32cd569f094b22508e46ddee98cea22fdd8436d1d", func := "granary/granarylaw21.ExportEnds", spec := "exportEnds", inPlace := ["internal/bytealg.IndexByteString"], apart := false, narrowed := true }
def ExportEndsUptoSaid : Prop := exportEndsUptoRow.holds Try.pinned (OpenSpec.upto exportEndsSpec)

/-- 'granarylaw21.ExportWhole', WHERE WHAT IT READS IS OF BULK AT MOST 1048576: true; the input reads as it did. -/
def exportWholeUptoRow : OpenClaim := { program := "ytbmhllcbkeblfaa", sum := "f8ae240801ea937dab50c3d32cd569f094b22508e46ddee98cea22fdd8436d1d", func := "granary/granarylaw21.ExportWhole", spec := "exportWhole", inPlace := ["internal/bytealg.IndexByteString"], apart := false, narrowed := true }
def ExportWholeUptoSaid : Prop := exportWholeUptoRow.holds Try.pinned (OpenSpec.upto exportWholeSpec)

end Rows
end Go.Proofs.Ytbmhllcbkeblfaa
