/-
  NARROWER THAN 'FOR EVERY INPUT', by the rows' own cells (each row's printed sentence says how): ExportMoves: laid · ExportReports: laid · ExportPlays: laid.
  DERIVED. THE GIVEN ROWS OF THIS SEAT. 3 by the template 'for every input the law returns true; each argument reads behind the call as it read before'; 0 by the template 'total and deterministic' (their statements: YtpoegknmkbnjlaaDoorTotals.lean).
  GIVEN WITH THE SEED: the statements are not yours to turn. If you find one false, say at which input.
  Laid BY PROGRAM, IN A SANDBOX (cutbox-rows.mjs): the forced cells as the released guide's own fill.sh prints them over the translation f1d6670b63eea6d7… (all of the seat's roots in one cut). By AI agents, Wed Nov 11 2026. No macro, syntax, notation, axiom, sorry.
-/
import Derived.Test.YtpoegknmkbnjlaaDoorChecked
import GoSem.Claim
import GoSem.ClaimJoined
import GoSem.ClaimMapViews
import Derived.JoinedTies
import Derived.KernelRfl
namespace Go.Proofs.YtpoegknmkbnjlaaDoor
/- THE CELL 'sum', in the pinned program and in every row, IS THE sha256 OF THE DUMP (.gsa) THAT YtpoegknmkbnjlaaDoorProg.lean LOADS. Nothing in Lean hashes anything: it is a label: what it is worth is what the hold of that sum in a sandbox is worth. -/
noncomputable def Tryd.pinned : Pinned := { name := "ytpoegknmkbnjlaadoor", sum := "f1d6670b63eea6d7dfea9bdeb2726544cc8e7665ca768a25b8fecf828ea53dba", checked := Tryd.checked }
namespace Rows
def none {H : Type} : Left H := { results := [], args := [] }

/- WHAT THE LISTED PACKAGE-LEVEL VARIABLES READ AS WHEN THE CALL BEGINS. Each datum BY PROGRAM (the guide's laid-datum.mjs) off the statement by which the dump's own 'gosem.cut.vars' lays the variable. In a bare row this is a premise. The card (YtpoegknmkbnjlaaDoorCards.lean) ties it to the program's text. -/
def laid_granary_granaryref6_greatest {H : Type} : DataW H := .agg [.lit (.int .i64 16), .lit (.int .i64 16), .lit (.int .i64 16), .lit (.int .i64 8), .lit (.int .i64 4096), .lit (.int .i64 65536), .lit (.int .i64 1024), .lit (.int .i64 65536), .lit (.int .i64 64), .lit (.int .i64 1024), .lit (.int .i64 1024), .lit (.int .i64 1073741824), .lit (.int .i64 1073741824), .lit (.int .i64 1073741824), .lit (.int .i64 1024), .lit (.int .i64 64), .lit (.int .i64 65536), .lit (.int .i64 1024), .lit (.int .i64 64), .lit (.int .i64 1024), .lit (.int .i64 7)]

/-- 'granarylaw21.ExportMoves': WHATEVER THE INPUT: true; the input reads as it did. -/
def exportMovesSpec : ChangeSpec := { name := "exportMoves", fn := fun _ => fun
  | [d1, d2] => { results := [.lit (.bool true)], args := [d1, d2] }
  | _ => none }
def exportMovesRow : OpenClaim := { program := "ytpoegknmkbnjlaadoor", sum := "f1d6670b63eea6d7dfea9bdeb2726544cc8e7665ca768a25b8fecf828ea53dba", func := "granary/granarylaw21.ExportMoves", spec := "exportMoves", inPlace := ["internal/bytealg.IndexByteString"], named := ["granary/granaryref6.greatest"], apart := false, laid := [("granary/granaryref6.greatest", laid_granary_granaryref6_greatest)] }
def ExportMovesSaid : Prop := exportMovesRow.holds Tryd.pinned (OpenSpec.ofChange exportMovesSpec)

/-- ITS FALSE NEIGHBOUR: 'it returns false'. Refute it at one input. -/
def exportMovesWrong : ChangeSpec := { name := "exportMoves", fn := fun _ => fun
  | [d1, d2] => { results := [.lit (.bool false)], args := [d1, d2] }
  | _ => none }
def ExportMovesWrongFalsely : Prop := exportMovesRow.holds Tryd.pinned (OpenSpec.ofChange exportMovesWrong)

/-- 'granarylaw21.ExportReports': WHATEVER THE INPUT: true; the input reads as it did. -/
def exportReportsSpec : ChangeSpec := { name := "exportReports", fn := fun _ => fun
  | [d1, d2] => { results := [.lit (.bool true)], args := [d1, d2] }
  | _ => none }
def exportReportsRow : OpenClaim := { program := "ytpoegknmkbnjlaadoor", sum := "f1d6670b63eea6d7dfea9bdeb2726544cc8e7665ca768a25b8fecf828ea53dba", func := "granary/granarylaw21.ExportReports", spec := "exportReports", inPlace := ["internal/bytealg.IndexByteString"], named := ["granary/granaryref6.greatest"], apart := false, laid := [("granary/granaryref6.greatest", laid_granary_granaryref6_greatest)] }
def ExportReportsSaid : Prop := exportReportsRow.holds Tryd.pinned (OpenSpec.ofChange exportReportsSpec)

/-- ITS FALSE NEIGHBOUR: 'it returns false'. Refute it at one input. -/
def exportReportsWrong : ChangeSpec := { name := "exportReports", fn := fun _ => fun
  | [d1, d2] => { results := [.lit (.bool false)], args := [d1, d2] }
  | _ => none }
def ExportReportsWrongFalsely : Prop := exportReportsRow.holds Tryd.pinned (OpenSpec.ofChange exportReportsWrong)

/-- 'granarylaw21.ExportPlays': WHATEVER THE INPUT: true; the input reads as it did. -/
def exportPlaysSpec : ChangeSpec := { name := "exportPlays", fn := fun _ => fun
  | [d1, d2] => { results := [.lit (.bool true)], args := [d1, d2] }
  | _ => none }
def exportPlaysRow : OpenClaim := { program := "ytpoegknmkbnjlaadoor", sum := "f1d6670b63eea6d7dfea9bdeb2726544cc8e7665ca768a25b8fecf828ea53dba", func := "granary/granarylaw21.ExportPlays", spec := "exportPlays", inPlace := ["internal/bytealg.IndexByteString"], named := ["granary/granaryref6.greatest"], apart := false, laid := [("granary/granaryref6.greatest", laid_granary_granaryref6_greatest)] }
def ExportPlaysSaid : Prop := exportPlaysRow.holds Tryd.pinned (OpenSpec.ofChange exportPlaysSpec)

/-- ITS FALSE NEIGHBOUR: 'it returns false'. Refute it at one input. -/
def exportPlaysWrong : ChangeSpec := { name := "exportPlays", fn := fun _ => fun
  | [d1, d2] => { results := [.lit (.bool false)], args := [d1, d2] }
  | _ => none }
def ExportPlaysWrongFalsely : Prop := exportPlaysRow.holds Tryd.pinned (OpenSpec.ofChange exportPlaysWrong)

/- THE SECOND FORM. 'bulk': how many values and letters a reading holds, each counted each time it is reached (what is shared counts as often as it is met; a slice's spare places count too). A statement '..UptoSaid' is the law's where the arguments, and the package variables that the reading takes, are together of bulk at most 1048576: NARROWER than '..Said'. Prove '..Said' where nothing that the law and all that it calls make is longer than what came in: it says more and counts as full. Else prove '..UptoSaid'. A law counts once. -/
mutual
def uptoBulk {H : Type} : DataW H → Nat
  | .lit (.string bytes) => bytes.length + 1
  | .lit _ => 1
  | .nil => 1
  | .ptr d => uptoBulk d + 1
  | .slice elems spare => uptoBulkAll elems + uptoBulkAll spare + 1
  | .agg parts => uptoBulkAll parts + 1
  | .iface _ d => uptoBulk d + 1
  | .map entries => uptoBulkEntries entries + 1
  | .held _ => 1
def uptoBulkAll {H : Type} : List (DataW H) → Nat
  | [] => 0
  | d :: r => uptoBulk d + uptoBulkAll r
def uptoBulkEntries {H : Type} : List (Lit × DataW H) → Nat
  | [] => 0
  | x :: r => uptoBulkEntry x + uptoBulkEntries r
def uptoBulkEntry {H : Type} : Lit × DataW H → Nat
  | (.string bytes, d) => bytes.length + uptoBulk d + 1
  | (_, d) => uptoBulk d + 1
 end
def uptoSmall : (H : Type) → List (DataW H) → Bool := fun _ ds => decide (uptoBulkAll ds ≤ 1048576)
def OpenSpec.upto (s : _root_.Go.ChangeSpec) : _root_.Go.OpenSpec := { _root_.Go.OpenSpec.ofChange s with cond := some uptoSmall }

/-- 'granarylaw21.ExportMoves', WHERE WHAT IT READS IS OF BULK AT MOST 1048576: true; the input reads as it did. -/
def exportMovesUptoRow : OpenClaim := { program := "ytpoegknmkbnjlaadoor", sum := "f1d6670b63eea6d7dfea9bdeb2726544cc8e7665ca768a25b8fecf828ea53dba", func := "granary/granarylaw21.ExportMoves", spec := "exportMoves", inPlace := ["internal/bytealg.IndexByteString"], named := ["granary/granaryref6.greatest"], apart := false, laid := [("granary/granaryref6.greatest", laid_granary_granaryref6_greatest)], narrowed := true }
def ExportMovesUptoSaid : Prop := exportMovesUptoRow.holds Tryd.pinned (OpenSpec.upto exportMovesSpec)

/-- 'granarylaw21.ExportReports', WHERE WHAT IT READS IS OF BULK AT MOST 1048576: true; the input reads as it did. -/
def exportReportsUptoRow : OpenClaim := { program := "ytpoegknmkbnjlaadoor", sum := "f1d6670b63eea6d7dfea9bdeb2726544cc8e7665ca768a25b8fecf828ea53dba", func := "granary/granarylaw21.ExportReports", spec := "exportReports", inPlace := ["internal/bytealg.IndexByteString"], named := ["granary/granaryref6.greatest"], apart := false, laid := [("granary/granaryref6.greatest", laid_granary_granaryref6_greatest)], narrowed := true }
def ExportReportsUptoSaid : Prop := exportReportsUptoRow.holds Tryd.pinned (OpenSpec.upto exportReportsSpec)

/-- 'granarylaw21.ExportPlays', WHERE WHAT IT READS IS OF BULK AT MOST 1048576: true; the input reads as it did. -/
def exportPlaysUptoRow : OpenClaim := { program := "ytpoegknmkbnjlaadoor", sum := "f1d6670b63eea6d7dfea9bdeb2726544cc8e7665ca768a25b8fecf828ea53dba", func := "granary/granarylaw21.ExportPlays", spec := "exportPlays", inPlace := ["internal/bytealg.IndexByteString"], named := ["granary/granaryref6.greatest"], apart := false, laid := [("granary/granaryref6.greatest", laid_granary_granaryref6_greatest)], narrowed := true }
def ExportPlaysUptoSaid : Prop := exportPlaysUptoRow.holds Tryd.pinned (OpenSpec.upto exportPlaysSpec)

end Rows
end Go.Proofs.YtpoegknmkbnjlaaDoor
