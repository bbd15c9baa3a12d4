/-
  NARROWER THAN 'FOR EVERY INPUT', by the rows' own cells (each row's printed sentence says how): AuditTells: laid · AuditEnds: laid · AuditNews: laid.
  DERIVED. THE GIVEN ROWS OF THIS SEAT. 3 by the template 'for every input the law returns true; each argument reads behind the call as it read before'; 0 by the template 'total and deterministic' (their statements: YteiiolilpemimaaDoorTotals.lean).
  GIVEN WITH THE SEED: the statements are not yours to turn. If you find one false, say at which input.
  Laid BY PROGRAM, IN A SANDBOX (cutbox-rows.mjs): the forced cells as the released guide's own fill.sh prints them over the translation 9a9d10d0731091c5… (all of the seat's roots in one cut). By AI agents, Wed Nov 11 2026. No macro, syntax, notation, axiom, sorry.
-/
import Derived.Test.YteiiolilpemimaaDoorChecked
import GoSem.Claim
import GoSem.ClaimJoined
import GoSem.ClaimMapViews
import Derived.JoinedTies
import Derived.KernelRfl
namespace Go.Proofs.YteiiolilpemimaaDoor
/- THE CELL 'sum', in the pinned program and in every row, IS THE sha256 OF THE DUMP (.gsa) THAT YteiiolilpemimaaDoorProg.lean LOADS. Nothing in Lean hashes anything: it is a label: what it is worth is what the hold of that sum in a sandbox is worth. -/
noncomputable def Tryd.pinned : Pinned := { name := "yteiiolilpemimaadoor", sum := "9a9d10d0731091c507e6ab98d849cc5e739e0c49b18c4b95b17e8c6afe1fa7d4", checked := Tryd.checked }
namespace Rows
def none {H : Type} : Left H := { results := [], args := [] }

/- WHAT THE LISTED PACKAGE-LEVEL VARIABLES READ AS WHEN THE CALL BEGINS. Each datum BY PROGRAM (the guide's laid-datum.mjs) off the statement by which the dump's own 'gosem.cut.vars' lays the variable. In a bare row this is a premise. The card (YteiiolilpemimaaDoorCards.lean) ties it to the program's text. -/
def laid_granary_granaryref6_greatest {H : Type} : DataW H := .agg [.lit (.int .i64 16), .lit (.int .i64 16), .lit (.int .i64 16), .lit (.int .i64 8), .lit (.int .i64 4096), .lit (.int .i64 65536), .lit (.int .i64 1024), .lit (.int .i64 65536), .lit (.int .i64 64), .lit (.int .i64 1024), .lit (.int .i64 1024), .lit (.int .i64 1073741824), .lit (.int .i64 1073741824), .lit (.int .i64 1073741824), .lit (.int .i64 1024), .lit (.int .i64 64), .lit (.int .i64 65536), .lit (.int .i64 1024), .lit (.int .i64 64), .lit (.int .i64 1024), .lit (.int .i64 7)]

/-- 'granarylaw19.AuditTells': WHATEVER THE INPUT: true; the input reads as it did. -/
def auditTellsSpec : ChangeSpec := { name := "auditTells", fn := fun _ => fun
  | [d1, d2, d3, d4] => { results := [.lit (.bool true)], args := [d1, d2, d3, d4] }
  | _ => none }
def auditTellsRow : OpenClaim := { program := "yteiiolilpemimaadoor", sum := "9a9d10d0731091c507e6ab98d849cc5e739e0c49b18c4b95b17e8c6afe1fa7d4", func := "granary/granarylaw19.AuditTells", spec := "auditTells", inPlace := ["internal/bytealg.IndexByteString"], unfollowed := true, recurses := true, named := ["granary/granaryref6.greatest"], plainKeys := false, apart := false, laid := [("granary/granaryref6.greatest", laid_granary_granaryref6_greatest)] }
def AuditTellsSaid : Prop := auditTellsRow.holds Tryd.pinned (OpenSpec.ofChange auditTellsSpec)

/-- ITS FALSE NEIGHBOUR: 'it returns false'. Refute it at one input. -/
def auditTellsWrong : ChangeSpec := { name := "auditTells", fn := fun _ => fun
  | [d1, d2, d3, d4] => { results := [.lit (.bool false)], args := [d1, d2, d3, d4] }
  | _ => none }
def AuditTellsWrongFalsely : Prop := auditTellsRow.holds Tryd.pinned (OpenSpec.ofChange auditTellsWrong)

/-- 'granarylaw19.AuditEnds': WHATEVER THE INPUT: true; the input reads as it did. -/
def auditEndsSpec : ChangeSpec := { name := "auditEnds", fn := fun _ => fun
  | [d1, d2] => { results := [.lit (.bool true)], args := [d1, d2] }
  | _ => none }
def auditEndsRow : OpenClaim := { program := "yteiiolilpemimaadoor", sum := "9a9d10d0731091c507e6ab98d849cc5e739e0c49b18c4b95b17e8c6afe1fa7d4", func := "granary/granarylaw19.AuditEnds", spec := "auditEnds", inPlace := ["internal/bytealg.IndexByteString"], unfollowed := true, recurses := true, named := ["granary/granaryref6.greatest"], plainKeys := false, apart := false, laid := [("granary/granaryref6.greatest", laid_granary_granaryref6_greatest)] }
def AuditEndsSaid : Prop := auditEndsRow.holds Tryd.pinned (OpenSpec.ofChange auditEndsSpec)

/-- ITS FALSE NEIGHBOUR: 'it returns false'. Refute it at one input. -/
def auditEndsWrong : ChangeSpec := { name := "auditEnds", fn := fun _ => fun
  | [d1, d2] => { results := [.lit (.bool false)], args := [d1, d2] }
  | _ => none }
def AuditEndsWrongFalsely : Prop := auditEndsRow.holds Tryd.pinned (OpenSpec.ofChange auditEndsWrong)

/-- 'granarylaw19.AuditNews': WHATEVER THE INPUT: true; the input reads as it did. -/
def auditNewsSpec : ChangeSpec := { name := "auditNews", fn := fun _ => fun
  | [d] => { results := [.lit (.bool true)], args := [d] }
  | _ => none }
def auditNewsRow : OpenClaim := { program := "yteiiolilpemimaadoor", sum := "9a9d10d0731091c507e6ab98d849cc5e739e0c49b18c4b95b17e8c6afe1fa7d4", func := "granary/granarylaw19.AuditNews", spec := "auditNews", inPlace := ["internal/bytealg.IndexByteString"], unfollowed := true, recurses := true, named := ["granary/granaryref6.greatest"], plainKeys := false, apart := false, laid := [("granary/granaryref6.greatest", laid_granary_granaryref6_greatest)] }
def AuditNewsSaid : Prop := auditNewsRow.holds Tryd.pinned (OpenSpec.ofChange auditNewsSpec)

/-- ITS FALSE NEIGHBOUR: 'it returns false'. Refute it at one input. -/
def auditNewsWrong : ChangeSpec := { name := "auditNews", fn := fun _ => fun
  | [d] => { results := [.lit (.bool false)], args := [d] }
  | _ => none }
def AuditNewsWrongFalsely : Prop := auditNewsRow.holds Tryd.pinned (OpenSpec.ofChange auditNewsWrong)

/- THE SECOND FORM. 'bulk': how many values and letters a reading holds, each counted each time it is reached (what is shared counts as often as it is met; a slice's spare places count too). A statement '..UptoSaid' is the law's where the arguments, and the package variables that the reading takes, are together of bulk at most 1048576: NARROWER than '..Said'. Prove '..Said' where nothing that the law and all that it calls make is longer than what came in: it says more and counts as full. Else prove '..UptoSaid'. A law counts once. -/
mutual
def uptoBulk {H : Type} : DataW H → Nat
  | .lit (.string bytes) => bytes.length + 1
  | .lit _ => 1
  | .nil => 1
  | .ptr d => uptoBulk d + 1
  | .slice elems spare => uptoBulkAll elems + uptoBulkAll spare + 1
  | .agg parts => uptoBulkAll parts + 1
  | .iface _ d => uptoBulk d + 1
  | .map entries => uptoBulkEntries entries + 1
  | .held _ => 1
def uptoBulkAll {H : Type} : List (DataW H) → Nat
  | [] => 0
  | d :: r => uptoBulk d + uptoBulkAll r
def uptoBulkEntries {H : Type} : List (Lit × DataW H) → Nat
  | [] => 0
  | x :: r => uptoBulkEntry x + uptoBulkEntries r
def uptoBulkEntry {H : Type} : Lit × DataW H → Nat
  | (.string bytes, d) => bytes.length + uptoBulk d + 1
  | (_, d) => uptoBulk d + 1
 end
def uptoSmall : (H : Type) → List (DataW H) → Bool := fun _ ds => decide (uptoBulkAll ds ≤ 1048576)
def OpenSpec.upto (s : _root_.Go.ChangeSpec) : _root_.Go.OpenSpec := { _root_.Go.OpenSpec.ofChange s with cond := some uptoSmall }

/-- 'granarylaw19.AuditTells', WHERE WHAT IT READS IS OF BULK AT MOST 1048576: true; the input reads as it did. -/
def auditTellsUptoRow : OpenClaim := { program := "yteiiolilpemimaadoor", sum := "9a9d10d0731091c507e6ab98d849cc5e739e0c49b18c4b95b17e8c6afe1fa7d4", func := "granary/granarylaw19.AuditTells", spec := "auditTells", inPlace := ["internal/bytealg.IndexByteString"], unfollowed := true, recurses := true, named := ["granary/granaryref6.greatest"], plainKeys := false, apart := false, laid := [("granary/granaryref6.greatest", laid_granary_granaryref6_greatest)], narrowed := true }
def AuditTellsUptoSaid : Prop := auditTellsUptoRow.holds Tryd.pinned (OpenSpec.upto auditTellsSpec)

/-- 'granarylaw19.AuditEnds', WHERE WHAT IT READS IS OF BULK AT MOST 1048576: true; the input reads as it did. -/
def auditEndsUptoRow : OpenClaim := { program := "yteiiolilpemimaadoor", sum := "9a9d10d0731091c507e6ab98d849cc5e739e0c49b18c4b95b17e8c6afe1fa7d4", func := "granary/granarylaw19.AuditEnds", spec := "auditEnds", inPlace := ["internal/bytealg.IndexByteString"], unfollowed := true, recurses := true, named := ["granary/granaryref6.greatest"], plainKeys := false, apart := false, laid := [("granary/granaryref6.greatest", laid_granary_granaryref6_greatest)], narrowed := true }
def AuditEndsUptoSaid : Prop := auditEndsUptoRow.holds Tryd.pinned (OpenSpec.upto auditEndsSpec)

/-- 'granarylaw19.AuditNews', WHERE WHAT IT READS IS OF BULK AT MOST 1048576: true; the input reads as it did. -/
def auditNewsUptoRow : OpenClaim := { program := "yteiiolilpemimaadoor", sum := "9a9d10d0731091c507e6ab98d849cc5e739e0c49b18c4b95b17e8c6afe1fa7d4", func := "granary/granarylaw19.AuditNews", spec := "auditNews", inPlace := ["internal/bytealg.IndexByteString"], unfollowed := true, recurses := true, named := ["granary/granaryref6.greatest"], plainKeys := false, apart := false, laid := [("granary/granaryref6.greatest", laid_granary_granaryref6_greatest)], narrowed := true }
def AuditNewsUptoSaid : Prop := auditNewsUptoRow.holds Tryd.pinned (OpenSpec.upto auditNewsSpec)

end Rows
end Go.Proofs.YteiiolilpemimaaDoor
