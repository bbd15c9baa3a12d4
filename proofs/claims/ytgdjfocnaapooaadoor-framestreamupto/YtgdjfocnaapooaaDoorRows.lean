/-
  NARROWER THAN 'FOR EVERY INPUT', by the rows' own cells (each row's printed sentence says how): FrameCuts: laid · FrameScans: laid · FrameStream: laid · FrameSplits: laid · FrameReaders: laid.
  DERIVED. THE GIVEN ROWS OF THIS SEAT. 5 by the template 'for every input the law returns true; each argument reads behind the call as it read before'; 0 by the template 'total and deterministic' (their statements: YtgdjfocnaapooaaDoorTotals.lean).
  GIVEN WITH THE SEED: the statements are not yours to turn. If you find one false, say at which input.
  Laid BY PROGRAM, IN A SANDBOX (cutbox-rows.mjs): the forced cells as the released guide's own fill.sh prints them over the translation f68052684b4dd9c7… (all of the seat's roots in one cut). By AI agents, Wed Nov 11 2026. No macro, syntax, notation, axiom, sorry.
-/
import Derived.Test.YtgdjfocnaapooaaDoorChecked
import GoSem.Claim
import GoSem.ClaimJoined
import GoSem.ClaimMapViews
import Derived.JoinedTies
import Derived.KernelRfl
namespace Go.Proofs.YtgdjfocnaapooaaDoor
/- THE CELL 'sum', in the pinned program and in every row, IS THE sha256 OF THE DUMP (.gsa) THAT YtgdjfocnaapooaaDoorProg.lean LOADS. Nothing in Lean hashes anything: it is a label: what it is worth is what the hold of that sum in a sandbox is worth. -/
noncomputable def Tryd.pinned : Pinned := { name := "ytgdjfocnaapooaadoor", sum := "f68052684b4dd9c7e2f6c6698610796d25e449d34419709c1a2b04244d4f659e", checked := Tryd.checked }
namespace Rows
def none {H : Type} : Left H := { results := [], args := [] }

/- WHAT THE LISTED PACKAGE-LEVEL VARIABLES READ AS WHEN THE CALL BEGINS. Each datum BY PROGRAM (the guide's laid-datum.mjs) off the statement by which the dump's own 'gosem.cut.vars' lays the variable. In a bare row this is a premise. The card (YtgdjfocnaapooaaDoorCards.lean) ties it to the program's text. -/
def laid_granary_digest_fourSteps {H : Type} : DataW H := .agg [.lit (.int .u32 0), .lit (.int .u32 498536548), .lit (.int .u32 997073096), .lit (.int .u32 651767980), .lit (.int .u32 1994146192), .lit (.int .u32 1802195444), .lit (.int .u32 1303535960), .lit (.int .u32 1342533948), .lit (.int .u32 3988292384), .lit (.int .u32 4027552580), .lit (.int .u32 3604390888), .lit (.int .u32 3412177804), .lit (.int .u32 2607071920), .lit (.int .u32 2262029012), .lit (.int .u32 2685067896), .lit (.int .u32 3183342108)]
def laid_granary_frame_shapes {H : Type} : DataW H := .agg [.agg [.lit (.int .i64 2), .lit (.int .i64 65535), .lit (.bool false)], .agg [.lit (.int .i64 2), .lit (.int .i64 65535), .lit (.bool false)], .agg [.lit (.int .i64 8), .lit (.int .i64 9007199254740992), .lit (.bool false)], .agg [.lit (.int .i64 8), .lit (.int .i64 9007199254740992), .lit (.bool false)], .agg [.lit (.int .i64 8), .lit (.int .i64 9007199254740992), .lit (.bool false)], .agg [.lit (.int .i64 8), .lit (.int .i64 9007199254740992), .lit (.bool false)], .agg [.lit (.int .i64 8), .lit (.int .i64 9007199254740992), .lit (.bool false)], .agg [.lit (.int .i64 2), .lit (.int .i64 65535), .lit (.bool false)], .agg [.lit (.int .i64 2), .lit (.int .i64 255), .lit (.bool true)], .agg [.lit (.int .i64 4), .lit (.int .i64 4096), .lit (.bool true)]]
def laid_granary_frame_heads {H : Type} : DataW H := .agg [.lit (.int .i64 0), .lit (.int .i64 1), .lit (.int .i64 2)]
def laid_granary_frame_bodies {H : Type} : DataW H := .agg [.nil, .slice [] [], .slice [] [], .slice [.lit (.int .i64 3), .lit (.int .i64 5)] [], .slice [.lit (.int .i64 3), .lit (.int .i64 5), .lit (.int .i64 7)] [], .slice [.lit (.int .i64 3), .lit (.int .i64 4), .lit (.int .i64 5)] [], .slice [.lit (.int .i64 3), .lit (.int .i64 4), .lit (.int .i64 5), .lit (.int .i64 6), .lit (.int .i64 7)] [], .slice [.lit (.int .i64 3), .lit (.int .i64 4)] [], .slice [.lit (.int .i64 3), .lit (.int .i64 4), .lit (.int .i64 5), .lit (.int .i64 6), .lit (.int .i64 7)] [], .slice [] [], .slice [.lit (.int .i64 3), .lit (.int .i64 4), .lit (.int .i64 5), .lit (.int .i64 6), .lit (.int .i64 7)] [], .slice [.lit (.int .i64 8)] [], .slice [.lit (.int .i64 5), .lit (.int .i64 7), .lit (.int .i64 8), .lit (.int .i64 9)] [], .slice [.lit (.int .i64 4), .lit (.int .i64 5)] [], .slice [.lit (.int .i64 4), .lit (.int .i64 5), .lit (.int .i64 6), .lit (.int .i64 7), .lit (.int .i64 9)] [], .slice [.lit (.int .i64 4), .lit (.int .i64 5), .lit (.int .i64 6)] [], .slice [.lit (.int .i64 4), .lit (.int .i64 5), .lit (.int .i64 6), .lit (.int .i64 7), .lit (.int .i64 8), .lit (.int .i64 9)] []]
def laid_granary_granaryref5_fields {H : Type} : DataW H := .agg [.lit (.string []), .lit (.string []), .lit (.string []), .lit (.string [69, 86]), .lit (.string [69, 86, 67]), .lit (.string [69, 83, 86]), .lit (.string [69, 83, 86, 80, 67]), .lit (.string [69, 83]), .lit (.string [69, 83, 86, 80, 67]), .lit (.string []), .lit (.string [69, 83, 86, 80, 67]), .lit (.string [75]), .lit (.string [86, 67, 75, 87]), .lit (.string [83, 86]), .lit (.string [83, 86, 80, 67, 87]), .lit (.string [83, 86, 80]), .lit (.string [83, 86, 80, 67, 75, 87])]
def laid_granary_granarylaw5_kindHas {H : Type} : DataW H := .agg [.lit (.string []), .lit (.string []), .lit (.string []), .lit (.string [69, 86]), .lit (.string [69, 86, 67]), .lit (.string [69, 83, 86]), .lit (.string [69, 83, 86, 80, 67]), .lit (.string [69, 83]), .lit (.string [69, 83, 86, 80, 67]), .lit (.string []), .lit (.string [69, 83, 86, 80, 67]), .lit (.string [75]), .lit (.string [86, 67, 75, 87]), .lit (.string [83, 86]), .lit (.string [83, 86, 80, 67, 87]), .lit (.string [83, 86, 80]), .lit (.string [83, 86, 80, 67, 75, 87])]

/-- 'granarylaw5.FrameCuts': WHATEVER THE INPUT: true; the input reads as it did. -/
def frameCutsSpec : ChangeSpec := { name := "frameCuts", fn := fun _ => fun
  | [d] => { results := [.lit (.bool true)], args := [d] }
  | _ => none }
def frameCutsRow : OpenClaim := { program := "ytgdjfocnaapooaadoor", sum := "f68052684b4dd9c7e2f6c6698610796d25e449d34419709c1a2b04244d4f659e", func := "granary/granarylaw5.FrameCuts", spec := "frameCuts", unfollowed := true, recurses := true, named := ["granary/frame.heads", "granary/frame.shapes", "granary/frame.bodies", "granary/digest.fourSteps"], apart := false, laid := [("granary/digest.fourSteps", laid_granary_digest_fourSteps), ("granary/frame.shapes", laid_granary_frame_shapes), ("granary/frame.heads", laid_granary_frame_heads), ("granary/frame.bodies", laid_granary_frame_bodies)] }
def FrameCutsSaid : Prop := frameCutsRow.holds Tryd.pinned (OpenSpec.ofChange frameCutsSpec)

/-- ITS FALSE NEIGHBOUR: 'it returns false'. Refute it at one input. -/
def frameCutsWrong : ChangeSpec := { name := "frameCuts", fn := fun _ => fun
  | [d] => { results := [.lit (.bool false)], args := [d] }
  | _ => none }
def FrameCutsWrongFalsely : Prop := frameCutsRow.holds Tryd.pinned (OpenSpec.ofChange frameCutsWrong)

/-- 'granarylaw5.FrameScans': WHATEVER THE INPUT: true; the input reads as it did. -/
def frameScansSpec : ChangeSpec := { name := "frameScans", fn := fun _ => fun
  | [d1, d2] => { results := [.lit (.bool true)], args := [d1, d2] }
  | _ => none }
def frameScansRow : OpenClaim := { program := "ytgdjfocnaapooaadoor", sum := "f68052684b4dd9c7e2f6c6698610796d25e449d34419709c1a2b04244d4f659e", func := "granary/granarylaw5.FrameScans", spec := "frameScans", unfollowed := true, recurses := true, named := ["granary/granaryref5.fields", "granary/digest.fourSteps", "granary/frame.heads", "granary/frame.bodies", "granary/frame.shapes"], apart := false, laid := [("granary/granaryref5.fields", laid_granary_granaryref5_fields), ("granary/digest.fourSteps", laid_granary_digest_fourSteps), ("granary/frame.shapes", laid_granary_frame_shapes), ("granary/frame.heads", laid_granary_frame_heads), ("granary/frame.bodies", laid_granary_frame_bodies)] }
def FrameScansSaid : Prop := frameScansRow.holds Tryd.pinned (OpenSpec.ofChange frameScansSpec)

/-- ITS FALSE NEIGHBOUR: 'it returns false'. Refute it at one input. -/
def frameScansWrong : ChangeSpec := { name := "frameScans", fn := fun _ => fun
  | [d1, d2] => { results := [.lit (.bool false)], args := [d1, d2] }
  | _ => none }
def FrameScansWrongFalsely : Prop := frameScansRow.holds Tryd.pinned (OpenSpec.ofChange frameScansWrong)

/-- 'granarylaw5.FrameStream': WHATEVER THE INPUT: true; the input reads as it did. -/
def frameStreamSpec : ChangeSpec := { name := "frameStream", fn := fun _ => fun
  | [d1, d2, d3] => { results := [.lit (.bool true)], args := [d1, d2, d3] }
  | _ => none }
def frameStreamRow : OpenClaim := { program := "ytgdjfocnaapooaadoor", sum := "f68052684b4dd9c7e2f6c6698610796d25e449d34419709c1a2b04244d4f659e", func := "granary/granarylaw5.FrameStream", spec := "frameStream", unfollowed := true, recurses := true, named := ["granary/granarylaw5.kindHas", "granary/frame.heads", "granary/frame.shapes", "granary/frame.bodies", "granary/digest.fourSteps"], apart := false, laid := [("granary/digest.fourSteps", laid_granary_digest_fourSteps), ("granary/frame.shapes", laid_granary_frame_shapes), ("granary/frame.heads", laid_granary_frame_heads), ("granary/frame.bodies", laid_granary_frame_bodies), ("granary/granarylaw5.kindHas", laid_granary_granarylaw5_kindHas)] }
def FrameStreamSaid : Prop := frameStreamRow.holds Tryd.pinned (OpenSpec.ofChange frameStreamSpec)

/-- ITS FALSE NEIGHBOUR: 'it returns false'. Refute it at one input. -/
def frameStreamWrong : ChangeSpec := { name := "frameStream", fn := fun _ => fun
  | [d1, d2, d3] => { results := [.lit (.bool false)], args := [d1, d2, d3] }
  | _ => none }
def FrameStreamWrongFalsely : Prop := frameStreamRow.holds Tryd.pinned (OpenSpec.ofChange frameStreamWrong)

/-- 'granarylaw5.FrameSplits': WHATEVER THE INPUT: true; the input reads as it did. -/
def frameSplitsSpec : ChangeSpec := { name := "frameSplits", fn := fun _ => fun
  | [d] => { results := [.lit (.bool true)], args := [d] }
  | _ => none }
def frameSplitsRow : OpenClaim := { program := "ytgdjfocnaapooaadoor", sum := "f68052684b4dd9c7e2f6c6698610796d25e449d34419709c1a2b04244d4f659e", func := "granary/granarylaw5.FrameSplits", spec := "frameSplits", unfollowed := true, recurses := true, named := ["granary/granaryref5.fields", "granary/digest.fourSteps", "granary/frame.heads", "granary/frame.bodies", "granary/frame.shapes"], apart := false, laid := [("granary/granaryref5.fields", laid_granary_granaryref5_fields), ("granary/digest.fourSteps", laid_granary_digest_fourSteps), ("granary/frame.shapes", laid_granary_frame_shapes), ("granary/frame.heads", laid_granary_frame_heads), ("granary/frame.bodies", laid_granary_frame_bodies)] }
def FrameSplitsSaid : Prop := frameSplitsRow.holds Tryd.pinned (OpenSpec.ofChange frameSplitsSpec)

/-- ITS FALSE NEIGHBOUR: 'it returns false'. Refute it at one input. -/
def frameSplitsWrong : ChangeSpec := { name := "frameSplits", fn := fun _ => fun
  | [d] => { results := [.lit (.bool false)], args := [d] }
  | _ => none }
def FrameSplitsWrongFalsely : Prop := frameSplitsRow.holds Tryd.pinned (OpenSpec.ofChange frameSplitsWrong)

/-- 'granarylaw5.FrameReaders': WHATEVER THE INPUT: true; the input reads as it did. -/
def frameReadersSpec : ChangeSpec := { name := "frameReaders", fn := fun _ => fun
  | [d] => { results := [.lit (.bool true)], args := [d] }
  | _ => none }
def frameReadersRow : OpenClaim := { program := "ytgdjfocnaapooaadoor", sum := "f68052684b4dd9c7e2f6c6698610796d25e449d34419709c1a2b04244d4f659e", func := "granary/granarylaw5.FrameReaders", spec := "frameReaders", unfollowed := true, recurses := true, named := ["granary/granaryref5.fields", "granary/digest.fourSteps", "granary/frame.heads", "granary/frame.bodies", "granary/frame.shapes"], apart := false, laid := [("granary/granaryref5.fields", laid_granary_granaryref5_fields), ("granary/digest.fourSteps", laid_granary_digest_fourSteps), ("granary/frame.shapes", laid_granary_frame_shapes), ("granary/frame.heads", laid_granary_frame_heads), ("granary/frame.bodies", laid_granary_frame_bodies)] }
def FrameReadersSaid : Prop := frameReadersRow.holds Tryd.pinned (OpenSpec.ofChange frameReadersSpec)

/-- ITS FALSE NEIGHBOUR: 'it returns false'. Refute it at one input. -/
def frameReadersWrong : ChangeSpec := { name := "frameReaders", fn := fun _ => fun
  | [d] => { results := [.lit (.bool false)], args := [d] }
  | _ => none }
def FrameReadersWrongFalsely : Prop := frameReadersRow.holds Tryd.pinned (OpenSpec.ofChange frameReadersWrong)

/- THE SECOND FORM. 'bulk': how many values and letters a reading holds, each counted each time it is reached (what is shared counts as often as it is met; a slice's spare places count too). A statement '..UptoSaid' is the law's where the arguments, and the package variables that the reading takes, are together of bulk at most 1048576: NARROWER than '..Said'. Prove '..Said' where nothing that the law and all that it calls make is longer than what came in: it says more and counts as full. Else prove '..UptoSaid'. A law counts once. -/
mutual
def uptoBulk {H : Type} : DataW H → Nat
  | .lit (.string bytes) => bytes.length + 1
  | .lit _ => 1
  | .nil => 1
  | .ptr d => uptoBulk d + 1
  | .slice elems spare => uptoBulkAll elems + uptoBulkAll spare + 1
  | .agg parts => uptoBulkAll parts + 1
  | .iface _ d => uptoBulk d + 1
  | .map entries => uptoBulkEntries entries + 1
  | .held _ => 1
def uptoBulkAll {H : Type} : List (DataW H) → Nat
  | [] => 0
  | d :: r => uptoBulk d + uptoBulkAll r
def uptoBulkEntries {H : Type} : List (Lit × DataW H) → Nat
  | [] => 0
  | x :: r => uptoBulkEntry x + uptoBulkEntries r
def uptoBulkEntry {H : Type} : Lit × DataW H → Nat
  | (.string bytes, d) => bytes.length + uptoBulk d + 1
  | (_, d) => uptoBulk d + 1
 end
def uptoSmall : (H : Type) → List (DataW H) → Bool := fun _ ds => decide (uptoBulkAll ds ≤ 1048576)
def OpenSpec.upto (s : _root_.Go.ChangeSpec) : _root_.Go.OpenSpec := { _root_.Go.OpenSpec.ofChange s with cond := some uptoSmall }

/-- 'granarylaw5.FrameCuts', WHERE WHAT IT READS IS OF BULK AT MOST 1048576: true; the input reads as it did. -/
def frameCutsUptoRow : OpenClaim := { program := "ytgdjfocnaapooaadoor", sum := "f68052684b4dd9c7e2f6c6698610796d25e449d34419709c1a2b04244d4f659e", func := "granary/granarylaw5.FrameCuts", spec := "frameCuts", unfollowed := true, recurses := true, named := ["granary/frame.heads", "granary/frame.shapes", "granary/frame.bodies", "granary/digest.fourSteps"], apart := false, laid := [("granary/digest.fourSteps", laid_granary_digest_fourSteps), ("granary/frame.shapes", laid_granary_frame_shapes), ("granary/frame.heads", laid_granary_frame_heads), ("granary/frame.bodies", laid_granary_frame_bodies)], narrowed := true }
def FrameCutsUptoSaid : Prop := frameCutsUptoRow.holds Tryd.pinned (OpenSpec.upto frameCutsSpec)

/-- 'granarylaw5.FrameScans', WHERE WHAT IT READS IS OF BULK AT MOST 1048576: true; the input reads as it did. -/
def frameScansUptoRow : OpenClaim := { program := "ytgdjfocnaapooaadoor", sum := "f68052684b4dd9c7e2f6c6698610796d25e449d34419709c1a2b04244d4f659e", func := "granary/granarylaw5.FrameScans", spec := "frameScans", unfollowed := true, recurses := true, named := ["granary/granaryref5.fields", "granary/digest.fourSteps", "granary/frame.heads", "granary/frame.bodies", "granary/frame.shapes"], apart := false, laid := [("granary/granaryref5.fields", laid_granary_granaryref5_fields), ("granary/digest.fourSteps", laid_granary_digest_fourSteps), ("granary/frame.shapes", laid_granary_frame_shapes), ("granary/frame.heads", laid_granary_frame_heads), ("granary/frame.bodies", laid_granary_frame_bodies)], narrowed := true }
def FrameScansUptoSaid : Prop := frameScansUptoRow.holds Tryd.pinned (OpenSpec.upto frameScansSpec)

/-- 'granarylaw5.FrameStream', WHERE WHAT IT READS IS OF BULK AT MOST 1048576: true; the input reads as it did. -/
def frameStreamUptoRow : OpenClaim := { program := "ytgdjfocnaapooaadoor", sum := "f68052684b4dd9c7e2f6c6698610796d25e449d34419709c1a2b04244d4f659e", func := "granary/granarylaw5.FrameStream", spec := "frameStream", unfollowed := true, recurses := true, named := ["granary/granarylaw5.kindHas", "granary/frame.heads", "granary/frame.shapes", "granary/frame.bodies", "granary/digest.fourSteps"], apart := false, laid := [("granary/digest.fourSteps", laid_granary_digest_fourSteps), ("granary/frame.shapes", laid_granary_frame_shapes), ("granary/frame.heads", laid_granary_frame_heads), ("granary/frame.bodies", laid_granary_frame_bodies), ("granary/granarylaw5.kindHas", laid_granary_granarylaw5_kindHas)], narrowed := true }
def FrameStreamUptoSaid : Prop := frameStreamUptoRow.holds Tryd.pinned (OpenSpec.upto frameStreamSpec)

/-- 'granarylaw5.FrameSplits', WHERE WHAT IT READS IS OF BULK AT MOST 1048576: true; the input reads as it did. -/
def frameSplitsUptoRow : OpenClaim := { program := "ytgdjfocnaapooaadoor", sum := "f68052684b4dd9c7e2f6c6698610796d25e449d34419709c1a2b04244d4f659e", func := "granary/granarylaw5.FrameSplits", spec := "frameSplits", unfollowed := true, recurses := true, named := ["granary/granaryref5.fields", "granary/digest.fourSteps", "granary/frame.heads", "granary/frame.bodies", "granary/frame.shapes"], apart := false, laid := [("granary/granaryref5.fields", laid_granary_granaryref5_fields), ("granary/digest.fourSteps", laid_granary_digest_fourSteps), ("granary/frame.shapes", laid_granary_frame_shapes), ("granary/frame.heads", laid_granary_frame_heads), ("granary/frame.bodies", laid_granary_frame_bodies)], narrowed := true }
def FrameSplitsUptoSaid : Prop := frameSplitsUptoRow.holds Tryd.pinned (OpenSpec.upto frameSplitsSpec)

/-- 'granarylaw5.FrameReaders', WHERE WHAT IT READS IS OF BULK AT MOST 1048576: true; the input reads as it did. -/
def frameReadersUptoRow : OpenClaim := { program := "ytgdjfocnaapooaadoor", sum := "f68052684b4dd9c7e2f6c6698610796d25e449d34419709c1a2b04244d4f659e", func := "granary/granarylaw5.FrameReaders", spec := "frameReaders", unfollowed := true, recurses := true, named := ["granary/granaryref5.fields", "granary/digest.fourSteps", "granary/frame.heads", "granary/frame.bodies", "granary/frame.shapes"], apart := false, laid := [("granary/granaryref5.fields", laid_granary_granaryref5_fields), ("granary/digest.fourSteps", laid_granary_digest_fourSteps), ("granary/frame.shapes", laid_granary_frame_shapes), ("granary/frame.heads", laid_granary_frame_heads), ("granary/frame.bodies", laid_granary_frame_bodies)], narrowed := true }
def FrameReadersUptoSaid : Prop := frameReadersUptoRow.holds Tryd.pinned (OpenSpec.upto frameReadersSpec)

end Rows
end Go.Proofs.YtgdjfocnaapooaaDoor
