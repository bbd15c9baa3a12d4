/-
  NARROWER THAN 'FOR EVERY INPUT', by the rows' own cells (each row's printed sentence says how): RouterFailover: laid · RouterTruth: laid · RouterEnds: laid · RouterBatch: laid.
  DERIVED. THE GIVEN ROWS OF THIS SEAT. 4 by the template 'for every input the law returns true; each argument reads behind the call as it read before'; 0 by the template 'total and deterministic' (their statements: YtndfhpfhgdamgaaGreatDoorTotals.lean).
  GIVEN WITH THE SEED: the statements are not yours to turn. If you find one false, say at which input.
  Laid BY PROGRAM, IN A SANDBOX (cutbox-rows.mjs): the forced cells as the released guide's own fill.sh prints them over the translation a7172ff7c9192b72… (all of the seat's roots in one cut). By AI agents, Wed Nov 11 2026. No macro, syntax, notation, axiom, sorry.
-/
import Derived.Test.YtndfhpfhgdamgaaGreatDoorChecked
import GoSem.Claim
import GoSem.ClaimJoined
import GoSem.ClaimMapViews
import Derived.JoinedTies
import Derived.KernelRfl
namespace Go.Proofs.YtndfhpfhgdamgaaGreatDoor
/- THE CELL 'sum', in the pinned program and in every row, IS THE sha256 OF THE DUMP (.gsa) THAT YtndfhpfhgdamgaaGreatDoorProg.lean LOADS. Nothing in Lean hashes anything: it is a label: what it is worth is what the hold of that sum in a sandbox is worth. -/
noncomputable def Tryz.pinned : Pinned := { name := "ytndfhpfhgdamgaagreatdoor", sum := "a7172ff7c9192b72667a5ed0266c8b303f509afefe6462cf8ccc917f6be5298a", checked := Tryz.checked }
namespace Rows
def none {H : Type} : Left H := { results := [], args := [] }

/- WHAT THE LISTED PACKAGE-LEVEL VARIABLES READ AS WHEN THE CALL BEGINS. Each datum BY PROGRAM (the guide's laid-datum.mjs) off the statement by which the dump's own 'gosem.cut.vars' lays the variable. In a bare row this is a premise. The card (YtndfhpfhgdamgaaGreatDoorCards.lean) ties it to the program's text. -/
def laid_granary_digest_sines {H : Type} : DataW H := .agg [.lit (.int .u32 3614090360), .lit (.int .u32 3905402710), .lit (.int .u32 606105819), .lit (.int .u32 3250441966), .lit (.int .u32 4118548399), .lit (.int .u32 1200080426), .lit (.int .u32 2821735955), .lit (.int .u32 4249261313), .lit (.int .u32 1770035416), .lit (.int .u32 2336552879), .lit (.int .u32 4294925233), .lit (.int .u32 2304563134), .lit (.int .u32 1804603682), .lit (.int .u32 4254626195), .lit (.int .u32 2792965006), .lit (.int .u32 1236535329), .lit (.int .u32 4129170786), .lit (.int .u32 3225465664), .lit (.int .u32 643717713), .lit (.int .u32 3921069994), .lit (.int .u32 3593408605), .lit (.int .u32 38016083), .lit (.int .u32 3634488961), .lit (.int .u32 3889429448), .lit (.int .u32 568446438), .lit (.int .u32 3275163606), .lit (.int .u32 4107603335), .lit (.int .u32 1163531501), .lit (.int .u32 2850285829), .lit (.int .u32 4243563512), .lit (.int .u32 1735328473), .lit (.int .u32 2368359562), .lit (.int .u32 4294588738), .lit (.int .u32 2272392833), .lit (.int .u32 1839030562), .lit (.int .u32 4259657740), .lit (.int .u32 2763975236), .lit (.int .u32 1272893353), .lit (.int .u32 4139469664), .lit (.int .u32 3200236656), .lit (.int .u32 681279174), .lit (.int .u32 3936430074), .lit (.int .u32 3572445317), .lit (.int .u32 76029189), .lit (.int .u32 3654602809), .lit (.int .u32 3873151461), .lit (.int .u32 530742520), .lit (.int .u32 3299628645), .lit (.int .u32 4096336452), .lit (.int .u32 1126891415), .lit (.int .u32 2878612391), .lit (.int .u32 4237533241), .lit (.int .u32 1700485571), .lit (.int .u32 2399980690), .lit (.int .u32 4293915773), .lit (.int .u32 2240044497), .lit (.int .u32 1873313359), .lit (.int .u32 4264355552), .lit (.int .u32 2734768916), .lit (.int .u32 1309151649), .lit (.int .u32 4149444226), .lit (.int .u32 3174756917), .lit (.int .u32 718787259), .lit (.int .u32 3951481745)]
def laid_granary_digest_turns {H : Type} : DataW H := .agg [.agg [.lit (.int .i64 7), .lit (.int .i64 12), .lit (.int .i64 17), .lit (.int .i64 22)], .agg [.lit (.int .i64 5), .lit (.int .i64 9), .lit (.int .i64 14), .lit (.int .i64 20)], .agg [.lit (.int .i64 4), .lit (.int .i64 11), .lit (.int .i64 16), .lit (.int .i64 23)], .agg [.lit (.int .i64 6), .lit (.int .i64 10), .lit (.int .i64 15), .lit (.int .i64 21)]]

/-- 'granarylaw17.RouterFailover': WHATEVER THE INPUT: true; the input reads as it did. -/
def routerFailoverSpec : ChangeSpec := { name := "routerFailover", fn := fun _ => fun
  | [d1, d2, d3, d4] => { results := [.lit (.bool true)], args := [d1, d2, d3, d4] }
  | _ => none }
def routerFailoverRow : OpenClaim := { program := "ytndfhpfhgdamgaagreatdoor", sum := "a7172ff7c9192b72667a5ed0266c8b303f509afefe6462cf8ccc917f6be5298a", func := "granary/granarylaw17.RouterFailover", spec := "routerFailover", inPlace := ["internal/bytealg.IndexByteString", "internal/abi.NoEscape", "internal/bytealg.MakeNoZero"], unfollowed := true, recurses := true, named := ["granary/digest.sines", "granary/digest.turns"], apart := false, laid := [("granary/digest.sines", laid_granary_digest_sines), ("granary/digest.turns", laid_granary_digest_turns)] }
def RouterFailoverSaid : Prop := routerFailoverRow.holds Tryz.pinned (OpenSpec.ofChange routerFailoverSpec)

/-- ITS FALSE NEIGHBOUR: 'it returns false'. Refute it at one input. -/
def routerFailoverWrong : ChangeSpec := { name := "routerFailover", fn := fun _ => fun
  | [d1, d2, d3, d4] => { results := [.lit (.bool false)], args := [d1, d2, d3, d4] }
  | _ => none }
def RouterFailoverWrongFalsely : Prop := routerFailoverRow.holds Tryz.pinned (OpenSpec.ofChange routerFailoverWrong)

/-- 'granarylaw17.RouterTruth': WHATEVER THE INPUT: true; the input reads as it did. -/
def routerTruthSpec : ChangeSpec := { name := "routerTruth", fn := fun _ => fun
  | [d1, d2] => { results := [.lit (.bool true)], args := [d1, d2] }
  | _ => none }
def routerTruthRow : OpenClaim := { program := "ytndfhpfhgdamgaagreatdoor", sum := "a7172ff7c9192b72667a5ed0266c8b303f509afefe6462cf8ccc917f6be5298a", func := "granary/granarylaw17.RouterTruth", spec := "routerTruth", inPlace := ["internal/bytealg.IndexByteString", "internal/abi.NoEscape", "internal/bytealg.MakeNoZero"], unfollowed := true, recurses := true, named := ["granary/digest.sines", "granary/digest.turns"], apart := false, laid := [("granary/digest.sines", laid_granary_digest_sines), ("granary/digest.turns", laid_granary_digest_turns)] }
def RouterTruthSaid : Prop := routerTruthRow.holds Tryz.pinned (OpenSpec.ofChange routerTruthSpec)

/-- ITS FALSE NEIGHBOUR: 'it returns false'. Refute it at one input. -/
def routerTruthWrong : ChangeSpec := { name := "routerTruth", fn := fun _ => fun
  | [d1, d2] => { results := [.lit (.bool false)], args := [d1, d2] }
  | _ => none }
def RouterTruthWrongFalsely : Prop := routerTruthRow.holds Tryz.pinned (OpenSpec.ofChange routerTruthWrong)

/-- 'granarylaw17.RouterEnds': WHATEVER THE INPUT: true; the input reads as it did. -/
def routerEndsSpec : ChangeSpec := { name := "routerEnds", fn := fun _ => fun
  | [d1, d2] => { results := [.lit (.bool true)], args := [d1, d2] }
  | _ => none }
def routerEndsRow : OpenClaim := { program := "ytndfhpfhgdamgaagreatdoor", sum := "a7172ff7c9192b72667a5ed0266c8b303f509afefe6462cf8ccc917f6be5298a", func := "granary/granarylaw17.RouterEnds", spec := "routerEnds", inPlace := ["internal/bytealg.IndexByteString", "internal/abi.NoEscape", "internal/bytealg.MakeNoZero"], unfollowed := true, recurses := true, named := ["granary/digest.sines", "granary/digest.turns"], apart := false, laid := [("granary/digest.sines", laid_granary_digest_sines), ("granary/digest.turns", laid_granary_digest_turns)] }
def RouterEndsSaid : Prop := routerEndsRow.holds Tryz.pinned (OpenSpec.ofChange routerEndsSpec)

/-- ITS FALSE NEIGHBOUR: 'it returns false'. Refute it at one input. -/
def routerEndsWrong : ChangeSpec := { name := "routerEnds", fn := fun _ => fun
  | [d1, d2] => { results := [.lit (.bool false)], args := [d1, d2] }
  | _ => none }
def RouterEndsWrongFalsely : Prop := routerEndsRow.holds Tryz.pinned (OpenSpec.ofChange routerEndsWrong)

/-- 'granarylaw17.RouterBatch': WHATEVER THE INPUT: true; the input reads as it did. -/
def routerBatchSpec : ChangeSpec := { name := "routerBatch", fn := fun _ => fun
  | [d1, d2, d3] => { results := [.lit (.bool true)], args := [d1, d2, d3] }
  | _ => none }
def routerBatchRow : OpenClaim := { program := "ytndfhpfhgdamgaagreatdoor", sum := "a7172ff7c9192b72667a5ed0266c8b303f509afefe6462cf8ccc917f6be5298a", func := "granary/granarylaw17.RouterBatch", spec := "routerBatch", inPlace := ["internal/bytealg.IndexByteString", "internal/abi.NoEscape", "internal/bytealg.MakeNoZero"], unfollowed := true, recurses := true, named := ["granary/digest.sines", "granary/digest.turns"], apart := false, laid := [("granary/digest.sines", laid_granary_digest_sines), ("granary/digest.turns", laid_granary_digest_turns)] }
def RouterBatchSaid : Prop := routerBatchRow.holds Tryz.pinned (OpenSpec.ofChange routerBatchSpec)

/-- ITS FALSE NEIGHBOUR: 'it returns false'. Refute it at one input. -/
def routerBatchWrong : ChangeSpec := { name := "routerBatch", fn := fun _ => fun
  | [d1, d2, d3] => { results := [.lit (.bool false)], args := [d1, d2, d3] }
  | _ => none }
def RouterBatchWrongFalsely : Prop := routerBatchRow.holds Tryz.pinned (OpenSpec.ofChange routerBatchWrong)

/- THE SECOND FORM. 'bulk': how many values and letters a reading holds, each counted each time it is reached (what is shared counts as often as it is met; a slice's spare places count too). A statement '..UptoSaid' is the law's where the arguments, and the package variables that the reading takes, are together of bulk at most 1048576: NARROWER than '..Said'. Prove '..Said' where nothing that the law and all that it calls make is longer than what came in: it says more and counts as full. Else prove '..UptoSaid'. A law counts once. -/
mutual
def uptoBulk {H : Type} : DataW H → Nat
  | .lit (.string bytes) => bytes.length + 1
  | .lit _ => 1
  | .nil => 1
  | .ptr d => uptoBulk d + 1
  | .slice elems spare => uptoBulkAll elems + uptoBulkAll spare + 1
  | .agg parts => uptoBulkAll parts + 1
  | .iface _ d => uptoBulk d + 1
  | .map entries => uptoBulkEntries entries + 1
  | .held _ => 1
def uptoBulkAll {H : Type} : List (DataW H) → Nat
  | [] => 0
  | d :: r => uptoBulk d + uptoBulkAll r
def uptoBulkEntries {H : Type} : List (Lit × DataW H) → Nat
  | [] => 0
  | x :: r => uptoBulkEntry x + uptoBulkEntries r
def uptoBulkEntry {H : Type} : Lit × DataW H → Nat
  | (.string bytes, d) => bytes.length + uptoBulk d + 1
  | (_, d) => uptoBulk d + 1
 end
def uptoSmall : (H : Type) → List (DataW H) → Bool := fun _ ds => decide (uptoBulkAll ds ≤ 1048576)
def OpenSpec.upto (s : _root_.Go.ChangeSpec) : _root_.Go.OpenSpec := { _root_.Go.OpenSpec.ofChange s with cond := some uptoSmall }

/-- 'granarylaw17.RouterFailover', WHERE WHAT IT READS IS OF BULK AT MOST 1048576: true; the input reads as it did. -/
def routerFailoverUptoRow : OpenClaim := { program := "ytndfhpfhgdamgaagreatdoor", sum := "a7172ff7c9192b72667a5ed0266c8b303f509afefe6462cf8ccc917f6be5298a", func := "granary/granarylaw17.RouterFailover", spec := "routerFailover", inPlace := ["internal/bytealg.IndexByteString", "internal/abi.NoEscape", "internal/bytealg.MakeNoZero"], unfollowed := true, recurses := true, named := ["granary/digest.sines", "granary/digest.turns"], apart := false, laid := [("granary/digest.sines", laid_granary_digest_sines), ("granary/digest.turns", laid_granary_digest_turns)], narrowed := true }
def RouterFailoverUptoSaid : Prop := routerFailoverUptoRow.holds Tryz.pinned (OpenSpec.upto routerFailoverSpec)

/-- 'granarylaw17.RouterTruth', WHERE WHAT IT READS IS OF BULK AT MOST 1048576: true; the input reads as it did. -/
def routerTruthUptoRow : OpenClaim := { program := "ytndfhpfhgdamgaagreatdoor", sum := "a7172ff7c9192b72667a5ed0266c8b303f509afefe6462cf8ccc917f6be5298a", func := "granary/granarylaw17.RouterTruth", spec := "routerTruth", inPlace := ["internal/bytealg.IndexByteString", "internal/abi.NoEscape", "internal/bytealg.MakeNoZero"], unfollowed := true, recurses := true, named := ["granary/digest.sines", "granary/digest.turns"], apart := false, laid := [("granary/digest.sines", laid_granary_digest_sines), ("granary/digest.turns", laid_granary_digest_turns)], narrowed := true }
def RouterTruthUptoSaid : Prop := routerTruthUptoRow.holds Tryz.pinned (OpenSpec.upto routerTruthSpec)

/-- 'granarylaw17.RouterEnds', WHERE WHAT IT READS IS OF BULK AT MOST 1048576: true; the input reads as it did. -/
def routerEndsUptoRow : OpenClaim := { program := "ytndfhpfhgdamgaagreatdoor", sum := "a7172ff7c9192b72667a5ed0266c8b303f509afefe6462cf8ccc917f6be5298a", func := "granary/granarylaw17.RouterEnds", spec := "routerEnds", inPlace := ["internal/bytealg.IndexByteString", "internal/abi.NoEscape", "internal/bytealg.MakeNoZero"], unfollowed := true, recurses := true, named := ["granary/digest.sines", "granary/digest.turns"], apart := false, laid := [("granary/digest.sines", laid_granary_digest_sines), ("granary/digest.turns", laid_granary_digest_turns)], narrowed := true }
def RouterEndsUptoSaid : Prop := routerEndsUptoRow.holds Tryz.pinned (OpenSpec.upto routerEndsSpec)

/-- 'granarylaw17.RouterBatch', WHERE WHAT IT READS IS OF BULK AT MOST 1048576: true; the input reads as it did. -/
def routerBatchUptoRow : OpenClaim := { program := "ytndfhpfhgdamgaagreatdoor", sum := "a7172ff7c9192b72667a5ed0266c8b303f509afefe6462cf8ccc917f6be5298a", func := "granary/granarylaw17.RouterBatch", spec := "routerBatch", inPlace := ["internal/bytealg.IndexByteString", "internal/abi.NoEscape", "internal/bytealg.MakeNoZero"], unfollowed := true, recurses := true, named := ["granary/digest.sines", "granary/digest.turns"], apart := false, laid := [("granary/digest.sines", laid_granary_digest_sines), ("granary/digest.turns", laid_granary_digest_turns)], narrowed := true }
def RouterBatchUptoSaid : Prop := routerBatchUptoRow.holds Tryz.pinned (OpenSpec.upto routerBatchSpec)

end Rows
end Go.Proofs.YtndfhpfhgdamgaaGreatDoor
