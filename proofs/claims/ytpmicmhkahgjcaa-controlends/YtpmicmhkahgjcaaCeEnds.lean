import Derived.Test.YtpmicmhkahgjcaaCeEnds1
import Derived.Test.YtpmicmhkahgjcaaCeEnds2
import Derived.Test.YtpmicmhkahgjcaaCeEnds3
namespace Go.Proofs.Ytpmicmhkahgjcaa.Cn
open Go.RowKit
theorem ends_any (w : World) (nodes a b c kind version : Int) (ao' : Option Addr) (bb oo cap' : Nat) (L : List Mg) (hL : RwAt 11 mgV w.heap.size w ao' bb oo L) :
    Calls Try.prog 4 #[.int .i64 nodes, .agg #[.int .i64 a, .int .i64 b, .int .i64 c], .int .i64 kind, .int .i64 version, .slice ao' L.length cap'] w fun e w' => e = .returned (.bool true) ∧ Below w.heap.size w w' := by
  have h : kind % 3 = 0 ∨ kind % 3 = 1 ∨ kind % 3 = 2 := by omega
  rcases h with h | h | h
  · exact ends_1 w nodes a b c kind version ao' bb oo cap' L hL h
  · exact ends_2 w nodes a b c kind version ao' bb oo cap' L hL h
  · exact ends_3 w nodes a b c kind version ao' bb oo cap' L hL h
end Go.Proofs.Ytpmicmhkahgjcaa.Cn
