import Derived.Test.YtmmcpcgnbffnjaaDoorDmSum
import Derived.Test.YtmmcpcgnbffnjaaDoorDcCrc
namespace Go.Proofs.YtmmcpcgnbffnjaaDoor
open Go.RowKit
theorem seen_new (q : Q) : Seen q 0 (List.replicate 64 0) [] := ⟨rfl, rfl, fun h => by omega, rfl⟩
theorem cat_take_le (xs : List ByteArray) (k : Nat) : (cat (xs.take k)).length ≤ (cat xs).length := by
  have : cat xs = cat (xs.take k) ++ cat (xs.drop k) := by
    unfold cat
    rw [← List.flatten_append, ← List.map_append, List.take_append_drop]
  rw [this, List.length_append]
  omega
theorem cat_mem {xs : List ByteArray} {k : Nat} (h : k < xs.length) : xs[k].size ≤ (cat xs).length := by
  have h1 := cat_take_le xs (k + 1)
  rw [cat_snoc xs k h, List.length_append, size_data] at h1
  omega
end Go.Proofs.YtmmcpcgnbffnjaaDoor
