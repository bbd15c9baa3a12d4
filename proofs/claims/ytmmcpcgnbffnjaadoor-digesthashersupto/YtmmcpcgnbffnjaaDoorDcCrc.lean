import Derived.Test.YtmmcpcgnbffnjaaDoorDcLen
namespace Go.Proofs.YtmmcpcgnbffnjaaDoor
open Go.RowKit
/-- a list of texts in memory -/
def Lies (b off : Nat) (w : World) (xs : List ByteArray) : Prop := ∀ (j : Nat) x, xs[j]? = some x → w.cell? ⟨b, off + j, none⟩ = some (.string x)
def cat (xs : List ByteArray) : List UInt8 := (xs.map (·.data.toList)).flatten
theorem cat_snoc (xs : List ByteArray) (k : Nat) (h : k < xs.length) : cat (xs.take (k + 1)) = cat (xs.take k) ++ xs[k].data.toList := by
  unfold cat
  rw [List.take_succ_eq_append_getElem h, List.map_append, List.flatten_append]
  simp
theorem cat_nil : cat [] = [] := rfl
end Go.Proofs.YtmmcpcgnbffnjaaDoor
