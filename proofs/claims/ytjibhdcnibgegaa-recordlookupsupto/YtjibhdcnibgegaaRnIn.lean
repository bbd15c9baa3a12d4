import Derived.Test.YtjibhdcnibgegaaRnPlain
import Derived.OpenShut
import Derived.SizedLaws
namespace Go.Proofs.Ytjibhdcnibgegaa
theorem str_small {s : ByteArray} (h : s.data.toList.length ≤ reachBytes) : s.size ≤ 140737488351232 := by
  rw [size_data] at h; exact h
theorem int_in {n : Int} (h : (Lit.int .i64 n).wf = true) : -9223372036854775808 ≤ n ∧ n ≤ 9223372036854775807 := by
  simp only [Lit.wf, Bool.and_eq_true, decide_eq_true_eq] at h
  exact h
end Go.Proofs.Ytjibhdcnibgegaa
