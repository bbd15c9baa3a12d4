import Derived.Test.YtnphdbmacccblabMbPlA
import Derived.Test.YtnphdbmacccblabMbPlB
import Derived.Test.YtnphdbmacccblabMbPlC
import Derived.Test.YtnphdbmacccblabMbPlD
import Derived.Test.YtnphdbmacccblabMbPlE
namespace Go.Proofs.Ytnphdbmacccblab
open Go.RowKit
theorem plays_any {w : World} {b0 : Nat → Prop} {B m : Nat} (h : Bn w b0 B m) (hm : m ≤ 3298534883327) (k a n mm : Int) (s : ByteArray) (hf : OpFit a n s) :
    Calls Try.prog 11 #[.pointer (some ⟨B, 0, none⟩), opV k a n mm s] w (Stp w b0 B m) := by
  by_cases hk : 1 ≤ k ∧ k ≤ 9
  case neg => exact plays_none h hm k a n mm s hf hk
  have : k = 1 ∨ k = 2 ∨ k = 3 ∨ k = 4 ∨ k = 5 ∨ k = 6 ∨ k = 7 ∨ k = 8 ∨ k = 9 := by omega
  rcases this with rfl | rfl | rfl | rfl | rfl | rfl | rfl | rfl | rfl
  · exact plays_send h hm a n mm s hf
  · exact plays_deliver h hm a n mm s hf
  · exact plays_drop h hm a n mm s hf
  · exact plays_copy h hm a n mm s hf
  · exact plays_cut h hm a n mm s hf
  · exact plays_heal h hm a n mm s hf
  · exact plays_flying h hm a n mm s hf
  · exact plays_count h hm a n mm s hf
  · exact plays_sent h hm a n mm s hf
end Go.Proofs.Ytnphdbmacccblab
