import Derived.Test.YtnphdbmacccblaaMhStepA
import Derived.Test.YtnphdbmacccblaaMhStepB
import Derived.Test.YtnphdbmacccblaaMhStepC
namespace Go.Proofs.Ytnphdbmacccblaa
open Go.RowKit
theorem step_any {w : World} {S : Nat → Prop} {R Q : Nat} {d : DS} (h : Tb w S R Q d d.A) (g : DGood d) (f : DFit d) (ids : IdsOk d.A) (k a n mm : Int) (s : ByteArray) (hf : OpFit a n s) :
    Calls Try.prog 19 #[.pointer (some ⟨Q, 0, none⟩), .pointer (some ⟨R, 0, none⟩), opV k a n mm s] w (StB w S R Q (stpD d k n mm s)) := by
  by_cases hk : 1 ≤ k ∧ k ≤ 6
  case neg => exact step_none h g f ids k a n mm s hf hk
  have : k = 1 ∨ k = 2 ∨ k = 3 ∨ k = 4 ∨ k = 5 ∨ k = 6 := by omega
  rcases this with rfl | rfl | rfl | rfl | rfl | rfl
  · exact step_send h g f ids a n mm s hf
  · exact step_deliver h g f ids a n mm s hf
  · exact step_drop h g f ids a n mm s hf
  · exact step_copy h g f ids a n mm s hf
  · exact step_cut h g f ids a n mm s hf
  · exact step_heal h g f ids a n mm s hf
end Go.Proofs.Ytnphdbmacccblaa
