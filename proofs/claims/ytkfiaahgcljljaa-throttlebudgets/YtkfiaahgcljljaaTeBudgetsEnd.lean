import Derived.Test.YtkfiaahgcljljaaRows
import Derived.Test.YtkfiaahgcljljaaTeLaw
import Derived.Test.YtkfiaahgcljljaaTeOpen
namespace Go.Proofs.Ytkfiaahgcljljaa
open Go.ChangeShapes Go.WideShapes Go.ChangeAt Go.RowKit Go.Deep
theorem ownKThrottleBudgets : ownKnob Try.prog.godebug = none := by kernel_rfl
set_option maxRecDepth 100000 in
theorem liftedThrottleBudgets (os : Os) (started : os.Started) (H : Type) (enc : TypeId × Value → H) :
    ReturnsInHanded {} Try.checked os 8 .any (Rows.throttleBudgetsSpec.pre6 enc Try.prog Try.f8 Rows.throttleBudgetsRow.domain false) (Rows.throttleBudgetsSpec.post enc Try.prog Try.f8 false true false false) := by
  refine returnsInHanded_of_change_sized (C := Try.checked) ownKThrottleBudgets started (by kernel_rfl) Try.func8
    (ChangeSpec.witness6 (enc := enc) (C := Try.checked) false ⟨#[], #[.agg #[.int .i64 0, .int .i64 0, .int .i64 0], .agg #[.int .i64 0, .int .i64 0, .int .i64 0], .slice none 0 0], []⟩ 8 (by kernel_rfl) (by kernel_rfl) (by kernel_rfl) (by kernel_rfl)) ?_
  intro W base args ds gs before hval0 hW hcnd hsz _
  have hval : ∀ (j : Nat) t v, Try.f8.params[j]? = some t → args[j]? = some v → Value.okWide Try.prog W .any base t v := hval0
  have hW' := hW
  obtain ⟨p, q, hA0, hV, rfl, hfz, hnd⟩ := hW
  have hA : DataW.TrodAll enc Try.prog W 0 (fun _ => true) true Try.f8.params.toList args.toList ds p := hA0
  rw [Try.params8] at hA hval hsz
  obtain ⟨v0, vs0, d0, ds0, p0, q0, hargs0, rfl, rfl, h0, r0⟩ := trodAll_cons hA
  obtain ⟨v1, vs1, d1, ds1, p1, q1, hargs1, rfl, rfl, h1, r1⟩ := trodAll_cons r0
  obtain ⟨v2, vs2, d2, ds2, p2, q2, hargs2, rfl, rfl, h2, r2⟩ := trodAll_cons r1
  obtain ⟨rfl, rfl, rfl⟩ := trodAll_nil r2
  subst hargs2
  subst hargs1
  obtain rfl : args = #[v0, v1, v2] := by cases args; simp_all
  obtain ⟨rfl, rfl⟩ := trodVars_none hV
  have h0k := h0
  obtain ⟨x0, y0, z0, rfl, rfl, wx0, wy0, wz0⟩ := open_shape (hval 0 23 v0 rfl rfl) h0
  have hx0 := int_of wx0
  have hy0 := int_of wy0
  have hz0 := int_of wz0
  have h1k := h1
  obtain ⟨x1, y1, z1, rfl, rfl, wx1, wy1, wz1⟩ := open_shape (hval 1 23 v1 rfl rfl) h1
  have hx1 := int_of wx1
  have hy1 := int_of wy1
  have hz1 := int_of wz1
  have h2k := h2
  obtain ⟨aa2, len2, cap2, rfl⟩ := okWide_slice Try.underlying38 (hval 2 38 v2 rfl rfl)
  obtain ⟨fuel2, hf2⟩ := h2
  clear hA0 hval0
  simp only [List.append_nil, List.nil_append] at hW'
  have hlt2 : ∀ x ∈ p2, x.block < W.heap.size := fun x hx => hW'.lt x (by simp [hx])
  obtain ⟨cs2, ao2, b2, o2, cap2', hv2, hN2, hw2, hs2⟩ := open_ops (v := .slice aa2 len2 cap2) hf2 hlt2
  have hl2 : cs2.length ≤ 7000000000000 := by
    rcases hs2 with e | ⟨elems, spare, e, e'⟩
    · omega
    · have hw := sized_slice hsz (j := 2) (e := 43) rfl (by rw [← e]; rfl) Try.underlying38
      rw [show Try.checked.prog.bytesOf 43 = 40 from by kernel_rfl, show reachBytes = 140737488351232 from rfl] at hw
      omega
  rw [hv2] at h2k hW' ⊢
  refine (budgets_any ao2 b2 o2 cap2' cs2 x0 y0 z0 x1 y1 z1 W hN2 hw2 hl2).mono fun e W' ⟨he, hnx⟩ => ?_
  subst he
  refine ⟨_, rfl, _, _, _, [], p2, [], hW', trodAll_cons_mk (shut_bool Try.underlying4 _) trodAll_mk0, ?_, rfl, hnx.frame _, fun h => by cases h⟩
  have k := (trodAll_cons_mk (Below.trod laidOutP (by kernel_rfl) (of_decide_eq_true (by kernel_rfl)) h0k hnx (fun x hx => by cases hx)) (trodAll_cons_mk (Below.trod laidOutP (by kernel_rfl) (of_decide_eq_true (by kernel_rfl)) h1k hnx (fun x hx => by cases hx)) (trodAll_cons_mk (Below.trod laidOutP (by kernel_rfl) (of_decide_eq_true (by kernel_rfl)) h2k hnx hlt2) trodAll_mk0)))
  simp only [List.append_nil, List.nil_append] at k
  exact k
theorem proved : Rows.ThrottleBudgetsSaid :=
  OpenClaim.holds_of_wide 8 Try.f8 rfl rfl rfl rfl rfl rfl rfl ⟨rfl, rfl, rfl, rfl, rfl⟩ rfl rfl rfl rfl rfl (by kernel_rfl) Try.func8 (by kernel_rfl)
    (of_decide_eq_true (by kernel_rfl)) (by unfold Func.isWrapper; first | (rw [if_pos (by decide +kernel)]; kernel_rfl) | (rw [if_neg (by decide +kernel)]; exact ⟨rfl, rfl⟩))
    (fun os started H enc _ => liftedThrottleBudgets os started H enc)
end Go.Proofs.Ytkfiaahgcljljaa
