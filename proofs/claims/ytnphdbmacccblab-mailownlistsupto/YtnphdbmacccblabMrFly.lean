import Derived.Test.YtnphdbmacccblabMrAt
namespace Go.Proofs.Ytnphdbmacccblab
open Go.RowKit
set_option maxHeartbeats 8000000 in
set_option maxRecDepth 100000 in
set_option linter.unusedSimpArgs false in
set_option linter.unusedVariables false in
theorem rflying_any {w : World} {S : Nat → Prop} {Q : Nat} {vA vG vT : Value} {lim : Int} {A : AB} {T : TN} (h : RfX w S Q vA vG vT lim A T) (hA : A.length ≤ 3298534883328) :
    Calls Try.prog 9 #[.pointer (some ⟨Q, 0, none⟩)] w fun e w' => ∃ v, e = .returned v ∧ w'.ownsRow w.heap.size 53 4 v (live A).length (ltc (live A)) ∧ Below w.heap.size w w' := by
  obtain ⟨ba, cap, rfl⟩ := own_sl h.pr.rA
  obtain ⟨bg, capg, rfl⟩ := own_sl h.pr.rG
  obtain ⟨i0, hi0, hz0, hz1, hz2⟩ := info_parts4 infoLt
  have HR := hide h
  clear h
  go_enter Try.func9, Try.ntmps9
  go_wp2_with fail
  go_loopw [3, 4] (fun vl vk wr => ∃ (q : Nat), q ≤ A.length ∧ vk = .int .i64 (q : Int) ∧ wr.ownsRow w.heap.size 53 4 vl (live (A.take q)).length (ltc (live (A.take q))) ∧ Below w.heap.size w wr) (fun _ vk _ => A.length - (intOf vk).toNat)
  case atStart => exact ⟨0, Nat.zero_le _, rfl, World.ownsRow_nil _ _ _ _, Below.refl _ _⟩
  case round =>
    obtain ⟨q, hq, rfl, ho, hB⟩ := hrel
    have HO := hide ho
    have HB := hide hB
    have HX := hide (HR.out.below hB)
    clear ho hB
    have c1 := HX.out.c1
    have c2 := HX.out.c2
    by_cases hql : q < A.length
    case pos =>
      obtain ⟨g, cap', hg⟩ := own_g HX.out.pr.rG (by omega)
      have hg2 : bg = some ⟨g, 0, none⟩ ∧ capg = cap' := by
        simp only [Value.slice.injEq, true_and] at hg
        exact hg
      obtain ⟨rfl, rfl⟩ := hg2
      clear hg
      obtain ⟨ga, cap'', hga⟩ := own_g HX.out.pr.rA (by omega)
      have hga2 : ba = some ⟨ga, 0, none⟩ ∧ cap = cap'' := by
        simp only [Value.slice.injEq, true_and] at hga
        exact hga
      obtain ⟨rfl, rfl⟩ := hga2
      clear hga
      have x0 := HX.out.pr.gn q hql
      obtain ⟨l0, l1, l2, l3⟩ := HX.out.pr.lt q hql
      have LT := hide (live_take (A := A) q hql)
      have hll : Hid ((live (A.take q)).length ≤ 3298534883328) := Nat.le_trans (live_le _) (by rw [List.length_take]; omega)
      have hqi : (q : Int) < (A.length : Int) := by omega
      generalize A[q].2 = gg at *
      generalize A[q].1 = xx at *
      cases gg
      case true =>
        clear l0 l1 l2 l3
        go_wp2_with fail
        go_roundw
        case rel => exact ⟨q + 1, by omega, by go_num, by rw [LT.out, if_pos rfl, List.append_nil]; exact HO.out, HB.out⟩
        case measure => simp [intOf]; omega
      case false =>
        have hLT : live (A.take (q + 1)) = live (A.take q) ++ [xx] := by rw [LT.out]; simp
        have LT := hide hLT
        clear hLT
        obtain ⟨hm1, hm2⟩ : (live (A.take q)).length + 1 ≤ maxLen ∧ ((live (A.take q)).length + 1) * 40 ≤ 140737488355328 := by have := hll.out; unfold maxLen; omega
        have sz : Hid (w.heap.size ≤ wr.heap.size) := HB.out.size
        generalize live (A.take q) = LL at *
        go_wp2_with (at_builtin; refine wpList_append_own_at _ rfl _ _ 36 rfl w.heap.size 53 i0 _ 4 40 Try.underlying36 hi0 hz0 hz1 hz2 rfl (by decide) _ _ _ rfl (HO.out.alloc _) ⟨wr.heap.size, 0, none⟩ 1 1 (ltc [xx]) rfl rfl (lt_cells (heap_last wr _)) (ltc_one _) hm1 hm2 (by have := sz.out; simp; omega) ?_; intro v2 w2 o2 g2 n2 a2; clear n2 a2)
        go_roundw
        case rel => exact ⟨q + 1, by omega, by go_num, by rw [LT.out, List.length_append, ltc_append]; exact o2, (HB.out.alloc sz.out _).grown g2 (by have := sz.out; simp; omega) (fun j hj => (HO.out.lt j hj).1)⟩
        case measure => simp [intOf]; omega
    case neg =>
      obtain rfl : q = A.length := by omega
      go_wp2_with fail
      go_ret
      refine ⟨_, rfl, ?_, HB.out⟩
      have := HO.out
      rw [List.take_length] at this
      exact this
end Go.Proofs.Ytnphdbmacccblab
