import Derived.Test.YtnphdbmacccblabMbSame
namespace Go.Proofs.Ytnphdbmacccblab
open Go.RowKit
set_option maxHeartbeats 8000000 in
set_option maxRecDepth 100000 in
set_option linter.unusedSimpArgs false in
set_option linter.unusedVariables false in
/-- two lists that hold the same: nothing is written -/
theorem sameLetters_q {w : World} {va vb : Value} {L : List Lt} (ha : LL w va L) (hb : LL w vb L) (hL : L.length ≤ 1125899906842624) :
    Calls Try.prog 8 #[va, vb] w fun e w' => e = .returned (.bool true) ∧ ∃ m, w' = w.drewN m := by
  have HA := hide ha
  have HB := hide hb
  obtain ⟨ba, ga, capa, rfl, a1, _⟩ := ha
  obtain ⟨bb, gb, capb, rfl, b1, _⟩ := hb
  clear a1 b1
  go_enter Try.func8, Try.ntmps8
  go_wp2_with fail
  go_loopw [5] (fun vi wr => ∃ (q : Nat), q ≤ L.length ∧ vi = .int .i64 (q : Int) ∧ ∃ m, wr = w.drewN m) (fun vi _ => L.length - (intOf vi).toNat)
  case atStart => exact ⟨0, Nat.zero_le _, rfl, 0, rfl⟩
  case round =>
    obtain ⟨q, hq, rfl, m, hm⟩ := hrel
    have hB : Below w.heap.size w wr := by rw [hm]; exact ⟨rfl, rfl, rfl, Nat.le_refl _, fun _ _ => rfl⟩
    have XA := HA.out.below hB
    have XB := HB.out.below hB
    have KB := hide hm
    clear hB hm
    by_cases hql : q < L.length
    case pos =>
      obtain ⟨ba', g, cap, e, h2, h3⟩ := XA
      simp only [Value.slice.injEq, true_and] at e
      obtain ⟨rfl, rfl⟩ := e
      obtain ⟨rfl, _⟩ := h2 (by omega)
      obtain ⟨x0, x1, x2, x3⟩ := h3 q hql
      obtain ⟨bb', g', cap', e, h2', h3'⟩ := XB
      simp only [Value.slice.injEq, true_and] at e
      obtain ⟨rfl, rfl⟩ := e
      obtain ⟨rfl, _⟩ := h2' (by omega)
      obtain ⟨y0, y1, y2, y3⟩ := h3' q hql
      clear h2 h3 h2' h3'
      generalize L[q] = xx at *
      have hqi : (q : Int) < (L.length : Int) := by omega
      go_wp2_with fail
      go_quiet (fail)
      have KD : Hid (∃ m, wr.drewN nq = w.drewN m) := ⟨m + nq, by rw [KB.out, World.drewN_drewN]⟩
      generalize wr.drewN nq = W at *
      clear x0 x1 x2 x3 y0 y1 y2 y3
      go_wp2_with fail
      go_roundw
      case rel => exact ⟨q + 1, by omega, by go_num, KD.out⟩
      case measure => simp [intOf]; omega
    case neg =>
      obtain rfl : q = L.length := by omega
      clear XA XB
      go_wp2_with fail
      go_ret
      exact ⟨rfl, m, KB.out⟩
set_option maxHeartbeats 8000000 in
set_option maxRecDepth 100000 in
set_option linter.unusedSimpArgs false in
set_option linter.unusedVariables false in
/-- a list copied -/
theorem letters_any {w : World} {v : Value} {L : List Lt} (h : LL w v L) (hL : L.length ≤ 1048576) :
    Calls Try.prog 13 #[v] w fun e w' => ∃ v', e = .returned v' ∧ w'.ownsRow w.heap.size 53 4 v' L.length (ltc L) ∧ Below w.heap.size w w' := by
  have HA := hide h
  obtain ⟨ba, ga, capa, rfl, a1, _⟩ := h
  clear a1
  obtain ⟨i0, hi0, hz0, hz1, hz2⟩ := info_parts4 infoLt
  go_enter Try.func13, Try.ntmps13
  go_wp2_with fail
  go_loopw [3, 4] (fun vl vk wr => ∃ (q : Nat), q ≤ L.length ∧ vk = .int .i64 (q : Int) ∧ wr.ownsRow w.heap.size 53 4 vl (L.take q).length (ltc (L.take q)) ∧ Below w.heap.size w wr) (fun _ vk _ => L.length - (intOf vk).toNat)
  case atStart => exact ⟨0, Nat.zero_le _, rfl, World.ownsRow_nil _ _ _ _, Below.refl _ _⟩
  case round =>
    obtain ⟨q, hq, rfl, ho, hB⟩ := hrel
    have HO := hide ho
    have HB := hide hB
    have XA := HA.out.below hB
    clear ho hB
    by_cases hql : q < L.length
    case pos =>
      obtain ⟨ba', g, cap, e, h2, h3⟩ := XA
      simp only [Value.slice.injEq, true_and] at e
      obtain ⟨rfl, rfl⟩ := e
      obtain ⟨rfl, _⟩ := h2 (by omega)
      obtain ⟨l0, l1, l2, l3⟩ := h3 q hql
      clear h2 h3
      have LT : Hid (L.take (q + 1) = L.take q ++ [L[q]]) := List.take_succ_eq_append_getElem hql
      have hll : (L.take q).length ≤ 1048576 := by rw [List.length_take]; omega
      have hqi : (q : Int) < (L.length : Int) := by omega
      generalize L[q] = xx at *
      obtain ⟨hm1, hm2⟩ : (L.take q).length + 1 ≤ maxLen ∧ ((L.take q).length + 1) * 40 ≤ 140737488355328 := by unfold maxLen; omega
      have sz : Hid (w.heap.size ≤ wr.heap.size) := HB.out.size
      generalize L.take q = LLL at *
      clear hll
      go_wp2_with (at_builtin; refine wpList_append_own_at _ rfl _ _ 36 rfl w.heap.size 53 i0 _ 4 40 Try.underlying36 hi0 hz0 hz1 hz2 rfl (by decide) _ _ _ rfl (HO.out.alloc _) ⟨wr.heap.size, 0, none⟩ 1 1 (ltc [xx]) rfl rfl (lt_cells (heap_last wr _)) (ltc_one _) hm1 hm2 (by have := sz.out; simp; omega) ?_; intro v2 w2 o2 g2 n2 a2; clear n2 a2)
      go_roundw
      case rel => exact ⟨q + 1, by omega, by go_num, by rw [LT.out, List.length_append, ltc_append]; exact o2, (HB.out.alloc sz.out _).grown g2 (by have := sz.out; simp; omega) (fun j hj => (HO.out.lt j hj).1)⟩
      case measure => simp [intOf]; omega
    case neg =>
      obtain rfl : q = L.length := by omega
      clear XA
      go_wp2_with fail
      go_ret
      refine ⟨_, rfl, ?_, HB.out⟩
      have := HO.out
      rw [List.take_length] at this
      exact this
end Go.Proofs.Ytnphdbmacccblab
