import Derived.Test.YtnphdbmacccblabMrRef
namespace Go.Proofs.Ytnphdbmacccblab
open Go.RowKit
def rnd (o : Option Nat) : Int := match o with | none => -1 | some k => (k : Int)
/-- the place of the letter i, or -1 -/
def atI (A : AB) (i : Int) : Int := if i < 0 then -1 else rnd (plc A i.toNat)
theorem map_add (o : Option Nat) (a b : Nat) : (o.map (· + a)).map (· + b) = o.map (· + (a + b)) := by
  cases o <;> simp [Nat.add_assoc]
set_option maxHeartbeats 8000000 in
set_option maxRecDepth 100000 in
set_option linter.unusedSimpArgs false in
set_option linter.unusedVariables false in
theorem rat_any {w : World} {S : Nat → Prop} {Q : Nat} {vA vG vT : Value} {lim : Int} {A : AB} {T : TN} (h : RfX w S Q vA vG vT lim A T) (hA : A.length ≤ 1125899906842624) (i : Int) (hi : i < 9223372036854775808) :
    Calls Try.prog 46 #[.pointer (some ⟨Q, 0, none⟩), .int .i64 i] w fun e w' => e = .returned (.int .i64 (atI A i)) ∧ w = w' := by
  obtain ⟨ba, cap, rfl⟩ := own_sl h.pr.rA
  obtain ⟨bg, capg, rfl⟩ := own_sl h.pr.rG
  have c1 := h.c1
  have c2 := h.c2
  have HR := hide h
  clear h
  by_cases h0 : i < 0
  case pos =>
    have e1 : atI A i = -1 := by unfold atI; rw [if_pos h0]
    rw [e1]
    clear e1
    go_enter Try.func46, Try.ntmps46
    go_wp2_with fail
    go_ret
    exact ⟨rfl, rfl⟩
  obtain ⟨j0, rfl⟩ : ∃ j : Nat, i = (j : Int) := ⟨i.toNat, by omega⟩
  have e1 : atI A (j0 : Int) = rnd (plc A j0) := by unfold atI; rw [if_neg h0]; simp
  rw [e1]
  clear e1
  go_enter Try.func46, Try.ntmps46
  go_wp2_with fail
  go_loopw [1, 5] (fun vi vk wr => ∃ (q j : Nat), q ≤ A.length ∧ j ≤ j0 ∧ vk = .int .i64 (q : Int) ∧ vi = .int .i64 (j : Int) ∧ plc A j0 = (plc (A.drop q) j).map (· + q) ∧ w = wr) (fun _ vk _ => A.length - (intOf vk).toNat)
  case atStart => exact ⟨0, j0, Nat.zero_le _, Nat.le_refl _, rfl, rfl, by simp, rfl⟩
  case round =>
    obtain ⟨q, j, hq, hj, rfl, rfl, hp, rfl⟩ := hrel
    have HP := hide hp
    clear hp
    by_cases hql : q < A.length
    case pos =>
      obtain ⟨g, cap', hg⟩ := own_g HR.out.pr.rG (by omega)
      have hg2 : bg = some ⟨g, 0, none⟩ ∧ capg = cap' := by
        simp only [Value.slice.injEq, true_and] at hg
        exact hg
      obtain ⟨rfl, rfl⟩ := hg2
      clear hg
      have x0 := HR.out.pr.gn q hql
      have PD := hide (plc_drop (A := A) (i := j) hql)
      have hqi : (q : Int) < (A.length : Int) := by omega
      generalize A[q].2 = gg at *
      cases gg
      case true =>
        have HN : Hid (plc A j0 = (plc (A.drop (q + 1)) j).map (· + (q + 1))) := by
          have e := HP.out
          rw [PD.out, if_pos rfl, map_add, Nat.add_comm 1 q] at e
          exact e
        clear HP PD
        go_wp2_with fail
        go_roundw
        case rel => exact ⟨q + 1, j, by omega, hj, by go_num, rfl, HN.out, by first | rfl | trivial⟩
        case measure => simp [intOf]; omega
      case false =>
        by_cases hj0 : j = 0
        case pos =>
          subst hj0
          have HN : Hid (plc A j0 = some q) := by
            have e := HP.out
            rw [PD.out] at e
            have e2 : plc A j0 = some q := by simpa using e
            exact e2
          clear HP PD
          go_wp2_with fail
          go_ret
          exact ⟨by rw [HN.out]; rfl, rfl⟩
        case neg =>
          have HN : Hid (plc A j0 = (plc (A.drop (q + 1)) (j - 1)).map (· + (q + 1))) := by
            have e := HP.out
            rw [PD.out] at e
            obtain ⟨j', rfl⟩ : ∃ j', j = j' + 1 := ⟨j - 1, by omega⟩
            simp only [Bool.false_eq_true, if_false] at e
            rw [map_add, Nat.add_comm 1 q] at e
            exact e
          clear HP PD
          have hj1 : ((j : Int) == 0) = false := by simp; omega
          have hjw : wrap64 ((j : Int) - 1) = ((j - 1 : Nat) : Int) := by rw [wrap_in (by omega) (by omega)]; omega
          go_wp2_with fail
          go_roundw
          case rel => exact ⟨q + 1, j - 1, by omega, by omega, by go_num, by first | rfl | (rw [hjw]) | (simp; omega), HN.out, by first | rfl | trivial⟩
          case measure => simp [intOf]; omega
    case neg =>
      obtain rfl : q = A.length := by omega
      have HN : Hid (plc A j0 = none) := by
        have e := HP.out
        rw [List.drop_length] at e
        exact e
      clear HP
      go_wp2_with fail
      go_ret
      exact ⟨by rw [HN.out]; rfl, rfl⟩
end Go.Proofs.Ytnphdbmacccblab
