import Derived.Test.YtjibhdcnibgegaaRzAmong
namespace Go.Proofs.Ytjibhdcnibgegaa
open Go.RowKit
set_option maxHeartbeats 1000000 in
set_option maxRecDepth 100000 in
set_option linter.unusedSimpArgs false in
/-- the document's Lookup -/
theorem rlookup_any (m : Int) (x d h k : ByteArray) (hx : x.size ≤ 1048576) (hd : d.size ≤ 1048576) (_ : h.size ≤ 1099511627776) (hkk : k.size ≤ 1099511627776) (w : World) :
    Calls Try.prog 28 #[.int .i64 m, .agg #[.string x, .string d], .string h, .string k] w fun e w' => e = .returned (lkA m x d h k) ∧ Below w.heap.size w w' := by
  obtain ⟨W0, hW0⟩ : ∃ W0, W0 = w.alloc (.cells #[.string x, .string d] 52) := ⟨_, rfl⟩
  have s0 : W0.heap.size = w.heap.size + 1 := by rw [hW0]; simp
  have b0 : Below w.heap.size w W0 := by rw [hW0]; exact (Below.refl _ w).alloc (Nat.le_refl _) _
  have HB0 := hide b0
  have C1 := hide (rdecode_any m x d hx hd W0)
  obtain ⟨hs1, _⟩ := dcG_small m x d
  clear b0
  by_cases hE : dcE m x d = 0
  · obtain ⟨hr, he⟩ := dcG_rise hE
    have HR := hide hr
    have HE := hide he
    clear hr he
    by_cases hm : (h.size : Int) = m
    · have hmb : ((h.size : Int) != m) = false := by rw [hm]; simp
      by_cases hky : 1 ≤ k.size ∧ k.size ≤ 255
      · have HA := hide (lk_ok (m := m) (x := x) (d := d) (h := h) (k := k) (by unfold lkE; rw [if_pos hE, if_pos hm, if_pos hky]))
        have hk1 : k.toList.isEmpty = false := by rw [emptyS]; exact decide_eq_false (by omega)
        have hk3 : ¬ k.toList = [] := fun e => by rw [e] at hk1; cases hk1
        have hk2 : ¬ (255 : Int) < (k.size : Int) := by omega
        rw [hE] at C1
        generalize dcG m x d = G at *
        clear hm hky hE
        go_enter Try.func28, Try.ntmps28
        go_wp2_with fail
        rw [← hW0]
        refine Calls.mono C1.out ?_
        rintro e w1 ⟨v1, rfl, o1, hb1⟩
        have AM := hide (among_any v1 _ G h k w1 o1 HR.out HE.out (by omega))
        have HB1 := hide (HB0.out.trans (hb1.mono (by omega)))
        have s1 := hb1.size
        generalize (lkV G h k).getD ⟨#[]⟩ = LV at *
        generalize (lkV G h k).isSome = LB at *
        clear o1 hb1 hW0
        go_wp2_with fail
        refine Calls.mono AM.out ?_
        rintro e w2 ⟨rfl, hb2⟩
        have HB2 := hide (HB1.out.trans (hb2.mono (by omega)))
        clear hb2
        go_wp2_with fail
        go_ret3
        exact ⟨by rw [HA.out]; rfl, HB2.out⟩
      · have HA := hide (lk_err (m := m) (x := x) (d := d) (h := h) (k := k) (E := 32) (by unfold lkE; rw [if_pos hE, if_pos hm, if_neg hky]) (by omega))
        rw [hE] at C1
        by_cases hz : k.size = 0
        · have hk1 : k.toList.isEmpty = true := by rw [emptyS]; exact decide_eq_true hz
          have hk3 : k.toList = [] := List.isEmpty_iff.1 hk1
          clear hm hky hE hz
          go_enter Try.func28, Try.ntmps28
          go_wp2_with fail
          rw [← hW0]
          refine Calls.mono C1.out ?_
          rintro e w1 ⟨v1, rfl, o1, hb1⟩
          have HB1 := hide (HB0.out.trans (hb1.mono (by omega)))
          clear o1 hb1 hW0
          go_wp2_with fail
          go_ret3
          exact ⟨by rw [HA.out]; rfl, HB1.out⟩
        · have hk1 : k.toList.isEmpty = false := by rw [emptyS]; exact decide_eq_false hz
          have hk3 : ¬ k.toList = [] := fun e => by rw [e] at hk1; cases hk1
          have hk2 : (255 : Int) < (k.size : Int) := by omega
          clear hm hky hE hz
          go_enter Try.func28, Try.ntmps28
          go_wp2_with fail
          rw [← hW0]
          refine Calls.mono C1.out ?_
          rintro e w1 ⟨v1, rfl, o1, hb1⟩
          have HB1 := hide (HB0.out.trans (hb1.mono (by omega)))
          clear o1 hb1 hW0
          go_wp2_with fail
          go_ret3
          exact ⟨by rw [HA.out]; rfl, HB1.out⟩
    · have hmb : ((h.size : Int) != m) = true := by simpa using hm
      have HA := hide (lk_err (m := m) (x := x) (d := d) (h := h) (k := k) (E := 34) (by unfold lkE; rw [if_pos hE, if_neg hm]) (by omega))
      rw [hE] at C1
      clear hm hE
      go_enter Try.func28, Try.ntmps28
      go_wp2_with fail
      rw [← hW0]
      refine Calls.mono C1.out ?_
      rintro e w1 ⟨v1, rfl, o1, hb1⟩
      have HB1 := hide (HB0.out.trans (hb1.mono (by omega)))
      clear o1 hb1 hW0
      go_wp2_with fail
      go_ret3
      exact ⟨by rw [HA.out]; rfl, HB1.out⟩
  · have HA := hide (lk_err (m := m) (x := x) (d := d) (h := h) (k := k) (E := dcE m x d) (by unfold lkE; rw [if_neg hE]) hE)
    generalize dcE m x d = E at *
    have hEb : (E != 0) = true := by simpa using hE
    have hEc : (E == 0) = false := by simpa using hE
    clear hE
    go_enter Try.func28, Try.ntmps28
    go_wp2_with fail
    rw [← hW0]
    refine Calls.mono C1.out ?_
    rintro e w1 ⟨v1, rfl, o1, hb1⟩
    have HB1 := hide (HB0.out.trans (hb1.mono (by omega)))
    clear o1 hb1 hW0
    go_wp2_with fail
    go_ret3
    exact ⟨by rw [HA.out]; rfl, HB1.out⟩
end Go.Proofs.Ytjibhdcnibgegaa
