import Derived.Test.YtjibhdcnibgegaaRzLook
namespace Go.Proofs.Ytjibhdcnibgegaa
open Go.RowKit
set_option maxHeartbeats 1000000 in
set_option maxRecDepth 100000 in
set_option linter.unusedSimpArgs false in
/-- Lookup -/
theorem lookup_any (m : Int) (x d h k : ByteArray) (hx : x.size ≤ 1048576) (hd : d.size ≤ 1048576) (_ : h.size ≤ 1099511627776) (_ : k.size ≤ 1099511627776) (w : World) :
    Calls Try.prog 27 #[.int .i64 m, .agg #[.string x, .string d], .string h, .string k] w fun e w' => e = .returned (lkA m x d h k) ∧ Below w.heap.size w w' := by
  obtain ⟨W0, hW0⟩ : ∃ W0, W0 = w.alloc (.cells #[.string x, .string d] 52) := ⟨_, rfl⟩
  have s0 : W0.heap.size = w.heap.size + 1 := by rw [hW0]; simp
  have b0 : Below w.heap.size w W0 := by rw [hW0]; exact (Below.refl _ w).alloc (Nat.le_refl _) _
  have HB0 := hide b0
  have C1 := hide (decode_any m x d (by omega) (by omega) W0)
  obtain ⟨hs1, _⟩ := dcG_small m x d
  clear b0
  by_cases hE : dcE m x d = 0
  · obtain ⟨hr, he⟩ := dcG_rise hE
    have HR := hide hr
    have HE := hide he
    clear hr he
    by_cases hm : (h.size : Int) = m
    · have hmb : ((h.size : Int) != m) = false := by rw [hm]; simp
      have KEY := hide (fun w' => isKey_any k w')
      by_cases hky : 1 ≤ k.size ∧ k.size ≤ 255
      · have HA := hide (lk_ok (m := m) (x := x) (d := d) (h := h) (k := k) (by unfold lkE; rw [if_pos hE, if_pos hm, if_pos hky]))
        rw [decide_eq_true hky] at KEY
        rw [hE] at C1
        generalize dcG m x d = G at *
        clear hm hky hE
        go_enter Try.func27, Try.ntmps27
        go_wp2_with fail
        rw [← hW0]
        refine Calls.mono C1.out ?_
        rintro e w1 ⟨v1, rfl, o1, hb1⟩
        obtain ⟨qs, ao, g, cap, hql, hv, q1, q2, q3, q4⟩ := o1.quads
        obtain ⟨hrq, X, ps, po, pb, pcap, hgv, p1, p2, p3, p4, p5, p6⟩ := found_group (h := h) (k := k) HR.out HE.out hql q4
        have FG := hide (fun w' (hw : Below w1.heap.size w1 w') => findG_any ao g 0 cap qs h w' q1 (fun z => Nat.lt_of_lt_of_le (q2 z) hw.size) (fun i hi => (q3.below (q2 (by omega)) hw) i hi) (by omega) hrq)
        have FP := hide (fun w' (hw : Below w1.heap.size w1 w') => findP_any po pb 0 pcap ps k w' p1 (fun z => Nat.lt_of_lt_of_le (p2 z) hw.size) (fun i hi => (p3.below (p2 (by omega)) hw) i hi) (by omega) p5)
        rw [hgv, hql] at FG
        rw [hql] at hv
        subst hv
        rw [p6] at HA
        have HB1 := hide (HB0.out.trans (hb1.mono (by omega)))
        have s1 := hb1.size
        clear o1 hb1 hW0 q1 q2 q3 q4 hrq hgv p1 p2 p3 p5 p6
        generalize grpForB qs h = GB at *
        clear hql
        generalize G.length = QN at *
        go_wp2_with fail
        refine Calls.mono (KEY.out _) ?_
        rintro e w2 ⟨rfl, rfl⟩
        go_wp2_with fail
        refine Calls.mono (FG.out _ (Below.refl _ _)) ?_
        rintro e w3 ⟨rfl, hb3⟩
        have HB3 := hide hb3
        have s3 := hb3.size
        clear hb3
        go_wp2_with fail
        refine Calls.mono (FP.out _ (HB3.out.alloc (by omega) _)) ?_
        rintro e w4 ⟨rfl, hb4⟩
        have HB4 := hide (HB1.out.trans (((HB3.out.alloc (by omega) (.cells #[.string X, .slice po ps.length pcap] 88)).trans (hb4.mono (by simp; omega))).mono (by omega)))
        clear hb4
        cases hpf : pairFor ps k with
        | none =>
          have e1 : pairForV ps k = .agg #[.string ⟨#[]⟩, .string ⟨#[]⟩] := by unfold pairForV; rw [hpf]
          have e2 : pairForB ps k = false := by unfold pairForB; rw [hpf]; rfl
          rw [hpf] at HA
          rw [e1, e2]
          clear e1 e2 hpf
          go_wp2_with fail
          go_ret3
          exact ⟨by rw [HA.out]; rfl, HB4.out.alloc (Nat.le_trans (Nat.le_refl _) HB4.out.size) _⟩
        | some p =>
          obtain ⟨p1, p2⟩ := p
          have e1 : pairForV ps k = .agg #[.string p1, .string p2] := by unfold pairForV; rw [hpf]
          have e2 : pairForB ps k = true := by unfold pairForB; rw [hpf]; rfl
          rw [hpf] at HA
          rw [e1, e2]
          clear e1 e2 hpf
          go_wp2_with fail
          go_ret3
          exact ⟨by rw [HA.out]; rfl, HB4.out.alloc (Nat.le_trans (Nat.le_refl _) HB4.out.size) _⟩
      · have HA := hide (lk_err (m := m) (x := x) (d := d) (h := h) (k := k) (E := 32) (by unfold lkE; rw [if_pos hE, if_pos hm, if_neg hky]) (by omega))
        rw [decide_eq_false hky] at KEY
        rw [hE] at C1
        clear hm hky hE
        go_enter Try.func27, Try.ntmps27
        go_wp2_with fail
        rw [← hW0]
        refine Calls.mono C1.out ?_
        rintro e w1 ⟨v1, rfl, o1, hb1⟩
        have HB1 := hide (HB0.out.trans (hb1.mono (by omega)))
        clear o1 hb1 hW0
        go_wp2_with fail
        refine Calls.mono (KEY.out _) ?_
        rintro e w2 ⟨rfl, rfl⟩
        go_wp2_with fail
        go_ret3
        exact ⟨by rw [HA.out]; rfl, HB1.out⟩
    · have hmb : ((h.size : Int) != m) = true := by simpa using hm
      have HA := hide (lk_err (m := m) (x := x) (d := d) (h := h) (k := k) (E := 34) (by unfold lkE; rw [if_pos hE, if_neg hm]) (by omega))
      rw [hE] at C1
      clear hm hE
      go_enter Try.func27, Try.ntmps27
      go_wp2_with fail
      rw [← hW0]
      refine Calls.mono C1.out ?_
      rintro e w1 ⟨v1, rfl, o1, hb1⟩
      have HB1 := hide (HB0.out.trans (hb1.mono (by omega)))
      clear o1 hb1 hW0
      go_wp2_with fail
      go_ret3
      exact ⟨by rw [HA.out]; rfl, HB1.out⟩
  · have HA := hide (lk_err (m := m) (x := x) (d := d) (h := h) (k := k) (E := dcE m x d) (by unfold lkE; rw [if_neg hE]) hE)
    generalize dcE m x d = E at *
    have hEb : (E != 0) = true := by simpa using hE
    have hEc : (E == 0) = false := by simpa using hE
    clear hE
    go_enter Try.func27, Try.ntmps27
    go_wp2_with fail
    rw [← hW0]
    refine Calls.mono C1.out ?_
    rintro e w1 ⟨v1, rfl, o1, hb1⟩
    have HB1 := hide (HB0.out.trans (hb1.mono (by omega)))
    clear o1 hb1 hW0
    go_wp2_with fail
    go_ret3
    exact ⟨by rw [HA.out]; rfl, HB1.out⟩
end Go.Proofs.Ytjibhdcnibgegaa
