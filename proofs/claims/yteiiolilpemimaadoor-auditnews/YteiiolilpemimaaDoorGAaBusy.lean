import Derived.Test.YteiiolilpemimaaDoorGKbRange
namespace Go.Proofs.YteiiolilpemimaaDoor.Cn
open Go.RowKit
theorem ho_info : (Tryd.prog.info? 76).map (·.size) = some 5 := by kernel_rfl
set_option maxHeartbeats 8000000 in
set_option maxRecDepth 100000 in
set_option linter.unusedSimpArgs false in
set_option linter.unusedVariables false in
theorem none_a {w : World} {A H hc M : Nat} {v : Au} (h : AuAt w A H hc M v) (hn : 0 < v.hs.length) :
    Calls Tryd.prog 30 #[.pointer (some ⟨A, 0, none⟩)] w fun e w' => e = .returned (.bool false) ∧ w = w' := by
  obtain ⟨_, _, _, c3, _⟩ := h.cells
  have q0 : ((v.hs.length : Int) == 0) = false := by rw [beq_eq_false_iff_ne]; omega
  have q1 : (v.hs.length == 0) = false := by rw [beq_eq_false_iff_ne]; omega
  generalize v.hs.length = n at *
  clear h
  go_enter Tryd.func30, Tryd.ntmps30
  go_wp2_with fail
  go_ret
  exact ⟨rfl, rfl⟩
set_option maxHeartbeats 8000000 in
set_option maxRecDepth 100000 in
theorem none_nil (w : World) :
    Calls Tryd.prog 30 #[.pointer none] w fun e w' => e = .returned (.bool true) ∧ w = w' := by
  go_enter Tryd.func30, Tryd.ntmps30
  go_wp2_with fail
  go_ret
  exact ⟨rfl, rfl⟩
set_option maxHeartbeats 8000000 in
set_option maxRecDepth 100000 in
set_option linter.unusedSimpArgs false in
set_option linter.unusedVariables false in
theorem busy1_a (w : World) (k : Ho) :
    Calls Tryd.prog 35 #[.agg (hoV k)] w fun e w' => e = .returned (.bool (k.stt == 1)) ∧ Kp w w' non := by
  obtain ⟨B, hB⟩ : ∃ B, B = w.heap.size := ⟨_, rfl⟩
  obtain ⟨W0, hW0⟩ : ∃ W0, W0 = w.alloc (.cells (hoV k) 76) := ⟨_, rfl⟩
  have k0 : Hid (Kp w W0 non) := by rw [hW0]; exact (Kp.refl w non).alloc _
  have c0 : W0.cell? ⟨B, 1, none⟩ = some (.int .i64 k.stt) := by rw [hW0, hB, cell_row (heap_last w _)]; rfl
  go_enter Tryd.func35, Tryd.ntmps35
  go_upto_region 1 with fail
  rw [← hW0, ← hB]
  clear hW0 hB
  go_wp2_with fail
  go_ret
  exact ⟨rfl, k0.out⟩
def busyL (L : List Ho) : Bool := L.any fun h => h.stt == 1
set_option maxHeartbeats 8000000 in
set_option maxRecDepth 100000 in
set_option linter.unusedSimpArgs false in
set_option linter.unusedVariables false in
theorem idx_a {w : World} {A H hc M : Nat} {v : Au} (h : AuAt w A H hc M v) (hl : v.hs.length ≤ 1000) :
    Calls Tryd.prog 54 #[.slice (some ⟨H, 0, none⟩) v.hs.length hc, .func (.func 35) #[] #[]] w fun e w' => ∃ k : Int, e = .returned (.int .i64 k) ∧ decide (0 ≤ k) = busyL v.hs ∧ Kp w w' non := by
  have HA := hide h
  obtain ⟨n, hn⟩ : ∃ n, n = v.hs.length := ⟨_, rfl⟩
  have HN := hide hn
  rw [← hn] at hl ⊢
  clear hn h
  go_enter Tryd.func54, Tryd.ntmps54
  go_wp2_with fail
  go_loopw [8] (fun vi wr => ∃ i : Nat, i ≤ n ∧ vi = .int .i64 (i : Int) ∧ Hid (Kp w wr non ∧ busyL (v.hs.take i) = false)) (fun vi _ => n - (intOf vi).toNat)
  case atStart => exact ⟨0, Nat.zero_le _, rfl, Kp.refl _ _, rfl⟩
  case round =>
    obtain ⟨i, hi, rfl, HK⟩ := hrel
    by_cases hin : i < n
    case neg =>
      have hii : ¬ (i : Int) < (n : Int) := by omega
      have RES : Hid (decide (0 ≤ (-1 : Int)) = busyL v.hs ∧ Kp w wr non) := by
        refine ⟨?_, HK.out.1⟩
        have := HK.out.2
        rw [List.take_of_length_le (by rw [← HN.out]; omega)] at this
        rw [this]
        rfl
      go_wp2_with fail
      go_ret
      exact ⟨-1, rfl, RES.out.1, RES.out.2⟩
    case pos =>
      have hii : (i : Int) < (n : Int) := by omega
      have hiL : i < v.hs.length := by rw [← HN.out]; exact hin
      have aw := HA.out.kp0 HK.out.1
      have RG := hide (aw.range i hiL)
      obtain ⟨k, hk⟩ : ∃ k, k = v.hs[i] := ⟨_, rfl⟩
      have HB : Hid (busyL (v.hs.take (i + 1)) = (k.stt == 1)) := by
        show busyL _ = _
        rw [List.take_succ_eq_append_getElem hiL]
        unfold busyL
        rw [List.any_append]
        have := HK.out.2
        unfold busyL at this
        rw [this, hk]
        simp
      have HIN : Hid ((k.stt == 1) = true → busyL v.hs = true) := fun e => by
        unfold busyL
        rw [List.any_eq_true]
        exact ⟨k, by rw [hk]; exact List.getElem_mem hiL, e⟩
      rw [← hk] at RG
      clear hk aw
      have BU := hide fun X => busy1_a X k
      go_wp2_with (refine wpList_load_mid rfl 76 (.tmp 14) rfl H (i * 5) rfl (hoV k).toList _ RG.out Tryd.underlying76 rfl ho_info ?_)
      refine Calls.mono (BU.out _) ?_
      rintro e W1 ⟨rfl, k1⟩
      have K1 : Hid (Kp w W1 non) := HK.out.1.trans k1 (fun _ f => f.elim)
      clear k1
      cases hb : (k.stt == 1)
      · go_wp2_with fail
        go_roundw
        case rel => exact ⟨i + 1, by omega, by go_num, K1.out, by rw [HB.out, hb]⟩
        case measure => simp [intOf]; omega
      · go_wp2_with fail
        go_ret
        exact ⟨(i : Int), rfl, by rw [HIN.out hb]; simp, K1.out⟩
set_option maxHeartbeats 8000000 in
set_option maxRecDepth 100000 in
set_option linter.unusedSimpArgs false in
set_option linter.unusedVariables false in
theorem cont_a {w : World} {A H hc M : Nat} {v : Au} (h : AuAt w A H hc M v) (hl : v.hs.length ≤ 1000) :
    Calls Tryd.prog 34 #[.slice (some ⟨H, 0, none⟩) v.hs.length hc, .func (.func 35) #[] #[]] w fun e w' => e = .returned (.bool (busyL v.hs)) ∧ Kp w w' non := by
  have ID := hide (idx_a h hl)
  clear h
  generalize v.hs.length = n at *
  go_enter Tryd.func34, Tryd.ntmps34
  go_wp2_with fail
  refine Calls.mono ID.out ?_
  rintro e W1 ⟨k, rfl, h1, h2⟩
  have H1 := hide h1
  have H2 := hide h2
  clear h1 h2
  go_wp2_with fail
  go_ret
  exact ⟨by rw [← H1.out]; rfl, H2.out⟩
set_option maxHeartbeats 8000000 in
set_option maxRecDepth 100000 in
set_option linter.unusedSimpArgs false in
set_option linter.unusedVariables false in
theorem Busy_a {w : World} {A H hc M : Nat} {v : Au} (h : AuAt w A H hc M v) (hn : 0 < v.hs.length) (hl : v.hs.length ≤ 1000) :
    Calls Tryd.prog 12 #[.pointer (some ⟨A, 0, none⟩)] w fun e w' => e = .returned (.bool (busyL v.hs)) ∧ Kp w w' non := by
  have NO := hide (none_a h hn)
  have CO := hide (cont_a h hl)
  obtain ⟨_, _, _, c3, _⟩ := h.cells
  clear h
  generalize v.hs.length = n at *
  go_enter Tryd.func12, Tryd.ntmps12
  go_wp2_with (go_at_call 30; refine Calls.mono NO.out ?_; rintro e w' ⟨rfl, rfl⟩)
  refine Calls.mono CO.out ?_
  rintro e W1 ⟨rfl, k1⟩
  go_wp2_with fail
  go_ret
  exact ⟨rfl, k1⟩
set_option maxHeartbeats 8000000 in
set_option maxRecDepth 100000 in
theorem Busy_nil (w : World) :
    Calls Tryd.prog 12 #[.pointer none] w fun e w' => e = .returned (.bool false) ∧ w = w' := by
  have NO := hide (none_nil w)
  go_enter Tryd.func12, Tryd.ntmps12
  go_wp2_with (go_at_call 30; refine Calls.mono NO.out ?_; rintro e w' ⟨rfl, rfl⟩)
  go_ret
  exact ⟨rfl, rfl⟩
end Go.Proofs.YteiiolilpemimaaDoor.Cn
namespace Go.Proofs.YteiiolilpemimaaDoor.Cn
open Go.RowKit
/-- a question -/
def qM (v : Au) (q : Nat) (s : Sl) : Mg := ⟨13, 66, (q : Int), v.num, 0, (s.1 : Int), v.ver, 0, 0, ⟨#[]⟩, ⟨#[]⟩⟩
/-- it has been sent -/
def sentH (h : Ho) (now : Int) : Ho := { h with tm := h.tm + 1, ti := now }
def Au.sent (v : Au) (q : Nat) (h : Ho) : Au := { v with hs := v.hs.set q (sentH h v.now) }
theorem AuAt.slot {w : World} {A H hc M : Nat} {v : Au} (h : AuAt w A H hc M v) (q : Nat) (hq : q < v.hs.length) (p : Nat) (hp : p < v.hs[q].sl.length) : ∃ g sc, v.hs[q].sv = .slice (some ⟨g, 0, none⟩) v.hs[q].sl.length sc ∧ w.cell? ⟨g, p * 2, none⟩ = some (.int .i64 (v.hs[q].sl[p].1 : Int)) ∧ w.cell? ⟨g, p * 2 + 1, none⟩ = some (.int .i64 (v.hs[q].sl[p].2 : Int)) ∧ g < w.heap.size ∧ ¬ AuS A H M g := by
  have o := h.sl _ (List.getElem_mem hq)
  obtain ⟨e1, e2⟩ := sls_at v.hs[q].sl p hp
  obtain ⟨g, cap, hv, hc1, _⟩ := own_at o e1
  obtain ⟨g', cap', hv', hc2, _⟩ := own_at o e2
  have eq : g = g' := by
    rw [hv] at hv'
    simp at hv'
    exact hv'.1
  subst eq
  have hb : (v.hs[q].sv).ownBlock = some g := by rw [hv]; rfl
  exact ⟨g, cap, hv, hc1, hc2, own_lt o hb, own_off h o (by decide) (by decide) g hb⟩
set_option maxHeartbeats 8000000 in
set_option maxRecDepth 100000 in
set_option linter.unusedSimpArgs false in
set_option linter.unusedVariables false in
theorem send_a {w : World} {A H hc M : Nat} {v : Au} (h : AuAt w A H hc M v) (q : Nat) (hq : q < v.hs.length) (hp : v.hs[q].pl < v.hs[q].sl.length) (hl : v.hs.length ≤ 1000) (hlp : v.hs[q].sl.length ≤ 1000) (ht : 0 ≤ v.hs[q].tm ∧ v.hs[q].tm ≤ 1000000000000) :
    Calls Tryd.prog 42 #[.pointer (some ⟨A, 0, none⟩), .int .i64 (q : Int)] w fun e w' => e = .returned (.agg (mgV (qM v q v.hs[q].sl[v.hs[q].pl]))) ∧ AuAt w' A H hc M (v.sent q v.hs[q]) ∧ Kp w w' (AuS A H M) := by
  obtain ⟨B, hB⟩ : ∃ B, B = w.heap.size := ⟨_, rfl⟩
  obtain ⟨W0, hW0⟩ : ∃ W0, W0 = w.alloc (.cells (mgV mg0) 41) := ⟨_, rfl⟩
  have k0 : Kp w W0 non := by rw [hW0]; exact (Kp.refl w non).alloc _
  have m0 : W0.heap[B]? = some (.cells (mgV mg0) 41) := by rw [hW0, hB]; exact heap_last w _
  have h0 := h.kp0 k0
  have nB : ¬ AuS A H M B := h0.not m0 (by decide) (by decide)
  obtain ⟨W1, hW1⟩ : ∃ W1, W1 = W0.setCell ⟨H, q * 5 + 3, none⟩ (.int .i64 (v.hs[q].tm + 1)) := ⟨_, rfl⟩
  obtain ⟨W2, hW2⟩ : ∃ W2, W2 = W1.setCell ⟨H, q * 5 + 4, none⟩ (.int .i64 v.now) := ⟨_, rfl⟩
  obtain ⟨h1, k1⟩ := h0.setH q hq 3 (by omega) (.int .i64 (v.hs[q].tm + 1)) { v.hs[q] with tm := v.hs[q].tm + 1 } rfl rfl rfl
  rw [← hW1] at h1 k1
  have hq1 : q < (v.hs.set q { v.hs[q] with tm := v.hs[q].tm + 1 }).length := by rw [List.length_set]; exact hq
  have eg : (v.hs.set q { v.hs[q] with tm := v.hs[q].tm + 1 })[q] = { v.hs[q] with tm := v.hs[q].tm + 1 } := List.getElem_set_self _
  obtain ⟨h2, k2⟩ := h1.setH q hq1 4 (by omega) (.int .i64 v.now) (sentH v.hs[q] v.now) (by dsimp only; rw [eg]; rfl) (by dsimp only; rw [eg]; rfl) (by dsimp only; rw [eg]; rfl)
  rw [← hW2] at h2 k2
  have e2 : ({ v with hs := (v.hs.set q { v.hs[q] with tm := v.hs[q].tm + 1 }).set q (sentH v.hs[q] v.now) } : Au) = v.sent q v.hs[q] := by unfold Au.sent; rw [List.set_set]
  have h2' : AuAt W2 A H hc M (v.sent q v.hs[q]) := by rw [← e2]; exact h2
  have kk : Kp w W2 (AuS A H M) := (k0.mono (T := AuS A H M) (fun _ f => f.elim)).trans ((k1.mono (T := AuS A H M) (fun k e => Or.inr (Or.inl e))).trans (k2.mono (T := AuS A H M) (fun k e => Or.inr (Or.inl e))) (fun _ f => Or.inl f)) (fun _ f => Or.inl f)
  have m2 : W2.heap[B]? = some (.cells (mgV mg0) 41) := (k2.block _ (blk_lt ((k1.block _ (blk_lt m0) (fun e => nB (Or.inr (Or.inl e)))).trans m0)) (fun e => nB (Or.inr (Or.inl e)))).trans ((k1.block _ (blk_lt m0) (fun e => nB (Or.inr (Or.inl e)))).trans m0)
  obtain ⟨-, -, -, a3, a4, -⟩ := h0.cells
  obtain ⟨-, -, -, x3, -⟩ := h0.hcells q hq
  have hfz3 := h0.fzH (q * 5 + 3)
  have y4 : W1.cell? ⟨A, 4, none⟩ = some (.int .i64 v.now) := h1.cells.2.2.2.2.1
  have hfz4 := h1.fzH (q * 5 + 4)
  obtain ⟨z4, hz4⟩ : ∃ z, W1.cell? ⟨H, q * 5 + 4, none⟩ = some z := ⟨_, (h1.hcells q hq1).2.2.2.2⟩
  have hq2 : q < (v.sent q v.hs[q]).hs.length := by unfold Au.sent; rw [List.length_set]; exact hq
  have eg2 : (v.sent q v.hs[q]).hs[q] = sentH v.hs[q] v.now := List.getElem_set_self _
  obtain ⟨d0, -, d2, -⟩ := h2'.hcells q hq2
  obtain ⟨g, sc, hsv, hsl, -, -, -⟩ := h2'.slot q hq2 v.hs[q].pl (by rw [eg2]; exact hp)
  obtain ⟨-, -, -, -, -, c5, c6, -⟩ := h2'.cells
  rw [hsv] at d0
  simp only [eg2] at d0 d2 hsl
  have HF := hide h2'
  have HK := hide kk
  have M2 := hide m2
  have NB := hide nB
  have QM : Hid (qM v q v.hs[q].sl[v.hs[q].pl] = ⟨13, 66, (q : Int), v.num, 0, (v.hs[q].sl[v.hs[q].pl].1 : Int), v.ver, 0, 0, ⟨#[]⟩, ⟨#[]⟩⟩) := rfl
  rw [QM.out]
  have C0 : Hid (W2.cell? ⟨A, 5, none⟩ = some (.int .i64 v.num) ∧ W2.cell? ⟨H, q * 5, none⟩ = some (.slice (some ⟨g, 0, none⟩) v.hs[q].sl.length sc) ∧ W2.cell? ⟨H, q * 5 + 2, none⟩ = some (.int .i64 (v.hs[q].pl : Int)) ∧ W2.cell? ⟨g, v.hs[q].pl * 2, none⟩ = some (.int .i64 (v.hs[q].sl[v.hs[q].pl].1 : Int)) ∧ W2.cell? ⟨A, 6, none⟩ = some (.int .i64 v.ver)) := ⟨c5, d0, d2, hsl, c6⟩
  clear h h0 h1 h2 h2' k0 k1 k2 kk e2 eg m0 m2 nB c5 c6 d0 d2 hsl QM hsv hq1 hq2 eg2
  have hpi : ((v.hs[q].pl : Nat) : Int) < ((v.hs[q].sl.length : Nat) : Int) := by omega
  have hqi : ((q : Nat) : Int) < ((v.hs.length : Nat) : Int) := by omega
  have wt : IntKind.i64.wrap (v.hs[q].tm + 1) = v.hs[q].tm + 1 := i64_in (by omega) (by omega)
  clear ht
  generalize v.hs[q].sl[v.hs[q].pl].1 = pt0 at *
  obtain ⟨pt, hpt⟩ : ∃ pt : Int, pt = (pt0 : Int) := ⟨_, rfl⟩
  rw [← hpt] at C0 ⊢
  obtain ⟨sn, hsn⟩ : ∃ sn, sn = v.hs[q].sl.length := ⟨_, rfl⟩
  rw [← hsn] at C0 hpi
  obtain ⟨p, hpe⟩ : ∃ p, p = v.hs[q].pl := ⟨_, rfl⟩
  rw [← hpe] at C0 hpi
  obtain ⟨tm, htm⟩ : ∃ tm, tm = v.hs[q].tm := ⟨_, rfl⟩
  rw [← htm] at x3 wt hW1
  obtain ⟨nm, hnm⟩ : ∃ nm, nm = v.num := ⟨_, rfl⟩
  obtain ⟨vr, hvr⟩ : ∃ vr, vr = v.ver := ⟨_, rfl⟩
  rw [← hnm] at C0 ⊢
  rw [← hvr] at C0 ⊢
  obtain ⟨now, hnow⟩ : ∃ now, now = v.now := ⟨_, rfl⟩
  rw [← hnow] at a4 y4 hW2
  obtain ⟨n, hn⟩ : ∃ n, n = v.hs.length := ⟨_, rfl⟩
  rw [← hn] at a3 hqi hl
  clear hpt hpe htm hnm hvr hnow hn hlp hsn hp
  go_enter Tryd.func42, Tryd.ntmps42
  go_upto_region 1 with fail
  rw [show (#[.int .i64 0, .int .i64 0, .int .i64 0, .int .i64 0, .int .i64 0, .int .i64 0, .int .i64 0, .int .i64 0, .int .i64 0, .string ⟨#[]⟩, .string ⟨#[]⟩] : Array Value) = mgV mg0 from rfl]
  rw [← hW0, ← hB]
  clear hW0
  go_upto_region 3 with fail
  rw [← hW1]
  clear hW1 a4 a3 x3 hfz3
  go_upto_region 4 with fail
  rw [← hW2]
  clear hW2 y4 hfz4 hz4
  refine wp_region_held_drew (S := fun X => X.cell? ⟨A, 5, none⟩ = some (.int .i64 nm) ∧ X.cell? ⟨H, q * 5, none⟩ = some (.slice (some ⟨g, 0, none⟩) sn sc) ∧ X.cell? ⟨H, q * 5 + 2, none⟩ = some (.int .i64 (p : Int)) ∧ X.cell? ⟨g, p * 2, none⟩ = some (.int .i64 pt) ∧ X.cell? ⟨A, 6, none⟩ = some (.int .i64 vr)) (by kernel_rfl) C0.out (fun hHeld => ?_)
  refine wpAnyH_take (i := 0) (v := (.int .i64 (q : Int))) rfl (by kernel_rfl) (by kernel_rfl) (by kernel_rfl) (fun _ _ _ h => h) (Or.inl ⟨by kernel_rfl, ?_⟩) (by assumption) ?_
  · intro w' hSw
    (try dsimp only at hSw)
    go_simp
  (try simp only [Act.put, List.getElem_toArray, List.getElem_cons_zero, List.getElem_cons_succ, List.setIfInBounds_toArray, List.set_cons_zero, List.set_cons_succ])
  refine wpAnyH_take (i := 1) (v := (.pointer (some ⟨A, 0, none⟩))) rfl (by kernel_rfl) (by kernel_rfl) (by kernel_rfl) (fun _ _ _ h => h) (Or.inl ⟨by kernel_rfl, ?_⟩) (by assumption) ?_
  · intro w' hSw
    (try dsimp only at hSw)
    go_simp
  (try simp only [Act.put, List.getElem_toArray, List.getElem_cons_zero, List.getElem_cons_succ, List.setIfInBounds_toArray, List.set_cons_zero, List.set_cons_succ])
  refine wpAnyH_take (i := 2) (v := (.pointer (some ⟨A, 0, none⟩))) rfl (by kernel_rfl) (by kernel_rfl) (by kernel_rfl) (fun _ _ _ h => h) (Or.inl ⟨by kernel_rfl, ?_⟩) (by assumption) ?_
  · intro w' hSw
    (try dsimp only at hSw)
    go_simp
  (try simp only [Act.put, List.getElem_toArray, List.getElem_cons_zero, List.getElem_cons_succ, List.setIfInBounds_toArray, List.set_cons_zero, List.set_cons_succ])
  refine wpAnyH_take (i := 3) (v := (.pointer (some ⟨A, 5, none⟩))) rfl (by kernel_rfl) (by kernel_rfl) (by kernel_rfl) (fun _ _ _ h => h) (Or.inl ⟨by kernel_rfl, ?_⟩) (by assumption) ?_
  · intro w' hSw
    (try dsimp only at hSw)
    go_simp
  (try simp only [Act.put, List.getElem_toArray, List.getElem_cons_zero, List.getElem_cons_succ, List.setIfInBounds_toArray, List.set_cons_zero, List.set_cons_succ])
  refine wpAnyH_take (i := 4) (v := (.int .i64 nm)) rfl (by kernel_rfl) (by kernel_rfl) (by kernel_rfl) (fun _ _ _ h => h) (Or.inl ⟨by kernel_rfl, ?_⟩) (by assumption) ?_
  · intro w' hSw
    (try dsimp only at hSw)
    (have z := hSw.1; go_simp)
  (try simp only [Act.put, List.getElem_toArray, List.getElem_cons_zero, List.getElem_cons_succ, List.setIfInBounds_toArray, List.set_cons_zero, List.set_cons_succ])
  refine wpAnyH_take (i := 5) (v := (.pointer (some ⟨H, q * 5, none⟩))) rfl (by kernel_rfl) (by kernel_rfl) (by kernel_rfl) (fun _ _ _ h => h) (Or.inl ⟨by kernel_rfl, ?_⟩) (by assumption) ?_
  · intro w' hSw
    (try dsimp only at hSw)
    go_simp
  (try simp only [Act.put, List.getElem_toArray, List.getElem_cons_zero, List.getElem_cons_succ, List.setIfInBounds_toArray, List.set_cons_zero, List.set_cons_succ])
  refine wpAnyH_take (i := 6) (v := (.pointer (some ⟨H, q * 5, none⟩))) rfl (by kernel_rfl) (by kernel_rfl) (by kernel_rfl) (fun _ _ _ h => h) (Or.inl ⟨by kernel_rfl, ?_⟩) (by assumption) ?_
  · intro w' hSw
    (try dsimp only at hSw)
    go_simp
  (try simp only [Act.put, List.getElem_toArray, List.getElem_cons_zero, List.getElem_cons_succ, List.setIfInBounds_toArray, List.set_cons_zero, List.set_cons_succ])
  refine wpAnyH_take (i := 7) (v := (.pointer (some ⟨H, q * 5, none⟩))) rfl (by kernel_rfl) (by kernel_rfl) (by kernel_rfl) (fun _ _ _ h => h) (Or.inl ⟨by kernel_rfl, ?_⟩) (by assumption) ?_
  · intro w' hSw
    (try dsimp only at hSw)
    go_simp
  (try simp only [Act.put, List.getElem_toArray, List.getElem_cons_zero, List.getElem_cons_succ, List.setIfInBounds_toArray, List.set_cons_zero, List.set_cons_succ])
  refine wpAnyH_take (i := 8) (v := (.slice (some ⟨g, 0, none⟩) sn sc)) rfl (by kernel_rfl) (by kernel_rfl) (by kernel_rfl) (fun _ _ _ h => h) (Or.inl ⟨by kernel_rfl, ?_⟩) (by assumption) ?_
  · intro w' hSw
    (try dsimp only at hSw)
    (have z := hSw.2.1; go_simp)
  (try simp only [Act.put, List.getElem_toArray, List.getElem_cons_zero, List.getElem_cons_succ, List.setIfInBounds_toArray, List.set_cons_zero, List.set_cons_succ])
  refine wpAnyH_take (i := 9) (v := (.pointer (some ⟨H, q * 5, none⟩))) rfl (by kernel_rfl) (by kernel_rfl) (by kernel_rfl) (fun _ _ _ h => h) (Or.inl ⟨by kernel_rfl, ?_⟩) (by assumption) ?_
  · intro w' hSw
    (try dsimp only at hSw)
    go_simp
  (try simp only [Act.put, List.getElem_toArray, List.getElem_cons_zero, List.getElem_cons_succ, List.setIfInBounds_toArray, List.set_cons_zero, List.set_cons_succ])
  refine wpAnyH_take (i := 10) (v := (.pointer (some ⟨H, q * 5, none⟩))) rfl (by kernel_rfl) (by kernel_rfl) (by kernel_rfl) (fun _ _ _ h => h) (Or.inl ⟨by kernel_rfl, ?_⟩) (by assumption) ?_
  · intro w' hSw
    (try dsimp only at hSw)
    go_simp
  (try simp only [Act.put, List.getElem_toArray, List.getElem_cons_zero, List.getElem_cons_succ, List.setIfInBounds_toArray, List.set_cons_zero, List.set_cons_succ])
  refine wpAnyH_take (i := 11) (v := (.pointer (some ⟨H, q * 5 + 2, none⟩))) rfl (by kernel_rfl) (by kernel_rfl) (by kernel_rfl) (fun _ _ _ h => h) (Or.inl ⟨by kernel_rfl, ?_⟩) (by assumption) ?_
  · intro w' hSw
    (try dsimp only at hSw)
    go_simp
  (try simp only [Act.put, List.getElem_toArray, List.getElem_cons_zero, List.getElem_cons_succ, List.setIfInBounds_toArray, List.set_cons_zero, List.set_cons_succ])
  refine wpAnyH_take (i := 12) (v := (.int .i64 (p : Int))) rfl (by kernel_rfl) (by kernel_rfl) (by kernel_rfl) (fun _ _ _ h => h) (Or.inl ⟨by kernel_rfl, ?_⟩) (by assumption) ?_
  · intro w' hSw
    (try dsimp only at hSw)
    (have z := hSw.2.2.1; go_simp)
  (try simp only [Act.put, List.getElem_toArray, List.getElem_cons_zero, List.getElem_cons_succ, List.setIfInBounds_toArray, List.set_cons_zero, List.set_cons_succ])
  refine wpAnyH_take (i := 13) (v := (.pointer (some ⟨g, p * 2, none⟩))) rfl (by kernel_rfl) (by kernel_rfl) (by kernel_rfl) (fun _ _ _ h => h) (Or.inl ⟨by kernel_rfl, ?_⟩) (by assumption) ?_
  · intro w' hSw
    (try dsimp only at hSw)
    go_simp
  (try simp only [Act.put, List.getElem_toArray, List.getElem_cons_zero, List.getElem_cons_succ, List.setIfInBounds_toArray, List.set_cons_zero, List.set_cons_succ])
  refine wpAnyH_take (i := 14) (v := (.pointer (some ⟨g, p * 2, none⟩))) rfl (by kernel_rfl) (by kernel_rfl) (by kernel_rfl) (fun _ _ _ h => h) (Or.inl ⟨by kernel_rfl, ?_⟩) (by assumption) ?_
  · intro w' hSw
    (try dsimp only at hSw)
    go_simp
  (try simp only [Act.put, List.getElem_toArray, List.getElem_cons_zero, List.getElem_cons_succ, List.setIfInBounds_toArray, List.set_cons_zero, List.set_cons_succ])
  refine wpAnyH_take (i := 15) (v := (.int .i64 pt)) rfl (by kernel_rfl) (by kernel_rfl) (by kernel_rfl) (fun _ _ _ h => h) (Or.inl ⟨by kernel_rfl, ?_⟩) (by assumption) ?_
  · intro w' hSw
    (try dsimp only at hSw)
    (have z := hSw.2.2.2.1; go_simp)
  (try simp only [Act.put, List.getElem_toArray, List.getElem_cons_zero, List.getElem_cons_succ, List.setIfInBounds_toArray, List.set_cons_zero, List.set_cons_succ])
  refine wpAnyH_take (i := 16) (v := (.pointer (some ⟨A, 0, none⟩))) rfl (by kernel_rfl) (by kernel_rfl) (by kernel_rfl) (fun _ _ _ h => h) (Or.inl ⟨by kernel_rfl, ?_⟩) (by assumption) ?_
  · intro w' hSw
    (try dsimp only at hSw)
    go_simp
  (try simp only [Act.put, List.getElem_toArray, List.getElem_cons_zero, List.getElem_cons_succ, List.setIfInBounds_toArray, List.set_cons_zero, List.set_cons_succ])
  refine wpAnyH_take (i := 17) (v := (.pointer (some ⟨A, 0, none⟩))) rfl (by kernel_rfl) (by kernel_rfl) (by kernel_rfl) (fun _ _ _ h => h) (Or.inl ⟨by kernel_rfl, ?_⟩) (by assumption) ?_
  · intro w' hSw
    (try dsimp only at hSw)
    go_simp
  (try simp only [Act.put, List.getElem_toArray, List.getElem_cons_zero, List.getElem_cons_succ, List.setIfInBounds_toArray, List.set_cons_zero, List.set_cons_succ])
  refine wpAnyH_take (i := 18) (v := (.pointer (some ⟨A, 6, none⟩))) rfl (by kernel_rfl) (by kernel_rfl) (by kernel_rfl) (fun _ _ _ h => h) (Or.inl ⟨by kernel_rfl, ?_⟩) (by assumption) ?_
  · intro w' hSw
    (try dsimp only at hSw)
    go_simp
  (try simp only [Act.put, List.getElem_toArray, List.getElem_cons_zero, List.getElem_cons_succ, List.setIfInBounds_toArray, List.set_cons_zero, List.set_cons_succ])
  refine wpAnyH_take (i := 19) (v := (.int .i64 vr)) rfl (by kernel_rfl) (by kernel_rfl) (by kernel_rfl) (fun _ _ _ h => h) (Or.inl ⟨by kernel_rfl, ?_⟩) (by assumption) ?_
  · intro w' hSw
    (try dsimp only at hSw)
    (have z := hSw.2.2.2.2; go_simp)
  (try simp only [Act.put, List.getElem_toArray, List.getElem_cons_zero, List.getElem_cons_succ, List.setIfInBounds_toArray, List.set_cons_zero, List.set_cons_succ])
  refine wpAnyH_take (i := 20) (v := (.agg (mgV ⟨13, 66, (q : Int), nm, 0, pt, vr, 0, 0, ⟨#[]⟩, ⟨#[]⟩⟩))) rfl (by kernel_rfl) (by kernel_rfl) (by kernel_rfl) (fun _ _ _ h => h) (Or.inl ⟨by kernel_rfl, ?_⟩) (by assumption) ?_
  · intro w' hSw
    (try dsimp only at hSw)
    (exact exec_bl 41 #[(0, .const (.int .i64 13)), (1, .const (.int .i64 66)), (2, .tmp 26), (3, .tmp 30), (5, .tmp 41), (6, .tmp 45)] rfl _ (by kernel_rfl))
  (try simp only [Act.put, List.getElem_toArray, List.getElem_cons_zero, List.getElem_cons_succ, List.setIfInBounds_toArray, List.set_cons_zero, List.set_cons_succ])
  refine wpAnyH_ready (rs := [21]) (by kernel_rfl) (by simp) ?_
  refine AllReadyH.cons rfl (fun K hK => ?_) AllReadyH.nil
  refine wp_store_row 41 (.tmp 4) (.tmp 46) rfl B (mgV ⟨13, 66, (q : Int), nm, 0, pt, vr, 0, 0, ⟨#[]⟩, ⟨#[]⟩⟩) rfl rfl 41 (mgV mg0) M2.out mg_info rfl (mg_one _) ?_
  obtain ⟨W3, hW3⟩ : ∃ W3 : World, W3 = World.setRow W2.drew B (mgV ⟨13, 66, (q : Int), nm, 0, pt, vr, 0, 0, ⟨#[]⟩, ⟨#[]⟩⟩) := ⟨_, rfl⟩
  have k3 : Kp W2 W3 (fun k => k = B) := by rw [hW3]; exact ((Kp.refl W2 (fun k => k = B)).drew).row (Or.inl rfl) _
  have m3 : Hid (W3.heap[B]? = some (.cells (mgV ⟨13, 66, (q : Int), nm, 0, pt, vr, 0, 0, ⟨#[]⟩, ⟨#[]⟩⟩) 41)) := by rw [hW3]; exact setRow_heap _ _ _ _ _ _ M2.out
  have F3 : Hid (AuAt W3 A H hc M (v.sent q v.hs[q])) := HF.out.kp k3 (fun k hk e => by
    subst e
    rcases hk with hk | ⟨C, t, fr, hk, ht⟩
    · exact NB.out hk
    · have := M2.out.symm.trans hk
      simp at this
      rcases ht with rfl | rfl
      · exact absurd this.2.1 (by decide)
      · exact absurd this.2.1 (by decide))
  have K3 : Hid (Kp w W3 (AuS A H M)) := HK.out.trans k3 (fun k e => Or.inr (by rw [e, hB]; exact Nat.le_refl _))
  have C3 : Hid ((fun X => X.cell? ⟨A, 5, none⟩ = some (.int .i64 nm) ∧ X.cell? ⟨H, q * 5, none⟩ = some (.slice (some ⟨g, 0, none⟩) sn sc) ∧ X.cell? ⟨H, q * 5 + 2, none⟩ = some (.int .i64 (p : Int)) ∧ X.cell? ⟨g, p * 2, none⟩ = some (.int .i64 pt) ∧ X.cell? ⟨A, 6, none⟩ = some (.int .i64 vr)) W3) := by
    have ne : ∀ {b o : Nat} {x : Value}, W2.cell? ⟨b, o, none⟩ = some x → b ≠ B → W3.cell? ⟨b, o, none⟩ = some x := fun {b o x} hx hb => (k3.cell (World.block_lt_of_cell? W2 _ hx) hb).trans hx
    have nA : A ≠ B := fun e => NB.out (Or.inl e.symm)
    have nH : H ≠ B := fun e => NB.out (Or.inr (Or.inl e.symm))
    have ng : g ≠ B := fun e => by
      have z := C0.out.2.2.2.1
      rw [e, cell_row M2.out] at z
      have o := HF.out.sl _ (List.getElem_mem (l := (v.sent q v.hs[q]).hs) (n := q) (by unfold Au.sent; rw [List.length_set]; exact hq))
      have hd := HF.out.hcells q (by unfold Au.sent; rw [List.length_set]; exact hq)
      have hs := hd.1.symm.trans C0.out.2.1
      have hb : ((v.sent q v.hs[q]).hs[q]'(by unfold Au.sent; rw [List.length_set]; exact hq)).sv.ownBlock = some g := by rw [Option.some.inj hs]; rfl
      obtain ⟨cur, hcu⟩ := own_typ o hb
      rw [e, M2.out] at hcu
      simp at hcu
    exact ⟨ne C0.out.1 nA, ne C0.out.2.1 nH, ne C0.out.2.2.1 nH, ne C0.out.2.2.2.1 ng, ne C0.out.2.2.2.2 nA⟩
  rw [← hW3]
  clear hW3 k3 hHeld
  refine hK.out _ _ (C3.out) (fun hHeld => ?_)
  clear hK
  (try simp only [Act.put, List.setIfInBounds_toArray, List.set_cons_zero, List.set_cons_succ])
  refine wpAnyH_done (by kernel_rfl) ?_ _
  clear C3 C0
  go_wp2_with fail
  refine bodyPost_ret (v := .agg (mgV ⟨13, 66, (q : Int), nm, 0, pt, vr, 0, 0, ⟨#[]⟩, ⟨#[]⟩⟩)) (res_row1 Tryd.results42 _ _ _ B rfl _ m3.out Tryd.underlying41 mg_info) rfl ⟨rfl, F3.out, K3.out⟩
end Go.Proofs.YteiiolilpemimaaDoor.Cn
namespace Go.Proofs.YteiiolilpemimaaDoor.Cn
open Go.RowKit
/-- it is asked for the slot at p, now -/
def askH (h : Ho) (p : Nat) (now : Int) : Ho := { h with stt := 1, pl := p, tm := 1, ti := now }
theorem send_b {w : World} {A H hc M : Nat} {v : Au} (h : AuAt w A H hc M v) (q : Nat) (hq : q < v.hs.length) (k : Ho) (hk : v.hs[q] = k) (s : Sl) (hs : k.sl[k.pl]? = some s) (hl : v.hs.length ≤ 1000) (hlp : k.sl.length ≤ 1000) (ht : 0 ≤ k.tm ∧ k.tm ≤ 1000000000000) :
    Calls Tryd.prog 42 #[.pointer (some ⟨A, 0, none⟩), .int .i64 (q : Int)] w fun e w' => e = .returned (.agg (mgV (qM v q s))) ∧ AuAt w' A H hc M (v.sent q k) ∧ Kp w w' (AuS A H M) := by
  subst hk
  obtain ⟨hp, e⟩ := List.getElem?_eq_some_iff.1 hs
  have := send_a h q hq hp hl hlp ht
  rw [e] at this
  exact this
def Au.ask (v : Au) (q : Nat) (h : Ho) (p : Nat) : Au := { v with hs := v.hs.set q (askH h p v.now) }
theorem AuAt.setH3 {w : World} {A H hc M : Nat} {v : Au} (h : AuAt w A H hc M v) (q : Nat) (hq : q < v.hs.length) (p : Nat) :
    AuAt (((w.setCell ⟨H, q * 5 + 1, none⟩ (.int .i64 1)).setCell ⟨H, q * 5 + 2, none⟩ (.int .i64 (p : Int))).setCell ⟨H, q * 5 + 3, none⟩ (.int .i64 0)) A H hc M { v with hs := v.hs.set q { v.hs[q] with stt := 1, pl := p, tm := 0 } } ∧ Kp w (((w.setCell ⟨H, q * 5 + 1, none⟩ (.int .i64 1)).setCell ⟨H, q * 5 + 2, none⟩ (.int .i64 (p : Int))).setCell ⟨H, q * 5 + 3, none⟩ (.int .i64 0)) (fun b => b = H) := by
  obtain ⟨h1, k1⟩ := h.setH q hq 1 (by omega) (.int .i64 1) { v.hs[q] with stt := 1 } rfl rfl rfl
  have q1 : q < (v.hs.set q { v.hs[q] with stt := 1 }).length := by rw [List.length_set]; exact hq
  have e1 : (v.hs.set q { v.hs[q] with stt := 1 })[q] = { v.hs[q] with stt := 1 } := List.getElem_set_self _
  obtain ⟨h2, k2⟩ := h1.setH q q1 2 (by omega) (.int .i64 (p : Int)) { v.hs[q] with stt := 1, pl := p } (by dsimp only; rw [e1]; rfl) (by dsimp only; rw [e1]) (by dsimp only; rw [e1])
  rw [show ({ ({ v with hs := v.hs.set q { v.hs[q] with stt := 1 } } : Au) with hs := ({ v with hs := v.hs.set q { v.hs[q] with stt := 1 } } : Au).hs.set q { v.hs[q] with stt := 1, pl := p } } : Au) = { v with hs := v.hs.set q { v.hs[q] with stt := 1, pl := p } } by dsimp only; rw [List.set_set]] at h2
  have q2 : q < (v.hs.set q { v.hs[q] with stt := 1, pl := p }).length := by rw [List.length_set]; exact hq
  have e2 : (v.hs.set q { v.hs[q] with stt := 1, pl := p })[q] = { v.hs[q] with stt := 1, pl := p } := List.getElem_set_self _
  obtain ⟨h3, k3⟩ := h2.setH q q2 3 (by omega) (.int .i64 0) { v.hs[q] with stt := 1, pl := p, tm := 0 } (by dsimp only; rw [e2]; rfl) (by dsimp only; rw [e2]) (by dsimp only; rw [e2])
  rw [show ({ ({ v with hs := v.hs.set q { v.hs[q] with stt := 1, pl := p } } : Au) with hs := ({ v with hs := v.hs.set q { v.hs[q] with stt := 1, pl := p } } : Au).hs.set q { v.hs[q] with stt := 1, pl := p, tm := 0 } } : Au) = { v with hs := v.hs.set q { v.hs[q] with stt := 1, pl := p, tm := 0 } } by dsimp only; rw [List.set_set]] at h3
  exact ⟨h3, (k1.trans k2 (fun _ e => Or.inl e)).trans k3 (fun _ e => Or.inl e)⟩
set_option maxHeartbeats 8000000 in
set_option maxRecDepth 100000 in
set_option linter.unusedSimpArgs false in
set_option linter.unusedVariables false in
theorem ask_a {w : World} {A H hc M : Nat} {v : Au} (h : AuAt w A H hc M v) (q : Nat) (hq : q < v.hs.length) (p : Nat) (hp : p < v.hs[q].sl.length) (hl : v.hs.length ≤ 1000) (hlp : v.hs[q].sl.length ≤ 1000) :
    Calls Tryd.prog 32 #[.pointer (some ⟨A, 0, none⟩), .int .i64 (q : Int), .int .i64 (p : Int)] w fun e w' => e = .returned (.agg (mgV (qM v q v.hs[q].sl[p]))) ∧ AuAt w' A H hc M (v.ask q v.hs[q] p) ∧ Kp w w' (AuS A H M) := by
  obtain ⟨B, hB⟩ : ∃ B, B = w.heap.size := ⟨_, rfl⟩
  obtain ⟨W0, hW0⟩ : ∃ W0, W0 = w.alloc (.cells (mgV mg0) 41) := ⟨_, rfl⟩
  have k0 : Kp w W0 non := by rw [hW0]; exact (Kp.refl w non).alloc _
  have m0 : W0.heap[B]? = some (.cells (mgV mg0) 41) := by rw [hW0, hB]; exact heap_last w _
  have h0 := h.kp0 k0
  have nB : ¬ AuS A H M B := h0.not m0 (by decide) (by decide)
  obtain ⟨W1, hW1⟩ : ∃ W1, W1 = ((W0.setCell ⟨H, q * 5 + 1, none⟩ (.int .i64 1)).setCell ⟨H, q * 5 + 2, none⟩ (.int .i64 (p : Int))).setCell ⟨H, q * 5 + 3, none⟩ (.int .i64 0) := ⟨_, rfl⟩
  obtain ⟨h1, k1⟩ := h0.setH3 q hq p
  rw [← hW1] at h1 k1
  have q1 : q < (v.hs.set q { v.hs[q] with stt := 1, pl := p, tm := 0 }).length := by rw [List.length_set]; exact hq
  have e1 : (v.hs.set q { v.hs[q] with stt := 1, pl := p, tm := 0 })[q] = { v.hs[q] with stt := 1, pl := p, tm := 0 } := List.getElem_set_self _
  have ea : Au.sent { v with hs := v.hs.set q { v.hs[q] with stt := 1, pl := p, tm := 0 } } q { v.hs[q] with stt := 1, pl := p, tm := 0 } = v.ask q v.hs[q] p := by
    unfold Au.sent Au.ask
    dsimp only
    rw [List.set_set]
    rfl
  have sd := send_b h1 q q1 { v.hs[q] with stt := 1, pl := p, tm := 0 } e1 v.hs[q].sl[p] (List.getElem?_eq_getElem hp) (by dsimp only; rw [List.length_set]; exact hl) hlp (by dsimp only; omega)
  rw [ea] at sd
  have em : qM { v with hs := v.hs.set q { v.hs[q] with stt := 1, pl := p, tm := 0 } } q v.hs[q].sl[p] = qM v q v.hs[q].sl[p] := rfl
  rw [em] at sd
  have SD := hide sd
  have KK : Hid (Kp w W1 (AuS A H M)) := (k0.mono (T := AuS A H M) (fun _ f => f.elim)).trans (k1.mono (T := AuS A H M) (fun k e => Or.inr (Or.inl e))) (fun _ f => Or.inl f)
  have M1 : Hid (W1.heap[B]? = some (.cells (mgV mg0) 41)) := (k1.block _ (blk_lt m0) (fun e => nB (Or.inr (Or.inl e)))).trans m0
  have NB := hide nB
  obtain ⟨-, -, -, a3, -⟩ := h0.cells
  obtain ⟨-, x1, x2, x3, -⟩ := h0.hcells q hq
  have f1 := h0.fzH (q * 5 + 1)
  have f2 := h0.fzH (q * 5 + 2)
  have f3 := h0.fzH (q * 5 + 3)
  have hqi : ((q : Nat) : Int) < ((v.hs.length : Nat) : Int) := by omega
  clear h h0 h1 k0 k1 q1 e1 sd em ea m0 nB hlp
  obtain ⟨mm, hmm⟩ : ∃ mm, mm = qM v q v.hs[q].sl[p] := ⟨_, rfl⟩
  obtain ⟨va, hva⟩ : ∃ va, va = v.ask q v.hs[q] p := ⟨_, rfl⟩
  rw [← hmm, ← hva] at SD ⊢
  generalize v.hs[q].stt = s1 at *
  generalize v.hs[q].pl = s2 at *
  generalize v.hs[q].tm = s3 at *
  clear hmm hva hp hq
  generalize v.hs.length = n at *
  go_enter Tryd.func32, Tryd.ntmps32
  go_upto_region 1 with fail
  rw [show (#[.int .i64 0, .int .i64 0, .int .i64 0, .int .i64 0, .int .i64 0, .int .i64 0, .int .i64 0, .int .i64 0, .int .i64 0, .string ⟨#[]⟩, .string ⟨#[]⟩] : Array Value) = mgV mg0 from rfl]
  rw [← hW0, ← hB]
  have HB := hide hB
  clear hW0 hB
  go_upto_region 3 with fail
  rw [← hW1]
  clear hW1 a3 x1 x2 x3 f1 f2 f3
  go_wp2_with fail
  refine Calls.mono SD.out ?_
  rintro e W2 ⟨rfl, a2, k2⟩
  have m2 : W2.heap[B]? = some (.cells (mgV mg0) 41) := (k2.block _ (blk_lt M1.out) NB.out).trans M1.out
  have k3 : Kp W2 (W2.setRow B (mgV mm)) (fun k => k = B) := (Kp.refl W2 (fun k => k = B)).row (Or.inl rfl) _
  have F3 : Hid (AuAt (W2.setRow B (mgV mm)) A H hc M va) := a2.kp k3 (fun k hk e => by
    subst e
    rcases hk with hk | ⟨C, t, fr, hk, ht⟩
    · exact NB.out hk
    · have := m2.symm.trans hk
      simp at this
      rcases ht with rfl | rfl
      · exact absurd this.2.1 (by decide)
      · exact absurd this.2.1 (by decide))
  have K3 : Hid (Kp w (W2.setRow B (mgV mm)) (AuS A H M)) := (KK.out.trans k2 (fun _ f => Or.inl f)).trans k3 (fun k e => Or.inr (by rw [e, HB.out]; exact Nat.le_refl _))
  have M2 := hide m2
  clear a2 k2 m2 k3
  go_wp2_with (refine wpList_stR rfl 41 (.tmp 6) (.tmp 26) rfl B rfl (mgV mm) _ rfl _ M2.out mg_info rfl (mg_one _) ?_)
  refine bodyPost_ret (v := .agg (mgV mm)) (res_row1 Tryd.results32 _ _ _ B rfl _ (setRow_heap _ _ _ _ _ _ M2.out) Tryd.underlying41 mg_info) rfl ⟨rfl, F3.out, K3.out⟩
end Go.Proofs.YteiiolilpemimaaDoor.Cn
