import Derived.Test.YteiiolilpemimaaDoorAaRep
namespace Go.Proofs.YteiiolilpemimaaDoor.Cn
open Go.RowKit
theorem kp_setCells (b : Nat) : ∀ (vs : List Value) (o : Nat) (w : World), Kp w (w.setCells b o vs) (fun k => k = b)
  | [], _, w => Kp.refl w _
  | v :: r, o, w => ((Kp.refl w (fun k => k = b)).set (Or.inl rfl) o v).trans (kp_setCells b r (o + 1) _) (fun _ e => Or.inl e)
def Au.put (v : Au) (q : Nat) (h : Ho) (s : Int) : Au := { v with hs := v.hs.set q { h with stt := s } }
/-- what the audit came to -/
def Au.done (v : Au) (DL : List Int) (dv mv : Value) : Au := { v with told := [], jb := v.num, jv := v.ver, jo := outO DL.length (misL v).length, dl := DL, ml := misL v, dv := dv, mv := mv }
def Left (n : Nat) (v v' : Au) : Prop := (busyL v.hs = true ∧ v' = v) ∨ (busyL v.hs = false ∧ ∃ DL dv mv, DfL v.told n DL ∧ v' = v.done DL dv mv)
theorem there13 (v : Au) (H hc M : Nat) (j : Nat) (h : j < 5) : ((auA v H hc M)[8 + j]?).isSome = true := by
  simp [auA]
  omega
set_option maxHeartbeats 16000000 in
set_option maxRecDepth 100000 in
set_option linter.unusedSimpArgs false in
set_option linter.unusedVariables false in
theorem leave_a {w : World} {A H hc M : Nat} {v : Au} (h : AuAt w A H hc M v) (q : Nat) (hq : q < v.hs.length) (s : Int) (n : Nat) (hn : v.rp = (n : Int)) (hn16 : n ≤ 16) (hl : v.hs.length ≤ 1000) :
    Calls Tryd.prog 41 #[.pointer (some ⟨A, 0, none⟩), .int .i64 (q : Int), .int .i64 s] w fun e w' => e = .returned (.tuple #[]) ∧ ∃ v', Left n (v.put q v.hs[q] s) v' ∧ AuAt w' A H hc M v' ∧ Kp w w' (AuS A H M) := by
  obtain ⟨W0, hW0⟩ : ∃ W0, W0 = w.setCell ⟨H, q * 5 + 1, none⟩ (.int .i64 s) := ⟨_, rfl⟩
  obtain ⟨h0, k0⟩ := h.setH q hq 1 (by omega) (.int .i64 s) { v.hs[q] with stt := s } rfl rfl rfl
  rw [← hW0] at h0 k0
  have h0' : AuAt W0 A H hc M (v.put q v.hs[q] s) := h0
  have hl1 : (v.put q v.hs[q] s).hs.length = v.hs.length := List.length_set
  have K0 : Hid (Kp w W0 (AuS A H M)) := k0.mono (fun k e => Or.inr (Or.inl e))
  have BU := hide (Busy_a h0' (by rw [hl1]; omega) (by rw [hl1]; exact hl))
  obtain ⟨-, -, -, a3, -⟩ := h.cells
  obtain ⟨-, x1, -, -, -⟩ := h.hcells q hq
  have f1 := h.fzH (q * 5 + 1)
  have hqi : ((q : Nat) : Int) < ((v.hs.length : Nat) : Int) := by omega
  have RE : Hid (∀ X, Kp W0 X non → Calls Tryd.prog 56 #[.pointer (some ⟨A, 0, none⟩)] X fun e w' => ∃ dv mv DL, e = .returned (.agg (adA v.num v.ver (outO DL.length (misL (v.put q v.hs[q] s)).length) dv mv)) ∧ DfL v.told n DL ∧ w'.ownsRow X.heap.size 3 1 dv DL.length (ints DL) ∧ w'.ownsRow X.heap.size 3 1 mv (misL (v.put q v.hs[q] s)).length (ints (misL (v.put q v.hs[q] s))) ∧ Kp X w' non) := fun X hX => report_a (h0'.kp0 hX) n hn hn16 (by rw [hl1]; exact hl)
  have H0 := hide h0'
  obtain ⟨v1, hv1⟩ : ∃ v1, v1 = v.put q v.hs[q] s := ⟨_, rfl⟩
  have EN : Hid (v.num = v1.num ∧ v.ver = v1.ver ∧ v.told = v1.told) := by rw [hv1]; exact ⟨rfl, rfl, rfl⟩
  rw [← hv1] at H0 BU RE ⊢
  rw [EN.out.1, EN.out.2.1, EN.out.2.2] at RE
  clear h h0 h0' k0 hl1 hv1 EN hl hn
  generalize v.hs[q].stt = s1 at *
  clear hq
  generalize v.hs.length = nn at *
  go_enter Tryd.func41, Tryd.ntmps41
  go_upto_region 1 with fail
  rw [← hW0]
  clear hW0 a3 x1 f1
  go_wp2_with fail
  refine Calls.mono BU.out ?_
  rintro e W1 ⟨rfl, k1⟩
  have KW1 := hide k1
  clear k1 BU
  cases hb : busyL v1.hs
  case true =>
    go_wp2_with fail
    refine bodyPost_ret (results_none rfl _ _ _) rfl ?_
    exact ⟨rfl, v1, Or.inl ⟨hb, rfl⟩, H0.out.kp0 KW1.out, K0.out.trans KW1.out (fun _ f => f.elim)⟩
  case false =>
    have RP := hide (RE.out W1 KW1.out)
    clear RE
    have HBU := hide hb
    clear hb
    go_wp2_with fail
    refine Calls.mono RP.out ?_
    rintro e W2 ⟨dv, mv, DL, rfl, hdf, o1, o2, k2⟩
    have X2 := H0.out.kp0 (KW1.out.trans k2 (fun _ f => f.elim))
    have kW2 : Kp w W2 (AuS A H M) := K0.out.trans (KW1.out.trans k2 (fun _ f => f.elim)) (fun _ f => f.elim)
    obtain ⟨W3, hW3⟩ : ∃ W3, W3 = W2.setCells A 8 (adA v1.num v1.ver (outO DL.length (misL v1).length) dv mv).toList := ⟨_, rfl⟩
    have k3 : Kp W2 W3 (fun k => k = A) := by rw [hW3]; exact kp_setCells _ _ _ _
    obtain ⟨v3, hv3⟩ : ∃ v3 : Au, v3 = { v1 with jb := v1.num, jv := v1.ver, jo := outO DL.length (misL v1).length, dl := DL, ml := misL v1, dv := dv, mv := mv } := ⟨_, rfl⟩
    have ob3 : W3.heap[A]? = some (.cells (auA v3 H hc M) 70) := by
      rw [hW3, hv3]
      simp only [adA, World.setCells]
      exact set_row (set_row (set_row (set_row (set_row X2.blk 8 _) 9 _) 10 _) 11 _) 12 _
    have th : Hid (W2.there A 8 5) := fun j hj => ⟨by rw [cell_row X2.blk]; exact there13 v1 H hc M j hj, fz_row X2.blk _⟩
    have nA : ∀ {b e sz n' : Nat} {u : Value} {xs : List Value}, W2.ownsRow b e sz u n' xs → e ≠ 70 → W3.ownsRow 0 e sz u n' xs := fun {b e sz n' u xs} ho he => own_base (own_kp ho k3 (fun k hk ek => by
      obtain ⟨cur, hcu⟩ := own_typ ho hk
      rw [ek, X2.blk] at hcu
      simp at hcu
      exact he hcu.2.symm)) (Nat.zero_le _)
    have X3 : AuAt W3 A H hc M v3 := by
      refine ⟨ob3, ?_, ?_, ?_, ?_, ?_⟩
      · rw [hv3]; exact nA X2.row (by decide)
      · rw [hv3]; exact X2.map.kp k3 (fun e => X2.nAM e.symm)
      · rw [hv3]; exact fun x hx => nA (X2.sl x hx) (by decide)
      · rw [hv3]; exact nA o1 (by decide)
      · rw [hv3]; exact nA o2 (by decide)
    have o1s : Hid (∃ a n cc, dv = .slice a n cc) := by obtain ⟨a, cc, e⟩ := own_sl o1; exact ⟨_, _, _, e⟩
    have o2s : Hid (∃ a n cc, mv = .slice a n cc) := by obtain ⟨a, cc, e⟩ := own_sl o2; exact ⟨_, _, _, e⟩
    obtain ⟨W4, hcl, m4, k4⟩ := X3.map.clear 0
    have X4 : AuAt W4 A H hc M (v1.done DL dv mv) := by
      have off : ∀ {b e sz n' : Nat} {u : Value} {xs : List Value}, W3.ownsRow b e sz u n' xs → W4.ownsRow b e sz u n' xs := fun {b e sz n' u xs} ho => own_kp ho k4 (fun k hk ek => by
        obtain ⟨cur, hcu⟩ := own_typ ho hk
        exact X3.map.kind (ek ▸ hcu))
      refine ⟨?_, ?_, m4, ?_, ?_, ?_⟩
      · have z := (k4.block _ (blk_lt X3.blk) X3.nAM).trans X3.blk
        rw [z, hv3]
        rfl
      · have z := off X3.row
        rw [hv3] at z
        exact z
      · intro x hx
        exact off (X3.sl x (by rw [hv3]; exact hx))
      · have z := off X3.df
        rw [hv3] at z
        exact z
      · have z := off X3.ms
        rw [hv3] at z
        exact z
    have XX : Hid (∃ v', Left n v1 v' ∧ AuAt W4 A H hc M v' ∧ Kp w W4 (AuS A H M)) := ⟨_, Or.inr ⟨HBU.out, DL, dv, mv, hdf, rfl⟩, X4, (kW2.trans (T := fun k => k = A) k3 (fun k e => Or.inl (Or.inl e))).trans (T := fun k => k = M) k4 (fun k e => Or.inl (Or.inr (Or.inr e)))⟩
    have y7 : W3.cell? ⟨A, 7, none⟩ = some (.map (some M)) := X3.cells.2.2.2.2.2.2.2.1
    replace hW3 := hide hW3
    clear X2 X3 X4 m4 k4 k3 ob3 o1 o2 k2 kW2 nA hv3 hdf RP H0 K0 KW1 HBU
    generalize outO DL.length (misL v1).length = oo at *
    generalize v1.num = nm at *
    generalize v1.ver = vr at *
    go_upto_region 3 with (refine wpList_store_mid rfl 49 (.tmp 20) (.tmp 18) rfl A 8 (adA nm vr oo dv mv) rfl rfl th.out ad_info (ad_one _ _ _ o1s.out o2s.out) ?_)
    rw [← hW3.out]
    clear hW3 th
    go_wp2_with fail
    refine bodyPost_end (results_none rfl _ _ _) rfl ?_
    exact ⟨rfl, XX.out⟩
end Go.Proofs.YteiiolilpemimaaDoor.Cn
