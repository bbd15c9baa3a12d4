import Derived.Test.YtndfhpfhgdamgaaGreatDoorGRuTook
import Derived.Test.YtndfhpfhgdamgaaGreatDoorGGcTwin
namespace Go.Proofs.YtndfhpfhgdamgaaGreatDoor.Cn
open Go.RowKit
theorem ndc_set {zs : List (Int × Value)} {i : Nat} (h : i < zs.length) (u : Value) : ndc (zs.set i (zs[i].1, u)) = (ndc zs).set (i * 2 + 1) u := by
  induction zs generalizing i with
  | nil => simp at h
  | cons a r ih =>
    cases i with
    | zero => rfl
    | succ i =>
      have h' : i < r.length := by simpa using h
      have := ih h'
      unfold ndc at *
      simp only [List.set_cons_succ, List.flatMap_cons, List.getElem_cons_succ]
      rw [this, show (i + 1) * 2 + 1 = (i * 2 + 1) + 2 by omega]
      rfl
set_option maxHeartbeats 16000000 in
set_option maxRecDepth 100000 in
set_option linter.unusedSimpArgs false in
set_option linter.unusedVariables false in
theorem CopyOf_any (N : Nat) (w : World) (st : ByteArray) (x : Nat → Int) (b o cap : Nat) (pv : Nat → Value) (ns : List ND) (h : NsAt N w (some ⟨b, o, none⟩) b o pv ns) (hN : N ≤ w.heap.size) (h1 : 1 ≤ ns.length) (h16 : ns.length ≤ 16) (hst : st.size ≤ 281474976710656) (hps : ∀ (q : Nat) (hq : q < ns.length), ns[q].ps.length ≤ 1000000) :
    Calls Tryz.prog 33 #[.agg (clA st x (.slice (some ⟨b, o, none⟩) ns.length cap))] w fun e w' => ∃ vl zs, e = .returned (.agg (clA st x vl)) ∧ zs.length = ns.length ∧ Tw w.heap.size w' ns vl zs ∧ Below w.heap.size w w' := by
  obtain ⟨W0, hW0⟩ : ∃ W0, W0 = (w.alloc (.cells (clA st x (.slice (some ⟨b, o, none⟩) ns.length cap)) 24)).alloc (.cells (clA ⟨#[]⟩ zx (.slice none 0 0)) 24) := ⟨_, rfl⟩
  obtain ⟨B, hB⟩ : ∃ B, B = w.heap.size := ⟨_, rfl⟩
  have k0 : Kp w W0 non := by rw [hW0]; exact ((Kp.refl w non).alloc _).alloc _
  have C0 : ClAt W0 B st x (.slice (some ⟨b, o, none⟩) ns.length cap) := by rw [hW0, hB]; exact (new_cl _ _ _ _).below ((Below.refl _ _).alloc (Nat.le_refl _) _)
  have R0 : ClAt W0 (B + 1) ⟨#[]⟩ zx (.slice none 0 0) := by
    rw [hW0, hB]
    have := new_cl (w.alloc (.cells (clA st x (.slice (some ⟨b, o, none⟩) ns.length cap)) 24)) ⟨#[]⟩ zx (.slice none 0 0)
    simp only [World.size_alloc] at this
    exact this
  have CL := hide (strClone_any st W0 hst)
  have HN := hide h
  have K0 := hide k0
  have HC0 := hide C0
  have HR0 := hide R0
  have HB := hide hB
  have HPS := hide hps
  have c0 := C0.st
  have hsz0 : Hid (w.heap.size ≤ W0.heap.size) := k0.size
  clear h k0 C0 R0 hps
  go_enter Tryz.func33, Tryz.ntmps33
  go_upto_region 1 with fail
  rw [show (w.alloc (.cells (clA st x (.slice (some ⟨b, o, none⟩) ns.length cap)) 24)).alloc (.cells #[.string ⟨#[]⟩, .int .i64 0, .int .i64 0, .int .i64 0, .int .i64 0, .int .i64 0, .int .i64 0, .int .i64 0, .int .i64 0, .int .i64 0, .int .i64 0, .int .i64 0, .int .i64 0, .int .i64 0, .int .i64 0, .int .i64 0, .int .i64 0, .int .i64 0, .int .i64 0, .int .i64 0, .int .i64 0, .int .i64 0, .slice none 0 0] 24) = W0 from hW0.symm, ← HB.out]
  clear hW0 hB
  go_wp2_with fail
  refine Calls.mono CL.out ?_
  rintro e W1 ⟨rfl, b1⟩
  have k1 := Kp.of_below b1 non
  have C1 : ClAt W1 B st x (.slice (some ⟨b, o, none⟩) ns.length cap) := (k1.block _ (blk_lt HC0.out) (fun f => f)).trans HC0.out
  have c1 := C1.st
  have f1 : W1.frozen? ⟨B, 0, none⟩ = false := fz_row C1 0
  obtain ⟨W2, hW2⟩ : ∃ W2, W2 = W1.setCell ⟨B, 0, none⟩ (.string st) := ⟨_, rfl⟩
  have k2 : Kp W1 W2 (fun k => k = B) := by rw [hW2]; exact (Kp.refl W1 (fun k => k = B)).set (Or.inl rfl) _ _
  have C2 : ClAt W2 B st x (.slice (some ⟨b, o, none⟩) ns.length cap) := by rw [hW2]; exact (heap_setCell _ _ _ _ _ _ _ C1).trans rfl
  have R2 : ClAt W2 (B + 1) ⟨#[]⟩ zx (.slice none 0 0) := (k2.block _ (Nat.lt_of_lt_of_le (blk_lt HR0.out) k1.size) (by omega)).trans ((k1.block _ (blk_lt HR0.out) (fun f => f)).trans HR0.out)
  have K2 : Hid (Kp w W2 non) := (K0.out.trans k1 (fun _ f => f.elim)).trans k2 (fun k e => Or.inr (by rw [e, HB.out]; exact Nat.le_refl _))
  have n2 := HN.out.below (K2.out.below.mono hN)
  have NC := hide (nclone_any N W2 b o cap pv ns n2 (Nat.le_trans hN K2.out.size) h1 h16)
  have c22 := C2.nv
  have HC2 := hide C2
  have HR2 := hide R2
  clear C1 C2 R2 k1 k2 b1 n2 c0 CL
  go_upto_region 2 with fail
  rw [← hW2]
  clear hW2 c1 f1
  go_wp2_with fail
  refine Calls.mono NC.out ?_
  rintro e W3 ⟨vl, rfl, o3, b3⟩
  obtain ⟨va, vc, hvl⟩ := own_sl o3
  obtain ⟨g, gc, hvg⟩ := own_g o3 (by omega)
  rw [hvl] at hvg
  injection hvg with e1 _ e2
  subst e1
  subst e2
  subst hvl
  have k3 := Kp.of_below b3 non
  have C3 : ClAt W3 B st x (.slice (some ⟨b, o, none⟩) ns.length cap) := (k3.block _ (blk_lt HC2.out) (fun f => f)).trans HC2.out
  have c3 := C3.nv
  have f3 : W3.frozen? ⟨B, 22, none⟩ = false := fz_row C3 22
  obtain ⟨W4, hW4⟩ : ∃ W4, W4 = W3.setCell ⟨B, 22, none⟩ (.slice (some ⟨g, 0, none⟩) ns.length vc) := ⟨_, rfl⟩
  have k4 : Kp W3 W4 (fun k => k = B) := by rw [hW4]; exact (Kp.refl W3 (fun k => k = B)).set (Or.inl rfl) _ _
  have C4 : ClAt W4 B st x (.slice (some ⟨g, 0, none⟩) ns.length vc) := by rw [hW4]; exact (heap_setCell _ _ _ _ _ _ _ C3).trans rfl
  have R4 : ClAt W4 (B + 1) ⟨#[]⟩ zx (.slice none 0 0) := (k4.block _ (Nat.lt_of_lt_of_le (blk_lt HR2.out) k3.size) (by omega)).trans ((k3.block _ (blk_lt HR2.out) (fun f => f)).trans HR2.out)
  have gB : g ≠ B := fun e => by
    have h1 := (own_cells (g := g) o3 rfl).1
    have h2 := blk_lt HC2.out
    omega
  have O4 : Hid (W4.ownsRow w.heap.size 87 2 (.slice (some ⟨g, 0, none⟩) ns.length vc) ns.length (ndc (zs0 ns pv))) := own_kp (own_base o3 K2.out.size) k4 (fun k e q => gB (by have e' : some g = some k := e; injection e' with e'; omega))
  have K4 : Hid (Kp w W4 non) := (K2.out.trans k3 (fun _ f => f.elim)).trans k4 (fun k e => Or.inr (by rw [e, HB.out]; exact Nat.le_refl _))
  have HC4 := hide C4
  have HR4 := hide R4
  have c22' := C4.nv
  have GB := hide gB
  have GB1 : Hid (g ≠ B + 1) := fun e => by
    have h1 := (own_cells (g := g) o3 rfl).1
    have h2 := blk_lt HR2.out
    omega
  clear c22 C3 C4 R4 k3 k4 b3 o3 NC HC2 HR2 gB
  go_upto_region 3 with fail
  rw [← hW4]
  clear hW4 c3 f3
  go_wp2_with fail
  clear c22'
  go_loopw [3, 15] (fun _ vi wr => ∃ (i : Nat) (zs : List (Int × Value)), i ≤ ns.length ∧ vi = .int .i64 (i : Int) ∧ zs.length = ns.length ∧ ClAt wr B st x (.slice (some ⟨g, 0, none⟩) ns.length vc) ∧ ClAt wr (B + 1) ⟨#[]⟩ zx (.slice none 0 0) ∧ wr.ownsRow w.heap.size 87 2 (.slice (some ⟨g, 0, none⟩) ns.length vc) ns.length (ndc zs) ∧ (∀ (q : Nat) (hq : q < zs.length) (hq' : q < ns.length), zs[q].1 = ns[q].z) ∧ (∀ (q : Nat) (hq : q < zs.length) (hq' : q < ns.length), q < i → wr.ownsRow w.heap.size 3 1 zs[q].2 ns[q].ps.length (ints ns[q].ps)) ∧ (∀ (q : Nat) (hq : q < zs.length), i ≤ q → zs[q].2 = pv q) ∧ Kp w wr non) (fun _ vi _ => ns.length - (intOf vi).toNat)
  case atStart =>
    refine ⟨0, zs0 ns pv, Nat.zero_le _, rfl, zs0_len ns pv, HC4.out, HR4.out, O4.out, fun q hq hq' => ?_, fun q hq hq' h0 => absurd h0 (Nat.not_lt_zero _), fun q hq _ => ?_, K4.out⟩
    · rw [zs0_at ns pv q hq']
    · rw [zs0_at ns pv q (by rw [zs0_len] at hq; exact hq)]
  case round =>
    obtain ⟨i, zs, hi, rfl, hzl, hC, hR, hO, hZ, hP, hV, hK⟩ := hrel
    have HC := hide hC
    have HR := hide hR
    have HO := hide hO
    have HZ := hide hZ
    have HP := hide hP
    have HV := hide hV
    have HK := hide hK
    clear hC hR hO hZ hP hV hK
    by_cases hin : i < ns.length
    case pos =>
      have hii : (i : Int) < (ns.length : Int) := by omega
      have hzi : i < zs.length := by omega
      have nw := HN.out.below (HK.out.below.mono hN)
      have hpi := nw.ps i hin
      obtain ⟨pa, pb, po, pc, hpe, hpp⟩ := hpi
      have hPv : Pv N wr.drew (pv i) ns[i].ps := (nw.ps i hin).below ⟨rfl, rfl, rfl, Nat.le_refl _, fun _ _ => rfl⟩
      have IC := iclone_any hPv (HPS.out i hin)
      rw [hpe] at IC
      have IC := hide IC
      have cg : Hid (wr.cell? ⟨g, i * 2 + 1, none⟩ = some (.slice pa ns[i].ps.length pc)) := by
        rw [HO.out.cellAt (i * 2 + 1) (by omega), (ndc_at zs i hzi).2, HV.out i hzi (Nat.le_refl _), hpe]
        rfl
      have C22 : Hid (wr.cell? ⟨B, 22, none⟩ = some (.slice (some ⟨g, 0, none⟩) ns.length vc)) := HC.out.nv
      have HTW : Hid (∀ (X : World) (u : Value), Kp wr X non → X.ownsRow w.heap.size 3 1 u ns[i].ps.length (ints ns[i].ps) → (X.setCell ⟨g, i * 2 + 1, none⟩ u).ownsRow w.heap.size 87 2 (.slice (some ⟨g, 0, none⟩) ns.length vc) ns.length (ndc (zs.set i (zs[i].1, u))) ∧ (∀ (q : Nat) (hq : q < (zs.set i (zs[i].1, u)).length) (hq' : q < ns.length), q < i + 1 → (X.setCell ⟨g, i * 2 + 1, none⟩ u).ownsRow w.heap.size 3 1 (zs.set i (zs[i].1, u))[q].2 ns[q].ps.length (ints ns[q].ps))) := fun X u hX hu => by
        have ho := own_kp HO.out hX (fun _ _ f => f)
        have hs : Kp X (X.setCell ⟨g, i * 2 + 1, none⟩ u) (fun k => k = g) := (Kp.refl X (fun k => k = g)).set (Or.inl rfl) _ _
        constructor
        · rw [ndc_set hzi]
          exact (ho.stored (i * 2 + 1) u).1
        · intro q hq hq' hqi
          by_cases e : q = i
          · subst e
            simp only [List.getElem_set_self]
            exact own_kp hu hs (fun k e1 e2 => own_apart hu ho (by decide) k e1 (by rw [e2]; rfl))
          · rw [List.getElem_set_ne (fun e' => e e'.symm)]
            have hq2 : q < zs.length := by simpa using hq
            have ho2 := own_kp (HP.out q hq2 hq' (by omega)) hX (fun _ _ f => f)
            exact own_kp ho2 hs (fun k e1 e2 => own_apart ho2 ho (by decide) k e1 (by rw [e2]; rfl))
      have FZ : Hid (∀ X, Kp wr X non → X.frozen? ⟨g, i * 2 + 1, none⟩ = false) := fun X hX => (own_kp HO.out hX (fun _ _ f => f)).frozenAt _
      have GL : Hid (g < wr.heap.size) := by
        obtain ⟨_, cur, hc⟩ := own_cells HO.out rfl
        exact blk_lt hc
      generalize hppl : ns[i].ps.length = pl at *
      clear hpp hpe hPv nw
      go_upto_region 6 with fail
      refine wp_region_held_drew (S := fun X => X.cell? ⟨B, 22, none⟩ = some (.slice (some ⟨g, 0, none⟩) ns.length vc)) (by kernel_rfl) C22.out (fun hHeld => ?_)
      refine wpAnyH_take (i := 0) (v := (.pointer (some ⟨B, 22, none⟩))) rfl (by kernel_rfl) (by kernel_rfl) (by kernel_rfl) (fun _ _ _ h => h) (Or.inl ⟨by rfl, ?_⟩) (by assumption) ?_
      · intro w' hSw
        (try dsimp only at hSw)
        go_simp
      (try simp only [Act.put, List.getElem_toArray, List.getElem_cons_zero, List.getElem_cons_succ, List.setIfInBounds_toArray, List.set_cons_zero, List.set_cons_succ])
      refine wpAnyH_take (i := 1) (v := (.slice (some ⟨g, 0, none⟩) ns.length vc)) rfl (by kernel_rfl) (by kernel_rfl) (by kernel_rfl) (fun _ _ _ h => h) (Or.inl ⟨by rfl, ?_⟩) (by assumption) ?_
      · intro w' hSw
        (try dsimp only at hSw)
        go_simp
      (try simp only [Act.put, List.getElem_toArray, List.getElem_cons_zero, List.getElem_cons_succ, List.setIfInBounds_toArray, List.set_cons_zero, List.set_cons_succ])
      refine wpAnyH_take (i := 2) (v := (.int .i64 (i : Int))) rfl (by kernel_rfl) (by kernel_rfl) (by kernel_rfl) (fun _ _ _ h => h) (Or.inl ⟨by rfl, ?_⟩) (by assumption) ?_
      · intro w' hSw
        (try dsimp only at hSw)
        go_simp
      (try simp only [Act.put, List.getElem_toArray, List.getElem_cons_zero, List.getElem_cons_succ, List.setIfInBounds_toArray, List.set_cons_zero, List.set_cons_succ])
      refine wpAnyH_take (i := 3) (v := (.pointer (some ⟨B, 22, none⟩))) rfl (by kernel_rfl) (by kernel_rfl) (by kernel_rfl) (fun _ _ _ h => h) (Or.inl ⟨by rfl, ?_⟩) (by assumption) ?_
      · intro w' hSw
        (try dsimp only at hSw)
        go_simp
      (try simp only [Act.put, List.getElem_toArray, List.getElem_cons_zero, List.getElem_cons_succ, List.setIfInBounds_toArray, List.set_cons_zero, List.set_cons_succ])
      refine wpAnyH_take (i := 4) (v := (.slice (some ⟨g, 0, none⟩) ns.length vc)) rfl (by kernel_rfl) (by kernel_rfl) (by kernel_rfl) (fun _ _ _ h => h) (Or.inl ⟨by rfl, ?_⟩) (by assumption) ?_
      · intro w' hSw
        (try dsimp only at hSw)
        go_simp
      (try simp only [Act.put, List.getElem_toArray, List.getElem_cons_zero, List.getElem_cons_succ, List.setIfInBounds_toArray, List.set_cons_zero, List.set_cons_succ])
      refine wpAnyH_take (i := 5) (v := (.int .i64 (i : Int))) rfl (by kernel_rfl) (by kernel_rfl) (by kernel_rfl) (fun _ _ _ h => h) (Or.inl ⟨by rfl, ?_⟩) (by assumption) ?_
      · intro w' hSw
        (try dsimp only at hSw)
        go_simp
      (try simp only [Act.put, List.getElem_toArray, List.getElem_cons_zero, List.getElem_cons_succ, List.setIfInBounds_toArray, List.set_cons_zero, List.set_cons_succ])
      refine wpAnyH_take (i := 6) (v := (.pointer (some ⟨g, i * 2, none⟩))) rfl (by kernel_rfl) (by kernel_rfl) (by kernel_rfl) (fun _ _ _ h => h) (Or.inl ⟨by rfl, ?_⟩) (by assumption) ?_
      · intro w' hSw
        (try dsimp only at hSw)
        go_simp
      (try simp only [Act.put, List.getElem_toArray, List.getElem_cons_zero, List.getElem_cons_succ, List.setIfInBounds_toArray, List.set_cons_zero, List.set_cons_succ])
      refine wpAnyH_take (i := 7) (v := (.pointer (some ⟨g, i * 2 + 1, none⟩))) rfl (by kernel_rfl) (by kernel_rfl) (by kernel_rfl) (fun _ _ _ h => h) (Or.inl ⟨by rfl, ?_⟩) (by assumption) ?_
      · intro w' hSw
        (try dsimp only at hSw)
        go_simp
      (try simp only [Act.put, List.getElem_toArray, List.getElem_cons_zero, List.getElem_cons_succ, List.setIfInBounds_toArray, List.set_cons_zero, List.set_cons_succ])
      refine wpAnyH_ready (rs := [8]) (by kernel_rfl) (by simp) ?_
      refine AllReadyH.cons rfl (fun K hK => ?_) AllReadyH.nil
      have cg' := cg.out
      go_simp
      clear cg'
      refine hK.out _ _ (C22.out) (fun hHeld => ?_)
      clear hK
      (try simp only [Act.put, List.setIfInBounds_toArray, List.set_cons_zero, List.set_cons_succ])
      refine wpAnyH_ready (rs := [9]) (by kernel_rfl) (by simp) ?_
      refine AllReadyH.cons rfl (fun K hK => ?_) AllReadyH.nil
      go_simp
      refine Calls.mono IC.out ?_
      rintro e W5 ⟨u, rfl, o5, b5⟩
      have k5 : Kp wr W5 non := ((Kp.refl wr non).drew).trans (Kp.of_below b5 non) (fun _ f => f.elim)
      obtain ⟨ua, uc, hu⟩ := own_sl o5
      subst hu
      have C5 : Hid (W5.cell? ⟨B, 22, none⟩ = some (.slice (some ⟨g, 0, none⟩) ns.length vc)) := (k5.cell (blk_lt HC.out) (fun f => f)).trans C22.out
      have cg5 : W5.cell? ⟨g, i * 2 + 1, none⟩ = some (.slice pa pl pc) := (k5.cell GL.out (fun f => f)).trans cg.out
      have f5 := FZ.out W5 k5
      obtain ⟨W6, hW6⟩ : ∃ W6, W6 = W5.setCell ⟨g, i * 2 + 1, none⟩ (.slice ua pl uc) := ⟨_, rfl⟩
      have k6 : Kp W5 W6 (fun k => k = g) := by rw [hW6]; exact (Kp.refl W5 (fun k => k = g)).set (Or.inl rfl) _ _
      have T6 := HTW.out W5 (.slice ua pl uc) k5 (own_base o5 HK.out.size)
      rw [← hW6] at T6
      have gw : w.heap.size ≤ g := (own_cells HO.out rfl).1
      have K6 : Hid (Kp w W6 non) := (HK.out.trans k5 (fun _ f => f.elim)).trans k6 (fun k e => Or.inr (by rw [e]; exact gw))
      have B5s : B < W5.heap.size := Nat.lt_of_lt_of_le (blk_lt HC.out) k5.size
      have HC6 : Hid (ClAt W6 B st x (.slice (some ⟨g, 0, none⟩) ns.length vc)) := (k6.block _ B5s (fun e => GB.out e.symm)).trans ((k5.block _ (blk_lt HC.out) (fun f => f)).trans HC.out)
      have HR6 : Hid (ClAt W6 (B + 1) ⟨#[]⟩ zx (.slice none 0 0)) := (k6.block _ (Nat.lt_of_lt_of_le (blk_lt HR.out) k5.size) (fun e => GB1.out e.symm)).trans ((k5.block _ (blk_lt HR.out) (fun f => f)).trans HR.out)
      have C6 : Hid (W6.cell? ⟨B, 22, none⟩ = some (.slice (some ⟨g, 0, none⟩) ns.length vc)) := HC6.out.nv
      have TT6 := hide T6
      clear b5 k5 k6 o5 IC T6 HTW FZ
      refine hK.out _ _ (C5.out) (fun hHeld => ?_)
      clear hK
      (try simp only [Act.put, List.setIfInBounds_toArray, List.set_cons_zero, List.set_cons_succ])
      refine wpAnyH_take (i := 10) (v := (.pointer (some ⟨g, i * 2, none⟩))) rfl (by kernel_rfl) (by kernel_rfl) (by kernel_rfl) (fun _ _ _ h => h) (Or.inl ⟨by rfl, ?_⟩) (by assumption) ?_
      · intro w' hSw
        (try dsimp only at hSw)
        go_simp
      (try simp only [Act.put, List.getElem_toArray, List.getElem_cons_zero, List.getElem_cons_succ, List.setIfInBounds_toArray, List.set_cons_zero, List.set_cons_succ])
      refine wpAnyH_take (i := 11) (v := (.pointer (some ⟨g, i * 2 + 1, none⟩))) rfl (by kernel_rfl) (by kernel_rfl) (by kernel_rfl) (fun _ _ _ h => h) (Or.inl ⟨by rfl, ?_⟩) (by assumption) ?_
      · intro w' hSw
        (try dsimp only at hSw)
        go_simp
      (try simp only [Act.put, List.getElem_toArray, List.getElem_cons_zero, List.getElem_cons_succ, List.setIfInBounds_toArray, List.set_cons_zero, List.set_cons_succ])
      refine wpAnyH_ready (rs := [12]) (by kernel_rfl) (by simp) ?_
      refine AllReadyH.cons rfl (fun K hK => ?_) AllReadyH.nil
      go_simp
      rw [← hW6]
      clear hW6 cg5 f5
      refine hK.out _ _ (C6.out) (fun hHeld => ?_)
      clear hK
      (try simp only [Act.put, List.setIfInBounds_toArray, List.set_cons_zero, List.set_cons_succ])
      refine wpAnyH_done (by kernel_rfl) ?_ _
      go_wp2_with fail
      go_roundw
      case rel =>
        refine ⟨i + 1, zs.set i (zs[i].1, .slice ua pl uc), by omega, by go_num, by rw [List.length_set]; exact hzl, HC6.out, HR6.out, TT6.out.1, fun q hq hq' => ?_, TT6.out.2, fun q hq hqi => ?_, K6.out⟩
        · have hq0 : q < zs.length := by simpa using hq
          by_cases e : q = i
          · subst e
            simp only [List.getElem_set_self]
            exact HZ.out q hq0 hq'
          · rw [List.getElem_set_ne (fun e' => e e'.symm)]
            exact HZ.out q hq0 hq'
        · have hq0 : q < zs.length := by simpa using hq
          rw [List.getElem_set_ne (by omega)]
          exact HV.out q hq0 (by omega)
      case measure => simp [intOf]; omega
    case neg =>
      obtain rfl : i = ns.length := by omega
      clear HN HPS
      go_wp2_with (first | (refine wpList_loadCl rfl (.tmp 1) rfl B st x _ rfl HC.out ?_) | (refine wpList_store_row rfl 24 (.tmp 2) (.tmp 31) rfl (B + 1) (clA st x (.slice (some ⟨g, 0, none⟩) ns.length vc)) rfl rfl 24 _ HR.out infoCl rfl (clA_one st x rfl) ?_))
      have E6 : ClAt (wr.setRow (B + 1) (clA st x (.slice (some ⟨g, 0, none⟩) ns.length vc))) (B + 1) st x (.slice (some ⟨g, 0, none⟩) ns.length vc) := setRow_heap wr (B + 1) _ _ 24 _ HR.out
      have oth : ∀ i, i ≠ B + 1 → (wr.setRow (B + 1) (clA st x (.slice (some ⟨g, 0, none⟩) ns.length vc))).heap[i]? = wr.heap[i]? := fun i hi => setRow_other wr (B + 1) i _ (fun e => hi (by first | exact e | exact e.symm))
      have tyO : ∀ (k : Nat) (cur : Array Value) (t : TypeId), wr.heap[k]? = some (.cells cur t) → t ≠ 24 → k ≠ B + 1 := fun k cur t h1 h2 e => by
        rw [e] at h1
        have := HR.out.symm.trans h1
        simp only [Option.some.injEq, Obj.cells.injEq] at this
        exact h2 this.2.1.symm
      have T7 : Tw w.heap.size (wr.setRow (B + 1) (clA st x (.slice (some ⟨g, 0, none⟩) ns.length vc))) ns (.slice (some ⟨g, 0, none⟩) ns.length vc) zs := by
        refine ⟨?_, HZ.out, fun q hq hq' => own_keep (HP.out q hq hq' hq') fun k hk => ?_⟩
        · rw [hzl]
          exact own_keep HO.out fun k hk => by
            obtain ⟨cur, hc⟩ := own_typ HO.out hk
            exact oth k (tyO k cur _ hc (by decide))
        · obtain ⟨cur, hc⟩ := own_typ (HP.out q hq hq' hq') hk
          exact oth k (tyO k cur _ hc (by decide))
      have B7 : Below w.heap.size w (wr.setRow (B + 1) (clA st x (.slice (some ⟨g, 0, none⟩) ns.length vc))) := below_setRow HK.out.below (by have := HB.out; omega) _
      refine bodyPost_ret (v := .agg (clA st x (.slice (some ⟨g, 0, none⟩) ns.length vc))) (res_cl Tryz.results33 _ st x _ _ (B + 1) rfl E6) rfl (by first | exact ⟨_, rfl, zs, hzl, T7, B7⟩ | exact ⟨_, zs, rfl, hzl, T7, B7⟩)
end Go.Proofs.YtndfhpfhgdamgaaGreatDoor.Cn
namespace Go.Proofs.YtndfhpfhgdamgaaGreatDoor.Cn
open Go.RowKit
/-- nodes that were made, with their blocks -/
theorem tw_K {base : Nat} {W : World} {ns : List ND} {vl : Value} {zs : List (Int × Value)} (h : Tw base W ns vl zs) (hl : zs.length = ns.length) (h1 : 1 ≤ ns.length) (h16 : ns.length ≤ 16) (hps : ∀ (q : Nat) (h : q < ns.length), ns[q].ps.length ≤ 1000000) : ∃ b cap pv K, vl = .slice (some ⟨b, 0, none⟩) ns.length cap ∧ NsK W K (some ⟨b, 0, none⟩) b 0 pv ns ∧ ∀ k, K k → base ≤ k := by
  obtain ⟨ao, b, cap, hv, hn⟩ := h.nodes hl (by omega) (fun q hq => by have := hps q hq; omega)
  have hao := hn.at0 (by omega)
  subst hao
  refine ⟨b, cap, fun q => (zs[q]?.map (·.2)).getD (.slice none 0 0), fun k => vl.ownBlock = some k ∨ ∃ q, ∃ hq : q < zs.length, zs[q].2.ownBlock = some k, hv, ⟨fun W' hs he => ?_, fun k hk => ?_⟩, fun k hk => ?_⟩
  · have h' : Tw base W' ns vl zs := ⟨own_keep h.row fun g hg => he g (Or.inl hg), h.z, fun q hq hq' => own_keep (h.p q hq hq') fun g hg => he g (Or.inr ⟨q, hq, hg⟩)⟩
    obtain ⟨ao', b', cap', hv', hn'⟩ := h'.nodes hl (by omega) (fun q hq => by have := hps q hq; omega)
    have hao' := hn'.at0 (by omega)
    rw [hv] at hv'
    injection hv' with e1 _ _
    rw [hao'] at e1
    injection e1 with e1
    injection e1 with e1 _ _
    subst e1
    subst hao'
    exact hn'
  · rcases hk with hk | ⟨q, hq, hk⟩
    · obtain ⟨cur, hc⟩ := own_typ h.row hk
      exact ⟨_, _, _, hc, Or.inl rfl⟩
    · obtain ⟨cur, hc⟩ := own_typ (h.p q hq (by omega)) hk
      exact ⟨_, _, _, hc, Or.inr rfl⟩
  · rcases hk with hk | ⟨q, hq, hk⟩
    · exact own_ge h.row hk
    · exact own_ge (h.p q hq (by omega)) hk
set_option maxHeartbeats 8000000 in
set_option maxRecDepth 100000 in
set_option linter.unusedSimpArgs false in
set_option linter.unusedVariables false in
theorem New_rno (N : Nat) (w : World) (st : ByteArray) (x : Nat → Int) (ao : Option Addr) (b o cap : Nat) (pv : Nat → Value) (ns : List ND) (h : NsAt N w ao b o pv ns) (hN : N ≤ w.heap.size) (hs : st.size ≤ 9223372036854775807) (he : errP st x ns ≠ 0) :
    Calls Tryz.prog 11 #[.agg (clA st x (.slice ao ns.length cap))] w fun e w' => e = .returned (.tuple #[.pointer none, .int .i64 (errP st x ns)]) ∧ Below w.heap.size w w' := by
  obtain ⟨W0, hW0, hX⟩ := boxed st x cap h hN
  have HX := hide (hX.stand hN)
  have B0 := hide hX.bel
  clear hX h
  have CH := hide (YtndfhpfhgdamgaaGreatDoor.check_any N W0 st x ao b o cap pv ns HX.out.nd HX.out.le hs)
  generalize errP st x ns = er at *
  have q1 : (er == 0) = false := by simp [he]
  have q2 : (er != 0) = true := by simp [he]
  go_enter Tryz.func11, Tryz.ntmps11
  go_upto_region 1 with fail
  rw [← hW0]
  clear hW0
  go_wp2_with (refine wpList_loadCl rfl (.tmp 1) rfl w.heap.size st x _ rfl HX.out.cl ?_)
  refine Calls.mono CH.out ?_
  rintro e W1 ⟨rfl, hb⟩
  have B1 := hide (B0.out.trans (hb.mono B0.out.size))
  clear hb CH HX
  go_wp2_with fail
  go_ret2
  exact ⟨rfl, B1.out⟩
theorem ps_small {ns : List ND} (hd : Dealt ns) : ∀ (q : Nat) (h : q < ns.length), ns[q].ps.length ≤ 1000000 := fun q hq => by
  have p2 := hd.p2
  have : ns[q].ps.length ≤ (flat ns).length := by
    unfold flat
    have := (List.sublist_flatten_of_mem (List.mem_map.2 ⟨ns[q], List.getElem_mem hq, rfl⟩ : ns[q].ps ∈ ns.map (·.ps))).length_le
    rw [List.flatMap_def]
    exact this
  omega
set_option maxHeartbeats 8000000 in
set_option maxRecDepth 100000 in
set_option linter.unusedSimpArgs false in
set_option linter.unusedVariables false in
theorem New_r (N : Nat) (w : World) (st : ByteArray) (x : Nat → Int) (ao : Option Addr) (b o cap : Nat) (pv : Nat → Value) (ns : List ND) (h : NsAt N w ao b o pv ns) (hN : N ≤ w.heap.size) (hs : st.size ≤ 281474976710656) (he : errP st x ns = 0) :
    Calls Tryz.prog 11 #[.agg (clA st x (.slice ao ns.length cap))] w fun e w' => ∃ R S, e = .returned (.tuple #[.pointer (some ⟨R, 0, none⟩), .int .i64 0]) ∧ RtAt w' S R ⟨st, x, ns⟩ [] ⟨Dt.new ns.length (x 18) (x 19), 0, 0⟩ ∧ Below w.heap.size w w' ∧ ∀ k, S k → w.heap.size ≤ k := by
  obtain ⟨a1, a2, a3, a4, a5, a6⟩ := errP_all he
  have l18 : 1 ≤ x 18 ∧ x 18 ≤ 64 := sfP_lim a2 18 (by omega)
  have l19 : 1 ≤ x 19 ∧ x 19 ≤ 1024 := sfP_lim a2 19 (by omega)
  have hnl := nfP_len a3
  have hps := ps_small a4
  have hao := h.at0 (by omega)
  subst hao
  obtain ⟨W0, hW0, hX⟩ := boxed st x cap h hN
  have HX := hide (hX.stand hN)
  have B0 := hide hX.bel
  have HH := hide h
  clear hX h
  have CH := YtndfhpfhgdamgaaGreatDoor.check_any N W0 st x _ b o cap pv ns HX.out.nd HX.out.le (by omega)
  rw [he] at CH
  have CH := hide CH
  have hnlI : (1 : Int) ≤ (ns.length : Int) ∧ (ns.length : Int) ≤ 16 := by omega
  have HL := hide hnl
  have HPS := hide hps
  have hn9 : ns.length ≤ 9223372036854775807 := by omega
  clear a1 a2 a3 a4 a5 a6 he
  go_enter Tryz.func11, Tryz.ntmps11
  go_upto_region 1 with fail
  rw [← hW0]
  clear hW0
  go_wp2_with (refine wpList_loadCl rfl (.tmp 1) rfl w.heap.size st x _ rfl HX.out.cl ?_)
  refine Calls.mono CH.out ?_
  rintro e W1 ⟨rfl, hb⟩
  have C1 := HX.out.cl.below hb
  have c22 := C1.nv
  have c19 : W1.cell? ⟨w.heap.size, 19, none⟩ = some (.int .i64 (x 18)) := C1.x 18 (by omega)
  have c20 : W1.cell? ⟨w.heap.size, 20, none⟩ = some (.int .i64 (x 19)) := C1.x 19 (by omega)
  have B1 := hide (B0.out.trans (hb.mono B0.out.size))
  have HC1 := hide C1
  have DN := hide (New_any W1 (ns.length : Int) (x 18) (x 19) ⟨hnlI, l18, l19⟩)
  clear hb CH HX C1
  go_wp2_with fail
  refine Calls.mono DN.out ?_
  rintro e W2 ⟨D, S1, rfl, d2, b2, s2⟩
  have C2 := hide (HC1.out.below b2)
  have B2 := hide (B1.out.trans (b2.mono B1.out.size))
  have n2 := HH.out.below (B2.out.mono hN)
  have CO := hide (CopyOf_any N W2 st x b o cap pv ns n2 (Nat.le_trans hN B2.out.size) HL.out.1 HL.out.2 hs HPS.out)
  have D2 := hide d2
  have S2 : Hid (∀ k, S1 k → w.heap.size ≤ k) := fun k q => Nat.le_trans B1.out.size (s2 k q)
  clear d2 b2 s2 n2 DN HC1 c22 c19 c20
  go_wp2_with (refine wpList_loadCl rfl (.tmp 1) rfl w.heap.size st x _ rfl C2.out ?_)
  refine Calls.mono CO.out ?_
  rintro e W3 ⟨vl, zs, rfl, hzl, t3, b3⟩
  have B3 := hide (B2.out.trans (b3.mono B2.out.size))
  have k3 := Kp.of_below b3 non
  have D3 := hide (D2.out.kp k3 (fun _ _ f => f))
  have T3 := hide t3
  obtain ⟨nb, ncap, pv', Kn, hvl, nk, kn⟩ := tw_K t3 hzl HL.out.1 HL.out.2 HPS.out
  subst hvl
  obtain ⟨W4, hW4⟩ : ∃ W4, W4 = W3.alloc (.map #[] 0) := ⟨_, rfl⟩
  obtain ⟨M, hM⟩ : ∃ M, M = W3.heap.size := ⟨_, rfl⟩
  have k4 : Kp W3 W4 non := by rw [hW4]; exact (Kp.refl W3 non).alloc _
  have M4 : Mp IT W4 M (gtE []) := by rw [hW4, hM]; exact Mp.made IT W3
  obtain ⟨W5, hW5⟩ : ∃ W5, W5 = W4.alloc (.cells (rtA ⟨st, x, ns⟩ (.slice (some ⟨nb, 0, none⟩) ns.length ncap) D M ⟨Dt.new ns.length (x 18) (x 19), 0, 0⟩) 85) := ⟨_, rfl⟩
  have k5 : Kp W4 W5 non := by rw [hW5]; exact (Kp.refl W4 non).alloc _
  have RX : Hid (RtX W5 W4.heap.size ⟨st, x, ns⟩ [] ⟨Dt.new ns.length (x 18) (x 19), 0, 0⟩ D M S1 Kn (some ⟨nb, 0, none⟩) nb 0 ncap pv') := by
    refine ⟨by rw [hW5]; exact heap_last _ _, ?_, M4.kp k5 (fun f => f), fun q => ?_, fun p hp => by simp at hp, (nk.kp k4 (fun _ _ f => f)).kp k5 (fun _ _ f => f)⟩
    · have := (D3.out.kp k4 (fun _ _ f => f)).kp k5 (fun _ _ f => f)
      exact this
    · have := D3.out.lt M q
      omega
  have S5 : Hid (∀ k, RtS W4.heap.size M S1 Kn [] k → w.heap.size ≤ k) := fun k q => by
    have z3 := B3.out.size
    have z4 := k4.size
    rcases q with q | q | q | q | ⟨p, hp, _⟩
    · omega
    · exact S2.out k q
    · omega
    · exact Nat.le_trans B2.out.size (kn k q)
    · simp at hp
  have B5 : Hid (Below w.heap.size w W5) := ((Kp.of_below B3.out non).trans (k4.trans k5 (fun _ f => f.elim)) (fun _ f => f.elim)).below
  clear t3 b3 k3 nk kn M4 k4 k5 CO T3 D3
  have hmm := @run_makeMap Tryz.prog
  go_wp2_with (first | (refine wpList_blR rfl 85 #[(0, .tmp 27), (1, .tmp 28), (4, .tmp 29)] rfl (rtA ⟨st, x, ns⟩ (.slice (some ⟨nb, 0, none⟩) ns.length ncap) D W3.heap.size ⟨Dt.new ns.length (x 18) (x 19), 0, 0⟩) (by kernel_rfl) ?_))
  go_ret2
  have h4 : W4.heap.size = W3.heap.size + 1 := by rw [hW4]; simp
  have RX' := RX.out
  have S5' := S5.out
  have B5' := B5.out
  rw [h4] at RX' S5'
  rw [hW5, hW4, hM] at RX' B5'
  rw [hM] at S5'
  exact ⟨W3.heap.size + 1, RtS (W3.heap.size + 1) W3.heap.size S1 Kn [], rfl, ⟨D, W3.heap.size, S1, Kn, some ⟨nb, 0, none⟩, nb, 0, ncap, pv', RX', fun _ => Iff.rfl⟩, B5', S5'⟩
end Go.Proofs.YtndfhpfhgdamgaaGreatDoor.Cn
namespace Go.Proofs.YtndfhpfhgdamgaaGreatDoor.Cn
open Go.RowKit
set_option maxHeartbeats 4000000 in
set_option maxRecDepth 100000 in
theorem num_r (w : World) (n : Int) : Calls Tryz.prog 8 #[.int .i64 n] w fun e w' => e = .returned (.int .i64 n) ∧ w = w' := by
  go_enter Tryz.func8, Tryz.ntmps8
  go_wp2_with fail
  go_ret
  exact ⟨rfl, rfl⟩
theorem mg_range {w : World} {base g cap n : Nat} {L : List Mg} (h : w.ownsRow base 58 11 (.slice (some ⟨g, 0, none⟩) n cap) n (mgs L)) {i : Nat} (hi : i < L.length) (hn : n = L.length) : w.rangeAt g (i * 11) (mgV L[i]).toList := fun j u hj => by
  have hj' := (List.getElem?_eq_some_iff.1 hj).1
  have h11 : (mgV L[i]).toList.length = 11 := rfl
  rw [h11] at hj'
  rw [h.cellAt (i * 11 + j) (by omega), mgs_at L i hi j hj']
  simpa using hj
set_option maxHeartbeats 16000000 in
set_option maxRecDepth 100000 in
set_option linter.unusedSimpArgs false in
set_option linter.unusedVariables false in
theorem joined_any {w : World} {b1 b2 : Nat} {v1 v2 : Value} {L1 L2 : List Mg} (h1 : w.ownsRow b1 58 11 v1 L1.length (mgs L1)) (h2 : w.ownsRow b2 58 11 v2 L2.length (mgs L2)) (hl : L1.length + L2.length ≤ 1000000000000) :
    Calls Tryz.prog 25 #[v1, v2] w fun e w' => ∃ v', e = .returned v' ∧ w'.ownsRow w.heap.size 58 11 v' (L1 ++ L2).length (mgs (L1 ++ L2)) ∧ Below w.heap.size w w' := by
  obtain ⟨a1, c1, e1⟩ := own_sl h1
  obtain ⟨a2, c2, e2⟩ := own_sl h2
  subst e1
  subst e2
  have H1 := hide h1
  have H2 := hide h2
  clear h1 h2
  go_enter Tryz.func25, Tryz.ntmps25
  go_wp2_with fail
  go_loopw [5, 6] (fun v5 vi wr => ∃ (i : Nat) (a5 : Option Addr) (c5 : Nat) (QQ : List Mg), i ≤ L1.length ∧ vi = .int .i64 (i : Int) ∧ QQ = [] ++ L1.take i ∧ v5 = .slice a5 QQ.length c5 ∧ wr.ownsRow w.heap.size 58 11 (.slice a5 QQ.length c5) QQ.length (mgs QQ) ∧ Kp w wr non) (fun _ vi _ => L1.length - (intOf vi).toNat)
  case atStart => exact ⟨0, none, 0, [], Nat.zero_le _, rfl, rfl, rfl, World.ownsRow_nil _ _ _ _, Kp.refl _ _⟩
  case round =>
    obtain ⟨i, a5, c5, QQ, hi, rfl, hQ, rfl, ho, hk⟩ := hrel
    have HQ := hide hQ
    have HO := hide ho
    have HK := hide hk
    clear hQ ho hk
    by_cases hin : i < L1.length
    case pos =>
      have hii : (i : Int) < (L1.length : Int) := by omega
      have hQl : QQ.length ≤ 1000000000000 := by
        rw [HQ.out, List.length_append, List.length_take]
        (try simp only [List.length_nil])
        omega
      obtain ⟨g, gc, hg⟩ := own_g H1.out (by omega)
      injection hg with hg _ hgc
      subst hg
      subst hgc
      have RG := hide (mg_range (own_kp H1.out HK.out (fun _ _ f => f)) hin rfl)
      have HQ1 : Hid (QQ ++ [L1[i]] = [] ++ L1.take (i + 1)) := by show _ = _; rw [HQ.out, List.take_succ_eq_append_getElem hin, List.append_assoc]
      generalize L1[i] = mi at *
      obtain ⟨W4, hW4⟩ : ∃ W4, W4 = wr.alloc (.cells (mgV mi) 58) := ⟨_, rfl⟩
      have k4 : Kp wr W4 non := by rw [hW4]; exact (Kp.refl wr non).alloc _
      have GG : Hid (W4.heap[wr.heap.size]? = some (.cells (mgV mi) 58)) := by rw [hW4]; exact heap_last _ _
      have O4 := hide (own_kp HO.out k4 (fun _ _ f => f))
      have K4 : Hid (Kp w W4 non) := HK.out.trans k4 (fun _ f => f.elim)
      clear k4
      go_wp2_with (first
        | refine wpList_load_mid rfl 58 (.tmp 17) rfl g (i * 11) rfl (mgV mi).toList _ RG.out Tryz.underlying58 rfl mg_info ?_
        | refine wpList_bsM rfl (.tmp 18) rfl mi rfl ?_
        | (at_builtin; rw [← hW4]; refine wpList_apM rfl (.tmp 14) (.tmp 19) rfl w.heap.size (.slice a5 QQ.length c5) QQ rfl O4.out wr.heap.size mi rfl GG.out hQl K4.out.size ?_; intro v' w' o2 g2; have O5 := hide o2; have K5 : Hid (Kp w w' non) := (K4.out.trans (Kp.of_grown g2) (fun k hk => Or.inr (own_ge O4.out hk.symm))); clear o2 g2))
      obtain ⟨a6, c6, rfl⟩ := own_sl O5.out
      go_roundw
      case rel => exact ⟨i + 1, a6, c6, QQ ++ [mi], by omega, by go_num, HQ1.out, by rw [List.length_append]; rfl, by rw [List.length_append]; exact O5.out, K5.out⟩
      case measure => simp [intOf]; omega
    case neg =>
      obtain rfl : i = L1.length := by omega
      go_wp2_with fail
      go_loopw [5, 7] (fun v5 vi wr => ∃ (i : Nat) (a5 : Option Addr) (c5 : Nat) (QQ : List Mg), i ≤ L2.length ∧ vi = .int .i64 (i : Int) ∧ QQ = L1 ++ L2.take i ∧ v5 = .slice a5 QQ.length c5 ∧ wr.ownsRow w.heap.size 58 11 (.slice a5 QQ.length c5) QQ.length (mgs QQ) ∧ Kp w wr non) (fun _ vi _ => L2.length - (intOf vi).toNat)
      case atStart => exact ⟨0, a5, c5, QQ, Nat.zero_le _, rfl, by rw [HQ.out, List.take_length]; simp, rfl, HO.out, HK.out⟩
      case round =>
        clear HQ HO HK
        obtain ⟨i, a5, c5, QQ, hi, rfl, hQ, rfl, ho, hk⟩ := hrel
        have HQ := hide hQ
        have HO := hide ho
        have HK := hide hk
        clear hQ ho hk
        by_cases hin : i < L2.length
        case pos =>
          have hii : (i : Int) < (L2.length : Int) := by omega
          have hQl : QQ.length ≤ 1000000000000 := by
            rw [HQ.out, List.length_append, List.length_take]
            (try simp only [List.length_nil])
            omega
          obtain ⟨g, gc, hg⟩ := own_g H2.out (by omega)
          injection hg with hg _ hgc
          subst hg
          subst hgc
          have RG := hide (mg_range (own_kp H2.out HK.out (fun _ _ f => f)) hin rfl)
          have HQ1 : Hid (QQ ++ [L2[i]] = L1 ++ L2.take (i + 1)) := by show _ = _; rw [HQ.out, List.take_succ_eq_append_getElem hin, List.append_assoc]
          generalize L2[i] = mi at *
          obtain ⟨W4, hW4⟩ : ∃ W4, W4 = wr.alloc (.cells (mgV mi) 58) := ⟨_, rfl⟩
          have k4 : Kp wr W4 non := by rw [hW4]; exact (Kp.refl wr non).alloc _
          have GG : Hid (W4.heap[wr.heap.size]? = some (.cells (mgV mi) 58)) := by rw [hW4]; exact heap_last _ _
          have O4 := hide (own_kp HO.out k4 (fun _ _ f => f))
          have K4 : Hid (Kp w W4 non) := HK.out.trans k4 (fun _ f => f.elim)
          clear k4
          go_wp2_with (first
            | refine wpList_load_mid rfl 58 (.tmp 30) rfl g (i * 11) rfl (mgV mi).toList _ RG.out Tryz.underlying58 rfl mg_info ?_
            | refine wpList_bsM rfl (.tmp 31) rfl mi rfl ?_
            | (at_builtin; rw [← hW4]; refine wpList_apM rfl (.tmp 27) (.tmp 32) rfl w.heap.size (.slice a5 QQ.length c5) QQ rfl O4.out wr.heap.size mi rfl GG.out hQl K4.out.size ?_; intro v' w' o2 g2; have O5 := hide o2; have K5 : Hid (Kp w w' non) := (K4.out.trans (Kp.of_grown g2) (fun k hk => Or.inr (own_ge O4.out hk.symm))); clear o2 g2))
          obtain ⟨a6, c6, rfl⟩ := own_sl O5.out
          go_roundw
          case rel => exact ⟨i + 1, a6, c6, QQ ++ [mi], by omega, by go_num, HQ1.out, by rw [List.length_append]; rfl, by rw [List.length_append]; exact O5.out, K5.out⟩
          case measure => simp [intOf]; omega
        case neg =>
          obtain rfl : i = L2.length := by omega
          go_wp2_with fail
          go_ret
          have HQe := HQ.out
          rw [List.take_length] at HQe
          exact ⟨_, rfl, by rw [← HQe]; exact HO.out, HK.out.below⟩
end Go.Proofs.YtndfhpfhgdamgaaGreatDoor.Cn
