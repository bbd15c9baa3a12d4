import Derived.Test.YtcmffbhfdlenkaaGreatDoorRuOwn
namespace Go.Proofs.YtcmffbhfdlenkaaGreatDoor.Cn
open Go.RowKit
set_option maxHeartbeats 4000000 in
set_option maxRecDepth 100000 in
theorem strClone_any (s : ByteArray) (w : World) (h : s.size ≤ 281474976710656) : Calls Tryz.prog 63 #[.string s] w fun e w' => e = .returned (.string s) ∧ Below w.heap.size w w' := by
  have CL := hide (Tryz.stringslite_Clone s w h)
  go_enter Tryz.func63, Tryz.ntmps63
  go_wp2_with fail
  refine Calls.mono CL.out ?_
  rintro e W1 ⟨rfl, hb⟩
  go_wp2_with fail
  go_ret
  exact ⟨rfl, hb⟩
section
variable {w w' : World} {R : Nat} {c : Cl} {P : List Gp} {v : Rv} {D M : Nat} {S S1 K : Nat → Prop} {ao : Option Addr} {nb no ncap : Nat} {pv : Nat → Value} {p : Gp}
/-- the ticket is counted on -/
theorem RtX.count (h : RtX w R c P v D M S1 K ao nb no ncap pv) : RtX (w.setCell ⟨R, 25, none⟩ (.int .i64 (v.last + 1))) R c P { v with last := v.last + 1 } D M S1 K ao nb no ncap pv := by
  have hk : Kp w (w.setCell ⟨R, 25, none⟩ (.int .i64 (v.last + 1))) (fun k => k = R) := (Kp.refl w (fun k => k = R)).set (Or.inl rfl) _ _
  refine ⟨?_, h.det.kp hk (fun k q e => h.det.not h.blk (by decide) (e ▸ q)), h.map.kp hk (fun e => h.map.kind (by rw [e]; exact h.blk)), h.nM, fun q hq => ?_, h.nod.kp hk (fun k q e => (h.nK q).1 e)⟩
  · rw [heap_setCell _ _ _ _ _ _ _ h.blk]
    rfl
  · obtain ⟨n1, n2, _⟩ := h.ne_b hq
    exact (h.gts q hq).kp hk (fun e => n1 e.symm) (fun e => n2 e.symm)
/-- a tick -/
theorem RtX.clock (h : RtX w R c P v D M S1 K ao nb no ncap pv) : RtX (w.setCell ⟨R, 24, none⟩ (.int .i64 (v.now + 1))) R c P { v with now := v.now + 1 } D M S1 K ao nb no ncap pv := by
  have hk : Kp w (w.setCell ⟨R, 24, none⟩ (.int .i64 (v.now + 1))) (fun k => k = R) := (Kp.refl w (fun k => k = R)).set (Or.inl rfl) _ _
  refine ⟨?_, h.det.kp hk (fun k q e => h.det.not h.blk (by decide) (e ▸ q)), h.map.kp hk (fun e => h.map.kind (by rw [e]; exact h.blk)), h.nM, fun q hq => ?_, h.nod.kp hk (fun k q e => (h.nK q).1 e)⟩
  · rw [heap_setCell _ _ _ _ _ _ _ h.blk]
    rfl
  · obtain ⟨n1, n2, _⟩ := h.ne_b hq
    exact (h.gts q hq).kp hk (fun e => n1 e.symm) (fun e => n2 e.symm)
theorem gtE_put {P : List Gp} {p : Gp} (h : ∀ q ∈ P, q.g.tk ≠ p.g.tk) : putt (gtE P) p.g.tk (.pointer (some ⟨p.b, 0, none⟩)) = gtE (P ++ [p]) := by
  unfold putt
  rw [filter_ne_all (fun e he => by obtain ⟨q, hq, rfl⟩ := gtE_mem he; exact h q hq)]
  unfold gtE
  rw [List.map_append]
  rfl
/-- a get more -/
theorem RtX.more (h : RtX w R c P v D M S1 K ao nb no ncap pv) (hg : GpAt w p) (hne : ∀ q ∈ P, q.g.tk ≠ p.g.tk) {X : World} (hm : Mp IT X M (putt (gtE P) p.g.tk (.pointer (some ⟨p.b, 0, none⟩)))) (hk : Kp w X (fun b => b = M)) : RtX X R c (P ++ [p]) v D M S1 K ao nb no ncap pv := by
  refine ⟨(hk.block _ (blk_lt h.blk) (fun e => h.map.kind (e ▸ h.blk))).trans h.blk, h.det.kp hk (fun k q e => h.nM (e ▸ q)), by rw [← gtE_put hne]; exact hm, h.nM, fun q hq => ?_, h.nod.kp hk (fun k q e => (h.nK q).2.1 e)⟩
  rcases List.mem_append.1 hq with hq | hq
  · obtain ⟨n1, n2, n3, n4, n5, _⟩ := h.ne_b hq
    exact (h.gts q hq).kp hk n4 n5
  · rw [List.mem_singleton.1 hq]
    exact hg.kp hk (fun e => h.map.kind (e ▸ hg.blk)) (fun e => h.map.kind (e ▸ hg.row))
end
theorem tab_kp {w w' : World} {S : Nat → Prop} (h : TabD w) (hk : Kp w w' S) (hG : ∀ k, S k → 3 ≤ k) : TabD w' := by
  have g0 : 0 < 3 := by decide
  have g1 : 1 < 3 := by decide
  have sz := h.sz
  exact ⟨Nat.le_trans h.sz hk.size, fun j hj => (hk.cell (by omega) (fun q => by have := hG _ q; omega)).trans (h.s j hj), fun j hj => (hk.cell (by omega) (fun q => by have := hG _ q; omega)).trans (h.t j hj)⟩
noncomputable def newG (c : Cl) (v : Rv) (key : ByteArray) : Gt := ⟨v.last + 1, key, ordL v.d (baseOf c key), 0, 0⟩
set_option maxHeartbeats 16000000 in
set_option maxRecDepth 100000 in
set_option linter.unusedSimpArgs false in
set_option linter.unusedVariables false in
theorem open_any {w : World} {S : Nat → Prop} {R : Nat} {c : Cl} {P : List Gp} {v : Rv} (h : RtAt w S R c P v) (hT : TabD w) (he : errP c.st c.x c.ns = 0) (hs : c.st.size ≤ 9223372036854775807) (key : ByteArray) (hk : ¬ (key.size = 0 ∨ 255 < key.size)) (hf : v.d.fits) (hen : v.d.enb) (hdn : v.d.n = c.ns.length) (h0 : 0 ≤ v.last) (h1 : v.last ≤ 4611686018427387904) (hP : ∀ p ∈ P, p.g.tk ≤ v.last) (hPl : P.length ≤ 1000000) (hG : ∀ k, S k → 3 ≤ k) :
    Calls Tryz.prog 48 #[.pointer (some ⟨R, 0, none⟩), .string key] w fun e w' => ∃ b gg S', e = .returned (.pointer (some ⟨b, 0, none⟩)) ∧ RtAt w' S' R c (P ++ [⟨newG c v key, b, gg⟩]) { v with last := v.last + 1 } ∧ Kp w w' S ∧ ∀ k, S' k → S k ∨ w.heap.size ≤ k := by
  obtain ⟨D, M, S1, Kb, ao, nb, no, ncap, pv, hx, hS⟩ := h
  have c25 := hx.cells.2.2.2.2.2.1
  have f25 := hx.fz 25
  have ew := wrap_in (x := v.last + 1) (by omega) (by omega)
  obtain ⟨W1, hW1⟩ : ∃ W1, W1 = w.setCell ⟨R, 25, none⟩ (.int .i64 (v.last + 1)) := ⟨_, rfl⟩
  have x1 : RtX W1 R c P { v with last := v.last + 1 } D M S1 Kb ao nb no ncap pv := by rw [hW1]; exact hx.count
  have k1 : Kp w W1 (fun k => k = R) := by rw [hW1]; exact (Kp.refl w (fun k => k = R)).set (Or.inl rfl) _ _
  have OWN : Hid (∀ X, RtX X R c P { v with last := v.last + 1 } D M S1 Kb ao nb no ncap pv → TabD X → Calls Tryz.prog 71 #[.pointer (some ⟨R, 0, none⟩), .string key] X fun e w' => ∃ g, e = .returned (.slice (some ⟨g, 0, none⟩) (ordL v.d (baseOf c key)).length (ordL v.d (baseOf c key)).length) ∧ Rw w' g (ordL v.d (baseOf c key)) ∧ (ordL v.d (baseOf c key)).length = (baseOf c key).length ∧ X.heap.size ≤ g ∧ Below X.heap.size X w') := fun X hX hTX => owners_any (S := RtS R M S1 Kb P) ⟨D, M, S1, Kb, ao, nb, no, ncap, pv, hX, fun _ => Iff.rfl⟩ hTX he hs key hk hf hen hdn
  have hT1 : TabD W1 := tab_kp hT k1 (fun k e => by rw [e]; exact hG R ((hS R).2 (Or.inl rfl)))
  have kd : Kp W1 W1.drew non := (Kp.refl W1 non).drew
  have CL := hide (strClone_any key W1.drew (by omega))
  have X1 := hide x1
  have T1 := hide hT1
  have K1 := hide k1
  have HS := hide hS
  have C1 : Hid (W1.cell? ⟨R, 25, none⟩ = some (.int .i64 (v.last + 1))) := x1.cells.2.2.2.2.2.1
  obtain ⟨od, hod⟩ : ∃ od, od = ordL v.d (baseOf c key) := ⟨_, rfl⟩
  have HN : Hid (newG c v key = ⟨v.last + 1, key, od, 0, 0⟩) := by rw [hod]; rfl
  rw [HN.out]
  rw [← hod] at OWN
  have HP : Hid (∀ q ∈ P, q.g.tk ≠ v.last + 1) := fun q hq e => by have := hP q hq; omega
  have HG := hide hG
  have SR : Hid (S R) := (hS R).2 (Or.inl rfl)
  generalize hla : v.last + 1 = la at *
  clear hx x1 hT1 k1 hS hP hod hG
  go_enter Tryz.func48, Tryz.ntmps48
  go_upto_region 2 with fail
  rw [← hW1]
  clear hW1 c25 f25
  refine wp_region_held_drew (S := fun X => X.cell? ⟨R, 25, none⟩ = some (.int .i64 la)) (by kernel_rfl) C1.out (fun hHeld => ?_)
  refine wpAnyH_take (i := 0) (v := (.pointer (some ⟨R, 0, none⟩))) rfl (by kernel_rfl) (by kernel_rfl) (by kernel_rfl) (fun _ _ _ h => h) (Or.inl ⟨by rfl, ?_⟩) (by assumption) ?_
  · intro w' hSw
    (try dsimp only at hSw)
    go_simp
  (try simp only [Act.put, List.getElem_toArray, List.getElem_cons_zero, List.getElem_cons_succ, List.setIfInBounds_toArray, List.set_cons_zero, List.set_cons_succ])
  refine wpAnyH_take (i := 1) (v := (.pointer (some ⟨R, 0, none⟩))) rfl (by kernel_rfl) (by kernel_rfl) (by kernel_rfl) (fun _ _ _ h => h) (Or.inl ⟨by rfl, ?_⟩) (by assumption) ?_
  · intro w' hSw
    (try dsimp only at hSw)
    go_simp
  (try simp only [Act.put, List.getElem_toArray, List.getElem_cons_zero, List.getElem_cons_succ, List.setIfInBounds_toArray, List.set_cons_zero, List.set_cons_succ])
  refine wpAnyH_take (i := 2) (v := (.pointer (some ⟨R, 25, none⟩))) rfl (by kernel_rfl) (by kernel_rfl) (by kernel_rfl) (fun _ _ _ h => h) (Or.inl ⟨by rfl, ?_⟩) (by assumption) ?_
  · intro w' hSw
    (try dsimp only at hSw)
    go_simp
  (try simp only [Act.put, List.getElem_toArray, List.getElem_cons_zero, List.getElem_cons_succ, List.setIfInBounds_toArray, List.set_cons_zero, List.set_cons_succ])
  refine wpAnyH_take (i := 3) (v := (.int .i64 la)) rfl (by kernel_rfl) (by kernel_rfl) (by kernel_rfl) (fun _ _ _ h => h) (Or.inl ⟨by rfl, ?_⟩) (by assumption) ?_
  · intro w' hSw
    (try dsimp only at hSw)
    go_simp
  (try simp only [Act.put, List.getElem_toArray, List.getElem_cons_zero, List.getElem_cons_succ, List.setIfInBounds_toArray, List.set_cons_zero, List.set_cons_succ])
  refine wpAnyH_take (i := 4) (v := (.string key)) rfl (by kernel_rfl) (by kernel_rfl) (by kernel_rfl) (fun _ _ _ h => h) (Or.inl ⟨by rfl, ?_⟩) (by assumption) ?_
  · intro w' hSw
    (try dsimp only at hSw)
    go_simp
  (try simp only [Act.put, List.getElem_toArray, List.getElem_cons_zero, List.getElem_cons_succ, List.setIfInBounds_toArray, List.set_cons_zero, List.set_cons_succ])
  refine wpAnyH_take (i := 6) (v := (.pointer (some ⟨R, 0, none⟩))) rfl (by kernel_rfl) (by kernel_rfl) (by kernel_rfl) (fun _ _ _ h => h) (Or.inl ⟨by rfl, ?_⟩) (by assumption) ?_
  · intro w' hSw
    (try dsimp only at hSw)
    go_simp
  (try simp only [Act.put, List.getElem_toArray, List.getElem_cons_zero, List.getElem_cons_succ, List.setIfInBounds_toArray, List.set_cons_zero, List.set_cons_succ])
  refine wpAnyH_take (i := 7) (v := (.string key)) rfl (by kernel_rfl) (by kernel_rfl) (by kernel_rfl) (fun _ _ _ h => h) (Or.inl ⟨by rfl, ?_⟩) (by assumption) ?_
  · intro w' hSw
    (try dsimp only at hSw)
    go_simp
  (try simp only [Act.put, List.getElem_toArray, List.getElem_cons_zero, List.getElem_cons_succ, List.setIfInBounds_toArray, List.set_cons_zero, List.set_cons_succ])
  refine wpAnyH_ready (rs := [5]) (by kernel_rfl) (by simp) ?_
  refine AllReadyH.cons rfl (fun K hK => ?_) AllReadyH.nil
  go_simp
  refine Calls.mono CL.out ?_
  rintro e W2 ⟨rfl, b2⟩
  have k2 : Kp W1 W2 non := kd.trans (Kp.of_below b2 non) (fun _ f => f.elim)
  have X2 := hide (X1.out.kp k2 (fun _ _ f => f))
  have T2 := hide (tab_kp T1.out k2 (fun _ f => f.elim))
  have C2 : Hid (W2.cell? ⟨R, 25, none⟩ = some (.int .i64 la)) := (k2.cell (blk_lt X1.out.blk) (fun f => f)).trans C1.out
  have OW := hide (OWN.out W2 X2.out T2.out)
  have K2 : Hid (Kp w W2 (fun k => k = R)) := K1.out.trans k2 (fun _ f => f.elim)
  clear b2 k2 CL OWN X1 T1 K1 kd C1
  refine hK.out _ _ (C2.out) (fun hHeld => ?_)
  clear hK
  (try simp only [Act.put, List.setIfInBounds_toArray, List.set_cons_zero, List.set_cons_succ])
  refine wpAnyH_ready (rs := [8]) (by kernel_rfl) (by simp) ?_
  refine AllReadyH.cons rfl (fun K hK => ?_) AllReadyH.nil
  go_simp
  refine Calls.mono OW.out ?_
  rintro e W3 ⟨gg, rfl, r3, l3, ge3, b3⟩
  have X3 := hide (X2.out.kp (Kp.of_below b3 non) (fun _ _ f => f))
  have C3 : Hid (W3.cell? ⟨R, 25, none⟩ = some (.int .i64 la)) := ((Kp.of_below b3 non).cell (blk_lt X2.out.blk) (fun f => f)).trans C2.out
  have K3 : Hid (Kp w W3 (fun k => k = R)) := K2.out.trans (Kp.of_below b3 non) (fun _ f => f.elim)
  have R3 := hide r3
  have GE : Hid (w.heap.size ≤ gg) := Nat.le_trans K2.out.size ge3
  obtain ⟨b, hb⟩ : ∃ b, b = W3.heap.size := ⟨_, rfl⟩
  obtain ⟨W4, hW4⟩ : ∃ W4, W4 = W3.alloc (.cells #[.int .i64 la, .string key, .slice (some ⟨gg, 0, none⟩) od.length od.length, .int .i64 0, .int .i64 0] 139) := ⟨_, rfl⟩
  have k4 : Kp W3 W4 non := by rw [hW4]; exact (Kp.refl W3 non).alloc _
  have X4 := hide (X3.out.kp k4 (fun _ _ f => f))
  have G4 : Hid (GpAt W4 ⟨⟨la, key, od, 0, 0⟩, b, gg⟩) := ⟨by rw [hW4, hb]; exact heap_last _ _, (k4.block _ (blk_lt r3) (fun f => f)).trans r3⟩
  have C4 : Hid (W4.cell? ⟨R, 25, none⟩ = some (.int .i64 la)) := (k4.cell (blk_lt X3.out.blk) (fun f => f)).trans C3.out
  have K4 : Hid (Kp w W4 (fun k => k = R)) := K3.out.trans k4 (fun _ f => f.elim)
  have GB : Hid (w.heap.size ≤ b) := by rw [hb]; exact K3.out.size
  clear r3 l3 ge3 b3 OW k4 X2 T2 K2 C2
  refine hK.out _ _ (C3.out) (fun hHeld => ?_)
  clear hK
  (try simp only [Act.put, List.setIfInBounds_toArray, List.set_cons_zero, List.set_cons_succ])
  refine wpAnyH_take (i := 9) (v := (.agg #[.int .i64 la, .string key, .slice (some ⟨gg, 0, none⟩) od.length od.length, .int .i64 0, .int .i64 0])) rfl (by kernel_rfl) (by kernel_rfl) (by kernel_rfl) (fun _ _ _ h => h) (Or.inl ⟨by rfl, ?_⟩) (by assumption) ?_
  · intro w' hSw
    (try dsimp only at hSw)
    (exact exec_blR 139 _ rfl _ (by kernel_rfl))
  (try simp only [Act.put, List.getElem_toArray, List.getElem_cons_zero, List.getElem_cons_succ, List.setIfInBounds_toArray, List.set_cons_zero, List.set_cons_succ])
  refine wpAnyH_ready (rs := [10]) (by kernel_rfl) (by simp) ?_
  refine AllReadyH.cons rfl (fun K hK => ?_) AllReadyH.nil
  go_simp
  rw [← hW4, ← hb]
  clear hW4 hb
  refine hK.out _ _ (C4.out) (fun hHeld => ?_)
  clear hK
  (try simp only [Act.put, List.setIfInBounds_toArray, List.set_cons_zero, List.set_cons_succ])
  refine wpAnyH_ready (rs := [11]) (by kernel_rfl) (by simp) ?_
  refine AllReadyH.cons rfl (fun K hK => ?_) AllReadyH.nil
  go_simp
  refine hK.out _ _ (C4.out) (fun hHeld => ?_)
  clear hK
  (try simp only [Act.put, List.setIfInBounds_toArray, List.set_cons_zero, List.set_cons_succ])
  refine wpAnyH_done (by kernel_rfl) ?_ _
  have m26 := X4.out.cells.2.2.2.2.2.2
  obtain ⟨X5, R5, m5, k5⟩ := Mp.put (X4.out.map.kp ((Kp.refl W4 non).drew) (fun f => f)) Tryz.underlying83 (k := la) ⟨by omega, by omega⟩ (.pointer (some ⟨b, 0, none⟩)) (by unfold gtE; rw [List.length_map]; unfold maxLen; omega)
  have R5 : (Instr.mapUpdate 83 (.map (some M)) (.int .i64 la) (.pointer (some ⟨b, 0, none⟩))).run Tryz.prog W4.drew = .ok () X5 := R5
  have kd5 : Kp W4 X5 (fun q => q = M) := ((Kp.refl W4 (fun q => q = M)).drew).trans k5 (fun _ e => Or.inl e)
  have X6 := hide (X4.out.more G4.out (p := ⟨⟨la, key, od, 0, 0⟩, b, gg⟩) (fun q hq => HP.out q hq) m5 kd5)
  have hRM : R ≠ M := fun e => X4.out.map.kind (e ▸ X4.out.blk)
  have hbM : b ≠ M := fun e => X4.out.map.kind (e ▸ G4.out.blk)
  have D4 : Hid (W4.cell? ⟨R, 26, none⟩ = some (.map (some M)) ∧ W4.cell? ⟨b, 0, none⟩ = some (.int .i64 la)) := ⟨m26, G4.out.cells.1⟩
  have D5 : Hid (X5.cell? ⟨R, 26, none⟩ = some (.map (some M)) ∧ X5.cell? ⟨b, 0, none⟩ = some (.int .i64 la)) := ⟨(kd5.cell (blk_lt X4.out.blk) hRM).trans m26, (kd5.cell (blk_lt G4.out.blk) hbM).trans G4.out.cells.1⟩
  have K6 : Hid (Kp w X5 S) := (K4.out.mono (T := S) (fun k e => by rw [e]; exact SR.out)).trans kd5 (fun k e => Or.inl (by rw [e]; exact (HS.out M).2 (Or.inr (Or.inr (Or.inl rfl)))))
  clear m5 k5 kd5 m26 C3 C4 hHeld
  go_upto_region 3 with fail
  refine wp_region_held_drew (S := fun X => X.cell? ⟨R, 26, none⟩ = some (.map (some M)) ∧ X.cell? ⟨b, 0, none⟩ = some (.int .i64 la)) (by kernel_rfl) D4.out (fun hHeld => ?_)
  refine wpAnyH_take (i := 0) (v := (.pointer (some ⟨R, 0, none⟩))) rfl (by kernel_rfl) (by kernel_rfl) (by kernel_rfl) (fun _ _ _ h => h) (Or.inl ⟨by rfl, ?_⟩) (by assumption) ?_
  · intro w' hSw
    (try dsimp only at hSw)
    go_simp
  (try simp only [Act.put, List.getElem_toArray, List.getElem_cons_zero, List.getElem_cons_succ, List.setIfInBounds_toArray, List.set_cons_zero, List.set_cons_succ])
  refine wpAnyH_take (i := 1) (v := (.pointer (some ⟨R, 0, none⟩))) rfl (by kernel_rfl) (by kernel_rfl) (by kernel_rfl) (fun _ _ _ h => h) (Or.inl ⟨by rfl, ?_⟩) (by assumption) ?_
  · intro w' hSw
    (try dsimp only at hSw)
    go_simp
  (try simp only [Act.put, List.getElem_toArray, List.getElem_cons_zero, List.getElem_cons_succ, List.setIfInBounds_toArray, List.set_cons_zero, List.set_cons_succ])
  refine wpAnyH_take (i := 2) (v := (.pointer (some ⟨R, 26, none⟩))) rfl (by kernel_rfl) (by kernel_rfl) (by kernel_rfl) (fun _ _ _ h => h) (Or.inl ⟨by rfl, ?_⟩) (by assumption) ?_
  · intro w' hSw
    (try dsimp only at hSw)
    go_simp
  (try simp only [Act.put, List.getElem_toArray, List.getElem_cons_zero, List.getElem_cons_succ, List.setIfInBounds_toArray, List.set_cons_zero, List.set_cons_succ])
  refine wpAnyH_take (i := 3) (v := (.map (some M))) rfl (by kernel_rfl) (by kernel_rfl) (by kernel_rfl) (fun _ _ _ h => h) (Or.inl ⟨by rfl, ?_⟩) (by assumption) ?_
  · intro w' hSw
    (try dsimp only at hSw)
    (have hs1 := hSw.1; go_simp)
  (try simp only [Act.put, List.getElem_toArray, List.getElem_cons_zero, List.getElem_cons_succ, List.setIfInBounds_toArray, List.set_cons_zero, List.set_cons_succ])
  refine wpAnyH_take (i := 4) (v := (.pointer (some ⟨b, 0, none⟩))) rfl (by kernel_rfl) (by kernel_rfl) (by kernel_rfl) (fun _ _ _ h => h) (Or.inl ⟨by rfl, ?_⟩) (by assumption) ?_
  · intro w' hSw
    (try dsimp only at hSw)
    go_simp
  (try simp only [Act.put, List.getElem_toArray, List.getElem_cons_zero, List.getElem_cons_succ, List.setIfInBounds_toArray, List.set_cons_zero, List.set_cons_succ])
  refine wpAnyH_take (i := 5) (v := (.pointer (some ⟨b, 0, none⟩))) rfl (by kernel_rfl) (by kernel_rfl) (by kernel_rfl) (fun _ _ _ h => h) (Or.inl ⟨by rfl, ?_⟩) (by assumption) ?_
  · intro w' hSw
    (try dsimp only at hSw)
    go_simp
  (try simp only [Act.put, List.getElem_toArray, List.getElem_cons_zero, List.getElem_cons_succ, List.setIfInBounds_toArray, List.set_cons_zero, List.set_cons_succ])
  refine wpAnyH_take (i := 6) (v := (.pointer (some ⟨b, 0, none⟩))) rfl (by kernel_rfl) (by kernel_rfl) (by kernel_rfl) (fun _ _ _ h => h) (Or.inl ⟨by rfl, ?_⟩) (by assumption) ?_
  · intro w' hSw
    (try dsimp only at hSw)
    go_simp
  (try simp only [Act.put, List.getElem_toArray, List.getElem_cons_zero, List.getElem_cons_succ, List.setIfInBounds_toArray, List.set_cons_zero, List.set_cons_succ])
  refine wpAnyH_take (i := 7) (v := (.int .i64 la)) rfl (by kernel_rfl) (by kernel_rfl) (by kernel_rfl) (fun _ _ _ h => h) (Or.inl ⟨by rfl, ?_⟩) (by assumption) ?_
  · intro w' hSw
    (try dsimp only at hSw)
    (have hs2 := hSw.2; go_simp)
  (try simp only [Act.put, List.getElem_toArray, List.getElem_cons_zero, List.getElem_cons_succ, List.setIfInBounds_toArray, List.set_cons_zero, List.set_cons_succ])
  refine wpAnyH_take (i := 8) (v := (.pointer (some ⟨b, 0, none⟩))) rfl (by kernel_rfl) (by kernel_rfl) (by kernel_rfl) (fun _ _ _ h => h) (Or.inl ⟨by rfl, ?_⟩) (by assumption) ?_
  · intro w' hSw
    (try dsimp only at hSw)
    go_simp
  (try simp only [Act.put, List.getElem_toArray, List.getElem_cons_zero, List.getElem_cons_succ, List.setIfInBounds_toArray, List.set_cons_zero, List.set_cons_succ])
  refine wpAnyH_ready (rs := [9]) (by kernel_rfl) (by simp) ?_
  refine AllReadyH.cons rfl (fun K hK => ?_) AllReadyH.nil
  go_simp
  refine hK.out _ _ (D5.out) (fun hHeld => ?_)
  clear hK
  (try simp only [Act.put, List.setIfInBounds_toArray, List.set_cons_zero, List.set_cons_succ])
  refine wpAnyH_done (by kernel_rfl) ?_ _
  go_wp2_with fail
  go_ret
  refine ⟨b, gg, RtS R M S1 Kb (P ++ [⟨⟨la, key, od, 0, 0⟩, b, gg⟩]), rfl, ⟨D, M, S1, Kb, ao, nb, no, ncap, pv, X6.out, fun _ => Iff.rfl⟩, K6.out, fun k hk => ?_⟩
  rcases hk with q | q | q | q | ⟨p, hp, q⟩
  · exact Or.inl ((HS.out k).2 (Or.inl q))
  · exact Or.inl ((HS.out k).2 (Or.inr (Or.inl q)))
  · exact Or.inl ((HS.out k).2 (Or.inr (Or.inr (Or.inl q))))
  · exact Or.inl ((HS.out k).2 (Or.inr (Or.inr (Or.inr (Or.inl q)))))
  · rcases List.mem_append.1 hp with hp | hp
    · exact Or.inl ((HS.out k).2 (Or.inr (Or.inr (Or.inr (Or.inr ⟨p, hp, q⟩)))))
    · rw [List.mem_singleton.1 hp] at q
      have := GE.out
      have := GB.out
      rcases q with q | q
      · exact Or.inr (by rw [q]; exact GB.out)
      · exact Or.inr (by rw [q]; exact GE.out)
end Go.Proofs.YtcmffbhfdlenkaaGreatDoor.Cn
namespace Go.Proofs.YtcmffbhfdlenkaaGreatDoor.Cn
open Go.RowKit
/-- texts that can be read -/
structure KsAt (w : World) (ao : Option Addr) (b o : Nat) (ks : List ByteArray) : Prop where
  at0 : 0 < ks.length → ao = some ⟨b, o, none⟩
  cell : ∀ i (h : i < ks.length), w.cell? ⟨b, o + i, none⟩ = some (.string ks[i])
  len : ks.length ≤ 1000000000000000
  sz : ∀ k ∈ ks, k.size ≤ 9223372036854775807
theorem KsAt.kp {w w' : World} {ao : Option Addr} {b o : Nat} {ks : List ByteArray} (h : KsAt w ao b o ks) {S : Nat → Prop} (hk : Kp w w' S) (hS : 0 < ks.length → ¬ S b) : KsAt w' ao b o ks :=
  ⟨h.at0, fun i hi => (hk.cell (World.block_lt_of_cell? w _ (h.cell i hi)) (hS (by omega))).trans (h.cell i hi), h.len, h.sz⟩
def badK (k : ByteArray) : Bool := decide (k.size = 0 ∨ 255 < k.size)
def mayE (n : Nat) (ks : List ByteArray) : Int := if ks.any badK then 32 else if 64 < n + ks.length then 170 else 0
theorem size_zero {k : ByteArray} (h : k.size = 0) : k = ⟨#[]⟩ := by
  cases k with
  | mk d =>
    have : d.size = 0 := h
    rw [Array.size_eq_zero_iff.1 this]
set_option maxHeartbeats 4000000 in
set_option maxRecDepth 100000 in
set_option linter.unusedSimpArgs false in
set_option linter.unusedVariables false in
theorem none_r {w : World} {S : Nat → Prop} {R : Nat} {c : Cl} {P : List Gp} {v : Rv} (h : RtAt w S R c P v) :
    Calls Tryz.prog 42 #[.pointer (some ⟨R, 0, none⟩)] w fun e w' => e = .returned (.bool false) ∧ w = w' := by
  obtain ⟨D, M, S1, Kb, ao, nb, no, ncap, pv, hx, hS⟩ := h
  have c23 := hx.cells.2.2.2.1
  clear hx hS
  go_enter Tryz.func42, Tryz.ntmps42
  go_wp2_with fail
  go_ret
  exact ⟨rfl, rfl⟩
set_option maxHeartbeats 4000000 in
set_option maxRecDepth 100000 in
set_option linter.unusedSimpArgs false in
set_option linter.unusedVariables false in
theorem none_rnil (w : World) : Calls Tryz.prog 42 #[.pointer none] w fun e w' => e = .returned (.bool true) ∧ w = w' := by
  go_enter Tryz.func42, Tryz.ntmps42
  go_wp2_with fail
  go_ret
  exact ⟨rfl, rfl⟩
theorem Mp.rlen {w : World} {M : Nat} {P : List Gp} (h : Mp IT w M (gtE P)) (ty : TypeId) : (Builtin.len_ #[83] ty #[.map (some M)]).run Tryz.prog w = .ok (.int .i64 (P.length : Int)) w := by
  obtain ⟨es, clock, hb, hr⟩ := h
  have hsz : es.size = P.length := by
    have := hr.pm.length_eq
    simpa [kvs, enL, gtE] using this
  have hm := hr.sz
  simp [Builtin.len_, run_underlying Tryz.underlying83, MapKept.run_getObj_map hb, hsz, goInt]
theorem any_take {f : ByteArray → Bool} {l : List ByteArray} {i : Nat} (h : i < l.length) : (l.take (i + 1)).any f = ((l.take i).any f || f l[i]) := by
  rw [List.take_succ_eq_append_getElem h, List.any_append]
  simp
set_option maxHeartbeats 8000000 in
set_option maxRecDepth 100000 in
set_option linter.unusedSimpArgs false in
set_option linter.unusedVariables false in
theorem mayOpen_any {w : World} {S : Nat → Prop} {R : Nat} {c : Cl} {P : List Gp} {v : Rv} (h : RtAt w S R c P v) (hP : P.length ≤ 1000000) (ao : Option Addr) (b o cap : Nat) (ks : List ByteArray) (hk : KsAt w ao b o ks) :
    Calls Tryz.prog 46 #[.pointer (some ⟨R, 0, none⟩), .slice ao ks.length cap] w fun e w' => e = .returned (.int .i64 (mayE P.length ks)) ∧ w = w' := by
  have NO := hide (none_r h)
  obtain ⟨D, M, S1, Kb, ao', nb, no, ncap, pv, hx, hS⟩ := h
  have c26 := hx.cells.2.2.2.2.2.2
  have LN := hx.map.rlen 3
  have hl := hk.len
  have KS := hide hk
  have HM : Hid (mayE P.length ks = if ks.any badK then 32 else if 64 < P.length + ks.length then 170 else 0) := rfl
  generalize mayE P.length ks = me at *
  generalize P.length = pn at *
  clear hx hS hk
  go_enter Tryz.func46, Tryz.ntmps46
  go_wp2_with fail
  refine Calls.mono NO.out ?_
  rintro e W1 ⟨rfl, rfl⟩
  clear NO
  go_wp2_with fail
  go_loopw [6, 11] (fun _ vi wr => w = wr ∧ ∃ (i : Nat), i ≤ ks.length ∧ vi = .int .i64 (i : Int) ∧ Hid ((ks.take i).any badK = false)) (fun _ vi _ => ks.length - (intOf vi).toNat)
  case atStart => exact ⟨rfl, 0, Nat.zero_le _, rfl, rfl⟩
  case round =>
    obtain ⟨rfl, i, hi, rfl, HC⟩ := hrel
    by_cases hin : i < ks.length
    case pos =>
      have hii : (i : Int) < (ks.length : Int) := by omega
      have c1 := KS.out.cell i hin
      obtain rfl := KS.out.at0 (by omega)
      have hsz := KS.out.sz ks[i] (List.getElem_mem hin)
      have HT := any_take (f := badK) hin
      have HB : Hid (badK ks[i] = true → ks.any badK = true) := fun q => List.any_eq_true.2 ⟨ks[i], List.getElem_mem hin, q⟩
      have HQ : Hid (badK ks[i] = decide (ks[i].size = 0 ∨ 255 < ks[i].size)) := rfl
      generalize ks[i] = key at *
      by_cases h0 : key.size = 0
      · have hz := size_zero h0
        subst hz
        go_wp2_with fail
        go_ret
        exact ⟨by rw [HM.out, HB.out (by rw [HQ.out]; decide), if_pos rfl]; rfl, rfl⟩
      · have hne : (key.toList == (⟨#[]⟩ : ByteArray).toList) = false := by
          rw [eq_beq]
          exact decide_eq_false (fun e => h0 (by rw [e]; rfl))
        have hnil : (⟨#[]⟩ : ByteArray).toList = [] := by kernel_rfl
        rw [hnil] at hne
        have hne3 : ¬ key.toList = [] := fun e => by rw [e] at hne; simp at hne
        have hne2 : key.toList.isEmpty = false := by
          cases hk : key.toList with
          | nil => exact absurd hk hne3
          | cons a r => rfl
        by_cases h1 : 255 < key.size
        · have h1' : (255 : Int) < (key.size : Int) := by omega
          go_wp2_with fail
          go_ret
          exact ⟨by rw [HM.out, HB.out (by rw [HQ.out]; exact decide_eq_true (Or.inr h1)), if_pos rfl]; rfl, rfl⟩
        · have h1' : ¬ (255 : Int) < (key.size : Int) := by omega
          go_wp2_with fail
          go_roundw
          case rel => exact ⟨by first | trivial | rfl, i + 1, by omega, by go_num, by rw [HT, HC.out, HQ.out, decide_eq_false (by omega)]; exact rfl⟩
          case measure => simp [intOf]; omega
    case neg =>
      obtain rfl : i = ks.length := by omega
      have HC' := HC.out
      rw [List.take_length] at HC'
      have hw := wrap_in (x := (pn : Int) + (ks.length : Int)) (by omega) (by omega)
      by_cases h64 : 64 < pn + ks.length
      · have h64' : (64 : Int) < (pn : Int) + (ks.length : Int) := by omega
        have HMM : Hid (me = 170) := by rw [HM.out, HC', if_neg (by decide), if_pos h64]; exact rfl
        clear HC' HC HM
        go_wp2_with fail
        go_ret
        exact ⟨by rw [HMM.out]; rfl, rfl⟩
      · have h64' : ¬ (64 : Int) < (pn : Int) + (ks.length : Int) := by omega
        have HMM : Hid (me = 0) := by rw [HM.out, HC', if_neg (by decide), if_neg h64]; exact rfl
        clear HC' HC HM
        go_wp2_with fail
        go_ret
        exact ⟨by rw [HMM.out]; rfl, rfl⟩
end Go.Proofs.YtcmffbhfdlenkaaGreatDoor.Cn
