import Derived.Test.YtndfhpfhgdamgaaGreatDoorGRuMay
import Derived.Lib.SliceRun
namespace Go.Proofs.YtndfhpfhgdamgaaGreatDoor.Cn
open Go.RowKit
set_option maxHeartbeats 16000000 in
set_option maxRecDepth 100000 in
set_option linter.unusedSimpArgs false in
set_option linter.unusedVariables false in
theorem Take_any {w : World} {S : Nat → Prop} {R : Nat} {c : Cl} {P : List Gp} {v : Rv} {mm : Nat} (h : RtAt w S R c P v) (hok : Ok c (P.map (·.g)) v mm) (hl : v.last ≤ 1000000000000000) (m : Mg) (hid : tkOk m.id) (hm : ¬ (m.td ≠ 65 ∨ (m.kind ≠ 12 ∧ m.kind ≠ 2))) (hn : 0 ≤ m.fr ∧ m.fr < (v.d.n : Int)) :
    Calls Tryz.prog 30 #[.pointer (some ⟨R, 0, none⟩), .agg (mgV m)] w fun e w' => ∃ S' P' vo ve, e = .returned (.tuple #[vo, ve, .int .i64 0]) ∧ RtAt w' S' R c P' { v with d := v.d.good m.fr } ∧ P'.map (·.g) = takeG (P.map (·.g)) v.now m ∧ w'.ownsRow w.heap.size 58 11 vo (takeM (P.map (·.g)) v.now m).length (mgs (takeM (P.map (·.g)) v.now m)) ∧ w'.ownsRow w.heap.size 96 6 ve (takeO (P.map (·.g)) m).length (ocs (takeO (P.map (·.g)) m)) ∧ Kp w w' S ∧ ∀ k, S' k → S k := by
  have hf := hok.up.ft
  have hg : ∀ p ∈ P, 1 ≤ p.g.asked ∧ p.g.asked ≤ p.g.ow.length ∧ p.g.ow.length ≤ 300 := fun p hp => by
    have := hok.ask p.g (List.mem_map.2 ⟨p, hp, rfl⟩)
    have l0 : 1 ≤ c.x 0 ∧ c.x 0 ≤ 16 := sfP_lim (errP_all hok.err).2.1 0 (by omega)
    omega
  have htk : ∀ p ∈ P, tkOk p.g.tk := fun p hp => by
    have := hok.tks p.g (List.mem_map.2 ⟨p, hp, rfl⟩)
    unfold tkOk
    omega
  obtain ⟨W0, hW0⟩ : ∃ W0, W0 = w.alloc (.cells (mgV m) 58) := ⟨_, rfl⟩
  obtain ⟨B0, hB0⟩ : ∃ B0, B0 = w.heap.size := ⟨_, rfl⟩
  have k0 : Kp w W0 non := by rw [hW0]; exact (Kp.refl w non).alloc _
  have m0 : MgAt W0 B0 m := by rw [hW0, hB0]; exact MgAt.new w m
  obtain ⟨b0, b1, b2, _⟩ := m0.cells
  have NO := hide (none_r (h.kp k0 (fun _ _ f => f)))
  have sB : ∀ k, S k → k ≠ B0 := fun k q e => by have := h.lt q; omega
  obtain ⟨D, M, S1, Kb, ao, nb, no, ncap, pv, hx, hS⟩ := h
  have x0 := hx.kp k0 (fun _ _ f => f)
  have GD := Good_all (x0.det.kp ((Kp.refl W0 non).drew) (fun _ _ f => f)) hf m.fr
  have C0 : Hid (W0.cell? ⟨R, 23, none⟩ = some (.pointer (some ⟨D, 0, none⟩)) ∧ W0.cell? ⟨B0, 1, none⟩ = some (.int .i64 m.fr)) := ⟨x0.cells.2.2.2.1, b1⟩
  have nR : Hid (¬ S1 R) := x0.det.not x0.blk (by decide)
  have nB : Hid (¬ S1 B0) := fun q => sB B0 ((hS B0).2 (Or.inr (Or.inl q))) rfl
  have X0 := hide x0
  have K0 := hide k0
  have M0 := hide m0
  have HB0 := hide hB0
  have HS := hide hS
  have hm1 : m.td = 65 := by omega
  have hm2 : m.kind = 12 ∨ m.kind = 2 := by omega
  rw [hm1] at b2
  rw [show chk1 v.d.n m.fr = 0 from if_pos hn, show v.d.does 1 m.fr = v.d.good m.fr by unfold Dt.does; rw [if_pos rfl, if_pos hn]] at GD
  have GOOD := hide GD
  clear GD
  have HM2 := hide hm2
  obtain ⟨v', hv'⟩ : ∃ v', v' = { v with d := v.d.good m.fr } := ⟨_, rfl⟩
  have hnow : v'.now = v.now := by rw [hv']
  rw [← hv']
  have HV' := hide hv'
  have AK := askP_g P m
  obtain ⟨TG, hTG⟩ : ∃ TG, TG = takeG (P.map (·.g)) v.now m := ⟨_, rfl⟩
  obtain ⟨TM, hTM⟩ : ∃ TM, TM = takeM (P.map (·.g)) v.now m := ⟨_, rfl⟩
  obtain ⟨TO, hTO⟩ : ∃ TO, TO = takeO (P.map (·.g)) m := ⟨_, rfl⟩
  rw [← hTG, ← hTM, ← hTO]
  unfold takeG at hTG
  unfold takeM at hTM
  unfold takeO at hTO
  rw [← AK] at hTG hTM hTO
  have ASK : Hid (∀ X, RtX X R c P v' D M S1 Kb ao nb no ncap pv → Calls Tryz.prog 55 #[.pointer (some ⟨R, 0, none⟩), .agg (mgV m)] X fun e w' => e = .returned (ptrP (askP P m)) ∧ Kp X w' non) := fun X hX => asker_any (S := RtS R M S1 Kb P) ⟨D, M, S1, Kb, ao, nb, no, ncap, pv, hX, fun _ => Iff.rfl⟩ m hid (fun p hp => ⟨(hg p hp).2.1, (hg p hp).2.2⟩)
  have HEA : Hid (∀ (X : World) (N : Nat → Prop) (Nb : Nat) (p : Gp), p ∈ P → RtX X R c P v' D M S1 Kb ao nb no ncap pv → NwAt X w.heap.size N Nb [] [] → w.heap.size ≤ X.heap.size → Calls Tryz.prog 56 #[.pointer (some ⟨R, 0, none⟩), .pointer (some ⟨p.b, 0, none⟩), .agg (mgV m), .pointer (some ⟨Nb, 0, none⟩)] X fun e w' => e = .returned (.tuple #[]) ∧ Left X w' S N R w.heap.size Nb c (hearP P v.now p m) v' (hearM v.now p.g m) (hearE p.g m)) := fun X N Nb p hp hX hNX hsz => by
    have := hear_any (S := S) ⟨D, M, S1, Kb, ao, nb, no, ncap, pv, hX, hS⟩ hp hNX (by simp) (by simp) (htk p hp) hsz (hg p hp).1 (hg p hp).2.1 (hg p hp).2.2 m
    rw [hnow, List.nil_append, List.nil_append] at this
    exact this
  have PM : Hid (∀ p, askP P m = some p → p ∈ P) := fun p hp => (askP_mem hp).1
  generalize hkd : m.kind = kd at *
  have q12 : kd = 12 ∨ kd = 2 := HM2.out
  clear hok hg htk AK
  rcases q12 with rfl | rfl
  all_goals
    clear m0 k0 hB0 hx x0 hS b1
    go_enter Tryz.func30, Tryz.ntmps30
    go_upto_region 1 with fail
    rw [← hW0, ← HB0.out]
    clear hW0
    go_wp2_with fail
    refine Calls.mono NO.out ?_
    rintro e W1 ⟨rfl, rfl⟩
    clear NO
    go_upto_region 5 with fail
    refine wp_region_held_drew (S := fun X => X.cell? ⟨R, 23, none⟩ = some (.pointer (some ⟨D, 0, none⟩)) ∧ X.cell? ⟨B0, 1, none⟩ = some (.int .i64 m.fr)) (by kernel_rfl) C0.out (fun hHeld => ?_)
    refine wpAnyH_take (i := 0) (v := (.pointer (some ⟨R, 0, none⟩))) rfl (by kernel_rfl) (by kernel_rfl) (by kernel_rfl) (fun _ _ _ h => h) (Or.inl ⟨by rfl, ?_⟩) (by assumption) ?_
    · intro w' hSw
      (try dsimp only at hSw)
      go_simp
    (try simp only [Act.put, List.getElem_toArray, List.getElem_cons_zero, List.getElem_cons_succ, List.setIfInBounds_toArray, List.set_cons_zero, List.set_cons_succ])
    refine wpAnyH_take (i := 1) (v := (.pointer (some ⟨R, 0, none⟩))) rfl (by kernel_rfl) (by kernel_rfl) (by kernel_rfl) (fun _ _ _ h => h) (Or.inl ⟨by rfl, ?_⟩) (by assumption) ?_
    · intro w' hSw
      (try dsimp only at hSw)
      go_simp
    (try simp only [Act.put, List.getElem_toArray, List.getElem_cons_zero, List.getElem_cons_succ, List.setIfInBounds_toArray, List.set_cons_zero, List.set_cons_succ])
    refine wpAnyH_take (i := 2) (v := (.pointer (some ⟨R, 23, none⟩))) rfl (by kernel_rfl) (by kernel_rfl) (by kernel_rfl) (fun _ _ _ h => h) (Or.inl ⟨by rfl, ?_⟩) (by assumption) ?_
    · intro w' hSw
      (try dsimp only at hSw)
      go_simp
    (try simp only [Act.put, List.getElem_toArray, List.getElem_cons_zero, List.getElem_cons_succ, List.setIfInBounds_toArray, List.set_cons_zero, List.set_cons_succ])
    refine wpAnyH_take (i := 3) (v := (.pointer (some ⟨D, 0, none⟩))) rfl (by kernel_rfl) (by kernel_rfl) (by kernel_rfl) (fun _ _ _ h => h) (Or.inl ⟨by rfl, ?_⟩) (by assumption) ?_
    · intro w' hSw
      (try dsimp only at hSw)
      (have hs1 := hSw.1; go_simp)
    (try simp only [Act.put, List.getElem_toArray, List.getElem_cons_zero, List.getElem_cons_succ, List.setIfInBounds_toArray, List.set_cons_zero, List.set_cons_succ])
    refine wpAnyH_take (i := 4) (v := (.pointer (some ⟨B0, 1, none⟩))) rfl (by kernel_rfl) (by kernel_rfl) (by kernel_rfl) (fun _ _ _ h => h) (Or.inl ⟨by rfl, ?_⟩) (by assumption) ?_
    · intro w' hSw
      (try dsimp only at hSw)
      go_simp
    (try simp only [Act.put, List.getElem_toArray, List.getElem_cons_zero, List.getElem_cons_succ, List.setIfInBounds_toArray, List.set_cons_zero, List.set_cons_succ])
    refine wpAnyH_take (i := 5) (v := (.int .i64 m.fr)) rfl (by kernel_rfl) (by kernel_rfl) (by kernel_rfl) (fun _ _ _ h => h) (Or.inl ⟨by rfl, ?_⟩) (by assumption) ?_
    · intro w' hSw
      (try dsimp only at hSw)
      (have hs2 := hSw.2; go_simp)
    (try simp only [Act.put, List.getElem_toArray, List.getElem_cons_zero, List.getElem_cons_succ, List.setIfInBounds_toArray, List.set_cons_zero, List.set_cons_succ])
    refine wpAnyH_ready (rs := [6]) (by kernel_rfl) (by simp) ?_
    refine AllReadyH.cons rfl (fun K hK => ?_) AllReadyH.nil
    go_simp
    refine Calls.mono GOOD.out ?_
    rintro e W2 ⟨rfl, dt2, kk2⟩
    have k2 : Kp W0 W2 S1 := ((Kp.refl W0 S1).drew).trans kk2 (fun _ q => Or.inl q)
    have x2 := X0.out.watch dt2 k2
    rw [← HV'.out] at x2
    have X2 := hide x2
    clear x2
    have M2 : Hid (MgAt W2 B0 m) := M0.out.keep k2 nB.out
    have C2 : Hid (W2.cell? ⟨R, 23, none⟩ = some (.pointer (some ⟨D, 0, none⟩)) ∧ W2.cell? ⟨B0, 1, none⟩ = some (.int .i64 m.fr)) := ⟨X2.out.cells.2.2.2.1, M2.out.cells.2.1⟩
    have K2 : Hid (Kp w W2 S) := (K0.out.mono (T := S) (fun _ f => f.elim)).trans k2 (fun k q => Or.inl ((HS.out k).2 (Or.inr (Or.inl q))))
    clear dt2 kk2 k2 GOOD M0 X0
    refine hK.out _ _ (C2.out) (fun hHeld => ?_)
    clear hK
    (try simp only [Act.put, List.setIfInBounds_toArray, List.set_cons_zero, List.set_cons_succ])
    refine wpAnyH_ready (rs := [7]) (by kernel_rfl) (by simp) ?_
    refine AllReadyH.cons rfl (fun K hK => ?_) AllReadyH.nil
    go_simp
    refine hK.out _ _ (C2.out) (fun hHeld => ?_)
    clear hK
    (try simp only [Act.put, List.setIfInBounds_toArray, List.set_cons_zero, List.set_cons_succ])
    refine wpAnyH_done (by kernel_rfl) ?_ _
    obtain ⟨Nb, hNb⟩ : ∃ Nb, Nb = W2.heap.size := ⟨_, rfl⟩
    obtain ⟨W3, hW3⟩ : ∃ W3, W3 = W2.alloc (.cells #[.slice none 0 0, .slice none 0 0] 102) := ⟨_, rfl⟩
    have k3 : Kp W2 W3 non := by rw [hW3]; exact (Kp.refl W2 non).alloc _
    have X3 := hide (X2.out.kp k3 (fun _ _ f => f))
    have M3 : Hid (MgAt W3 B0 m) := M2.out.keep k3 (fun f => f)
    have K3 : Hid (Kp w W3 S) := K2.out.trans k3 (fun _ f => f.elim)
    have N3 : Hid (NwAt W3 w.heap.size (NwS Nb (.slice none 0 0) (.slice none 0 0)) Nb [] []) := ⟨_, _, ⟨by rw [hW3, hNb]; exact heap_last _ _, by rw [hNb]; exact K2.out.size, World.ownsRow_nil _ _ _ _, World.ownsRow_nil _ _ _ _⟩, fun _ => Iff.rfl⟩
    have ASK3 := hide (ASK.out W3 X3.out)
    clear k3 C2 X2 M2 K2 ASK
    go_upto_region 9 with fail
    rw [← hW3, ← hNb]
    clear hW3 hNb
    go_wp2_with (refine wpList_ldM rfl (.tmp 3) rfl m B0 rfl M3.out ?_)
    refine Calls.mono ASK3.out ?_
    rintro e W4 ⟨rfl, k4⟩
    have X4 := hide (X3.out.kp k4 (fun _ _ f => f))
    have M4 : Hid (MgAt W4 B0 m) := M3.out.keep k4 (fun f => f)
    have K4 : Hid (Kp w W4 S) := K3.out.trans k4 (fun _ f => f.elim)
    have N4 := hide (N3.out.kp k4 (fun _ _ f => f))
    clear k4 ASK3 X3 M3 K3 N3
    cases hask : askP P m with
    | none =>
      rw [hask] at hTG hTM hTO
      simp only [Option.map_none] at hTG hTM hTO
      subst hTM
      subst hTO
      have hpt : ptrP none = .pointer none := rfl
      rw [hpt]
      obtain ⟨WF, hWF⟩ : ∃ WF, WF = W4 := ⟨_, rfl⟩
      have GF : Hid (P.map (·.g) = TG) := hTG.symm
      rw [← hWF] at N4 X4 K4 ⊢
      clear hTG hpt hask hWF
      have NF := N4
      have KF := K4
      obtain ⟨SF, hSF⟩ : ∃ SF, SF = S := ⟨_, rfl⟩
      obtain ⟨PF, hPF⟩ : ∃ PF, PF = P := ⟨_, rfl⟩
      have RF : Hid (RtAt WF SF R c PF v') := by rw [hSF, hPF]; exact ⟨D, M, S1, Kb, ao, nb, no, ncap, pv, X4.out, HS.out⟩
      have SFF : Hid (∀ k, SF k → S k) := by rw [hSF]; exact fun _ q => q
      rw [← hPF] at GF
      go_wp2_with fail
      obtain ⟨vo, ve, nx, hN⟩ := NF.out
      have o0 : WF.cell? ⟨Nb, 0, none⟩ = some vo := by rw [cell_row nx.blk]; rfl
      have o1 : WF.cell? ⟨Nb, 1, none⟩ = some ve := by rw [cell_row nx.blk]; rfl
      obtain ⟨oa, oc, hvo⟩ := own_sl nx.out
      obtain ⟨ea, ec, hve⟩ := own_sl nx.ends
      subst hvo
      subst hve
      have NX := hide nx
      clear nx hN
      go_quiet (fail)
      go_wp2_with fail
      go_ret3
      have kd := (Kp.refl WF non).drewN nq
      refine ⟨SF, PF, _, _, rfl, RF.out.kp kd (fun _ _ f => f), GF.out, own_kp NX.out.out kd (fun _ _ f => f), own_kp NX.out.ends kd (fun _ _ f => f), KF.out.drewN nq, SFF.out⟩
    | some p =>
      have hpP := PM.out p hask
      rw [hask] at hTG hTM hTO
      simp only [Option.map_some] at hTG hTM hTO
      have HE4 := hide (HEA.out W4 _ Nb p hpP X4.out N4.out K4.out.size)
      rw [← hTM, ← hTO] at HE4
      have hpg := hearP_g P v.now p m
      rw [← hTG] at hpg
      have hpt : ptrP (some p) = .pointer (some ⟨p.b, 0, none⟩) := rfl
      rw [hpt]
      generalize p.b = pb at *
      go_wp2_with (refine wpList_ldM rfl (.tmp 3) rfl m B0 rfl M4.out ?_)
      refine Calls.mono HE4.out ?_
      rintro e WF ⟨rfl, SF, NFs, rF, nF, kF, sF, nF'⟩
      have RF := hide rF
      have NF := hide nF
      have SFF := hide sF
      have KF : Hid (Kp w WF S) := K4.out.trans kF (fun k q => by
        rcases q with q | q
        · exact Or.inl q
        · obtain ⟨ge, _⟩ := N4.out.kind q
          exact Or.inr ge)
      obtain ⟨PF, hPF⟩ : ∃ PF, PF = hearP P v.now p m := ⟨_, rfl⟩
      rw [← hPF] at RF hpg
      have GF := hide hpg
      clear rF nF kF sF nF' HE4 hpg hPF hTG hTM hTO
      go_wp2_with fail
      obtain ⟨vo, ve, nx, hN⟩ := NF.out
      have o0 : WF.cell? ⟨Nb, 0, none⟩ = some vo := by rw [cell_row nx.blk]; rfl
      have o1 : WF.cell? ⟨Nb, 1, none⟩ = some ve := by rw [cell_row nx.blk]; rfl
      obtain ⟨oa, oc, hvo⟩ := own_sl nx.out
      obtain ⟨ea, ec, hve⟩ := own_sl nx.ends
      subst hvo
      subst hve
      have NX := hide nx
      clear nx hN
      go_quiet (fail)
      go_wp2_with fail
      go_ret3
      have kd := (Kp.refl WF non).drewN nq
      refine ⟨SF, PF, _, _, rfl, RF.out.kp kd (fun _ _ f => f), GF.out, own_kp NX.out.out kd (fun _ _ f => f), own_kp NX.out.ends kd (fun _ _ f => f), KF.out.drewN nq, SFF.out⟩
end Go.Proofs.YtndfhpfhgdamgaaGreatDoor.Cn
namespace Go.Proofs.YtndfhpfhgdamgaaGreatDoor.Cn
open Go.RowKit
structure Tk where
  gs : List Gt
  d : Dt
  L : List Mg
  E : List Oc
def tkStep (now : Int) (s : Tk) (t : Int) : Tk := match findG s.gs t with
  | none => s
  | some g => ⟨goG s.gs now g, s.d.does 2 (lastA g), s.L ++ goM now g, s.E ++ goE g⟩
def tkAll (now : Int) (s : Tk) (T : List Int) : Tk := T.foldl (tkStep now) s
theorem find_gone {gs : List Gt} {a t : Int} (h : t ≠ a) : findG (gone gs a) t = findG gs t := by
  unfold findG gone
  induction gs with
  | nil => rfl
  | cons g r ih =>
    by_cases e : g.tk = a
    · rw [List.filter_cons_of_neg (by simpa using e), ih, List.find?_cons_of_neg (by simp; omega)]
    · rw [List.filter_cons_of_pos (by simpa using e)]
      by_cases e2 : g.tk = t
      · rw [List.find?_cons_of_pos (by simpa using e2), List.find?_cons_of_pos (by simpa using e2)]
      · rw [List.find?_cons_of_neg (by simpa using e2), List.find?_cons_of_neg (by simpa using e2), ih]
theorem find_askd {gs : List Gt} {a t now : Int} (h : t ≠ a) : findG (askd gs a now) t = findG gs t := by
  unfold findG askd
  induction gs with
  | nil => rfl
  | cons g r ih =>
    rw [List.map_cons]
    by_cases e : g.tk = a
    · rw [if_pos e, List.find?_cons_of_neg (by show ¬ decide ((askG now g).tk = t) = true; unfold askG; simp; omega), List.find?_cons_of_neg (by simp; omega), ih]
    · rw [if_neg e]
      by_cases e2 : g.tk = t
      · rw [List.find?_cons_of_pos (by simpa using e2), List.find?_cons_of_pos (by simpa using e2)]
      · rw [List.find?_cons_of_neg (by simpa using e2), List.find?_cons_of_neg (by simpa using e2), ih]
theorem find_goG {gs : List Gt} {g : Gt} {t now : Int} (h : t ≠ g.tk) : findG (goG gs now g) t = findG gs t := by
  unfold goG
  split
  · exact find_gone h
  · exact find_askd h
theorem findG_mem {gs : List Gt} {t : Int} {g : Gt} (h : findG gs t = some g) : g ∈ gs ∧ g.tk = t := by
  refine ⟨List.mem_of_find?_eq_some h, ?_⟩
  have := List.find?_some h
  simpa using this
theorem findG_of {gs : List Gt} (h : (gs.map fun g => g.tk).Pairwise (· < ·)) {g : Gt} (hg : g ∈ gs) : findG gs g.tk = some g := by
  unfold findG
  induction gs with
  | nil => simp at hg
  | cons a r ih =>
    rw [List.map_cons, List.pairwise_cons] at h
    rcases List.mem_cons.1 hg with rfl | hg'
    · simp
    · have := h.1 g.tk (List.mem_map.2 ⟨g, hg', rfl⟩)
      rw [List.find?_cons_of_neg (by simp; omega), ih h.2 hg']
theorem find_step {s : Tk} {now a t : Int} (h : t ≠ a) : findG (tkStep now s a).gs t = findG s.gs t := by
  unfold tkStep
  cases e : findG s.gs a with
  | none => rfl
  | some g =>
    have := (findG_mem e).2
    exact find_goG (by omega)
theorem tkAll_snoc (now : Int) (s : Tk) (T : List Int) (t : Int) : tkAll now s (T ++ [t]) = tkStep now (tkAll now s T) t := by
  unfold tkAll
  rw [List.foldl_append]
  rfl
theorem find_all {s : Tk} {now t : Int} : ∀ (T : List Int), t ∉ T → findG (tkAll now s T).gs t = findG s.gs t := by
  intro T
  induction T generalizing s with
  | nil => intro _; rfl
  | cons a r ih =>
    intro h
    rw [List.mem_cons, not_or] at h
    show findG (tkAll now (tkStep now s a) r).gs t = _
    rw [ih h.2, find_step h.1]
theorem all_len {s : Tk} {now : Int} : ∀ (T : List Int), (tkAll now s T).L.length ≤ s.L.length + T.length ∧ (tkAll now s T).E.length ≤ s.E.length + T.length ∧ (tkAll now s T).gs.length ≤ s.gs.length ∧ (tkAll now s T).d.n = s.d.n := by
  intro T
  induction T generalizing s with
  | nil => exact ⟨Nat.le_refl _, Nat.le_refl _, Nat.le_refl _, rfl⟩
  | cons a r ih =>
    have h1 : (tkStep now s a).L.length ≤ s.L.length + 1 ∧ (tkStep now s a).E.length ≤ s.E.length + 1 ∧ (tkStep now s a).gs.length ≤ s.gs.length ∧ (tkStep now s a).d.n = s.d.n := by
      unfold tkStep
      cases findG s.gs a with
      | none => exact ⟨by simp, by simp, by simp, rfl⟩
      | some g =>
        refine ⟨?_, ?_, ?_, ?_⟩
        · show (s.L ++ goM now g).length ≤ _
          rw [List.length_append]
          have := goM_len now g
          omega
        · show (s.E ++ goE g).length ≤ _
          rw [List.length_append]
          have := goE_len g
          omega
        · show (goG s.gs now g).length ≤ _
          unfold goG
          split
          · exact List.length_filter_le _ _
          · unfold askd; rw [List.length_map]; exact Nat.le_refl _
        · show (s.d.does 2 (lastA g)).n = _
          unfold Dt.does Dt.bad Dt.good Dt.tickN
          split
          · split <;> rfl
          · split
            · split <;> rfl
            · split <;> rfl
    have h2 := ih (s := tkStep now s a)
    have e : tkAll now s (a :: r) = tkAll now (tkStep now s a) r := rfl
    rw [e]
    simp only [List.length_cons]
    exact ⟨by omega, by omega, by omega, h2.2.2.2.trans h1.2.2.2⟩
theorem all_upto {s : Tk} {now : Int} {m : Nat} : ∀ (T : List Int), s.d.upto m → (tkAll now s T).d.upto (m + T.length) := by
  intro T
  induction T generalizing s m with
  | nil => exact fun h => h
  | cons a r ih =>
    intro h
    have h1 : (tkStep now s a).d.upto (m + 1) := by
      unfold tkStep
      cases findG s.gs a with
      | none => exact h.mono (by omega)
      | some g => exact h.does 2 _
    have := ih h1
    rw [List.length_cons, show m + (r.length + 1) = m + 1 + r.length by omega]
    exact this
theorem all_enb {s : Tk} {now : Int} : ∀ (T : List Int), s.d.fits → s.d.enb → (tkAll now s T).d.enb ∧ (tkAll now s T).d.fits := by
  intro T
  induction T generalizing s with
  | nil => exact fun h h' => ⟨h', h⟩
  | cons a r ih =>
    intro h h'
    have h1 : (tkStep now s a).d.fits ∧ (tkStep now s a).d.enb := by
      unfold tkStep
      cases findG s.gs a with
      | none => exact ⟨h, h'⟩
      | some g => exact ⟨by
          show (s.d.does 2 (lastA g)).fits
          unfold Dt.does
          rw [if_neg (by decide), if_pos rfl]
          split
          · exact h.bad _
          · exact h, enb_does h' h 2 _⟩
    exact ih h1.1 h1.2
/-- what a tick makes -/
def tickK (c : Cl) (gs : List Gt) (v : Rv) : Tk := tkAll (v.now + 1) ⟨gs, v.d.tick, [], []⟩ (dueT (v.now + 1) (c.x 17) gs)
theorem upto_tick {d : Dt} {m : Nat} (h : d.upto m) : d.tick.upto (m + 1) := by
  have := h.tickN (j := 1) (by omega)
  exact this
theorem enb_tick {d : Dt} (h : d.enb) : d.tick.enb := fun k => by
  have := h k
  show d.en k ≤ d.now + 1 + d.ban
  omega
theorem due_mem {now wait t : Int} {gs : List Gt} (h : t ∈ dueT now wait gs) : ∃ g ∈ gs, g.tk = t ∧ now - g.since = wait := by
  unfold dueT at h
  obtain ⟨g, hg, rfl⟩ := List.mem_map.1 h
  have := List.mem_filter.1 hg
  exact ⟨g, this.1, rfl, by simpa [isDue] using this.2⟩
end Go.Proofs.YtndfhpfhgdamgaaGreatDoor.Cn
namespace Go.Proofs.YtndfhpfhgdamgaaGreatDoor.Cn
open Go.RowKit
set_option maxHeartbeats 16000000 in
set_option maxRecDepth 100000 in
set_option linter.unusedSimpArgs false in
set_option linter.unusedVariables false in
theorem Tick_r {w : World} {S : Nat → Prop} {R : Nat} {c : Cl} {P : List Gp} {v : Rv} {m : Nat} (h : RtAt w S R c P v) (hok : Ok c (P.map (·.g)) v m) (hm : m ≤ 100000000000000) (hl : v.last ≤ 1000000000000000) (hw : v.now ≤ 1000000000000000) (hdw : v.d.now ≤ 1000000000000000) :
    Calls Tryz.prog 27 #[.pointer (some ⟨R, 0, none⟩)] w fun e w' => ∃ S' P' vo ve, e = .returned (.tuple #[vo, ve, .int .i64 0]) ∧ RtAt w' S' R c P' ⟨(tickK c (P.map (·.g)) v).d, v.now + 1, v.last⟩ ∧ P'.map (·.g) = (tickK c (P.map (·.g)) v).gs ∧ w'.ownsRow w.heap.size 58 11 vo ((tickK c (P.map (·.g)) v).L ++ pingL ⟨(tickK c (P.map (·.g)) v).d, v.now + 1, v.last⟩ (c.x 17) c.ns.length).length (mgs ((tickK c (P.map (·.g)) v).L ++ pingL ⟨(tickK c (P.map (·.g)) v).d, v.now + 1, v.last⟩ (c.x 17) c.ns.length)) ∧ w'.ownsRow w.heap.size 96 6 ve (tickK c (P.map (·.g)) v).E.length (ocs (tickK c (P.map (·.g)) v).E) ∧ Kp w w' S ∧ ∀ k, S' k → S k := by
  have NO := hide (none_r h)
  have S0L : Hid (∀ k, S k → k < w.heap.size) := fun k q => h.lt q
  have hPl : P.length ≤ 64 := by have := hok.len; rwa [List.length_map] at this
  have hsf := (errP_all hok.err).2.1
  have l0 : 1 ≤ c.x 0 ∧ c.x 0 ≤ 16 := sfP_lim hsf 0 (by omega)
  have l17 : 1 ≤ c.x 17 ∧ c.x 17 ≤ 1024 := sfP_lim hsf 17 (by omega)
  have hnl := nfP_len (errP_all hok.err).2.2.1
  obtain ⟨D, M, S1, Kb, ao, nb, no, ncap, pv, hx, hS⟩ := h
  have c24 := hx.cells.2.2.2.2.1
  have f24 := hx.fz 24
  have n0 := hok.now0
  have ew := wrap_in (x := v.now + 1) (by omega) (by omega)
  obtain ⟨W1, hW1⟩ : ∃ W1, W1 = w.setCell ⟨R, 24, none⟩ (.int .i64 (v.now + 1)) := ⟨_, rfl⟩
  have x1 : RtX W1 R c P { v with now := v.now + 1 } D M S1 Kb ao nb no ncap pv := by rw [hW1]; exact hx.clock
  have k1 : Kp w W1 S := by rw [hW1]; exact (Kp.refl w S).set (Or.inl ((hS R).2 (Or.inl rfl))) _ _
  have c23 := x1.cells.2.2.2.1
  have TI := hide (Tick_any x1.det hok.up.ft (show v.d.now < 4611686018427387904 by omega))
  obtain ⟨v2, hv2⟩ : ∃ v2 : Rv, v2 = ⟨v.d.tick, v.now + 1, v.last⟩ := ⟨_, rfl⟩
  obtain ⟨gs, hgs⟩ : ∃ gs, gs = P.map (·.g) := ⟨_, rfl⟩
  obtain ⟨T, hT⟩ : ∃ T, T = dueT (v.now + 1) (c.x 17) gs := ⟨_, rfl⟩
  have hpw : (P.map fun p => p.g.tk).Pairwise (· < ·) := by have := hok.srt; rwa [List.map_map] at this
  have hTpw : T.Pairwise (· < ·) := by rw [hT, hgs]; exact due_pw hpw
  have hTl : T.length ≤ 64 := by
    rw [hT]
    unfold dueT
    rw [List.length_map]
    exact Nat.le_trans (List.length_filter_le _ _) (by rw [hgs]; exact hok.len)
  have DUE : Hid (∀ X, RtX X R c P v2 D M S1 Kb ao nb no ncap pv → Calls Tryz.prog 50 #[.pointer (some ⟨R, 0, none⟩)] X fun e w' => ∃ u, e = .returned u ∧ w'.ownsRow X.heap.size 3 1 u T.length (ints T) ∧ Below X.heap.size X w') := fun X hX => by
    have := due_any (S := RtS R M S1 Kb P) ⟨D, M, S1, Kb, ao, nb, no, ncap, pv, hX, fun _ => Iff.rfl⟩ hpw (by rw [hv2]; show 0 ≤ v.now + 1; omega) (by rw [hv2]; show v.now + 1 ≤ _; omega) (fun p hp => by rw [hv2]; have := hok.sin p.g (List.mem_map.2 ⟨p, hp, rfl⟩); show 0 ≤ _ ∧ _ ≤ v.now + 1; omega) (by omega)
    have e : dueP v2.now (c.x 17) P = T := by rw [hv2, hT, hgs]; rfl
    rw [e] at this
    exact this
  obtain ⟨KK, hKK⟩ : ∃ KK : Nat → Tk, KK = fun i => tkAll (v.now + 1) ⟨gs, v.d.tick, [], []⟩ (T.take i) := ⟨_, rfl⟩
  have HK0 : Hid (KK 0 = ⟨gs, v.d.tick, [], []⟩) := by rw [hKK]; rfl
  have HKE : Hid (tickK c (P.map (·.g)) v = KK T.length) := by rw [hKK]; show _ = tkAll _ _ (T.take T.length); rw [List.take_length, hT, hgs]; rfl
  have HKS : Hid (∀ i (hi : i < T.length), ∃ g, g ∈ gs ∧ g.tk = T[i] ∧ findG (KK i).gs T[i] = some g ∧ KK (i + 1) = ⟨goG (KK i).gs (v.now + 1) g, (KK i).d.does 2 (lastA g), (KK i).L ++ goM (v.now + 1) g, (KK i).E ++ goE g⟩) := fun i hi => by
    have hmem : T[i] ∈ dueT (v.now + 1) (c.x 17) gs := by rw [← hT]; exact List.getElem_mem hi
    obtain ⟨g, hg, hgt, _⟩ := due_mem hmem
    have hf : findG gs T[i] = some g := by rw [← hgt]; exact findG_of (hgs ▸ hok.srt) hg
    have hni : T[i] ∉ T.take i := fun q => by
      obtain ⟨j, hj, e⟩ := List.getElem_of_mem q
      rw [List.length_take] at hj
      rw [List.getElem_take] at e
      have := List.pairwise_iff_getElem.1 hTpw j i (by omega) hi (by omega)
      omega
    have hfi : findG (KK i).gs T[i] = some g := by rw [hKK]; show findG (tkAll _ _ (T.take i)).gs _ = _; rw [find_all _ hni]; exact hf
    refine ⟨g, hg, hgt, hfi, ?_⟩
    have e1 : KK (i + 1) = tkStep (v.now + 1) (KK i) T[i] := by
      rw [hKK]
      show tkAll _ _ (T.take (i + 1)) = _
      rw [List.take_succ_eq_append_getElem hi, tkAll_snoc]
    rw [e1]
    unfold tkStep
    rw [hfi]
  have HUP : Hid (∀ i, (KK i).d.upto (m + 1 + i) ∧ (KK i).d.n = v.d.n) := fun i => by
    rw [hKK]
    have h1 := all_upto (s := ⟨gs, v.d.tick, [], []⟩) (now := v.now + 1) (T.take i) (upto_tick hok.up)
    rw [List.length_take] at h1
    exact ⟨h1.mono (by omega), (all_len (T.take i)).2.2.2⟩
  have HLE : Hid (∀ i, (KK i).L.length ≤ 64 ∧ (KK i).E.length ≤ 64) := fun i => by
    rw [hKK]
    have h1 := all_len (s := ⟨gs, v.d.tick, [], []⟩) (now := v.now + 1) (T.take i)
    rw [List.length_take] at h1
    simp only [List.length_nil] at h1
    show (tkAll _ _ _).L.length ≤ _ ∧ (tkAll _ _ _).E.length ≤ _
    omega
  have HGF : Hid (∀ g ∈ gs, 1 ≤ g.asked ∧ g.asked ≤ g.ow.length ∧ g.ow.length ≤ 300 ∧ tkOk g.tk) := fun g hg => by
    rw [hgs] at hg
    have a1 := hok.ask g hg
    have a2 := hok.tks g hg
    unfold tkOk
    omega
  rw [HKE.out]
  have K1 := hide k1
  have X1 := hide x1
  have HS := hide hS
  have HTL := hide hTl
  obtain ⟨now1, hnow1⟩ : ∃ now1, now1 = v.now + 1 := ⟨_, rfl⟩
  rw [← hnow1] at HKS hv2 ew hW1 ⊢
  have HV2 : Hid (v2 = ⟨v.d.tick, now1, v.last⟩) := hv2
  have HN1 := hide hnow1
  obtain ⟨LF, hLF⟩ : ∃ LF, LF = (KK T.length).L ++ pingL ⟨(KK T.length).d, now1, v.last⟩ (c.x 17) c.ns.length := ⟨_, rfl⟩
  rw [← hLF]
  have HLF := hide hLF
  clear hLF
  have GS0 := hide hgs
  have n1 : 0 ≤ now1 := by omega
  have hfit : Hid (∀ i, (KK i).d.fits) := fun i => (HUP.out i).1.ft
  clear hx x1 k1 hok hpw hTpw hS hT hKK hgs hv2 n0 hTl HKE
  go_enter Tryz.func27, Tryz.ntmps27
  go_wp2_with fail
  refine Calls.mono NO.out ?_
  rintro e W9 ⟨rfl, rfl⟩
  clear NO
  go_upto_region 4 with fail
  rw [← hnow1, ← hW1]
  clear hW1 c24 f24 hnow1
  go_wp2_with fail
  refine Calls.mono TI.out ?_
  rintro e W2 ⟨rfl, d2, k2⟩
  have x2 := X1.out.watch d2 k2
  have X2 : Hid (RtX W2 R c P v2 D M S1 Kb ao nb no ncap pv) := by
    show RtX W2 R c P v2 D M S1 Kb ao nb no ncap pv
    rw [HV2.out, HN1.out]
    exact x2
  have K2 : Hid (Kp w W2 S) := K1.out.trans k2 (fun k q => Or.inl ((HS.out k).2 (Or.inr (Or.inl q))))
  clear d2 k2 x2 TI X1 K1 c23
  obtain ⟨Nb, hNb⟩ : ∃ Nb, Nb = W2.heap.size := ⟨_, rfl⟩
  obtain ⟨W3, hW3⟩ : ∃ W3, W3 = W2.alloc (.cells #[.slice none 0 0, .slice none 0 0] 102) := ⟨_, rfl⟩
  have k3 : Kp W2 W3 non := by rw [hW3]; exact (Kp.refl W2 non).alloc _
  have X3 := hide (X2.out.kp k3 (fun _ _ f => f))
  have K3 : Hid (Kp w W3 S) := K2.out.trans k3 (fun _ f => f.elim)
  have N3 : Hid (NwAt W3 w.heap.size (NwS Nb (.slice none 0 0) (.slice none 0 0)) Nb [] []) := ⟨_, _, ⟨by rw [hW3, hNb]; exact heap_last _ _, by rw [hNb]; exact K2.out.size, World.ownsRow_nil _ _ _ _, World.ownsRow_nil _ _ _ _⟩, fun _ => Iff.rfl⟩
  have DU := hide (DUE.out W3 X3.out)
  clear k3 X2 K2 DUE
  go_upto_region 6 with fail
  rw [← hW3, ← hNb]
  clear hW3 hNb
  go_wp2_with fail
  refine Calls.mono DU.out ?_
  rintro e W4 ⟨u, rfl, ou, b4⟩
  obtain ⟨ta, tc, hu⟩ := own_sl ou
  subst hu
  have OU := hide (own_base ou (K3.out.size))
  have k4 := Kp.of_below b4 non
  have X4 := hide (X3.out.kp k4 (fun _ _ f => f))
  have K4 : Hid (Kp w W4 S) := K3.out.trans k4 (fun _ f => f.elim)
  have N4 := hide (N3.out.kp k4 (fun _ _ f => f))
  have UG : Hid (∀ k, (Value.slice ta T.length tc).ownBlock = some k → w.heap.size ≤ k) := fun k q => own_ge OU.out q
  clear ou b4 k4 DU X3 K3 N3
  go_wp2_with fail
  go_loopw [7, 8, 26] (fun _ _ vi wr => ∃ (i : Nat), i ≤ T.length ∧ vi = .int .i64 (i : Int) ∧ ∃ (S' N' : Nat → Prop) (P' : List Gp), RtAt wr S' R c P' ⟨(KK i).d, now1, v.last⟩ ∧ P'.map (·.g) = (KK i).gs ∧ NwAt wr w.heap.size N' Nb (KK i).L (KK i).E ∧ wr.ownsRow w.heap.size 3 1 (.slice ta T.length tc) T.length (ints T) ∧ Kp w wr S ∧ (∀ k, S' k → S k)) (fun _ _ vi _ => T.length - (intOf vi).toNat)
  case atStart =>
    refine ⟨0, Nat.zero_le _, rfl, S, _, P, ?_, by rw [HK0.out]; exact GS0.out.symm, by rw [HK0.out]; exact N4.out, OU.out, K4.out, fun _ q => q⟩
    rw [HK0.out]
    have := X4.out
    rw [HV2.out] at this
    exact ⟨D, M, S1, Kb, ao, nb, no, ncap, pv, this, HS.out⟩
  case round =>
    obtain ⟨i, hi, rfl, S', N', P', hR, hP', hN', hou, hK', hS'⟩ := hrel
    have HR := hide hR
    have HP' := hide hP'
    have HN' := hide hN'
    have HOU := hide hou
    have HK' := hide hK'
    have HS' := hide hS'
    clear hR hP' hN' hou hK' hS' X4 K4 N4 OU
    by_cases hin : i < T.length
    case pos =>
      have hii : (i : Int) < (T.length : Int) := by omega
      have hT64 := HTL.out
      obtain ⟨tg, tc', htg⟩ := own_g HOU.out (by omega)
      injection htg with htg _ htc
      subst htg
      subst htc
      have cT := HOU.out.cellAt i (by omega)
      rw [ints_at2 T i hin] at cT
      obtain ⟨g, hg, hgt, hfi, hKs⟩ := HKS.out i hin
      obtain ⟨g1, g2, g3, g4⟩ := HGF.out g hg
      have hfp := findP_g P' T[i]
      rw [HP'.out, hfi] at hfp
      obtain ⟨p, hp, hpg⟩ := Option.map_eq_some_iff.1 hfp
      have hpm := (findP_mem hp).1
      obtain ⟨D', M', S1', Kb', ao', nb', no', ncap', pv', xr, hSr⟩ := HR.out
      have LK := xr.look (t := T[i]) (by rw [← hgt]; exact g4)
      rw [hp, show ptrP (some p) = .pointer (some ⟨p.b, 0, none⟩) from rfl] at LK
      have c26 := xr.cells.2.2.2.2.2.2
      have C0 : Hid (wr.cell? ⟨R, 23, none⟩ = some (.pointer (some ⟨D', 0, none⟩))) := xr.cells.2.2.2.1
      have gp := xr.gts p hpm
      subst hpg
      have LA : Hid (Calls Tryz.prog 52 #[.pointer (some ⟨p.b, 0, none⟩)] wr.drew fun e w' => e = .returned (.int .i64 (lastA p.g)) ∧ ∃ n, w' = (wr.drew).drewN n) := lastAsked_any ⟨gp.blk, gp.row⟩ g1 g2 g3
      have BD : Hid (∀ n, Calls Tryz.prog 51 #[.pointer (some ⟨D', 0, none⟩), .int .i64 (lastA p.g)] (wr.drewN n) fun e w' => e = .returned (.int .i64 (chk1 (KK i).d.n (lastA p.g))) ∧ DtAt w' S1' D' ((KK i).d.does 2 (lastA p.g)) ∧ Kp wr w' S1') := fun n => by
        have kd : Kp wr (wr.drewN n) non := (Kp.refl wr non).drewN n
        refine Calls.mono (Bad_all (xr.det.kp kd (fun _ _ f => f)) (HUP.out i).1 (by omega) (lastA p.g)) ?_
        rintro e w' ⟨rfl, a1, a2⟩
        exact ⟨rfl, a1, (kd.mono (fun _ f => f.elim)).trans a2 (fun _ q => Or.inl q)⟩
      have XR := hide xr
      have HSr := hide hSr
      have nR : Hid (¬ S1' R) := xr.det.not xr.blk (by decide)
      have PMm := hide hpm
      have HKs := hide hKs
      generalize hti : T[i] = ti at *
      generalize hbd : chk1 (KK i).d.n (lastA p.g) = ck at *
      clear xr hSr gp hp hfp hpm hKs hti hbd
      go_upto_region 10 with fail
      clear LK c26 cT
      refine wp_region_held_drew (S := fun X => X.cell? ⟨R, 23, none⟩ = some (.pointer (some ⟨D', 0, none⟩))) (by kernel_rfl) C0.out (fun hHeld => ?_)
      refine wpAnyH_take (i := 0) (v := (.pointer (some ⟨R, 0, none⟩))) rfl (by kernel_rfl) (by kernel_rfl) (by kernel_rfl) (fun _ _ _ h => h) (Or.inl ⟨by rfl, ?_⟩) (by assumption) ?_
      · intro w' hSw
        (try dsimp only at hSw)
        go_simp
      (try simp only [Act.put, List.getElem_toArray, List.getElem_cons_zero, List.getElem_cons_succ, List.setIfInBounds_toArray, List.set_cons_zero, List.set_cons_succ])
      refine wpAnyH_take (i := 1) (v := (.pointer (some ⟨R, 0, none⟩))) rfl (by kernel_rfl) (by kernel_rfl) (by kernel_rfl) (fun _ _ _ h => h) (Or.inl ⟨by rfl, ?_⟩) (by assumption) ?_
      · intro w' hSw
        (try dsimp only at hSw)
        go_simp
      (try simp only [Act.put, List.getElem_toArray, List.getElem_cons_zero, List.getElem_cons_succ, List.setIfInBounds_toArray, List.set_cons_zero, List.set_cons_succ])
      refine wpAnyH_take (i := 2) (v := (.pointer (some ⟨R, 23, none⟩))) rfl (by kernel_rfl) (by kernel_rfl) (by kernel_rfl) (fun _ _ _ h => h) (Or.inl ⟨by rfl, ?_⟩) (by assumption) ?_
      · intro w' hSw
        (try dsimp only at hSw)
        go_simp
      (try simp only [Act.put, List.getElem_toArray, List.getElem_cons_zero, List.getElem_cons_succ, List.setIfInBounds_toArray, List.set_cons_zero, List.set_cons_succ])
      refine wpAnyH_take (i := 3) (v := (.pointer (some ⟨D', 0, none⟩))) rfl (by kernel_rfl) (by kernel_rfl) (by kernel_rfl) (fun _ _ _ h => h) (Or.inl ⟨by rfl, ?_⟩) (by assumption) ?_
      · intro w' hSw
        (try dsimp only at hSw)
        go_simp
      (try simp only [Act.put, List.getElem_toArray, List.getElem_cons_zero, List.getElem_cons_succ, List.setIfInBounds_toArray, List.set_cons_zero, List.set_cons_succ])
      refine wpAnyH_take (i := 4) (v := (.pointer (some ⟨p.b, 0, none⟩))) rfl (by kernel_rfl) (by kernel_rfl) (by kernel_rfl) (fun _ _ _ h => h) (Or.inl ⟨by rfl, ?_⟩) (by assumption) ?_
      · intro w' hSw
        (try dsimp only at hSw)
        go_simp
      (try simp only [Act.put, List.getElem_toArray, List.getElem_cons_zero, List.getElem_cons_succ, List.setIfInBounds_toArray, List.set_cons_zero, List.set_cons_succ])
      refine wpAnyH_ready (rs := [5]) (by kernel_rfl) (by simp) ?_
      refine AllReadyH.cons rfl (fun K hK => ?_) AllReadyH.nil
      go_simp
      refine Calls.mono LA.out ?_
      rintro e W5 ⟨rfl, n5, rfl⟩
      have C5 : Hid (((wr.drew).drewN n5).cell? ⟨R, 23, none⟩ = some (.pointer (some ⟨D', 0, none⟩))) := C0.out
      clear LA
      refine hK.out _ _ (C5.out) (fun hHeld => ?_)
      clear hK
      (try simp only [Act.put, List.setIfInBounds_toArray, List.set_cons_zero, List.set_cons_succ])
      refine wpAnyH_ready (rs := [6]) (by kernel_rfl) (by simp) ?_
      refine AllReadyH.cons rfl (fun K hK => ?_) AllReadyH.nil
      go_simp
      refine Calls.mono (BD.out _) ?_
      rintro e W6 ⟨rfl, dt6, k6⟩
      have X6 := hide (XR.out.watch dt6 k6)
      have C6 : Hid (W6.cell? ⟨R, 23, none⟩ = some (.pointer (some ⟨D', 0, none⟩))) := X6.out.cells.2.2.2.1
      have k6S : Kp wr W6 S' := k6.mono (fun k q => (HSr.out k).2 (Or.inr (Or.inl q)))
      have N6 := hide (HN'.out.kp k6S (fun k q s => HR.out.apart HN'.out k s q))
      have tgS : ∀ k, (Value.slice (some ⟨tg, 0, none⟩) T.length tc).ownBlock = some k → ¬ S' k := fun k q s => by
        have h1 := UG.out k q
        have h2 := S0L.out k (HS'.out k s)
        omega
      have OU6 := hide (own_kp HOU.out k6S tgS)
      have K6 : Hid (Kp w W6 S) := HK'.out.trans k6S (fun k q => Or.inl (HS'.out k q))
      have GO := hide (goOn_any (S := S') ⟨D', M', S1', Kb', ao', nb', no', ncap', pv', X6.out, HSr.out⟩ PMm.out N6.out (by have := (HLE.out i).1; omega) (by have := (HLE.out i).2; omega) g4 K6.out.size g2 g3)
      have tgN : Hid (∀ k, (Value.slice (some ⟨tg, 0, none⟩) T.length tc).ownBlock = some k → ¬ N' k) := fun k q s => by
        obtain ⟨_, A, t, e1, ht⟩ := N6.out.kind s
        obtain ⟨cur, e2⟩ := own_typ OU6.out q
        rw [e1] at e2
        simp only [Option.some.injEq, Obj.cells.injEq] at e2
        rw [e2.2.1] at ht
        revert ht
        decide
      have TGS := hide tgS
      clear dt6 k6 BD k6S tgS C0 C5 XR
      refine hK.out _ _ (C6.out) (fun hHeld => ?_)
      clear hK
      (try simp only [Act.put, List.setIfInBounds_toArray, List.set_cons_zero, List.set_cons_succ])
      refine wpAnyH_done (by kernel_rfl) ?_ _
      go_wp2_with fail
      refine Calls.mono GO.out ?_
      rintro e W7 ⟨rfl, S7, N7, r7, n7, k7, s7, n7'⟩
      have R7 := hide r7
      have N7h := hide n7
      have K7 : Hid (Kp w W7 S) := K6.out.trans k7 (fun k q => by
        rcases q with q | q
        · exact Or.inl (HS'.out k q)
        · obtain ⟨ge, _⟩ := N6.out.kind q
          exact Or.inr ge)
      have OU7 := hide (own_kp OU6.out k7 (fun k q s => by
        rcases s with s | s
        · exact TGS.out k q s
        · exact tgN.out k q s))
      have S7h : Hid (∀ k, S7 k → S k) := fun k q => HS'.out k (s7 k q)
      have PG := hide (goP_g P' now1 p)
      clear r7 n7 k7 s7 n7' GO
      go_wp2_with fail
      go_roundw
      case rel =>
        refine ⟨i + 1, by omega, by go_num, S7, N7, goP P' now1 p, ?_, ?_, ?_, OU7.out, K7.out, S7h.out⟩
        · rw [HKs.out]
          exact R7.out
        · rw [HKs.out, PG.out, HP'.out]
        · rw [HKs.out]
          exact N7h.out
      case measure => simp [intOf]; omega
    case neg =>
      obtain rfl : i = T.length := by omega
      have PI := hide (ping_any HR.out HN'.out (by have := (HLE.out T.length).1; omega) HK'.out.size (hfit.out _) hnl.2 l17.1 n1 l17.2)
      have PI' := PI.out
      rw [← HLF.out] at PI'
      replace PI := hide PI'
      clear HKS PI'
      go_wp2_with fail
      refine Calls.mono PI.out ?_
      rintro e WF ⟨rfl, N9, r9, n9, k9, n9'⟩
      have RF := hide r9
      have KF : Hid (Kp w WF S) := HK'.out.trans k9 (fun k q => by
        obtain ⟨ge, _⟩ := HN'.out.kind q
        exact Or.inr ge)
      obtain ⟨vo, ve, nx, hN⟩ := n9
      have o0 : WF.cell? ⟨Nb, 0, none⟩ = some vo := by rw [cell_row nx.blk]; rfl
      have o1 : WF.cell? ⟨Nb, 1, none⟩ = some ve := by rw [cell_row nx.blk]; rfl
      obtain ⟨oa, oc, hvo⟩ := own_sl nx.out
      obtain ⟨ea, ec, hve⟩ := own_sl nx.ends
      subst hvo
      subst hve
      have NX := hide nx
      clear nx hN r9 k9 n9' PI
      go_upto_region 14 with fail
      go_quiet (fail)
      go_wp2_with fail
      go_ret3
      have kd := (Kp.refl WF non).drewN nq
      exact ⟨S', P', _, _, rfl, RF.out.kp kd (fun _ _ f => f), HP'.out, own_kp NX.out.out kd (fun _ _ f => f), own_kp NX.out.ends kd (fun _ _ f => f), KF.out.drewN nq, HS'.out⟩
end Go.Proofs.YtndfhpfhgdamgaaGreatDoor.Cn
namespace Go.Proofs.YtndfhpfhgdamgaaGreatDoor.Cn
open Go.RowKit
def zs0 (ns : List ND) (pv : Nat → Value) : List (Int × Value) := (List.range ns.length).map fun q => ((ns[q]?.map (·.z)).getD 0, pv q)
theorem zs0_len (ns : List ND) (pv : Nat → Value) : (zs0 ns pv).length = ns.length := by simp [zs0]
theorem zs0_at (ns : List ND) (pv : Nat → Value) (q : Nat) (h : q < ns.length) : (zs0 ns pv)[q]'(by rw [zs0_len]; exact h) = (ns[q].z, pv q) := by simp [zs0, h]
theorem ndc_each {zs : List (Int × Value)} {f : Nat → Option Value} (h : ∀ (q : Nat) (hq : q < zs.length), f (q * 2) = some (.int .i64 zs[q].1) ∧ f (q * 2 + 1) = some zs[q].2) : ∀ j u, (ndc zs)[j]? = some u → f j = some u := fun j u hj => by
  have hjl := (List.getElem?_eq_some_iff.1 hj).1
  rw [ndc_len] at hjl
  have hq : j / 2 < zs.length := by omega
  obtain ⟨a1, a2⟩ := h (j / 2) hq
  obtain ⟨b1, b2⟩ := ndc_at zs (j / 2) hq
  by_cases e : j % 2 = 0
  · have : j = j / 2 * 2 := by omega
    rw [this] at hj ⊢
    rw [b1] at hj
    rw [a1]
    exact hj
  · have : j = j / 2 * 2 + 1 := by omega
    rw [this] at hj ⊢
    rw [b2] at hj
    rw [a2]
    exact hj
theorem ndc_ones {zs : List (Int × Value)} (h : ∀ (q : Nat) (hq : q < zs.length), zs[q].2.oneCell' = true) : ∀ u ∈ ndc zs, u.oneCell' = true := fun u hu => by
  obtain ⟨y, hy, hu⟩ := List.mem_flatMap.1 hu
  obtain ⟨q, hq, rfl⟩ := List.getElem_of_mem hy
  simp at hu
  rcases hu with rfl | rfl
  · rfl
  · exact h q hq
set_option maxHeartbeats 8000000 in
set_option maxRecDepth 100000 in
set_option linter.unusedSimpArgs false in
set_option linter.unusedVariables false in
theorem nclone_any (N : Nat) (w : World) (b o cap : Nat) (pv : Nat → Value) (ns : List ND) (h : NsAt N w (some ⟨b, o, none⟩) b o pv ns) (hN : N ≤ w.heap.size) (h1 : 1 ≤ ns.length) (h16 : ns.length ≤ 16) :
    Calls Tryz.prog 64 #[.slice (some ⟨b, o, none⟩) ns.length cap] w fun e w' => ∃ v', e = .returned v' ∧ w'.ownsRow w.heap.size 87 2 v' ns.length (ndc (zs0 ns pv)) ∧ Below w.heap.size w w' := by
  have qT : ∀ (w : World) (a : Option Addr) (n c n' c' : Nat), (binOp .eql 22 (.slice a n c) (.slice none n' c')).run Tryz.prog w = .ok (.bool a.isNone) w := fun w a n c n' c' => Lib.run_eql_slice_nil w _ _ a n c n' c' Tryz.underlying22
  obtain ⟨i0, hi, hz0, hz1, hz2⟩ := YtndfhpfhgdamgaaGreatDoor.info_parts infoNd
  obtain ⟨W1, hW1⟩ : ∃ W1, W1 = w.alloc (.cells #[] 87) := ⟨_, rfl⟩
  have b1 : Hid (Below w.heap.size w W1) := by rw [hW1]; exact (Below.refl _ w).alloc (Nat.le_refl _) _
  have o1 : Hid (W1.ownsRow w.heap.size 87 2 (.slice (some ⟨w.heap.size, 0, none⟩) 0 0) 0 []) := by
    rw [hW1]
    exact World.ownsRow_lit w #[] 0 (Nat.le_refl _) (Nat.zero_le _) rfl
  have n1 := h.below (b1.out.mono hN)
  have CC : Hid (∀ j u, (ndc (zs0 ns pv))[j]? = some u → W1.cell? ((⟨b, o, none⟩ : Addr).add j) = some u) := ndc_each (fun q hq => by
    rw [zs0_len] at hq
    rw [Addr.add_mid, Addr.add_mid, zs0_at ns pv q hq]
    exact ⟨n1.cz q hq, by rw [← Nat.add_assoc]; exact n1.cp q hq⟩)
  have OC : Hid (∀ u ∈ ndc (zs0 ns pv), u.oneCell' = true) := ndc_ones (fun q hq => by
    rw [zs0_len] at hq
    rw [zs0_at ns pv q hq]
    obtain ⟨pa, pb, po, pc, e, _⟩ := h.ps q hq
    show (pv q).oneCell' = true
    rw [e]
    rfl)
  have LL : Hid ((ndc (zs0 ns pv)).length = ns.length * 2) := by rw [ndc_len, zs0_len]; exact rfl
  generalize ndc (zs0 ns pv) = nn at *
  generalize ns.length = n at *
  clear h n1
  go_enter Tryz.func64, Tryz.ntmps64
  go_upto_region 3 with fail
  replace hW1 := hide hW1
  go_wp2_with (at_builtin; rw [← hW1.out]; refine wpList_append_own_at _ rfl _ _ 22 rfl w.heap.size 87 i0 _ 2 32 Tryz.underlying22 hi hz0 hz1 hz2 rfl (by decide) _ _ _ rfl o1.out ⟨b, o, none⟩ n cap nn rfl LL.out CC.out OC.out (by unfold maxLen; omega) (by omega) b1.out.size ?_; intro v' w' o2 g2 _ _; clear hi hz0 hz1 hz2)
  go_ret
  refine ⟨v', rfl, ?_, ?_⟩
  · rw [Nat.zero_add, List.nil_append] at o2
    exact o2
  · have k : Kp w w' non := (Kp.of_below b1.out non).trans (Kp.of_grown g2) (fun k hk => Or.inr (Nat.le_of_eq (Option.some.inj (show some k = some w.heap.size from hk)).symm))
    exact k.below
/-- a clone of ints, whatever they are -/
theorem iclone_any {N : Nat} {w : World} {pvv : Value} {L : List Int} (h : Pv N w pvv L) (hl : L.length ≤ 1000000) : Calls Tryz.prog 65 #[pvv] w fun e w' => ∃ v', e = .returned v' ∧ w'.ownsRow w.heap.size 3 1 v' L.length (ints L) ∧ Below w.heap.size w w' := by
  obtain ⟨pa, pb, po, pc, rfl, hp⟩ := h
  by_cases h0 : 0 < L.length
  · obtain rfl := hp.at0 h0
    refine Calls.mono (Tryz.slices_Clone_int pb po L.length pc L w (Nat.le_refl _) (by omega) (fun j hj => ?_)) ?_
    · rw [hp.c j hj, List.getD_eq_getElem?_getD, List.getElem?_eq_getElem hj]
      rfl
    · rintro e w' ⟨v', rfl, o1, _, b1⟩
      rw [List.take_length] at o1
      exact ⟨v', rfl, o1, b1⟩
  · have hL : L = [] := List.length_eq_zero_iff.1 (by omega)
    subst hL
    cases pa with
    | none =>
      refine Calls.mono (Tryz.slices_Clone_int_nil 0 pc w) ?_
      rintro e w' ⟨rfl, rfl⟩
      exact ⟨_, rfl, World.ownsRow_nil _ _ _ _, Below.refl _ _⟩
    | some ad =>
      refine Calls.mono (Tryz.slices_Clone_int_zero ad pc w) ?_
      rintro e w' ⟨v', rfl, o1, _, b1⟩
      exact ⟨v', rfl, o1, b1⟩
end Go.Proofs.YtndfhpfhgdamgaaGreatDoor.Cn
