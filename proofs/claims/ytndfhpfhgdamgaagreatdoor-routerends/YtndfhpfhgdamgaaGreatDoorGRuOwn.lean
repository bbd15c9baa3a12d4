import Derived.Test.YtndfhpfhgdamgaaGreatDoorGRuAsk
namespace Go.Proofs.YtndfhpfhgdamgaaGreatDoor.Cn
open Go.RowKit
set_option maxHeartbeats 16000000 in
set_option maxRecDepth 100000 in
set_option linter.unusedSimpArgs false in
set_option linter.unusedVariables false in
theorem owners_any {w : World} {S : Nat → Prop} {R : Nat} {c : Cl} {P : List Gp} {v : Rv} (h : RtAt w S R c P v) (hT : TabD w) (he : errP c.st c.x c.ns = 0) (hs : c.st.size ≤ 9223372036854775807) (key : ByteArray) (hk : ¬ (key.size = 0 ∨ 255 < key.size)) (hf : v.d.fits) (hen : v.d.enb) (hdn : v.d.n = c.ns.length) :
    Calls Tryz.prog 71 #[.pointer (some ⟨R, 0, none⟩), .string key] w fun e w' => ∃ g, e = .returned (.slice (some ⟨g, 0, none⟩) (ordL v.d (baseOf c key)).length (ordL v.d (baseOf c key)).length) ∧ Rw w' g (ordL v.d (baseOf c key)) ∧ (ordL v.d (baseOf c key)).length = (baseOf c key).length ∧ w.heap.size ≤ g ∧ Below w.heap.size w w' := by
  obtain ⟨D, M, S1, Kb, ao, nb, no, ncap, pv, hx, hS⟩ := h
  obtain ⟨o1, o2, o3, o4, o5, o6⟩ := owns_ok he key
  obtain ⟨p1, p2, p3⟩ := base_ok he key
  have LO := locate_any w.heap.size w c.st c.x ao nb no ncap pv c.ns key hx.nod.at (Nat.le_refl _) hs (by omega) hT
  have le0 := lcE_ok he hk
  rw [le0, lcV_ok le0] at LO
  have LOC := hide LO
  have HX := hide hx
  have hrb : Hid (w.heap[R]? = some (.cells (rtA c (.slice ao c.ns.length ncap) D M v) 85)) := hx.blk
  obtain ⟨os, hos⟩ : ∃ os, os = ownsOf c key := ⟨_, rfl⟩
  have OW : Hid (∀ X : World, RtX X R c P v D M S1 Kb ao nb no ncap pv → Calls Tryz.prog 15 #[.agg (clA c.st c.x (.slice ao c.ns.length ncap)), .int .i64 (lcP c.ns key)] X fun e w' => ∃ u, e = .returned (.tuple #[u, .int .i64 0]) ∧ w'.ownsRow X.heap.size 3 1 u os.length (ints os) ∧ Below X.heap.size X w') := fun X hX => by
    have := Owners_any X.heap.size X c.st c.x ao nb no ncap pv c.ns (lcP c.ns key) hX.nod.at (Nat.le_refl _) hs
    rw [o6] at this
    have hl : os.length = (wkE c.st c.x c.ns (lcP c.ns key)).length := by rw [hos]; unfold ownsOf; rw [owL_len]
    rw [hl, hos]
    exact this
  have hle : Hid ((rowOf c os).length ≤ 300) := by
    have : rowOf c os = baseOf c key := by rw [hos]; rfl
    show _ ≤ _
    rw [this]
    omega
  have OR : Hid (∀ (X : World) (ao' : Option Addr) (b' o' cap' : Nat), DtAt X S1 D v.d → IsAt X ao' b' o' (rowOf c os) → Calls Tryz.prog 85 #[.pointer (some ⟨D, 0, none⟩), .slice ao' (rowOf c os).length cap'] X fun e w' => ∃ g, e = .returned (.tuple #[.slice (some ⟨g, 0, none⟩) (rowOf c os).length (rowOf c os).length, .int .i64 0]) ∧ Rw w' g (ordL v.d (rowOf c os)) ∧ (ordL v.d (rowOf c os)).length = (rowOf c os).length ∧ X.heap.size ≤ g ∧ Below X.heap.size X w') := fun X ao' b' o' cap' hd hi => Order_any hd hf hen ao' b' o' cap' (rowOf c os) hi (fun k hk' => by rw [hdn]; exact p2 k (by unfold baseOf; rw [← hos]; exact hk')) (hle.out)
  have hbase : Hid (baseOf c key = rowOf c os) := by rw [hos]; rfl
  rw [hbase.out]
  rw [← hos] at o1 o2
  have hlen : os.length ≤ 16 := by omega
  have HO2 := hide o2
  have RS : Hid (rowOf c os = os.filter (homeF c) ++ os.filter (fun k => !homeF c k)) := rfl
  have RL : Hid ((rowOf c os).length = os.length) := (rowOf_perm c os).length_eq
  generalize lcP c.ns key = pt at *
  generalize lcC c.x key = pc at *
  generalize lcH c.x key = ph at *
  clear hx o1 o2 o3 o4 o5 o6 p1 p2 p3 LO hos hS hk le0
  go_enter Tryz.func71, Tryz.ntmps71
  go_wp2_with (refine wpList_ldCl rfl (.tmp 14) rfl rfl hrb.out ?_)
  refine Calls.mono LOC.out ?_
  rintro e W1 ⟨rfl, b1⟩
  have x1 := HX.out.kp (Kp.of_below b1 non) (fun _ _ f => f)
  obtain ⟨PB, hPB⟩ : ∃ PB, PB = W1.heap.size := ⟨_, rfl⟩
  obtain ⟨W2, hW2⟩ : ∃ W2, W2 = W1.alloc (.cells (plA pt pc ph) 39) := ⟨_, rfl⟩
  go_upto_region 2 with (refine wpList_stR rfl 39 (.tmp 5) (.tmp 18) rfl W1.heap.size rfl (plA pt pc ph) (plA 0 0 ⟨#[]⟩) rfl _ (heap_last _ _) infoPl3 rfl (plA_one _ _ _) ?_)
  rw [World.setRow_alloc_new, ← hW2, ← hPB]
  have k2 : Kp W1 W2 non := by rw [hW2]; exact (Kp.refl W1 non).alloc _
  have m2 : W2.heap[PB]? = some (.cells (plA pt pc ph) 39) := by rw [hW2, hPB]; exact heap_last _ _
  have x2 := x1.kp k2 (fun _ _ f => f)
  have K2 : Hid (Kp w W2 non) := (Kp.of_below b1 non).trans k2 (fun _ f => f.elim)
  have C2 : Hid (W2.heap[R]? = some (.cells (rtA c (.slice ao c.ns.length ncap) D M v) 85) ∧ W2.cell? ⟨PB, 0, none⟩ = some (.int .i64 pt)) := ⟨x2.blk, by rw [cell_row m2]; rfl⟩
  have X2 := hide x2
  have OWN := hide (OW.out W2.drew (x2.kp ((Kp.refl W2 non).drew) (fun _ _ f => f)))
  have M2 := hide m2
  clear hW2 hPB k2 m2 x2 x1 b1 LOC HX hrb OW
  refine wp_region_held_drew (S := fun X => X.heap[R]? = some (.cells (rtA c (.slice ao c.ns.length ncap) D M v) 85) ∧ X.cell? ⟨PB, 0, none⟩ = some (.int .i64 pt)) (by kernel_rfl) C2.out (fun hHeld => ?_)
  refine wpAnyH_take (i := 0) (v := (.pointer (some ⟨R, 0, none⟩))) rfl (by kernel_rfl) (by kernel_rfl) (by kernel_rfl) (fun _ _ _ h => h) (Or.inl ⟨by rfl, ?_⟩) (by assumption) ?_
  · intro w' hSw
    (try dsimp only at hSw)
    go_simp
  (try simp only [Act.put, List.getElem_toArray, List.getElem_cons_zero, List.getElem_cons_succ, List.setIfInBounds_toArray, List.set_cons_zero, List.set_cons_succ])
  refine wpAnyH_take (i := 1) (v := (.pointer (some ⟨R, 0, none⟩))) rfl (by kernel_rfl) (by kernel_rfl) (by kernel_rfl) (fun _ _ _ h => h) (Or.inl ⟨by rfl, ?_⟩) (by assumption) ?_
  · intro w' hSw
    (try dsimp only at hSw)
    go_simp
  (try simp only [Act.put, List.getElem_toArray, List.getElem_cons_zero, List.getElem_cons_succ, List.setIfInBounds_toArray, List.set_cons_zero, List.set_cons_succ])
  refine wpAnyH_take (i := 2) (v := (.pointer (some ⟨R, 0, none⟩))) rfl (by kernel_rfl) (by kernel_rfl) (by kernel_rfl) (fun _ _ _ h => h) (Or.inl ⟨by rfl, ?_⟩) (by assumption) ?_
  · intro w' hSw
    (try dsimp only at hSw)
    go_simp
  (try simp only [Act.put, List.getElem_toArray, List.getElem_cons_zero, List.getElem_cons_succ, List.setIfInBounds_toArray, List.set_cons_zero, List.set_cons_succ])
  refine wpAnyH_take (i := 3) (v := (.agg (clA c.st c.x (.slice ao c.ns.length ncap)))) rfl (by kernel_rfl) (by kernel_rfl) (by kernel_rfl) (fun _ _ _ h => h) (Or.inl ⟨by rfl, ?_⟩) (by assumption) ?_
  · intro w' hSw
    (try dsimp only at hSw)
    (exact exec_ldCl (.tmp 23) rfl rfl hSw.1)
  (try simp only [Act.put, List.getElem_toArray, List.getElem_cons_zero, List.getElem_cons_succ, List.setIfInBounds_toArray, List.set_cons_zero, List.set_cons_succ])
  refine wpAnyH_take (i := 4) (v := (.pointer (some ⟨PB, 0, none⟩))) rfl (by kernel_rfl) (by kernel_rfl) (by kernel_rfl) (fun _ _ _ h => h) (Or.inl ⟨by rfl, ?_⟩) (by assumption) ?_
  · intro w' hSw
    (try dsimp only at hSw)
    go_simp
  (try simp only [Act.put, List.getElem_toArray, List.getElem_cons_zero, List.getElem_cons_succ, List.setIfInBounds_toArray, List.set_cons_zero, List.set_cons_succ])
  refine wpAnyH_take (i := 5) (v := (.int .i64 pt)) rfl (by kernel_rfl) (by kernel_rfl) (by kernel_rfl) (fun _ _ _ h => h) (Or.inl ⟨by rfl, ?_⟩) (by assumption) ?_
  · intro w' hSw
    (try dsimp only at hSw)
    (have hs2 := hSw.2; go_simp)
  (try simp only [Act.put, List.getElem_toArray, List.getElem_cons_zero, List.getElem_cons_succ, List.setIfInBounds_toArray, List.set_cons_zero, List.set_cons_succ])
  refine wpAnyH_ready (rs := [6]) (by kernel_rfl) (by simp) ?_
  refine AllReadyH.cons rfl (fun K hK => ?_) AllReadyH.nil
  go_simp
  refine Calls.mono OWN.out ?_
  rintro e W3 ⟨u, rfl, ou, b3⟩
  have k3 : Kp W2 W3 non := ((Kp.refl W2 non).drew).trans (Kp.of_below b3 non) (fun _ f => f.elim)
  obtain ⟨ua, uc, hu⟩ := own_sl ou
  subst hu
  have C3 : Hid (W3.heap[R]? = some (.cells (rtA c (.slice ao c.ns.length ncap) D M v) 85) ∧ W3.cell? ⟨PB, 0, none⟩ = some (.int .i64 pt)) := ⟨(k3.block _ (blk_lt C2.out.1) (fun f => f)).trans C2.out.1, (k3.cell (blk_lt M2.out) (fun f => f)).trans C2.out.2⟩
  have X3 := hide (X2.out.kp k3 (fun _ _ f => f))
  have K3 : Hid (Kp w W3 non) := K2.out.trans k3 (fun _ f => f.elim)
  have OU := hide ou
  clear b3 k3 ou OWN X2 K2 M2
  refine hK.out _ _ (C3.out) (fun hHeld => ?_)
  clear hK
  (try simp only [Act.put, List.setIfInBounds_toArray, List.set_cons_zero, List.set_cons_succ])
  refine wpAnyH_take (i := 7) (v := (.tuple #[.slice ua os.length uc, .int .i64 0])) rfl (by kernel_rfl) (by kernel_rfl) (by kernel_rfl) (fun _ _ _ h => h) (Or.inl ⟨by rfl, ?_⟩) (by assumption) ?_
  · intro w' hSw
    (try dsimp only at hSw)
    go_simp
  (try simp only [Act.put, List.getElem_toArray, List.getElem_cons_zero, List.getElem_cons_succ, List.setIfInBounds_toArray, List.set_cons_zero, List.set_cons_succ])
  refine wpAnyH_take (i := 8) (v := (.slice ua os.length uc)) rfl (by kernel_rfl) (by kernel_rfl) (by kernel_rfl) (fun _ _ _ h => h) (Or.inl ⟨by rfl, ?_⟩) (by assumption) ?_
  · intro w' hSw
    (try dsimp only at hSw)
    go_simp
  (try simp only [Act.put, List.getElem_toArray, List.getElem_cons_zero, List.getElem_cons_succ, List.setIfInBounds_toArray, List.set_cons_zero, List.set_cons_succ])
  refine wpAnyH_take (i := 9) (v := (.int .i64 0)) rfl (by kernel_rfl) (by kernel_rfl) (by kernel_rfl) (fun _ _ _ h => h) (Or.inl ⟨by rfl, ?_⟩) (by assumption) ?_
  · intro w' hSw
    (try dsimp only at hSw)
    go_simp
  (try simp only [Act.put, List.getElem_toArray, List.getElem_cons_zero, List.getElem_cons_succ, List.setIfInBounds_toArray, List.set_cons_zero, List.set_cons_succ])
  refine wpAnyH_ready (rs := [10]) (by kernel_rfl) (by simp) ?_
  refine AllReadyH.cons rfl (fun K hK => ?_) AllReadyH.nil
  go_simp
  refine hK.out _ _ (C3.out) (fun hHeld => ?_)
  clear hK
  (try simp only [Act.put, List.setIfInBounds_toArray, List.set_cons_zero, List.set_cons_succ])
  refine wpAnyH_ready (rs := [11]) (by kernel_rfl) (by simp) ?_
  refine AllReadyH.cons rfl (fun K hK => ?_) AllReadyH.nil
  go_simp
  refine hK.out _ _ (C3.out) (fun hHeld => ?_)
  clear hK
  (try simp only [Act.put, List.setIfInBounds_toArray, List.set_cons_zero, List.set_cons_succ])
  refine wpAnyH_done (by kernel_rfl) ?_ _
  obtain ⟨pD, hpD⟩ : ∃ pD, pD = D := ⟨_, rfl⟩
  have C4 : Hid (W3.heap[R]? = some (.cells (rtA c (.slice ao c.ns.length ncap) D M v) 85) ∧ W3.cell? ⟨R, 23, none⟩ = some (.pointer (some ⟨D, 0, none⟩))) := ⟨X3.out.blk, X3.out.cells.2.2.2.1⟩
  have XD := X3.out.kp ((Kp.refl W3 non).drew) (fun _ _ f => f)
  have HM := hide (homeFirst_r W3.drew.heap.size W3.drew c.st c.x ao nb no ncap pv c.ns XD.nod.at (Nat.le_refl _) (.slice ua os.length uc) os (own_base (own_kp OU.out ((Kp.refl W3 non).drew) (fun _ _ f => f)) (Nat.zero_le _)) HO2.out hlen)
  rw [show rowG c.ns (c.x 20) os = rowOf c os from rfl] at HM
  clear C2 C3 XD hpD
  go_upto_region 3 with fail
  refine wp_region_held_drew (S := fun X => X.heap[R]? = some (.cells (rtA c (.slice ao c.ns.length ncap) D M v) 85) ∧ X.cell? ⟨R, 23, none⟩ = some (.pointer (some ⟨D, 0, none⟩))) (by kernel_rfl) C4.out (fun hHeld => ?_)
  refine wpAnyH_take (i := 0) (v := (.pointer (some ⟨R, 0, none⟩))) rfl (by kernel_rfl) (by kernel_rfl) (by kernel_rfl) (fun _ _ _ h => h) (Or.inl ⟨by rfl, ?_⟩) (by assumption) ?_
  · intro w' hSw
    (try dsimp only at hSw)
    go_simp
  (try simp only [Act.put, List.getElem_toArray, List.getElem_cons_zero, List.getElem_cons_succ, List.setIfInBounds_toArray, List.set_cons_zero, List.set_cons_succ])
  refine wpAnyH_take (i := 1) (v := (.pointer (some ⟨R, 0, none⟩))) rfl (by kernel_rfl) (by kernel_rfl) (by kernel_rfl) (fun _ _ _ h => h) (Or.inl ⟨by rfl, ?_⟩) (by assumption) ?_
  · intro w' hSw
    (try dsimp only at hSw)
    go_simp
  (try simp only [Act.put, List.getElem_toArray, List.getElem_cons_zero, List.getElem_cons_succ, List.setIfInBounds_toArray, List.set_cons_zero, List.set_cons_succ])
  refine wpAnyH_take (i := 2) (v := (.pointer (some ⟨R, 23, none⟩))) rfl (by kernel_rfl) (by kernel_rfl) (by kernel_rfl) (fun _ _ _ h => h) (Or.inl ⟨by rfl, ?_⟩) (by assumption) ?_
  · intro w' hSw
    (try dsimp only at hSw)
    go_simp
  (try simp only [Act.put, List.getElem_toArray, List.getElem_cons_zero, List.getElem_cons_succ, List.setIfInBounds_toArray, List.set_cons_zero, List.set_cons_succ])
  refine wpAnyH_take (i := 3) (v := (.pointer (some ⟨D, 0, none⟩))) rfl (by kernel_rfl) (by kernel_rfl) (by kernel_rfl) (fun _ _ _ h => h) (Or.inl ⟨by rfl, ?_⟩) (by assumption) ?_
  · intro w' hSw
    (try dsimp only at hSw)
    (have hs2 := hSw.2; go_simp)
  (try simp only [Act.put, List.getElem_toArray, List.getElem_cons_zero, List.getElem_cons_succ, List.setIfInBounds_toArray, List.set_cons_zero, List.set_cons_succ])
  refine wpAnyH_take (i := 4) (v := (.pointer (some ⟨R, 0, none⟩))) rfl (by kernel_rfl) (by kernel_rfl) (by kernel_rfl) (fun _ _ _ h => h) (Or.inl ⟨by rfl, ?_⟩) (by assumption) ?_
  · intro w' hSw
    (try dsimp only at hSw)
    go_simp
  (try simp only [Act.put, List.getElem_toArray, List.getElem_cons_zero, List.getElem_cons_succ, List.setIfInBounds_toArray, List.set_cons_zero, List.set_cons_succ])
  refine wpAnyH_take (i := 5) (v := (.pointer (some ⟨R, 0, none⟩))) rfl (by kernel_rfl) (by kernel_rfl) (by kernel_rfl) (fun _ _ _ h => h) (Or.inl ⟨by rfl, ?_⟩) (by assumption) ?_
  · intro w' hSw
    (try dsimp only at hSw)
    go_simp
  (try simp only [Act.put, List.getElem_toArray, List.getElem_cons_zero, List.getElem_cons_succ, List.setIfInBounds_toArray, List.set_cons_zero, List.set_cons_succ])
  refine wpAnyH_take (i := 6) (v := (.pointer (some ⟨R, 0, none⟩))) rfl (by kernel_rfl) (by kernel_rfl) (by kernel_rfl) (fun _ _ _ h => h) (Or.inl ⟨by rfl, ?_⟩) (by assumption) ?_
  · intro w' hSw
    (try dsimp only at hSw)
    go_simp
  (try simp only [Act.put, List.getElem_toArray, List.getElem_cons_zero, List.getElem_cons_succ, List.setIfInBounds_toArray, List.set_cons_zero, List.set_cons_succ])
  refine wpAnyH_take (i := 7) (v := (.agg (clA c.st c.x (.slice ao c.ns.length ncap)))) rfl (by kernel_rfl) (by kernel_rfl) (by kernel_rfl) (fun _ _ _ h => h) (Or.inl ⟨by rfl, ?_⟩) (by assumption) ?_
  · intro w' hSw
    (try dsimp only at hSw)
    (exact exec_ldCl (.tmp 37) rfl rfl hSw.1)
  (try simp only [Act.put, List.getElem_toArray, List.getElem_cons_zero, List.getElem_cons_succ, List.setIfInBounds_toArray, List.set_cons_zero, List.set_cons_succ])
  refine wpAnyH_take (i := 8) (v := (.slice ua os.length uc)) rfl (by kernel_rfl) (by kernel_rfl) (by kernel_rfl) (fun _ _ _ h => h) (Or.inl ⟨by rfl, ?_⟩) (by assumption) ?_
  · intro w' hSw
    (try dsimp only at hSw)
    go_simp
  (try simp only [Act.put, List.getElem_toArray, List.getElem_cons_zero, List.getElem_cons_succ, List.setIfInBounds_toArray, List.set_cons_zero, List.set_cons_succ])
  refine wpAnyH_ready (rs := [9]) (by kernel_rfl) (by simp) ?_
  refine AllReadyH.cons rfl (fun K hK => ?_) AllReadyH.nil
  go_simp
  refine Calls.mono HM.out ?_
  rintro e W5 ⟨u5, rfl, o5, b5⟩
  have K5 : Hid (Kp W3 W5 non) := ((Kp.refl W3 non).drew).trans (Kp.of_below b5 non) (fun _ f => f.elim)
  have X5 := hide (X3.out.kp K5.out (fun _ _ f => f))
  have C5 : Hid (W5.heap[R]? = some (.cells (rtA c (.slice ao c.ns.length ncap) D M v) 85) ∧ W5.cell? ⟨R, 23, none⟩ = some (.pointer (some ⟨D, 0, none⟩))) := ⟨X5.out.blk, X5.out.cells.2.2.2.1⟩
  obtain ⟨_, ia, ib, ic, hv5, his, _⟩ := own_is o5 (by have := hle.out; omega)
  subst hv5
  have ORD := hide (OR.out W5 ia ib 0 ic X5.out.det his)
  clear o5 b5 his HM OU C4
  refine hK.out _ _ (C5.out) (fun hHeld => ?_)
  clear hK
  (try simp only [Act.put, List.setIfInBounds_toArray, List.set_cons_zero, List.set_cons_succ])
  refine wpAnyH_ready (rs := [10]) (by kernel_rfl) (by simp) ?_
  refine AllReadyH.cons rfl (fun K hK => ?_) AllReadyH.nil
  go_simp
  refine Calls.mono ORD.out ?_
  rintro e W6 ⟨gg, rfl, r6, l6, ge6, b6⟩
  have C6 : Hid (W6.heap[R]? = some (.cells (rtA c (.slice ao c.ns.length ncap) D M v) 85) ∧ W6.cell? ⟨R, 23, none⟩ = some (.pointer (some ⟨D, 0, none⟩))) := ⟨((Kp.of_below b6 non).block _ (blk_lt X5.out.blk) (fun f => f)).trans C5.out.1, ((Kp.of_below b6 non).cell (blk_lt X5.out.blk) (fun f => f)).trans C5.out.2⟩
  have R6 := hide r6
  have L6 := hide l6
  have G6 : Hid (w.heap.size ≤ gg) := Nat.le_trans (Nat.le_trans K3.out.size K5.out.size) ge6
  have B6 : Hid (Below w.heap.size w W6) := ((K3.out.trans K5.out (fun _ f => f.elim)).trans (Kp.of_below b6 non) (fun _ f => f.elim)).below
  clear r6 l6 ge6 b6 ORD X5 K5
  refine hK.out _ _ (C6.out) (fun hHeld => ?_)
  clear hK
  (try simp only [Act.put, List.setIfInBounds_toArray, List.set_cons_zero, List.set_cons_succ])
  refine wpAnyH_take (i := 11) (v := (.tuple #[.slice (some ⟨gg, 0, none⟩) (rowOf c os).length (rowOf c os).length, .int .i64 0])) rfl (by kernel_rfl) (by kernel_rfl) (by kernel_rfl) (fun _ _ _ h => h) (Or.inl ⟨by rfl, ?_⟩) (by assumption) ?_
  · intro w' hSw
    (try dsimp only at hSw)
    go_simp
  (try simp only [Act.put, List.getElem_toArray, List.getElem_cons_zero, List.getElem_cons_succ, List.setIfInBounds_toArray, List.set_cons_zero, List.set_cons_succ])
  refine wpAnyH_take (i := 12) (v := (.slice (some ⟨gg, 0, none⟩) (rowOf c os).length (rowOf c os).length)) rfl (by kernel_rfl) (by kernel_rfl) (by kernel_rfl) (fun _ _ _ h => h) (Or.inl ⟨by rfl, ?_⟩) (by assumption) ?_
  · intro w' hSw
    (try dsimp only at hSw)
    go_simp
  (try simp only [Act.put, List.getElem_toArray, List.getElem_cons_zero, List.getElem_cons_succ, List.setIfInBounds_toArray, List.set_cons_zero, List.set_cons_succ])
  refine wpAnyH_take (i := 13) (v := (.int .i64 0)) rfl (by kernel_rfl) (by kernel_rfl) (by kernel_rfl) (fun _ _ _ h => h) (Or.inl ⟨by rfl, ?_⟩) (by assumption) ?_
  · intro w' hSw
    (try dsimp only at hSw)
    go_simp
  (try simp only [Act.put, List.getElem_toArray, List.getElem_cons_zero, List.getElem_cons_succ, List.setIfInBounds_toArray, List.set_cons_zero, List.set_cons_succ])
  refine wpAnyH_ready (rs := [14]) (by kernel_rfl) (by simp) ?_
  refine AllReadyH.cons rfl (fun K hK => ?_) AllReadyH.nil
  go_simp
  refine hK.out _ _ (C6.out) (fun hHeld => ?_)
  clear hK
  (try simp only [Act.put, List.setIfInBounds_toArray, List.set_cons_zero, List.set_cons_succ])
  refine wpAnyH_ready (rs := [15]) (by kernel_rfl) (by simp) ?_
  refine AllReadyH.cons rfl (fun K hK => ?_) AllReadyH.nil
  go_simp
  refine hK.out _ _ (C6.out) (fun hHeld => ?_)
  clear hK
  (try simp only [Act.put, List.setIfInBounds_toArray, List.set_cons_zero, List.set_cons_succ])
  refine wpAnyH_done (by kernel_rfl) ?_ _
  go_wp2_with fail
  go_ret
  exact ⟨gg, by rw [L6.out]; rfl, R6.out, L6.out, G6.out, B6.out⟩
end Go.Proofs.YtndfhpfhgdamgaaGreatDoor.Cn
namespace Go.Proofs.YtndfhpfhgdamgaaGreatDoor.Cn
open Go.RowKit
set_option maxHeartbeats 4000000 in
set_option maxRecDepth 100000 in
theorem strClone_any (s : ByteArray) (w : World) (h : s.size ≤ 281474976710656) : Calls Tryz.prog 63 #[.string s] w fun e w' => e = .returned (.string s) ∧ Below w.heap.size w w' := by
  have CL := hide (Tryz.stringslite_Clone s w h)
  go_enter Tryz.func63, Tryz.ntmps63
  go_wp2_with fail
  refine Calls.mono CL.out ?_
  rintro e W1 ⟨rfl, hb⟩
  go_wp2_with fail
  go_ret
  exact ⟨rfl, hb⟩
section
variable {w w' : World} {R : Nat} {c : Cl} {P : List Gp} {v : Rv} {D M : Nat} {S S1 K : Nat → Prop} {ao : Option Addr} {nb no ncap : Nat} {pv : Nat → Value} {p : Gp}
/-- the ticket is counted on -/
theorem RtX.count (h : RtX w R c P v D M S1 K ao nb no ncap pv) : RtX (w.setCell ⟨R, 25, none⟩ (.int .i64 (v.last + 1))) R c P { v with last := v.last + 1 } D M S1 K ao nb no ncap pv := by
  have hk : Kp w (w.setCell ⟨R, 25, none⟩ (.int .i64 (v.last + 1))) (fun k => k = R) := (Kp.refl w (fun k => k = R)).set (Or.inl rfl) _ _
  refine ⟨?_, h.det.kp hk (fun k q e => h.det.not h.blk (by decide) (e ▸ q)), h.map.kp hk (fun e => h.map.kind (by rw [e]; exact h.blk)), h.nM, fun q hq => ?_, h.nod.kp hk (fun k q e => (h.nK q).1 e)⟩
  · rw [heap_setCell _ _ _ _ _ _ _ h.blk]
    rfl
  · obtain ⟨n1, n2, _⟩ := h.ne_b hq
    exact (h.gts q hq).kp hk (fun e => n1 e.symm) (fun e => n2 e.symm)
/-- a tick -/
theorem RtX.clock (h : RtX w R c P v D M S1 K ao nb no ncap pv) : RtX (w.setCell ⟨R, 24, none⟩ (.int .i64 (v.now + 1))) R c P { v with now := v.now + 1 } D M S1 K ao nb no ncap pv := by
  have hk : Kp w (w.setCell ⟨R, 24, none⟩ (.int .i64 (v.now + 1))) (fun k => k = R) := (Kp.refl w (fun k => k = R)).set (Or.inl rfl) _ _
  refine ⟨?_, h.det.kp hk (fun k q e => h.det.not h.blk (by decide) (e ▸ q)), h.map.kp hk (fun e => h.map.kind (by rw [e]; exact h.blk)), h.nM, fun q hq => ?_, h.nod.kp hk (fun k q e => (h.nK q).1 e)⟩
  · rw [heap_setCell _ _ _ _ _ _ _ h.blk]
    rfl
  · obtain ⟨n1, n2, _⟩ := h.ne_b hq
    exact (h.gts q hq).kp hk (fun e => n1 e.symm) (fun e => n2 e.symm)
theorem gtE_put {P : List Gp} {p : Gp} (h : ∀ q ∈ P, q.g.tk ≠ p.g.tk) : putt (gtE P) p.g.tk (.pointer (some ⟨p.b, 0, none⟩)) = gtE (P ++ [p]) := by
  unfold putt
  rw [filter_ne_all (fun e he => by obtain ⟨q, hq, rfl⟩ := gtE_mem he; exact h q hq)]
  unfold gtE
  rw [List.map_append]
  rfl
/-- a get more -/
theorem RtX.more (h : RtX w R c P v D M S1 K ao nb no ncap pv) (hg : GpAt w p) (hne : ∀ q ∈ P, q.g.tk ≠ p.g.tk) {X : World} (hm : Mp IT X M (putt (gtE P) p.g.tk (.pointer (some ⟨p.b, 0, none⟩)))) (hk : Kp w X (fun b => b = M)) : RtX X R c (P ++ [p]) v D M S1 K ao nb no ncap pv := by
  refine ⟨(hk.block _ (blk_lt h.blk) (fun e => h.map.kind (e ▸ h.blk))).trans h.blk, h.det.kp hk (fun k q e => h.nM (e ▸ q)), by rw [← gtE_put hne]; exact hm, h.nM, fun q hq => ?_, h.nod.kp hk (fun k q e => (h.nK q).2.1 e)⟩
  rcases List.mem_append.1 hq with hq | hq
  · obtain ⟨n1, n2, n3, n4, n5, _⟩ := h.ne_b hq
    exact (h.gts q hq).kp hk n4 n5
  · rw [List.mem_singleton.1 hq]
    exact hg.kp hk (fun e => h.map.kind (e ▸ hg.blk)) (fun e => h.map.kind (e ▸ hg.row))
end
theorem tab_kp {w w' : World} {S : Nat → Prop} (h : TabD w) (hk : Kp w w' S) (hG : ∀ k, S k → 3 ≤ k) : TabD w' := by
  have g0 : 0 < 3 := by decide
  have g1 : 1 < 3 := by decide
  have sz := h.sz
  exact ⟨Nat.le_trans h.sz hk.size, fun j hj => (hk.cell (by omega) (fun q => by have := hG _ q; omega)).trans (h.s j hj), fun j hj => (hk.cell (by omega) (fun q => by have := hG _ q; omega)).trans (h.t j hj)⟩
noncomputable def newG (c : Cl) (v : Rv) (key : ByteArray) : Gt := ⟨v.last + 1, key, ordL v.d (baseOf c key), 0, 0⟩
set_option maxHeartbeats 16000000 in
set_option maxRecDepth 100000 in
set_option linter.unusedSimpArgs false in
set_option linter.unusedVariables false in
theorem open_any {w : World} {S : Nat → Prop} {R : Nat} {c : Cl} {P : List Gp} {v : Rv} (h : RtAt w S R c P v) (hT : TabD w) (he : errP c.st c.x c.ns = 0) (hs : c.st.size ≤ 9223372036854775807) (key : ByteArray) (hk : ¬ (key.size = 0 ∨ 255 < key.size)) (hf : v.d.fits) (hen : v.d.enb) (hdn : v.d.n = c.ns.length) (h0 : 0 ≤ v.last) (h1 : v.last ≤ 4611686018427387904) (hP : ∀ p ∈ P, p.g.tk ≤ v.last) (hPl : P.length ≤ 1000000) (hG : ∀ k, S k → 3 ≤ k) :
    Calls Tryz.prog 48 #[.pointer (some ⟨R, 0, none⟩), .string key] w fun e w' => ∃ b gg S', e = .returned (.pointer (some ⟨b, 0, none⟩)) ∧ RtAt w' S' R c (P ++ [⟨newG c v key, b, gg⟩]) { v with last := v.last + 1 } ∧ Kp w w' S ∧ ∀ k, S' k → S k ∨ w.heap.size ≤ k := by
  obtain ⟨D, M, S1, Kb, ao, nb, no, ncap, pv, hx, hS⟩ := h
  have c25 := hx.cells.2.2.2.2.2.1
  have f25 := hx.fz 25
  have ew := wrap_in (x := v.last + 1) (by omega) (by omega)
  obtain ⟨W1, hW1⟩ : ∃ W1, W1 = w.setCell ⟨R, 25, none⟩ (.int .i64 (v.last + 1)) := ⟨_, rfl⟩
  have x1 : RtX W1 R c P { v with last := v.last + 1 } D M S1 Kb ao nb no ncap pv := by rw [hW1]; exact hx.count
  have k1 : Kp w W1 (fun k => k = R) := by rw [hW1]; exact (Kp.refl w (fun k => k = R)).set (Or.inl rfl) _ _
  have OWN : Hid (∀ X, RtX X R c P { v with last := v.last + 1 } D M S1 Kb ao nb no ncap pv → TabD X → Calls Tryz.prog 71 #[.pointer (some ⟨R, 0, none⟩), .string key] X fun e w' => ∃ g, e = .returned (.slice (some ⟨g, 0, none⟩) (ordL v.d (baseOf c key)).length (ordL v.d (baseOf c key)).length) ∧ Rw w' g (ordL v.d (baseOf c key)) ∧ (ordL v.d (baseOf c key)).length = (baseOf c key).length ∧ X.heap.size ≤ g ∧ Below X.heap.size X w') := fun X hX hTX => owners_any (S := RtS R M S1 Kb P) ⟨D, M, S1, Kb, ao, nb, no, ncap, pv, hX, fun _ => Iff.rfl⟩ hTX he hs key hk hf hen hdn
  have hT1 : TabD W1 := tab_kp hT k1 (fun k e => by rw [e]; exact hG R ((hS R).2 (Or.inl rfl)))
  have kd : Kp W1 W1.drew non := (Kp.refl W1 non).drew
  have CL := hide (strClone_any key W1.drew (by omega))
  have X1 := hide x1
  have T1 := hide hT1
  have K1 := hide k1
  have HS := hide hS
  have C1 : Hid (W1.cell? ⟨R, 25, none⟩ = some (.int .i64 (v.last + 1))) := x1.cells.2.2.2.2.2.1
  obtain ⟨od, hod⟩ : ∃ od, od = ordL v.d (baseOf c key) := ⟨_, rfl⟩
  have HN : Hid (newG c v key = ⟨v.last + 1, key, od, 0, 0⟩) := by rw [hod]; rfl
  rw [HN.out]
  rw [← hod] at OWN
  have HP : Hid (∀ q ∈ P, q.g.tk ≠ v.last + 1) := fun q hq e => by have := hP q hq; omega
  have HG := hide hG
  have SR : Hid (S R) := (hS R).2 (Or.inl rfl)
  generalize hla : v.last + 1 = la at *
  clear hx x1 hT1 k1 hS hP hod hG
  go_enter Tryz.func48, Tryz.ntmps48
  go_upto_region 2 with fail
  rw [← hW1]
  clear hW1 c25 f25
  refine wp_region_held_drew (S := fun X => X.cell? ⟨R, 25, none⟩ = some (.int .i64 la)) (by kernel_rfl) C1.out (fun hHeld => ?_)
  refine wpAnyH_take (i := 0) (v := (.pointer (some ⟨R, 0, none⟩))) rfl (by kernel_rfl) (by kernel_rfl) (by kernel_rfl) (fun _ _ _ h => h) (Or.inl ⟨by rfl, ?_⟩) (by assumption) ?_
  · intro w' hSw
    (try dsimp only at hSw)
    go_simp
  (try simp only [Act.put, List.getElem_toArray, List.getElem_cons_zero, List.getElem_cons_succ, List.setIfInBounds_toArray, List.set_cons_zero, List.set_cons_succ])
  refine wpAnyH_take (i := 1) (v := (.pointer (some ⟨R, 0, none⟩))) rfl (by kernel_rfl) (by kernel_rfl) (by kernel_rfl) (fun _ _ _ h => h) (Or.inl ⟨by rfl, ?_⟩) (by assumption) ?_
  · intro w' hSw
    (try dsimp only at hSw)
    go_simp
  (try simp only [Act.put, List.getElem_toArray, List.getElem_cons_zero, List.getElem_cons_succ, List.setIfInBounds_toArray, List.set_cons_zero, List.set_cons_succ])
  refine wpAnyH_take (i := 2) (v := (.pointer (some ⟨R, 25, none⟩))) rfl (by kernel_rfl) (by kernel_rfl) (by kernel_rfl) (fun _ _ _ h => h) (Or.inl ⟨by rfl, ?_⟩) (by assumption) ?_
  · intro w' hSw
    (try dsimp only at hSw)
    go_simp
  (try simp only [Act.put, List.getElem_toArray, List.getElem_cons_zero, List.getElem_cons_succ, List.setIfInBounds_toArray, List.set_cons_zero, List.set_cons_succ])
  refine wpAnyH_take (i := 3) (v := (.int .i64 la)) rfl (by kernel_rfl) (by kernel_rfl) (by kernel_rfl) (fun _ _ _ h => h) (Or.inl ⟨by rfl, ?_⟩) (by assumption) ?_
  · intro w' hSw
    (try dsimp only at hSw)
    go_simp
  (try simp only [Act.put, List.getElem_toArray, List.getElem_cons_zero, List.getElem_cons_succ, List.setIfInBounds_toArray, List.set_cons_zero, List.set_cons_succ])
  refine wpAnyH_take (i := 4) (v := (.string key)) rfl (by kernel_rfl) (by kernel_rfl) (by kernel_rfl) (fun _ _ _ h => h) (Or.inl ⟨by rfl, ?_⟩) (by assumption) ?_
  · intro w' hSw
    (try dsimp only at hSw)
    go_simp
  (try simp only [Act.put, List.getElem_toArray, List.getElem_cons_zero, List.getElem_cons_succ, List.setIfInBounds_toArray, List.set_cons_zero, List.set_cons_succ])
  refine wpAnyH_take (i := 6) (v := (.pointer (some ⟨R, 0, none⟩))) rfl (by kernel_rfl) (by kernel_rfl) (by kernel_rfl) (fun _ _ _ h => h) (Or.inl ⟨by rfl, ?_⟩) (by assumption) ?_
  · intro w' hSw
    (try dsimp only at hSw)
    go_simp
  (try simp only [Act.put, List.getElem_toArray, List.getElem_cons_zero, List.getElem_cons_succ, List.setIfInBounds_toArray, List.set_cons_zero, List.set_cons_succ])
  refine wpAnyH_take (i := 7) (v := (.string key)) rfl (by kernel_rfl) (by kernel_rfl) (by kernel_rfl) (fun _ _ _ h => h) (Or.inl ⟨by rfl, ?_⟩) (by assumption) ?_
  · intro w' hSw
    (try dsimp only at hSw)
    go_simp
  (try simp only [Act.put, List.getElem_toArray, List.getElem_cons_zero, List.getElem_cons_succ, List.setIfInBounds_toArray, List.set_cons_zero, List.set_cons_succ])
  refine wpAnyH_ready (rs := [5]) (by kernel_rfl) (by simp) ?_
  refine AllReadyH.cons rfl (fun K hK => ?_) AllReadyH.nil
  go_simp
  refine Calls.mono CL.out ?_
  rintro e W2 ⟨rfl, b2⟩
  have k2 : Kp W1 W2 non := kd.trans (Kp.of_below b2 non) (fun _ f => f.elim)
  have X2 := hide (X1.out.kp k2 (fun _ _ f => f))
  have T2 := hide (tab_kp T1.out k2 (fun _ f => f.elim))
  have C2 : Hid (W2.cell? ⟨R, 25, none⟩ = some (.int .i64 la)) := (k2.cell (blk_lt X1.out.blk) (fun f => f)).trans C1.out
  have OW := hide (OWN.out W2 X2.out T2.out)
  have K2 : Hid (Kp w W2 (fun k => k = R)) := K1.out.trans k2 (fun _ f => f.elim)
  clear b2 k2 CL OWN X1 T1 K1 kd C1
  refine hK.out _ _ (C2.out) (fun hHeld => ?_)
  clear hK
  (try simp only [Act.put, List.setIfInBounds_toArray, List.set_cons_zero, List.set_cons_succ])
  refine wpAnyH_ready (rs := [8]) (by kernel_rfl) (by simp) ?_
  refine AllReadyH.cons rfl (fun K hK => ?_) AllReadyH.nil
  go_simp
  refine Calls.mono OW.out ?_
  rintro e W3 ⟨gg, rfl, r3, l3, ge3, b3⟩
  have X3 := hide (X2.out.kp (Kp.of_below b3 non) (fun _ _ f => f))
  have C3 : Hid (W3.cell? ⟨R, 25, none⟩ = some (.int .i64 la)) := ((Kp.of_below b3 non).cell (blk_lt X2.out.blk) (fun f => f)).trans C2.out
  have K3 : Hid (Kp w W3 (fun k => k = R)) := K2.out.trans (Kp.of_below b3 non) (fun _ f => f.elim)
  have R3 := hide r3
  have GE : Hid (w.heap.size ≤ gg) := Nat.le_trans K2.out.size ge3
  obtain ⟨b, hb⟩ : ∃ b, b = W3.heap.size := ⟨_, rfl⟩
  obtain ⟨W4, hW4⟩ : ∃ W4, W4 = W3.alloc (.cells #[.int .i64 la, .string key, .slice (some ⟨gg, 0, none⟩) od.length od.length, .int .i64 0, .int .i64 0] 139) := ⟨_, rfl⟩
  have k4 : Kp W3 W4 non := by rw [hW4]; exact (Kp.refl W3 non).alloc _
  have X4 := hide (X3.out.kp k4 (fun _ _ f => f))
  have G4 : Hid (GpAt W4 ⟨⟨la, key, od, 0, 0⟩, b, gg⟩) := ⟨by rw [hW4, hb]; exact heap_last _ _, (k4.block _ (blk_lt r3) (fun f => f)).trans r3⟩
  have C4 : Hid (W4.cell? ⟨R, 25, none⟩ = some (.int .i64 la)) := (k4.cell (blk_lt X3.out.blk) (fun f => f)).trans C3.out
  have K4 : Hid (Kp w W4 (fun k => k = R)) := K3.out.trans k4 (fun _ f => f.elim)
  have GB : Hid (w.heap.size ≤ b) := by rw [hb]; exact K3.out.size
  clear r3 l3 ge3 b3 OW k4 X2 T2 K2 C2
  refine hK.out _ _ (C3.out) (fun hHeld => ?_)
  clear hK
  (try simp only [Act.put, List.setIfInBounds_toArray, List.set_cons_zero, List.set_cons_succ])
  refine wpAnyH_take (i := 9) (v := (.agg #[.int .i64 la, .string key, .slice (some ⟨gg, 0, none⟩) od.length od.length, .int .i64 0, .int .i64 0])) rfl (by kernel_rfl) (by kernel_rfl) (by kernel_rfl) (fun _ _ _ h => h) (Or.inl ⟨by rfl, ?_⟩) (by assumption) ?_
  · intro w' hSw
    (try dsimp only at hSw)
    (exact exec_blR 139 _ rfl _ (by kernel_rfl))
  (try simp only [Act.put, List.getElem_toArray, List.getElem_cons_zero, List.getElem_cons_succ, List.setIfInBounds_toArray, List.set_cons_zero, List.set_cons_succ])
  refine wpAnyH_ready (rs := [10]) (by kernel_rfl) (by simp) ?_
  refine AllReadyH.cons rfl (fun K hK => ?_) AllReadyH.nil
  go_simp
  rw [← hW4, ← hb]
  clear hW4 hb
  refine hK.out _ _ (C4.out) (fun hHeld => ?_)
  clear hK
  (try simp only [Act.put, List.setIfInBounds_toArray, List.set_cons_zero, List.set_cons_succ])
  refine wpAnyH_ready (rs := [11]) (by kernel_rfl) (by simp) ?_
  refine AllReadyH.cons rfl (fun K hK => ?_) AllReadyH.nil
  go_simp
  refine hK.out _ _ (C4.out) (fun hHeld => ?_)
  clear hK
  (try simp only [Act.put, List.setIfInBounds_toArray, List.set_cons_zero, List.set_cons_succ])
  refine wpAnyH_done (by kernel_rfl) ?_ _
  have m26 := X4.out.cells.2.2.2.2.2.2
  obtain ⟨X5, R5, m5, k5⟩ := Mp.put (X4.out.map.kp ((Kp.refl W4 non).drew) (fun f => f)) Tryz.underlying83 (k := la) ⟨by omega, by omega⟩ (.pointer (some ⟨b, 0, none⟩)) (by unfold gtE; rw [List.length_map]; unfold maxLen; omega)
  have R5 : (Instr.mapUpdate 83 (.map (some M)) (.int .i64 la) (.pointer (some ⟨b, 0, none⟩))).run Tryz.prog W4.drew = .ok () X5 := R5
  have kd5 : Kp W4 X5 (fun q => q = M) := ((Kp.refl W4 (fun q => q = M)).drew).trans k5 (fun _ e => Or.inl e)
  have X6 := hide (X4.out.more G4.out (p := ⟨⟨la, key, od, 0, 0⟩, b, gg⟩) (fun q hq => HP.out q hq) m5 kd5)
  have hRM : R ≠ M := fun e => X4.out.map.kind (e ▸ X4.out.blk)
  have hbM : b ≠ M := fun e => X4.out.map.kind (e ▸ G4.out.blk)
  have D4 : Hid (W4.cell? ⟨R, 26, none⟩ = some (.map (some M)) ∧ W4.cell? ⟨b, 0, none⟩ = some (.int .i64 la)) := ⟨m26, G4.out.cells.1⟩
  have D5 : Hid (X5.cell? ⟨R, 26, none⟩ = some (.map (some M)) ∧ X5.cell? ⟨b, 0, none⟩ = some (.int .i64 la)) := ⟨(kd5.cell (blk_lt X4.out.blk) hRM).trans m26, (kd5.cell (blk_lt G4.out.blk) hbM).trans G4.out.cells.1⟩
  have K6 : Hid (Kp w X5 S) := (K4.out.mono (T := S) (fun k e => by rw [e]; exact SR.out)).trans kd5 (fun k e => Or.inl (by rw [e]; exact (HS.out M).2 (Or.inr (Or.inr (Or.inl rfl)))))
  clear m5 k5 kd5 m26 C3 C4 hHeld
  go_upto_region 3 with fail
  refine wp_region_held_drew (S := fun X => X.cell? ⟨R, 26, none⟩ = some (.map (some M)) ∧ X.cell? ⟨b, 0, none⟩ = some (.int .i64 la)) (by kernel_rfl) D4.out (fun hHeld => ?_)
  refine wpAnyH_take (i := 0) (v := (.pointer (some ⟨R, 0, none⟩))) rfl (by kernel_rfl) (by kernel_rfl) (by kernel_rfl) (fun _ _ _ h => h) (Or.inl ⟨by rfl, ?_⟩) (by assumption) ?_
  · intro w' hSw
    (try dsimp only at hSw)
    go_simp
  (try simp only [Act.put, List.getElem_toArray, List.getElem_cons_zero, List.getElem_cons_succ, List.setIfInBounds_toArray, List.set_cons_zero, List.set_cons_succ])
  refine wpAnyH_take (i := 1) (v := (.pointer (some ⟨R, 0, none⟩))) rfl (by kernel_rfl) (by kernel_rfl) (by kernel_rfl) (fun _ _ _ h => h) (Or.inl ⟨by rfl, ?_⟩) (by assumption) ?_
  · intro w' hSw
    (try dsimp only at hSw)
    go_simp
  (try simp only [Act.put, List.getElem_toArray, List.getElem_cons_zero, List.getElem_cons_succ, List.setIfInBounds_toArray, List.set_cons_zero, List.set_cons_succ])
  refine wpAnyH_take (i := 2) (v := (.pointer (some ⟨R, 26, none⟩))) rfl (by kernel_rfl) (by kernel_rfl) (by kernel_rfl) (fun _ _ _ h => h) (Or.inl ⟨by rfl, ?_⟩) (by assumption) ?_
  · intro w' hSw
    (try dsimp only at hSw)
    go_simp
  (try simp only [Act.put, List.getElem_toArray, List.getElem_cons_zero, List.getElem_cons_succ, List.setIfInBounds_toArray, List.set_cons_zero, List.set_cons_succ])
  refine wpAnyH_take (i := 3) (v := (.map (some M))) rfl (by kernel_rfl) (by kernel_rfl) (by kernel_rfl) (fun _ _ _ h => h) (Or.inl ⟨by rfl, ?_⟩) (by assumption) ?_
  · intro w' hSw
    (try dsimp only at hSw)
    (have hs1 := hSw.1; go_simp)
  (try simp only [Act.put, List.getElem_toArray, List.getElem_cons_zero, List.getElem_cons_succ, List.setIfInBounds_toArray, List.set_cons_zero, List.set_cons_succ])
  refine wpAnyH_take (i := 4) (v := (.pointer (some ⟨b, 0, none⟩))) rfl (by kernel_rfl) (by kernel_rfl) (by kernel_rfl) (fun _ _ _ h => h) (Or.inl ⟨by rfl, ?_⟩) (by assumption) ?_
  · intro w' hSw
    (try dsimp only at hSw)
    go_simp
  (try simp only [Act.put, List.getElem_toArray, List.getElem_cons_zero, List.getElem_cons_succ, List.setIfInBounds_toArray, List.set_cons_zero, List.set_cons_succ])
  refine wpAnyH_take (i := 5) (v := (.pointer (some ⟨b, 0, none⟩))) rfl (by kernel_rfl) (by kernel_rfl) (by kernel_rfl) (fun _ _ _ h => h) (Or.inl ⟨by rfl, ?_⟩) (by assumption) ?_
  · intro w' hSw
    (try dsimp only at hSw)
    go_simp
  (try simp only [Act.put, List.getElem_toArray, List.getElem_cons_zero, List.getElem_cons_succ, List.setIfInBounds_toArray, List.set_cons_zero, List.set_cons_succ])
  refine wpAnyH_take (i := 6) (v := (.pointer (some ⟨b, 0, none⟩))) rfl (by kernel_rfl) (by kernel_rfl) (by kernel_rfl) (fun _ _ _ h => h) (Or.inl ⟨by rfl, ?_⟩) (by assumption) ?_
  · intro w' hSw
    (try dsimp only at hSw)
    go_simp
  (try simp only [Act.put, List.getElem_toArray, List.getElem_cons_zero, List.getElem_cons_succ, List.setIfInBounds_toArray, List.set_cons_zero, List.set_cons_succ])
  refine wpAnyH_take (i := 7) (v := (.int .i64 la)) rfl (by kernel_rfl) (by kernel_rfl) (by kernel_rfl) (fun _ _ _ h => h) (Or.inl ⟨by rfl, ?_⟩) (by assumption) ?_
  · intro w' hSw
    (try dsimp only at hSw)
    (have hs2 := hSw.2; go_simp)
  (try simp only [Act.put, List.getElem_toArray, List.getElem_cons_zero, List.getElem_cons_succ, List.setIfInBounds_toArray, List.set_cons_zero, List.set_cons_succ])
  refine wpAnyH_take (i := 8) (v := (.pointer (some ⟨b, 0, none⟩))) rfl (by kernel_rfl) (by kernel_rfl) (by kernel_rfl) (fun _ _ _ h => h) (Or.inl ⟨by rfl, ?_⟩) (by assumption) ?_
  · intro w' hSw
    (try dsimp only at hSw)
    go_simp
  (try simp only [Act.put, List.getElem_toArray, List.getElem_cons_zero, List.getElem_cons_succ, List.setIfInBounds_toArray, List.set_cons_zero, List.set_cons_succ])
  refine wpAnyH_ready (rs := [9]) (by kernel_rfl) (by simp) ?_
  refine AllReadyH.cons rfl (fun K hK => ?_) AllReadyH.nil
  go_simp
  refine hK.out _ _ (D5.out) (fun hHeld => ?_)
  clear hK
  (try simp only [Act.put, List.setIfInBounds_toArray, List.set_cons_zero, List.set_cons_succ])
  refine wpAnyH_done (by kernel_rfl) ?_ _
  go_wp2_with fail
  go_ret
  refine ⟨b, gg, RtS R M S1 Kb (P ++ [⟨⟨la, key, od, 0, 0⟩, b, gg⟩]), rfl, ⟨D, M, S1, Kb, ao, nb, no, ncap, pv, X6.out, fun _ => Iff.rfl⟩, K6.out, fun k hk => ?_⟩
  rcases hk with q | q | q | q | ⟨p, hp, q⟩
  · exact Or.inl ((HS.out k).2 (Or.inl q))
  · exact Or.inl ((HS.out k).2 (Or.inr (Or.inl q)))
  · exact Or.inl ((HS.out k).2 (Or.inr (Or.inr (Or.inl q))))
  · exact Or.inl ((HS.out k).2 (Or.inr (Or.inr (Or.inr (Or.inl q)))))
  · rcases List.mem_append.1 hp with hp | hp
    · exact Or.inl ((HS.out k).2 (Or.inr (Or.inr (Or.inr (Or.inr ⟨p, hp, q⟩)))))
    · rw [List.mem_singleton.1 hp] at q
      have := GE.out
      have := GB.out
      rcases q with q | q
      · exact Or.inr (by rw [q]; exact GB.out)
      · exact Or.inr (by rw [q]; exact GE.out)
end Go.Proofs.YtndfhpfhgdamgaaGreatDoor.Cn
