import Derived.Test.YtpleakkhbfhdkaaGCaNote
namespace Go.Proofs.Ytpleakkhbfhdkaa.Cn
open Go.RowKit
theorem CtX.ne_P {w : World} {S : Nat → Prop} {C P A : Nat} {hv mv : Value} {c : Ct} {p : Ph} {r : Rd} (h : CtX w S C P A hv mv c) (hp : c.ph = some (p, r)) : C ≠ P := fun e => by
  have := h.ob.symm.trans (e ▸ (h.rd p r hp).ob)
  simp only [Option.some.injEq, Obj.cells.injEq] at this
  cases p <;> simp [Ph.ty] at this
set_option maxHeartbeats 8000000 in
set_option maxRecDepth 100000 in
set_option linter.unusedSimpArgs false in
set_option linter.unusedVariables false in
theorem send_any {w : World} {S : Nat → Prop} {C : Nat} {c : Ct} (h : CtAt w S C c) {p : Ph} {r : Rd} (hp : c.ph = some (p, r)) (h16 : c.ru.n ≤ 16) (h0 : 0 ≤ r.sd) (h1 : r.sd ≤ 1000000000000000) :
    Calls Try.prog 49 #[.pointer (some ⟨C, 0, none⟩)] w fun e w' => ∃ v, e = .returned v ∧ CtAt w' S C (entP c p r) ∧ Kp w w' S ∧ w'.ownsRow w.heap.size 44 11 v (entL p r).length (mgs (entL p r)) := by
  obtain ⟨P, A, hv, mv, h⟩ := h
  have C5 : Hid (w.cell? ⟨C, 5, none⟩ = some (.iface p.pt (.pointer (some ⟨P, 0, none⟩)))) := by
    have c5 := h.cells.2.2.2.2.2.1
    rw [hp] at c5
    exact c5
  have HX := hide h
  have R0 := hide (h.rd p r hp)
  have HP := hide hp
  have D0 : Below w.heap.size w w.drew := ⟨rfl, rfl, rfl, Nat.le_refl _, fun _ _ => rfl⟩
  have ME := hide (message_ph p (R0.out.below D0))
  have Q1 := mth_message p P
  have Q2 := mth_sending p P
  have E1 := ent_message p
  generalize p.pt = pt at *
  generalize f_message p = fm at *
  clear h hp
  go_enter Try.func49, Try.ntmps49
  go_upto_region 1 with fail
  refine wp_region_held_drew (S := fun X => X.cell? ⟨C, 5, none⟩ = some (.iface pt (.pointer (some ⟨P, 0, none⟩)))) (by kernel_rfl) C5.out (fun hHeld => ?_)
  refine wpAnyH_take (i := 0) (v := (.pointer (some ⟨C, 0, none⟩))) rfl (by kernel_rfl) (by kernel_rfl) (by kernel_rfl) (fun _ _ _ h => h) (Or.inl ⟨by rfl, ?_⟩) (by assumption) ?_
  · intro w' hSw
    (try dsimp only at hSw)
    go_simp
  (try simp only [Act.put, List.getElem_toArray, List.getElem_cons_zero, List.getElem_cons_succ, List.setIfInBounds_toArray, List.set_cons_zero, List.set_cons_succ])
  refine wpAnyH_take (i := 1) (v := (.pointer (some ⟨C, 0, none⟩))) rfl (by kernel_rfl) (by kernel_rfl) (by kernel_rfl) (fun _ _ _ h => h) (Or.inl ⟨by rfl, ?_⟩) (by assumption) ?_
  · intro w' hSw
    (try dsimp only at hSw)
    go_simp
  (try simp only [Act.put, List.getElem_toArray, List.getElem_cons_zero, List.getElem_cons_succ, List.setIfInBounds_toArray, List.set_cons_zero, List.set_cons_succ])
  refine wpAnyH_take (i := 2) (v := (.pointer (some ⟨C, 5, none⟩))) rfl (by kernel_rfl) (by kernel_rfl) (by kernel_rfl) (fun _ _ _ h => h) (Or.inl ⟨by rfl, ?_⟩) (by assumption) ?_
  · intro w' hSw
    (try dsimp only at hSw)
    go_simp
  (try simp only [Act.put, List.getElem_toArray, List.getElem_cons_zero, List.getElem_cons_succ, List.setIfInBounds_toArray, List.set_cons_zero, List.set_cons_succ])
  refine wpAnyH_take (i := 3) (v := (.iface pt (.pointer (some ⟨P, 0, none⟩)))) rfl (by kernel_rfl) (by kernel_rfl) (by kernel_rfl) (fun _ _ _ h => h) (Or.inl ⟨by rfl, ?_⟩) (by assumption) ?_
  · intro w' hSw
    (try dsimp only at hSw)
    go_simp
  (try simp only [Act.put, List.getElem_toArray, List.getElem_cons_zero, List.getElem_cons_succ, List.setIfInBounds_toArray, List.set_cons_zero, List.set_cons_succ])
  refine wpAnyH_take (i := 4) (v := (.pointer (some ⟨C, 0, none⟩))) rfl (by kernel_rfl) (by kernel_rfl) (by kernel_rfl) (fun _ _ _ h => h) (Or.inl ⟨by rfl, ?_⟩) (by assumption) ?_
  · intro w' hSw
    (try dsimp only at hSw)
    go_simp
  (try simp only [Act.put, List.getElem_toArray, List.getElem_cons_zero, List.getElem_cons_succ, List.setIfInBounds_toArray, List.set_cons_zero, List.set_cons_succ])
  refine wpAnyH_take (i := 5) (v := (.pointer (some ⟨C, 0, none⟩))) rfl (by kernel_rfl) (by kernel_rfl) (by kernel_rfl) (fun _ _ _ h => h) (Or.inl ⟨by rfl, ?_⟩) (by assumption) ?_
  · intro w' hSw
    (try dsimp only at hSw)
    go_simp
  (try simp only [Act.put, List.getElem_toArray, List.getElem_cons_zero, List.getElem_cons_succ, List.setIfInBounds_toArray, List.set_cons_zero, List.set_cons_succ])
  refine wpAnyH_take (i := 6) (v := (.pointer (some ⟨C, 5, none⟩))) rfl (by kernel_rfl) (by kernel_rfl) (by kernel_rfl) (fun _ _ _ h => h) (Or.inl ⟨by rfl, ?_⟩) (by assumption) ?_
  · intro w' hSw
    (try dsimp only at hSw)
    go_simp
  (try simp only [Act.put, List.getElem_toArray, List.getElem_cons_zero, List.getElem_cons_succ, List.setIfInBounds_toArray, List.set_cons_zero, List.set_cons_succ])
  refine wpAnyH_take (i := 7) (v := (.iface pt (.pointer (some ⟨P, 0, none⟩)))) rfl (by kernel_rfl) (by kernel_rfl) (by kernel_rfl) (fun _ _ _ h => h) (Or.inl ⟨by rfl, ?_⟩) (by assumption) ?_
  · intro w' hSw
    (try dsimp only at hSw)
    go_simp
  (try simp only [Act.put, List.getElem_toArray, List.getElem_cons_zero, List.getElem_cons_succ, List.setIfInBounds_toArray, List.set_cons_zero, List.set_cons_succ])
  refine wpAnyH_take (i := 9) (v := (.iface pt (.pointer (some ⟨P, 0, none⟩)))) rfl (by kernel_rfl) (by kernel_rfl) (by kernel_rfl) (fun _ _ _ h => h) (Or.inl ⟨by rfl, ?_⟩) (by assumption) ?_
  · intro w' hSw
    (try dsimp only at hSw)
    go_simp
  (try simp only [Act.put, List.getElem_toArray, List.getElem_cons_zero, List.getElem_cons_succ, List.setIfInBounds_toArray, List.set_cons_zero, List.set_cons_succ])
  refine wpAnyH_take (i := 10) (v := (.iface pt (.pointer (some ⟨P, 0, none⟩)))) rfl (by kernel_rfl) (by kernel_rfl) (by kernel_rfl) (fun _ _ _ h => h) (Or.inl ⟨by rfl, ?_⟩) (by assumption) ?_
  · intro w' hSw
    (try dsimp only at hSw)
    go_simp
  (try simp only [Act.put, List.getElem_toArray, List.getElem_cons_zero, List.getElem_cons_succ, List.setIfInBounds_toArray, List.set_cons_zero, List.set_cons_succ])
  refine wpAnyH_ready (rs := [8]) (by kernel_rfl) (by simp) ?_
  refine AllReadyH.cons rfl (fun K hK => ?_) AllReadyH.nil
  go_simp
  refine Calls.mono ME.out ?_
  rintro e W1 ⟨rfl, hb⟩
  have b1 : Below w.heap.size w W1 := D0.trans hb
  have X1 : Hid (CtX W1 S C P A hv mv c) := HX.out.kp (Kp.of_below b1 non) (fun _ f => f.elim)
  have B1 := hide b1
  have c51 : Hid (W1.cell? ⟨C, 5, none⟩ = some (.iface pt (.pointer (some ⟨P, 0, none⟩)))) := (Kp.of_below b1 non).cell (blk_lt HX.out.ob) (fun f => f) |>.trans C5.out
  have SE := hide (sending_any (X1.out.rd p r HP.out) h16 (mesP p r) h0 h1)
  clear hb b1 ME HX hHeld D0 R0
  refine hK.out _ _ (c51.out) (fun hHeld => ?_)
  clear hK
  (try simp only [Act.put, List.setIfInBounds_toArray, List.set_cons_zero, List.set_cons_succ])
  refine wpAnyH_ready (rs := [11]) (by kernel_rfl) (by simp) ?_
  refine AllReadyH.cons rfl (fun K hK => ?_) AllReadyH.nil
  go_simp
  refine Calls.mono SE.out ?_
  rintro e W2 ⟨v, rfl, hl, hr, hk⟩
  have X2 : Hid (CtX W2 S C P A hv mv (entP c p r)) := X1.out.setR HP.out hr (hk.mono (fun k e => Or.inl e))
  have K2 : Hid (Kp w W2 S) := (Kp.of_below B1.out S).trans hk (fun k e => Or.inl (by rw [e]; exact (X1.out.sP (by rw [HP.out]; simp)).1))
  have O2 : Hid (W2.ownsRow w.heap.size 44 11 v (entL p r).length (mgs (entL p r))) := by
    unfold entL
    rw [toAll_len]
    exact own_mono hl B1.out.size
  have c52 : Hid (W2.cell? ⟨C, 5, none⟩ = some (.iface pt (.pointer (some ⟨P, 0, none⟩)))) := (hk.cell (blk_lt X1.out.ob) (fun e => X1.out.ne_P HP.out e)).trans c51.out
  clear hl hr hk SE hHeld
  refine hK.out _ _ (c52.out) (fun hHeld => ?_)
  clear hK
  (try simp only [Act.put, List.setIfInBounds_toArray, List.set_cons_zero, List.set_cons_succ])
  refine wpAnyH_ready (rs := [12]) (by kernel_rfl) (by simp) ?_
  refine AllReadyH.cons rfl (fun K hK => ?_) AllReadyH.nil
  go_simp
  refine hK.out _ _ (c52.out) (fun hHeld => ?_)
  clear hK
  (try simp only [Act.put, List.setIfInBounds_toArray, List.set_cons_zero, List.set_cons_succ])
  refine wpAnyH_done (by kernel_rfl) ?_ _
  go_wp2_with fail
  go_ret
  exact ⟨_, rfl, ⟨P, A, hv, mv, X2.out⟩, K2.out, O2.out⟩
end Go.Proofs.Ytpleakkhbfhdkaa.Cn
namespace Go.Proofs.Ytpleakkhbfhdkaa.Cn
open Go.RowKit
theorem CtX.setNo {w : World} {S : Nat → Prop} {C P A : Nat} {hv mv : Value} {c : Ct} (h : CtX w S C P A hv mv c) : ∀ i, w.frozen? ⟨C, i, none⟩ = false := fz_row h.ob
theorem CtAt.mono {w : World} {S T : Nat → Prop} {C : Nat} {c : Ct} (h : CtAt w S C c) (hT : ∀ k, S k → T k) (hl : ∀ k, T k → k < w.heap.size) : CtAt w T C c := by
  obtain ⟨P, A, hv, mv, h⟩ := h
  exact ⟨P, A, hv, mv, h.ob, h.rd, h.hs, h.ms, hT _ h.sC, fun e => ⟨hT _ (h.sP e).1, hT _ (h.sP e).2⟩, fun k e => hT _ (h.sH k e), fun k e => hT _ (h.sM k e), hl⟩
/-- another phase is put in -/
theorem CtAt.put {w : World} {S : Nat → Prop} {C : Nat} {c : Ct} (h : CtAt w S C c) {P A : Nat} {p : Ph} {r : Rd} (hr : RdAt w P A p.ty c.ru r) : CtAt (w.setCell ⟨C, 5, none⟩ (.iface p.pt (.pointer (some ⟨P, 0, none⟩)))) (fun k => S k ∨ k = P ∨ k = A) C { c with ph := some (p, r) } := by
  obtain ⟨P0, A0, hv, mv, h⟩ := h
  have hk : Kp w (w.setCell ⟨C, 5, none⟩ (.iface p.pt (.pointer (some ⟨P, 0, none⟩)))) (fun k => k = C) := (Kp.refl w (fun k => k = C)).set (Or.inl rfl) _ _
  have n1 : C ≠ P := fun e => by
    have := h.ob.symm.trans (e ▸ hr.ob)
    simp only [Option.some.injEq, Obj.cells.injEq] at this
    cases p <;> simp [Ph.ty] at this
  have n2 : C ≠ A := fun e => by
    have := h.ob.symm.trans (e ▸ hr.an)
    simp only [Option.some.injEq, Obj.cells.injEq] at this
    simp at this
  refine ⟨P, A, hv, mv, set_row h.ob 5 _, fun p' r' e => ?_, own_kp h.hs hk (fun k hk' e => row_type h.hs h.ob (by decide) k hk' e), own_kp h.ms hk (fun k hk' e => row_type h.ms h.ob (by decide) k hk' e), Or.inl h.sC, fun _ => ⟨Or.inr (Or.inl rfl), Or.inr (Or.inr rfl)⟩, fun k e => Or.inl (h.sH k e), fun k e => Or.inl (h.sM k e), fun k e => ?_⟩
  · simp only [Option.some.injEq, Prod.mk.injEq] at e
    obtain ⟨rfl, rfl⟩ := e
    exact hr.keep hk (fun e => n1 e.symm) (fun e => n2 e.symm)
  · rw [World.size_setCell]
    rcases e with e | e | e
    · exact h.lt k e
    · rw [e]; exact blk_lt hr.ob
    · rw [e]; exact blk_lt hr.an
set_option maxHeartbeats 8000000 in
set_option maxRecDepth 100000 in
set_option linter.unusedSimpArgs false in
set_option linter.unusedVariables false in
theorem enter_any {w : World} {S : Nat → Prop} {C : Nat} {c : Ct} (h : CtAt w S C c) {P A : Nat} {p : Ph} {r : Rd} (hr : RdAt w P A p.ty c.ru r) (h16 : c.ru.n ≤ 16) (h0 : 0 ≤ r.sd) (h1 : r.sd ≤ 1000000000000000) :
    Calls Try.prog 31 #[.pointer (some ⟨C, 0, none⟩), .iface p.pt (.pointer (some ⟨P, 0, none⟩))] w fun e w' => ∃ v, e = .returned v ∧ CtAt w' (fun k => S k ∨ k = P ∨ k = A) C (entP c p r) ∧ Kp w w' (fun k => S k ∨ k = P ∨ k = A) ∧ w'.ownsRow w.heap.size 44 11 v (entL p r).length (mgs (entL p r)) := by
  obtain ⟨W1, hW1⟩ : ∃ W1, W1 = w.setCell ⟨C, 5, none⟩ (.iface p.pt (.pointer (some ⟨P, 0, none⟩))) := ⟨_, rfl⟩
  have X1 : CtAt W1 (fun k => S k ∨ k = P ∨ k = A) C { c with ph := some (p, r) } := by rw [hW1]; exact h.put hr
  have SE := hide (send_any X1 rfl h16 h0 h1)
  obtain ⟨P0, A0, hv, mv, h⟩ := h
  have K1 : Hid (Kp w W1 (fun k => S k ∨ k = P ∨ k = A)) := by rw [hW1]; exact (Kp.refl w (fun k => S k ∨ k = P ∨ k = A)).set (Or.inl (Or.inl h.sC)) _ _
  have c5 := h.cells.2.2.2.2.2.1
  have z5 := h.setNo 5
  have s1 : Hid (W1.heap.size = w.heap.size) := by rw [hW1]; exact World.size_setCell _ _ _
  replace hW1 := hide hW1
  generalize phV c.ph P0 = pv at *
  generalize p.pt = pt at *
  clear h hr X1
  go_enter Try.func31, Try.ntmps31
  go_upto_region 2 with fail
  rw [← hW1.out]
  clear hW1 c5 z5
  go_wp2_with fail
  refine Calls.mono SE.out ?_
  rintro e W2 ⟨v, rfl, h1, h2, h3⟩
  rw [s1.out] at h3
  go_wp2_with fail
  go_ret
  exact ⟨v, rfl, h1, K1.out.trans h2 (fun k e => Or.inl e), h3⟩
theorem kp_setCells (b : Nat) : ∀ (vs : List Value) (o : Nat) (w : World), Kp w (w.setCells b o vs) (fun k => k = b)
  | [], _, w => Kp.refl w _
  | v :: r, o, w => ((Kp.refl w (fun k => k = b)).set (Or.inl rfl) o v).trans (kp_setCells b r (o + 1) _) (fun _ e => Or.inl e)
theorem there12 (c : Ct) (a b d : Value) (j : Nat) (h : j < 6) : ((ctA c a b d)[6 + j]?).isSome = true := by
  simp [ctA]
  omega
def endC (c : Ct) (r : Rd) (o : Int) : Ct := { c with ph := none, last := repO r o }
set_option maxHeartbeats 8000000 in
set_option maxRecDepth 100000 in
set_option linter.unusedSimpArgs false in
set_option linter.unusedVariables false in
theorem end_any {w : World} {S : Nat → Prop} {C : Nat} {c : Ct} (h : CtAt w S C c) {p : Ph} {r : Rd} (hp : c.ph = some (p, r)) (hn1 : 1 ≤ c.ru.n) (h16 : c.ru.n ≤ 16) (o : Int) :
    Calls Try.prog 53 #[.pointer (some ⟨C, 0, none⟩), .int .i64 o] w fun e w' => e = .returned (.tuple #[]) ∧ Kp w w' S ∧ ∃ S', CtAt w' S' C (endC c r o) ∧ (∀ k, S' k → S k ∨ w.heap.size ≤ k) := by
  obtain ⟨P, A, hv, mv, h⟩ := h
  have c5 : w.cell? ⟨C, 5, none⟩ = some (.iface p.pt (.pointer (some ⟨P, 0, none⟩))) := by
    have c5 := h.cells.2.2.2.2.2.1
    rw [hp] at c5
    exact c5
  have RE := hide (report_any (h.rd p r hp) hn1 h16 o)
  have Q1 := mth_report p P
  have HX := hide h
  generalize p.pt = pt at *
  clear h hp
  go_enter Try.func53, Try.ntmps53
  go_wp2_with fail
  refine Calls.mono RE.out ?_
  rintro e W1 ⟨nh, nm, rfl, o1, o2, ap, hb⟩
  have X1 := HX.out.kp (Kp.of_below hb non) (fun _ f => f.elim)
  obtain ⟨W2, hW2⟩ : ∃ W2, W2 = W1.setCells C 6 (rpA (repO r o) nh nm).toList := ⟨_, rfl⟩
  have k2 : Kp W1 W2 (fun k => k = C) := by rw [hW2]; exact kp_setCells _ _ _ _
  have ob2 : W2.heap[C]? = some (.cells (ctA { c with last := repO r o } (phV c.ph P) nh nm) 79) := by
    rw [hW2]
    simp only [rpA, World.setCells]
    exact set_row (set_row (set_row (set_row (set_row (set_row X1.ob 6 _) 7 _) 8 _) 9 _) 10 _) 11 _
  have th : Hid (W1.there C 6 6) := fun j hj => ⟨by rw [cell_row X1.ob]; exact there12 c _ _ _ j hj, fz_row X1.ob _⟩
  obtain ⟨W3, hW3⟩ : ∃ W3, W3 = W2.setCell ⟨C, 5, none⟩ .nilIface := ⟨_, rfl⟩
  have k3 : Kp W2 W3 (fun k => k = C) := by rw [hW3]; exact (Kp.refl W2 (fun k => k = C)).set (Or.inl rfl) _ _
  have ob3 : W3.heap[C]? = some (.cells (ctA (endC c r o) .nilIface nh nm) 79) := by rw [hW3]; exact set_row ob2 5 _
  have k13 : Kp W1 W3 (fun k => k = C) := k2.trans k3 (fun k e => Or.inl e)
  have XX : Hid (Kp w W3 S ∧ ∃ S', CtAt W3 S' C (endC c r o) ∧ (∀ k, S' k → S k ∨ w.heap.size ≤ k)) := by
    refine ⟨(Kp.of_below hb S).trans k13 (fun k e => Or.inl (by rw [e]; exact X1.sC)), fun k => k = C ∨ nh.ownBlock = some k ∨ nm.ownBlock = some k, ⟨0, 0, nh, nm, ob3, fun _ _ e => by simp [endC] at e, ?_, ?_, Or.inl rfl, fun e => absurd rfl e, fun k e => Or.inr (Or.inl e), fun k e => Or.inr (Or.inr e), ?_⟩, ?_⟩
    · exact own_mono (own_kp o1 k13 (fun k hk e => row_type o1 X1.ob (by decide) k hk e)) (Nat.zero_le _)
    · exact own_mono (own_kp o2 k13 (fun k hk e => row_type o2 X1.ob (by decide) k hk e)) (Nat.zero_le _)
    · rintro k (e | e | e)
      · rw [e]; exact blk_lt ob3
      · exact Nat.lt_of_lt_of_le (own_lt2 o1 e) k13.size
      · exact Nat.lt_of_lt_of_le (own_lt2 o2 e) k13.size
    · rintro k (e | e | e)
      · exact Or.inl (by rw [e]; exact X1.sC)
      · exact Or.inr (own_ge o1 e)
      · exact Or.inr (own_ge o2 e)
  have y5 : W2.cell? ⟨C, 5, none⟩ = some (phV c.ph P) := by rw [cell_row ob2]; rfl
  have z5 : W2.frozen? ⟨C, 5, none⟩ = false := fz_row ob2 5
  have o1s : Hid (∃ a n cc, nh = .slice a n cc) := by obtain ⟨a, cc, e⟩ := own_sl o1; exact ⟨_, _, _, e⟩
  have o2s : Hid (∃ a n cc, nm = .slice a n cc) := by obtain ⟨a, cc, e⟩ := own_sl o2; exact ⟨_, _, _, e⟩
  replace hW2 := hide hW2
  replace hW3 := hide hW3
  generalize phV c.ph P = pv at *
  clear X1 k2 ob2 k3 ob3 k13 o1 o2 ap hb HX RE c5 Q1
  go_upto_region 1 with (refine wpList_store_mid rfl 39 (.tmp 12) (.tmp 10) rfl C 6 (rpA (repO r o) nh nm) rfl rfl th.out rp_info (rp_one _ o1s.out o2s.out) ?_)
  rw [← hW2.out]
  clear hW2
  go_wp2_with fail
  rw [← hW3.out]
  refine bodyPost_end (results_none rfl _ _ _) rfl ?_
  exact ⟨rfl, XX.out⟩
end Go.Proofs.Ytpleakkhbfhdkaa.Cn
namespace Go.Proofs.Ytpleakkhbfhdkaa.Cn
open Go.RowKit
def folC (c : Ct) (p : Ph) (r : Rd) (v : Int) : Ct := if v = 1 then entP c p r else if v = 2 then entP c .swap (rd0 c.ru r.num r.kind r.ver) else if v = 3 then entP c .back (rd0 c.ru r.num r.kind r.ver) else if v = 4 then endC c r 1 else if v = 5 then endC c r 2 else if v = 6 then endC c r 3 else c
def folL (c : Ct) (p : Ph) (r : Rd) (v : Int) : List Mg := if v = 1 then entL p r else if v = 2 then entL .swap (rd0 c.ru r.num r.kind r.ver) else if v = 3 then entL .back (rd0 c.ru r.num r.kind r.ver) else []
/-- what the contracts ask of a controller -/
structure Ct.ok (c : Ct) : Prop where
  n1 : 1 ≤ c.ru.n
  n16 : c.ru.n ≤ 16
  rs1 : 1 ≤ c.ru.rs
  rs2 : c.ru.rs ≤ 1000000000000000
  rd : ∀ p r, c.ph = some (p, r) → 0 ≤ r.tk ∧ r.tk ≤ 1000000000000000 ∧ 0 ≤ r.sd ∧ r.sd ≤ 1000000000000000
theorem CtAt.lt {w : World} {S : Nat → Prop} {C : Nat} {c : Ct} (h : CtAt w S C c) : ∀ k, S k → k < w.heap.size := by
  obtain ⟨P, A, hv, mv, h⟩ := h
  exact h.lt
theorem CtAt.here {w : World} {S : Nat → Prop} {C : Nat} {c : Ct} (h : CtAt w S C c) : S C := by
  obtain ⟨P, A, hv, mv, h⟩ := h
  exact h.sC
theorem rdat_new {W : World} {u : Ru} {num kind ver : Int} {A : Nat} (p : Ph) (hA : W.heap[A]? = some (.cells (anc (rd0 u num kind ver).al).toArray 134)) : RdAt (W.alloc (.cells (rdA u (rd0 u num kind ver) A) p.ty)) W.heap.size A p.ty u (rd0 u num kind ver) := by
  refine ⟨heap_last _ _, ?_, by simp [rd0], fun e => ?_⟩
  · rw [Below.heap_alloc _ _ _ (blk_lt hA)]
    exact hA
  · have := blk_lt hA
    omega
set_option maxHeartbeats 8000000 in
set_option maxRecDepth 100000 in
set_option linter.unusedSimpArgs false in
set_option linter.unusedVariables false in
theorem follow_2 {w : World} {S : Nat → Prop} {C : Nat} {c : Ct} (h : CtAt w S C c) {p : Ph} {r : Rd} (hp : c.ph = some (p, r)) (n1 : 1 ≤ c.ru.n) (n16 : c.ru.n ≤ 16) :
    Calls Try.prog 39 #[.pointer (some ⟨C, 0, none⟩), .int .i64 2] w fun e w' => ∃ lv, e = .returned lv ∧ Did w w' S C (entP c .swap (rd0 c.ru r.num r.kind r.ver)) lv (entL .swap (rd0 c.ru r.num r.kind r.ver)) := by
  have LT := hide h.lt
  have SC := hide h.here
  obtain ⟨P, A, hv, mv, h⟩ := h
  have c5 : w.cell? ⟨C, 5, none⟩ = some (.iface p.pt (.pointer (some ⟨P, 0, none⟩))) := by
    have c5 := h.cells.2.2.2.2.2.1
    rw [hp] at c5
    exact c5
  have AN := hide (anew_any (h.rd p r hp) n1 n16)
  have Q1 := mth_anew p P
  have HX := hide h
  have N16 := hide n16
  generalize p.pt = pt at *
  clear h hp n1 n16
  go_enter Try.func39, Try.ntmps39
  go_wp2_with fail
  refine Calls.mono AN.out ?_
  rintro e W1 ⟨A', rfl, hA, hle, hb⟩
  obtain ⟨rr, hrr⟩ : ∃ rr, rr = rd0 c.ru r.num r.kind r.ver := ⟨_, rfl⟩
  rw [← hrr] at hA ⊢
  have X1 := HX.out.kp (Kp.of_below hb non) (fun _ f => f.elim)
  obtain ⟨W2, hW2⟩ : ∃ W2, W2 = W1.alloc (.cells (rdA c.ru rr A') 124) := ⟨_, rfl⟩
  have b2 : Below W1.heap.size W1 W2 := by rw [hW2]; exact (Below.refl _ W1).alloc (Nat.le_refl _) _
  have X2 : CtAt W2 S C c := ⟨P, A, hv, mv, X1.kp (Kp.of_below b2 non) (fun _ f => f.elim)⟩
  have R2 : RdAt W2 W1.heap.size A' Ph.swap.ty c.ru rr := by rw [hW2, hrr]; rw [hrr] at hA; exact rdat_new .swap hA
  have EN := hide (enter_any (p := .swap) X2 R2 N16.out (by rw [hrr]; exact Int.le_refl _) (by rw [hrr]; show (0 : Int) ≤ _; omega))
  have s2 : Hid (W2.heap.size = W1.heap.size + 1) := by rw [hW2]; exact World.size_alloc _ _
  have hA2 := hide (blk_lt hA)
  have HL := hide hle
  have B1 := hide hb
  have B2 := hide b2
  replace hW2 := hide hW2
  replace hrr := hide hrr
  clear X1 X2 R2 b2 hb hle hA AN HX c5 Q1
  have PT : (Ph.swap).pt = 123 := rfl
  rw [PT] at EN
  clear PT
  go_wp2_with (refine wpList_blR rfl 124 #[(0, .tmp 17)] rfl (rdA c.ru rr A') (by kernel_rfl) ?_)
  rw [← hW2.out]
  refine Calls.mono EN.out ?_
  rintro e W3 ⟨lv, rfl, x3, k3, o3⟩
  have DI : Hid (Did w W3 S C (entP c .swap rr) lv (entL .swap rr)) := by
    have sz := B1.out.size
    refine ⟨_, x3, fun k e => ?_, ?_, own_mono o3 (by rw [s2.out]; omega), fun k hk e => ?_⟩
    · rcases e with e | e | e
      · exact Or.inl e
      · exact Or.inr (by omega)
      · exact Or.inr (by rw [e]; exact HL.out)
    · refine (((Kp.of_below B1.out S).trans (Kp.of_below B2.out non) (fun _ f => f.elim)).trans k3 (fun k e => ?_))
      rcases e with e | e | e
      · exact Or.inl e
      · exact Or.inr (by omega)
      · exact Or.inr (by rw [e]; exact HL.out)
    · have g := own_ge o3 hk
      rw [s2.out] at g
      rcases e with e | e | e
      · have := LT.out k e; omega
      · omega
      · have := hA2.out; omega
  clear x3 k3 o3 EN
  go_wp2_with fail
  go_ret
  rw [hrr.out] at DI
  exact ⟨lv, rfl, DI.out⟩
set_option maxHeartbeats 8000000 in
set_option maxRecDepth 100000 in
set_option linter.unusedSimpArgs false in
set_option linter.unusedVariables false in
theorem follow_3 {w : World} {S : Nat → Prop} {C : Nat} {c : Ct} (h : CtAt w S C c) {p : Ph} {r : Rd} (hp : c.ph = some (p, r)) (n1 : 1 ≤ c.ru.n) (n16 : c.ru.n ≤ 16) :
    Calls Try.prog 39 #[.pointer (some ⟨C, 0, none⟩), .int .i64 3] w fun e w' => ∃ lv, e = .returned lv ∧ Did w w' S C (entP c .back (rd0 c.ru r.num r.kind r.ver)) lv (entL .back (rd0 c.ru r.num r.kind r.ver)) := by
  have LT := hide h.lt
  have SC := hide h.here
  obtain ⟨P, A, hv, mv, h⟩ := h
  have c5 : w.cell? ⟨C, 5, none⟩ = some (.iface p.pt (.pointer (some ⟨P, 0, none⟩))) := by
    have c5 := h.cells.2.2.2.2.2.1
    rw [hp] at c5
    exact c5
  have AN := hide (anew_any (h.rd p r hp) n1 n16)
  have Q1 := mth_anew p P
  have HX := hide h
  have N16 := hide n16
  generalize p.pt = pt at *
  clear h hp n1 n16
  go_enter Try.func39, Try.ntmps39
  go_wp2_with fail
  refine Calls.mono AN.out ?_
  rintro e W1 ⟨A', rfl, hA, hle, hb⟩
  obtain ⟨rr, hrr⟩ : ∃ rr, rr = rd0 c.ru r.num r.kind r.ver := ⟨_, rfl⟩
  rw [← hrr] at hA ⊢
  have X1 := HX.out.kp (Kp.of_below hb non) (fun _ f => f.elim)
  obtain ⟨W2, hW2⟩ : ∃ W2, W2 = W1.alloc (.cells (rdA c.ru rr A') 89) := ⟨_, rfl⟩
  have b2 : Below W1.heap.size W1 W2 := by rw [hW2]; exact (Below.refl _ W1).alloc (Nat.le_refl _) _
  have X2 : CtAt W2 S C c := ⟨P, A, hv, mv, X1.kp (Kp.of_below b2 non) (fun _ f => f.elim)⟩
  have R2 : RdAt W2 W1.heap.size A' Ph.back.ty c.ru rr := by rw [hW2, hrr]; rw [hrr] at hA; exact rdat_new .back hA
  have EN := hide (enter_any (p := .back) X2 R2 N16.out (by rw [hrr]; exact Int.le_refl _) (by rw [hrr]; show (0 : Int) ≤ _; omega))
  have s2 : Hid (W2.heap.size = W1.heap.size + 1) := by rw [hW2]; exact World.size_alloc _ _
  have hA2 := hide (blk_lt hA)
  have HL := hide hle
  have B1 := hide hb
  have B2 := hide b2
  replace hW2 := hide hW2
  replace hrr := hide hrr
  clear X1 X2 R2 b2 hb hle hA AN HX c5 Q1
  have PT : (Ph.back).pt = 81 := rfl
  rw [PT] at EN
  clear PT
  go_wp2_with (refine wpList_blR rfl 89 #[(0, .tmp 29)] rfl (rdA c.ru rr A') (by kernel_rfl) ?_)
  rw [← hW2.out]
  refine Calls.mono EN.out ?_
  rintro e W3 ⟨lv, rfl, x3, k3, o3⟩
  have DI : Hid (Did w W3 S C (entP c .back rr) lv (entL .back rr)) := by
    have sz := B1.out.size
    refine ⟨_, x3, fun k e => ?_, ?_, own_mono o3 (by rw [s2.out]; omega), fun k hk e => ?_⟩
    · rcases e with e | e | e
      · exact Or.inl e
      · exact Or.inr (by omega)
      · exact Or.inr (by rw [e]; exact HL.out)
    · refine (((Kp.of_below B1.out S).trans (Kp.of_below B2.out non) (fun _ f => f.elim)).trans k3 (fun k e => ?_))
      rcases e with e | e | e
      · exact Or.inl e
      · exact Or.inr (by omega)
      · exact Or.inr (by rw [e]; exact HL.out)
    · have g := own_ge o3 hk
      rw [s2.out] at g
      rcases e with e | e | e
      · have := LT.out k e; omega
      · omega
      · have := hA2.out; omega
  clear x3 k3 o3 EN
  go_wp2_with fail
  go_ret
  rw [hrr.out] at DI
  exact ⟨lv, rfl, DI.out⟩
set_option maxHeartbeats 8000000 in
set_option maxRecDepth 100000 in
set_option linter.unusedSimpArgs false in
set_option linter.unusedVariables false in
theorem follow_4 {w : World} {S : Nat → Prop} {C : Nat} {c : Ct} (h : CtAt w S C c) {p : Ph} {r : Rd} (hp : c.ph = some (p, r)) (n1 : 1 ≤ c.ru.n) (n16 : c.ru.n ≤ 16) :
    Calls Try.prog 39 #[.pointer (some ⟨C, 0, none⟩), .int .i64 4] w fun e w' => ∃ lv, e = .returned lv ∧ Did w w' S C (endC c r 1) lv [] := by
  have EN := hide (end_any h hp n1 n16 1)
  clear h hp n1 n16
  go_enter Try.func39, Try.ntmps39
  go_wp2_with fail
  refine Calls.mono EN.out ?_
  rintro e W1 ⟨rfl, hk, S', x1, hs⟩
  go_wp2_with fail
  go_ret
  exact ⟨_, rfl, S', x1, hs, hk, World.ownsRow_nil _ _ _ _, fun k hk => by simp [Value.ownBlock] at hk⟩
set_option maxHeartbeats 8000000 in
set_option maxRecDepth 100000 in
set_option linter.unusedSimpArgs false in
set_option linter.unusedVariables false in
theorem follow_5 {w : World} {S : Nat → Prop} {C : Nat} {c : Ct} (h : CtAt w S C c) {p : Ph} {r : Rd} (hp : c.ph = some (p, r)) (n1 : 1 ≤ c.ru.n) (n16 : c.ru.n ≤ 16) :
    Calls Try.prog 39 #[.pointer (some ⟨C, 0, none⟩), .int .i64 5] w fun e w' => ∃ lv, e = .returned lv ∧ Did w w' S C (endC c r 2) lv [] := by
  have EN := hide (end_any h hp n1 n16 2)
  clear h hp n1 n16
  go_enter Try.func39, Try.ntmps39
  go_wp2_with fail
  refine Calls.mono EN.out ?_
  rintro e W1 ⟨rfl, hk, S', x1, hs⟩
  go_wp2_with fail
  go_ret
  exact ⟨_, rfl, S', x1, hs, hk, World.ownsRow_nil _ _ _ _, fun k hk => by simp [Value.ownBlock] at hk⟩
set_option maxHeartbeats 8000000 in
set_option maxRecDepth 100000 in
set_option linter.unusedSimpArgs false in
set_option linter.unusedVariables false in
theorem follow_6 {w : World} {S : Nat → Prop} {C : Nat} {c : Ct} (h : CtAt w S C c) {p : Ph} {r : Rd} (hp : c.ph = some (p, r)) (n1 : 1 ≤ c.ru.n) (n16 : c.ru.n ≤ 16) :
    Calls Try.prog 39 #[.pointer (some ⟨C, 0, none⟩), .int .i64 6] w fun e w' => ∃ lv, e = .returned lv ∧ Did w w' S C (endC c r 3) lv [] := by
  have EN := hide (end_any h hp n1 n16 3)
  clear h hp n1 n16
  go_enter Try.func39, Try.ntmps39
  go_wp2_with fail
  refine Calls.mono EN.out ?_
  rintro e W1 ⟨rfl, hk, S', x1, hs⟩
  go_wp2_with fail
  go_ret
  exact ⟨_, rfl, S', x1, hs, hk, World.ownsRow_nil _ _ _ _, fun k hk => by simp [Value.ownBlock] at hk⟩
set_option maxHeartbeats 8000000 in
set_option maxRecDepth 100000 in
set_option linter.unusedSimpArgs false in
set_option linter.unusedVariables false in
theorem follow_0 {w : World} {S : Nat → Prop} {C : Nat} {c : Ct} (h : CtAt w S C c) :
    Calls Try.prog 39 #[.pointer (some ⟨C, 0, none⟩), .int .i64 0] w fun e w' => ∃ lv, e = .returned lv ∧ Did w w' S C c lv [] := by
  have HX := hide h
  clear h
  go_enter Try.func39, Try.ntmps39
  go_wp2_with fail
  go_ret
  exact ⟨_, rfl, S, HX.out, fun k e => Or.inl e, Kp.refl _ _, World.ownsRow_nil _ _ _ _, fun k hk => by simp [Value.ownBlock] at hk⟩
set_option maxHeartbeats 8000000 in
set_option maxRecDepth 100000 in
set_option linter.unusedSimpArgs false in
set_option linter.unusedVariables false in
theorem follow_1 {w : World} {S : Nat → Prop} {C : Nat} {c : Ct} (h : CtAt w S C c) {p : Ph} {r : Rd} (hp : c.ph = some (p, r)) (n16 : c.ru.n ≤ 16) (s0 : 0 ≤ r.sd) (s1 : r.sd ≤ 1000000000000000) :
    Calls Try.prog 39 #[.pointer (some ⟨C, 0, none⟩), .int .i64 1] w fun e w' => ∃ lv, e = .returned lv ∧ Did w w' S C (entP c p r) lv (entL p r) := by
  have LT := hide h.lt
  have SE := hide (send_any h hp n16 s0 s1)
  clear h hp
  go_enter Try.func39, Try.ntmps39
  go_wp2_with fail
  refine Calls.mono SE.out ?_
  rintro e W1 ⟨lv, rfl, x1, k1, o1⟩
  go_wp2_with fail
  go_ret
  exact ⟨lv, rfl, S, x1, fun k e => Or.inl e, k1, o1, fun k hk e => by have := own_ge o1 hk; have := LT.out k e; omega⟩
theorem follow_any {w : World} {S : Nat → Prop} {C : Nat} {c : Ct} (h : CtAt w S C c) {p : Ph} {r : Rd} (hp : c.ph = some (p, r)) (ok : c.ok) (v : Int) (h0 : 0 ≤ v) (h6 : v ≤ 6) :
    Calls Try.prog 39 #[.pointer (some ⟨C, 0, none⟩), .int .i64 v] w fun e w' => ∃ lv, e = .returned lv ∧ Did w w' S C (folC c p r v) lv (folL c p r v) := by
  have hv : v = 0 ∨ v = 1 ∨ v = 2 ∨ v = 3 ∨ v = 4 ∨ v = 5 ∨ v = 6 := by omega
  rcases hv with rfl | rfl | rfl | rfl | rfl | rfl | rfl
  · exact follow_0 h
  · exact follow_1 h hp ok.n16 (ok.rd p r hp).2.2.1 (ok.rd p r hp).2.2.2
  · exact follow_2 h hp ok.n1 ok.n16
  · exact follow_3 h hp ok.n1 ok.n16
  · exact follow_4 h hp ok.n1 ok.n16
  · exact follow_5 h hp ok.n1 ok.n16
  · exact follow_6 h hp ok.n1 ok.n16
end Go.Proofs.Ytpleakkhbfhdkaa.Cn
