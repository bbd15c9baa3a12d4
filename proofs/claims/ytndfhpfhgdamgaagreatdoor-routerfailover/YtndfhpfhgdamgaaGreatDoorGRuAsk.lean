import Derived.Test.YtndfhpfhgdamgaaGreatDoorGRuUtil
import Derived.Test.YtndfhpfhgdamgaaGreatDoorGDgPlain
import Derived.Test.YtndfhpfhgdamgaaGreatDoorGGkWalk
import Derived.Test.YtndfhpfhgdamgaaGreatDoorGlLoc
namespace Go.Proofs.YtndfhpfhgdamgaaGreatDoor.Cn
open Go.RowKit
def okAns (m : Mg) (g : Gt) : Bool := decide (m.kind = 12) && decide (g.key = m.key) && (g.ow.take g.asked).contains m.fr
def findP (P : List Gp) (t : Int) : Option Gp := P.find? fun p => decide (p.g.tk = t)
def askP (P : List Gp) (m : Mg) : Option Gp := (findP P m.id).filter fun p => okAns m p.g
def ptrP : Option Gp → Value
  | some p => .pointer (some ⟨p.b, 0, none⟩)
  | none => .pointer none
theorem look_gtE (P : List Gp) (t : Int) : (look (gtE P) t).getD (.pointer none) = ptrP (findP P t) := by
  unfold look gtE findP
  rw [List.find?_map]
  have : ((fun p : Int × Value => decide (p.1 = t)) ∘ fun p : Gp => (p.g.tk, Value.pointer (some ⟨p.b, 0, none⟩))) = fun p : Gp => decide (p.g.tk = t) := rfl
  rw [this]
  cases P.find? fun p => decide (p.g.tk = t) <;> rfl
theorem findP_mem {P : List Gp} {t : Int} {p : Gp} (h : findP P t = some p) : p ∈ P ∧ p.g.tk = t := by
  refine ⟨List.mem_of_find?_eq_some h, ?_⟩
  have := List.find?_some h
  simpa using this
theorem zeroG (u : World) : (zeroValue 104).run Tryz.prog u = .ok (.pointer none) u := by kernel_rfl
theorem RtX.look {w : World} {R : Nat} {c : Cl} {P : List Gp} {v : Rv} {D M : Nat} {S1 K : Nat → Prop} {ao : Option Addr} {nb no ncap : Nat} {pv : Nat → Value} (h : RtX w R c P v D M S1 K ao nb no ncap pv) {t : Int} (ht : tkOk t) : (Instr.lookup 83 (.map (some M)) (.int .i64 t) false).run Tryz.prog w = .ok (ptrP (findP P t)) w := by
  have := Mp.lookup h.map Tryz.underlying83 zeroG (k := t) ht
  rw [look_gtE] at this
  exact this
set_option maxHeartbeats 8000000 in
set_option maxRecDepth 100000 in
set_option linter.unusedSimpArgs false in
set_option linter.unusedVariables false in
theorem asker_any {w : World} {S : Nat → Prop} {R : Nat} {c : Cl} {P : List Gp} {v : Rv} (h : RtAt w S R c P v) (m : Mg) (hm : tkOk m.id) (hg : ∀ p ∈ P, p.g.asked ≤ p.g.ow.length ∧ p.g.ow.length ≤ 300) :
    Calls Tryz.prog 55 #[.pointer (some ⟨R, 0, none⟩), .agg (mgV m)] w fun e w' => e = .returned (ptrP (askP P m)) ∧ Kp w w' non := by
  obtain ⟨D, M, S1, Kb, ao, nb, no, ncap, pv, hx, hS⟩ := h
  obtain ⟨W0, hW0⟩ : ∃ W0, W0 = w.alloc (.cells (mgV m) 58) := ⟨_, rfl⟩
  obtain ⟨B0, hB0⟩ : ∃ B0, B0 = w.heap.size := ⟨_, rfl⟩
  have k0 : Kp w W0 non := by rw [hW0]; exact (Kp.refl w non).alloc _
  have m0 : MgAt W0 B0 m := by rw [hW0, hB0]; exact MgAt.new w m
  obtain ⟨b0, b1, _, b3, _, _, _, _, _, b9, _⟩ := m0.cells
  have x0 := hx.kp k0 (fun _ _ f => f)
  have LK : ∀ n, (Instr.lookup 83 (.map (some M)) (.int .i64 m.id) false).run Tryz.prog (W0.drewN n) = .ok (ptrP (findP P m.id)) (W0.drewN n) := fun n => (x0.kp ((Kp.refl W0 non).drewN n) (fun _ _ f => f)).look hm
  have r26 := x0.cells.2.2.2.2.2.2
  have K0 := hide k0
  have HB0 := hide hB0
  have HAS : Hid (ptrP (askP P m) = ptrP ((findP P m.id).filter fun p => okAns m p.g)) := rfl
  rw [HAS.out]
  cases hf : findP P m.id with
  | none =>
    rw [hf] at LK
    unfold ptrP at LK ⊢
    simp only [Option.filter]
    generalize m.id = id at *
    generalize m.kind = kd at *
    generalize m.key = key at *
    clear hx x0 m0 hS hB0 k0 hf
    by_cases hk : kd = 12
    · subst hk
      go_enter Tryz.func55, Tryz.ntmps55
      go_upto_region 1 with fail
      rw [← hW0, ← HB0.out]
      clear hW0
      go_quiet (fail)
      go_upto_region 2 with fail
      go_quiet (fail)
      go_wp2_with fail
      go_ret
      exact ⟨rfl, by first | exact (K0.out.drewN _).drewN _ | exact K0.out.drewN _⟩
    · have hk2 : (kd == 12) = false := by simp [hk]
      have hk3 : (kd != 12) = true := by simp [hk]
      go_enter Tryz.func55, Tryz.ntmps55
      go_upto_region 1 with fail
      rw [← hW0, ← HB0.out]
      clear hW0
      go_quiet (fail)
      go_upto_region 2 with fail
      go_quiet (fail)
      go_wp2_with fail
      go_ret
      exact ⟨rfl, by first | exact (K0.out.drewN _).drewN _ | exact K0.out.drewN _⟩
  | some p =>
    obtain ⟨hp, htk⟩ := findP_mem hf
    rw [hf] at LK
    have gp := x0.gts p hp
    have g1 := gp.cells.2.1
    have g2 := gp.cells.2.2.1
    have g3 := gp.cells.2.2.2.1
    obtain ⟨ha, hl⟩ := hg p hp
    have hOK : Hid (okAns m p.g = (decide (m.kind = 12) && decide (p.g.key = m.key) && (p.g.ow.take p.g.asked).contains m.fr)) := rfl
    have CO : Hid (∀ n1 n2, Calls Tryz.prog 77 #[.slice (some ⟨p.c, 0, none⟩) p.g.asked p.g.ow.length, .int .i64 m.fr] ((W0.drewN n1).drewN n2) fun e w' => e = .returned (.bool ((p.g.ow.take p.g.asked).contains m.fr)) ∧ w' = (W0.drewN n1).drewN n2) := fun n1 n2 => Tryz.slices_Contains_int p.c 0 p.g.asked p.g.ow.length p.g.ow m.fr ((W0.drewN n1).drewN n2) ha (by omega) (fun j hj => by
      rw [Nat.zero_add]
      have : ((W0.drewN n1).drewN n2).cell? ⟨p.c, j, none⟩ = W0.cell? ⟨p.c, j, none⟩ := rfl
      rw [this, gp.row.cell hj]
      unfold atL
      rfl)
    have hai : (p.g.asked : Int) ≤ (p.g.ow.length : Int) := by omega
    have hpt : ptrP (some p) = .pointer (some ⟨p.b, 0, none⟩) := rfl
    rw [hpt] at LK
    have HF : Hid (∀ b, okAns m p.g = b → ptrP ((some p).filter fun p => okAns m p.g) = if b then .pointer (some ⟨p.b, 0, none⟩) else .pointer none) := fun b hb => by
      subst hb
      by_cases e : okAns m p.g = true
      · simp [Option.filter, e, ptrP]
      · simp [Option.filter, e, ptrP]
    generalize hct : (p.g.ow.take p.g.asked).contains m.fr = ct at *
    generalize p.g.asked = aa at *
    generalize p.g.ow.length = n at *
    generalize p.g.key = gk at *
    generalize p.b = pb at *
    generalize p.c = pc at *
    generalize m.id = id at *
    generalize m.kind = kd at *
    generalize m.key = key at *
    generalize m.fr = fr at *
    clear hx x0 m0 hS hB0 k0 hf gp hct htk hp hg hpt
    by_cases hk : kd = 12
    · subst hk
      by_cases hke : gk = key
      · subst hke
        cases ct with
        | true =>
          rw [HF.out true (by rw [hOK.out]; simp), if_pos rfl]
          go_enter Tryz.func55, Tryz.ntmps55
          go_upto_region 1 with fail
          rw [← hW0, ← HB0.out]
          clear hW0
          go_quiet (fail)
          go_upto_region 2 with fail
          have CO' := hide (CO.out nq)
          have K1 : Hid (Kp w (W0.drewN nq) non) := K0.out.drewN nq
          have b0' : (W0.drewN nq).cell? ⟨B0, 0, none⟩ = some (.int .i64 12) := b0
          have b1' : (W0.drewN nq).cell? ⟨B0, 1, none⟩ = some (.int .i64 fr) := b1
          have b9' : (W0.drewN nq).cell? ⟨B0, 9, none⟩ = some (.string gk) := b9
          have g1' : (W0.drewN nq).cell? ⟨pb, 1, none⟩ = some (.string gk) := g1
          have g2' : (W0.drewN nq).cell? ⟨pb, 2, none⟩ = some (.slice (some ⟨pc, 0, none⟩) n n) := g2
          have g3' : (W0.drewN nq).cell? ⟨pb, 3, none⟩ = some (.int .i64 (aa : Int)) := g3
          clear CO b0 b1 b9 g1 g2 g3 b3 LK r26 K0
          generalize W0.drewN nq = W1 at *
          go_quiet (first | (go_at_call 77; refine Calls.quiet_of_same (CO'.out _)))
          go_wp2_with fail
          go_ret
          exact ⟨rfl, K1.out.drewN _⟩
        | false =>
          rw [HF.out false (by rw [hOK.out]; simp), if_neg (by decide)]
          go_enter Tryz.func55, Tryz.ntmps55
          go_upto_region 1 with fail
          rw [← hW0, ← HB0.out]
          clear hW0
          go_quiet (fail)
          go_upto_region 2 with fail
          have CO' := hide (CO.out nq)
          have K1 : Hid (Kp w (W0.drewN nq) non) := K0.out.drewN nq
          have b0' : (W0.drewN nq).cell? ⟨B0, 0, none⟩ = some (.int .i64 12) := b0
          have b1' : (W0.drewN nq).cell? ⟨B0, 1, none⟩ = some (.int .i64 fr) := b1
          have b9' : (W0.drewN nq).cell? ⟨B0, 9, none⟩ = some (.string gk) := b9
          have g1' : (W0.drewN nq).cell? ⟨pb, 1, none⟩ = some (.string gk) := g1
          have g2' : (W0.drewN nq).cell? ⟨pb, 2, none⟩ = some (.slice (some ⟨pc, 0, none⟩) n n) := g2
          have g3' : (W0.drewN nq).cell? ⟨pb, 3, none⟩ = some (.int .i64 (aa : Int)) := g3
          clear CO b0 b1 b9 g1 g2 g3 b3 LK r26 K0
          generalize W0.drewN nq = W1 at *
          go_quiet (first | (go_at_call 77; refine Calls.quiet_of_same (CO'.out _)))
          go_wp2_with fail
          go_ret
          exact ⟨rfl, K1.out.drewN _⟩
      · have hq1 : (gk.toList == key.toList) = false := by rw [eq_beq]; exact decide_eq_false hke
        have hq3 : decide (gk = key) = false := by simp [hke]
        rw [HF.out false (by rw [hOK.out, hq3]; simp), if_neg (by decide)]
        go_enter Tryz.func55, Tryz.ntmps55
        go_upto_region 1 with fail
        rw [← hW0, ← HB0.out]
        clear hW0
        go_quiet (fail)
        go_upto_region 2 with fail
        go_quiet (fail)
        go_wp2_with fail
        go_ret
        exact ⟨rfl, by first | exact (K0.out.drewN _).drewN _ | exact K0.out.drewN _⟩
    · have hk2 : (kd == 12) = false := by simp [hk]
      have hk3 : (kd != 12) = true := by simp [hk]
      have hk4 : decide (kd = 12) = false := by simp [hk]
      rw [HF.out false (by rw [hOK.out, hk4]; rfl), if_neg (by decide)]
      go_enter Tryz.func55, Tryz.ntmps55
      go_upto_region 1 with fail
      rw [← hW0, ← HB0.out]
      clear hW0
      go_quiet (fail)
      go_upto_region 2 with fail
      go_quiet (fail)
      go_wp2_with fail
      go_ret
      exact ⟨rfl, by first | exact (K0.out.drewN _).drewN _ | exact K0.out.drewN _⟩
end Go.Proofs.YtndfhpfhgdamgaaGreatDoor.Cn
namespace Go.Proofs.YtndfhpfhgdamgaaGreatDoor.Cn
open Go.RowKit
def hearP (P : List Gp) (now : Int) (p : Gp) (m : Mg) : List Gp := if m.code = 0 ∨ m.code = 144 then goneP P p.g.tk else if m.fr = lastA p.g then goP P now p else P
def hearM (now : Int) (g : Gt) (m : Mg) : List Mg := if m.code = 0 ∨ m.code = 144 then [] else if m.fr = lastA g then goM now g else []
def hearE (g : Gt) (m : Mg) : List Oc := if m.code = 0 then [⟨g.tk, g.key, 0, m.fr, m.ver, m.val⟩] else if m.code = 144 then [⟨g.tk, g.key, 144, m.fr, m.ver, ⟨#[]⟩⟩] else if m.fr = lastA g then goE g else []
/-- what a helper leaves -/
def Left (w w' : World) (S N : Nat → Prop) (R base Nb : Nat) (c : Cl) (P : List Gp) (v : Rv) (L : List Mg) (E : List Oc) : Prop := ∃ S' N', RtAt w' S' R c P v ∧ NwAt w' base N' Nb L E ∧ Kp w w' (fun k => S k ∨ N k) ∧ (∀ k, S' k → S k) ∧ (∀ k, N' k → N k ∨ w.heap.size ≤ k)
theorem Left.ahead {w w0 w' : World} {S N : Nat → Prop} {R base Nb : Nat} {c : Cl} {P : List Gp} {v : Rv} {L : List Mg} {E : List Oc} (k0 : Kp w w0 non) (h : Left w0 w' S N R base Nb c P v L E) : Left w w' S N R base Nb c P v L E := by
  obtain ⟨S', N', a1, a2, a3, a4, a5⟩ := h
  refine ⟨S', N', a1, a2, (k0.mono (T := fun k => S k ∨ N k) (fun _ f => f.elim)).trans a3 (fun _ e => Or.inl e), a4, fun k hk => ?_⟩
  have := k0.size
  rcases a5 k hk with q | q
  · exact Or.inl q
  · exact Or.inr (by omega)
theorem Left.none {w : World} {S N : Nat → Prop} {R base Nb : Nat} {c : Cl} {P : List Gp} {v : Rv} {L : List Mg} {E : List Oc} (h : RtAt w S R c P v) (hn : NwAt w base N Nb L E) : Left w w S N R base Nb c P v L E := ⟨S, N, h, hn, Kp.refl _ _, fun _ q => q, fun _ q => Or.inl q⟩
set_option maxHeartbeats 8000000 in
set_option maxRecDepth 100000 in
set_option linter.unusedSimpArgs false in
set_option linter.unusedVariables false in
theorem hear_any {w : World} {S N : Nat → Prop} {R base Nb : Nat} {c : Cl} {P : List Gp} {v : Rv} {L : List Mg} {E : List Oc} {p : Gp} (h : RtAt w S R c P v) (hp : p ∈ P) (hn : NwAt w base N Nb L E) (hL : L.length ≤ 1000000) (hE : E.length ≤ 1000000) (ht : tkOk p.g.tk) (hb : base ≤ w.heap.size) (h1 : 1 ≤ p.g.asked) (ha : p.g.asked ≤ p.g.ow.length) (hl : p.g.ow.length ≤ 300) (m : Mg) :
    Calls Tryz.prog 56 #[.pointer (some ⟨R, 0, none⟩), .pointer (some ⟨p.b, 0, none⟩), .agg (mgV m), .pointer (some ⟨Nb, 0, none⟩)] w fun e w' => e = .returned (.tuple #[]) ∧ Left w w' S N R base Nb c (hearP P v.now p m) v (L ++ hearM v.now p.g m) (E ++ hearE p.g m) := by
  obtain ⟨W0, hW0⟩ : ∃ W0, W0 = w.alloc (.cells (mgV m) 58) := ⟨_, rfl⟩
  obtain ⟨B0, hB0⟩ : ∃ B0, B0 = w.heap.size := ⟨_, rfl⟩
  have k0 : Kp w W0 non := by rw [hW0]; exact (Kp.refl w non).alloc _
  have m0 : MgAt W0 B0 m := by rw [hW0, hB0]; exact MgAt.new w m
  obtain ⟨b0, b1, _, b3, _, _, b6, _, b8, b9, b10⟩ := m0.cells
  have H0 := h.kp k0 (fun _ _ f => f)
  have N0 := hn.kp k0 (fun _ _ f => f)
  have hb0 : base ≤ W0.heap.size := Nat.le_trans hb k0.size
  have EN : Hid (∀ o : Oc, Calls Tryz.prog 70 #[.pointer (some ⟨R, 0, none⟩), .pointer (some ⟨p.b, 0, none⟩), .agg (ocV o), .pointer (some ⟨Nb, 0, none⟩)] W0 fun e w' => e = .returned (.tuple #[]) ∧ Left w w' S N R base Nb c (goneP P p.g.tk) v L (E ++ [{ o with tk := p.g.tk, key := p.g.key }])) := fun o => by
    refine Calls.mono (end_any H0 hp N0 o hE ht hb0) ?_
    rintro e w' ⟨rfl, q⟩
    exact ⟨rfl, Left.ahead k0 q⟩
  have GO : Hid (∀ n, Calls Tryz.prog 47 #[.pointer (some ⟨R, 0, none⟩), .pointer (some ⟨p.b, 0, none⟩), .pointer (some ⟨Nb, 0, none⟩)] (W0.drewN n) fun e w' => e = .returned (.tuple #[]) ∧ Left w w' S N R base Nb c (goP P v.now p) v (L ++ goM v.now p.g) (E ++ goE p.g)) := fun n => by
    have kd := k0.drewN n
    refine Calls.mono (goOn_any (h.kp kd (fun _ _ f => f)) hp (hn.kp kd (fun _ _ f => f)) hL hE ht hb0 ha hl) ?_
    rintro e w' ⟨rfl, q⟩
    exact ⟨rfl, Left.ahead kd q⟩
  have NO : Hid (∀ n, Left w (W0.drewN n) S N R base Nb c P v L E) := fun n => Left.ahead (k0.drewN n) (Left.none (h.kp (k0.drewN n) (fun _ _ f => f)) (hn.kp (k0.drewN n) (fun _ _ f => f)))
  have gp : GpAt W0 p := by
    obtain ⟨D, M, S1, Kb, ao, nb, no, ncap, pv, hx, hS⟩ := H0
    exact hx.gts p hp
  have LA : Hid (∀ n, Calls Tryz.prog 52 #[.pointer (some ⟨p.b, 0, none⟩)] (W0.drewN n) fun e w' => e = .returned (.int .i64 (lastA p.g)) ∧ ∃ k, w' = (W0.drewN n).drewN k) := fun n => lastAsked_any ⟨gp.blk, gp.row⟩ h1 ha hl
  have HB0 := hide hB0
  have HM : Hid (hearM v.now p.g m = if m.code = 0 ∨ m.code = 144 then [] else if m.fr = lastA p.g then goM v.now p.g else []) := rfl
  have HP : Hid (hearP P v.now p m = if m.code = 0 ∨ m.code = 144 then goneP P p.g.tk else if m.fr = lastA p.g then goP P v.now p else P) := rfl
  have HE : Hid (hearE p.g m = if m.code = 0 then [⟨p.g.tk, p.g.key, 0, m.fr, m.ver, m.val⟩] else if m.code = 144 then [⟨p.g.tk, p.g.key, 144, m.fr, m.ver, ⟨#[]⟩⟩] else if m.fr = lastA p.g then goE p.g else []) := rfl
  generalize hearM v.now p.g m = hM at *
  generalize hearP P v.now p m = hP at *
  generalize hearE p.g m = hEE at *
  generalize lastA p.g = la at *
  clear H0 N0 m0 k0 hb0 hB0 gp
  generalize m.code = cd at *
  generalize m.fr = fr at *
  generalize m.ver = ver at *
  generalize m.val = val at *
  generalize p.b = pb at *
  by_cases hc0 : cd = 0
  · subst hc0
    rw [HM.out, HP.out, HE.out, if_pos (Or.inl rfl), if_pos (Or.inl rfl), if_pos rfl, List.append_nil]
    have EN' := hide (EN.out ⟨0, ⟨#[]⟩, 0, fr, ver, val⟩)
    clear EN GO NO LA HM HP HE
    go_enter Tryz.func56, Tryz.ntmps56
    go_upto_region 1 with fail
    rw [← hW0, ← HB0.out]
    clear hW0
    go_wp2_with fail
    refine Calls.mono EN'.out ?_
    rintro e W1 ⟨rfl, q⟩
    go_wp2_with fail
    refine bodyPost_end (results_none rfl _ _ _) rfl ?_
    exact ⟨rfl, q⟩
  · have q1 : (cd == 0) = false := by simp [hc0]
    by_cases hc1 : cd = 144
    · subst hc1
      rw [HM.out, HP.out, HE.out, if_pos (Or.inr rfl), if_pos (Or.inr rfl), if_neg (by decide), if_pos rfl, List.append_nil]
      have EN' := hide (EN.out ⟨0, ⟨#[]⟩, 144, fr, ver, ⟨#[]⟩⟩)
      clear EN GO NO LA HM HP HE
      go_enter Tryz.func56, Tryz.ntmps56
      go_upto_region 1 with fail
      rw [← hW0, ← HB0.out]
      clear hW0
      go_wp2_with fail
      refine Calls.mono EN'.out ?_
      rintro e W1 ⟨rfl, q⟩
      go_wp2_with fail
      refine bodyPost_end (results_none rfl _ _ _) rfl ?_
      exact ⟨rfl, q⟩
    · have q2 : (cd == 144) = false := by simp [hc1]
      have hno : ¬ (cd = 0 ∨ cd = 144) := by omega
      rw [HM.out, HP.out, HE.out]
      simp only [if_neg hno, if_neg hc0, if_neg hc1]
      by_cases hla : fr = la
      · subst hla
        simp only [↓reduceIte]
        clear EN NO HM HP HE
        go_enter Tryz.func56, Tryz.ntmps56
        go_upto_region 1 with fail
        rw [← hW0, ← HB0.out]
        clear hW0
        go_upto_region 5 with fail
        go_quiet (first | (go_at_call 52; refine Calls.quiet_of (LA.out _)))
        go_wp2_with fail
        refine Calls.mono (GO.out _) ?_
        rintro e W1 ⟨rfl, q⟩
        go_wp2_with fail
        refine bodyPost_end (results_none rfl _ _ _) rfl ?_
        exact ⟨rfl, q⟩
      · have q3 : (fr == la) = false := by simp [hla]
        simp only [if_neg hla, List.append_nil]
        clear EN GO HM HP HE
        go_enter Tryz.func56, Tryz.ntmps56
        go_upto_region 1 with fail
        rw [← hW0, ← HB0.out]
        clear hW0
        go_upto_region 5 with fail
        go_quiet (first | (go_at_call 52; refine Calls.quiet_of (LA.out _)))
        go_wp2_with fail
        refine bodyPost_end (results_none rfl _ _ _) rfl ?_
        exact ⟨rfl, NO.out _⟩
end Go.Proofs.YtndfhpfhgdamgaaGreatDoor.Cn
namespace Go.Proofs.YtndfhpfhgdamgaaGreatDoor.Cn
open Go.RowKit
theorem errP_dlt {st : ByteArray} {x : Nat → Int} {ns : List ND} (h : errP st x ns = 0) : Dealt ns := by
  apply Classical.byContradiction
  intro hn
  unfold errP at h
  rw [dlB_false hn] at h
  split at h <;> (try split at h) <;> (try split at h) <;> simp at h
theorem errP_all {st : ByteArray} {x : Nat → Int} {ns : List ND} (h : errP st x ns = 0) : nmP st = true ∧ sfP x = true ∧ nfP ns = true ∧ Dealt ns ∧ x 0 ≤ (kpN ns : Int) ∧ (ptN ns : Int) * x 0 * x 2 ≤ 512 := by
  have h1 := errP_ok h
  have h2 := errP_dlt h
  unfold errP at h
  cases e : nmP st with
  | false => rw [e] at h; simp at h
  | true =>
    rw [e, h1.1, h1.2, dlB_true h2, if_neg (by simp), if_neg (by simp), if_neg (by simp), if_neg (by simp)] at h
    by_cases h3 : (kpN ns : Int) < x 0
    · rw [if_pos h3] at h
      omega
    · rw [if_neg h3] at h
      by_cases h4 : 512 < (ptN ns : Int) * x 0 * x 2
      · rw [if_pos h4] at h
        omega
      · exact ⟨rfl, h1.1, h1.2, h2, by omega, by omega⟩
theorem hm_in {ns : List ND} (hd : Dealt ns) {k : Nat} (hk : k < ptN ns) : ∃ i, ∃ h : i < ns.length, hm ns k = (i : Int) ∧ (k : Int) ∈ ns[i].ps := by
  have h1 := hd.once k hk
  have h2 : (k : Int) ∈ flat ns := cntI_mem.1 (by omega)
  unfold flat at h2
  obtain ⟨n, hn, hkn⟩ := List.mem_flatMap.1 h2
  obtain ⟨i, hi, rfl⟩ := List.getElem_of_mem hn
  exact ⟨i, hi, ownF_mem hd hi hkn, hkn⟩

theorem wkL_nd (ns : List ND) (P f : Nat) (i : Nat) : ((wkL ns P f i).map (hm ns)).Nodup := by
  induction i with
  | zero => simp [wkL]
  | succ i ih =>
    cases h : frsh ns P f i with
    | true =>
      rw [wkL_yes h, List.map_append, List.map_cons, List.map_nil]
      refine List.nodup_append.2 ⟨ih, by simp, fun a ha b hb => ?_⟩
      obtain ⟨p, hp, rfl⟩ := List.mem_map.1 ha
      rw [List.mem_singleton.1 hb]
      exact frsh_taken.1 h p hp
    | false =>
      rw [wkL_no h]
      exact ih
/-- a key's owners -/
noncomputable def ownsOf (c : Cl) (key : ByteArray) : List Int := owL c.ns (wkE c.st c.x c.ns (lcP c.ns key))
def znF (ns : List ND) (k : Int) : Int := (ns[k.toNat]?.map (·.z)).getD 0
def homeF (c : Cl) (k : Int) : Bool := decide (znF c.ns k = c.x 20)
def rowOf (c : Cl) (os : List Int) : List Int := os.filter (homeF c) ++ os.filter (fun k => !homeF c k)
noncomputable def baseOf (c : Cl) (key : ByteArray) : List Int := rowOf c (ownsOf c key)
theorem rowOf_perm (c : Cl) (os : List Int) : (rowOf c os).Perm os := List.filter_append_perm (homeF c) os
theorem lcP_lt {ns : List ND} (h : 1 ≤ ptN ns) (key : ByteArray) : 0 ≤ lcP ns key ∧ lcP ns key < (ptN ns : Int) := by
  unfold lcP
  have := Nat.mod_lt (hiF ((md5L key.data.toList).take 4)) (show ptN ns > 0 by omega)
  omega
theorem owns_ok {c : Cl} (he : errP c.st c.x c.ns = 0) (key : ByteArray) : ((ownsOf c key).length : Int) = c.x 0 ∧ (∀ k ∈ ownsOf c key, 0 ≤ k ∧ k < (c.ns.length : Int)) ∧ (ownsOf c key).Nodup ∧ 1 ≤ c.x 0 ∧ c.x 0 ≤ 16 ∧ rdE c.st c.x c.ns (lcP c.ns key) = 0 := by
  obtain ⟨a1, a2, a3, a4, a5, a6⟩ := errP_all he
  have l0 : 1 ≤ c.x 0 ∧ c.x 0 ≤ 16 := sfP_lim a2 0 (by omega)
  have p1 := a4.p1
  have hp : (flat c.ns).length = ptN c.ns := rfl
  rw [hp] at p1
  obtain ⟨q0, q1⟩ := lcP_lt p1 key
  have hr : rdE c.st c.x c.ns (lcP c.ns key) = 0 := by
    unfold rdE
    rw [if_pos he, if_neg (by omega)]
  have hw := wkE_ok hr
  unfold ownsOf
  rw [hw]
  refine ⟨?_, ?_, ?_, l0.1, l0.2, hr⟩
  · rw [owL_len]
    exact wk_full a4 q0 q1 (by omega) a5
  · intro k hk
    unfold owL at hk
    obtain ⟨p, hp', rfl⟩ := List.mem_map.1 hk
    obtain ⟨i, hi, e, _⟩ := hm_in a4 (wk_lt (by omega) p hp')
    show 0 ≤ hm c.ns p ∧ hm c.ns p < _
    rw [e]
    omega
  · unfold owL wk wkR
    have := wkL_nd c.ns (ptN c.ns) (lcP c.ns key).toNat (ptN c.ns)
    rw [List.map_take]
    exact this.sublist (List.take_sublist _ _)
theorem base_ok {c : Cl} (he : errP c.st c.x c.ns = 0) (key : ByteArray) : ((baseOf c key).length : Int) = c.x 0 ∧ (∀ k ∈ baseOf c key, 0 ≤ k ∧ k < (c.ns.length : Int)) ∧ (baseOf c key).Nodup := by
  obtain ⟨a1, a2, a3, _⟩ := owns_ok he key
  have hp := rowOf_perm c (ownsOf c key)
  exact ⟨by rw [← a1]; exact congrArg _ hp.length_eq, fun k hk => a2 k (hp.mem_iff.1 hk), hp.nodup_iff.2 a3⟩
end Go.Proofs.YtndfhpfhgdamgaaGreatDoor.Cn
namespace Go.Proofs.YtndfhpfhgdamgaaGreatDoor.Cn
open Go.RowKit
theorem wp_apLL {w : World} {o : Oper} {a : Act} {K : Act → World → Prop} {Q : Exit → Act → World → Prop} (x y : Operand) (ho : o.op = .call { callee := .builtin .append, args := #[x, y], argTypes := #[25, 25] }) (base : Nat) (va : Value) (na : Nat) (La : List Int) (hx : a.eval x = va) (hva : w.ownsRow base 3 1 va na (ints La)) (base2 : Nat) (vb : Value) (nb : Nat) (Lb : List Int) (hy : a.eval y = vb) (hvb : w.ownsRow base2 3 1 vb nb (ints Lb)) (hl : na + nb ≤ 1000000) (hb : base ≤ w.heap.size)
    (h : ∀ v' w', w'.ownsRow base 3 1 v' (na + nb) (ints (La ++ Lb)) → w.grownBy w' va.ownBlock → K (a.put o.dst v') w') : o.wp Tryz.prog a w K Q := by
  obtain ⟨i0, hi, hz0, hz1, hz2⟩ := info_parts int_infos
  rcases hvb.2 with ⟨hv, hz⟩ | ⟨g, cap, cur, hv, h1, h2, h3⟩
  · have hrun := run_append_owned_none (P := Tryz.prog) (w := w) base 25 o.type 3 i0 1 Tryz.underlying25 hi va na (ints La) hva
    have hLb : Lb = [] := by
      have := hvb.1
      rw [ints_len, hz, Nat.zero_mul] at this
      exact List.length_eq_zero_iff.1 this
    unfold Oper.wp execOp
    simp only [ho, resolve, invoke, builtin, Sem.run_bind, Sem.run_pure, Result.andThen_ok, List.map_toArray, List.map_cons, List.map_nil, hx, hy, hv, hrun]
    refine h va w ?_ (World.grownBy.refl w _)
    rw [hLb, hz, List.append_nil, Nat.add_zero]
    exact hva
  · have hlb : Lb.length = nb := by
      have := hvb.1
      rw [ints_len, Nat.mul_one] at this
      exact this
    have hvb' : w.ownsRow base2 3 1 (.slice (some ⟨g, 0, none⟩) nb cap) nb (ints Lb) := hv ▸ hvb
    obtain ⟨v', w', hr, h2', h3', _, h5⟩ := run_append_own_at (P := Tryz.prog) w base 25 o.type 3 i0 _ 1 8 Tryz.underlying25 hi hz0 hz1 hz2 rfl (by decide) va na (ints La) hva ⟨g, 0, none⟩ nb cap (ints Lb) (by rw [ints_len, hlb, Nat.mul_one]) (by
      intro j u hj
      rw [Addr.add_mid, Nat.zero_add]
      have hj' := (List.getElem?_eq_some_iff.1 hj).1
      rw [ints_len] at hj'
      have hc := hvb'.cellAt j (by omega)
      rw [hc]
      exact hj) (ints_one _) (by unfold maxLen; omega) (by omega) hb
    rw [← ints_append] at h2'
    unfold Oper.wp execOp
    simp only [ho, resolve, invoke, builtin, Sem.run_bind, Sem.run_pure, Result.andThen_ok, List.map_toArray, List.map_cons, List.map_nil, hx, hy, hv, hr]
    exact h v' w' h2' h3'
theorem rt_range {X : World} {R D M : Nat} {c : Cl} {nv : Value} {v : Rv} (h : X.heap[R]? = some (.cells (rtA c nv D M v) 85)) : X.rangeAt R 0 (clA c.st c.x nv).toList := fun j u hj => by
  have e : rtA c nv D M v = clA c.st c.x nv ++ #[.pointer (some ⟨D, 0, none⟩), .int .i64 v.now, .int .i64 v.last, .map (some M)] := rfl
  have hj' := (List.getElem?_eq_some_iff.1 hj).1
  rw [Nat.zero_add, cell_row h, e, Array.getElem?_append_left (by simpa using hj')]
  simpa using hj
theorem run_ldCl2 {X : World} {R D M : Nat} {c : Cl} {nv : Value} {v : Rv} (h : X.heap[R]? = some (.cells (rtA c nv D M v) 85)) : (Instr.loadAt 24 (.pointer (some ⟨R, 0, none⟩))).run Tryz.prog X = .ok (.agg (clA c.st c.x nv)) X :=
  run_loadAt_mid X R 0 24 (clA c.st c.x nv).toList _ (rt_range h) Tryz.underlying24 rfl infoCl
theorem exec_ldCl {X : World} {op : Oper} {ρ : Operand → Value} {R D M : Nat} {c : Cl} {nv : Value} {v : Rv} (x : Operand) (ho : op.op = .load 24 x) (hx : ρ x = .pointer (some ⟨R, 0, none⟩)) (h : X.heap[R]? = some (.cells (rtA c nv D M v) 85)) : (execOp ρ op).run Tryz.prog X = .ok (.value (.agg (clA c.st c.x nv))) X := by
  unfold execOp
  simp only [ho, Sem.run_bind, Sem.run_pure, Result.andThen_ok, hx, run_ldCl2 h]
theorem wpList_ldCl {w : World} {ops : Array Oper} {rest : List Oper} {o : Oper} {a : Act} {Q : Exit → Act → World → Prop} {R D M : Nat} {c : Cl} {nv : Value} {v : Rv} (hgd : o.guard = none) (p : Operand) (ho : o.op = .load 24 p) (hx : a.eval p = .pointer (some ⟨R, 0, none⟩)) (hO : w.heap[R]? = some (.cells (rtA c nv D M v) 85))
    (h : wpList Tryz.prog ops Q rest (a.put o.dst (.agg (clA c.st c.x nv))) w) : wpList Tryz.prog ops Q (o :: rest) a w := by
  refine wpList_plain hgd fun K hK => ?_
  unfold Oper.wp execOp
  simp only [ho, Sem.run_bind, Sem.run_pure, Result.andThen_ok, hx, run_ldCl2 hO]
  exact hK _ _ h
end Go.Proofs.YtndfhpfhgdamgaaGreatDoor.Cn
namespace Go.Proofs.YtndfhpfhgdamgaaGreatDoor.Cn
open Go.RowKit
theorem own_belowR {w w' : World} {base e sz n : Nat} {v : Value} {xs : List Value} (h : w.ownsRow base e sz v n xs) (hb : Below w.heap.size w w') : w'.ownsRow base e sz v n xs := own_kp h (Kp.of_below hb non) (fun _ _ f => f)
theorem own_atH {X : World} {base e sz n : Nat} {v : Value} {xs : List Value} (h : X.ownsRow base e sz v n xs) {j : Nat} {u : Value} (hj : xs[j]? = some u) : ∃ g cap, v = .slice (some ⟨g, 0, none⟩) n cap ∧ X.cell? ⟨g, j, none⟩ = some u ∧ X.frozen? ⟨g, j, none⟩ = false := by
  have hl := (List.getElem?_eq_some_iff.1 hj).1
  rcases h.2 with ⟨_, hz⟩ | ⟨g, cap, cur, rfl, h1, h2, h3, h4, h5, h6⟩
  · have := h.1
    rw [hz] at this
    omega
  · refine ⟨g, cap, rfl, ?_, ?_⟩
    · rw [cell_row h2]
      rw [← h6, List.getElem?_take] at hj
      split at hj
      · simpa using hj
      · simp at hj
    · exact fz_row h2 j
set_option maxRecDepth 100000 in
set_option maxHeartbeats 4000000 in
theorem wp_apRowH {w : World} {o : Oper} {a : Act} {K : Act → World → Prop} {Q : Exit → Act → World → Prop} (s x : Operand) (t : TypeId) (ho : o.op = .call { callee := .builtin .append, args := #[s, x], argTypes := #[t, t] })
    (base : Nat) (e : TypeId) {z : Value} {size bytes : Nat} (ht : Tryz.prog.underlying t = some (.slice e)) (hinf : (Tryz.prog.info? e).map (fun i => (i.zero, i.size, i.bytes)) = some (some z, size, bytes)) (hzs : z.cells.size = size) (hsz : 0 < size)
    (va : Value) (na : Nat) (xa : List Value) (hx : a.eval s = va) (hva : w.ownsRow base e size va na xa) (base2 : Nat) (vb : Value) (nb : Nat) (xb : List Value) (hy : a.eval x = vb) (hvb : w.ownsRow base2 e size vb nb xb) (h1 : ∀ u ∈ xb, u.oneCell' = true)
    (h63 : na + nb ≤ maxLen) (hbytes : (na + nb) * bytes ≤ 140737488355328) (hb : base ≤ w.heap.size)
    (h : ∀ v' w', w'.ownsRow base e size v' (na + nb) (xa ++ xb) → w.grownBy w' va.ownBlock → (v'.ownBlock = va.ownBlock ∨ v'.ownBlock = some w.heap.size) → K (a.put o.dst v') w') : o.wp Tryz.prog a w K Q := by
  obtain ⟨i0, hi, hz0, hz1, hz2⟩ := info_parts hinf
  rcases hvb.2 with ⟨hv, hz⟩ | ⟨g, cap, cur, hv, _⟩
  · have hrun := run_append_owned_none (P := Tryz.prog) (w := w) base t o.type e i0 size ht hi va na xa hva
    have hLb : xb = [] := by
      have := hvb.1
      rw [hz, Nat.zero_mul] at this
      exact List.length_eq_zero_iff.1 this
    unfold Oper.wp execOp
    simp only [ho, resolve, invoke, builtin, Sem.run_bind, Sem.run_pure, Result.andThen_ok, List.map_toArray, List.map_cons, List.map_nil, hx, hy, hv, hrun]
    refine h va w ?_ (World.grownBy.refl w _) (Or.inl rfl)
    rw [hLb, hz, List.append_nil, Nat.add_zero]
    exact hva
  · obtain ⟨v', w', hr, h2', h3', _, h5⟩ := run_append_own_at (P := Tryz.prog) w base t o.type e i0 z size bytes ht hi hz0 hz1 hz2 hzs hsz va na xa hva ⟨g, 0, none⟩ nb cap xb hvb.1 (by
      intro j u hj
      rw [Addr.add_mid, Nat.zero_add]
      obtain ⟨g', c', e1, hc, _⟩ := own_atH hvb hj
      rw [hv] at e1
      injection e1 with e1
      injection e1 with e1
      injection e1 with e1
      rw [e1]
      exact hc) h1 h63 hbytes hb
    unfold Oper.wp execOp
    simp only [ho, resolve, invoke, builtin, Sem.run_bind, Sem.run_pure, Result.andThen_ok, List.map_toArray, List.map_cons, List.map_nil, hx, hy, hv, hr]
    exact h v' w' h2' h3' h5
theorem own_oneH (w : World) (e sz : Nat) (A : Array Value) (hs : A.size = sz) : (w.alloc (.cells A e)).ownsRow w.heap.size e sz (.slice (some ⟨w.heap.size, 0, none⟩) 1 1) 1 A.toList :=
  ⟨by rw [Nat.one_mul, ← hs, Array.length_toList], .inr ⟨w.heap.size, 1, A, rfl, Nat.le_refl _, heap_last _ _, Nat.le_refl _, by unfold maxLen; omega, by omega, by
    rw [Nat.one_mul, ← hs, ← Array.length_toList]
    exact List.take_length⟩⟩
def homeG (ns : List ND) (hm : Int) (k : Int) : Bool := decide (znF ns k = hm)
/-- those at home ahead of the others -/
def rowG (ns : List ND) (hm : Int) (os : List Int) : List Int := os.filter (homeG ns hm) ++ os.filter (fun k => !homeG ns hm k)
theorem rowG_perm (ns : List ND) (hm : Int) (os : List Int) : (rowG ns hm os).Perm os := List.filter_append_perm (homeG ns hm) os
theorem filt_take {f : Int → Bool} {os : List Int} {i : Nat} (h : i < os.length) : (os.take (i + 1)).filter f = (os.take i).filter f ++ if f os[i] then [os[i]] else [] := by
  rw [List.take_succ_eq_append_getElem h, List.filter_append]
  congr 1
  by_cases e : f os[i] = true
  · simp [e]
  · simp [e]
theorem ints_at2G (L : List Int) (j : Nat) (h : j < L.length) : (ints L)[j]? = some (.int .i64 L[j]) := by
  unfold ints
  rw [List.getElem?_map, List.getElem?_eq_getElem h]
  rfl
theorem wpList_apI3G {w : World} {ops : Array Oper} {rest : List Oper} {o : Oper} {a : Act} {Q : Exit → Act → World → Prop} (hgd : o.guard = none) (x y : Operand) (ho : o.op = .call { callee := .builtin .append, args := #[x, y], argTypes := #[25, 25] }) (base : Nat) (v : Value) (n : Nat) (L : List Int) (hx : a.eval x = v) (hv : w.ownsRow base 3 1 v n (ints L)) (base2 : Nat) (v2 : Value) (n2 : Nat) (L2 : List Int) (hy : a.eval y = v2) (hv2 : w.ownsRow base2 3 1 v2 n2 (ints L2)) (hl : n + n2 < 17592186043904) (hb : base ≤ w.heap.size)
    (h : ∀ v' w', w'.ownsRow base 3 1 v' (n + n2) (ints (L ++ L2)) → w.grownBy w' v.ownBlock → (v'.ownBlock = v.ownBlock ∨ v'.ownBlock = some w.heap.size) → wpList Tryz.prog ops Q rest (a.put o.dst v') w') : wpList Tryz.prog ops Q (o :: rest) a w :=
  wpList_plain hgd fun _ hK => wp_apRowH x y 25 ho base 3 Tryz.underlying25 int_infos rfl (by decide) v n (ints L) hx hv base2 v2 n2 (ints L2) hy hv2 (ints_one _) (by unfold maxLen; omega) (by omega) hb (fun v' w' h1 h2 h3 => hK _ _ (h v' w' (by rw [ints_append]; exact h1) h2 h3))
set_option maxHeartbeats 16000000 in
set_option maxRecDepth 100000 in
set_option linter.unusedSimpArgs false in
set_option linter.unusedVariables false in
theorem homeFirst_r (N : Nat) (w : World) (st : ByteArray) (x : Nat → Int) (ao : Option Addr) (b o cap : Nat) (pv : Nat → Value) (ns : List ND) (h : NsAt N w ao b o pv ns) (hN : N ≤ w.heap.size) (u : Value) (os : List Int) (ho : w.ownsRow 0 3 1 u os.length (ints os)) (hos : ∀ k ∈ os, 0 ≤ k ∧ k < (ns.length : Int)) (hlen : os.length ≤ 16) :
    Calls Tryz.prog 86 #[.agg (clA st x (.slice ao ns.length cap)), u] w fun e w' => ∃ u', e = .returned u' ∧ w'.ownsRow w.heap.size 3 1 u' (rowG ns (x 20) os).length (ints (rowG ns (x 20) os)) ∧ Below w.heap.size w w' := by
  obtain ⟨ua, uc, hu⟩ := own_sl ho
  subst hu
  obtain ⟨W3, hW0, hX⟩ := boxed st x cap h hN
  have HX := hide (hX.stand hN)
  have B0 := hide hX.bel
  have OU := hide (own_belowR ho hX.bel)
  have HO2 := hide hos
  obtain ⟨hm, hhm⟩ : ∃ hm, hm = x 20 := ⟨_, rfl⟩
  have RS : Hid (rowG ns hm os = os.filter (homeG ns hm) ++ os.filter (fun k => !homeG ns hm k)) := rfl
  rw [← hhm]
  have HHM := hide hhm
  obtain ⟨B3, hB3⟩ : ∃ B3, B3 = W3.heap.size := ⟨_, rfl⟩
  have HB3 := hide hB3
  clear hX h ho hos hhm hB3
  go_enter Tryz.func86, Tryz.ntmps86
  go_upto_region 2 with fail
  rw [← hW0]
  clear hW0
  go_wp2_with fail
  go_loopw [5, 6, 8, 11] (fun v9 v10 _ vi wr => ∃ (i : Nat), i ≤ os.length ∧ vi = .int .i64 (i : Int) ∧ ∃ (a9 : Option Addr) (c9 : Nat) (a10 : Option Addr) (c10 : Nat) (HH AA : List Int), v9 = .slice a9 HH.length c9 ∧ v10 = .slice a10 AA.length c10 ∧ HH = (os.take i).filter (homeG ns hm) ∧ AA = (os.take i).filter (fun k => !homeG ns hm k) ∧ wr.ownsRow B3 3 1 (.slice a9 HH.length c9) HH.length (ints HH) ∧ wr.ownsRow B3 3 1 (.slice a10 AA.length c10) AA.length (ints AA) ∧ (∀ k, (Value.slice a9 HH.length c9).ownBlock = some k → (Value.slice a10 AA.length c10).ownBlock ≠ some k) ∧ Kp W3 wr non) (fun _ _ _ vi _ => os.length - (intOf vi).toNat)
  case atStart => exact ⟨0, Nat.zero_le _, rfl, none, 0, none, 0, [], [], rfl, rfl, rfl, rfl, World.ownsRow_nil _ _ _ _, World.ownsRow_nil _ _ _ _, fun k e => by simp [Value.ownBlock] at e, Kp.refl _ _⟩
  case round =>
    obtain ⟨i, hi, rfl, a9, c9, a10, c10, HH, AA, rfl, rfl, hHH, hAA, oh, oa, hne, kw⟩ := hrel
    have OH := hide oh
    have OA := hide oa
    have NE := hide hne
    have KW := hide kw
    have HHl : Hid (HH.length ≤ 16) := by
      rw [hHH]
      show _ ≤ _
      have := List.length_filter_le (homeG ns hm) (os.take i)
      rw [List.length_take] at this
      omega
    have HAl : Hid (AA.length ≤ 16) := by
      rw [hAA]
      show _ ≤ _
      have := List.length_filter_le (fun k => !homeG ns hm k) (os.take i)
      rw [List.length_take] at this
      omega
    have H0 := hide hHH
    have A0 := hide hAA
    clear oh oa hne kw hHH hAA
    by_cases hin : i < os.length
    case pos =>
      have hii : (i : Int) < (os.length : Int) := by omega
      have xr := HX.out.below (KW.out.below)
      obtain ⟨ug, uc', hug⟩ := own_g OU.out (by omega)
      injection hug with hug _ huc
      subst hug
      subst huc
      have our := own_kp OU.out KW.out (fun _ _ f => f)
      have cu := our.cellAt i (by omega)
      rw [ints_at2G os i hin] at cu
      obtain ⟨z0, z1⟩ := HO2.out os[i] (List.getElem_mem hin)
      have hfF := filt_take (f := homeG ns hm) hin
      have hfA := filt_take (f := fun k => !homeG ns hm k) hin
      obtain ⟨q, hq⟩ : ∃ q : Nat, os[i] = (q : Int) := ⟨os[i].toNat, by omega⟩
      rw [hq] at cu z0 z1 hfF hfA
      have hqn : q < ns.length := by omega
      obtain ⟨x20, hx20⟩ : ∃ x20, x20 = hm := ⟨_, rfl⟩
      have hz : homeG ns hm (q : Int) = decide (ns[q].z = x20) := by
        rw [hx20]
        unfold homeG znF
        simp [hqn]
      have nat' := xr.nd
      have hao := nat'.at0 (by omega)
      subst hao
      have zc := nat'.cz q hqn
      have d22 := xr.cl.nv
      have d21 := xr.cl.x 20 (by omega)
      rw [← HHM.out] at d21
      have hqi : (q : Int) < (ns.length : Int) := by omega
      have hqb : ns.length ≤ 9223372036854775807 := by have := nat'.len; omega
      rw [← hx20] at d21
      obtain ⟨zz, hzz0⟩ : ∃ zz, zz = ns[q].z := ⟨_, rfl⟩
      rw [← hzz0] at zc hz
      clear hzz0
      generalize hnl : ns.length = nl at *
      clear xr our nat' z0 hq hx20
      by_cases hzz : zz = x20
      · have hz2 : homeG ns hm (q : Int) = true := by rw [hz]; exact decide_eq_true hzz
        have HF : Hid (HH ++ [(q : Int)] = (os.take (i + 1)).filter (homeG ns hm)) := by show _ = _; rw [hfF, hz2, if_pos rfl, H0.out]
        have HA : Hid (AA = (os.take (i + 1)).filter (fun k => !homeG ns hm k)) := by show _ = _; rw [hfA, hz2, A0.out]; simp
        have hze : (zz == x20) = true := by simp [hzz]
        clear hfF hfA hz hz2
        go_wp2_with fail
        go_quiet (fail)
        have kq := (Kp.refl wr non).drewN nq
        have Hq := own_kp OH.out kq (fun _ _ f => f)
        have Aq := own_kp OA.out kq (fun _ _ f => f)
        have Kq : Kp W3 (wr.drewN nq) non := KW.out.trans kq (fun _ f => f.elim)
        clear kq d21 d22 zc cu
        obtain ⟨wq, hwq⟩ : ∃ wq, wq = wr.drewN nq := ⟨_, rfl⟩
        rw [← hwq] at Hq Aq Kq ⊢
        clear hwq
        obtain ⟨W4, hW4⟩ : ∃ W4, W4 = wq.alloc (.cells #[.int .i64 (q : Int)] 3) := ⟨_, rfl⟩
        have hb4 : Below wq.heap.size wq W4 := by rw [hW4]; exact (Below.refl _ _).alloc (Nat.le_refl _) _
        have HGG : Hid (W4.ownsRow wq.heap.size 3 1 (.slice (some ⟨wq.heap.size, 0, none⟩) 1 1) 1 (ints [(q : Int)])) := by rw [hW4]; exact own_oneH wq 3 1 #[.int .i64 (q : Int)] rfl
        have H4 := hide (own_kp Hq (Kp.of_below hb4 non) (fun _ _ f => f))
        have A4 := hide (own_kp Aq (Kp.of_below hb4 non) (fun _ _ f => f))
        have K4 : Hid (Kp W3 W4 non) := Kq.trans (Kp.of_below hb4 non) (fun _ f => f.elim)
        have hsz : Hid (B3 ≤ W4.heap.size) := by rw [HB3.out]; exact K4.out.size
        have AQL : ∀ k, (Value.slice a10 AA.length c10).ownBlock = some k → k < wq.heap.size := fun k e => by
          obtain ⟨cur, hc⟩ := own_typ Aq e
          exact blk_lt hc
        have W4s : wq.heap.size ≤ W4.heap.size := hb4.size
        clear hb4 Hq Aq Kq
        go_wp2_with (at_builtin; rw [← hW4]; refine wpList_apI3G rfl (.tmp 24) (.tmp 26) rfl B3 _ HH.length HH rfl H4.out wq.heap.size _ 1 [(q : Int)] rfl HGG.out (by have := HHl.out; omega) hsz.out ?_; intro v' w' o2 g2 hn2; have HO5 := hide o2; have KG := hide (Kp.of_grown g2); have N5 := hide hn2; clear o2 g2 hn2)
        obtain ⟨a5, c5, rfl⟩ := own_sl HO5.out
        have A5 : Hid (w'.ownsRow B3 3 1 (.slice a10 AA.length c10) AA.length (ints AA)) := own_kp A4.out KG.out (fun k e f => NE.out k f.symm e)
        have K5 : Hid (Kp W3 w' non) := K4.out.trans KG.out (fun k e => Or.inr (by have := own_ge H4.out e.symm; have := HB3.out; omega))
        go_roundw
        case rel =>
          refine ⟨i + 1, by omega, by go_num, a5, c5, a10, c10, HH ++ [(q : Int)], AA, by rw [List.length_append]; rfl, rfl, by rw [HF.out], HA.out, by rw [List.length_append]; exact HO5.out, A5.out, fun k e f => ?_, K5.out⟩
          rw [show (HH ++ [(q : Int)]).length = HH.length + 1 by simp] at e
          rcases N5.out with r | r
          · exact NE.out k (r.symm.trans e) f
          · rw [e] at r
            simp at r
            have h9 : k < wq.heap.size := AQL k f
            have h8 := W4s
            omega
        case measure => simp [intOf]; omega
      · have hz2 : homeG ns hm (q : Int) = false := by rw [hz]; exact decide_eq_false hzz
        have HF : Hid (HH = (os.take (i + 1)).filter (homeG ns hm)) := by show _ = _; rw [hfF, hz2, H0.out]; simp
        have HA : Hid (AA ++ [(q : Int)] = (os.take (i + 1)).filter (fun k => !homeG ns hm k)) := by show _ = _; rw [hfA, hz2, A0.out]; simp
        have hze : (zz == x20) = false := by simp [hzz]
        clear hfF hfA hz hz2
        go_wp2_with fail
        go_quiet (fail)
        have kq := (Kp.refl wr non).drewN nq
        have Hq := own_kp OH.out kq (fun _ _ f => f)
        have Aq := own_kp OA.out kq (fun _ _ f => f)
        have Kq : Kp W3 (wr.drewN nq) non := KW.out.trans kq (fun _ f => f.elim)
        clear kq d21 d22 zc cu
        obtain ⟨wq, hwq⟩ : ∃ wq, wq = wr.drewN nq := ⟨_, rfl⟩
        rw [← hwq] at Hq Aq Kq ⊢
        clear hwq
        obtain ⟨W4, hW4⟩ : ∃ W4, W4 = wq.alloc (.cells #[.int .i64 (q : Int)] 3) := ⟨_, rfl⟩
        have hb4 : Below wq.heap.size wq W4 := by rw [hW4]; exact (Below.refl _ _).alloc (Nat.le_refl _) _
        have HGG : Hid (W4.ownsRow wq.heap.size 3 1 (.slice (some ⟨wq.heap.size, 0, none⟩) 1 1) 1 (ints [(q : Int)])) := by rw [hW4]; exact own_oneH wq 3 1 #[.int .i64 (q : Int)] rfl
        have H4 := hide (own_kp Hq (Kp.of_below hb4 non) (fun _ _ f => f))
        have A4 := hide (own_kp Aq (Kp.of_below hb4 non) (fun _ _ f => f))
        have K4 : Hid (Kp W3 W4 non) := Kq.trans (Kp.of_below hb4 non) (fun _ f => f.elim)
        have hsz : Hid (B3 ≤ W4.heap.size) := by rw [HB3.out]; exact K4.out.size
        have AQL : ∀ k, (Value.slice a9 HH.length c9).ownBlock = some k → k < wq.heap.size := fun k e => by
          obtain ⟨cur, hc⟩ := own_typ Hq e
          exact blk_lt hc
        have W4s : wq.heap.size ≤ W4.heap.size := hb4.size
        clear hb4 Hq Aq Kq
        go_wp2_with (at_builtin; rw [← hW4]; refine wpList_apI3G rfl (.tmp 28) (.tmp 30) rfl B3 _ AA.length AA rfl A4.out wq.heap.size _ 1 [(q : Int)] rfl HGG.out (by have := HAl.out; omega) hsz.out ?_; intro v' w' o2 g2 hn2; have HO5 := hide o2; have KG := hide (Kp.of_grown g2); have N5 := hide hn2; clear o2 g2 hn2)
        obtain ⟨a5, c5, rfl⟩ := own_sl HO5.out
        have H5 : Hid (w'.ownsRow B3 3 1 (.slice a9 HH.length c9) HH.length (ints HH)) := own_kp H4.out KG.out (fun k e f => NE.out k e f.symm)
        have K5 : Hid (Kp W3 w' non) := K4.out.trans KG.out (fun k e => Or.inr (by have := own_ge A4.out e.symm; have := HB3.out; omega))
        go_roundw
        case rel =>
          refine ⟨i + 1, by omega, by go_num, a9, c9, a5, c5, HH, AA ++ [(q : Int)], rfl, by rw [List.length_append]; rfl, HF.out, by rw [HA.out], H5.out, by rw [List.length_append]; exact HO5.out, fun k e f => ?_, K5.out⟩
          rw [show (AA ++ [(q : Int)]).length = AA.length + 1 by simp] at f
          rcases N5.out with r | r
          · exact NE.out k e (r.symm.trans f)
          · rw [f] at r
            simp at r
            have h9 : k < wq.heap.size := AQL k e
            have h8 := W4s
            omega
        case measure => simp [intOf]; omega
    case neg =>
      obtain rfl : i = os.length := by omega
      have hrow : Hid (HH ++ AA = rowG ns hm os) := by show _ = _; rw [RS.out, H0.out, A0.out, List.take_length]
      have hsz : Hid (B3 ≤ wr.heap.size) := by rw [HB3.out]; exact KW.out.size
      clear H0 A0
      go_wp2_with (at_builtin; refine wpList_apI3G rfl (.tmp 33) (.tmp 34) rfl B3 _ HH.length HH rfl OH.out B3 _ AA.length AA rfl OA.out (by have := HHl.out; have := HAl.out; omega) hsz.out ?_; intro v' w' o2 g2 hn2; have HO5 := hide o2; have KG := hide (Kp.of_grown g2); clear o2 g2 hn2)
      have K5 : Hid (Kp W3 w' non) := KW.out.trans KG.out (fun k e => Or.inr (by have := own_ge OH.out e.symm; have := HB3.out; omega))
      go_ret
      refine ⟨_, rfl, ?_, B0.out.trans ((K5.out.below).mono B0.out.size)⟩
      rw [← hrow.out, List.length_append]
      exact own_base HO5.out (by rw [HB3.out]; exact B0.out.size)
end Go.Proofs.YtndfhpfhgdamgaaGreatDoor.Cn
