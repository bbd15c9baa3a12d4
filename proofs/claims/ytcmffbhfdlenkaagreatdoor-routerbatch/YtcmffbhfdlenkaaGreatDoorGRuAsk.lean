import Derived.Test.YtcmffbhfdlenkaaGreatDoorGRuUtil
import Derived.Test.YtcmffbhfdlenkaaGreatDoorGGmTake
import Derived.Test.YtcmffbhfdlenkaaGreatDoorGGkWalk
import Derived.Test.YtcmffbhfdlenkaaGreatDoorGlLoc
namespace Go.Proofs.YtcmffbhfdlenkaaGreatDoor.Cn
open Go.RowKit
def okAns (m : Mg) (g : Gt) : Bool := decide (m.kind = 12) && decide (g.key = m.key) && (g.ow.take g.asked).contains m.fr
def findP (P : List Gp) (t : Int) : Option Gp := P.find? fun p => decide (p.g.tk = t)
def askP (P : List Gp) (m : Mg) : Option Gp := (findP P m.id).filter fun p => okAns m p.g
def ptrP : Option Gp → Value
  | some p => .pointer (some ⟨p.b, 0, none⟩)
  | none => .pointer none
theorem look_gtE (P : List Gp) (t : Int) : (look (gtE P) t).getD (.pointer none) = ptrP (findP P t) := by
  unfold look gtE findP
  rw [List.find?_map]
  have : ((fun p : Int × Value => decide (p.1 = t)) ∘ fun p : Gp => (p.g.tk, Value.pointer (some ⟨p.b, 0, none⟩))) = fun p : Gp => decide (p.g.tk = t) := rfl
  rw [this]
  cases P.find? fun p => decide (p.g.tk = t) <;> rfl
theorem findP_mem {P : List Gp} {t : Int} {p : Gp} (h : findP P t = some p) : p ∈ P ∧ p.g.tk = t := by
  refine ⟨List.mem_of_find?_eq_some h, ?_⟩
  have := List.find?_some h
  simpa using this
theorem zeroG (u : World) : (zeroValue 104).run Tryz.prog u = .ok (.pointer none) u := by kernel_rfl
theorem RtX.look {w : World} {R : Nat} {c : Cl} {P : List Gp} {v : Rv} {D M : Nat} {S1 K : Nat → Prop} {ao : Option Addr} {nb no ncap : Nat} {pv : Nat → Value} (h : RtX w R c P v D M S1 K ao nb no ncap pv) {t : Int} (ht : tkOk t) : (Instr.lookup 83 (.map (some M)) (.int .i64 t) false).run Tryz.prog w = .ok (ptrP (findP P t)) w := by
  have := Mp.lookup h.map Tryz.underlying83 zeroG (k := t) ht
  rw [look_gtE] at this
  exact this
set_option maxHeartbeats 8000000 in
set_option maxRecDepth 100000 in
set_option linter.unusedSimpArgs false in
set_option linter.unusedVariables false in
theorem asker_any {w : World} {S : Nat → Prop} {R : Nat} {c : Cl} {P : List Gp} {v : Rv} (h : RtAt w S R c P v) (m : Mg) (hm : tkOk m.id) (hg : ∀ p ∈ P, p.g.asked ≤ p.g.ow.length ∧ p.g.ow.length ≤ 300) :
    Calls Tryz.prog 55 #[.pointer (some ⟨R, 0, none⟩), .agg (mgV m)] w fun e w' => e = .returned (ptrP (askP P m)) ∧ Kp w w' non := by
  obtain ⟨D, M, S1, Kb, ao, nb, no, ncap, pv, hx, hS⟩ := h
  obtain ⟨W0, hW0⟩ : ∃ W0, W0 = w.alloc (.cells (mgV m) 58) := ⟨_, rfl⟩
  obtain ⟨B0, hB0⟩ : ∃ B0, B0 = w.heap.size := ⟨_, rfl⟩
  have k0 : Kp w W0 non := by rw [hW0]; exact (Kp.refl w non).alloc _
  have m0 : MgAt W0 B0 m := by rw [hW0, hB0]; exact MgAt.new w m
  obtain ⟨b0, b1, _, b3, _, _, _, _, _, b9, _⟩ := m0.cells
  have x0 := hx.kp k0 (fun _ _ f => f)
  have LK : ∀ n, (Instr.lookup 83 (.map (some M)) (.int .i64 m.id) false).run Tryz.prog (W0.drewN n) = .ok (ptrP (findP P m.id)) (W0.drewN n) := fun n => (x0.kp ((Kp.refl W0 non).drewN n) (fun _ _ f => f)).look hm
  have r26 := x0.cells.2.2.2.2.2.2
  have K0 := hide k0
  have HB0 := hide hB0
  have HAS : Hid (ptrP (askP P m) = ptrP ((findP P m.id).filter fun p => okAns m p.g)) := rfl
  rw [HAS.out]
  cases hf : findP P m.id with
  | none =>
    rw [hf] at LK
    unfold ptrP at LK ⊢
    simp only [Option.filter]
    generalize m.id = id at *
    generalize m.kind = kd at *
    generalize m.key = key at *
    clear hx x0 m0 hS hB0 k0 hf
    by_cases hk : kd = 12
    · subst hk
      go_enter Tryz.func55, Tryz.ntmps55
      go_upto_region 1 with fail
      rw [← hW0, ← HB0.out]
      clear hW0
      go_quiet (fail)
      go_upto_region 2 with fail
      go_quiet (fail)
      go_wp2_with fail
      go_ret
      exact ⟨rfl, by first | exact (K0.out.drewN _).drewN _ | exact K0.out.drewN _⟩
    · have hk2 : (kd == 12) = false := by simp [hk]
      have hk3 : (kd != 12) = true := by simp [hk]
      go_enter Tryz.func55, Tryz.ntmps55
      go_upto_region 1 with fail
      rw [← hW0, ← HB0.out]
      clear hW0
      go_quiet (fail)
      go_upto_region 2 with fail
      go_quiet (fail)
      go_wp2_with fail
      go_ret
      exact ⟨rfl, by first | exact (K0.out.drewN _).drewN _ | exact K0.out.drewN _⟩
  | some p =>
    obtain ⟨hp, htk⟩ := findP_mem hf
    rw [hf] at LK
    have gp := x0.gts p hp
    have g1 := gp.cells.2.1
    have g2 := gp.cells.2.2.1
    have g3 := gp.cells.2.2.2.1
    obtain ⟨ha, hl⟩ := hg p hp
    have hOK : Hid (okAns m p.g = (decide (m.kind = 12) && decide (p.g.key = m.key) && (p.g.ow.take p.g.asked).contains m.fr)) := rfl
    have CO : Hid (∀ n1 n2, Calls Tryz.prog 77 #[.slice (some ⟨p.c, 0, none⟩) p.g.asked p.g.ow.length, .int .i64 m.fr] ((W0.drewN n1).drewN n2) fun e w' => e = .returned (.bool ((p.g.ow.take p.g.asked).contains m.fr)) ∧ w' = (W0.drewN n1).drewN n2) := fun n1 n2 => Tryz.slices_Contains_int p.c 0 p.g.asked p.g.ow.length p.g.ow m.fr ((W0.drewN n1).drewN n2) ha (by omega) (fun j hj => by
      rw [Nat.zero_add]
      have : ((W0.drewN n1).drewN n2).cell? ⟨p.c, j, none⟩ = W0.cell? ⟨p.c, j, none⟩ := rfl
      rw [this, gp.row.cell hj]
      unfold atL
      rfl)
    have hai : (p.g.asked : Int) ≤ (p.g.ow.length : Int) := by omega
    have hpt : ptrP (some p) = .pointer (some ⟨p.b, 0, none⟩) := rfl
    rw [hpt] at LK
    have HF : Hid (∀ b, okAns m p.g = b → ptrP ((some p).filter fun p => okAns m p.g) = if b then .pointer (some ⟨p.b, 0, none⟩) else .pointer none) := fun b hb => by
      subst hb
      by_cases e : okAns m p.g = true
      · simp [Option.filter, e, ptrP]
      · simp [Option.filter, e, ptrP]
    generalize hct : (p.g.ow.take p.g.asked).contains m.fr = ct at *
    generalize p.g.asked = aa at *
    generalize p.g.ow.length = n at *
    generalize p.g.key = gk at *
    generalize p.b = pb at *
    generalize p.c = pc at *
    generalize m.id = id at *
    generalize m.kind = kd at *
    generalize m.key = key at *
    generalize m.fr = fr at *
    clear hx x0 m0 hS hB0 k0 hf gp hct htk hp hg hpt
    by_cases hk : kd = 12
    · subst hk
      by_cases hke : gk = key
      · subst hke
        cases ct with
        | true =>
          rw [HF.out true (by rw [hOK.out]; simp), if_pos rfl]
          go_enter Tryz.func55, Tryz.ntmps55
          go_upto_region 1 with fail
          rw [← hW0, ← HB0.out]
          clear hW0
          go_quiet (fail)
          go_upto_region 2 with fail
          have CO' := hide (CO.out nq)
          have K1 : Hid (Kp w (W0.drewN nq) non) := K0.out.drewN nq
          have b0' : (W0.drewN nq).cell? ⟨B0, 0, none⟩ = some (.int .i64 12) := b0
          have b1' : (W0.drewN nq).cell? ⟨B0, 1, none⟩ = some (.int .i64 fr) := b1
          have b9' : (W0.drewN nq).cell? ⟨B0, 9, none⟩ = some (.string gk) := b9
          have g1' : (W0.drewN nq).cell? ⟨pb, 1, none⟩ = some (.string gk) := g1
          have g2' : (W0.drewN nq).cell? ⟨pb, 2, none⟩ = some (.slice (some ⟨pc, 0, none⟩) n n) := g2
          have g3' : (W0.drewN nq).cell? ⟨pb, 3, none⟩ = some (.int .i64 (aa : Int)) := g3
          clear CO b0 b1 b9 g1 g2 g3 b3 LK r26 K0
          generalize W0.drewN nq = W1 at *
          go_quiet (first | (go_at_call 77; refine Calls.quiet_of_same (CO'.out _)))
          go_wp2_with fail
          go_ret
          exact ⟨rfl, K1.out.drewN _⟩
        | false =>
          rw [HF.out false (by rw [hOK.out]; simp), if_neg (by decide)]
          go_enter Tryz.func55, Tryz.ntmps55
          go_upto_region 1 with fail
          rw [← hW0, ← HB0.out]
          clear hW0
          go_quiet (fail)
          go_upto_region 2 with fail
          have CO' := hide (CO.out nq)
          have K1 : Hid (Kp w (W0.drewN nq) non) := K0.out.drewN nq
          have b0' : (W0.drewN nq).cell? ⟨B0, 0, none⟩ = some (.int .i64 12) := b0
          have b1' : (W0.drewN nq).cell? ⟨B0, 1, none⟩ = some (.int .i64 fr) := b1
          have b9' : (W0.drewN nq).cell? ⟨B0, 9, none⟩ = some (.string gk) := b9
          have g1' : (W0.drewN nq).cell? ⟨pb, 1, none⟩ = some (.string gk) := g1
          have g2' : (W0.drewN nq).cell? ⟨pb, 2, none⟩ = some (.slice (some ⟨pc, 0, none⟩) n n) := g2
          have g3' : (W0.drewN nq).cell? ⟨pb, 3, none⟩ = some (.int .i64 (aa : Int)) := g3
          clear CO b0 b1 b9 g1 g2 g3 b3 LK r26 K0
          generalize W0.drewN nq = W1 at *
          go_quiet (first | (go_at_call 77; refine Calls.quiet_of_same (CO'.out _)))
          go_wp2_with fail
          go_ret
          exact ⟨rfl, K1.out.drewN _⟩
      · have hq1 : (gk.toList == key.toList) = false := by rw [eq_beq]; exact decide_eq_false hke
        have hq3 : decide (gk = key) = false := by simp [hke]
        rw [HF.out false (by rw [hOK.out, hq3]; simp), if_neg (by decide)]
        go_enter Tryz.func55, Tryz.ntmps55
        go_upto_region 1 with fail
        rw [← hW0, ← HB0.out]
        clear hW0
        go_quiet (fail)
        go_upto_region 2 with fail
        go_quiet (fail)
        go_wp2_with fail
        go_ret
        exact ⟨rfl, by first | exact (K0.out.drewN _).drewN _ | exact K0.out.drewN _⟩
    · have hk2 : (kd == 12) = false := by simp [hk]
      have hk3 : (kd != 12) = true := by simp [hk]
      have hk4 : decide (kd = 12) = false := by simp [hk]
      rw [HF.out false (by rw [hOK.out, hk4]; rfl), if_neg (by decide)]
      go_enter Tryz.func55, Tryz.ntmps55
      go_upto_region 1 with fail
      rw [← hW0, ← HB0.out]
      clear hW0
      go_quiet (fail)
      go_upto_region 2 with fail
      go_quiet (fail)
      go_wp2_with fail
      go_ret
      exact ⟨rfl, by first | exact (K0.out.drewN _).drewN _ | exact K0.out.drewN _⟩
end Go.Proofs.YtcmffbhfdlenkaaGreatDoor.Cn
namespace Go.Proofs.YtcmffbhfdlenkaaGreatDoor.Cn
open Go.RowKit
def hearP (P : List Gp) (now : Int) (p : Gp) (m : Mg) : List Gp := if m.code = 0 ∨ m.code = 144 then goneP P p.g.tk else if m.fr = lastA p.g then goP P now p else P
def hearM (now : Int) (g : Gt) (m : Mg) : List Mg := if m.code = 0 ∨ m.code = 144 then [] else if m.fr = lastA g then goM now g else []
def hearE (g : Gt) (m : Mg) : List Oc := if m.code = 0 then [⟨g.tk, g.key, 0, m.fr, m.ver, m.val⟩] else if m.code = 144 then [⟨g.tk, g.key, 144, m.fr, m.ver, ⟨#[]⟩⟩] else if m.fr = lastA g then goE g else []
/-- what a helper leaves -/
def Left (w w' : World) (S N : Nat → Prop) (R base Nb : Nat) (c : Cl) (P : List Gp) (v : Rv) (L : List Mg) (E : List Oc) : Prop := ∃ S' N', RtAt w' S' R c P v ∧ NwAt w' base N' Nb L E ∧ Kp w w' (fun k => S k ∨ N k) ∧ (∀ k, S' k → S k) ∧ (∀ k, N' k → N k ∨ w.heap.size ≤ k)
theorem Left.ahead {w w0 w' : World} {S N : Nat → Prop} {R base Nb : Nat} {c : Cl} {P : List Gp} {v : Rv} {L : List Mg} {E : List Oc} (k0 : Kp w w0 non) (h : Left w0 w' S N R base Nb c P v L E) : Left w w' S N R base Nb c P v L E := by
  obtain ⟨S', N', a1, a2, a3, a4, a5⟩ := h
  refine ⟨S', N', a1, a2, (k0.mono (T := fun k => S k ∨ N k) (fun _ f => f.elim)).trans a3 (fun _ e => Or.inl e), a4, fun k hk => ?_⟩
  have := k0.size
  rcases a5 k hk with q | q
  · exact Or.inl q
  · exact Or.inr (by omega)
theorem Left.none {w : World} {S N : Nat → Prop} {R base Nb : Nat} {c : Cl} {P : List Gp} {v : Rv} {L : List Mg} {E : List Oc} (h : RtAt w S R c P v) (hn : NwAt w base N Nb L E) : Left w w S N R base Nb c P v L E := ⟨S, N, h, hn, Kp.refl _ _, fun _ q => q, fun _ q => Or.inl q⟩
set_option maxHeartbeats 8000000 in
set_option maxRecDepth 100000 in
set_option linter.unusedSimpArgs false in
set_option linter.unusedVariables false in
theorem hear_any {w : World} {S N : Nat → Prop} {R base Nb : Nat} {c : Cl} {P : List Gp} {v : Rv} {L : List Mg} {E : List Oc} {p : Gp} (h : RtAt w S R c P v) (hp : p ∈ P) (hn : NwAt w base N Nb L E) (hL : L.length ≤ 1000000) (hE : E.length ≤ 1000000) (ht : tkOk p.g.tk) (hb : base ≤ w.heap.size) (h1 : 1 ≤ p.g.asked) (ha : p.g.asked ≤ p.g.ow.length) (hl : p.g.ow.length ≤ 300) (m : Mg) :
    Calls Tryz.prog 56 #[.pointer (some ⟨R, 0, none⟩), .pointer (some ⟨p.b, 0, none⟩), .agg (mgV m), .pointer (some ⟨Nb, 0, none⟩)] w fun e w' => e = .returned (.tuple #[]) ∧ Left w w' S N R base Nb c (hearP P v.now p m) v (L ++ hearM v.now p.g m) (E ++ hearE p.g m) := by
  obtain ⟨W0, hW0⟩ : ∃ W0, W0 = w.alloc (.cells (mgV m) 58) := ⟨_, rfl⟩
  obtain ⟨B0, hB0⟩ : ∃ B0, B0 = w.heap.size := ⟨_, rfl⟩
  have k0 : Kp w W0 non := by rw [hW0]; exact (Kp.refl w non).alloc _
  have m0 : MgAt W0 B0 m := by rw [hW0, hB0]; exact MgAt.new w m
  obtain ⟨b0, b1, _, b3, _, _, b6, _, b8, b9, b10⟩ := m0.cells
  have H0 := h.kp k0 (fun _ _ f => f)
  have N0 := hn.kp k0 (fun _ _ f => f)
  have hb0 : base ≤ W0.heap.size := Nat.le_trans hb k0.size
  have EN : Hid (∀ o : Oc, Calls Tryz.prog 70 #[.pointer (some ⟨R, 0, none⟩), .pointer (some ⟨p.b, 0, none⟩), .agg (ocV o), .pointer (some ⟨Nb, 0, none⟩)] W0 fun e w' => e = .returned (.tuple #[]) ∧ Left w w' S N R base Nb c (goneP P p.g.tk) v L (E ++ [{ o with tk := p.g.tk, key := p.g.key }])) := fun o => by
    refine Calls.mono (end_any H0 hp N0 o hE ht hb0) ?_
    rintro e w' ⟨rfl, q⟩
    exact ⟨rfl, Left.ahead k0 q⟩
  have GO : Hid (∀ n, Calls Tryz.prog 47 #[.pointer (some ⟨R, 0, none⟩), .pointer (some ⟨p.b, 0, none⟩), .pointer (some ⟨Nb, 0, none⟩)] (W0.drewN n) fun e w' => e = .returned (.tuple #[]) ∧ Left w w' S N R base Nb c (goP P v.now p) v (L ++ goM v.now p.g) (E ++ goE p.g)) := fun n => by
    have kd := k0.drewN n
    refine Calls.mono (goOn_any (h.kp kd (fun _ _ f => f)) hp (hn.kp kd (fun _ _ f => f)) hL hE ht hb0 ha hl) ?_
    rintro e w' ⟨rfl, q⟩
    exact ⟨rfl, Left.ahead kd q⟩
  have NO : Hid (∀ n, Left w (W0.drewN n) S N R base Nb c P v L E) := fun n => Left.ahead (k0.drewN n) (Left.none (h.kp (k0.drewN n) (fun _ _ f => f)) (hn.kp (k0.drewN n) (fun _ _ f => f)))
  have gp : GpAt W0 p := by
    obtain ⟨D, M, S1, Kb, ao, nb, no, ncap, pv, hx, hS⟩ := H0
    exact hx.gts p hp
  have LA : Hid (∀ n, Calls Tryz.prog 52 #[.pointer (some ⟨p.b, 0, none⟩)] (W0.drewN n) fun e w' => e = .returned (.int .i64 (lastA p.g)) ∧ ∃ k, w' = (W0.drewN n).drewN k) := fun n => lastAsked_any ⟨gp.blk, gp.row⟩ h1 ha hl
  have HB0 := hide hB0
  have HM : Hid (hearM v.now p.g m = if m.code = 0 ∨ m.code = 144 then [] else if m.fr = lastA p.g then goM v.now p.g else []) := rfl
  have HP : Hid (hearP P v.now p m = if m.code = 0 ∨ m.code = 144 then goneP P p.g.tk else if m.fr = lastA p.g then goP P v.now p else P) := rfl
  have HE : Hid (hearE p.g m = if m.code = 0 then [⟨p.g.tk, p.g.key, 0, m.fr, m.ver, m.val⟩] else if m.code = 144 then [⟨p.g.tk, p.g.key, 144, m.fr, m.ver, ⟨#[]⟩⟩] else if m.fr = lastA p.g then goE p.g else []) := rfl
  generalize hearM v.now p.g m = hM at *
  generalize hearP P v.now p m = hP at *
  generalize hearE p.g m = hEE at *
  generalize lastA p.g = la at *
  clear H0 N0 m0 k0 hb0 hB0 gp
  generalize m.code = cd at *
  generalize m.fr = fr at *
  generalize m.ver = ver at *
  generalize m.val = val at *
  generalize p.b = pb at *
  by_cases hc0 : cd = 0
  · subst hc0
    rw [HM.out, HP.out, HE.out, if_pos (Or.inl rfl), if_pos (Or.inl rfl), if_pos rfl, List.append_nil]
    have EN' := hide (EN.out ⟨0, ⟨#[]⟩, 0, fr, ver, val⟩)
    clear EN GO NO LA HM HP HE
    go_enter Tryz.func56, Tryz.ntmps56
    go_upto_region 1 with fail
    rw [← hW0, ← HB0.out]
    clear hW0
    go_wp2_with fail
    refine Calls.mono EN'.out ?_
    rintro e W1 ⟨rfl, q⟩
    go_wp2_with fail
    refine bodyPost_end (results_none rfl _ _ _) rfl ?_
    exact ⟨rfl, q⟩
  · have q1 : (cd == 0) = false := by simp [hc0]
    by_cases hc1 : cd = 144
    · subst hc1
      rw [HM.out, HP.out, HE.out, if_pos (Or.inr rfl), if_pos (Or.inr rfl), if_neg (by decide), if_pos rfl, List.append_nil]
      have EN' := hide (EN.out ⟨0, ⟨#[]⟩, 144, fr, ver, ⟨#[]⟩⟩)
      clear EN GO NO LA HM HP HE
      go_enter Tryz.func56, Tryz.ntmps56
      go_upto_region 1 with fail
      rw [← hW0, ← HB0.out]
      clear hW0
      go_wp2_with fail
      refine Calls.mono EN'.out ?_
      rintro e W1 ⟨rfl, q⟩
      go_wp2_with fail
      refine bodyPost_end (results_none rfl _ _ _) rfl ?_
      exact ⟨rfl, q⟩
    · have q2 : (cd == 144) = false := by simp [hc1]
      have hno : ¬ (cd = 0 ∨ cd = 144) := by omega
      rw [HM.out, HP.out, HE.out]
      simp only [if_neg hno, if_neg hc0, if_neg hc1]
      by_cases hla : fr = la
      · subst hla
        simp only [↓reduceIte]
        clear EN NO HM HP HE
        go_enter Tryz.func56, Tryz.ntmps56
        go_upto_region 1 with fail
        rw [← hW0, ← HB0.out]
        clear hW0
        go_upto_region 5 with fail
        go_quiet (first | (go_at_call 52; refine Calls.quiet_of (LA.out _)))
        go_wp2_with fail
        refine Calls.mono (GO.out _) ?_
        rintro e W1 ⟨rfl, q⟩
        go_wp2_with fail
        refine bodyPost_end (results_none rfl _ _ _) rfl ?_
        exact ⟨rfl, q⟩
      · have q3 : (fr == la) = false := by simp [hla]
        simp only [if_neg hla, List.append_nil]
        clear EN GO HM HP HE
        go_enter Tryz.func56, Tryz.ntmps56
        go_upto_region 1 with fail
        rw [← hW0, ← HB0.out]
        clear hW0
        go_upto_region 5 with fail
        go_quiet (first | (go_at_call 52; refine Calls.quiet_of (LA.out _)))
        go_wp2_with fail
        refine bodyPost_end (results_none rfl _ _ _) rfl ?_
        exact ⟨rfl, NO.out _⟩
end Go.Proofs.YtcmffbhfdlenkaaGreatDoor.Cn
namespace Go.Proofs.YtcmffbhfdlenkaaGreatDoor.Cn
open Go.RowKit
theorem errP_dlt {st : ByteArray} {x : Nat → Int} {ns : List ND} (h : errP st x ns = 0) : Dealt ns := by
  apply Classical.byContradiction
  intro hn
  unfold errP at h
  rw [dlB_false hn] at h
  split at h <;> (try split at h) <;> (try split at h) <;> simp at h
theorem errP_all {st : ByteArray} {x : Nat → Int} {ns : List ND} (h : errP st x ns = 0) : nmP st = true ∧ sfP x = true ∧ nfP ns = true ∧ Dealt ns ∧ x 0 ≤ (kpN ns : Int) ∧ (ptN ns : Int) * x 0 * x 2 ≤ 512 := by
  have h1 := errP_ok h
  have h2 := errP_dlt h
  unfold errP at h
  cases e : nmP st with
  | false => rw [e] at h; simp at h
  | true =>
    rw [e, h1.1, h1.2, dlB_true h2, if_neg (by simp), if_neg (by simp), if_neg (by simp), if_neg (by simp)] at h
    by_cases h3 : (kpN ns : Int) < x 0
    · rw [if_pos h3] at h
      omega
    · rw [if_neg h3] at h
      by_cases h4 : 512 < (ptN ns : Int) * x 0 * x 2
      · rw [if_pos h4] at h
        omega
      · exact ⟨rfl, h1.1, h1.2, h2, by omega, by omega⟩
theorem hm_in {ns : List ND} (hd : Dealt ns) {k : Nat} (hk : k < ptN ns) : ∃ i, ∃ h : i < ns.length, hm ns k = (i : Int) ∧ (k : Int) ∈ ns[i].ps := by
  have h1 := hd.once k hk
  have h2 : (k : Int) ∈ flat ns := cntI_mem.1 (by omega)
  unfold flat at h2
  obtain ⟨n, hn, hkn⟩ := List.mem_flatMap.1 h2
  obtain ⟨i, hi, rfl⟩ := List.getElem_of_mem hn
  exact ⟨i, hi, ownF_mem hd hi hkn, hkn⟩

theorem wkL_nd (ns : List ND) (P f : Nat) (i : Nat) : ((wkL ns P f i).map (hm ns)).Nodup := by
  induction i with
  | zero => simp [wkL]
  | succ i ih =>
    cases h : frsh ns P f i with
    | true =>
      rw [wkL_yes h, List.map_append, List.map_cons, List.map_nil]
      refine List.nodup_append.2 ⟨ih, by simp, fun a ha b hb => ?_⟩
      obtain ⟨p, hp, rfl⟩ := List.mem_map.1 ha
      rw [List.mem_singleton.1 hb]
      exact frsh_taken.1 h p hp
    | false =>
      rw [wkL_no h]
      exact ih
/-- a key's owners -/
noncomputable def ownsOf (c : Cl) (key : ByteArray) : List Int := owL c.ns (wkE c.st c.x c.ns (lcP c.ns key))
def znF (ns : List ND) (k : Int) : Int := (ns[k.toNat]?.map (·.z)).getD 0
def homeF (c : Cl) (k : Int) : Bool := decide (znF c.ns k = c.x 20)
def rowOf (c : Cl) (os : List Int) : List Int := os.filter (homeF c) ++ os.filter (fun k => !homeF c k)
noncomputable def baseOf (c : Cl) (key : ByteArray) : List Int := rowOf c (ownsOf c key)
theorem rowOf_perm (c : Cl) (os : List Int) : (rowOf c os).Perm os := List.filter_append_perm (homeF c) os
theorem lcP_lt {ns : List ND} (h : 1 ≤ ptN ns) (key : ByteArray) : 0 ≤ lcP ns key ∧ lcP ns key < (ptN ns : Int) := by
  unfold lcP
  have := Nat.mod_lt (hiF ((md5L key.data.toList).take 4)) (show ptN ns > 0 by omega)
  omega
theorem owns_ok {c : Cl} (he : errP c.st c.x c.ns = 0) (key : ByteArray) : ((ownsOf c key).length : Int) = c.x 0 ∧ (∀ k ∈ ownsOf c key, 0 ≤ k ∧ k < (c.ns.length : Int)) ∧ (ownsOf c key).Nodup ∧ 1 ≤ c.x 0 ∧ c.x 0 ≤ 16 ∧ rdE c.st c.x c.ns (lcP c.ns key) = 0 := by
  obtain ⟨a1, a2, a3, a4, a5, a6⟩ := errP_all he
  have l0 : 1 ≤ c.x 0 ∧ c.x 0 ≤ 16 := sfP_lim a2 0 (by omega)
  have p1 := a4.p1
  have hp : (flat c.ns).length = ptN c.ns := rfl
  rw [hp] at p1
  obtain ⟨q0, q1⟩ := lcP_lt p1 key
  have hr : rdE c.st c.x c.ns (lcP c.ns key) = 0 := by
    unfold rdE
    rw [if_pos he, if_neg (by omega)]
  have hw := wkE_ok hr
  unfold ownsOf
  rw [hw]
  refine ⟨?_, ?_, ?_, l0.1, l0.2, hr⟩
  · rw [owL_len]
    exact wk_full a4 q0 q1 (by omega) a5
  · intro k hk
    unfold owL at hk
    obtain ⟨p, hp', rfl⟩ := List.mem_map.1 hk
    obtain ⟨i, hi, e, _⟩ := hm_in a4 (wk_lt (by omega) p hp')
    show 0 ≤ hm c.ns p ∧ hm c.ns p < _
    rw [e]
    omega
  · unfold owL wk wkR
    have := wkL_nd c.ns (ptN c.ns) (lcP c.ns key).toNat (ptN c.ns)
    rw [List.map_take]
    exact this.sublist (List.take_sublist _ _)
theorem base_ok {c : Cl} (he : errP c.st c.x c.ns = 0) (key : ByteArray) : ((baseOf c key).length : Int) = c.x 0 ∧ (∀ k ∈ baseOf c key, 0 ≤ k ∧ k < (c.ns.length : Int)) ∧ (baseOf c key).Nodup := by
  obtain ⟨a1, a2, a3, _⟩ := owns_ok he key
  have hp := rowOf_perm c (ownsOf c key)
  exact ⟨by rw [← a1]; exact congrArg _ hp.length_eq, fun k hk => a2 k (hp.mem_iff.1 hk), hp.nodup_iff.2 a3⟩
end Go.Proofs.YtcmffbhfdlenkaaGreatDoor.Cn
namespace Go.Proofs.YtcmffbhfdlenkaaGreatDoor.Cn
open Go.RowKit
theorem wp_apLL {w : World} {o : Oper} {a : Act} {K : Act → World → Prop} {Q : Exit → Act → World → Prop} (x y : Operand) (ho : o.op = .call { callee := .builtin .append, args := #[x, y], argTypes := #[25, 25] }) (base : Nat) (va : Value) (na : Nat) (La : List Int) (hx : a.eval x = va) (hva : w.ownsRow base 3 1 va na (ints La)) (base2 : Nat) (vb : Value) (nb : Nat) (Lb : List Int) (hy : a.eval y = vb) (hvb : w.ownsRow base2 3 1 vb nb (ints Lb)) (hl : na + nb ≤ 1000000) (hb : base ≤ w.heap.size)
    (h : ∀ v' w', w'.ownsRow base 3 1 v' (na + nb) (ints (La ++ Lb)) → w.grownBy w' va.ownBlock → K (a.put o.dst v') w') : o.wp Tryz.prog a w K Q := by
  obtain ⟨i0, hi, hz0, hz1, hz2⟩ := info_parts int_infos
  rcases hvb.2 with ⟨hv, hz⟩ | ⟨g, cap, cur, hv, h1, h2, h3⟩
  · have hrun := run_append_owned_none (P := Tryz.prog) (w := w) base 25 o.type 3 i0 1 Tryz.underlying25 hi va na (ints La) hva
    have hLb : Lb = [] := by
      have := hvb.1
      rw [ints_len, hz, Nat.zero_mul] at this
      exact List.length_eq_zero_iff.1 this
    unfold Oper.wp execOp
    simp only [ho, resolve, invoke, builtin, Sem.run_bind, Sem.run_pure, Result.andThen_ok, List.map_toArray, List.map_cons, List.map_nil, hx, hy, hv, hrun]
    refine h va w ?_ (World.grownBy.refl w _)
    rw [hLb, hz, List.append_nil, Nat.add_zero]
    exact hva
  · have hlb : Lb.length = nb := by
      have := hvb.1
      rw [ints_len, Nat.mul_one] at this
      exact this
    have hvb' : w.ownsRow base2 3 1 (.slice (some ⟨g, 0, none⟩) nb cap) nb (ints Lb) := hv ▸ hvb
    obtain ⟨v', w', hr, h2', h3', _, h5⟩ := run_append_own_at (P := Tryz.prog) w base 25 o.type 3 i0 _ 1 8 Tryz.underlying25 hi hz0 hz1 hz2 rfl (by decide) va na (ints La) hva ⟨g, 0, none⟩ nb cap (ints Lb) (by rw [ints_len, hlb, Nat.mul_one]) (by
      intro j u hj
      rw [Addr.add_mid, Nat.zero_add]
      have hj' := (List.getElem?_eq_some_iff.1 hj).1
      rw [ints_len] at hj'
      have hc := hvb'.cellAt j (by omega)
      rw [hc]
      exact hj) (ints_one _) (by unfold maxLen; omega) (by omega) hb
    rw [← ints_append] at h2'
    unfold Oper.wp execOp
    simp only [ho, resolve, invoke, builtin, Sem.run_bind, Sem.run_pure, Result.andThen_ok, List.map_toArray, List.map_cons, List.map_nil, hx, hy, hv, hr]
    exact h v' w' h2' h3'
theorem rt_range {X : World} {R D M : Nat} {c : Cl} {nv : Value} {v : Rv} (h : X.heap[R]? = some (.cells (rtA c nv D M v) 85)) : X.rangeAt R 0 (clA c.st c.x nv).toList := fun j u hj => by
  have e : rtA c nv D M v = clA c.st c.x nv ++ #[.pointer (some ⟨D, 0, none⟩), .int .i64 v.now, .int .i64 v.last, .map (some M)] := rfl
  have hj' := (List.getElem?_eq_some_iff.1 hj).1
  rw [Nat.zero_add, cell_row h, e, Array.getElem?_append_left (by simpa using hj')]
  simpa using hj
theorem run_ldCl2 {X : World} {R D M : Nat} {c : Cl} {nv : Value} {v : Rv} (h : X.heap[R]? = some (.cells (rtA c nv D M v) 85)) : (Instr.loadAt 24 (.pointer (some ⟨R, 0, none⟩))).run Tryz.prog X = .ok (.agg (clA c.st c.x nv)) X :=
  run_loadAt_mid X R 0 24 (clA c.st c.x nv).toList _ (rt_range h) Tryz.underlying24 rfl infoCl
theorem exec_ldCl {X : World} {op : Oper} {ρ : Operand → Value} {R D M : Nat} {c : Cl} {nv : Value} {v : Rv} (x : Operand) (ho : op.op = .load 24 x) (hx : ρ x = .pointer (some ⟨R, 0, none⟩)) (h : X.heap[R]? = some (.cells (rtA c nv D M v) 85)) : (execOp ρ op).run Tryz.prog X = .ok (.value (.agg (clA c.st c.x nv))) X := by
  unfold execOp
  simp only [ho, Sem.run_bind, Sem.run_pure, Result.andThen_ok, hx, run_ldCl2 h]
theorem wpList_ldCl {w : World} {ops : Array Oper} {rest : List Oper} {o : Oper} {a : Act} {Q : Exit → Act → World → Prop} {R D M : Nat} {c : Cl} {nv : Value} {v : Rv} (hgd : o.guard = none) (p : Operand) (ho : o.op = .load 24 p) (hx : a.eval p = .pointer (some ⟨R, 0, none⟩)) (hO : w.heap[R]? = some (.cells (rtA c nv D M v) 85))
    (h : wpList Tryz.prog ops Q rest (a.put o.dst (.agg (clA c.st c.x nv))) w) : wpList Tryz.prog ops Q (o :: rest) a w := by
  refine wpList_plain hgd fun K hK => ?_
  unfold Oper.wp execOp
  simp only [ho, Sem.run_bind, Sem.run_pure, Result.andThen_ok, hx, run_ldCl2 hO]
  exact hK _ _ h
end Go.Proofs.YtcmffbhfdlenkaaGreatDoor.Cn
