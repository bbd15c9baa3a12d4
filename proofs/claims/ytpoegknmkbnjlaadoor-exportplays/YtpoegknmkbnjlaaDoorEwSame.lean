import Derived.Test.YtpoegknmkbnjlaaDoorGEpAsk
namespace Go.Proofs.YtpoegknmkbnjlaaDoor.Cn
open Go.RowKit
theorem pr_info : (Tryd.prog.info? 89).map (·.size) = some 2 := by kernel_rfl
theorem exec_pr {ρ : Operand → Value} {o : Oper} {w : World} {g k : Nat} {z : Pr} (x : Operand) (ho : o.op = .load 89 x) (hx : ρ x = .pointer (some ⟨g, k, none⟩)) (h : w.rangeAt g k (prV z).toList) : (execOp ρ o).run Tryd.prog w = .ok (.value (.agg (prV z))) w := by
  have hl := run_loadAt_mid (P := Tryd.prog) w g k 89 _ _ h Tryd.underlying89 rfl pr_info
  unfold execOp
  simp only [ho, hx, Sem.run_bind, Sem.run_pure, Result.andThen_ok, hl]
set_option maxHeartbeats 16000000 in
set_option maxRecDepth 100000 in
set_option linter.unusedSimpArgs false in
set_option linter.unusedVariables false in
theorem sameI_x {w : World} {b1 b2 n : Nat} {u1 u2 : Value} {L : List Int} (hl : L.length = n) (o1 : w.ownsRow b1 3 1 u1 n (ints L)) (o2 : w.ownsRow b2 3 1 u2 n (ints L)) (hn : n ≤ 1000000) :
    Calls Tryd.prog 39 #[u1, u2] w fun e w' => e = .returned (.bool true) ∧ Kp w w' non := by
  obtain ⟨p1, c1, rfl⟩ := own_sl o1
  obtain ⟨p2, c2, rfl⟩ := own_sl o2
  have O1 := hide o1
  have O2 := hide o2
  have HL := hide hl
  clear o1 o2 hl
  go_enter Tryd.func39, Tryd.ntmps39
  go_wp2_with fail
  go_loopw [5] (fun vi wr => ∃ i : Nat, i ≤ n ∧ vi = .int .i64 (i : Int) ∧ Hid (Kp w wr non)) (fun vi _ => n - (intOf vi).toNat)
  case atStart => exact ⟨0, Nat.zero_le _, rfl, Kp.refl _ _⟩
  case round =>
    obtain ⟨i, hi, rfl, KI⟩ := hrel
    by_cases hin : i < n
    case pos =>
      have hii : (i : Int) < (n : Int) := by omega
      have hiL : i < L.length := by rw [HL.out]; exact hin
      obtain ⟨g1, d1, h1⟩ := own_g O1.out (by omega)
      obtain ⟨g2, d2, h2⟩ := own_g O2.out (by omega)
      injection h1 with h1 _ h1c
      injection h2 with h2 _ h2c
      subst h1 h1c h2 h2c
      have r1 := own_kp O1.out KI.out (fun _ _ f => f)
      have r2 := own_kp O2.out KI.out (fun _ _ f => f)
      have cellat : ∀ {b : Nat} {g d : Nat}, wr.ownsRow b 3 1 (.slice (some ⟨g, 0, none⟩) n d) n (ints L) → wr.cell? ⟨g, i, none⟩ = some (.int .i64 L[i]) := fun {b g d} r => by
        obtain ⟨g', c', e1, hc, _⟩ := own_at r (j := i) (u := .int .i64 L[i]) (by rw [ints_at, List.getElem?_eq_getElem hiL]; rfl)
        injection e1 with e1
        injection e1 with e1
        injection e1 with e1
        rw [e1]
        exact hc
      have x1 := cellat r1
      have x2 := cellat r2
      generalize L[i] = z at x1 x2
      clear r1 r2 cellat
      go_wp2_with fail
      go_quiet (fail)
      have KQ : Hid (Kp w (wr.drewN nq) non) := KI.out.trans ((Kp.refl wr non).drewN nq) (fun _ f => f.elim)
      go_wp2_with fail
      go_roundw
      case rel => exact ⟨i + 1, by omega, by go_num, KQ.out⟩
      case measure => simp [intOf]; omega
    case neg =>
      obtain rfl : i = n := by omega
      go_wp2_with fail
      go_ret
      exact ⟨rfl, KI.out⟩
set_option maxHeartbeats 16000000 in
set_option maxRecDepth 100000 in
set_option linter.unusedSimpArgs false in
set_option linter.unusedVariables false in
theorem sameP_x {w : World} {b1 b2 n : Nat} {u1 u2 : Value} {L : List Pr} (hl : L.length = n) (o1 : w.ownsRow b1 89 2 u1 n (prs L)) (o2 : w.ownsRow b2 89 2 u2 n (prs L)) (hn : n ≤ 1000000) :
    Calls Tryd.prog 38 #[u1, u2] w fun e w' => e = .returned (.bool true) ∧ Kp w w' non := by
  obtain ⟨p1, c1, rfl⟩ := own_sl o1
  obtain ⟨p2, c2, rfl⟩ := own_sl o2
  have O1 := hide o1
  have O2 := hide o2
  have HL := hide hl
  clear o1 o2 hl
  go_enter Tryd.func38, Tryd.ntmps38
  go_wp2_with fail
  go_loopw [5] (fun vi wr => ∃ i : Nat, i ≤ n ∧ vi = .int .i64 (i : Int) ∧ Hid (Kp w wr non)) (fun vi _ => n - (intOf vi).toNat)
  case atStart => exact ⟨0, Nat.zero_le _, rfl, Kp.refl _ _⟩
  case round =>
    obtain ⟨i, hi, rfl, KI⟩ := hrel
    by_cases hin : i < n
    case pos =>
      have hii : (i : Int) < (n : Int) := by omega
      have hiL : i < L.length := by rw [HL.out]; exact hin
      obtain ⟨g1, d1, h1⟩ := own_g O1.out (by omega)
      obtain ⟨g2, d2, h2⟩ := own_g O2.out (by omega)
      injection h1 with h1 _ h1c
      injection h2 with h2 _ h2c
      subst h1 h1c h2 h2c
      have r1 := own_kp O1.out KI.out (fun _ _ f => f)
      have r2 := own_kp O2.out KI.out (fun _ _ f => f)
      have rg : ∀ {b : Nat} {g d : Nat}, wr.ownsRow b 89 2 (.slice (some ⟨g, 0, none⟩) n d) n (prs L) → wr.rangeAt g (i * 2) (prV L[i]).toList := fun {b g d} r j u hj => by
        have hl : j < 2 := by
          have := (List.getElem?_eq_some_iff.1 hj).1
          simpa [prV] using this
        have e := prs_at L i hiL j hl
        have hj' : (prV L[i])[j]? = some u := by simpa using hj
        obtain ⟨g', c', e1, hc, _⟩ := own_at r (j := i * 2 + j) (u := u) (by rw [e]; exact hj')
        injection e1 with e1
        injection e1 with e1
        injection e1 with e1
        rw [e1]
        exact hc
      have S0 : Hid (wr.rangeAt g1 (i * 2) (prV L[i]).toList ∧ wr.rangeAt g2 (i * 2) (prV L[i]).toList) := ⟨rg r1, rg r2⟩
      clear r1 r2 rg
      generalize L[i] = z at S0
      go_upto_region 6 with fail
      refine wp_region_held_drew (S := fun Y => Y.rangeAt g1 (i * 2) (prV z).toList ∧ Y.rangeAt g2 (i * 2) (prV z).toList) (by kernel_rfl) S0.out (fun hHeld => ?_)
      refine wTk (i := 0) (v := (.slice (some ⟨g1, 0, none⟩) n c1)) rfl ?_ ?_
      · intro w' hSw
        (try dsimp only at hSw)
        go_simp
      (try simp only [Act.put, List.getElem_toArray, List.getElem_cons_zero, List.getElem_cons_succ, List.setIfInBounds_toArray, List.set_cons_zero, List.set_cons_succ])
      refine wTk (i := 1) (v := (.int .i64 (i : Int))) rfl ?_ ?_
      · intro w' hSw
        (try dsimp only at hSw)
        go_simp
      (try simp only [Act.put, List.getElem_toArray, List.getElem_cons_zero, List.getElem_cons_succ, List.setIfInBounds_toArray, List.set_cons_zero, List.set_cons_succ])
      refine wTk (i := 2) (v := (.pointer (some ⟨g1, i * 2, none⟩))) rfl ?_ ?_
      · intro w' hSw
        (try dsimp only at hSw)
        go_simp
      (try simp only [Act.put, List.getElem_toArray, List.getElem_cons_zero, List.getElem_cons_succ, List.setIfInBounds_toArray, List.set_cons_zero, List.set_cons_succ])
      refine wTk (i := 3) (v := (.agg (prV z))) rfl ?_ ?_
      · intro w' hSw
        (try dsimp only at hSw)
        (exact exec_pr (.tmp 19) rfl rfl hSw.1)
      (try simp only [Act.put, List.getElem_toArray, List.getElem_cons_zero, List.getElem_cons_succ, List.setIfInBounds_toArray, List.set_cons_zero, List.set_cons_succ])
      refine wTk (i := 4) (v := (.slice (some ⟨g2, 0, none⟩) n c2)) rfl ?_ ?_
      · intro w' hSw
        (try dsimp only at hSw)
        go_simp
      (try simp only [Act.put, List.getElem_toArray, List.getElem_cons_zero, List.getElem_cons_succ, List.setIfInBounds_toArray, List.set_cons_zero, List.set_cons_succ])
      refine wTk (i := 5) (v := (.int .i64 (i : Int))) rfl ?_ ?_
      · intro w' hSw
        (try dsimp only at hSw)
        go_simp
      (try simp only [Act.put, List.getElem_toArray, List.getElem_cons_zero, List.getElem_cons_succ, List.setIfInBounds_toArray, List.set_cons_zero, List.set_cons_succ])
      refine wTk (i := 6) (v := (.pointer (some ⟨g2, i * 2, none⟩))) rfl ?_ ?_
      · intro w' hSw
        (try dsimp only at hSw)
        go_simp
      (try simp only [Act.put, List.getElem_toArray, List.getElem_cons_zero, List.getElem_cons_succ, List.setIfInBounds_toArray, List.set_cons_zero, List.set_cons_succ])
      refine wTk (i := 7) (v := (.agg (prV z))) rfl ?_ ?_
      · intro w' hSw
        (try dsimp only at hSw)
        (exact exec_pr (.tmp 23) rfl rfl hSw.2)
      (try simp only [Act.put, List.getElem_toArray, List.getElem_cons_zero, List.getElem_cons_succ, List.setIfInBounds_toArray, List.set_cons_zero, List.set_cons_succ])
      refine wpAnyH_ready (rs := [8]) (by kernel_rfl) (by simp) ?_
      refine AllReadyH.cons rfl (fun K hK => ?_) AllReadyH.nil
      unfold prV
      go_simp
      refine hK.out _ _ (S0.out) (fun hHeld => ?_)
      clear hK
      (try simp only [Act.put, List.setIfInBounds_toArray, List.set_cons_zero, List.set_cons_succ])
      refine wpAnyH_done (by kernel_rfl) ?_ _
      clear hHeld
      have KQ : Hid (Kp w wr.drew non) := KI.out.trans ((Kp.refl wr non).drew) (fun _ f => f.elim)
      clear S0
      go_wp2_with fail
      go_roundw
      case rel => exact ⟨i + 1, by omega, by go_num, KQ.out⟩
      case measure => simp [intOf]; omega
    case neg =>
      obtain rfl : i = n := by omega
      go_wp2_with fail
      go_ret
      exact ⟨rfl, KI.out⟩
end Go.Proofs.YtpoegknmkbnjlaaDoor.Cn
