import Derived.Test.YtndfhpfhgdamgaaGreatDoorGRuCopyOf
import Derived.Laws.StructEq
import Derived.OrdersHeld
import Derived.Test.YtndfhpfhgdamgaaGreatDoorGRbGet
namespace Go.Proofs.YtndfhpfhgdamgaaGreatDoor.Cn
open Go.RowKit
theorem eqf_int {P : Program} {d : Nat} {xs ys : Array Value} {f : Field} {fs : List Field} {k : IntKind} {x y : Int} {w : World} (hn : f.name ≠ "_") (hx : (part f.type xs f.offset).run P w = .ok (.int .i64 x) w) (hy : (part f.type ys f.offset).run P w = .ok (.int .i64 y) w) (hu : P.underlying f.type = some (.int k)) :
    (Op.eqFields (d + 1) xs ys (f :: fs)).run P w = if x = y then (Op.eqFields (d + 1) xs ys fs).run P w else .ok false w := by
  simp only [Op.eqFields, if_pos hn, Sem.run_bind, hx, hy, Result.andThen_ok, run_equalIn_int w d f.type .i64 k x y hu]
  by_cases h : x = y
  · rw [if_pos h, if_neg (by simp [h])]
  · rw [if_neg h, if_pos (by simp [h])]; rfl
theorem eqf_str {P : Program} {d : Nat} {xs ys : Array Value} {f : Field} {fs : List Field} {x y : ByteArray} {w : World} (hn : f.name ≠ "_") (hx : (part f.type xs f.offset).run P w = .ok (.string x) w) (hy : (part f.type ys f.offset).run P w = .ok (.string y) w) (hu : P.underlying f.type = some .string) :
    (Op.eqFields (d + 1) xs ys (f :: fs)).run P w = if x = y then (Op.eqFields (d + 1) xs ys fs).run P w else .ok false w := by
  simp only [Op.eqFields, if_pos hn, Sem.run_bind, hx, hy, Result.andThen_ok, run_equalIn_string w d f.type x y hu, eq_beq]
  by_cases h : x = y
  · rw [if_pos h, if_neg (by simp [h])]
  · rw [if_neg h, if_pos (by simp [h])]; rfl
set_option maxHeartbeats 16000000 in
set_option maxRecDepth 100000 in
set_option linter.unusedSimpArgs false in
set_option linter.unusedVariables false in
theorem neqMg (a : Mg) (w : World) : (binOp .neq 58 (.agg (mgV a)) (.agg (mgV a))).run Tryz.prog w = .ok (.bool false) w := by
  have hS : Tryz.prog.underlying 58 = some (.struct (Tryz.prog.fieldsOf 58)) := by kernel_rfl
  have hp : Tryz.prog.stoodInHeld 58 = false := by kernel_rfl
  have e : (Op.equalIn 10000 58 (.agg (mgV a)) (.agg (mgV a))).run Tryz.prog w = .ok true w := by
    rw [show (10000 : Nat) = 9999 + 1 from rfl, run_equalIn_agg w 9999 58 _ _ hS hp]
    simp only [Program.fieldsOf, Tryz.underlying58]
    rw [show (9999 : Nat) = 9998 + 1 from rfl]
    rw [eqf_int (k := .i64) (x := a.kind) (y := a.kind) (by decide) (by kernel_rfl) (by kernel_rfl) (by kernel_rfl), if_pos rfl]
    rw [eqf_int (k := .i64) (x := a.fr) (y := a.fr) (by decide) (by kernel_rfl) (by kernel_rfl) (by kernel_rfl), if_pos rfl]
    rw [eqf_int (k := .i64) (x := a.td) (y := a.td) (by decide) (by kernel_rfl) (by kernel_rfl) (by kernel_rfl), if_pos rfl]
    rw [eqf_int (k := .i64) (x := a.id) (y := a.id) (by decide) (by kernel_rfl) (by kernel_rfl) (by kernel_rfl), if_pos rfl]
    rw [eqf_int (k := .i64) (x := a.ep) (y := a.ep) (by decide) (by kernel_rfl) (by kernel_rfl) (by kernel_rfl), if_pos rfl]
    rw [eqf_int (k := .i64) (x := a.sq) (y := a.sq) (by decide) (by kernel_rfl) (by kernel_rfl) (by kernel_rfl), if_pos rfl]
    rw [eqf_int (k := .i64) (x := a.ver) (y := a.ver) (by decide) (by kernel_rfl) (by kernel_rfl) (by kernel_rfl), if_pos rfl]
    rw [eqf_int (k := .i64) (x := a.prev) (y := a.prev) (by decide) (by kernel_rfl) (by kernel_rfl) (by kernel_rfl), if_pos rfl]
    rw [eqf_int (k := .i64) (x := a.code) (y := a.code) (by decide) (by kernel_rfl) (by kernel_rfl) (by kernel_rfl), if_pos rfl]
    rw [eqf_str (x := a.key) (y := a.key) (by decide) (by kernel_rfl) (by kernel_rfl) (by kernel_rfl), if_pos rfl]
    rw [eqf_str (x := a.val) (y := a.val) (by decide) (by kernel_rfl) (by kernel_rfl) (by kernel_rfl), if_pos rfl]
    rfl
  rw [run_neq_struct, e]
  rfl
theorem wp_neqMg {o : Oper} {a : Act} {w : World} {K : Act → World → Prop} {Q : Exit → Act → World → Prop} (x y : Operand) (t2 : TypeId) (ho : o.op = .binOp .neq 58 x y t2) (m : Mg) (hx : a.eval x = .agg (mgV m)) (hy : a.eval y = .agg (mgV m)) (h : K (a.put o.dst (.bool false)) w) : o.wp Tryz.prog a w K Q := by
  have hg : Tryz.prog.eqGuardType Tryz.prog.depth 58 = false := by kernel_rfl
  unfold Oper.wp execOp
  simp only [ho, Sem.run_bind, Sem.run_pure, Result.andThen_ok, hx, hy, neqMg, run_eqGuard_agg w .neq 58 x y (mgV m) (mgV m) hg]
  exact h
set_option maxHeartbeats 16000000 in
set_option maxRecDepth 100000 in
set_option linter.unusedSimpArgs false in
set_option linter.unusedVariables false in
theorem neqOc (a : Oc) (w : World) : (binOp .neq 96 (.agg (ocV a)) (.agg (ocV a))).run Tryz.prog w = .ok (.bool false) w := by
  have hS : Tryz.prog.underlying 96 = some (.struct (Tryz.prog.fieldsOf 96)) := by kernel_rfl
  have hp : Tryz.prog.stoodInHeld 96 = false := by kernel_rfl
  have e : (Op.equalIn 10000 96 (.agg (ocV a)) (.agg (ocV a))).run Tryz.prog w = .ok true w := by
    rw [show (10000 : Nat) = 9999 + 1 from rfl, run_equalIn_agg w 9999 96 _ _ hS hp]
    simp only [Program.fieldsOf, Tryz.underlying96]
    rw [show (9999 : Nat) = 9998 + 1 from rfl]
    rw [eqf_int (k := .i64) (x := a.tk) (y := a.tk) (by decide) (by kernel_rfl) (by kernel_rfl) (by kernel_rfl), if_pos rfl]
    rw [eqf_str (x := a.key) (y := a.key) (by decide) (by kernel_rfl) (by kernel_rfl) (by kernel_rfl), if_pos rfl]
    rw [eqf_int (k := .i64) (x := a.code) (y := a.code) (by decide) (by kernel_rfl) (by kernel_rfl) (by kernel_rfl), if_pos rfl]
    rw [eqf_int (k := .i64) (x := a.node) (y := a.node) (by decide) (by kernel_rfl) (by kernel_rfl) (by kernel_rfl), if_pos rfl]
    rw [eqf_int (k := .i64) (x := a.ver) (y := a.ver) (by decide) (by kernel_rfl) (by kernel_rfl) (by kernel_rfl), if_pos rfl]
    rw [eqf_str (x := a.val) (y := a.val) (by decide) (by kernel_rfl) (by kernel_rfl) (by kernel_rfl), if_pos rfl]
    rfl
  rw [run_neq_struct, e]
  rfl
theorem wp_neqOc {o : Oper} {a : Act} {w : World} {K : Act → World → Prop} {Q : Exit → Act → World → Prop} (x y : Operand) (t2 : TypeId) (ho : o.op = .binOp .neq 96 x y t2) (m : Oc) (hx : a.eval x = .agg (ocV m)) (hy : a.eval y = .agg (ocV m)) (h : K (a.put o.dst (.bool false)) w) : o.wp Tryz.prog a w K Q := by
  have hg : Tryz.prog.eqGuardType Tryz.prog.depth 96 = false := by kernel_rfl
  unfold Oper.wp execOp
  simp only [ho, Sem.run_bind, Sem.run_pure, Result.andThen_ok, hx, hy, neqOc, run_eqGuard_agg w .neq 96 x y (ocV m) (ocV m) hg]
  exact h
theorem oc_range3 {w : World} {base g cap n : Nat} {L : List Oc} (h : w.ownsRow base 96 6 (.slice (some ⟨g, 0, none⟩) n cap) n (ocs L)) {i : Nat} (hi : i < L.length) (hn : n = L.length) : w.rangeAt g (i * 6) (ocV L[i]).toList := fun j u hj => by
  have hj' := (List.getElem?_eq_some_iff.1 hj).1
  have h11 : (ocV L[i]).toList.length = 6 := rfl
  rw [h11] at hj'
  rw [h.cellAt (i * 6 + j) (by omega), ocs_at L i hi j hj']
  simpa using hj
set_option maxHeartbeats 16000000 in
set_option maxRecDepth 100000 in
set_option linter.unusedSimpArgs false in
set_option linter.unusedVariables false in
theorem Mg_same {w : World} {v1 v2 : Value} {b1 b2 : Nat} {L : List Mg} (h1 : w.ownsRow b1 58 11 v1 L.length (mgs L)) (h2 : w.ownsRow b2 58 11 v2 L.length (mgs L)) (hl : L.length ≤ 1000000000000) :
    Calls Tryz.prog 26 #[v1, v2] w fun e w' => e = .returned (.bool true) ∧ Kp w w' non := by
  obtain ⟨a1, c1, e1⟩ := own_sl h1
  obtain ⟨a2, c2, e2⟩ := own_sl h2
  subst e1
  subst e2
  have H1 := hide h1
  have H2 := hide h2
  clear h1 h2
  go_enter Tryz.func26, Tryz.ntmps26
  go_wp2_with fail
  go_loopw [5] (fun vi wr => ∃ i : Nat, i ≤ L.length ∧ vi = .int .i64 (i : Int) ∧ Hid (Kp w wr non)) (fun vi _ => L.length - (intOf vi).toNat)
  case atStart => exact ⟨0, Nat.zero_le _, rfl, Kp.refl _ _⟩
  case round =>
    obtain ⟨i, hi, rfl, HK⟩ := hrel
    by_cases hin : i < L.length
    case neg =>
      have hii : ¬ (i : Int) < (L.length : Int) := by omega
      go_wp2_with fail
      go_ret
      exact ⟨rfl, HK.out⟩
    case pos =>
      have hii : (i : Int) < (L.length : Int) := by omega
      have O1 := own_kp H1.out HK.out (fun _ _ f => f)
      have O2 := own_kp H2.out HK.out (fun _ _ f => f)
      obtain ⟨g1, _, z1⟩ := own_g O1 (by omega)
      obtain ⟨g2, _, z2⟩ := own_g O2 (by omega)
      injection z1 with z1 _ z1c
      injection z2 with z2 _ z2c
      subst z1
      subst z2
      subst z1c
      subst z2c
      have R0 : Hid (wr.rangeAt g1 (i * 11) (mgV L[i]).toList ∧ wr.rangeAt g2 (i * 11) (mgV L[i]).toList) := ⟨mg_range O1 hin rfl, mg_range O2 hin rfl⟩
      have KD : Hid (Kp w wr.drew non) := HK.out.drew
      have RD : Hid (wr.drew.rangeAt g1 (i * 11) (mgV L[i]).toList ∧ wr.drew.rangeAt g2 (i * 11) (mgV L[i]).toList) := R0.out
      clear O1 O2
      generalize L[i] = m at *
      go_upto_region 6 with fail
      refine wp_region_held_drew (S := fun X => X.rangeAt g1 (i * 11) (mgV m).toList ∧ X.rangeAt g2 (i * 11) (mgV m).toList) (by kernel_rfl) RD.out (fun hHeld => ?_)
      refine wpAnyH_take (i := 0) (v := (.slice (some ⟨g1, 0, none⟩) L.length c1)) rfl (by kernel_rfl) (by kernel_rfl) (by kernel_rfl) (fun _ _ _ h => h) (Or.inl ⟨by rfl, ?_⟩) (by assumption) ?_
      · intro w' hSw
        (try dsimp only at hSw)
        go_simp <;> first | exact i64_in (by omega) (by omega) | exact u32_in (by omega) (by omega) | exact u32_add _ _ | (rw [Int.tmod_eq_emod_of_nonneg (by omega)]; omega) | (rw [Int.tdiv_eq_ediv_of_nonneg (by omega)]; omega) | omega
      (try simp only [Act.put, List.setIfInBounds_toArray, List.set_cons_zero, List.set_cons_succ])
      refine wpAnyH_take (i := 1) (v := (.int .i64 (i : Int))) rfl (by kernel_rfl) (by kernel_rfl) (by kernel_rfl) (fun _ _ _ h => h) (Or.inl ⟨by rfl, ?_⟩) (by assumption) ?_
      · intro w' hSw
        (try dsimp only at hSw)
        go_simp <;> first | exact i64_in (by omega) (by omega) | exact u32_in (by omega) (by omega) | exact u32_add _ _ | (rw [Int.tmod_eq_emod_of_nonneg (by omega)]; omega) | (rw [Int.tdiv_eq_ediv_of_nonneg (by omega)]; omega) | omega
      (try simp only [Act.put, List.setIfInBounds_toArray, List.set_cons_zero, List.set_cons_succ])
      refine wpAnyH_take (i := 2) (v := (.pointer (some ⟨g1, i * 11, none⟩))) rfl (by kernel_rfl) (by kernel_rfl) (by kernel_rfl) (fun _ _ _ h => h) (Or.inl ⟨by rfl, ?_⟩) (by assumption) ?_
      · intro w' hSw
        (try dsimp only at hSw)
        go_simp <;> first | exact i64_in (by omega) (by omega) | exact u32_in (by omega) (by omega) | exact u32_add _ _ | (rw [Int.tmod_eq_emod_of_nonneg (by omega)]; omega) | (rw [Int.tdiv_eq_ediv_of_nonneg (by omega)]; omega) | omega
      (try simp only [Act.put, List.setIfInBounds_toArray, List.set_cons_zero, List.set_cons_succ])
      refine wpAnyH_take (i := 3) (v := .agg (mgV m)) rfl (by kernel_rfl) (by kernel_rfl) (by kernel_rfl) (fun _ _ _ h => h) (yieldsIf_load_mid rfl 58 (.tmp 19) rfl g1 (i * 11) rfl (mgV m).toList _ (fun w' h => h.1) Tryz.underlying58 rfl mg_info) hHeld ?_
      (try simp only [Act.put, List.getElem_toArray, List.getElem_cons_zero, List.getElem_cons_succ, List.setIfInBounds_toArray, List.set_cons_zero, List.set_cons_succ])
      refine wpAnyH_take (i := 4) (v := (.slice (some ⟨g2, 0, none⟩) L.length c2)) rfl (by kernel_rfl) (by kernel_rfl) (by kernel_rfl) (fun _ _ _ h => h) (Or.inl ⟨by rfl, ?_⟩) (by assumption) ?_
      · intro w' hSw
        (try dsimp only at hSw)
        go_simp
      (try simp only [Act.put, List.getElem_toArray, List.getElem_cons_zero, List.getElem_cons_succ, List.setIfInBounds_toArray, List.set_cons_zero, List.set_cons_succ])
      refine wpAnyH_take (i := 5) (v := (.int .i64 (i : Int))) rfl (by kernel_rfl) (by kernel_rfl) (by kernel_rfl) (fun _ _ _ h => h) (Or.inl ⟨by rfl, ?_⟩) (by assumption) ?_
      · intro w' hSw
        (try dsimp only at hSw)
        go_simp
      (try simp only [Act.put, List.getElem_toArray, List.getElem_cons_zero, List.getElem_cons_succ, List.setIfInBounds_toArray, List.set_cons_zero, List.set_cons_succ])
      refine wpAnyH_take (i := 6) (v := (.pointer (some ⟨g2, i * 11, none⟩))) rfl (by kernel_rfl) (by kernel_rfl) (by kernel_rfl) (fun _ _ _ h => h) (Or.inl ⟨by rfl, ?_⟩) (by assumption) ?_
      · intro w' hSw
        (try dsimp only at hSw)
        go_simp
      (try simp only [Act.put, List.getElem_toArray, List.getElem_cons_zero, List.getElem_cons_succ, List.setIfInBounds_toArray, List.set_cons_zero, List.set_cons_succ])
      refine wpAnyH_take (i := 7) (v := .agg (mgV m)) rfl (by kernel_rfl) (by kernel_rfl) (by kernel_rfl) (fun _ _ _ h => h) (yieldsIf_load_mid rfl 58 (.tmp 23) rfl g2 (i * 11) rfl (mgV m).toList _ (fun w' h => h.2) Tryz.underlying58 rfl mg_info) hHeld ?_
      (try simp only [Act.put, List.getElem_toArray, List.getElem_cons_zero, List.getElem_cons_succ, List.setIfInBounds_toArray, List.set_cons_zero, List.set_cons_succ])
      refine wpAnyH_ready (rs := [8]) (by kernel_rfl) (by simp) ?_
      refine AllReadyH.cons rfl (fun K hK => ?_) AllReadyH.nil
      rw [if_pos (by kernel_rfl)]
      refine wp_neqMg (.tmp 20) (.tmp 24) _ rfl m rfl rfl ?_
      refine hK.out _ _ (RD.out) (fun hHeld => ?_)
      clear hK
      (try simp only [Act.put, List.setIfInBounds_toArray, List.set_cons_zero, List.set_cons_succ])
      refine wpAnyH_done (by kernel_rfl) ?_ _
      clear hHeld
      (try simp only [Act.put, List.getElem_toArray, List.getElem_cons_zero, List.getElem_cons_succ])
      go_wp2_with fail
      go_roundw
      case rel => exact ⟨i + 1, by omega, by go_num, KD.out⟩
      case measure => simp [intOf]; omega
set_option maxHeartbeats 16000000 in
set_option maxRecDepth 100000 in
set_option linter.unusedSimpArgs false in
set_option linter.unusedVariables false in
theorem Oc_same {w : World} {v1 v2 : Value} {b1 b2 : Nat} {L : List Oc} (h1 : w.ownsRow b1 96 6 v1 L.length (ocs L)) (h2 : w.ownsRow b2 96 6 v2 L.length (ocs L)) (hl : L.length ≤ 1000000000000) :
    Calls Tryz.prog 28 #[v1, v2] w fun e w' => e = .returned (.bool true) ∧ Kp w w' non := by
  obtain ⟨a1, c1, e1⟩ := own_sl h1
  obtain ⟨a2, c2, e2⟩ := own_sl h2
  subst e1
  subst e2
  have H1 := hide h1
  have H2 := hide h2
  clear h1 h2
  go_enter Tryz.func28, Tryz.ntmps28
  go_wp2_with fail
  go_loopw [5] (fun vi wr => ∃ i : Nat, i ≤ L.length ∧ vi = .int .i64 (i : Int) ∧ Hid (Kp w wr non)) (fun vi _ => L.length - (intOf vi).toNat)
  case atStart => exact ⟨0, Nat.zero_le _, rfl, Kp.refl _ _⟩
  case round =>
    obtain ⟨i, hi, rfl, HK⟩ := hrel
    by_cases hin : i < L.length
    case neg =>
      have hii : ¬ (i : Int) < (L.length : Int) := by omega
      go_wp2_with fail
      go_ret
      exact ⟨rfl, HK.out⟩
    case pos =>
      have hii : (i : Int) < (L.length : Int) := by omega
      have O1 := own_kp H1.out HK.out (fun _ _ f => f)
      have O2 := own_kp H2.out HK.out (fun _ _ f => f)
      obtain ⟨g1, _, z1⟩ := own_g O1 (by omega)
      obtain ⟨g2, _, z2⟩ := own_g O2 (by omega)
      injection z1 with z1 _ z1c
      injection z2 with z2 _ z2c
      subst z1
      subst z2
      subst z1c
      subst z2c
      have R0 : Hid (wr.rangeAt g1 (i * 6) (ocV L[i]).toList ∧ wr.rangeAt g2 (i * 6) (ocV L[i]).toList) := ⟨oc_range3 O1 hin rfl, oc_range3 O2 hin rfl⟩
      have KD : Hid (Kp w wr.drew non) := HK.out.drew
      have RD : Hid (wr.drew.rangeAt g1 (i * 6) (ocV L[i]).toList ∧ wr.drew.rangeAt g2 (i * 6) (ocV L[i]).toList) := R0.out
      clear O1 O2
      generalize L[i] = m at *
      go_upto_region 6 with fail
      refine wp_region_held_drew (S := fun X => X.rangeAt g1 (i * 6) (ocV m).toList ∧ X.rangeAt g2 (i * 6) (ocV m).toList) (by kernel_rfl) RD.out (fun hHeld => ?_)
      refine wpAnyH_take (i := 0) (v := (.slice (some ⟨g1, 0, none⟩) L.length c1)) rfl (by kernel_rfl) (by kernel_rfl) (by kernel_rfl) (fun _ _ _ h => h) (Or.inl ⟨by rfl, ?_⟩) (by assumption) ?_
      · intro w' hSw
        (try dsimp only at hSw)
        go_simp <;> first | exact i64_in (by omega) (by omega) | exact u32_in (by omega) (by omega) | exact u32_add _ _ | (rw [Int.tmod_eq_emod_of_nonneg (by omega)]; omega) | (rw [Int.tdiv_eq_ediv_of_nonneg (by omega)]; omega) | omega
      (try simp only [Act.put, List.setIfInBounds_toArray, List.set_cons_zero, List.set_cons_succ])
      refine wpAnyH_take (i := 1) (v := (.int .i64 (i : Int))) rfl (by kernel_rfl) (by kernel_rfl) (by kernel_rfl) (fun _ _ _ h => h) (Or.inl ⟨by rfl, ?_⟩) (by assumption) ?_
      · intro w' hSw
        (try dsimp only at hSw)
        go_simp <;> first | exact i64_in (by omega) (by omega) | exact u32_in (by omega) (by omega) | exact u32_add _ _ | (rw [Int.tmod_eq_emod_of_nonneg (by omega)]; omega) | (rw [Int.tdiv_eq_ediv_of_nonneg (by omega)]; omega) | omega
      (try simp only [Act.put, List.setIfInBounds_toArray, List.set_cons_zero, List.set_cons_succ])
      refine wpAnyH_take (i := 2) (v := (.pointer (some ⟨g1, i * 6, none⟩))) rfl (by kernel_rfl) (by kernel_rfl) (by kernel_rfl) (fun _ _ _ h => h) (Or.inl ⟨by rfl, ?_⟩) (by assumption) ?_
      · intro w' hSw
        (try dsimp only at hSw)
        go_simp <;> first | exact i64_in (by omega) (by omega) | exact u32_in (by omega) (by omega) | exact u32_add _ _ | (rw [Int.tmod_eq_emod_of_nonneg (by omega)]; omega) | (rw [Int.tdiv_eq_ediv_of_nonneg (by omega)]; omega) | omega
      (try simp only [Act.put, List.setIfInBounds_toArray, List.set_cons_zero, List.set_cons_succ])
      refine wpAnyH_take (i := 3) (v := .agg (ocV m)) rfl (by kernel_rfl) (by kernel_rfl) (by kernel_rfl) (fun _ _ _ h => h) (yieldsIf_load_mid rfl 96 (.tmp 19) rfl g1 (i * 6) rfl (ocV m).toList _ (fun w' h => h.1) Tryz.underlying96 rfl oc_info) hHeld ?_
      (try simp only [Act.put, List.getElem_toArray, List.getElem_cons_zero, List.getElem_cons_succ, List.setIfInBounds_toArray, List.set_cons_zero, List.set_cons_succ])
      refine wpAnyH_take (i := 4) (v := (.slice (some ⟨g2, 0, none⟩) L.length c2)) rfl (by kernel_rfl) (by kernel_rfl) (by kernel_rfl) (fun _ _ _ h => h) (Or.inl ⟨by rfl, ?_⟩) (by assumption) ?_
      · intro w' hSw
        (try dsimp only at hSw)
        go_simp
      (try simp only [Act.put, List.getElem_toArray, List.getElem_cons_zero, List.getElem_cons_succ, List.setIfInBounds_toArray, List.set_cons_zero, List.set_cons_succ])
      refine wpAnyH_take (i := 5) (v := (.int .i64 (i : Int))) rfl (by kernel_rfl) (by kernel_rfl) (by kernel_rfl) (fun _ _ _ h => h) (Or.inl ⟨by rfl, ?_⟩) (by assumption) ?_
      · intro w' hSw
        (try dsimp only at hSw)
        go_simp
      (try simp only [Act.put, List.getElem_toArray, List.getElem_cons_zero, List.getElem_cons_succ, List.setIfInBounds_toArray, List.set_cons_zero, List.set_cons_succ])
      refine wpAnyH_take (i := 6) (v := (.pointer (some ⟨g2, i * 6, none⟩))) rfl (by kernel_rfl) (by kernel_rfl) (by kernel_rfl) (fun _ _ _ h => h) (Or.inl ⟨by rfl, ?_⟩) (by assumption) ?_
      · intro w' hSw
        (try dsimp only at hSw)
        go_simp
      (try simp only [Act.put, List.getElem_toArray, List.getElem_cons_zero, List.getElem_cons_succ, List.setIfInBounds_toArray, List.set_cons_zero, List.set_cons_succ])
      refine wpAnyH_take (i := 7) (v := .agg (ocV m)) rfl (by kernel_rfl) (by kernel_rfl) (by kernel_rfl) (fun _ _ _ h => h) (yieldsIf_load_mid rfl 96 (.tmp 23) rfl g2 (i * 6) rfl (ocV m).toList _ (fun w' h => h.2) Tryz.underlying96 rfl oc_info) hHeld ?_
      (try simp only [Act.put, List.getElem_toArray, List.getElem_cons_zero, List.getElem_cons_succ, List.setIfInBounds_toArray, List.set_cons_zero, List.set_cons_succ])
      refine wpAnyH_ready (rs := [8]) (by kernel_rfl) (by simp) ?_
      refine AllReadyH.cons rfl (fun K hK => ?_) AllReadyH.nil
      rw [if_pos (by kernel_rfl)]
      refine wp_neqOc (.tmp 20) (.tmp 24) _ rfl m rfl rfl ?_
      refine hK.out _ _ (RD.out) (fun hHeld => ?_)
      clear hK
      (try simp only [Act.put, List.setIfInBounds_toArray, List.set_cons_zero, List.set_cons_succ])
      refine wpAnyH_done (by kernel_rfl) ?_ _
      clear hHeld
      (try simp only [Act.put, List.getElem_toArray, List.getElem_cons_zero, List.getElem_cons_succ])
      go_wp2_with fail
      go_roundw
      case rel => exact ⟨i + 1, by omega, by go_num, KD.out⟩
      case measure => simp [intOf]; omega
end Go.Proofs.YtndfhpfhgdamgaaGreatDoor.Cn
namespace Go.Proofs.YtndfhpfhgdamgaaGreatDoor.Cn
open Go.RowKit
theorem ansG_mem {gs : List Gt} {m : Mg} {g : Gt} (h : ansG gs m = some g) : g ∈ gs ∧ okAns m g = true ∧ g.tk = m.id := by
  unfold ansG at h
  obtain ⟨h1, h2⟩ := Option.filter_eq_some_iff.1 h
  obtain ⟨a, b⟩ := findG_mem h1
  exact ⟨a, h2, b⟩
theorem tks_gone (gs : List Gt) (t : Int) (h : (gs.map fun g => g.tk).Pairwise (· < ·)) : ((gone gs t).map fun g => g.tk).Pairwise (· < ·) :=
  h.sublist ((List.filter_sublist).map _)
theorem tks_askd (gs : List Gt) (t now : Int) : (askd gs t now).map (fun g => g.tk) = gs.map fun g => g.tk := by
  unfold askd
  rw [List.map_map]
  refine List.map_congr_left fun g _ => ?_
  simp only [Function.comp]
  split <;> rfl
theorem tks_goG {gs : List Gt} (now : Int) (g : Gt) (h : (gs.map fun g => g.tk).Pairwise (· < ·)) : ((goG gs now g).map fun g => g.tk).Pairwise (· < ·) := by
  unfold goG
  split
  · exact tks_gone gs _ h
  · rw [tks_askd]; exact h
/-- gets that are opened -/
theorem opG_at (c : Cl) (v : Rv) : ∀ (ks : List ByteArray) (t : Int) (g : Gt), g ∈ opG c v ks t → ∃ (i : Nat) (hi : i < ks.length), g = ⟨t + (i : Int), ks[i], ordL v.d (baseOf c ks[i]), 1, v.now⟩
  | [], _, _, h => by simp [opG] at h
  | x :: r, t, g, h => by
    rcases List.mem_cons.1 h with rfl | h
    · exact ⟨0, by simp, by simp⟩
    · obtain ⟨i, hi, e⟩ := opG_at c v r (t + 1) g h
      refine ⟨i + 1, by simp; omega, ?_⟩
      rw [e]
      simp only [List.getElem_cons_succ]
      congr 1
      omega
/-- what Ok says of the gets -/
structure GsOk (c : Cl) (gs : List Gt) (now last : Int) : Prop where
  tks : ∀ g ∈ gs, 1 ≤ g.tk ∧ g.tk ≤ last
  srt : (gs.map fun g => g.tk).Pairwise (· < ·)
  ask : ∀ g ∈ gs, 1 ≤ g.asked ∧ g.asked ≤ g.ow.length ∧ (g.ow.length : Int) = c.x 0
  own : ∀ g ∈ gs, (∀ k ∈ g.ow, 0 ≤ k ∧ k < (c.ns.length : Int)) ∧ g.ow.Nodup
  sin : ∀ g ∈ gs, 0 ≤ g.since ∧ g.since ≤ now
  len : gs.length ≤ 64
theorem Ok.gs {c : Cl} {gs : List Gt} {v : Rv} {m : Nat} (h : Ok c gs v m) : GsOk c gs v.now v.last := ⟨h.tks, h.srt, h.ask, h.own, h.sin, h.len⟩
theorem GsOk.later {c : Cl} {gs : List Gt} {now now' last last' : Int} (h : GsOk c gs now last) (h1 : now ≤ now') (h2 : last ≤ last') : GsOk c gs now' last' :=
  ⟨fun g hg => by have := h.tks g hg; omega, h.srt, h.ask, h.own, fun g hg => by have := h.sin g hg; omega, h.len⟩
theorem GsOk.fin {c : Cl} {gs : List Gt} {now last : Int} (h : GsOk c gs now last) (t : Int) : GsOk c (gone gs t) now last := by
  have hm : ∀ g, g ∈ gone gs t → g ∈ gs := fun g hg => (List.mem_filter.1 hg).1
  refine ⟨fun g hg => h.tks g (hm g hg), tks_gone gs t h.srt, fun g hg => h.ask g (hm g hg), fun g hg => h.own g (hm g hg), fun g hg => h.sin g (hm g hg), ?_⟩
  exact Nat.le_trans (List.length_filter_le _ _) h.len
theorem askd_mem {gs : List Gt} (hs : (gs.map fun g => g.tk).Pairwise (· < ·)) {g : Gt} (hg : g ∈ gs) {now : Int} {g' : Gt} (h : g' ∈ askd gs g.tk now) : g' ∈ gs ∨ g' = askG now g := by
  obtain ⟨g0, m1, m2⟩ := List.mem_map.1 h
  by_cases e : g0.tk = g.tk
  · have e2 : g0 = g := by
      have f1 := findG_of hs m1
      have f2 := findG_of hs hg
      rw [e, f2] at f1
      exact (Option.some.inj f1).symm
    rw [if_pos e] at m2
    exact Or.inr (by rw [← m2, e2])
  · rw [if_neg e] at m2
    exact Or.inl (by rw [← m2]; exact m1)
theorem GsOk.goes {c : Cl} {gs : List Gt} {now last : Int} (h : GsOk c gs now last) (h0 : 0 ≤ now) {g : Gt} (hg : g ∈ gs) : GsOk c (goG gs now g) now last := by
  unfold goG
  by_cases e : g.asked = g.ow.length
  · rw [if_pos e]
    exact h.fin _
  · rw [if_neg e]
    have ha := h.ask g hg
    refine ⟨fun g' hg' => ?_, by rw [tks_askd]; exact h.srt, fun g' hg' => ?_, fun g' hg' => ?_, fun g' hg' => ?_, by unfold askd; rw [List.length_map]; exact h.len⟩
    · rcases askd_mem h.srt hg hg' with q | rfl
      · exact h.tks g' q
      · exact h.tks g hg
    · rcases askd_mem h.srt hg hg' with q | rfl
      · exact h.ask g' q
      · exact ⟨Nat.le_add_left _ _, by show g.asked + 1 ≤ g.ow.length; omega, ha.2.2⟩
    · rcases askd_mem h.srt hg hg' with q | rfl
      · exact h.own g' q
      · exact h.own g hg
    · rcases askd_mem h.srt hg hg' with q | rfl
      · exact h.sin g' q
      · exact ⟨h0, Int.le_refl _⟩
theorem GsOk.take {c : Cl} {gs : List Gt} {now last : Int} (h : GsOk c gs now last) (h0 : 0 ≤ now) (m : Mg) : GsOk c (takeG gs now m) now last := by
  unfold takeG
  cases hA : ansG gs m with
  | none => exact h
  | some g =>
    have hg := (ansG_mem hA).1
    simp only [hearG]
    split
    · exact h.fin _
    · split
      · exact h.goes h0 hg
      · exact h
theorem GsOk.all {c : Cl} {gs : List Gt} {now last : Int} (h : GsOk c gs now last) (h0 : 0 ≤ now) (d : Dt) (T : List Int) : GsOk c (tkAll now ⟨gs, d, [], []⟩ T).gs now last := by
  have key : ∀ (T : List Int) (s : Tk), GsOk c s.gs now last → GsOk c (tkAll now s T).gs now last := by
    intro T
    induction T with
    | nil => exact fun s h => h
    | cons t r ih =>
      intro s hs
      refine ih (tkStep now s t) ?_
      unfold tkStep
      cases hf : findG s.gs t with
      | none => exact hs
      | some g => exact hs.goes h0 (findG_mem hf).1
  exact key T _ h
theorem Ok.of {c : Cl} {gs gs' : List Gt} {v v' : Rv} {m m' : Nat} (h : Ok c gs v m) (hg : GsOk c gs' v'.now v'.last) (h1 : v'.d.upto m') (h2 : v'.d.enb) (h3 : v'.d.n = v.d.n) (h4 : 0 ≤ v'.now) (h5 : 0 ≤ v'.last) : Ok c gs' v' m' :=
  ⟨h.err, h.st, h1, h2, h3.trans h.dn, h4, h5, hg.tks, hg.srt, hg.ask, hg.own, hg.sin, hg.len⟩
theorem enb_good {d : Dt} (h : d.enb) (hf : d.fits) (k : Int) : (d.good k).enb := fun j => by
  show upd d.en k 0 j ≤ d.now + d.ban
  unfold upd
  split
  · have := hf.t0
    have := hf.b1
    omega
  · exact h j
/-- a take keeps it -/
theorem Ok.take {c : Cl} {gs : List Gt} {v : Rv} {m : Nat} (h : Ok c gs v m) (x : Mg) : Ok c (takeG gs v.now x) { v with d := v.d.good x.fr } m :=
  h.of (h.gs.take h.now0 x) (h.up.good _) (enb_good h.enb h.up.ft _) rfl h.now0 h.last0
/-- a tick keeps it -/
theorem due_len (now wait : Int) (gs : List Gt) : (dueT now wait gs).length ≤ gs.length := by
  unfold dueT
  rw [List.length_map]
  exact List.length_filter_le _ _
theorem Ok.tick {c : Cl} {gs : List Gt} {v : Rv} {m : Nat} (h : Ok c gs v m) : Ok c (tickK c gs v).gs ⟨(tickK c gs v).d, v.now + 1, v.last⟩ (m + 1 + gs.length) := by
  have hn := h.now0
  have hl := h.len
  have hd := due_len (v.now + 1) (c.x 17) gs
  have a1 := all_upto (s := ⟨gs, v.d.tick, [], []⟩) (now := v.now + 1) (dueT (v.now + 1) (c.x 17) gs) (upto_tick h.up)
  have a2 := all_enb (s := ⟨gs, v.d.tick, [], []⟩) (now := v.now + 1) (dueT (v.now + 1) (c.x 17) gs) (upto_tick h.up).ft (enb_tick h.enb)
  have a3 := (all_len (s := ⟨gs, v.d.tick, [], []⟩) (now := v.now + 1) (dueT (v.now + 1) (c.x 17) gs)).2.2.2
  refine h.of ?_ (a1.mono (by omega)) a2.1 a3 (by show 0 ≤ v.now + 1; omega) h.last0
  exact (h.gs.later (by show v.now ≤ v.now + 1; omega) (Int.le_refl _)).all (by omega) _ _
theorem opG_srt (c : Cl) (v : Rv) : ∀ (ks : List ByteArray) (t : Int), ((opG c v ks t).map fun g => g.tk).Pairwise (· < ·)
  | [], _ => List.Pairwise.nil
  | x :: r, t => by
    refine List.Pairwise.cons (fun y hy => ?_) (opG_srt c v r (t + 1))
    obtain ⟨g, hg, rfl⟩ := List.mem_map.1 hy
    obtain ⟨i, hi, rfl⟩ := opG_at c v r _ g hg
    show t < t + 1 + (i : Int)
    omega
/-- an opening keeps it -/
theorem Ok.opened {c : Cl} {gs : List Gt} {v : Rv} {m : Nat} (h : Ok c gs v m) (ks : List ByteArray) (hl : gs.length + ks.length ≤ 64) : Ok c (gs ++ opG c v ks (v.last + 1)) { v with last := v.last + (ks.length : Int) } m := by
  have hl0 := h.last0
  have ho : ∀ g ∈ opG c v ks (v.last + 1), v.last + 1 ≤ g.tk ∧ g.tk ≤ v.last + (ks.length : Int) ∧ g.asked = 1 ∧ g.since = v.now ∧ ∃ key, g.ow = ordL v.d (baseOf c key) := fun g hg => by
    obtain ⟨i, hi, rfl⟩ := opG_at c v ks _ g hg
    exact ⟨by show v.last + 1 ≤ v.last + 1 + (i : Int); omega, by show v.last + 1 + (i : Int) ≤ _; omega, rfl, rfl, _, rfl⟩
  have hx : 1 ≤ c.x 0 ∧ c.x 0 ≤ 16 := sfP_lim (errP_all h.err).2.1 0 (by omega)
  refine h.of ⟨fun g hg => ?_, ?_, fun g hg => ?_, fun g hg => ?_, fun g hg => ?_, ?_⟩ h.up h.enb rfl h.now0 (by show 0 ≤ v.last + (ks.length : Int); omega)
  · show 1 ≤ g.tk ∧ g.tk ≤ v.last + (ks.length : Int)
    rcases List.mem_append.1 hg with q | q
    · have := h.tks g q; omega
    · have := ho g q; omega
  · rw [List.map_append]
    refine List.pairwise_append.2 ⟨h.srt, opG_srt c v ks _, fun a ha b hb => ?_⟩
    obtain ⟨g, hg, rfl⟩ := List.mem_map.1 ha
    obtain ⟨g', hg', rfl⟩ := List.mem_map.1 hb
    have := h.tks g hg
    have := ho g' hg'
    omega
  · rcases List.mem_append.1 hg with q | q
    · exact h.ask g q
    · obtain ⟨_, _, e, _, key, ek⟩ := ho g q
      have := (ord_ok h.err h.up.ft h.enb key).1
      rw [← ek] at this
      refine ⟨by omega, by omega, this⟩
  · rcases List.mem_append.1 hg with q | q
    · exact h.own g q
    · obtain ⟨_, _, e, _, key, ek⟩ := ho g q
      rw [ek]
      exact (ord_ok h.err h.up.ft h.enb key).2
  · rcases List.mem_append.1 hg with q | q
    · exact h.sin g q
    · obtain ⟨_, _, _, e, _⟩ := ho g q
      rw [e]
      exact ⟨h.now0, Int.le_refl _⟩
  · rw [List.length_append, opG_len]
    exact hl
/-- every get was asked less than wt ticks ago -/
def Fr (wt now : Int) (gs : List Gt) : Prop := ∀ g ∈ gs, now < g.since + wt
/-- in M ticks every get has ended -/
def Lm (wt now M : Int) (gs : List Gt) : Prop := ∀ g ∈ gs, g.since + wt * ((g.ow.length : Int) - (g.asked : Int) + 1) ≤ now + M
theorem goG_mem {gs : List Gt} (hs : (gs.map fun g => g.tk).Pairwise (· < ·)) {g : Gt} (hg : g ∈ gs) {now : Int} {g' : Gt} (h : g' ∈ goG gs now g) : (g' ∈ gs ∧ g'.tk ≠ g.tk) ∨ (g' = askG now g ∧ g.asked ≠ g.ow.length) := by
  unfold goG at h
  by_cases e : g.asked = g.ow.length
  · rw [if_pos e] at h
    have := List.mem_filter.1 h
    exact Or.inl ⟨this.1, by simpa using this.2⟩
  · rw [if_neg e] at h
    obtain ⟨g0, m1, m2⟩ := List.mem_map.1 h
    by_cases e1 : g0.tk = g.tk
    · have e2 : g0 = g := by
        have f1 := findG_of hs m1
        have f2 := findG_of hs hg
        rw [e1, f2] at f1
        exact (Option.some.inj f1).symm
      rw [if_pos e1] at m2
      exact Or.inr ⟨by rw [← m2, e2], e⟩
    · rw [if_neg e1] at m2
      exact Or.inl (by rw [← m2]; exact ⟨m1, e1⟩)
theorem step_mem {s : Tk} (hs : (s.gs.map fun g => g.tk).Pairwise (· < ·)) {now t : Int} {g' : Gt} (h : g' ∈ (tkStep now s t).gs) : (g' ∈ s.gs ∧ g'.tk ≠ t) ∨ ∃ g ∈ s.gs, g.tk = t ∧ g' = askG now g ∧ g.asked ≠ g.ow.length := by
  unfold tkStep at h
  cases hf : findG s.gs t with
  | none =>
    rw [hf] at h
    refine Or.inl ⟨h, fun e => ?_⟩
    have := findG_of hs (g := g') h
    rw [e, hf] at this
    cases this
  | some g =>
    rw [hf] at h
    obtain ⟨hg, ht⟩ := findG_mem hf
    rcases goG_mem hs hg h with q | q
    · exact Or.inl ⟨q.1, by rw [← ht]; exact q.2⟩
    · exact Or.inr ⟨g, hg, ht, q⟩
theorem step_srt {s : Tk} (hs : (s.gs.map fun g => g.tk).Pairwise (· < ·)) (now t : Int) : ((tkStep now s t).gs.map fun g => g.tk).Pairwise (· < ·) := by
  unfold tkStep
  split
  · exact hs
  · exact tks_goG now _ hs
theorem all_mem (now : Int) : ∀ (T : List Int) (s : Tk), T.Nodup → (s.gs.map fun g => g.tk).Pairwise (· < ·) → ∀ g' ∈ (tkAll now s T).gs, (g' ∈ s.gs ∧ g'.tk ∉ T) ∨ ∃ g ∈ s.gs, g.tk ∈ T ∧ g' = askG now g ∧ g.asked ≠ g.ow.length
  | [], s, _, _, g', h => Or.inl ⟨h, by simp⟩
  | t :: r, s, hn, hs, g', h => by
    rw [List.nodup_cons] at hn
    rcases all_mem now r (tkStep now s t) hn.2 (step_srt hs now t) g' h with ⟨q1, q2⟩ | ⟨g, q1, q2, q3⟩
    · rcases step_mem hs q1 with ⟨p1, p2⟩ | ⟨g, p1, p2, p3⟩
      · exact Or.inl ⟨p1, by rw [List.mem_cons, not_or]; exact ⟨p2, q2⟩⟩
      · exact Or.inr ⟨g, p1, by rw [p2]; exact List.mem_cons_self, p3⟩
    · rcases step_mem hs q1 with ⟨p1, p2⟩ | ⟨g2, p1, p2, p3, _⟩
      · exact Or.inr ⟨g, p1, List.mem_cons_of_mem _ q2, q3⟩
      · have e : g.tk = t := by rw [p3]; exact p2
        rw [e] at q2
        exact absurd q2 hn.1
theorem due_nodup (now wt : Int) {gs : List Gt} (hs : (gs.map fun g => g.tk).Pairwise (· < ·)) : (dueT now wt gs).Nodup := by
  have h : (dueT now wt gs).Pairwise (· < ·) := hs.sublist ((List.filter_sublist).map _)
  rw [List.nodup_iff_pairwise_ne]
  exact h.imp fun h => by omega
theorem tick_mem {c : Cl} {gs : List Gt} {v : Rv} (hs : (gs.map fun g => g.tk).Pairwise (· < ·)) {g' : Gt} (h : g' ∈ (tickK c gs v).gs) : (g' ∈ gs ∧ v.now + 1 - g'.since ≠ c.x 17) ∨ ∃ g ∈ gs, v.now + 1 - g.since = c.x 17 ∧ g' = askG (v.now + 1) g ∧ g.asked ≠ g.ow.length := by
  rcases all_mem (v.now + 1) _ ⟨gs, v.d.tick, [], []⟩ (due_nodup (v.now + 1) (c.x 17) hs) hs g' h with ⟨q1, q2⟩ | ⟨g, q1, q2, q3⟩
  · refine Or.inl ⟨q1, fun e => q2 ?_⟩
    exact List.mem_map.2 ⟨g', List.mem_filter.2 ⟨q1, decide_eq_true e⟩, rfl⟩
  · refine Or.inr ⟨g, q1, ?_, q3⟩
    obtain ⟨g2, m1, m2⟩ := List.mem_map.1 q2
    obtain ⟨m3, m4⟩ := List.mem_filter.1 m1
    have e : g2 = g := by
      have f1 := findG_of hs m3
      have f2 := findG_of hs q1
      rw [show g2.tk = g.tk from m2, f2] at f1
      exact (Option.some.inj f1).symm
    rw [← e]
    exact of_decide_eq_true m4
theorem Fr.tick {c : Cl} {gs : List Gt} {v : Rv} (h : Fr (c.x 17) v.now gs) (hs : (gs.map fun g => g.tk).Pairwise (· < ·)) (h1 : 1 ≤ c.x 17) : Fr (c.x 17) (v.now + 1) (tickK c gs v).gs := fun g' hg => by
  rcases tick_mem hs hg with ⟨q1, q2⟩ | ⟨g, q1, q2, q3, q4⟩
  · have := h g' q1
    omega
  · rw [q3]
    show v.now + 1 < v.now + 1 + c.x 17
    omega
theorem Lm.tick {c : Cl} {gs : List Gt} {v : Rv} {M : Int} (h : Lm (c.x 17) v.now M gs) (hs : (gs.map fun g => g.tk).Pairwise (· < ·)) : Lm (c.x 17) (v.now + 1) (M - 1) (tickK c gs v).gs := fun g' hg => by
  rcases tick_mem hs hg with ⟨q1, q2⟩ | ⟨g, q1, q2, q3, q4⟩
  · have := h g' q1
    omega
  · have := h g q1
    rw [q3]
    show v.now + 1 + c.x 17 * ((g.ow.length : Int) - ((g.asked + 1 : Nat) : Int) + 1) ≤ v.now + 1 + (M - 1)
    rw [show (g.ow.length : Int) - ((g.asked + 1 : Nat) : Int) + 1 = (g.ow.length : Int) - (g.asked : Int) by omega]
    rw [Int.mul_add, Int.mul_one] at this
    omega
theorem Fr.goes {wt : Int} {gs : List Gt} {now : Int} (h : Fr wt now gs) (hs : (gs.map fun g => g.tk).Pairwise (· < ·)) (h1 : 1 ≤ wt) {g : Gt} (hg : g ∈ gs) : Fr wt now (goG gs now g) := fun g' h' => by
  rcases goG_mem hs hg h' with q | q
  · exact h g' q.1
  · rw [q.1]
    show now < now + wt
    omega
theorem Fr.fin {wt : Int} {gs : List Gt} {now : Int} (h : Fr wt now gs) (t : Int) : Fr wt now (gone gs t) := fun g hg => h g (List.mem_filter.1 hg).1
theorem Fr.take {wt : Int} {gs : List Gt} {now : Int} (h : Fr wt now gs) (hs : (gs.map fun g => g.tk).Pairwise (· < ·)) (h1 : 1 ≤ wt) (m : Mg) : Fr wt now (takeG gs now m) := by
  unfold takeG
  cases hA : ansG gs m with
  | none => exact h
  | some g =>
    have hg := (ansG_mem hA).1
    simp only [hearG]
    split
    · exact h.fin _
    · split
      · exact h.goes hs h1 hg
      · exact h
theorem Fr.opened {c : Cl} {gs : List Gt} {v : Rv} (h : Fr (c.x 17) v.now gs) (h1 : 1 ≤ c.x 17) (ks : List ByteArray) (t : Int) : Fr (c.x 17) v.now (gs ++ opG c v ks t) := fun g hg => by
  rcases List.mem_append.1 hg with q | q
  · exact h g q
  · obtain ⟨i, hi, rfl⟩ := opG_at c v ks _ g q
    show v.now < v.now + c.x 17
    omega
theorem Ok.wt {c : Cl} {gs : List Gt} {v : Rv} {m : Nat} (ok : Ok c gs v m) : 1 ≤ c.x 17 ∧ c.x 17 ≤ 1024 := sfP_lim (errP_all ok.err).2.1 17 (by omega)
theorem Ok.more2 {c : Cl} {gs : List Gt} {v : Rv} {m m' : Nat} (h : Ok c gs v m) (hm : m ≤ m') : Ok c gs v m' := h.of h.gs (h.up.mono hm) h.enb rfl h.now0 h.last0
end Go.Proofs.YtndfhpfhgdamgaaGreatDoor.Cn
namespace Go.Proofs.YtndfhpfhgdamgaaGreatDoor.Cn
open Go.RowKit
/-- two routers, apart, at two desks -/
structure Two (W : World) (Ra Rb Ba Bb : Nat) (c : Cl) (wr : World) (Sa Sb : Nat → Prop) (Pa Pb : List Gp) (va vb : Rv) (vw : Value) (WL : List Mg) : Prop where
  ra : RtAt wr Sa Ra c Pa va
  rb : RtAt wr Sb Rb c Pb vb
  ga : ∀ j, Sa j → W.heap.size ≤ j
  gb : ∀ j, Sb j → W.heap.size ≤ j
  ap : ∀ j, Sa j → ¬ Sb j
  da : ∃ vk vd, wr.heap[Ba]? = some (.cells #[.pointer (some ⟨Ra, 0, none⟩), vw, vk, vd] 63)
  db : ∃ x y z, wr.heap[Bb]? = some (.cells #[.pointer (some ⟨Rb, 0, none⟩), x, y, z] 63)
  ne : Ba ≠ Bb
  bA : W.heap.size ≤ Ba
  bB : W.heap.size ≤ Bb
  wt : wr.ownsRow W.heap.size 58 11 vw WL.length (mgs WL)
  be : Below W.heap.size W wr
theorem kpBelow {w w' : World} {T : Nat → Prop} {base : Nat} (h : Kp w w' T) (hT : ∀ k, T k → base ≤ k) (hb : base ≤ w.heap.size) : Below base w w' :=
  ⟨h.os, h.tape, h.output, h.size, fun j hj => h.block j (Nat.lt_of_lt_of_le hj hb) (fun q => by have := hT j q; omega)⟩
section
variable {W wr w' : World} {Ra Rb Ba Bb : Nat} {c : Cl} {Sa Sb Sa' Sb' : Nat → Prop} {Pa Pb Pa' Pb' : List Gp} {va vb va' vb' : Rv} {vw : Value} {WL : List Mg}
theorem Two.sz (h : Two W Ra Rb Ba Bb c wr Sa Sb Pa Pb va vb vw WL) : W.heap.size ≤ wr.heap.size := h.be.size
theorem Two.kp (h : Two W Ra Rb Ba Bb c wr Sa Sb Pa Pb va vb vw WL) (hk : Kp wr w' non) : Two W Ra Rb Ba Bb c w' Sa Sb Pa Pb va vb vw WL := by
  obtain ⟨vk, vd, ha⟩ := h.da
  obtain ⟨x, y, z, hb⟩ := h.db
  exact ⟨h.ra.kp hk (fun _ _ f => f), h.rb.kp hk (fun _ _ f => f), h.ga, h.gb, h.ap, ⟨vk, vd, (hk.block _ (blk_lt ha) (fun f => f)).trans ha⟩, ⟨x, y, z, (hk.block _ (blk_lt hb) (fun f => f)).trans hb⟩, h.ne, h.bA, h.bB, own_kp h.wt hk (fun _ _ f => f), h.be.trans (kpBelow hk (fun _ f => f.elim) h.sz)⟩
theorem Two.callA (h : Two W Ra Rb Ba Bb c wr Sa Sb Pa Pb va vb vw WL) (hk : Kp wr w' Sa) (hr : RtAt w' Sa' Ra c Pa' va') (hs : ∀ k, Sa' k → Sa k ∨ wr.heap.size ≤ k) : Two W Ra Rb Ba Bb c w' Sa' Sb Pa' Pb va' vb vw WL := by
  obtain ⟨vk, vd, ha⟩ := h.da
  obtain ⟨x, y, z, hb⟩ := h.db
  have hz := h.sz
  have g' : ∀ j, Sa' j → W.heap.size ≤ j := fun j q => by
    rcases hs j q with q | q
    · exact h.ga j q
    · omega
  refine ⟨hr, h.rb.kp hk (fun j q f => h.ap j f q), g', h.gb, fun j q q2 => ?_, ⟨vk, vd, (hk.block _ (blk_lt ha) (h.ra.not ha (by decide))).trans ha⟩, ⟨x, y, z, (hk.block _ (blk_lt hb) (h.ra.not hb (by decide))).trans hb⟩, h.ne, h.bA, h.bB, own_kp h.wt hk (fun j e q => ?_), h.be.trans (kpBelow hk h.ga hz)⟩
  · rcases hs j q with q | q
    · exact h.ap j q q2
    · have := h.rb.lt q2
      omega
  · obtain ⟨cur, hc⟩ := own_typ h.wt e
    exact h.ra.not hc (by decide) q
theorem Two.callB (h : Two W Ra Rb Ba Bb c wr Sa Sb Pa Pb va vb vw WL) (hk : Kp wr w' Sb) (hr : RtAt w' Sb' Rb c Pb' vb') (hs : ∀ k, Sb' k → Sb k ∨ wr.heap.size ≤ k) : Two W Ra Rb Ba Bb c w' Sa Sb' Pa Pb' va vb' vw WL := by
  obtain ⟨vk, vd, ha⟩ := h.da
  obtain ⟨x, y, z, hb⟩ := h.db
  have hz := h.sz
  have g' : ∀ j, Sb' j → W.heap.size ≤ j := fun j q => by
    rcases hs j q with q | q
    · exact h.gb j q
    · omega
  refine ⟨h.ra.kp hk (fun j q f => h.ap j q f), hr, h.ga, g', fun j q q2 => ?_, ⟨vk, vd, (hk.block _ (blk_lt ha) (h.rb.not ha (by decide))).trans ha⟩, ⟨x, y, z, (hk.block _ (blk_lt hb) (h.rb.not hb (by decide))).trans hb⟩, h.ne, h.bA, h.bB, own_kp h.wt hk (fun j e q => ?_), h.be.trans (kpBelow hk h.gb hz)⟩
  · rcases hs j q2 with q2 | q2
    · exact h.ap j q q2
    · have := h.ra.lt q
      omega
  · obtain ⟨cur, hc⟩ := own_typ h.wt e
    exact h.rb.not hc (by decide) q
theorem Two.went (h : Two W Ra Rb Ba Bb c wr Sa Sb Pa Pb va vb vw WL) {u' : Value} {L' : List Mg} (ho : wr.ownsRow W.heap.size 58 11 u' L'.length (mgs L')) : Two W Ra Rb Ba Bb c (wr.setCell ⟨Ba, 1, none⟩ u') Sa Sb Pa Pb va vb u' L' := by
  obtain ⟨vk, vd, ha⟩ := h.da
  obtain ⟨x, y, z, hb⟩ := h.db
  have k2 : Kp wr (wr.setCell ⟨Ba, 1, none⟩ u') (fun j => j = Ba) := (Kp.refl wr (fun j => j = Ba)).set (Or.inl rfl) _ _
  refine ⟨h.ra.kp k2 (fun j q e => h.ra.not ha (by decide) (e ▸ q)), h.rb.kp k2 (fun j q e => h.rb.not ha (by decide) (e ▸ q)), h.ga, h.gb, h.ap, ⟨vk, vd, ?_⟩, ⟨x, y, z, (k2.block _ (blk_lt hb) (fun e => h.ne e.symm)).trans hb⟩, h.ne, h.bA, h.bB, own_kp ho k2 (fun j e q => ?_), h.be.trans (kpBelow k2 (fun k e => by rw [e]; exact h.bA) h.sz)⟩
  · rw [heap_setCell _ _ _ _ _ _ _ ha]; rfl
  · obtain ⟨cur, hc⟩ := own_typ ho e
    rw [q] at hc
    have := hc.symm.trans ha
    simp at this
end
end Go.Proofs.YtndfhpfhgdamgaaGreatDoor.Cn
