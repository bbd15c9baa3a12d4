import Derived.Test.YtbmhllcbkeblfaaGEpLeave
namespace Go.Proofs.Ytbmhllcbkeblfaa.Cn
open Go.RowKit
set_option maxHeartbeats 16000000 in
set_option maxRecDepth 100000 in
set_option linter.unusedSimpArgs false in
set_option linter.unusedVariables false in
theorem clone_x (s : ByteArray) (hs : s.size ≤ 281474976710656) (w : World) :
    Calls Try.prog 48 #[.string s] w fun e w' => e = .returned (.string s) ∧ Kp w w' non := by
  have CL := hide (Try.stringslite_Clone s w (by omega))
  go_enter Try.func48, Try.ntmps48
  go_wp2_with fail
  refine Calls.mono CL.out ?_
  rintro e W1 ⟨rfl, b1⟩
  have B1 := hide b1
  clear b1
  go_wp2_with fail
  go_ret
  exact ⟨rfl, Kp.of_below B1.out non⟩
/-- what hear asks of an exporter -/
structure Hok (v : Ex) (R : Nat) : Prop where
  rw_ : ∀ r ∈ v.rows, r.length = R
  R16 : 1 ≤ R ∧ R ≤ 16
  P64 : v.rows.length ≤ 64
  pt : v.part < v.rows.length
  lf : v.left < R
  rl : v.rd.length ≤ 512
  ps : v.told.ps.length ≤ 40000
  ms : v.told.ms.length ≤ 1000
theorem Ow.like {w : World} {v v' : Ex} {Z : Zz} (h : Ow w v Z) (e1 : v'.rows = v.rows) (e2 : v'.told.ps = v.told.ps) (e3 : v'.told.ms = v.told.ms) (e4 : v'.rd = v.rd) (e5 : v'.last = v.last) : Ow w v' Z := by
  refine ⟨by rw [e1]; exact h.rows, fun p hp => ?_, by rw [e2]; exact h.tp, by rw [e3]; exact h.tm, by rw [e4]; exact h.rd, by rw [e5]; exact h.lp, by rw [e5]; exact h.lm, h.d1, h.d2, h.d3⟩
  have hp' : p < v.rows.length := by rw [← e1]; exact hp
  obtain ⟨u, hu, ho⟩ := h.row p hp'
  have : v'.rows[p] = v.rows[p] := by simp [e1]
  rw [this]
  exact ⟨u, hu, ho⟩
set_option maxHeartbeats 16000000 in
set_option maxRecDepth 100000 in
set_option linter.unusedSimpArgs false in
set_option linter.unusedVariables false in
theorem hear_lv {w : World} {X : Nat} {v : Ex} {Z : Zz} (h : ExAt w X v Z) {R : Nat} (ok : Hok v R) (m : Mg) (h1 : m.code ≠ 16) (h2 : ¬ (m.code = 0 ∧ v.rd.length < 512)) :
    Calls Try.prog 31 #[.pointer (some ⟨X, 0, none⟩), .agg (mgV m)] w fun e w' => ∃ u Z', e = .returned u ∧ Out w w' u (lvL v) ∧ Lv w w' X Z (lvX v) Z' := by
  obtain ⟨B, hB⟩ : ∃ B, B = w.heap.size := ⟨_, rfl⟩
  obtain ⟨W0, hW0⟩ : ∃ W0, W0 = w.alloc (.cells (mgV m) 36) := ⟨_, rfl⟩
  have k0 : Kp w W0 non := by rw [hW0]; exact (Kp.refl w non).alloc _
  have M0 : Hid (MgAt W0 B m) := by rw [hW0, hB]; exact MgAt.new w m
  have L0 : Hid (Lv w W0 X Z v Z) := Lv.same h k0
  have cm8 : W0.cell? ⟨B, 8, none⟩ = some (.int .i64 m.code) := M0.out.cells.2.2.2.2.2.2.2.2.1
  have OK := hide ok
  obtain ⟨da, dc, hda⟩ := own_sl h.ow.rd
  have c9 : W0.cell? ⟨X, 9, none⟩ = some (.slice da v.rd.length dc) := by rw [← hda]; exact (ex_cells L0.out.at_.blk).2.2.2.2.2.2.2.2.2.1
  have LVE := hide (leave_x L0.out.at_ ok.rw_ ok.pt ok.lf ok.R16.2 ok.P64 ok.rl ok.ms)
  obtain ⟨dn, hdn⟩ : ∃ dn, dn = v.rd.length := ⟨_, rfl⟩
  rw [← hdn] at c9 h2
  have q1 : (m.code == 16) = false := by simpa using h1
  have HQ : Hid (m.code = 0 → ¬ dn < 512) := fun e q => h2 ⟨e, q⟩
  clear h k0 ok hda hdn h1 h2
  go_enter Try.func31, Try.ntmps31
  go_upto_region 1 with fail
  rw [← hW0, ← hB]
  clear hW0 hB
  go_upto_region 5 with fail
  by_cases z : m.code = 0
  · have q2 : (m.code == 0) = true := by simpa using z
    have q3 : ¬ (dn : Int) < 512 := by have := HQ.out z; omega
    have q4 : decide ((dn : Int) < 512) = false := decide_eq_false q3
    have q5 : decide (dn < 512) = false := decide_eq_false (HQ.out z)
    clear z
    go_wp2_with fail
    refine Calls.mono LVE.out ?_
    rintro e W4 ⟨u, Z4, rfl, o4, l4⟩
    have O4 := hide o4
    have L4 := hide l4
    clear o4 l4 LVE
    go_wp2_with fail
    go_ret
    exact ⟨_, Z4, rfl, own_base O4.out L0.out.kp.size, L0.out.trans L4.out⟩
  · have q2 : (m.code == 0) = false := by simpa using z
    go_wp2_with fail
    refine Calls.mono LVE.out ?_
    rintro e W4 ⟨u, Z4, rfl, o4, l4⟩
    have O4 := hide o4
    have L4 := hide l4
    clear o4 l4 LVE
    go_wp2_with fail
    go_ret
    exact ⟨_, Z4, rfl, own_base O4.out L0.out.kp.size, L0.out.trans L4.out⟩
set_option maxHeartbeats 16000000 in
set_option maxRecDepth 100000 in
set_option linter.unusedSimpArgs false in
set_option linter.unusedVariables false in
theorem hear_end {w : World} {X : Nat} {v : Ex} {Z : Zz} (h : ExAt w X v Z) {R : Nat} (ok : Hok v R) (m : Mg) (h1 : m.code = 16) :
    Calls Try.prog 31 #[.pointer (some ⟨X, 0, none⟩), .agg (mgV m)] w fun e w' => ∃ u Z', e = .returned u ∧ Out w w' u (upL (doneX v) (v.part + 1)) ∧ Lv w w' X Z (upX (doneX v) (v.part + 1)) Z' := by
  obtain ⟨B, hB⟩ : ∃ B, B = w.heap.size := ⟨_, rfl⟩
  obtain ⟨W0, hW0⟩ : ∃ W0, W0 = w.alloc (.cells (mgV m) 36) := ⟨_, rfl⟩
  have k0 : Kp w W0 non := by rw [hW0]; exact (Kp.refl w non).alloc _
  have M0 : Hid (MgAt W0 B m) := by rw [hW0, hB]; exact MgAt.new w m
  have L0 : Hid (Lv w W0 X Z v Z) := Lv.same h k0
  have cm8 : W0.cell? ⟨B, 8, none⟩ = some (.int .i64 m.code) := M0.out.cells.2.2.2.2.2.2.2.2.1
  have OK := hide ok
  obtain ⟨ta, tc, hta⟩ := own_sl h.ow.tp
  obtain ⟨da, dc, hda⟩ := own_sl h.ow.rd
  have C5 : Hid (W0.cell? ⟨X, 9, none⟩ = some (.slice da v.rd.length dc)) := by rw [← hda]; exact (ex_cells L0.out.at_.blk).2.2.2.2.2.2.2.2.2.1
  have c5 : W0.cell? ⟨X, 5, none⟩ = some (.slice ta v.told.ps.length tc) := by rw [← hta]; exact (ex_cells L0.out.at_.blk).2.2.2.2.2.1
  have T1 : Hid (W0.drew.ownsRow 0 86 2 (.slice ta v.told.ps.length tc) v.told.ps.length (prs v.told.ps)) := by
    have := L0.out.at_.ow.tp
    rw [hta] at this
    exact this
  have T2 : Hid (W0.drew.ownsRow 0 86 2 (.slice da v.rd.length dc) v.rd.length (prs v.rd)) := by
    have := L0.out.at_.ow.rd
    rw [hda] at this
    exact this
  obtain ⟨tn, htn⟩ : ∃ tn, tn = v.told.ps.length := ⟨_, rfl⟩
  obtain ⟨dn, hdn⟩ : ∃ dn, dn = v.rd.length := ⟨_, rfl⟩
  have BD : Hid (tn ≤ 40000 ∧ dn ≤ 512) := ⟨by rw [htn]; exact ok.ps, by rw [hdn]; exact ok.rl⟩
  have A0 : ExAt W0.drew X v Z := L0.out.at_.kp0 ((Kp.refl W0 non).drew)
  have FIN : Hid (∀ na nc (w' : World), w'.ownsRow 0 86 2 (.slice na (tn + dn) nc) (tn + dn) (prs v.told.ps ++ prs v.rd) → W0.drew.grownBy w' (Value.slice ta tn tc).ownBlock → ((Value.slice na (tn + dn) nc).ownBlock = (Value.slice ta tn tc).ownBlock ∨ (Value.slice na (tn + dn) nc).ownBlock = some W0.drew.heap.size) → w'.cell? ⟨X, 9, none⟩ = some (.slice da dn dc) ∧ w'.frozen? ⟨X, 5, none⟩ = false ∧ w'.cell? ⟨X, 5, none⟩ = some (.slice ta tn tc) ∧ Lv w (w'.setCell ⟨X, 5, none⟩ (.slice na (tn + dn) nc)) X Z (doneX v) { Z with tp := .slice na (tn + dn) nc }) := fun na nc w' o3 g3 n3 => by
    have eT : Z.tp = .slice ta tn tc := by rw [hta, htn]
    rw [← eT] at g3 n3 ⊢
    rw [← prs_append] at o3
    rw [htn, hdn] at o3 n3 ⊢
    obtain ⟨b, l⟩ := Ow.done A0 _ o3 g3 n3
    refine ⟨?_, fz_row b 5, (ex_cells b).2.2.2.2.2.1, (L0.out.trans (Lv.same L0.out.at_ ((Kp.refl W0 non).drew))).trans l⟩
    rw [← hda]
    exact (ex_cells b).2.2.2.2.2.2.2.2.2.1
  rw [← htn] at c5 T1
  rw [← hdn] at C5 T2
  have PT : Hid (∀ (Y : World) (v' : Ex) (Z' : Zz), Y.heap[X]? = some (.cells (exA v' Z') 75) → Y.cell? ⟨X, 9, none⟩ = some Z'.rd ∧ Y.cell? ⟨X, 7, none⟩ = some (.int .i64 (v'.part : Int))) := fun Y v' Z' hY => ⟨(ex_cells hY).2.2.2.2.2.2.2.2.2.1, (ex_cells hY).2.2.2.2.2.2.2.1⟩
  have RDZ : Hid (Z.rd = .slice da dn dc) := by rw [hda, hdn]; rfl
  have q1 : (m.code == 16) = true := by simpa using h1
  clear h k0 ok hda hta htn hdn h1 A0
  go_enter Try.func31, Try.ntmps31
  go_upto_region 1 with fail
  rw [← hW0, ← hB]
  clear hW0 hB
  go_upto_region 3 with fail
  clear cm8
  refine wp_region_held_drew (S := fun Y => Y.cell? ⟨X, 9, none⟩ = some (.slice da dn dc)) (by kernel_rfl) C5.out (fun hHeld => ?_)
  refine wpAnyH_take (i := 0) (v := (.pointer (some ⟨X, 3, none⟩))) rfl (by kernel_rfl) (by kernel_rfl) (by kernel_rfl) (fun _ _ _ h => h) (Or.inl ⟨by kernel_rfl, ?_⟩) (by assumption) ?_
  · intro w' hSw
    (try dsimp only at hSw)
    go_simp
  (try simp only [Act.put, List.getElem_toArray, List.getElem_cons_zero, List.getElem_cons_succ, List.setIfInBounds_toArray, List.set_cons_zero, List.set_cons_succ])
  refine wpAnyH_take (i := 1) (v := (.pointer (some ⟨X, 3, none⟩))) rfl (by kernel_rfl) (by kernel_rfl) (by kernel_rfl) (fun _ _ _ h => h) (Or.inl ⟨by kernel_rfl, ?_⟩) (by assumption) ?_
  · intro w' hSw
    (try dsimp only at hSw)
    go_simp
  (try simp only [Act.put, List.getElem_toArray, List.getElem_cons_zero, List.getElem_cons_succ, List.setIfInBounds_toArray, List.set_cons_zero, List.set_cons_succ])
  refine wpAnyH_take (i := 2) (v := (.pointer (some ⟨X, 3, none⟩))) rfl (by kernel_rfl) (by kernel_rfl) (by kernel_rfl) (fun _ _ _ h => h) (Or.inl ⟨by kernel_rfl, ?_⟩) (by assumption) ?_
  · intro w' hSw
    (try dsimp only at hSw)
    go_simp
  (try simp only [Act.put, List.getElem_toArray, List.getElem_cons_zero, List.getElem_cons_succ, List.setIfInBounds_toArray, List.set_cons_zero, List.set_cons_succ])
  refine wpAnyH_take (i := 3) (v := (.pointer (some ⟨X, 3, none⟩))) rfl (by kernel_rfl) (by kernel_rfl) (by kernel_rfl) (fun _ _ _ h => h) (Or.inl ⟨by kernel_rfl, ?_⟩) (by assumption) ?_
  · intro w' hSw
    (try dsimp only at hSw)
    go_simp
  (try simp only [Act.put, List.getElem_toArray, List.getElem_cons_zero, List.getElem_cons_succ, List.setIfInBounds_toArray, List.set_cons_zero, List.set_cons_succ])
  refine wpAnyH_take (i := 4) (v := (.pointer (some ⟨X, 5, none⟩))) rfl (by kernel_rfl) (by kernel_rfl) (by kernel_rfl) (fun _ _ _ h => h) (Or.inl ⟨by kernel_rfl, ?_⟩) (by assumption) ?_
  · intro w' hSw
    (try dsimp only at hSw)
    go_simp
  (try simp only [Act.put, List.getElem_toArray, List.getElem_cons_zero, List.getElem_cons_succ, List.setIfInBounds_toArray, List.set_cons_zero, List.set_cons_succ])
  refine wpAnyH_take (i := 6) (v := (.pointer (some ⟨X, 3, none⟩))) rfl (by kernel_rfl) (by kernel_rfl) (by kernel_rfl) (fun _ _ _ h => h) (Or.inl ⟨by kernel_rfl, ?_⟩) (by assumption) ?_
  · intro w' hSw
    (try dsimp only at hSw)
    go_simp
  (try simp only [Act.put, List.getElem_toArray, List.getElem_cons_zero, List.getElem_cons_succ, List.setIfInBounds_toArray, List.set_cons_zero, List.set_cons_succ])
  refine wpAnyH_take (i := 7) (v := (.pointer (some ⟨X, 3, none⟩))) rfl (by kernel_rfl) (by kernel_rfl) (by kernel_rfl) (fun _ _ _ h => h) (Or.inl ⟨by kernel_rfl, ?_⟩) (by assumption) ?_
  · intro w' hSw
    (try dsimp only at hSw)
    go_simp
  (try simp only [Act.put, List.getElem_toArray, List.getElem_cons_zero, List.getElem_cons_succ, List.setIfInBounds_toArray, List.set_cons_zero, List.set_cons_succ])
  refine wpAnyH_take (i := 8) (v := (.pointer (some ⟨X, 9, none⟩))) rfl (by kernel_rfl) (by kernel_rfl) (by kernel_rfl) (fun _ _ _ h => h) (Or.inl ⟨by kernel_rfl, ?_⟩) (by assumption) ?_
  · intro w' hSw
    (try dsimp only at hSw)
    go_simp
  (try simp only [Act.put, List.getElem_toArray, List.getElem_cons_zero, List.getElem_cons_succ, List.setIfInBounds_toArray, List.set_cons_zero, List.set_cons_succ])
  refine wpAnyH_take (i := 9) (v := (.slice da dn dc)) rfl (by kernel_rfl) (by kernel_rfl) (by kernel_rfl) (fun _ _ _ h => h) (Or.inl ⟨by kernel_rfl, ?_⟩) (by assumption) ?_
  · intro w' hSw
    (try dsimp only at hSw)
    (have z := hSw; go_simp)
  (try simp only [Act.put, List.getElem_toArray, List.getElem_cons_zero, List.getElem_cons_succ, List.setIfInBounds_toArray, List.set_cons_zero, List.set_cons_succ])
  refine wpAnyH_ready (rs := [5]) (by kernel_rfl) (by simp) ?_
  refine AllReadyH.cons rfl (fun K hK => ?_) AllReadyH.nil
  go_simp
  refine hK.out _ _ (C5.out) (fun hHeld => ?_)
  clear hK
  (try simp only [Act.put, List.setIfInBounds_toArray, List.set_cons_zero, List.set_cons_succ])
  refine wpAnyH_ready (rs := [10]) (by kernel_rfl) (by simp) ?_
  refine AllReadyH.cons rfl (fun K hK => ?_) AllReadyH.nil
  refine wp_apRow (.tmp 18) (.tmp 22) 46 rfl 0 86 Try.underlying46 pr_infos rfl (by decide) (.slice ta tn tc) tn (prs v.told.ps) rfl T1.out 0 (.slice da dn dc) dn (prs v.rd) rfl T2.out (prs_oneCell _) (by unfold maxLen; have := BD.out; omega) (by have := BD.out; omega) (Nat.zero_le _) ?_
  intro v' w' o3 g3 n3
  obtain ⟨na, nc, rfl⟩ := own_sl o3
  obtain ⟨c9, f5, c5', L4⟩ := FIN.out _ _ w' o3 g3 n3
  have D3 := hide c9
  have L4 := hide L4
  obtain ⟨W4, hW4⟩ : ∃ W4, W4 = w'.setCell ⟨X, 5, none⟩ (.slice na (tn + dn) nc) := ⟨_, rfl⟩
  rw [← hW4] at L4
  have D4 : Hid (W4.cell? ⟨X, 9, none⟩ = some (.slice da dn dc)) := by
    have := (PT.out _ _ _ L4.out.at_.blk).1
    rw [this]
    show _ = _
    rw [RDZ.out]
  clear o3 g3 n3 c9 T1 T2 FIN c5
  refine hK.out _ _ (D3.out) (fun hHeld => ?_)
  clear hK
  (try simp only [Act.put, List.setIfInBounds_toArray, List.set_cons_zero, List.set_cons_succ])
  refine wpAnyH_take (i := 11) (v := (.pointer (some ⟨X, 3, none⟩))) rfl (by kernel_rfl) (by kernel_rfl) (by kernel_rfl) (fun _ _ _ h => h) (Or.inl ⟨by kernel_rfl, ?_⟩) (by assumption) ?_
  · intro w' hSw
    (try dsimp only at hSw)
    go_simp
  (try simp only [Act.put, List.getElem_toArray, List.getElem_cons_zero, List.getElem_cons_succ, List.setIfInBounds_toArray, List.set_cons_zero, List.set_cons_succ])
  refine wpAnyH_take (i := 12) (v := (.pointer (some ⟨X, 3, none⟩))) rfl (by kernel_rfl) (by kernel_rfl) (by kernel_rfl) (fun _ _ _ h => h) (Or.inl ⟨by kernel_rfl, ?_⟩) (by assumption) ?_
  · intro w' hSw
    (try dsimp only at hSw)
    go_simp
  (try simp only [Act.put, List.getElem_toArray, List.getElem_cons_zero, List.getElem_cons_succ, List.setIfInBounds_toArray, List.set_cons_zero, List.set_cons_succ])
  refine wpAnyH_take (i := 13) (v := (.pointer (some ⟨X, 5, none⟩))) rfl (by kernel_rfl) (by kernel_rfl) (by kernel_rfl) (fun _ _ _ h => h) (Or.inl ⟨by kernel_rfl, ?_⟩) (by assumption) ?_
  · intro w' hSw
    (try dsimp only at hSw)
    go_simp
  (try simp only [Act.put, List.getElem_toArray, List.getElem_cons_zero, List.getElem_cons_succ, List.setIfInBounds_toArray, List.set_cons_zero, List.set_cons_succ])
  refine wpAnyH_ready (rs := [14]) (by kernel_rfl) (by simp) ?_
  refine AllReadyH.cons rfl (fun K hK => ?_) AllReadyH.nil
  go_simp
  rw [← hW4]
  clear hW4 c5' f5 D3
  refine hK.out _ _ (D4.out) (fun hHeld => ?_)
  clear hK
  (try simp only [Act.put, List.setIfInBounds_toArray, List.set_cons_zero, List.set_cons_succ])
  refine wpAnyH_done (by kernel_rfl) ?_ _
  clear hHeld
  obtain ⟨pp, hpp⟩ : ∃ pp, pp = v.part := ⟨_, rfl⟩
  have HPP := hide hpp
  have c7 : W4.cell? ⟨X, 7, none⟩ = some (.int .i64 (pp : Int)) := by
    rw [hpp]
    exact (PT.out _ _ _ L4.out.at_.blk).2
  have pb : (pp : Int) < 64 := by have := OK.out.pt; have := OK.out.P64; omega
  have ew : IntKind.i64.wrap ((pp : Int) + 1) = (pp : Int) + 1 := i64_in (by omega) (by omega)
  have TU := hide (takeUp_x L4.out.at_ (R := R) OK.out.rw_ OK.out.R16.1 (pp + 1) (by rw [hpp]; show v.part + 1 ≤ v.rows.length; have := OK.out.pt; omega))
  clear hpp pb
  go_wp2_with fail
  refine Calls.mono TU.out ?_
  rintro e W5 ⟨u, Z5, rfl, o5, l5⟩
  have O5 := hide o5
  have L5 := hide l5
  clear o5 l5 TU c7 ew
  go_wp2_with fail
  go_ret
  refine ⟨_, Z5, rfl, ?_, ?_⟩
  · rw [← HPP.out]
    exact own_base O5.out L4.out.kp.size
  · rw [← HPP.out]
    exact L4.out.trans L5.out
end Go.Proofs.Ytbmhllcbkeblfaa.Cn
