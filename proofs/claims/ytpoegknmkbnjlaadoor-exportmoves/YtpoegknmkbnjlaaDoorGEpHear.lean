import Derived.Test.YtpoegknmkbnjlaaDoorGEpLeave
namespace Go.Proofs.YtpoegknmkbnjlaaDoor.Cn
open Go.RowKit
set_option maxHeartbeats 16000000 in
set_option maxRecDepth 100000 in
set_option linter.unusedSimpArgs false in
set_option linter.unusedVariables false in
theorem clone_x (s : ByteArray) (hs : s.size ≤ 281474976710656) (w : World) :
    Calls Tryd.prog 68 #[.string s] w fun e w' => e = .returned (.string s) ∧ Kp w w' non := by
  have CL := hide (Tryd.stringslite_Clone s w (by omega))
  go_enter Tryd.func68, Tryd.ntmps68
  go_wp2_with fail
  refine Calls.mono CL.out ?_
  rintro e W1 ⟨rfl, b1⟩
  have B1 := hide b1
  clear b1
  go_wp2_with fail
  go_ret
  exact ⟨rfl, Kp.of_below B1.out non⟩
/-- what hear asks of an exporter -/
structure Hok (v : Ex) (R : Nat) : Prop where
  rw_ : ∀ r ∈ v.rows, r.length = R
  R16 : 1 ≤ R ∧ R ≤ 16
  P64 : v.rows.length ≤ 64
  pt : v.part < v.rows.length
  lf : v.left < R
  rl : v.rd.length ≤ 512
  ps : v.told.ps.length ≤ 40000
  ms : v.told.ms.length ≤ 1000
set_option maxHeartbeats 16000000 in
set_option maxRecDepth 100000 in
set_option linter.unusedSimpArgs false in
set_option linter.unusedVariables false in
theorem hear_lv {w : World} {X : Nat} {v : Ex} {Z : Zz} (h : ExAt w X v Z) {R : Nat} (ok : Hok v R) (m : Mg) (h1 : m.code ≠ 16) (h2 : ¬ (m.code = 0 ∧ v.rd.length < 512)) :
    Calls Tryd.prog 51 #[.pointer (some ⟨X, 0, none⟩), .agg (mgV m)] w fun e w' => ∃ u Z', e = .returned u ∧ Out w w' u (lvL v) ∧ Lv w w' X Z (lvX v) Z' := by
  obtain ⟨B, hB⟩ : ∃ B, B = w.heap.size := ⟨_, rfl⟩
  obtain ⟨W0, hW0⟩ : ∃ W0, W0 = w.alloc (.cells (mgV m) 36) := ⟨_, rfl⟩
  have k0 : Kp w W0 non := by rw [hW0]; exact (Kp.refl w non).alloc _
  have M0 : Hid (MgAt W0 B m) := by rw [hW0, hB]; exact MgAt.new w m
  have L0 : Hid (Lv w W0 X Z v Z) := Lv.same h k0
  have cm8 : W0.cell? ⟨B, 8, none⟩ = some (.int .i64 m.code) := M0.out.cells.2.2.2.2.2.2.2.2.1
  have OK := hide ok
  obtain ⟨da, dc, hda⟩ := own_sl h.ow.rd
  have c9 : W0.cell? ⟨X, 9, none⟩ = some (.slice da v.rd.length dc) := by rw [← hda]; exact (ex_cells L0.out.at_.blk).2.2.2.2.2.2.2.2.2.1
  have LVE := hide (leave_x L0.out.at_ ok.rw_ ok.pt ok.lf ok.R16.2 ok.P64 ok.rl ok.ms)
  obtain ⟨dn, hdn⟩ : ∃ dn, dn = v.rd.length := ⟨_, rfl⟩
  rw [← hdn] at c9 h2
  have q1 : (m.code == 16) = false := by simpa using h1
  have HQ : Hid (m.code = 0 → ¬ dn < 512) := fun e q => h2 ⟨e, q⟩
  clear h k0 ok hda hdn h1 h2
  go_enter Tryd.func51, Tryd.ntmps51
  go_upto_region 1 with fail
  rw [← hW0, ← hB]
  clear hW0 hB
  go_upto_region 5 with fail
  by_cases z : m.code = 0
  · have q2 : (m.code == 0) = true := by simpa using z
    have q3 : ¬ (dn : Int) < 512 := by have := HQ.out z; omega
    have q4 : decide ((dn : Int) < 512) = false := decide_eq_false q3
    have q5 : decide (dn < 512) = false := decide_eq_false (HQ.out z)
    clear z
    go_wp2_with fail
    refine Calls.mono LVE.out ?_
    rintro e W4 ⟨u, Z4, rfl, o4, l4⟩
    have O4 := hide o4
    have L4 := hide l4
    clear o4 l4 LVE
    go_wp2_with fail
    go_ret
    exact ⟨_, Z4, rfl, own_base O4.out L0.out.kp.size, L0.out.trans L4.out⟩
  · have q2 : (m.code == 0) = false := by simpa using z
    go_wp2_with fail
    refine Calls.mono LVE.out ?_
    rintro e W4 ⟨u, Z4, rfl, o4, l4⟩
    have O4 := hide o4
    have L4 := hide l4
    clear o4 l4 LVE
    go_wp2_with fail
    go_ret
    exact ⟨_, Z4, rfl, own_base O4.out L0.out.kp.size, L0.out.trans L4.out⟩
set_option maxHeartbeats 16000000 in
set_option maxRecDepth 100000 in
set_option linter.unusedSimpArgs false in
set_option linter.unusedVariables false in
theorem hear_end {w : World} {X : Nat} {v : Ex} {Z : Zz} (h : ExAt w X v Z) {R : Nat} (ok : Hok v R) (m : Mg) (h1 : m.code = 16) :
    Calls Tryd.prog 51 #[.pointer (some ⟨X, 0, none⟩), .agg (mgV m)] w fun e w' => ∃ u Z', e = .returned u ∧ Out w w' u (upL (doneX v) (v.part + 1)) ∧ Lv w w' X Z (upX (doneX v) (v.part + 1)) Z' := by
  obtain ⟨B, hB⟩ : ∃ B, B = w.heap.size := ⟨_, rfl⟩
  obtain ⟨W0, hW0⟩ : ∃ W0, W0 = w.alloc (.cells (mgV m) 36) := ⟨_, rfl⟩
  have k0 : Kp w W0 non := by rw [hW0]; exact (Kp.refl w non).alloc _
  have M0 : Hid (MgAt W0 B m) := by rw [hW0, hB]; exact MgAt.new w m
  have L0 : Hid (Lv w W0 X Z v Z) := Lv.same h k0
  have cm8 : W0.cell? ⟨B, 8, none⟩ = some (.int .i64 m.code) := M0.out.cells.2.2.2.2.2.2.2.2.1
  have OK := hide ok
  obtain ⟨ta, tc, hta⟩ := own_sl h.ow.tp
  obtain ⟨da, dc, hda⟩ := own_sl h.ow.rd
  have C5 : Hid (W0.cell? ⟨X, 9, none⟩ = some (.slice da v.rd.length dc)) := by rw [← hda]; exact (ex_cells L0.out.at_.blk).2.2.2.2.2.2.2.2.2.1
  have c5 : W0.cell? ⟨X, 5, none⟩ = some (.slice ta v.told.ps.length tc) := by rw [← hta]; exact (ex_cells L0.out.at_.blk).2.2.2.2.2.1
  have T1 : Hid (W0.drew.ownsRow 0 89 2 (.slice ta v.told.ps.length tc) v.told.ps.length (prs v.told.ps)) := by
    have := L0.out.at_.ow.tp
    rw [hta] at this
    exact this
  have T2 : Hid (W0.drew.ownsRow 0 89 2 (.slice da v.rd.length dc) v.rd.length (prs v.rd)) := by
    have := L0.out.at_.ow.rd
    rw [hda] at this
    exact this
  obtain ⟨tn, htn⟩ : ∃ tn, tn = v.told.ps.length := ⟨_, rfl⟩
  obtain ⟨dn, hdn⟩ : ∃ dn, dn = v.rd.length := ⟨_, rfl⟩
  have BD : Hid (tn ≤ 40000 ∧ dn ≤ 512) := ⟨by rw [htn]; exact ok.ps, by rw [hdn]; exact ok.rl⟩
  have A0 : ExAt W0.drew X v Z := L0.out.at_.kp0 ((Kp.refl W0 non).drew)
  have FIN : Hid (∀ na nc (w' : World), w'.ownsRow 0 89 2 (.slice na (tn + dn) nc) (tn + dn) (prs v.told.ps ++ prs v.rd) → W0.drew.grownBy w' (Value.slice ta tn tc).ownBlock → ((Value.slice na (tn + dn) nc).ownBlock = (Value.slice ta tn tc).ownBlock ∨ (Value.slice na (tn + dn) nc).ownBlock = some W0.drew.heap.size) → w'.cell? ⟨X, 9, none⟩ = some (.slice da dn dc) ∧ w'.frozen? ⟨X, 5, none⟩ = false ∧ w'.cell? ⟨X, 5, none⟩ = some (.slice ta tn tc) ∧ Lv w (w'.setCell ⟨X, 5, none⟩ (.slice na (tn + dn) nc)) X Z (doneX v) { Z with tp := .slice na (tn + dn) nc }) := fun na nc w' o3 g3 n3 => by
    have eT : Z.tp = .slice ta tn tc := by rw [hta, htn]
    rw [← eT] at g3 n3 ⊢
    rw [← prs_append] at o3
    rw [htn, hdn] at o3 n3 ⊢
    obtain ⟨b, l⟩ := Ow.done A0 _ o3 g3 n3
    refine ⟨?_, fz_row b 5, (ex_cells b).2.2.2.2.2.1, (L0.out.trans (Lv.same L0.out.at_ ((Kp.refl W0 non).drew))).trans l⟩
    rw [← hda]
    exact (ex_cells b).2.2.2.2.2.2.2.2.2.1
  rw [← htn] at c5 T1
  rw [← hdn] at C5 T2
  have PT : Hid (∀ (Y : World) (v' : Ex) (Z' : Zz), Y.heap[X]? = some (.cells (exA v' Z') 70) → Y.cell? ⟨X, 9, none⟩ = some Z'.rd ∧ Y.cell? ⟨X, 7, none⟩ = some (.int .i64 (v'.part : Int))) := fun Y v' Z' hY => ⟨(ex_cells hY).2.2.2.2.2.2.2.2.2.1, (ex_cells hY).2.2.2.2.2.2.2.1⟩
  have RDZ : Hid (Z.rd = .slice da dn dc) := by rw [hda, hdn]; rfl
  have q1 : (m.code == 16) = true := by simpa using h1
  clear h k0 ok hda hta htn hdn h1 A0
  go_enter Tryd.func51, Tryd.ntmps51
  go_upto_region 1 with fail
  rw [← hW0, ← hB]
  clear hW0 hB
  go_upto_region 3 with fail
  clear cm8
  refine wp_region_held_drew (S := fun Y => Y.cell? ⟨X, 9, none⟩ = some (.slice da dn dc)) (by kernel_rfl) C5.out (fun hHeld => ?_)
  refine wTk (i := 0) (v := (.pointer (some ⟨X, 3, none⟩))) rfl ?_ ?_
  · intro w' hSw
    (try dsimp only at hSw)
    go_simp
  (try simp only [Act.put, List.getElem_toArray, List.getElem_cons_zero, List.getElem_cons_succ, List.setIfInBounds_toArray, List.set_cons_zero, List.set_cons_succ])
  refine wTk (i := 1) (v := (.pointer (some ⟨X, 3, none⟩))) rfl ?_ ?_
  · intro w' hSw
    (try dsimp only at hSw)
    go_simp
  (try simp only [Act.put, List.getElem_toArray, List.getElem_cons_zero, List.getElem_cons_succ, List.setIfInBounds_toArray, List.set_cons_zero, List.set_cons_succ])
  refine wTk (i := 2) (v := (.pointer (some ⟨X, 3, none⟩))) rfl ?_ ?_
  · intro w' hSw
    (try dsimp only at hSw)
    go_simp
  (try simp only [Act.put, List.getElem_toArray, List.getElem_cons_zero, List.getElem_cons_succ, List.setIfInBounds_toArray, List.set_cons_zero, List.set_cons_succ])
  refine wTk (i := 3) (v := (.pointer (some ⟨X, 3, none⟩))) rfl ?_ ?_
  · intro w' hSw
    (try dsimp only at hSw)
    go_simp
  (try simp only [Act.put, List.getElem_toArray, List.getElem_cons_zero, List.getElem_cons_succ, List.setIfInBounds_toArray, List.set_cons_zero, List.set_cons_succ])
  refine wTk (i := 4) (v := (.pointer (some ⟨X, 5, none⟩))) rfl ?_ ?_
  · intro w' hSw
    (try dsimp only at hSw)
    go_simp
  (try simp only [Act.put, List.getElem_toArray, List.getElem_cons_zero, List.getElem_cons_succ, List.setIfInBounds_toArray, List.set_cons_zero, List.set_cons_succ])
  refine wTk (i := 6) (v := (.pointer (some ⟨X, 3, none⟩))) rfl ?_ ?_
  · intro w' hSw
    (try dsimp only at hSw)
    go_simp
  (try simp only [Act.put, List.getElem_toArray, List.getElem_cons_zero, List.getElem_cons_succ, List.setIfInBounds_toArray, List.set_cons_zero, List.set_cons_succ])
  refine wTk (i := 7) (v := (.pointer (some ⟨X, 3, none⟩))) rfl ?_ ?_
  · intro w' hSw
    (try dsimp only at hSw)
    go_simp
  (try simp only [Act.put, List.getElem_toArray, List.getElem_cons_zero, List.getElem_cons_succ, List.setIfInBounds_toArray, List.set_cons_zero, List.set_cons_succ])
  refine wTk (i := 8) (v := (.pointer (some ⟨X, 9, none⟩))) rfl ?_ ?_
  · intro w' hSw
    (try dsimp only at hSw)
    go_simp
  (try simp only [Act.put, List.getElem_toArray, List.getElem_cons_zero, List.getElem_cons_succ, List.setIfInBounds_toArray, List.set_cons_zero, List.set_cons_succ])
  refine wTk (i := 9) (v := (.slice da dn dc)) rfl ?_ ?_
  · intro w' hSw
    (try dsimp only at hSw)
    (have z := hSw; go_simp)
  (try simp only [Act.put, List.getElem_toArray, List.getElem_cons_zero, List.getElem_cons_succ, List.setIfInBounds_toArray, List.set_cons_zero, List.set_cons_succ])
  refine wpAnyH_ready (rs := [5]) (by kernel_rfl) (by simp) ?_
  refine AllReadyH.cons rfl (fun K hK => ?_) AllReadyH.nil
  go_simp
  refine hK.out _ _ (C5.out) (fun hHeld => ?_)
  clear hK
  (try simp only [Act.put, List.setIfInBounds_toArray, List.set_cons_zero, List.set_cons_succ])
  refine wpAnyH_ready (rs := [10]) (by kernel_rfl) (by simp) ?_
  refine AllReadyH.cons rfl (fun K hK => ?_) AllReadyH.nil
  refine wp_apRow (.tmp 18) (.tmp 22) 55 rfl 0 89 Tryd.underlying55 pr_infos rfl (by decide) (.slice ta tn tc) tn (prs v.told.ps) rfl T1.out 0 (.slice da dn dc) dn (prs v.rd) rfl T2.out (prs_oneCell _) (by unfold maxLen; have := BD.out; omega) (by have := BD.out; omega) (Nat.zero_le _) ?_
  intro v' w' o3 g3 n3
  obtain ⟨na, nc, rfl⟩ := own_sl o3
  obtain ⟨c9, f5, c5', L4⟩ := FIN.out _ _ w' o3 g3 n3
  have D3 := hide c9
  have L4 := hide L4
  obtain ⟨W4, hW4⟩ : ∃ W4, W4 = w'.setCell ⟨X, 5, none⟩ (.slice na (tn + dn) nc) := ⟨_, rfl⟩
  rw [← hW4] at L4
  have D4 : Hid (W4.cell? ⟨X, 9, none⟩ = some (.slice da dn dc)) := by
    have := (PT.out _ _ _ L4.out.at_.blk).1
    rw [this]
    show _ = _
    rw [RDZ.out]
  clear o3 g3 n3 c9 T1 T2 FIN c5
  refine hK.out _ _ (D3.out) (fun hHeld => ?_)
  clear hK
  (try simp only [Act.put, List.setIfInBounds_toArray, List.set_cons_zero, List.set_cons_succ])
  refine wTk (i := 11) (v := (.pointer (some ⟨X, 3, none⟩))) rfl ?_ ?_
  · intro w' hSw
    (try dsimp only at hSw)
    go_simp
  (try simp only [Act.put, List.getElem_toArray, List.getElem_cons_zero, List.getElem_cons_succ, List.setIfInBounds_toArray, List.set_cons_zero, List.set_cons_succ])
  refine wTk (i := 12) (v := (.pointer (some ⟨X, 3, none⟩))) rfl ?_ ?_
  · intro w' hSw
    (try dsimp only at hSw)
    go_simp
  (try simp only [Act.put, List.getElem_toArray, List.getElem_cons_zero, List.getElem_cons_succ, List.setIfInBounds_toArray, List.set_cons_zero, List.set_cons_succ])
  refine wTk (i := 13) (v := (.pointer (some ⟨X, 5, none⟩))) rfl ?_ ?_
  · intro w' hSw
    (try dsimp only at hSw)
    go_simp
  (try simp only [Act.put, List.getElem_toArray, List.getElem_cons_zero, List.getElem_cons_succ, List.setIfInBounds_toArray, List.set_cons_zero, List.set_cons_succ])
  refine wpAnyH_ready (rs := [14]) (by kernel_rfl) (by simp) ?_
  refine AllReadyH.cons rfl (fun K hK => ?_) AllReadyH.nil
  go_simp
  rw [← hW4]
  clear hW4 c5' f5 D3
  refine hK.out _ _ (D4.out) (fun hHeld => ?_)
  clear hK
  (try simp only [Act.put, List.setIfInBounds_toArray, List.set_cons_zero, List.set_cons_succ])
  refine wpAnyH_done (by kernel_rfl) ?_ _
  clear hHeld
  obtain ⟨pp, hpp⟩ : ∃ pp, pp = v.part := ⟨_, rfl⟩
  have HPP := hide hpp
  have c7 : W4.cell? ⟨X, 7, none⟩ = some (.int .i64 (pp : Int)) := by
    rw [hpp]
    exact (PT.out _ _ _ L4.out.at_.blk).2
  have pb : (pp : Int) < 64 := by have := OK.out.pt; have := OK.out.P64; omega
  have ew : IntKind.i64.wrap ((pp : Int) + 1) = (pp : Int) + 1 := i64_in (by omega) (by omega)
  have TU := hide (takeUp_x L4.out.at_ (R := R) OK.out.rw_ OK.out.R16.1 (pp + 1) (by rw [hpp]; show v.part + 1 ≤ v.rows.length; have := OK.out.pt; omega))
  clear hpp pb
  go_wp2_with fail
  refine Calls.mono TU.out ?_
  rintro e W5 ⟨u, Z5, rfl, o5, l5⟩
  have O5 := hide o5
  have L5 := hide l5
  clear o5 l5 TU c7 ew
  go_wp2_with fail
  go_ret
  refine ⟨_, Z5, rfl, ?_, ?_⟩
  · rw [← HPP.out]
    exact own_base O5.out L4.out.kp.size
  · rw [← HPP.out]
    exact L4.out.trans L5.out
end Go.Proofs.YtpoegknmkbnjlaaDoor.Cn
namespace Go.Proofs.YtpoegknmkbnjlaaDoor.Cn
open Go.RowKit
theorem fill_pr (p : Pr) : Instr.fill (fun i => some (i * 2, 2)) ((Array.range (1 * 2)).map ((Value.agg (prV ⟨⟨#[]⟩, ⟨#[]⟩⟩)).cells[· % (Value.agg (prV ⟨⟨#[]⟩, ⟨#[]⟩⟩)).cells.size]!)) [(0, .agg (prV p))] = some (prV p) := by kernel_rfl
theorem wp_bsP {w : World} {o : Oper} {a : Act} {K : Act → World → Prop} {Q : Exit → Act → World → Prop} (x : Operand) (ho : o.op = .buildSlice 55 1 #[(0, x)]) (p : Pr) (hx : a.eval x = .agg (prV p))
    (h : K (a.put o.dst (.slice (some ⟨w.heap.size, 0, none⟩) 1 1)) (w.alloc (.cells (prV p) 89))) : o.wp Tryd.prog a w K Q := by
  obtain ⟨i0, hi, hz0, hz1, hz2⟩ := info_parts pr_infos
  refine wp_buildSlice 55 89 1 _ ho (prV p) i0 _ Tryd.underlying55 hi hz0 (by rw [hz1]; decide) (by rw [hz1]; decide) ?_ h
  rw [hz1]
  simp only [List.map_toArray, List.map_cons, List.map_nil, hx]
  exact fill_pr p
set_option maxHeartbeats 16000000 in
set_option maxRecDepth 100000 in
set_option linter.unusedSimpArgs false in
set_option linter.unusedVariables false in
theorem hear_read {w : World} {X : Nat} {v : Ex} {Z : Zz} (h : ExAt w X v Z) {R : Nat} (ok : Hok v R) (m : Mg) (h1 : m.code = 0) (h2 : v.rd.length < 512) (hk : m.key.size ≤ 281474976710656) (hv : m.val.size ≤ 281474976710656) :
    Calls Tryd.prog 51 #[.pointer (some ⟨X, 0, none⟩), .agg (mgV m)] w fun e w' => ∃ u Z', e = .returned u ∧ Out w w' u ([askM (readX v m)]) ∧ Lv w w' X Z (askX (readX v m)) Z' := by
  obtain ⟨B, hB⟩ : ∃ B, B = w.heap.size := ⟨_, rfl⟩
  obtain ⟨W0, hW0⟩ : ∃ W0, W0 = w.alloc (.cells (mgV m) 36) := ⟨_, rfl⟩
  have k0 : Kp w W0 non := by rw [hW0]; exact (Kp.refl w non).alloc _
  have M0 : Hid (MgAt W0 B m) := by rw [hW0, hB]; exact MgAt.new w m
  have L0 : Hid (Lv w W0 X Z v Z) := Lv.same h k0
  have cm8 : W0.cell? ⟨B, 8, none⟩ = some (.int .i64 m.code) := M0.out.cells.2.2.2.2.2.2.2.2.1
  have OK := hide ok
  obtain ⟨da, dc, hda⟩ := own_sl h.ow.rd
  obtain ⟨dn, hdn⟩ : ∃ dn, dn = v.rd.length := ⟨_, rfl⟩
  have BD : Hid (dn < 512) := by rw [hdn]; exact h2
  have c9' : W0.cell? ⟨X, 9, none⟩ = some (.slice da dn dc) := by rw [hdn, ← hda]; exact (ex_cells L0.out.at_.blk).2.2.2.2.2.2.2.2.2.1
  have C9 : Hid (W0.cell? ⟨X, 9, none⟩ = some (.slice da dn dc)) := c9'
  have AK : Hid (∀ Y : World, Kp W0.drew Y non → Y.cell? ⟨X, 9, none⟩ = some (.slice da dn dc) ∧ MgAt Y B m ∧ Y.ownsRow 0 89 2 (.slice da dn dc) dn (prs v.rd)) := fun Y hk' => ⟨hk'.cell0 c9', M0.out.keep (((Kp.refl W0 non).drew).trans hk' (fun _ f => f.elim)) (fun f => f), by
    have := own_kp (L0.out.at_.ow.rd) (((Kp.refl W0 non).drew).trans hk' (fun _ f => f.elim)) (fun _ _ f => f)
    rw [hda, ← hdn] at this
    exact this⟩
  have FIN : Hid (∀ (Y : World) na nc (w' : World), Kp W0.drew Y non → w'.ownsRow 0 89 2 (.slice na (dn + 1) nc) (dn + 1) (prs v.rd ++ (prV ⟨m.key, m.val⟩).toList) → Y.grownBy w' (Value.slice da dn dc).ownBlock → ((Value.slice na (dn + 1) nc).ownBlock = (Value.slice da dn dc).ownBlock ∨ (Value.slice na (dn + 1) nc).ownBlock = some Y.heap.size) → MgAt w' B m ∧ w'.frozen? ⟨X, 9, none⟩ = false ∧ w'.cell? ⟨X, 9, none⟩ = some (.slice da dn dc) ∧ Lv w (w'.setCell ⟨X, 9, none⟩ (.slice na (dn + 1) nc)) X Z (readX v m) { Z with rd := .slice na (dn + 1) nc } ∧ MgAt (w'.setCell ⟨X, 9, none⟩ (.slice na (dn + 1) nc)) B m) := fun Y na nc w' hk' o3 g3 n3 => by
    have kY : Kp W0 Y non := ((Kp.refl W0 non).drew).trans hk' (fun _ f => f.elim)
    have A0 : ExAt Y X v Z := L0.out.at_.kp0 kY
    have mY : MgAt Y B m := M0.out.keep kY (fun f => f)
    have eT : Z.rd = .slice da dn dc := by rw [hda, hdn]
    have nB : ∀ k, some k = Z.rd.ownBlock → k ≠ B := fun k e q => by
      obtain ⟨c, hc⟩ := own_typ A0.ow.rd e.symm
      rw [q, mY] at hc
      simp at hc
    have nX : X ≠ B := fun q => by
      have := A0.blk
      rw [q, mY] at this
      simp at this
    rw [← eT] at g3 n3 ⊢
    rw [← prs_one, ← prs_append] at o3
    rw [hdn] at o3 n3 ⊢
    obtain ⟨b, l⟩ := Ow.read A0 m _ o3 g3 n3
    have m3 : MgAt w' B m := mY.keep (Kp.of_grown g3) (fun e => nB B e rfl)
    exact ⟨m3, fz_row b 9, (ex_cells b).2.2.2.2.2.2.2.2.2.1, (L0.out.trans (Lv.same L0.out.at_ kY)).trans l, m3.keep ((Kp.refl w' (fun k => k = X)).set (Or.inl rfl) _ _) (fun e => nX e.symm)⟩
  have C1 := hide (fun Y : World => clone_x m.key hk Y)
  have C2 := hide (fun Y : World => clone_x m.val hv Y)
  have M0' : Hid (MgAt W0.drew B m) := M0.out
  have q0 : (m.code == 16) = false := by rw [h1]; rfl
  have q2 : (m.code == 0) = true := by simpa using h1
  have q3 : (dn : Int) < 512 := by omega
  have q4 : decide ((dn : Int) < 512) = true := decide_eq_true q3
  have q5 : decide (dn < 512) = true := decide_eq_true BD.out
  have HRL : Hid (v.rd.length + 1 ≤ 512) := h2
  clear h k0 ok hda hdn h1 h2 hk hv
  go_enter Tryd.func51, Tryd.ntmps51
  go_upto_region 1 with fail
  rw [← hW0, ← hB]
  clear hW0 hB
  go_upto_region 6 with fail
  clear cm8 c9' q0 q2 q3 q4 q5
  refine wp_region_held_drew (S := fun Y => MgAt Y B m) (by kernel_rfl) M0.out (fun hHeld => ?_)
  refine wTk (i := 0) (v := (.pointer (some ⟨X, 3, none⟩))) rfl ?_ ?_
  · intro w' hSw
    (try dsimp only at hSw)
    go_simp
  (try simp only [Act.put, List.getElem_toArray, List.getElem_cons_zero, List.getElem_cons_succ, List.setIfInBounds_toArray, List.set_cons_zero, List.set_cons_succ])
  refine wTk (i := 1) (v := (.pointer (some ⟨X, 3, none⟩))) rfl ?_ ?_
  · intro w' hSw
    (try dsimp only at hSw)
    go_simp
  (try simp only [Act.put, List.getElem_toArray, List.getElem_cons_zero, List.getElem_cons_succ, List.setIfInBounds_toArray, List.set_cons_zero, List.set_cons_succ])
  refine wTk (i := 2) (v := (.pointer (some ⟨X, 3, none⟩))) rfl ?_ ?_
  · intro w' hSw
    (try dsimp only at hSw)
    go_simp
  (try simp only [Act.put, List.getElem_toArray, List.getElem_cons_zero, List.getElem_cons_succ, List.setIfInBounds_toArray, List.set_cons_zero, List.set_cons_succ])
  refine wTk (i := 3) (v := (.pointer (some ⟨X, 9, none⟩))) rfl ?_ ?_
  · intro w' hSw
    (try dsimp only at hSw)
    go_simp
  (try simp only [Act.put, List.getElem_toArray, List.getElem_cons_zero, List.getElem_cons_succ, List.setIfInBounds_toArray, List.set_cons_zero, List.set_cons_succ])
  refine wTk (i := 5) (v := (.pointer (some ⟨B, 9, none⟩))) rfl ?_ ?_
  · intro w' hSw
    (try dsimp only at hSw)
    go_simp
  (try simp only [Act.put, List.getElem_toArray, List.getElem_cons_zero, List.getElem_cons_succ, List.setIfInBounds_toArray, List.set_cons_zero, List.set_cons_succ])
  refine wTk (i := 6) (v := (.string m.key)) rfl ?_ ?_
  · intro w' hSw
    (try dsimp only at hSw)
    (have z := hSw.cells.2.2.2.2.2.2.2.2.2.1; go_simp)
  (try simp only [Act.put, List.getElem_toArray, List.getElem_cons_zero, List.getElem_cons_succ, List.setIfInBounds_toArray, List.set_cons_zero, List.set_cons_succ])
  refine wTk (i := 8) (v := (.pointer (some ⟨B, 10, none⟩))) rfl ?_ ?_
  · intro w' hSw
    (try dsimp only at hSw)
    go_simp
  (try simp only [Act.put, List.getElem_toArray, List.getElem_cons_zero, List.getElem_cons_succ, List.setIfInBounds_toArray, List.set_cons_zero, List.set_cons_succ])
  refine wTk (i := 9) (v := (.string m.val)) rfl ?_ ?_
  · intro w' hSw
    (try dsimp only at hSw)
    (have z := hSw.cells.2.2.2.2.2.2.2.2.2.2; go_simp)
  (try simp only [Act.put, List.getElem_toArray, List.getElem_cons_zero, List.getElem_cons_succ, List.setIfInBounds_toArray, List.set_cons_zero, List.set_cons_succ])
  refine wpAnyH_ready (rs := [4, 7]) (by kernel_rfl) (by simp) ?_
  refine AllReadyH.cons rfl (fun K hK => ?_) (AllReadyH.cons rfl (fun K hK => ?_) AllReadyH.nil)
  · have c9 := (AK.out W0.drew (Kp.refl W0.drew non)).1
    have c9x : W0.cell? ⟨X, 9, none⟩ = some (.slice da dn dc) := C9.out
    go_simp
    clear c9
    clear c9x
    refine hK.out _ _ ((AK.out W0.drew (Kp.refl W0.drew non)).2.1) (fun hHeld => ?_)
    clear hK
    (try simp only [Act.put, List.setIfInBounds_toArray, List.set_cons_zero, List.set_cons_succ])
    refine wpAnyH_ready (rs := [7]) (by kernel_rfl) (by simp) ?_
    refine AllReadyH.cons rfl (fun K hK => ?_) AllReadyH.nil
    go_simp
    refine Calls.mono (C1.out _) ?_
    rintro e Y2 ⟨rfl, k2⟩
    have K2 : Hid (Kp W0.drew Y2 non) := ((Kp.refl W0.drew non)).trans k2 (fun _ f => f.elim)
    clear k2
    refine hK.out _ _ ((AK.out Y2 K2.out).2.1) (fun hHeld => ?_)
    clear hK
    (try simp only [Act.put, List.setIfInBounds_toArray, List.set_cons_zero, List.set_cons_succ])
    refine wpAnyH_ready (rs := [10]) (by kernel_rfl) (by simp) ?_
    refine AllReadyH.cons rfl (fun K hK => ?_) AllReadyH.nil
    go_simp
    refine Calls.mono (C2.out _) ?_
    rintro e Y3 ⟨rfl, k3⟩
    have K3 : Hid (Kp W0.drew Y3 non) := (K2.out).trans k3 (fun _ f => f.elim)
    clear k3
    refine hK.out _ _ ((AK.out Y3 K3.out).2.1) (fun hHeld => ?_)
    clear hK
    (try simp only [Act.put, List.setIfInBounds_toArray, List.set_cons_zero, List.set_cons_succ])
    refine wTk (i := 11) (v := (.agg (prV ⟨m.key, m.val⟩))) rfl ?_ ?_
    · intro w' hSw
      (try dsimp only at hSw)
      (unfold prV; go_simp)
    (try simp only [Act.put, List.getElem_toArray, List.getElem_cons_zero, List.getElem_cons_succ, List.setIfInBounds_toArray, List.set_cons_zero, List.set_cons_succ])
    refine wpAnyH_ready (rs := [12]) (by kernel_rfl) (by simp) ?_
    refine AllReadyH.cons rfl (fun K hK => ?_) AllReadyH.nil
    refine wp_bsP (.tmp 57) rfl ⟨m.key, m.val⟩ rfl ?_
    obtain ⟨Y4, hY4⟩ : ∃ Y, Y = Y3.alloc (.cells (prV ⟨m.key, m.val⟩) 89) := ⟨_, rfl⟩
    have N2 : Hid (Y4.ownsRow Y3.heap.size 89 2 (.slice (some ⟨Y3.heap.size, 0, none⟩) 1 1) 1 (prV ⟨m.key, m.val⟩).toList) := by rw [hY4]; exact own_one _ _ _ _ rfl
    have K4 : Hid (Kp W0.drew Y4 non) := by rw [hY4]; exact (K3.out).alloc _
    rw [← hY4]
    have HBX : Hid (Y3.heap.size = Y3.heap.size) := rfl
    generalize Y3.heap.size = GB at *
    clear hY4 HBX
    refine hK.out _ _ ((AK.out Y4 K4.out).2.1) (fun hHeld => ?_)
    clear hK
    (try simp only [Act.put, List.setIfInBounds_toArray, List.set_cons_zero, List.set_cons_succ])
    refine wpAnyH_ready (rs := [13]) (by kernel_rfl) (by simp) ?_
    refine AllReadyH.cons rfl (fun K hK => ?_) AllReadyH.nil
    refine wp_apRow (.tmp 50) (.tmp 58) 55 rfl 0 89 Tryd.underlying55 pr_infos rfl (by decide) (.slice da dn dc) dn (prs v.rd) rfl (AK.out Y4 K4.out).2.2 GB (.slice (some ⟨GB, 0, none⟩) 1 1) 1 (prV ⟨m.key, m.val⟩).toList rfl N2.out (by simp [prV, Value.oneCell']) (by unfold maxLen; have := BD.out; omega) (by have := BD.out; omega) (Nat.zero_le _) ?_
    intro v' w' o3 g3 n3
    obtain ⟨na, nc, rfl⟩ := own_sl o3
    obtain ⟨m3, f9, c9, L4, m4⟩ := FIN.out Y4 _ _ w' K4.out o3 g3 n3
    have D3 := hide m3
    have L4 := hide L4
    obtain ⟨W4, hW4⟩ : ∃ W4, W4 = w'.setCell ⟨X, 9, none⟩ (.slice na (dn + 1) nc) := ⟨_, rfl⟩
    rw [← hW4] at L4 m4
    have D4 := hide m4
    clear o3 g3 n3 m3 m4 FIN AK N2 C9
    refine hK.out _ _ (D3.out) (fun hHeld => ?_)
    clear hK
    (try simp only [Act.put, List.setIfInBounds_toArray, List.set_cons_zero, List.set_cons_succ])
    refine wTk (i := 14) (v := (.pointer (some ⟨X, 3, none⟩))) rfl ?_ ?_
    · intro w' hSw
      (try dsimp only at hSw)
      go_simp
    (try simp only [Act.put, List.getElem_toArray, List.getElem_cons_zero, List.getElem_cons_succ, List.setIfInBounds_toArray, List.set_cons_zero, List.set_cons_succ])
    refine wTk (i := 15) (v := (.pointer (some ⟨X, 9, none⟩))) rfl ?_ ?_
    · intro w' hSw
      (try dsimp only at hSw)
      go_simp
    (try simp only [Act.put, List.getElem_toArray, List.getElem_cons_zero, List.getElem_cons_succ, List.setIfInBounds_toArray, List.set_cons_zero, List.set_cons_succ])
    refine wpAnyH_ready (rs := [16]) (by kernel_rfl) (by simp) ?_
    refine AllReadyH.cons rfl (fun K hK => ?_) AllReadyH.nil
    go_simp
    rw [← hW4]
    clear hW4 c9 f9 D3
    refine hK.out _ _ (D4.out) (fun hHeld => ?_)
    clear hK
    (try simp only [Act.put, List.setIfInBounds_toArray, List.set_cons_zero, List.set_cons_succ])
    refine wpAnyH_done (by kernel_rfl) ?_ _
    clear hHeld D4
    have TU := hide (ask_x L4.out.at_ (R := R) OK.out.rw_ OK.out.pt OK.out.lf (by show (v.rd ++ _).length ≤ 512; rw [List.length_append]; exact HRL.out))
    go_wp2_with fail
    refine Calls.mono TU.out ?_
    rintro e W5 ⟨u, rfl, o5, l5⟩
    have O5 := hide o5
    have L5 := hide l5
    clear o5 l5 TU
    go_wp2_with fail
    go_ret
    exact ⟨_, _, rfl, own_base O5.out L4.out.kp.size, L4.out.trans L5.out⟩
  · go_simp
    refine Calls.mono (C1.out _) ?_
    rintro e Y1 ⟨rfl, k1⟩
    have K1 : Hid (Kp W0.drew Y1 non) := ((Kp.refl W0.drew non)).trans k1 (fun _ f => f.elim)
    clear k1
    refine hK.out _ _ ((AK.out Y1 K1.out).2.1) (fun hHeld => ?_)
    clear hK
    (try simp only [Act.put, List.setIfInBounds_toArray, List.set_cons_zero, List.set_cons_succ])
    refine wpAnyH_ready (rs := [4, 10]) (by kernel_rfl) (by simp) ?_
    refine AllReadyH.cons rfl (fun K hK => ?_) (AllReadyH.cons rfl (fun K hK => ?_) AllReadyH.nil)
    · have c9 := (AK.out Y1 K1.out).1
      go_simp
      clear c9
      refine hK.out _ _ ((AK.out Y1 K1.out).2.1) (fun hHeld => ?_)
      clear hK
      (try simp only [Act.put, List.setIfInBounds_toArray, List.set_cons_zero, List.set_cons_succ])
      refine wpAnyH_ready (rs := [10]) (by kernel_rfl) (by simp) ?_
      refine AllReadyH.cons rfl (fun K hK => ?_) AllReadyH.nil
      go_simp
      refine Calls.mono (C2.out _) ?_
      rintro e Y3 ⟨rfl, k3⟩
      have K3 : Hid (Kp W0.drew Y3 non) := (K1.out).trans k3 (fun _ f => f.elim)
      clear k3
      refine hK.out _ _ ((AK.out Y3 K3.out).2.1) (fun hHeld => ?_)
      clear hK
      (try simp only [Act.put, List.setIfInBounds_toArray, List.set_cons_zero, List.set_cons_succ])
      refine wTk (i := 11) (v := (.agg (prV ⟨m.key, m.val⟩))) rfl ?_ ?_
      · intro w' hSw
        (try dsimp only at hSw)
        (unfold prV; go_simp)
      (try simp only [Act.put, List.getElem_toArray, List.getElem_cons_zero, List.getElem_cons_succ, List.setIfInBounds_toArray, List.set_cons_zero, List.set_cons_succ])
      refine wpAnyH_ready (rs := [12]) (by kernel_rfl) (by simp) ?_
      refine AllReadyH.cons rfl (fun K hK => ?_) AllReadyH.nil
      refine wp_bsP (.tmp 57) rfl ⟨m.key, m.val⟩ rfl ?_
      obtain ⟨Y4, hY4⟩ : ∃ Y, Y = Y3.alloc (.cells (prV ⟨m.key, m.val⟩) 89) := ⟨_, rfl⟩
      have N2 : Hid (Y4.ownsRow Y3.heap.size 89 2 (.slice (some ⟨Y3.heap.size, 0, none⟩) 1 1) 1 (prV ⟨m.key, m.val⟩).toList) := by rw [hY4]; exact own_one _ _ _ _ rfl
      have K4 : Hid (Kp W0.drew Y4 non) := by rw [hY4]; exact (K3.out).alloc _
      rw [← hY4]
      have HBX : Hid (Y3.heap.size = Y3.heap.size) := rfl
      generalize Y3.heap.size = GB at *
      clear hY4 HBX
      refine hK.out _ _ ((AK.out Y4 K4.out).2.1) (fun hHeld => ?_)
      clear hK
      (try simp only [Act.put, List.setIfInBounds_toArray, List.set_cons_zero, List.set_cons_succ])
      refine wpAnyH_ready (rs := [13]) (by kernel_rfl) (by simp) ?_
      refine AllReadyH.cons rfl (fun K hK => ?_) AllReadyH.nil
      refine wp_apRow (.tmp 50) (.tmp 58) 55 rfl 0 89 Tryd.underlying55 pr_infos rfl (by decide) (.slice da dn dc) dn (prs v.rd) rfl (AK.out Y4 K4.out).2.2 GB (.slice (some ⟨GB, 0, none⟩) 1 1) 1 (prV ⟨m.key, m.val⟩).toList rfl N2.out (by simp [prV, Value.oneCell']) (by unfold maxLen; have := BD.out; omega) (by have := BD.out; omega) (Nat.zero_le _) ?_
      intro v' w' o3 g3 n3
      obtain ⟨na, nc, rfl⟩ := own_sl o3
      obtain ⟨m3, f9, c9, L4, m4⟩ := FIN.out Y4 _ _ w' K4.out o3 g3 n3
      have D3 := hide m3
      have L4 := hide L4
      obtain ⟨W4, hW4⟩ : ∃ W4, W4 = w'.setCell ⟨X, 9, none⟩ (.slice na (dn + 1) nc) := ⟨_, rfl⟩
      rw [← hW4] at L4 m4
      have D4 := hide m4
      clear o3 g3 n3 m3 m4 FIN AK N2 C9
      refine hK.out _ _ (D3.out) (fun hHeld => ?_)
      clear hK
      (try simp only [Act.put, List.setIfInBounds_toArray, List.set_cons_zero, List.set_cons_succ])
      refine wTk (i := 14) (v := (.pointer (some ⟨X, 3, none⟩))) rfl ?_ ?_
      · intro w' hSw
        (try dsimp only at hSw)
        go_simp
      (try simp only [Act.put, List.getElem_toArray, List.getElem_cons_zero, List.getElem_cons_succ, List.setIfInBounds_toArray, List.set_cons_zero, List.set_cons_succ])
      refine wTk (i := 15) (v := (.pointer (some ⟨X, 9, none⟩))) rfl ?_ ?_
      · intro w' hSw
        (try dsimp only at hSw)
        go_simp
      (try simp only [Act.put, List.getElem_toArray, List.getElem_cons_zero, List.getElem_cons_succ, List.setIfInBounds_toArray, List.set_cons_zero, List.set_cons_succ])
      refine wpAnyH_ready (rs := [16]) (by kernel_rfl) (by simp) ?_
      refine AllReadyH.cons rfl (fun K hK => ?_) AllReadyH.nil
      go_simp
      rw [← hW4]
      clear hW4 c9 f9 D3
      refine hK.out _ _ (D4.out) (fun hHeld => ?_)
      clear hK
      (try simp only [Act.put, List.setIfInBounds_toArray, List.set_cons_zero, List.set_cons_succ])
      refine wpAnyH_done (by kernel_rfl) ?_ _
      clear hHeld D4
      have TU := hide (ask_x L4.out.at_ (R := R) OK.out.rw_ OK.out.pt OK.out.lf (by show (v.rd ++ _).length ≤ 512; rw [List.length_append]; exact HRL.out))
      go_wp2_with fail
      refine Calls.mono TU.out ?_
      rintro e W5 ⟨u, rfl, o5, l5⟩
      have O5 := hide o5
      have L5 := hide l5
      clear o5 l5 TU
      go_wp2_with fail
      go_ret
      exact ⟨_, _, rfl, own_base O5.out L4.out.kp.size, L4.out.trans L5.out⟩
    · go_simp
      refine Calls.mono (C2.out _) ?_
      rintro e Y2 ⟨rfl, k2⟩
      have K2 : Hid (Kp W0.drew Y2 non) := (K1.out).trans k2 (fun _ f => f.elim)
      clear k2
      refine hK.out _ _ ((AK.out Y2 K2.out).2.1) (fun hHeld => ?_)
      clear hK
      (try simp only [Act.put, List.setIfInBounds_toArray, List.set_cons_zero, List.set_cons_succ])
      refine wTk (i := 11) (v := (.agg (prV ⟨m.key, m.val⟩))) rfl ?_ ?_
      · intro w' hSw
        (try dsimp only at hSw)
        (unfold prV; go_simp)
      (try simp only [Act.put, List.getElem_toArray, List.getElem_cons_zero, List.getElem_cons_succ, List.setIfInBounds_toArray, List.set_cons_zero, List.set_cons_succ])
      refine wpAnyH_ready (rs := [4, 12]) (by kernel_rfl) (by simp) ?_
      refine AllReadyH.cons rfl (fun K hK => ?_) (AllReadyH.cons rfl (fun K hK => ?_) AllReadyH.nil)
      · have c9 := (AK.out Y2 K2.out).1
        go_simp
        clear c9
        refine hK.out _ _ ((AK.out Y2 K2.out).2.1) (fun hHeld => ?_)
        clear hK
        (try simp only [Act.put, List.setIfInBounds_toArray, List.set_cons_zero, List.set_cons_succ])
        refine wpAnyH_ready (rs := [12]) (by kernel_rfl) (by simp) ?_
        refine AllReadyH.cons rfl (fun K hK => ?_) AllReadyH.nil
        refine wp_bsP (.tmp 57) rfl ⟨m.key, m.val⟩ rfl ?_
        obtain ⟨Y4, hY4⟩ : ∃ Y, Y = Y2.alloc (.cells (prV ⟨m.key, m.val⟩) 89) := ⟨_, rfl⟩
        have N2 : Hid (Y4.ownsRow Y2.heap.size 89 2 (.slice (some ⟨Y2.heap.size, 0, none⟩) 1 1) 1 (prV ⟨m.key, m.val⟩).toList) := by rw [hY4]; exact own_one _ _ _ _ rfl
        have K4 : Hid (Kp W0.drew Y4 non) := by rw [hY4]; exact (K2.out).alloc _
        rw [← hY4]
        have HBX : Hid (Y2.heap.size = Y2.heap.size) := rfl
        generalize Y2.heap.size = GB at *
        clear hY4 HBX
        refine hK.out _ _ ((AK.out Y4 K4.out).2.1) (fun hHeld => ?_)
        clear hK
        (try simp only [Act.put, List.setIfInBounds_toArray, List.set_cons_zero, List.set_cons_succ])
        refine wpAnyH_ready (rs := [13]) (by kernel_rfl) (by simp) ?_
        refine AllReadyH.cons rfl (fun K hK => ?_) AllReadyH.nil
        refine wp_apRow (.tmp 50) (.tmp 58) 55 rfl 0 89 Tryd.underlying55 pr_infos rfl (by decide) (.slice da dn dc) dn (prs v.rd) rfl (AK.out Y4 K4.out).2.2 GB (.slice (some ⟨GB, 0, none⟩) 1 1) 1 (prV ⟨m.key, m.val⟩).toList rfl N2.out (by simp [prV, Value.oneCell']) (by unfold maxLen; have := BD.out; omega) (by have := BD.out; omega) (Nat.zero_le _) ?_
        intro v' w' o3 g3 n3
        obtain ⟨na, nc, rfl⟩ := own_sl o3
        obtain ⟨m3, f9, c9, L4, m4⟩ := FIN.out Y4 _ _ w' K4.out o3 g3 n3
        have D3 := hide m3
        have L4 := hide L4
        obtain ⟨W4, hW4⟩ : ∃ W4, W4 = w'.setCell ⟨X, 9, none⟩ (.slice na (dn + 1) nc) := ⟨_, rfl⟩
        rw [← hW4] at L4 m4
        have D4 := hide m4
        clear o3 g3 n3 m3 m4 FIN AK N2 C9
        refine hK.out _ _ (D3.out) (fun hHeld => ?_)
        clear hK
        (try simp only [Act.put, List.setIfInBounds_toArray, List.set_cons_zero, List.set_cons_succ])
        refine wTk (i := 14) (v := (.pointer (some ⟨X, 3, none⟩))) rfl ?_ ?_
        · intro w' hSw
          (try dsimp only at hSw)
          go_simp
        (try simp only [Act.put, List.getElem_toArray, List.getElem_cons_zero, List.getElem_cons_succ, List.setIfInBounds_toArray, List.set_cons_zero, List.set_cons_succ])
        refine wTk (i := 15) (v := (.pointer (some ⟨X, 9, none⟩))) rfl ?_ ?_
        · intro w' hSw
          (try dsimp only at hSw)
          go_simp
        (try simp only [Act.put, List.getElem_toArray, List.getElem_cons_zero, List.getElem_cons_succ, List.setIfInBounds_toArray, List.set_cons_zero, List.set_cons_succ])
        refine wpAnyH_ready (rs := [16]) (by kernel_rfl) (by simp) ?_
        refine AllReadyH.cons rfl (fun K hK => ?_) AllReadyH.nil
        go_simp
        rw [← hW4]
        clear hW4 c9 f9 D3
        refine hK.out _ _ (D4.out) (fun hHeld => ?_)
        clear hK
        (try simp only [Act.put, List.setIfInBounds_toArray, List.set_cons_zero, List.set_cons_succ])
        refine wpAnyH_done (by kernel_rfl) ?_ _
        clear hHeld D4
        have TU := hide (ask_x L4.out.at_ (R := R) OK.out.rw_ OK.out.pt OK.out.lf (by show (v.rd ++ _).length ≤ 512; rw [List.length_append]; exact HRL.out))
        go_wp2_with fail
        refine Calls.mono TU.out ?_
        rintro e W5 ⟨u, rfl, o5, l5⟩
        have O5 := hide o5
        have L5 := hide l5
        clear o5 l5 TU
        go_wp2_with fail
        go_ret
        exact ⟨_, _, rfl, own_base O5.out L4.out.kp.size, L4.out.trans L5.out⟩
      · refine wp_bsP (.tmp 57) rfl ⟨m.key, m.val⟩ rfl ?_
        obtain ⟨Y3, hY3⟩ : ∃ Y, Y = Y2.alloc (.cells (prV ⟨m.key, m.val⟩) 89) := ⟨_, rfl⟩
        have N2 : Hid (Y3.ownsRow Y2.heap.size 89 2 (.slice (some ⟨Y2.heap.size, 0, none⟩) 1 1) 1 (prV ⟨m.key, m.val⟩).toList) := by rw [hY3]; exact own_one _ _ _ _ rfl
        have K3 : Hid (Kp W0.drew Y3 non) := by rw [hY3]; exact (K2.out).alloc _
        rw [← hY3]
        have HBX : Hid (Y2.heap.size = Y2.heap.size) := rfl
        generalize Y2.heap.size = GB at *
        clear hY3 HBX
        refine hK.out _ _ ((AK.out Y3 K3.out).2.1) (fun hHeld => ?_)
        clear hK
        (try simp only [Act.put, List.setIfInBounds_toArray, List.set_cons_zero, List.set_cons_succ])
        refine wpAnyH_ready (rs := [4]) (by kernel_rfl) (by simp) ?_
        refine AllReadyH.cons rfl (fun K hK => ?_) AllReadyH.nil
        have c9 := (AK.out Y3 K3.out).1
        go_simp
        clear c9
        refine hK.out _ _ ((AK.out Y3 K3.out).2.1) (fun hHeld => ?_)
        clear hK
        (try simp only [Act.put, List.setIfInBounds_toArray, List.set_cons_zero, List.set_cons_succ])
        refine wpAnyH_ready (rs := [13]) (by kernel_rfl) (by simp) ?_
        refine AllReadyH.cons rfl (fun K hK => ?_) AllReadyH.nil
        refine wp_apRow (.tmp 50) (.tmp 58) 55 rfl 0 89 Tryd.underlying55 pr_infos rfl (by decide) (.slice da dn dc) dn (prs v.rd) rfl (AK.out Y3 K3.out).2.2 GB (.slice (some ⟨GB, 0, none⟩) 1 1) 1 (prV ⟨m.key, m.val⟩).toList rfl N2.out (by simp [prV, Value.oneCell']) (by unfold maxLen; have := BD.out; omega) (by have := BD.out; omega) (Nat.zero_le _) ?_
        intro v' w' o3 g3 n3
        obtain ⟨na, nc, rfl⟩ := own_sl o3
        obtain ⟨m3, f9, c9, L4, m4⟩ := FIN.out Y3 _ _ w' K3.out o3 g3 n3
        have D3 := hide m3
        have L4 := hide L4
        obtain ⟨W4, hW4⟩ : ∃ W4, W4 = w'.setCell ⟨X, 9, none⟩ (.slice na (dn + 1) nc) := ⟨_, rfl⟩
        rw [← hW4] at L4 m4
        have D4 := hide m4
        clear o3 g3 n3 m3 m4 FIN AK N2 C9
        refine hK.out _ _ (D3.out) (fun hHeld => ?_)
        clear hK
        (try simp only [Act.put, List.setIfInBounds_toArray, List.set_cons_zero, List.set_cons_succ])
        refine wTk (i := 14) (v := (.pointer (some ⟨X, 3, none⟩))) rfl ?_ ?_
        · intro w' hSw
          (try dsimp only at hSw)
          go_simp
        (try simp only [Act.put, List.getElem_toArray, List.getElem_cons_zero, List.getElem_cons_succ, List.setIfInBounds_toArray, List.set_cons_zero, List.set_cons_succ])
        refine wTk (i := 15) (v := (.pointer (some ⟨X, 9, none⟩))) rfl ?_ ?_
        · intro w' hSw
          (try dsimp only at hSw)
          go_simp
        (try simp only [Act.put, List.getElem_toArray, List.getElem_cons_zero, List.getElem_cons_succ, List.setIfInBounds_toArray, List.set_cons_zero, List.set_cons_succ])
        refine wpAnyH_ready (rs := [16]) (by kernel_rfl) (by simp) ?_
        refine AllReadyH.cons rfl (fun K hK => ?_) AllReadyH.nil
        go_simp
        rw [← hW4]
        clear hW4 c9 f9 D3
        refine hK.out _ _ (D4.out) (fun hHeld => ?_)
        clear hK
        (try simp only [Act.put, List.setIfInBounds_toArray, List.set_cons_zero, List.set_cons_succ])
        refine wpAnyH_done (by kernel_rfl) ?_ _
        clear hHeld D4
        have TU := hide (ask_x L4.out.at_ (R := R) OK.out.rw_ OK.out.pt OK.out.lf (by show (v.rd ++ _).length ≤ 512; rw [List.length_append]; exact HRL.out))
        go_wp2_with fail
        refine Calls.mono TU.out ?_
        rintro e W5 ⟨u, rfl, o5, l5⟩
        have O5 := hide o5
        have L5 := hide l5
        clear o5 l5 TU
        go_wp2_with fail
        go_ret
        exact ⟨_, _, rfl, own_base O5.out L4.out.kp.size, L4.out.trans L5.out⟩
set_option maxHeartbeats 16000000 in
set_option maxRecDepth 100000 in
set_option linter.unusedSimpArgs false in
set_option linter.unusedVariables false in
theorem hear_x {w : World} {X : Nat} {v : Ex} {Z : Zz} (h : ExAt w X v Z) {R : Nat} (ok : Hok v R) (m : Mg) (hk : m.key.size ≤ 281474976710656) (hv : m.val.size ≤ 281474976710656) :
    Calls Tryd.prog 51 #[.pointer (some ⟨X, 0, none⟩), .agg (mgV m)] w fun e w' => ∃ u Z', e = .returned u ∧ Out w w' u (hearL v m) ∧ Lv w w' X Z (hearX v m) Z' := by
  unfold hearL hearX
  by_cases h1 : m.code = 16
  · rw [if_pos h1, if_pos h1]
    exact hear_end h ok m h1
  · rw [if_neg h1, if_neg h1]
    by_cases h2 : m.code = 0 ∧ v.rd.length < 512
    · rw [if_pos h2, if_pos h2]
      exact hear_read h ok m h2.1 h2.2 hk hv
    · rw [if_neg h2, if_neg h2]
      exact hear_lv h ok m h1 h2
end Go.Proofs.YtpoegknmkbnjlaaDoor.Cn
