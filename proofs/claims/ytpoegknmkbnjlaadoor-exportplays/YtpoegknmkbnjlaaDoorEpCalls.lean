import Derived.Test.YtpoegknmkbnjlaaDoorGEpHear
namespace Go.Proofs.YtpoegknmkbnjlaaDoor.Cn
open Go.RowKit
theorem Eok.hok {v : Ex} {R n : Nat} (h : Eok v R n) (hb : busyB v = true) : Hok v R := by
  have j := h.job hb
  have p := h.p1
  have j1 := j.pt
  exact ⟨h.rw_, h.r1, p.2, j1, j.lf, j.rl, by have := j.pl; omega, by have := j.ml; omega⟩
def jobA (n ver : Int) : Array Value := #[.int .i64 n, .int .i64 ver, .slice none 0 0, .slice none 0 0, .int .i64 0, .int .i64 0, .slice none 0 0, .int .i64 0, .int .i64 0, .int .i64 0, .int .i64 0, .int .i64 0, .int .i64 0]
theorem jobA_one (n ver : Int) : (jobA n ver).all (·.oneCell') = true := by simp [jobA, Value.oneCell']
def Zz.job (Z : Zz) : Zz := { Z with tp := nilV, tm := nilV, rd := nilV }
theorem upd_jobA (v : Ex) (Z : Zz) (ver : Int) : updA (exA v Z) 3 (jobA (v.last.jb + 1) ver).toList = exA (jobX v ver) Z.job := by kernel_rfl
theorem Ow.job {w : World} {v : Ex} {Z : Zz} (h : Ow w v Z) (ver : Int) : Ow w (jobX v ver) Z.job := ⟨h.rows, h.row, own_nil _ _ _, own_nil _ _ _, own_nil _ _ _, h.lp, h.lm, fun _ e => (nil_own e).elim, fun _ e => (nil_own e).elim, fun _ e => (nil_own e).elim⟩
theorem gr_job {X : Nat} {Z : Zz} : (∀ k, Fp X Z.job k → Fp X Z k) ∧ ∀ k, Ap X Z.job k → Ap X Z k := by
  have h1 : ∀ k, Fp X Z.job k → Fp X Z k := fun k e => by
    rcases e with e | e | e | e
    · exact Or.inl e
    · exact (nil_own e).elim
    · exact (nil_own e).elim
    · exact (nil_own e).elim
  refine ⟨h1, fun k e => ?_⟩
  rcases e with e | e
  · exact Or.inl (h1 k e)
  · exact Or.inr e
set_option maxHeartbeats 16000000 in
set_option maxRecDepth 100000 in
set_option linter.unusedSimpArgs false in
set_option linter.unusedVariables false in
theorem Begin_x {w : World} {X : Nat} {v : Ex} {Z : Zz} (h : ExAt w X v Z) {R n : Nat} (ok : Eok v R n) (hn : n ≤ 1000000000000) (ver : Int) :
    Calls Tryd.prog 28 #[.pointer (some ⟨X, 0, none⟩), .int .i64 ver] w fun e w' => ∃ u Z', e = .returned (.tuple #[u, .int .i64 (begE v ver)]) ∧ Out w w' u (begL v ver) ∧ Lv w w' X Z (begX v ver) Z' := by
  have NO := hide (none_x h ok.p1.1)
  have BU := hide (Busy_x h ok.p1.1)
  have IV := hide (fun Y => isVersion_x ver Y)
  have HA := hide h
  have OK := hide ok
  cases hb : busyB v
  case true =>
    have e0 : begE v ver = 150 := by unfold begE; rw [hb]; rfl
    have BX : Hid (begX v ver = v ∧ begL v ver = []) := ⟨by unfold begX; rw [if_neg (by rw [e0]; decide)], by unfold begL; rw [if_neg (by rw [e0]; decide)]⟩
    rw [e0]
    rw [hb] at BU
    clear hb e0 h ok
    go_enter Tryd.func28, Tryd.ntmps28
    go_wp2_with fail
    refine Calls.mono NO.out ?_
    rintro e w' ⟨rfl, rfl⟩
    go_wp2_with fail
    refine Calls.mono BU.out ?_
    rintro e w' ⟨rfl, rfl⟩
    go_wp2_with fail
    go_ret2
    first | refine ⟨_, Z, rfl, ?_, ?_⟩ | refine ⟨_, rfl, ?_, Z, ?_⟩
    · rw [BX.out.2]
      exact World.ownsRow_nil _ _ _ _
    · rw [BX.out.1]
      exact Lv.refl HA.out
  case false =>
  rw [hb] at BU
  cases hv : verB ver
  case false =>
    have e0 : begE v ver = 80 := by unfold begE; rw [hb, hv]; rfl
    have BX : Hid (begX v ver = v ∧ begL v ver = []) := ⟨by unfold begX; rw [if_neg (by rw [e0]; decide)], by unfold begL; rw [if_neg (by rw [e0]; decide)]⟩
    rw [e0]
    rw [hv] at IV
    clear hb e0 h ok hv
    go_enter Tryd.func28, Tryd.ntmps28
    go_wp2_with fail
    refine Calls.mono NO.out ?_
    rintro e w' ⟨rfl, rfl⟩
    go_wp2_with fail
    refine Calls.mono BU.out ?_
    rintro e w' ⟨rfl, rfl⟩
    go_wp2_with fail
    refine Calls.mono (IV.out _) ?_
    rintro e w' ⟨rfl, rfl⟩
    go_wp2_with fail
    go_ret2
    first | refine ⟨_, Z, rfl, ?_, ?_⟩ | refine ⟨_, rfl, ?_, Z, ?_⟩
    · rw [BX.out.2]
      exact World.ownsRow_nil _ _ _ _
    · rw [BX.out.1]
      exact Lv.refl HA.out
  case true =>
  have e0 : begE v ver = 0 := by unfold begE; rw [hb, hv]; rfl
  have BX : Hid (begX v ver = upX (jobX v ver) 0 ∧ begL v ver = upL (jobX v ver) 0) := ⟨by unfold begX; rw [if_pos e0], by unfold begL; rw [if_pos e0]⟩
  rw [e0]
  rw [hv] at IV
  obtain ⟨W1, hW1⟩ : ∃ W1, W1 = w.setCells X 3 (jobA (v.last.jb + 1) ver).toList := ⟨_, rfl⟩
  have k1 : Kp w W1 (fun k => k = X) := by rw [hW1]; exact kp_setCells _ _ _ _
  have x1 : W1.heap[X]? = some (.cells (exA (jobX v ver) Z.job) 70) := by
    rw [hW1, ← upd_jobA]
    exact heap_setCells _ _ _ _ _ _ h.blk
  have L1 : Hid (Lv w W1 X Z (jobX v ver) Z.job) := ⟨⟨x1, (h.ow.setX h.blk k1).job ver⟩, k1.mono (fun _ e => Or.inl e), fun k e => Or.inl (gr_job.1 k e), fun k e => Or.inl (gr_job.2 k e)⟩
  have TU := hide (takeUp_x L1.out.at_ (R := R) ok.rw_ ok.r1.1 0 (Nat.zero_le _))
  have c16 : w.cell? ⟨X, 16, none⟩ = some (.int .i64 v.last.jb) := (ex_cells h.blk).2.2.2.2.2.2.2.2.2.2.2
  have th := hide (there_x h.blk 3 13 (by omega))
  have ew : IntKind.i64.wrap (v.last.jb + 1) = v.last.jb + 1 := by have := ok.lj; exact i64_in (by omega) (by omega)
  have HW1 := hide hW1
  have JI := hide job_info
  generalize v.last.jb = lj at *
  clear hb e0 h ok hv k1 x1 hW1
  go_enter Tryd.func28, Tryd.ntmps28
  go_wp2_with fail
  refine Calls.mono NO.out ?_
  rintro e w' ⟨rfl, rfl⟩
  go_wp2_with fail
  refine Calls.mono BU.out ?_
  rintro e w' ⟨rfl, rfl⟩
  go_wp2_with fail
  refine Calls.mono (IV.out _) ?_
  rintro e w' ⟨rfl, rfl⟩
  go_wp2_with (first | refine wpList_blR rfl 57 #[(0, .tmp 22), (1, .tmp 23)] rfl #[.int .i64 (lj + 1), .int .i64 ver, .slice none 0 0, .slice none 0 0] (by kernel_rfl) ?_ | refine wpList_blR rfl 68 #[(0, .tmp 24)] rfl (jobA (lj + 1) ver) (by kernel_rfl) ?_ | (refine wpList_store_mid rfl 68 (.tmp 27) (.tmp 25) rfl X 3 (jobA (lj + 1) ver) rfl rfl th.out JI.out (jobA_one _ _) ?_; rw [← HW1.out]))
  refine Calls.mono TU.out ?_
  rintro e W5 ⟨u, Z5, rfl, o5, l5⟩
  have O5 := hide o5
  have L5 := hide l5
  clear o5 l5 TU
  go_wp2_with fail
  go_ret2
  first | refine ⟨_, Z5, rfl, ?_, ?_⟩ | refine ⟨_, rfl, ?_, Z5, ?_⟩
  · rw [BX.out.2]
    exact own_base O5.out L1.out.kp.size
  · rw [BX.out.1]
    exact L1.out.trans L5.out
set_option maxHeartbeats 16000000 in
set_option maxRecDepth 100000 in
set_option linter.unusedSimpArgs false in
set_option linter.unusedVariables false in
theorem Take_x {w : World} {X : Nat} {v : Ex} {Z : Zz} (h : ExAt w X v Z) {R n : Nat} (ok : Eok v R n) (m : Mg) (hk : m.key.size ≤ 281474976710656) (hv : m.val.size ≤ 281474976710656) :
    Calls Tryd.prog 30 #[.pointer (some ⟨X, 0, none⟩), .agg (mgV m)] w fun e w' => ∃ u Z', e = .returned (.tuple #[u, .int .i64 0]) ∧ Out w w' u (takeL v m) ∧ Lv w w' X Z (takeX v m) Z' := by
  obtain ⟨B, hB⟩ : ∃ B, B = w.heap.size := ⟨_, rfl⟩
  obtain ⟨W0, hW0⟩ : ∃ W0, W0 = w.alloc (.cells (mgV m) 36) := ⟨_, rfl⟩
  have k0 : Kp w W0 non := by rw [hW0]; exact (Kp.refl w non).alloc _
  have M0 : Hid (MgAt W0 B m) := by rw [hW0, hB]; exact MgAt.new w m
  have L0 : Hid (Lv w W0 X Z v Z) := Lv.same h k0
  have NO := hide (none_x L0.out.at_ ok.p1.1)
  have IS := hide (isAnswer_x L0.out.at_ ok.p1.1 m)
  have OK := hide ok
  clear h k0 ok
  go_enter Tryd.func30, Tryd.ntmps30
  go_upto_region 1 with fail
  rw [← hW0, ← hB]
  clear hW0 hB
  go_wp2_with fail
  refine Calls.mono NO.out ?_
  rintro e w' ⟨rfl, rfl⟩
  go_wp2_with (refine wpList_ldM rfl (.tmp 3) rfl m B rfl M0.out ?_)
  refine Calls.mono IS.out ?_
  rintro e W1 ⟨rfl, k1⟩
  have L1 : Hid (Lv w W1 X Z v Z) := L0.out.trans (Lv.same L0.out.at_ k1)
  have M1 : Hid (MgAt W1 B m) := M0.out.keep k1 (fun f => f)
  clear k1 IS NO L0 M0
  cases ha : isAns v m
  case false =>
    have TX : Hid (takeX v m = v ∧ takeL v m = []) := ⟨by unfold takeX; rw [ha]; rfl, by unfold takeL; rw [ha]; rfl⟩
    clear ha
    go_wp2_with fail
    go_ret2
    first | refine ⟨_, Z, rfl, ?_, ?_⟩ | refine ⟨_, rfl, ?_, Z, ?_⟩
    · rw [TX.out.2]
      exact World.ownsRow_nil _ _ _ _
    · rw [TX.out.1]
      exact L1.out
  case true =>
  have TX : Hid (takeX v m = hearX v m ∧ takeL v m = hearL v m) := ⟨by unfold takeX; rw [ha]; rfl, by unfold takeL; rw [ha]; rfl⟩
  have hb : busyB v = true := by unfold isAns at ha; rw [Bool.and_eq_true] at ha; exact ha.1
  have HE := hide (hear_x L1.out.at_ (OK.out.hok hb) m hk hv)
  clear ha hb
  go_wp2_with (refine wpList_ldM rfl (.tmp 3) rfl m B rfl M1.out ?_)
  refine Calls.mono HE.out ?_
  rintro e W5 ⟨u, Z5, rfl, o5, l5⟩
  have O5 := hide o5
  have L5 := hide l5
  clear o5 l5 HE
  go_wp2_with fail
  go_ret2
  first | refine ⟨_, Z5, rfl, ?_, ?_⟩ | refine ⟨_, rfl, ?_, Z5, ?_⟩
  · rw [TX.out.2]
    exact own_base O5.out L1.out.kp.size
  · rw [TX.out.1]
    exact L1.out.trans L5.out
theorem Ow.now {w : World} {v : Ex} {Z : Zz} (h : Ow w v Z) : Ow w (nowX v) Z := ⟨h.rows, h.row, h.tp, h.tm, h.rd, h.lp, h.lm, h.d1, h.d2, h.d3⟩
set_option maxHeartbeats 16000000 in
set_option maxRecDepth 100000 in
set_option linter.unusedSimpArgs false in
set_option linter.unusedVariables false in
theorem Tick_x {w : World} {X : Nat} {v : Ex} {Z : Zz} (h : ExAt w X v Z) {R n : Nat} (ok : Eok v R n) (hn : n ≤ 1000000000000) :
    Calls Tryd.prog 32 #[.pointer (some ⟨X, 0, none⟩)] w fun e w' => ∃ u Z', e = .returned (.tuple #[u, .int .i64 0]) ∧ Out w w' u (tickL v) ∧ Lv w w' X Z (tickX v) Z' := by
  have NO := hide (none_x h ok.p1.1)
  have c2 : w.cell? ⟨X, 2, none⟩ = some (.int .i64 v.now) := (ex_cells h.blk).2.2.1
  have f2 := fz_row h.blk 2
  obtain ⟨W1, hW1⟩ : ∃ W1, W1 = w.setCell ⟨X, 2, none⟩ (.int .i64 (v.now + 1)) := ⟨_, rfl⟩
  have k1 : Kp w W1 (fun k => k = X) := by rw [hW1]; exact (Kp.refl w (fun k => k = X)).set (Or.inl rfl) _ _
  have x1 : W1.heap[X]? = some (.cells (exA (nowX v) Z) 70) := by rw [hW1]; exact set_row h.blk 2 _
  have L1 : Hid (Lv w W1 X Z (nowX v) Z) := ⟨⟨x1, (h.ow.setX h.blk k1).now⟩, k1.mono (fun _ e => Or.inl e), fun _ e => Or.inl e, fun _ e => Or.inl e⟩
  have ew : IntKind.i64.wrap (v.now + 1) = v.now + 1 := by have := ok.nw; exact i64_in (by omega) (by omega)
  have rsl := h.ow.rsl
  have BU : Hid (∀ Y, Y.heap[X]? = some (.cells (exA (nowX v) Z) 70) → Calls Tryd.prog 16 #[.pointer (some ⟨X, 0, none⟩)] Y fun e w' => e = .returned (.bool (busyB v)) ∧ Y = w') := fun Y hY => Busy_b (v := nowX v) hY ok.p1.1 rsl
  have CE : Hid ((∀ Y : World, Y.heap[X]? = some (.cells (exA (nowX v) Z) 70) → Y.cell? ⟨X, 2, none⟩ = some (.int .i64 (v.now + 1))) ∧ (∀ Y : World, Y.heap[X]? = some (.cells (exA (nowX v) Z) 70) → Y.cell? ⟨X, 15, none⟩ = some (.int .i64 v.at_)) ∧ (∀ Y : World, Y.heap[X]? = some (.cells (exA (nowX v) Z) 70) → Y.cell? ⟨X, 0, none⟩ = some (.int .i64 v.gw))) := ⟨fun Y hY => (ex_cells hY).2.2.1, fun Y hY => (ex_cells hY).2.2.2.2.2.2.2.2.2.2.1, fun Y hY => (ex_cells hY).1⟩
  have OK := hide ok
  have C1 := hide x1
  have SUB : Hid (busyB v = true → IntKind.i64.wrap (v.now + 1 - v.at_) = v.now + 1 - v.at_) := fun hb => by
    have j := ok.job hb
    have a1 := j.a1
    have nw := ok.nw
    by_cases z : v.now + 1 - v.at_ < 9223372036854775808
    · exact i64_in (by omega) z
    · exfalso
      have a2 := j.a2
      have g := ok.gw
      exact z (by omega)
  obtain ⟨db, hdb⟩ : ∃ db, db = dueB (nowX v) := ⟨_, rfl⟩
  have HD : Hid (db = (busyB v && (v.now + 1 - v.at_ == v.gw))) := hdb
  have TX : Hid (db = false → tickX v = nowX v ∧ tickL v = []) := fun e => by
    rw [hdb] at e
    exact ⟨by unfold tickX; rw [e]; rfl, by unfold tickL; rw [e]; rfl⟩
  have TY : Hid (db = true → busyB v = true ∧ tickX v = lvX (nowX v) ∧ tickL v = lvL (nowX v)) := fun e => by
    rw [hdb] at e
    exact ⟨by unfold dueB at e; rw [Bool.and_eq_true] at e; exact e.1, by unfold tickX; rw [e]; rfl, by unfold tickL; rw [e]; rfl⟩
  obtain ⟨nw, hnw⟩ : ∃ nw, nw = v.now + 1 := ⟨_, rfl⟩
  rw [← hnw] at hW1 ew CE SUB HD
  obtain ⟨bb, hbb⟩ : ∃ bb, bb = busyB v := ⟨_, rfl⟩
  have HBB := hide hbb
  rw [← hbb] at BU SUB HD
  have c2' : w.cell? ⟨X, 2, none⟩ = some (.int .i64 (nw - 1)) := by rw [c2, hnw]; congr 2; omega
  have ew'' : wrap64 nw = nw := wrap_in (by have := OK.out.nw; omega) (by have := OK.out.nw; omega)
  have ew' : IntKind.i64.wrap (nw - 1 + 1) = nw := by rw [show nw - 1 + 1 = nw by omega]; exact ew
  generalize hat : v.at_ = at_ at *
  generalize hgw : v.gw = gw at *
  clear h ok k1 x1 rsl hdb hnw hbb c2 ew hat hgw hn
  go_enter Tryd.func32, Tryd.ntmps32
  go_wp2_with fail
  refine Calls.mono NO.out ?_
  rintro e w' ⟨rfl, rfl⟩
  go_upto_region 4 with fail
  (try rw [← hW1])
  clear hW1 c2' f2 ew' ew'' NO
  cases bb
  case false =>
    have e1 : db = false := by rw [HD.out]; rfl
    refine wp_region_held_drew (S := fun Y => Y.heap[X]? = some (.cells (exA (nowX v) Z) 70)) (by kernel_rfl) C1.out (fun hHeld => ?_)
    refine wTk (i := 0) (v := (.pointer (some ⟨X, 0, none⟩))) rfl ?_ ?_
    · intro w' hSw
      (try dsimp only at hSw)
      go_simp
    (try simp only [Act.put, List.getElem_toArray, List.getElem_cons_zero, List.getElem_cons_succ, List.setIfInBounds_toArray, List.set_cons_zero, List.set_cons_succ])
    refine wpAnyH_callTake (i := 1) (v := (.bool false)) rfl (by kernel_rfl) (by kernel_rfl) (by kernel_rfl) (fun _ _ _ h => h) (by kernel_rfl) 16 #[.pointer (some ⟨X, 0, none⟩)] (fun w' => by kernel_rfl) (fun w' hSw => BU.out w' hSw) (by assumption) ?_
    (try simp only [Act.put, List.getElem_toArray, List.getElem_cons_zero, List.getElem_cons_succ, List.setIfInBounds_toArray, List.set_cons_zero, List.set_cons_succ])
    refine wTk (i := 2) (v := (.bool false)) rfl ?_ ?_
    · intro w' hSw
      (try dsimp only at hSw)
      go_simp
    (try simp only [Act.put, List.getElem_toArray, List.getElem_cons_zero, List.getElem_cons_succ, List.setIfInBounds_toArray, List.set_cons_zero, List.set_cons_succ])
    refine wTu (i := 3) rfl ?_
    (try simp only [Act.put, List.setIfInBounds_toArray, List.set_cons_zero, List.set_cons_succ])
    refine wTu (i := 4) rfl ?_
    (try simp only [Act.put, List.setIfInBounds_toArray, List.set_cons_zero, List.set_cons_succ])
    refine wTu (i := 5) rfl ?_
    (try simp only [Act.put, List.setIfInBounds_toArray, List.set_cons_zero, List.set_cons_succ])
    refine wTu (i := 6) rfl ?_
    (try simp only [Act.put, List.setIfInBounds_toArray, List.set_cons_zero, List.set_cons_succ])
    refine wTu (i := 7) rfl ?_
    (try simp only [Act.put, List.setIfInBounds_toArray, List.set_cons_zero, List.set_cons_succ])
    refine wTu (i := 8) rfl ?_
    (try simp only [Act.put, List.setIfInBounds_toArray, List.set_cons_zero, List.set_cons_succ])
    refine wTu (i := 9) rfl ?_
    (try simp only [Act.put, List.setIfInBounds_toArray, List.set_cons_zero, List.set_cons_succ])
    refine wTu (i := 10) rfl ?_
    (try simp only [Act.put, List.setIfInBounds_toArray, List.set_cons_zero, List.set_cons_succ])
    refine wTu (i := 11) rfl ?_
    (try simp only [Act.put, List.setIfInBounds_toArray, List.set_cons_zero, List.set_cons_succ])
    refine wTu (i := 12) rfl ?_
    (try simp only [Act.put, List.setIfInBounds_toArray, List.set_cons_zero, List.set_cons_succ])
    refine wTu (i := 13) rfl ?_
    (try simp only [Act.put, List.setIfInBounds_toArray, List.set_cons_zero, List.set_cons_succ])
    refine wTu (i := 14) rfl ?_
    (try simp only [Act.put, List.setIfInBounds_toArray, List.set_cons_zero, List.set_cons_succ])
    refine wTu (i := 15) rfl ?_
    (try simp only [Act.put, List.setIfInBounds_toArray, List.set_cons_zero, List.set_cons_succ])
    refine wTu (i := 16) rfl ?_
    (try simp only [Act.put, List.setIfInBounds_toArray, List.set_cons_zero, List.set_cons_succ])
    refine wTu (i := 17) rfl ?_
    (try simp only [Act.put, List.setIfInBounds_toArray, List.set_cons_zero, List.set_cons_succ])
    refine wpAnyH_ready (rs := [18]) (by kernel_rfl) (by simp) ?_
    refine AllReadyH.cons rfl (fun K hK => ?_) AllReadyH.nil
    go_simp
    refine hK.out _ _ (C1.out) (fun hHeld => ?_)
    clear hK
    (try simp only [Act.put, List.setIfInBounds_toArray, List.set_cons_zero, List.set_cons_succ])
    refine wpAnyH_done (by kernel_rfl) ?_ _
    clear hHeld
    go_wp2_with fail
    go_ret2
    first | refine ⟨_, Z, rfl, ?_, ?_⟩ | refine ⟨_, rfl, ?_, Z, ?_⟩
    · rw [(TX.out e1).2]
      exact World.ownsRow_nil _ _ _ _
    · rw [(TX.out e1).1]
      exact L1.out.trans (Lv.same L1.out.at_ ((Kp.refl W1 non).drew))
  case true =>
  have es := SUB.out rfl
  by_cases z : nw - at_ = gw
  case neg =>
    have q1 : (nw - at_ == gw) = false := by simpa using z
    have e1 : db = false := by rw [HD.out, q1]; rfl
    clear z
    refine wp_region_held_drew (S := fun Y => Y.heap[X]? = some (.cells (exA (nowX v) Z) 70)) (by kernel_rfl) C1.out (fun hHeld => ?_)
    refine wTk (i := 0) (v := (.pointer (some ⟨X, 0, none⟩))) rfl ?_ ?_
    · intro w' hSw
      (try dsimp only at hSw)
      go_simp
    (try simp only [Act.put, List.getElem_toArray, List.getElem_cons_zero, List.getElem_cons_succ, List.setIfInBounds_toArray, List.set_cons_zero, List.set_cons_succ])
    refine wpAnyH_callTake (i := 1) (v := (.bool true)) rfl (by kernel_rfl) (by kernel_rfl) (by kernel_rfl) (fun _ _ _ h => h) (by kernel_rfl) 16 #[.pointer (some ⟨X, 0, none⟩)] (fun w' => by kernel_rfl) (fun w' hSw => BU.out w' hSw) (by assumption) ?_
    (try simp only [Act.put, List.getElem_toArray, List.getElem_cons_zero, List.getElem_cons_succ, List.setIfInBounds_toArray, List.set_cons_zero, List.set_cons_succ])
    refine wTk (i := 2) (v := (.bool true)) rfl ?_ ?_
    · intro w' hSw
      (try dsimp only at hSw)
      go_simp
    (try simp only [Act.put, List.getElem_toArray, List.getElem_cons_zero, List.getElem_cons_succ, List.setIfInBounds_toArray, List.set_cons_zero, List.set_cons_succ])
    refine wTk (i := 3) (v := (.pointer (some ⟨X, 0, none⟩))) rfl ?_ ?_
    · intro w' hSw
      (try dsimp only at hSw)
      go_simp
    (try simp only [Act.put, List.getElem_toArray, List.getElem_cons_zero, List.getElem_cons_succ, List.setIfInBounds_toArray, List.set_cons_zero, List.set_cons_succ])
    refine wTk (i := 4) (v := (.pointer (some ⟨X, 0, none⟩))) rfl ?_ ?_
    · intro w' hSw
      (try dsimp only at hSw)
      go_simp
    (try simp only [Act.put, List.getElem_toArray, List.getElem_cons_zero, List.getElem_cons_succ, List.setIfInBounds_toArray, List.set_cons_zero, List.set_cons_succ])
    refine wTk (i := 5) (v := (.pointer (some ⟨X, 2, none⟩))) rfl ?_ ?_
    · intro w' hSw
      (try dsimp only at hSw)
      go_simp
    (try simp only [Act.put, List.getElem_toArray, List.getElem_cons_zero, List.getElem_cons_succ, List.setIfInBounds_toArray, List.set_cons_zero, List.set_cons_succ])
    refine wTk (i := 6) (v := (.int .i64 nw)) rfl ?_ ?_
    · intro w' hSw
      (try dsimp only at hSw)
      (have z := CE.out.1 _ hSw; go_simp)
    (try simp only [Act.put, List.getElem_toArray, List.getElem_cons_zero, List.getElem_cons_succ, List.setIfInBounds_toArray, List.set_cons_zero, List.set_cons_succ])
    refine wTk (i := 7) (v := (.pointer (some ⟨X, 0, none⟩))) rfl ?_ ?_
    · intro w' hSw
      (try dsimp only at hSw)
      go_simp
    (try simp only [Act.put, List.getElem_toArray, List.getElem_cons_zero, List.getElem_cons_succ, List.setIfInBounds_toArray, List.set_cons_zero, List.set_cons_succ])
    refine wTk (i := 8) (v := (.pointer (some ⟨X, 0, none⟩))) rfl ?_ ?_
    · intro w' hSw
      (try dsimp only at hSw)
      go_simp
    (try simp only [Act.put, List.getElem_toArray, List.getElem_cons_zero, List.getElem_cons_succ, List.setIfInBounds_toArray, List.set_cons_zero, List.set_cons_succ])
    refine wTk (i := 9) (v := (.pointer (some ⟨X, 3, none⟩))) rfl ?_ ?_
    · intro w' hSw
      (try dsimp only at hSw)
      go_simp
    (try simp only [Act.put, List.getElem_toArray, List.getElem_cons_zero, List.getElem_cons_succ, List.setIfInBounds_toArray, List.set_cons_zero, List.set_cons_succ])
    refine wTk (i := 10) (v := (.pointer (some ⟨X, 15, none⟩))) rfl ?_ ?_
    · intro w' hSw
      (try dsimp only at hSw)
      go_simp
    (try simp only [Act.put, List.getElem_toArray, List.getElem_cons_zero, List.getElem_cons_succ, List.setIfInBounds_toArray, List.set_cons_zero, List.set_cons_succ])
    refine wTk (i := 11) (v := (.int .i64 at_)) rfl ?_ ?_
    · intro w' hSw
      (try dsimp only at hSw)
      (have z := CE.out.2.1 _ hSw; go_simp)
    (try simp only [Act.put, List.getElem_toArray, List.getElem_cons_zero, List.getElem_cons_succ, List.setIfInBounds_toArray, List.set_cons_zero, List.set_cons_succ])
    refine wTk (i := 12) (v := (.int .i64 (nw - at_))) rfl ?_ ?_
    · intro w' hSw
      (try dsimp only at hSw)
      go_simp
    (try simp only [Act.put, List.getElem_toArray, List.getElem_cons_zero, List.getElem_cons_succ, List.setIfInBounds_toArray, List.set_cons_zero, List.set_cons_succ])
    refine wTk (i := 13) (v := (.pointer (some ⟨X, 0, none⟩))) rfl ?_ ?_
    · intro w' hSw
      (try dsimp only at hSw)
      go_simp
    (try simp only [Act.put, List.getElem_toArray, List.getElem_cons_zero, List.getElem_cons_succ, List.setIfInBounds_toArray, List.set_cons_zero, List.set_cons_succ])
    refine wTk (i := 14) (v := (.pointer (some ⟨X, 0, none⟩))) rfl ?_ ?_
    · intro w' hSw
      (try dsimp only at hSw)
      go_simp
    (try simp only [Act.put, List.getElem_toArray, List.getElem_cons_zero, List.getElem_cons_succ, List.setIfInBounds_toArray, List.set_cons_zero, List.set_cons_succ])
    refine wTk (i := 15) (v := (.pointer (some ⟨X, 0, none⟩))) rfl ?_ ?_
    · intro w' hSw
      (try dsimp only at hSw)
      go_simp
    (try simp only [Act.put, List.getElem_toArray, List.getElem_cons_zero, List.getElem_cons_succ, List.setIfInBounds_toArray, List.set_cons_zero, List.set_cons_succ])
    refine wTk (i := 16) (v := (.int .i64 gw)) rfl ?_ ?_
    · intro w' hSw
      (try dsimp only at hSw)
      (have z := CE.out.2.2 _ hSw; go_simp)
    (try simp only [Act.put, List.getElem_toArray, List.getElem_cons_zero, List.getElem_cons_succ, List.setIfInBounds_toArray, List.set_cons_zero, List.set_cons_succ])
    refine wTk (i := 17) (v := (.bool false)) rfl ?_ ?_
    · intro w' hSw
      (try dsimp only at hSw)
      go_simp
    (try simp only [Act.put, List.getElem_toArray, List.getElem_cons_zero, List.getElem_cons_succ, List.setIfInBounds_toArray, List.set_cons_zero, List.set_cons_succ])
    refine wpAnyH_ready (rs := [18]) (by kernel_rfl) (by simp) ?_
    refine AllReadyH.cons rfl (fun K hK => ?_) AllReadyH.nil
    go_simp
    refine hK.out _ _ (C1.out) (fun hHeld => ?_)
    clear hK
    (try simp only [Act.put, List.setIfInBounds_toArray, List.set_cons_zero, List.set_cons_succ])
    refine wpAnyH_done (by kernel_rfl) ?_ _
    clear hHeld
    go_wp2_with fail
    go_ret2
    first | refine ⟨_, Z, rfl, ?_, ?_⟩ | refine ⟨_, rfl, ?_, Z, ?_⟩
    · rw [(TX.out e1).2]
      exact World.ownsRow_nil _ _ _ _
    · rw [(TX.out e1).1]
      exact L1.out.trans (Lv.same L1.out.at_ ((Kp.refl W1 non).drew))
  case pos =>
    have q1 : (nw - at_ == gw) = true := by simpa using z
    have e1 : db = true := by rw [HD.out, q1]; rfl
    have hk := OK.out.hok (TY.out e1).1
    have LE := hide (leave_x (w := W1.drew) (v := nowX v) (Z := Z) (L1.out.at_.kp0 ((Kp.refl W1 non).drew)) hk.rw_ hk.pt hk.lf hk.R16.2 hk.P64 hk.rl hk.ms)
    clear z hk
    refine wp_region_held_drew (S := fun Y => Y.heap[X]? = some (.cells (exA (nowX v) Z) 70)) (by kernel_rfl) C1.out (fun hHeld => ?_)
    refine wTk (i := 0) (v := (.pointer (some ⟨X, 0, none⟩))) rfl ?_ ?_
    · intro w' hSw
      (try dsimp only at hSw)
      go_simp
    (try simp only [Act.put, List.getElem_toArray, List.getElem_cons_zero, List.getElem_cons_succ, List.setIfInBounds_toArray, List.set_cons_zero, List.set_cons_succ])
    refine wpAnyH_callTake (i := 1) (v := (.bool true)) rfl (by kernel_rfl) (by kernel_rfl) (by kernel_rfl) (fun _ _ _ h => h) (by kernel_rfl) 16 #[.pointer (some ⟨X, 0, none⟩)] (fun w' => by kernel_rfl) (fun w' hSw => BU.out w' hSw) (by assumption) ?_
    (try simp only [Act.put, List.getElem_toArray, List.getElem_cons_zero, List.getElem_cons_succ, List.setIfInBounds_toArray, List.set_cons_zero, List.set_cons_succ])
    refine wTk (i := 2) (v := (.bool true)) rfl ?_ ?_
    · intro w' hSw
      (try dsimp only at hSw)
      go_simp
    (try simp only [Act.put, List.getElem_toArray, List.getElem_cons_zero, List.getElem_cons_succ, List.setIfInBounds_toArray, List.set_cons_zero, List.set_cons_succ])
    refine wTk (i := 3) (v := (.pointer (some ⟨X, 0, none⟩))) rfl ?_ ?_
    · intro w' hSw
      (try dsimp only at hSw)
      go_simp
    (try simp only [Act.put, List.getElem_toArray, List.getElem_cons_zero, List.getElem_cons_succ, List.setIfInBounds_toArray, List.set_cons_zero, List.set_cons_succ])
    refine wTk (i := 4) (v := (.pointer (some ⟨X, 0, none⟩))) rfl ?_ ?_
    · intro w' hSw
      (try dsimp only at hSw)
      go_simp
    (try simp only [Act.put, List.getElem_toArray, List.getElem_cons_zero, List.getElem_cons_succ, List.setIfInBounds_toArray, List.set_cons_zero, List.set_cons_succ])
    refine wTk (i := 5) (v := (.pointer (some ⟨X, 2, none⟩))) rfl ?_ ?_
    · intro w' hSw
      (try dsimp only at hSw)
      go_simp
    (try simp only [Act.put, List.getElem_toArray, List.getElem_cons_zero, List.getElem_cons_succ, List.setIfInBounds_toArray, List.set_cons_zero, List.set_cons_succ])
    refine wTk (i := 6) (v := (.int .i64 nw)) rfl ?_ ?_
    · intro w' hSw
      (try dsimp only at hSw)
      (have z := CE.out.1 _ hSw; go_simp)
    (try simp only [Act.put, List.getElem_toArray, List.getElem_cons_zero, List.getElem_cons_succ, List.setIfInBounds_toArray, List.set_cons_zero, List.set_cons_succ])
    refine wTk (i := 7) (v := (.pointer (some ⟨X, 0, none⟩))) rfl ?_ ?_
    · intro w' hSw
      (try dsimp only at hSw)
      go_simp
    (try simp only [Act.put, List.getElem_toArray, List.getElem_cons_zero, List.getElem_cons_succ, List.setIfInBounds_toArray, List.set_cons_zero, List.set_cons_succ])
    refine wTk (i := 8) (v := (.pointer (some ⟨X, 0, none⟩))) rfl ?_ ?_
    · intro w' hSw
      (try dsimp only at hSw)
      go_simp
    (try simp only [Act.put, List.getElem_toArray, List.getElem_cons_zero, List.getElem_cons_succ, List.setIfInBounds_toArray, List.set_cons_zero, List.set_cons_succ])
    refine wTk (i := 9) (v := (.pointer (some ⟨X, 3, none⟩))) rfl ?_ ?_
    · intro w' hSw
      (try dsimp only at hSw)
      go_simp
    (try simp only [Act.put, List.getElem_toArray, List.getElem_cons_zero, List.getElem_cons_succ, List.setIfInBounds_toArray, List.set_cons_zero, List.set_cons_succ])
    refine wTk (i := 10) (v := (.pointer (some ⟨X, 15, none⟩))) rfl ?_ ?_
    · intro w' hSw
      (try dsimp only at hSw)
      go_simp
    (try simp only [Act.put, List.getElem_toArray, List.getElem_cons_zero, List.getElem_cons_succ, List.setIfInBounds_toArray, List.set_cons_zero, List.set_cons_succ])
    refine wTk (i := 11) (v := (.int .i64 at_)) rfl ?_ ?_
    · intro w' hSw
      (try dsimp only at hSw)
      (have z := CE.out.2.1 _ hSw; go_simp)
    (try simp only [Act.put, List.getElem_toArray, List.getElem_cons_zero, List.getElem_cons_succ, List.setIfInBounds_toArray, List.set_cons_zero, List.set_cons_succ])
    refine wTk (i := 12) (v := (.int .i64 (nw - at_))) rfl ?_ ?_
    · intro w' hSw
      (try dsimp only at hSw)
      go_simp
    (try simp only [Act.put, List.getElem_toArray, List.getElem_cons_zero, List.getElem_cons_succ, List.setIfInBounds_toArray, List.set_cons_zero, List.set_cons_succ])
    refine wTk (i := 13) (v := (.pointer (some ⟨X, 0, none⟩))) rfl ?_ ?_
    · intro w' hSw
      (try dsimp only at hSw)
      go_simp
    (try simp only [Act.put, List.getElem_toArray, List.getElem_cons_zero, List.getElem_cons_succ, List.setIfInBounds_toArray, List.set_cons_zero, List.set_cons_succ])
    refine wTk (i := 14) (v := (.pointer (some ⟨X, 0, none⟩))) rfl ?_ ?_
    · intro w' hSw
      (try dsimp only at hSw)
      go_simp
    (try simp only [Act.put, List.getElem_toArray, List.getElem_cons_zero, List.getElem_cons_succ, List.setIfInBounds_toArray, List.set_cons_zero, List.set_cons_succ])
    refine wTk (i := 15) (v := (.pointer (some ⟨X, 0, none⟩))) rfl ?_ ?_
    · intro w' hSw
      (try dsimp only at hSw)
      go_simp
    (try simp only [Act.put, List.getElem_toArray, List.getElem_cons_zero, List.getElem_cons_succ, List.setIfInBounds_toArray, List.set_cons_zero, List.set_cons_succ])
    refine wTk (i := 16) (v := (.int .i64 gw)) rfl ?_ ?_
    · intro w' hSw
      (try dsimp only at hSw)
      (have z := CE.out.2.2 _ hSw; go_simp)
    (try simp only [Act.put, List.getElem_toArray, List.getElem_cons_zero, List.getElem_cons_succ, List.setIfInBounds_toArray, List.set_cons_zero, List.set_cons_succ])
    refine wTk (i := 17) (v := (.bool true)) rfl ?_ ?_
    · intro w' hSw
      (try dsimp only at hSw)
      go_simp
    (try simp only [Act.put, List.getElem_toArray, List.getElem_cons_zero, List.getElem_cons_succ, List.setIfInBounds_toArray, List.set_cons_zero, List.set_cons_succ])
    refine wpAnyH_ready (rs := [18]) (by kernel_rfl) (by simp) ?_
    refine AllReadyH.cons rfl (fun K hK => ?_) AllReadyH.nil
    go_simp
    refine hK.out _ _ (C1.out) (fun hHeld => ?_)
    clear hK
    (try simp only [Act.put, List.setIfInBounds_toArray, List.set_cons_zero, List.set_cons_succ])
    refine wpAnyH_done (by kernel_rfl) ?_ _
    clear hHeld
    go_wp2_with fail
    refine Calls.mono LE.out ?_
    rintro e W5 ⟨u, Z5, rfl, o5, l5⟩
    have O5 := hide o5
    have L5 : Hid (Lv w W5 X Z (lvX (nowX v)) Z5) := (L1.out.trans (Lv.same L1.out.at_ ((Kp.refl W1 non).drew))).trans l5
    clear o5 l5 LE
    go_wp2_with fail
    go_ret2
    first | refine ⟨_, Z5, rfl, ?_, ?_⟩ | refine ⟨_, rfl, ?_, Z5, ?_⟩
    · rw [(TY.out e1).2.2]
      exact own_base O5.out L1.out.kp.size
    · rw [(TY.out e1).2.1]
      exact L5.out
end Go.Proofs.YtpoegknmkbnjlaaDoor.Cn
