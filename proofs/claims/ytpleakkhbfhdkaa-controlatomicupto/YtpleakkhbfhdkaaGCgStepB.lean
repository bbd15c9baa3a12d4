import Derived.Test.YtpleakkhbfhdkaaGCgDelD
namespace Go.Proofs.Ytpleakkhbfhdkaa.Cn
open Go.RowKit
set_option maxHeartbeats 8000000 in
set_option maxRecDepth 100000 in
set_option linter.unusedSimpArgs false in
set_option linter.unusedVariables false in
theorem step_begin {N : Nat} {w : World} {B C : Nat} {S : Nat → Prop} {nv lv fv bv av : Value} {p : Pl} (h : PlX N w B C S nv lv fv bv av p) {n : Nat} (hi : PI n p) (hjb : p.job ≤ 1000000000) (hlt : p.lt.length ≤ 1000000000) (ev : Ev) (hk : ev.k = 1) :
    Calls Try.prog 26 #[.pointer (some ⟨B, 0, none⟩), .agg (evV ev)] w fun e w' => e = .returned (.bool true) ∧ StepQ N w w' B n p := by
  obtain ⟨E, hE⟩ : ∃ E, E = w.heap.size := ⟨_, rfl⟩
  obtain ⟨W0, hW0⟩ : ∃ W0, W0 = w.alloc (.cells (evV ev) 68) := ⟨_, rfl⟩
  have b0' : Below w.heap.size w W0 := by rw [hW0]; exact (Below.refl _ w).alloc (Nat.le_refl _) _
  have m0' : W0.heap[E]? = some (.cells (evV ev) 68) := by rw [hW0, hE]; exact heap_last _ _
  have P0 := hide (h.below b0')
  have B0 : Hid (Below N w W0) := b0'.mono h.gN
  have M0 := hide m0'
  have EX : Hid (∀ q, plS B S nv lv fv bv av q → q < E) := fun q e => by
    rw [hE]
    rcases e with e | e | e | e | e | e | e
    · rw [e]; exact blk_lt h.ob
    · exact h.ct.lt q e
    · exact own_lt2 h.nd e
    · exact own_lt2 h.lt e
    · exact own_lt2 h.fe e
    · exact own_lt2 h.ba e
    · exact own_lt2 h.at' e
  have x0 := P0.out.cells.1
  have y0 : W0.cell? ⟨E, 0, none⟩ = some (.int .i64 ev.k) := by rw [cell_row m0']; rfl
  have y1 : W0.cell? ⟨E, 1, none⟩ = some (.int .i64 ev.n) := by rw [cell_row m0']; rfl
  have y2 : W0.cell? ⟨E, 2, none⟩ = some (.int .i64 ev.v) := by rw [cell_row m0']; rfl
  have BU := busy_any P0.out.ct hi.ci.fine.n1
  have HI := hide hi
  have HJB := hide hjb
  have HLT := hide hlt
  have n16 := hi.n16
  have n1 := hi.n1
  have HE := hide hE
  rw [hk] at y0
  clear hk
  cases hp : p.c.ph with
  | none =>
    rw [hp] at BU
    have BE := hide (begin_idle P0.out hi hp hjb hlt ev)
    clear hp
    replace BU := hide BU
    clear h hi b0' m0' hjb hlt
    go_enter Try.func26, Try.ntmps26
    go_upto_region 1 with fail
    rw [← hW0, ← HE.out]
    clear hW0 hE
    go_wp2_with fail
    refine Calls.mono BU.out ?_
    rintro e w9 ⟨rfl, rfl⟩
    go_wp2_with (refine wpList_ldR rfl 68 (.tmp 3) rfl E rfl _ (evV ev) M0.out Try.underlying68 ev_info ?_)
    refine Calls.mono BE.out ?_
    rintro e W1 ⟨rfl, S', lv', fv', bv', p2, a1, a2, a3, a4, a5⟩
    have FA : Hid (StepQ N w W1 B n p) := ⟨p2, a1.at, a2, B0.out.trans a3, by omega, a5⟩
    clear a1 a2 a3 a4 a5 BE
    go_wp2_with fail
    go_ret
    exact ⟨rfl, FA.out⟩
  | some x =>
    rw [hp] at BU
    have BE := hide (begin_busy P0.out hi.ci.fine (by rw [hp]; rfl) ev)
    clear hp
    replace BU := hide BU
    clear h hi b0' m0' hjb hlt
    go_enter Try.func26, Try.ntmps26
    go_upto_region 1 with fail
    rw [← hW0, ← HE.out]
    clear hW0 hE
    go_wp2_with fail
    refine Calls.mono BU.out ?_
    rintro e w9 ⟨rfl, rfl⟩
    go_wp2_with (refine wpList_ldR rfl 68 (.tmp 3) rfl E rfl _ (evV ev) M0.out Try.underlying68 ev_info ?_)
    refine Calls.mono BE.out ?_
    rintro e W1 ⟨rfl, bb⟩
    have FA : Hid (StepQ N w W1 B n p) := StepQ.stay (P0.out.below bb).at HI.out (B0.out.trans (bb.mono P0.out.gN))
    clear bb BE
    go_wp2_with fail
    go_ret
    exact ⟨rfl, FA.out⟩
end Go.Proofs.Ytpleakkhbfhdkaa.Cn
namespace Go.Proofs.Ytpleakkhbfhdkaa.Cn
open Go.RowKit
set_option maxHeartbeats 8000000 in
set_option maxRecDepth 100000 in
set_option linter.unusedSimpArgs false in
set_option linter.unusedVariables false in
theorem step_tick {N : Nat} {w : World} {B C : Nat} {S : Nat → Prop} {nv lv fv bv av : Value} {p : Pl} (h : PlX N w B C S nv lv fv bv av p) {n : Nat} (hi : PI n p) (hjb : p.job ≤ 1000000000) (hlt : p.lt.length ≤ 1000000000) (ev : Ev) (hk : ev.k = 2) :
    Calls Try.prog 26 #[.pointer (some ⟨B, 0, none⟩), .agg (evV ev)] w fun e w' => e = .returned (.bool true) ∧ StepQ N w w' B n p := by
  obtain ⟨E, hE⟩ : ∃ E, E = w.heap.size := ⟨_, rfl⟩
  obtain ⟨W0, hW0⟩ : ∃ W0, W0 = w.alloc (.cells (evV ev) 68) := ⟨_, rfl⟩
  have b0' : Below w.heap.size w W0 := by rw [hW0]; exact (Below.refl _ w).alloc (Nat.le_refl _) _
  have m0' : W0.heap[E]? = some (.cells (evV ev) 68) := by rw [hW0, hE]; exact heap_last _ _
  have P0 := hide (h.below b0')
  have B0 : Hid (Below N w W0) := b0'.mono h.gN
  have M0 := hide m0'
  have EX : Hid (∀ q, plS B S nv lv fv bv av q → q < E) := fun q e => by
    rw [hE]
    rcases e with e | e | e | e | e | e | e
    · rw [e]; exact blk_lt h.ob
    · exact h.ct.lt q e
    · exact own_lt2 h.nd e
    · exact own_lt2 h.lt e
    · exact own_lt2 h.fe e
    · exact own_lt2 h.ba e
    · exact own_lt2 h.at' e
  have x0 := P0.out.cells.1
  have y0 : W0.cell? ⟨E, 0, none⟩ = some (.int .i64 ev.k) := by rw [cell_row m0']; rfl
  have y1 : W0.cell? ⟨E, 1, none⟩ = some (.int .i64 ev.n) := by rw [cell_row m0']; rfl
  have y2 : W0.cell? ⟨E, 2, none⟩ = some (.int .i64 ev.v) := by rw [cell_row m0']; rfl
  have BU := busy_any P0.out.ct hi.ci.fine.n1
  have HI := hide hi
  have HJB := hide hjb
  have HLT := hide hlt
  have n16 := hi.n16
  have n1 := hi.n1
  have HE := hide hE
  rw [hk] at y0
  clear hk
  have CA := hide (Tick_c P0.out.ct hi.ci.fine)
  cases hp : p.c.ph with
  | none =>
    rw [hp] at BU
    have HP := hide hp
    clear hp
    replace BU := hide BU
    clear h hi b0' m0' hjb hlt
    go_enter Try.func26, Try.ntmps26
    go_upto_region 1 with fail
    rw [← hW0, ← HE.out]
    clear hW0 hE
    go_wp2_with fail
    refine Calls.mono BU.out ?_
    rintro e w9 ⟨rfl, rfl⟩
    go_wp2_with fail
    refine Calls.mono CA.out ?_
    rintro e W1 ⟨vv, rfl, di⟩
    obtain ⟨S1, pT, rT, lT, bT⟩ := P0.out.did di
    have tl : tickL p.c = [] := by unfold tickL; rw [HP.out]
    have tc : tickC p.c = p.c := by unfold tickC; rw [HP.out]
    rw [tl] at rT
    rw [tc] at pT
    obtain ⟨va, vc, hvv⟩ := own_sl rT
    have hvv2 : vv = .slice va 0 vc := hvv
    have FA : Hid (StepQ N w W1 B n p) := StepQ.stay pT.at HI.out (B0.out.trans bT)
    clear pT rT lT bT di tl tc hvv
    subst hvv2
    go_wp2_with fail
    refine Calls.mono went_none ?_
    rintro e w9 ⟨rfl, rfl⟩
    go_wp2_with fail
    go_ret
    exact ⟨rfl, FA.out⟩
  | some x =>
    rw [hp] at BU
    obtain ⟨ph, rd⟩ := x
    have ST := hide (tick_step hi.ci hp)
    have FB := hide (hi.fb (by rw [hp]; simp))
    have LE := hide (tickL_len hi.ci.fine)
    clear hp
    replace BU := hide BU
    clear h hi b0' m0' hjb hlt
    go_enter Try.func26, Try.ntmps26
    go_upto_region 1 with fail
    rw [← hW0, ← HE.out]
    clear hW0 hE
    go_wp2_with fail
    refine Calls.mono BU.out ?_
    rintro e w9 ⟨rfl, rfl⟩
    go_wp2_with fail
    refine Calls.mono CA.out ?_
    rintro e W1 ⟨vv, rfl, di⟩
    obtain ⟨S1, pT, rT, lT, bT⟩ := P0.out.did di
    have WS := hide (went_step pT ST.out HI.out.nn HI.out.na FB.out.1 FB.out.2.1 FB.out.2.2.1 FB.out.2.2.2 HI.out.lt rT lT LE.out HLT.out)
    have BT : Hid (Below N w W1) := B0.out.trans bT
    clear pT rT lT bT di CA
    go_wp2_with fail
    refine Calls.mono WS.out ?_
    rintro e WF ⟨rfl, lvF, pF, a1, a2, a3, a4, a5, a6, a7⟩
    have FA : Hid (StepQ N w WF B n p) := ⟨pF, a1.at, a2, BT.out.trans a3, by rw [a5]; show p.job ≤ _; omega, a6⟩
    clear a1 a2 a3 a4 a5 a6 a7 WS
    go_wp2_with fail
    go_ret
    exact ⟨rfl, FA.out⟩
end Go.Proofs.Ytpleakkhbfhdkaa.Cn
namespace Go.Proofs.Ytpleakkhbfhdkaa.Cn
open Go.RowKit
set_option maxHeartbeats 8000000 in
set_option maxRecDepth 100000 in
set_option linter.unusedSimpArgs false in
set_option linter.unusedVariables false in
theorem step_stop {N : Nat} {w : World} {B C : Nat} {S : Nat → Prop} {nv lv fv bv av : Value} {p : Pl} (h : PlX N w B C S nv lv fv bv av p) {n : Nat} (hi : PI n p) (hjb : p.job ≤ 1000000000) (hlt : p.lt.length ≤ 1000000000) (ev : Ev) (hk : ev.k = 6) :
    Calls Try.prog 26 #[.pointer (some ⟨B, 0, none⟩), .agg (evV ev)] w fun e w' => e = .returned (.bool true) ∧ StepQ N w w' B n p := by
  obtain ⟨E, hE⟩ : ∃ E, E = w.heap.size := ⟨_, rfl⟩
  obtain ⟨W0, hW0⟩ : ∃ W0, W0 = w.alloc (.cells (evV ev) 68) := ⟨_, rfl⟩
  have b0' : Below w.heap.size w W0 := by rw [hW0]; exact (Below.refl _ w).alloc (Nat.le_refl _) _
  have m0' : W0.heap[E]? = some (.cells (evV ev) 68) := by rw [hW0, hE]; exact heap_last _ _
  have P0 := hide (h.below b0')
  have B0 : Hid (Below N w W0) := b0'.mono h.gN
  have M0 := hide m0'
  have EX : Hid (∀ q, plS B S nv lv fv bv av q → q < E) := fun q e => by
    rw [hE]
    rcases e with e | e | e | e | e | e | e
    · rw [e]; exact blk_lt h.ob
    · exact h.ct.lt q e
    · exact own_lt2 h.nd e
    · exact own_lt2 h.lt e
    · exact own_lt2 h.fe e
    · exact own_lt2 h.ba e
    · exact own_lt2 h.at' e
  have x0 := P0.out.cells.1
  have y0 : W0.cell? ⟨E, 0, none⟩ = some (.int .i64 ev.k) := by rw [cell_row m0']; rfl
  have y1 : W0.cell? ⟨E, 1, none⟩ = some (.int .i64 ev.n) := by rw [cell_row m0']; rfl
  have y2 : W0.cell? ⟨E, 2, none⟩ = some (.int .i64 ev.v) := by rw [cell_row m0']; rfl
  have BU := busy_any P0.out.ct hi.ci.fine.n1
  have HI := hide hi
  have HJB := hide hjb
  have HLT := hide hlt
  have n16 := hi.n16
  have n1 := hi.n1
  have HE := hide hE
  rw [hk] at y0
  clear hk
  cases hp : p.c.ph with
  | none =>
    rw [hp] at BU
    clear hp
    replace BU := hide BU
    clear h hi b0' m0' hjb hlt
    go_enter Try.func26, Try.ntmps26
    go_upto_region 1 with fail
    rw [← hW0, ← HE.out]
    clear hW0 hE
    go_wp2_with fail
    refine Calls.mono BU.out ?_
    rintro e w9 ⟨rfl, rfl⟩
    go_wp2_with fail
    go_ret
    exact ⟨rfl, StepQ.stay P0.out.at HI.out B0.out⟩
  | some x =>
    rw [hp] at BU
    obtain ⟨ph, rd⟩ := x
    have CA := hide (Stop_c P0.out.ct hi.ci.fine hp)
    have ST := hide (stop_step hi.ci hp)
    have FB := hide (hi.fb (by rw [hp]; simp))
    have LE := hide (stopL_len hi.ci.fine)
    clear hp
    replace BU := hide BU
    clear h hi b0' m0' hjb hlt
    go_enter Try.func26, Try.ntmps26
    go_upto_region 1 with fail
    rw [← hW0, ← HE.out]
    clear hW0 hE
    go_wp2_with fail
    refine Calls.mono BU.out ?_
    rintro e w9 ⟨rfl, rfl⟩
    go_wp2_with fail
    refine Calls.mono CA.out ?_
    rintro e W1 ⟨vv, rfl, di⟩
    obtain ⟨S1, pT, rT, lT, bT⟩ := P0.out.did di
    have WS := hide (went_step pT ST.out HI.out.nn HI.out.na FB.out.1 FB.out.2.1 FB.out.2.2.1 FB.out.2.2.2 HI.out.lt rT lT LE.out HLT.out)
    have BT : Hid (Below N w W1) := B0.out.trans bT
    clear pT rT lT bT di CA
    go_wp2_with fail
    refine Calls.mono WS.out ?_
    rintro e WF ⟨rfl, lvF, pF, a1, a2, a3, a4, a5, a6, a7⟩
    have FA : Hid (StepQ N w WF B n p) := ⟨pF, a1.at, a2, BT.out.trans a3, by rw [a5]; show p.job ≤ _; omega, a6⟩
    clear a1 a2 a3 a4 a5 a6 a7 WS
    go_wp2_with fail
    go_ret
    exact ⟨rfl, FA.out⟩
end Go.Proofs.Ytpleakkhbfhdkaa.Cn
namespace Go.Proofs.Ytpleakkhbfhdkaa.Cn
open Go.RowKit
set_option maxHeartbeats 8000000 in
set_option maxRecDepth 100000 in
set_option linter.unusedSimpArgs false in
set_option linter.unusedVariables false in
theorem step_revive {N : Nat} {w : World} {B C : Nat} {S : Nat → Prop} {nv lv fv bv av : Value} {p : Pl} (h : PlX N w B C S nv lv fv bv av p) {n : Nat} (hi : PI n p) (hjb : p.job ≤ 1000000000) (hlt : p.lt.length ≤ 1000000000) (ev : Ev) (hk : ev.k = 7) :
    Calls Try.prog 26 #[.pointer (some ⟨B, 0, none⟩), .agg (evV ev)] w fun e w' => e = .returned (.bool true) ∧ StepQ N w w' B n p := by
  obtain ⟨E, hE⟩ : ∃ E, E = w.heap.size := ⟨_, rfl⟩
  obtain ⟨W0, hW0⟩ : ∃ W0, W0 = w.alloc (.cells (evV ev) 68) := ⟨_, rfl⟩
  have b0' : Below w.heap.size w W0 := by rw [hW0]; exact (Below.refl _ w).alloc (Nat.le_refl _) _
  have m0' : W0.heap[E]? = some (.cells (evV ev) 68) := by rw [hW0, hE]; exact heap_last _ _
  have P0 := hide (h.below b0')
  have B0 : Hid (Below N w W0) := b0'.mono h.gN
  have M0 := hide m0'
  have EX : Hid (∀ q, plS B S nv lv fv bv av q → q < E) := fun q e => by
    rw [hE]
    rcases e with e | e | e | e | e | e | e
    · rw [e]; exact blk_lt h.ob
    · exact h.ct.lt q e
    · exact own_lt2 h.nd e
    · exact own_lt2 h.lt e
    · exact own_lt2 h.fe e
    · exact own_lt2 h.ba e
    · exact own_lt2 h.at' e
  have x0 := P0.out.cells.1
  have y0 : W0.cell? ⟨E, 0, none⟩ = some (.int .i64 ev.k) := by rw [cell_row m0']; rfl
  have y1 : W0.cell? ⟨E, 1, none⟩ = some (.int .i64 ev.n) := by rw [cell_row m0']; rfl
  have y2 : W0.cell? ⟨E, 2, none⟩ = some (.int .i64 ev.v) := by rw [cell_row m0']; rfl
  have BU := busy_any P0.out.ct hi.ci.fine.n1
  have HI := hide hi
  have HJB := hide hjb
  have HLT := hide hlt
  have n16 := hi.n16
  have n1 := hi.n1
  have HE := hide hE
  rw [hk] at y0
  clear hk
  cases hp : p.c.ph with
  | none =>
    rw [hp] at BU
    clear hp
    replace BU := hide BU
    clear h hi b0' m0' hjb hlt
    go_enter Try.func26, Try.ntmps26
    go_upto_region 1 with fail
    rw [← hW0, ← HE.out]
    clear hW0 hE
    go_wp2_with fail
    refine Calls.mono BU.out ?_
    rintro e w9 ⟨rfl, rfl⟩
    go_wp2_with fail
    go_ret
    exact ⟨rfl, StepQ.stay P0.out.at HI.out B0.out⟩
  | some x =>
    rw [hp] at BU
    obtain ⟨ph, rd⟩ := x
    have ST0 := hide (rev_step hi.ci hp)
    have FB := hide (hi.fb (by rw [hp]; simp))
    have LE := hide (revL_len hi.ci.fine)
    have HP := hide hp
    have NO := hide (nones_any W0 n n16)
    obtain ⟨na, nc, hnv⟩ := own_sl P0.out.nd
    rw [hi.nn] at hnv
    have x1 := P0.out.cells.2.1
    rw [hnv] at x1
    clear hp hnv
    replace BU := hide BU
    clear h hi b0' m0' hjb hlt
    go_enter Try.func26, Try.ntmps26
    go_upto_region 1 with fail
    rw [← hW0, ← HE.out]
    clear hW0 hE
    go_wp2_with fail
    refine Calls.mono BU.out ?_
    rintro e w9 ⟨rfl, rfl⟩
    go_wp2_with fail
    refine Calls.mono NO.out ?_
    rintro e W5 ⟨bv2, rfl, o5, b5⟩
    have P5 := hide (P0.out.below b5)
    have B5 : Hid (Below N w W5) := B0.out.trans (b5.mono P0.out.gN)
    obtain ⟨ba, bc, hbv⟩ := own_sl o5
    have x7 := P5.out.cells.2.2.2.2.2.2.2.1
    have z7 : W5.frozen? ⟨B, 7, none⟩ = false := fz_row P5.out.ob 7
    obtain ⟨W6, hW6⟩ : ∃ X, X = W5.setCell ⟨B, 7, none⟩ bv2 := ⟨_, rfl⟩
    have k6 : Kp W5 W6 (fun k => k = B) := by rw [hW6]; exact (Kp.refl W5 (fun k => k = B)).set (Or.inl rfl) _ _
    have P6 : Hid (PlX N W6 B C S nv lv fv bv2 av { p with ba := fls n }) := by
      rw [hW6]
      exact P5.out.own 7 bv2 { p with ba := fls n } nv lv fv bv2 av rfl rfl P5.out.nd P5.out.lt P5.out.fe (own_mono o5 P0.out.gN) P5.out.at' P5.out.sn P5.out.sl P5.out.sf (fun k e s => by have := own_ge o5 e; have := P0.out.ct.lt k s; omega) P5.out.sa (fun k e f => by have := own_ge o5 f; have := own_lt2 P0.out.fe e; omega)
    have B6 : Hid (Below N w W6) := B5.out.trans (k6.toN P5.out.gN (fun k e => by rw [e]; exact P5.out.gB))
    subst hbv
    replace hW6 := hide hW6
    clear o5 b5 k6 x1
    go_upto_region 14 with fail
    rw [← hW6.out]
    clear hW6 x7 z7 P5 B5 y0 y1 y2 x0
    have x0 := P6.out.cells.1
    have ST : Hid (StepI ({ p with ba := fls n, c := revC p.c } : Pl).c (revL p.c) n p.job p.kind p.ver p.bk (feF p) (baF { p with ba := fls n, c := revC p.c }) (ndF p)) := by
      rw [fls_ba _ n rfl]
      exact ST0.out
    have CA := hide (Revive_c P6.out.ct HI.out.ci.fine HP.out)
    go_wp2_with fail
    refine Calls.mono CA.out ?_
    rintro e W1 ⟨vv, rfl, di⟩
    obtain ⟨S1, pT, rT, lT, bT⟩ := P6.out.did di
    have WS := hide (went_step pT ST.out HI.out.nn HI.out.na FB.out.1 (fls_len n) FB.out.2.2.1 FB.out.2.2.2 HI.out.lt rT lT LE.out HLT.out)
    have BT : Hid (Below N w W1) := B6.out.trans bT
    clear pT rT lT bT di CA
    go_wp2_with fail
    refine Calls.mono WS.out ?_
    rintro e WF ⟨rfl, lvF, pF, a1, a2, a3, a4, a5, a6, a7⟩
    have FA : Hid (StepQ N w WF B n p) := ⟨pF, a1.at, a2, BT.out.trans a3, by rw [a5]; show p.job ≤ _; omega, a6⟩
    clear a1 a2 a3 a4 a5 a6 a7 WS
    go_wp2_with fail
    go_ret
    exact ⟨rfl, FA.out⟩
end Go.Proofs.Ytpleakkhbfhdkaa.Cn
namespace Go.Proofs.Ytpleakkhbfhdkaa.Cn
open Go.RowKit
set_option maxHeartbeats 8000000 in
set_option maxRecDepth 100000 in
set_option linter.unusedSimpArgs false in
set_option linter.unusedVariables false in
theorem step_sick {N : Nat} {w : World} {B C : Nat} {S : Nat → Prop} {nv lv fv bv av : Value} {p : Pl} (h : PlX N w B C S nv lv fv bv av p) {n : Nat} (hi : PI n p) (hjb : p.job ≤ 1000000000) (hlt : p.lt.length ≤ 1000000000) (ev : Ev) (hk : ev.k = 8) :
    Calls Try.prog 26 #[.pointer (some ⟨B, 0, none⟩), .agg (evV ev)] w fun e w' => e = .returned (.bool true) ∧ StepQ N w w' B n p := by
  obtain ⟨E, hE⟩ : ∃ E, E = w.heap.size := ⟨_, rfl⟩
  obtain ⟨W0, hW0⟩ : ∃ W0, W0 = w.alloc (.cells (evV ev) 68) := ⟨_, rfl⟩
  have b0' : Below w.heap.size w W0 := by rw [hW0]; exact (Below.refl _ w).alloc (Nat.le_refl _) _
  have m0' : W0.heap[E]? = some (.cells (evV ev) 68) := by rw [hW0, hE]; exact heap_last _ _
  have P0 := hide (h.below b0')
  have B0 : Hid (Below N w W0) := b0'.mono h.gN
  have M0 := hide m0'
  have EX : Hid (∀ q, plS B S nv lv fv bv av q → q < E) := fun q e => by
    rw [hE]
    rcases e with e | e | e | e | e | e | e
    · rw [e]; exact blk_lt h.ob
    · exact h.ct.lt q e
    · exact own_lt2 h.nd e
    · exact own_lt2 h.lt e
    · exact own_lt2 h.fe e
    · exact own_lt2 h.ba e
    · exact own_lt2 h.at' e
  have x0 := P0.out.cells.1
  have y0 : W0.cell? ⟨E, 0, none⟩ = some (.int .i64 ev.k) := by rw [cell_row m0']; rfl
  have y1 : W0.cell? ⟨E, 1, none⟩ = some (.int .i64 ev.n) := by rw [cell_row m0']; rfl
  have y2 : W0.cell? ⟨E, 2, none⟩ = some (.int .i64 ev.v) := by rw [cell_row m0']; rfl
  have BU := busy_any P0.out.ct hi.ci.fine.n1
  have HI := hide hi
  have HJB := hide hjb
  have HLT := hide hlt
  have n16 := hi.n16
  have n1 := hi.n1
  have HE := hide hE
  rw [hk] at y0
  clear hk
  have MO1 := fun w => mod15_any ev.n (n : Int) (by omega) (by omega) w
  have MO2 := fun w => mod15_any ev.v 2 (by omega) (by omega) w
  obtain ⟨q1, hq1⟩ : ∃ q, ev.n % (n : Int) = q := ⟨_, rfl⟩
  obtain ⟨q2, hq2⟩ : ∃ q, ev.v % 2 = q := ⟨_, rfl⟩
  have e11 : 0 ≤ q1 := by rw [← hq1]; exact Int.emod_nonneg _ (by omega)
  have e12 : q1 < (n : Int) := by rw [← hq1]; exact Int.emod_lt_of_pos _ (by omega)
  rw [hq1] at MO1
  rw [hq2] at MO2
  obtain ⟨kk, hkk⟩ : ∃ kk : Nat, q1 = (kk : Int) := ⟨q1.toNat, by omega⟩
  subst hkk
  have hkn : kk < n := by omega
  replace MO1 := hide MO1
  replace MO2 := hide MO2
  have hkl : kk < p.nd.length := by rw [hi.nn]; exact hkn
  obtain ⟨g, gc, cur, hnv, ndx, gnlt, gnN, pn⟩ := P0.out.node kk hkl
  rw [hi.nn] at hnv
  obtain ⟨nd, hnd⟩ : ∃ nd, nd = ndF p kk := ⟨_, rfl⟩
  have hnd2 : p.nd[kk] = nd := by rw [hnd]; exact (getD_at hkl).symm
  rw [hnd2] at ndx
  have gE : Hid (E ≠ g) := by have := EX.out g (Or.inr (Or.inr (Or.inl (by rw [hnv]; rfl)))); unfold Hid; omega
  have gB : Hid (B ≠ g) := fun e => P0.out.ne.1 g (by rw [hnv]; rfl) e.symm
  obtain ⟨bl, hbl⟩ : ∃ bl : Bool, (q2 == 1) = bl := ⟨_, rfl⟩
  obtain ⟨W2, hW2⟩ : ∃ X, X = (W0.setCell ⟨g, kk * 8 + 6, none⟩ (.bool bl)).drew := ⟨_, rfl⟩
  have k2 : Kp W0 (W0.setCell ⟨g, kk * 8 + 6, none⟩ (.bool bl)) (fun q => q = g) := (Kp.refl W0 (fun q => q = g)).set (Or.inl rfl) _ _
  have n2 := ndx.set { nd with sick := bl } 6 (.bool bl) (by decide) rfl (fun i hi hn => by rcases i with _|_|_|_|_|_|_|_|i <;> first | rfl | omega | exact absurd rfl hn)
  have P2 : Hid (PlX N W2 B C S nv lv fv bv av { p with nd := p.nd.set kk { nd with sick := bl } }) := by
    rw [hW2]
    exact (pn _ _ n2 k2).kp ((Kp.refl _ non).drew) (fun _ f => f.elim)
  have B2 : Hid (Below N w W2) := by rw [hW2]; exact B0.out.trans ((k2.drew).toN P0.out.gN (fun q e => by rw [e]; exact gnN))
  have GK : Hid (W2.heap[B]? = W0.heap[B]? ∧ W2.heap[E]? = W0.heap[E]?) := by rw [hW2]; exact ⟨k2.block B (blk_lt P0.out.ob) gB.out, k2.block E (blk_lt M0.out) gE.out⟩
  have PI2 : Hid (PI n { p with nd := p.nd.set kk { nd with sick := bl } }) := hi.flag kk hkn _ (by rw [hnd]; exact ⟨rfl, rfl, rfl, rfl, rfl, rfl⟩)
  have gcl : ∃ u, W0.cell? ⟨g, kk * 8 + 6, none⟩ = some u := ⟨_, ndx.cells.2.2.2.2.2.2.1⟩
  obtain ⟨gu, gcl⟩ := gcl
  have gfz := ndx.fz (kk * 8 + 6)
  have FG : Hid (∀ X : World, (X.heap[B]? = W0.heap[B]? ∧ X.heap[E]? = W0.heap[E]?) → X.cell? ⟨B, 1, none⟩ = some (.slice (some ⟨g, 0, none⟩) n gc) ∧ X.cell? ⟨E, 1, none⟩ = some (.int .i64 ev.n) ∧ X.cell? ⟨E, 2, none⟩ = some (.int .i64 ev.v)) := fun X hX => by
    unfold World.cell?
    rw [hX.1, hX.2, P0.out.ob, M0.out, ← hnv]
    exact ⟨rfl, rfl, rfl⟩
  have kkn : (kk : Int) < (n : Int) := by omega
  replace hW2 := hide hW2
  have HBL := hide hbl
  clear hnv ndx n2 k2 pn hnd hnd2 hq1 hq2 gnlt gnN hbl
  replace BU := hide BU
  clear h hi b0' m0' hjb hlt
  go_enter Try.func26, Try.ntmps26
  go_upto_region 1 with fail
  rw [← hW0, ← HE.out]
  clear hW0 hE
  go_wp2_with fail
  refine Calls.mono BU.out ?_
  rintro e w9 ⟨rfl, rfl⟩
  go_upto_region 19 with fail
  clear y0 y1 y2 x0
  refine wp_region_held_drew (S := fun X => X.heap[B]? = W0.heap[B]? ∧ X.heap[E]? = W0.heap[E]?) (by kernel_rfl) ⟨rfl, rfl⟩ (fun hHeld => ?_)
  refine wpAnyH_take (i := 0) (v := (.pointer (some ⟨B, 0, none⟩))) rfl (by kernel_rfl) (by kernel_rfl) (by kernel_rfl) (fun _ _ _ h => h) (Or.inl ⟨by kernel_rfl, ?_⟩) (by assumption) ?_
  · intro w' hSw
    (try dsimp only at hSw)
    go_simp
  (try simp only [Act.put, List.getElem_toArray, List.getElem_cons_zero, List.getElem_cons_succ, List.setIfInBounds_toArray, List.set_cons_zero, List.set_cons_succ])
  refine wpAnyH_take (i := 1) (v := (.pointer (some ⟨B, 0, none⟩))) rfl (by kernel_rfl) (by kernel_rfl) (by kernel_rfl) (fun _ _ _ h => h) (Or.inl ⟨by kernel_rfl, ?_⟩) (by assumption) ?_
  · intro w' hSw
    (try dsimp only at hSw)
    go_simp
  (try simp only [Act.put, List.getElem_toArray, List.getElem_cons_zero, List.getElem_cons_succ, List.setIfInBounds_toArray, List.set_cons_zero, List.set_cons_succ])
  refine wpAnyH_take (i := 2) (v := (.pointer (some ⟨B, 1, none⟩))) rfl (by kernel_rfl) (by kernel_rfl) (by kernel_rfl) (fun _ _ _ h => h) (Or.inl ⟨by kernel_rfl, ?_⟩) (by assumption) ?_
  · intro w' hSw
    (try dsimp only at hSw)
    go_simp
  (try simp only [Act.put, List.getElem_toArray, List.getElem_cons_zero, List.getElem_cons_succ, List.setIfInBounds_toArray, List.set_cons_zero, List.set_cons_succ])
  refine wpAnyH_take (i := 3) (v := (.slice (some ⟨g, 0, none⟩) n gc)) rfl (by kernel_rfl) (by kernel_rfl) (by kernel_rfl) (fun _ _ _ h => h) (Or.inl ⟨by kernel_rfl, ?_⟩) (by assumption) ?_
  · intro w' hSw
    (try dsimp only at hSw)
    (have z := (FG.out _ hSw).1; go_simp)
  (try simp only [Act.put, List.getElem_toArray, List.getElem_cons_zero, List.getElem_cons_succ, List.setIfInBounds_toArray, List.set_cons_zero, List.set_cons_succ])
  refine wpAnyH_take (i := 4) (v := (.pointer (some ⟨E, 1, none⟩))) rfl (by kernel_rfl) (by kernel_rfl) (by kernel_rfl) (fun _ _ _ h => h) (Or.inl ⟨by kernel_rfl, ?_⟩) (by assumption) ?_
  · intro w' hSw
    (try dsimp only at hSw)
    go_simp
  (try simp only [Act.put, List.getElem_toArray, List.getElem_cons_zero, List.getElem_cons_succ, List.setIfInBounds_toArray, List.set_cons_zero, List.set_cons_succ])
  refine wpAnyH_take (i := 5) (v := (.int .i64 ev.n)) rfl (by kernel_rfl) (by kernel_rfl) (by kernel_rfl) (fun _ _ _ h => h) (Or.inl ⟨by kernel_rfl, ?_⟩) (by assumption) ?_
  · intro w' hSw
    (try dsimp only at hSw)
    (have z := (FG.out _ hSw).2.1; go_simp)
  (try simp only [Act.put, List.getElem_toArray, List.getElem_cons_zero, List.getElem_cons_succ, List.setIfInBounds_toArray, List.set_cons_zero, List.set_cons_succ])
  refine wpAnyH_take (i := 6) (v := (.pointer (some ⟨B, 0, none⟩))) rfl (by kernel_rfl) (by kernel_rfl) (by kernel_rfl) (fun _ _ _ h => h) (Or.inl ⟨by kernel_rfl, ?_⟩) (by assumption) ?_
  · intro w' hSw
    (try dsimp only at hSw)
    go_simp
  (try simp only [Act.put, List.getElem_toArray, List.getElem_cons_zero, List.getElem_cons_succ, List.setIfInBounds_toArray, List.set_cons_zero, List.set_cons_succ])
  refine wpAnyH_take (i := 7) (v := (.pointer (some ⟨B, 0, none⟩))) rfl (by kernel_rfl) (by kernel_rfl) (by kernel_rfl) (fun _ _ _ h => h) (Or.inl ⟨by kernel_rfl, ?_⟩) (by assumption) ?_
  · intro w' hSw
    (try dsimp only at hSw)
    go_simp
  (try simp only [Act.put, List.getElem_toArray, List.getElem_cons_zero, List.getElem_cons_succ, List.setIfInBounds_toArray, List.set_cons_zero, List.set_cons_succ])
  refine wpAnyH_take (i := 8) (v := (.pointer (some ⟨B, 1, none⟩))) rfl (by kernel_rfl) (by kernel_rfl) (by kernel_rfl) (fun _ _ _ h => h) (Or.inl ⟨by kernel_rfl, ?_⟩) (by assumption) ?_
  · intro w' hSw
    (try dsimp only at hSw)
    go_simp
  (try simp only [Act.put, List.getElem_toArray, List.getElem_cons_zero, List.getElem_cons_succ, List.setIfInBounds_toArray, List.set_cons_zero, List.set_cons_succ])
  refine wpAnyH_take (i := 9) (v := (.slice (some ⟨g, 0, none⟩) n gc)) rfl (by kernel_rfl) (by kernel_rfl) (by kernel_rfl) (fun _ _ _ h => h) (Or.inl ⟨by kernel_rfl, ?_⟩) (by assumption) ?_
  · intro w' hSw
    (try dsimp only at hSw)
    (have z := (FG.out _ hSw).1; go_simp)
  (try simp only [Act.put, List.getElem_toArray, List.getElem_cons_zero, List.getElem_cons_succ, List.setIfInBounds_toArray, List.set_cons_zero, List.set_cons_succ])
  refine wpAnyH_take (i := 10) (v := (.int .i64 (n : Int))) rfl (by kernel_rfl) (by kernel_rfl) (by kernel_rfl) (fun _ _ _ h => h) (Or.inl ⟨by kernel_rfl, ?_⟩) (by assumption) ?_
  · intro w' hSw
    (try dsimp only at hSw)
    go_simp
  (try simp only [Act.put, List.getElem_toArray, List.getElem_cons_zero, List.getElem_cons_succ, List.setIfInBounds_toArray, List.set_cons_zero, List.set_cons_succ])
  refine wpAnyH_callTake (i := 11) (v := (.int .i64 (kk : Int))) rfl (by kernel_rfl) (by kernel_rfl) (by kernel_rfl) (fun _ _ _ h => h) (by kernel_rfl) 8 #[.int .i64 ev.n, .int .i64 (n : Int)] (fun w' => by kernel_rfl) (fun w' hSw => MO1.out w') (by assumption) ?_
  (try simp only [Act.put, List.getElem_toArray, List.getElem_cons_zero, List.getElem_cons_succ, List.setIfInBounds_toArray, List.set_cons_zero, List.set_cons_succ])
  refine wpAnyH_take (i := 12) (v := (.pointer (some ⟨E, 2, none⟩))) rfl (by kernel_rfl) (by kernel_rfl) (by kernel_rfl) (fun _ _ _ h => h) (Or.inl ⟨by kernel_rfl, ?_⟩) (by assumption) ?_
  · intro w' hSw
    (try dsimp only at hSw)
    go_simp
  (try simp only [Act.put, List.getElem_toArray, List.getElem_cons_zero, List.getElem_cons_succ, List.setIfInBounds_toArray, List.set_cons_zero, List.set_cons_succ])
  refine wpAnyH_take (i := 13) (v := (.int .i64 ev.v)) rfl (by kernel_rfl) (by kernel_rfl) (by kernel_rfl) (fun _ _ _ h => h) (Or.inl ⟨by kernel_rfl, ?_⟩) (by assumption) ?_
  · intro w' hSw
    (try dsimp only at hSw)
    (have z := (FG.out _ hSw).2.2; go_simp)
  (try simp only [Act.put, List.getElem_toArray, List.getElem_cons_zero, List.getElem_cons_succ, List.setIfInBounds_toArray, List.set_cons_zero, List.set_cons_succ])
  refine wpAnyH_callTake (i := 14) (v := (.int .i64 q2)) rfl (by kernel_rfl) (by kernel_rfl) (by kernel_rfl) (fun _ _ _ h => h) (by kernel_rfl) 8 #[.int .i64 ev.v, .int .i64 2] (fun w' => by kernel_rfl) (fun w' hSw => MO2.out w') (by assumption) ?_
  (try simp only [Act.put, List.getElem_toArray, List.getElem_cons_zero, List.getElem_cons_succ, List.setIfInBounds_toArray, List.set_cons_zero, List.set_cons_succ])
  refine wpAnyH_take (i := 15) (v := (.bool bl)) rfl (by kernel_rfl) (by kernel_rfl) (by kernel_rfl) (fun _ _ _ h => h) (Or.inl ⟨by kernel_rfl, ?_⟩) (by assumption) ?_
  · intro w' hSw
    (try dsimp only at hSw)
    (have z := HBL.out; go_simp)
  (try simp only [Act.put, List.getElem_toArray, List.getElem_cons_zero, List.getElem_cons_succ, List.setIfInBounds_toArray, List.set_cons_zero, List.set_cons_succ])
  refine wpAnyH_take (i := 16) (v := (.pointer (some ⟨g, kk * 8, none⟩))) rfl (by kernel_rfl) (by kernel_rfl) (by kernel_rfl) (fun _ _ _ h => h) (Or.inl ⟨by kernel_rfl, ?_⟩) (by assumption) ?_
  · intro w' hSw
    (try dsimp only at hSw)
    go_simp
  (try simp only [Act.put, List.getElem_toArray, List.getElem_cons_zero, List.getElem_cons_succ, List.setIfInBounds_toArray, List.set_cons_zero, List.set_cons_succ])
  refine wpAnyH_take (i := 17) (v := (.pointer (some ⟨g, kk * 8 + 6, none⟩))) rfl (by kernel_rfl) (by kernel_rfl) (by kernel_rfl) (fun _ _ _ h => h) (Or.inl ⟨by kernel_rfl, ?_⟩) (by assumption) ?_
  · intro w' hSw
    (try dsimp only at hSw)
    go_simp
  (try simp only [Act.put, List.getElem_toArray, List.getElem_cons_zero, List.getElem_cons_succ, List.setIfInBounds_toArray, List.set_cons_zero, List.set_cons_succ])
  refine wpAnyH_ready (rs := [18]) (by kernel_rfl) (by simp) ?_
  refine AllReadyH.cons rfl (fun K hK => ?_) AllReadyH.nil
  go_simp
  rw [← hW2.out]
  clear hW2 gcl gfz
  refine hK.out _ _ (GK.out) (fun hHeld => ?_)
  clear hK
  (try simp only [Act.put, List.setIfInBounds_toArray, List.set_cons_zero, List.set_cons_succ])
  refine wpAnyH_done (by kernel_rfl) ?_ _
  clear hHeld FG
  go_wp2_with fail
  go_ret
  exact ⟨rfl, _, P2.out.at, PI2.out, B2.out, by show p.job ≤ _; omega, by show p.lt.length ≤ _; omega⟩
set_option maxHeartbeats 8000000 in
set_option maxRecDepth 100000 in
set_option linter.unusedSimpArgs false in
set_option linter.unusedVariables false in
theorem step_deaf {N : Nat} {w : World} {B C : Nat} {S : Nat → Prop} {nv lv fv bv av : Value} {p : Pl} (h : PlX N w B C S nv lv fv bv av p) {n : Nat} (hi : PI n p) (hjb : p.job ≤ 1000000000) (hlt : p.lt.length ≤ 1000000000) (ev : Ev) (hk : ev.k = 9) :
    Calls Try.prog 26 #[.pointer (some ⟨B, 0, none⟩), .agg (evV ev)] w fun e w' => e = .returned (.bool true) ∧ StepQ N w w' B n p := by
  obtain ⟨E, hE⟩ : ∃ E, E = w.heap.size := ⟨_, rfl⟩
  obtain ⟨W0, hW0⟩ : ∃ W0, W0 = w.alloc (.cells (evV ev) 68) := ⟨_, rfl⟩
  have b0' : Below w.heap.size w W0 := by rw [hW0]; exact (Below.refl _ w).alloc (Nat.le_refl _) _
  have m0' : W0.heap[E]? = some (.cells (evV ev) 68) := by rw [hW0, hE]; exact heap_last _ _
  have P0 := hide (h.below b0')
  have B0 : Hid (Below N w W0) := b0'.mono h.gN
  have M0 := hide m0'
  have EX : Hid (∀ q, plS B S nv lv fv bv av q → q < E) := fun q e => by
    rw [hE]
    rcases e with e | e | e | e | e | e | e
    · rw [e]; exact blk_lt h.ob
    · exact h.ct.lt q e
    · exact own_lt2 h.nd e
    · exact own_lt2 h.lt e
    · exact own_lt2 h.fe e
    · exact own_lt2 h.ba e
    · exact own_lt2 h.at' e
  have x0 := P0.out.cells.1
  have y0 : W0.cell? ⟨E, 0, none⟩ = some (.int .i64 ev.k) := by rw [cell_row m0']; rfl
  have y1 : W0.cell? ⟨E, 1, none⟩ = some (.int .i64 ev.n) := by rw [cell_row m0']; rfl
  have y2 : W0.cell? ⟨E, 2, none⟩ = some (.int .i64 ev.v) := by rw [cell_row m0']; rfl
  have BU := busy_any P0.out.ct hi.ci.fine.n1
  have HI := hide hi
  have HJB := hide hjb
  have HLT := hide hlt
  have n16 := hi.n16
  have n1 := hi.n1
  have HE := hide hE
  rw [hk] at y0
  clear hk
  have MO1 := fun w => mod15_any ev.n (n : Int) (by omega) (by omega) w
  have MO2 := fun w => mod15_any ev.v 2 (by omega) (by omega) w
  obtain ⟨q1, hq1⟩ : ∃ q, ev.n % (n : Int) = q := ⟨_, rfl⟩
  obtain ⟨q2, hq2⟩ : ∃ q, ev.v % 2 = q := ⟨_, rfl⟩
  have e11 : 0 ≤ q1 := by rw [← hq1]; exact Int.emod_nonneg _ (by omega)
  have e12 : q1 < (n : Int) := by rw [← hq1]; exact Int.emod_lt_of_pos _ (by omega)
  rw [hq1] at MO1
  rw [hq2] at MO2
  obtain ⟨kk, hkk⟩ : ∃ kk : Nat, q1 = (kk : Int) := ⟨q1.toNat, by omega⟩
  subst hkk
  have hkn : kk < n := by omega
  replace MO1 := hide MO1
  replace MO2 := hide MO2
  have hkl : kk < p.nd.length := by rw [hi.nn]; exact hkn
  obtain ⟨g, gc, cur, hnv, ndx, gnlt, gnN, pn⟩ := P0.out.node kk hkl
  rw [hi.nn] at hnv
  obtain ⟨nd, hnd⟩ : ∃ nd, nd = ndF p kk := ⟨_, rfl⟩
  have hnd2 : p.nd[kk] = nd := by rw [hnd]; exact (getD_at hkl).symm
  rw [hnd2] at ndx
  have gE : Hid (E ≠ g) := by have := EX.out g (Or.inr (Or.inr (Or.inl (by rw [hnv]; rfl)))); unfold Hid; omega
  have gB : Hid (B ≠ g) := fun e => P0.out.ne.1 g (by rw [hnv]; rfl) e.symm
  obtain ⟨bl, hbl⟩ : ∃ bl : Bool, (q2 == 1) = bl := ⟨_, rfl⟩
  obtain ⟨W2, hW2⟩ : ∃ X, X = (W0.setCell ⟨g, kk * 8 + 7, none⟩ (.bool bl)).drew := ⟨_, rfl⟩
  have k2 : Kp W0 (W0.setCell ⟨g, kk * 8 + 7, none⟩ (.bool bl)) (fun q => q = g) := (Kp.refl W0 (fun q => q = g)).set (Or.inl rfl) _ _
  have n2 := ndx.set { nd with deaf := bl } 7 (.bool bl) (by decide) rfl (fun i hi hn => by rcases i with _|_|_|_|_|_|_|_|i <;> first | rfl | omega | exact absurd rfl hn)
  have P2 : Hid (PlX N W2 B C S nv lv fv bv av { p with nd := p.nd.set kk { nd with deaf := bl } }) := by
    rw [hW2]
    exact (pn _ _ n2 k2).kp ((Kp.refl _ non).drew) (fun _ f => f.elim)
  have B2 : Hid (Below N w W2) := by rw [hW2]; exact B0.out.trans ((k2.drew).toN P0.out.gN (fun q e => by rw [e]; exact gnN))
  have GK : Hid (W2.heap[B]? = W0.heap[B]? ∧ W2.heap[E]? = W0.heap[E]?) := by rw [hW2]; exact ⟨k2.block B (blk_lt P0.out.ob) gB.out, k2.block E (blk_lt M0.out) gE.out⟩
  have PI2 : Hid (PI n { p with nd := p.nd.set kk { nd with deaf := bl } }) := hi.flag kk hkn _ (by rw [hnd]; exact ⟨rfl, rfl, rfl, rfl, rfl, rfl⟩)
  have gcl : ∃ u, W0.cell? ⟨g, kk * 8 + 7, none⟩ = some u := ⟨_, ndx.cells.2.2.2.2.2.2.2⟩
  obtain ⟨gu, gcl⟩ := gcl
  have gfz := ndx.fz (kk * 8 + 7)
  have FG : Hid (∀ X : World, (X.heap[B]? = W0.heap[B]? ∧ X.heap[E]? = W0.heap[E]?) → X.cell? ⟨B, 1, none⟩ = some (.slice (some ⟨g, 0, none⟩) n gc) ∧ X.cell? ⟨E, 1, none⟩ = some (.int .i64 ev.n) ∧ X.cell? ⟨E, 2, none⟩ = some (.int .i64 ev.v)) := fun X hX => by
    unfold World.cell?
    rw [hX.1, hX.2, P0.out.ob, M0.out, ← hnv]
    exact ⟨rfl, rfl, rfl⟩
  have kkn : (kk : Int) < (n : Int) := by omega
  replace hW2 := hide hW2
  have HBL := hide hbl
  clear hnv ndx n2 k2 pn hnd hnd2 hq1 hq2 gnlt gnN hbl
  replace BU := hide BU
  clear h hi b0' m0' hjb hlt
  go_enter Try.func26, Try.ntmps26
  go_upto_region 1 with fail
  rw [← hW0, ← HE.out]
  clear hW0 hE
  go_wp2_with fail
  refine Calls.mono BU.out ?_
  rintro e w9 ⟨rfl, rfl⟩
  go_upto_region 22 with fail
  clear y0 y1 y2 x0
  refine wp_region_held_drew (S := fun X => X.heap[B]? = W0.heap[B]? ∧ X.heap[E]? = W0.heap[E]?) (by kernel_rfl) ⟨rfl, rfl⟩ (fun hHeld => ?_)
  refine wpAnyH_take (i := 0) (v := (.pointer (some ⟨B, 0, none⟩))) rfl (by kernel_rfl) (by kernel_rfl) (by kernel_rfl) (fun _ _ _ h => h) (Or.inl ⟨by kernel_rfl, ?_⟩) (by assumption) ?_
  · intro w' hSw
    (try dsimp only at hSw)
    go_simp
  (try simp only [Act.put, List.getElem_toArray, List.getElem_cons_zero, List.getElem_cons_succ, List.setIfInBounds_toArray, List.set_cons_zero, List.set_cons_succ])
  refine wpAnyH_take (i := 1) (v := (.pointer (some ⟨B, 0, none⟩))) rfl (by kernel_rfl) (by kernel_rfl) (by kernel_rfl) (fun _ _ _ h => h) (Or.inl ⟨by kernel_rfl, ?_⟩) (by assumption) ?_
  · intro w' hSw
    (try dsimp only at hSw)
    go_simp
  (try simp only [Act.put, List.getElem_toArray, List.getElem_cons_zero, List.getElem_cons_succ, List.setIfInBounds_toArray, List.set_cons_zero, List.set_cons_succ])
  refine wpAnyH_take (i := 2) (v := (.pointer (some ⟨B, 1, none⟩))) rfl (by kernel_rfl) (by kernel_rfl) (by kernel_rfl) (fun _ _ _ h => h) (Or.inl ⟨by kernel_rfl, ?_⟩) (by assumption) ?_
  · intro w' hSw
    (try dsimp only at hSw)
    go_simp
  (try simp only [Act.put, List.getElem_toArray, List.getElem_cons_zero, List.getElem_cons_succ, List.setIfInBounds_toArray, List.set_cons_zero, List.set_cons_succ])
  refine wpAnyH_take (i := 3) (v := (.slice (some ⟨g, 0, none⟩) n gc)) rfl (by kernel_rfl) (by kernel_rfl) (by kernel_rfl) (fun _ _ _ h => h) (Or.inl ⟨by kernel_rfl, ?_⟩) (by assumption) ?_
  · intro w' hSw
    (try dsimp only at hSw)
    (have z := (FG.out _ hSw).1; go_simp)
  (try simp only [Act.put, List.getElem_toArray, List.getElem_cons_zero, List.getElem_cons_succ, List.setIfInBounds_toArray, List.set_cons_zero, List.set_cons_succ])
  refine wpAnyH_take (i := 4) (v := (.pointer (some ⟨E, 1, none⟩))) rfl (by kernel_rfl) (by kernel_rfl) (by kernel_rfl) (fun _ _ _ h => h) (Or.inl ⟨by kernel_rfl, ?_⟩) (by assumption) ?_
  · intro w' hSw
    (try dsimp only at hSw)
    go_simp
  (try simp only [Act.put, List.getElem_toArray, List.getElem_cons_zero, List.getElem_cons_succ, List.setIfInBounds_toArray, List.set_cons_zero, List.set_cons_succ])
  refine wpAnyH_take (i := 5) (v := (.int .i64 ev.n)) rfl (by kernel_rfl) (by kernel_rfl) (by kernel_rfl) (fun _ _ _ h => h) (Or.inl ⟨by kernel_rfl, ?_⟩) (by assumption) ?_
  · intro w' hSw
    (try dsimp only at hSw)
    (have z := (FG.out _ hSw).2.1; go_simp)
  (try simp only [Act.put, List.getElem_toArray, List.getElem_cons_zero, List.getElem_cons_succ, List.setIfInBounds_toArray, List.set_cons_zero, List.set_cons_succ])
  refine wpAnyH_take (i := 6) (v := (.pointer (some ⟨B, 0, none⟩))) rfl (by kernel_rfl) (by kernel_rfl) (by kernel_rfl) (fun _ _ _ h => h) (Or.inl ⟨by kernel_rfl, ?_⟩) (by assumption) ?_
  · intro w' hSw
    (try dsimp only at hSw)
    go_simp
  (try simp only [Act.put, List.getElem_toArray, List.getElem_cons_zero, List.getElem_cons_succ, List.setIfInBounds_toArray, List.set_cons_zero, List.set_cons_succ])
  refine wpAnyH_take (i := 7) (v := (.pointer (some ⟨B, 0, none⟩))) rfl (by kernel_rfl) (by kernel_rfl) (by kernel_rfl) (fun _ _ _ h => h) (Or.inl ⟨by kernel_rfl, ?_⟩) (by assumption) ?_
  · intro w' hSw
    (try dsimp only at hSw)
    go_simp
  (try simp only [Act.put, List.getElem_toArray, List.getElem_cons_zero, List.getElem_cons_succ, List.setIfInBounds_toArray, List.set_cons_zero, List.set_cons_succ])
  refine wpAnyH_take (i := 8) (v := (.pointer (some ⟨B, 1, none⟩))) rfl (by kernel_rfl) (by kernel_rfl) (by kernel_rfl) (fun _ _ _ h => h) (Or.inl ⟨by kernel_rfl, ?_⟩) (by assumption) ?_
  · intro w' hSw
    (try dsimp only at hSw)
    go_simp
  (try simp only [Act.put, List.getElem_toArray, List.getElem_cons_zero, List.getElem_cons_succ, List.setIfInBounds_toArray, List.set_cons_zero, List.set_cons_succ])
  refine wpAnyH_take (i := 9) (v := (.slice (some ⟨g, 0, none⟩) n gc)) rfl (by kernel_rfl) (by kernel_rfl) (by kernel_rfl) (fun _ _ _ h => h) (Or.inl ⟨by kernel_rfl, ?_⟩) (by assumption) ?_
  · intro w' hSw
    (try dsimp only at hSw)
    (have z := (FG.out _ hSw).1; go_simp)
  (try simp only [Act.put, List.getElem_toArray, List.getElem_cons_zero, List.getElem_cons_succ, List.setIfInBounds_toArray, List.set_cons_zero, List.set_cons_succ])
  refine wpAnyH_take (i := 10) (v := (.int .i64 (n : Int))) rfl (by kernel_rfl) (by kernel_rfl) (by kernel_rfl) (fun _ _ _ h => h) (Or.inl ⟨by kernel_rfl, ?_⟩) (by assumption) ?_
  · intro w' hSw
    (try dsimp only at hSw)
    go_simp
  (try simp only [Act.put, List.getElem_toArray, List.getElem_cons_zero, List.getElem_cons_succ, List.setIfInBounds_toArray, List.set_cons_zero, List.set_cons_succ])
  refine wpAnyH_callTake (i := 11) (v := (.int .i64 (kk : Int))) rfl (by kernel_rfl) (by kernel_rfl) (by kernel_rfl) (fun _ _ _ h => h) (by kernel_rfl) 8 #[.int .i64 ev.n, .int .i64 (n : Int)] (fun w' => by kernel_rfl) (fun w' hSw => MO1.out w') (by assumption) ?_
  (try simp only [Act.put, List.getElem_toArray, List.getElem_cons_zero, List.getElem_cons_succ, List.setIfInBounds_toArray, List.set_cons_zero, List.set_cons_succ])
  refine wpAnyH_take (i := 12) (v := (.pointer (some ⟨E, 2, none⟩))) rfl (by kernel_rfl) (by kernel_rfl) (by kernel_rfl) (fun _ _ _ h => h) (Or.inl ⟨by kernel_rfl, ?_⟩) (by assumption) ?_
  · intro w' hSw
    (try dsimp only at hSw)
    go_simp
  (try simp only [Act.put, List.getElem_toArray, List.getElem_cons_zero, List.getElem_cons_succ, List.setIfInBounds_toArray, List.set_cons_zero, List.set_cons_succ])
  refine wpAnyH_take (i := 13) (v := (.int .i64 ev.v)) rfl (by kernel_rfl) (by kernel_rfl) (by kernel_rfl) (fun _ _ _ h => h) (Or.inl ⟨by kernel_rfl, ?_⟩) (by assumption) ?_
  · intro w' hSw
    (try dsimp only at hSw)
    (have z := (FG.out _ hSw).2.2; go_simp)
  (try simp only [Act.put, List.getElem_toArray, List.getElem_cons_zero, List.getElem_cons_succ, List.setIfInBounds_toArray, List.set_cons_zero, List.set_cons_succ])
  refine wpAnyH_callTake (i := 14) (v := (.int .i64 q2)) rfl (by kernel_rfl) (by kernel_rfl) (by kernel_rfl) (fun _ _ _ h => h) (by kernel_rfl) 8 #[.int .i64 ev.v, .int .i64 2] (fun w' => by kernel_rfl) (fun w' hSw => MO2.out w') (by assumption) ?_
  (try simp only [Act.put, List.getElem_toArray, List.getElem_cons_zero, List.getElem_cons_succ, List.setIfInBounds_toArray, List.set_cons_zero, List.set_cons_succ])
  refine wpAnyH_take (i := 15) (v := (.bool bl)) rfl (by kernel_rfl) (by kernel_rfl) (by kernel_rfl) (fun _ _ _ h => h) (Or.inl ⟨by kernel_rfl, ?_⟩) (by assumption) ?_
  · intro w' hSw
    (try dsimp only at hSw)
    (have z := HBL.out; go_simp)
  (try simp only [Act.put, List.getElem_toArray, List.getElem_cons_zero, List.getElem_cons_succ, List.setIfInBounds_toArray, List.set_cons_zero, List.set_cons_succ])
  refine wpAnyH_take (i := 16) (v := (.pointer (some ⟨g, kk * 8, none⟩))) rfl (by kernel_rfl) (by kernel_rfl) (by kernel_rfl) (fun _ _ _ h => h) (Or.inl ⟨by kernel_rfl, ?_⟩) (by assumption) ?_
  · intro w' hSw
    (try dsimp only at hSw)
    go_simp
  (try simp only [Act.put, List.getElem_toArray, List.getElem_cons_zero, List.getElem_cons_succ, List.setIfInBounds_toArray, List.set_cons_zero, List.set_cons_succ])
  refine wpAnyH_take (i := 17) (v := (.pointer (some ⟨g, kk * 8 + 7, none⟩))) rfl (by kernel_rfl) (by kernel_rfl) (by kernel_rfl) (fun _ _ _ h => h) (Or.inl ⟨by kernel_rfl, ?_⟩) (by assumption) ?_
  · intro w' hSw
    (try dsimp only at hSw)
    go_simp
  (try simp only [Act.put, List.getElem_toArray, List.getElem_cons_zero, List.getElem_cons_succ, List.setIfInBounds_toArray, List.set_cons_zero, List.set_cons_succ])
  refine wpAnyH_ready (rs := [18]) (by kernel_rfl) (by simp) ?_
  refine AllReadyH.cons rfl (fun K hK => ?_) AllReadyH.nil
  go_simp
  rw [← hW2.out]
  clear hW2 gcl gfz
  refine hK.out _ _ (GK.out) (fun hHeld => ?_)
  clear hK
  (try simp only [Act.put, List.setIfInBounds_toArray, List.set_cons_zero, List.set_cons_succ])
  refine wpAnyH_done (by kernel_rfl) ?_ _
  clear hHeld FG
  go_wp2_with fail
  go_ret
  exact ⟨rfl, _, P2.out.at, PI2.out, B2.out, by show p.job ≤ _; omega, by show p.lt.length ≤ _; omega⟩
end Go.Proofs.Ytpleakkhbfhdkaa.Cn
