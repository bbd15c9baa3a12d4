import Derived.Test.YtpleakkhbfhdkaaGCgDelD
import Derived.Test.YtpleakkhbfhdkaaGCgWent
namespace Go.Proofs.Ytpleakkhbfhdkaa.Cn
open Go.RowKit
set_option maxHeartbeats 8000000 in
set_option maxRecDepth 100000 in
set_option linter.unusedSimpArgs false in
set_option linter.unusedVariables false in
theorem step_empty {N : Nat} {w : World} {B C : Nat} {S : Nat → Prop} {nv lv fv bv av : Value} {p : Pl} (h : PlX N w B C S nv lv fv bv av p) {n : Nat} (hi : PI n p) (hjb : p.job ≤ 1000000000) (hlt : p.lt.length ≤ 1000000000) (ev : Ev) (k1 : ev.k ≠ 1) (k2 : ev.k ≠ 2) (k6 : ev.k ≠ 6) (k7 : ev.k ≠ 7) (k8 : ev.k ≠ 8) (k9 : ev.k ≠ 9) (hl : p.lt.length = 0) :
    Calls Try.prog 26 #[.pointer (some ⟨B, 0, none⟩), .agg (evV ev)] w fun e w' => e = .returned (.bool true) ∧ StepQ N w w' B n p := by
  obtain ⟨E, hE⟩ : ∃ E, E = w.heap.size := ⟨_, rfl⟩
  obtain ⟨W0, hW0⟩ : ∃ W0, W0 = w.alloc (.cells (evV ev) 68) := ⟨_, rfl⟩
  have b0' : Below w.heap.size w W0 := by rw [hW0]; exact (Below.refl _ w).alloc (Nat.le_refl _) _
  have m0' : W0.heap[E]? = some (.cells (evV ev) 68) := by rw [hW0, hE]; exact heap_last _ _
  have P0 := hide (h.below b0')
  have B0 : Hid (Below N w W0) := b0'.mono h.gN
  have M0 := hide m0'
  have EX : Hid (∀ q, plS B S nv lv fv bv av q → q < E) := fun q e => by
    rw [hE]
    rcases e with e | e | e | e | e | e | e
    · rw [e]; exact blk_lt h.ob
    · exact h.ct.lt q e
    · exact own_lt2 h.nd e
    · exact own_lt2 h.lt e
    · exact own_lt2 h.fe e
    · exact own_lt2 h.ba e
    · exact own_lt2 h.at' e
  have x0 := P0.out.cells.1
  have y0 : W0.cell? ⟨E, 0, none⟩ = some (.int .i64 ev.k) := by rw [cell_row m0']; rfl
  have y1 : W0.cell? ⟨E, 1, none⟩ = some (.int .i64 ev.n) := by rw [cell_row m0']; rfl
  have y2 : W0.cell? ⟨E, 2, none⟩ = some (.int .i64 ev.v) := by rw [cell_row m0']; rfl
  have BU := busy_any P0.out.ct hi.ci.fine.n1
  have HI := hide hi
  have HJB := hide hjb
  have HLT := hide hlt
  have n16 := hi.n16
  have n1 := hi.n1
  have HE := hide hE
  have q1 : (ev.k == 1) = false := by simpa using k1
  have q2 : (ev.k == 2) = false := by simpa using k2
  have q6 : (ev.k == 6) = false := by simpa using k6
  have q7 : (ev.k == 7) = false := by simpa using k7
  have q8 : (ev.k == 8) = false := by simpa using k8
  have q9 : (ev.k == 9) = false := by simpa using k9
  clear k1 k2 k6 k7 k8 k9
  obtain ⟨la, lc, hlv⟩ := own_sl P0.out.lt
  rw [hl] at hlv
  have x2 := P0.out.cells.2.2.1
  rw [hlv] at x2
  clear hl hlv
  replace BU := hide BU
  clear h hi b0' m0' hjb hlt
  go_enter Try.func26, Try.ntmps26
  go_upto_region 1 with fail
  rw [← hW0, ← HE.out]
  clear hW0 hE
  go_wp2_with fail
  refine Calls.mono BU.out ?_
  rintro e w9 ⟨rfl, rfl⟩
  go_wp2_with fail
  go_ret
  exact ⟨rfl, StepQ.stay P0.out.at HI.out B0.out⟩
set_option maxHeartbeats 8000000 in
set_option maxRecDepth 100000 in
set_option linter.unusedSimpArgs false in
set_option linter.unusedVariables false in
theorem step_deliver {N : Nat} {w : World} {B C : Nat} {S : Nat → Prop} {nv lv fv bv av : Value} {p : Pl} (h : PlX N w B C S nv lv fv bv av p) {n : Nat} (hi : PI n p) (hjb : p.job ≤ 1000000000) (hlt : p.lt.length ≤ 1000000000) (ev : Ev) (k1 : ev.k ≠ 1) (k2 : ev.k ≠ 2) (k6 : ev.k ≠ 6) (k7 : ev.k ≠ 7) (k8 : ev.k ≠ 8) (k9 : ev.k ≠ 9) (hl : p.lt.length ≠ 0) (k3 : ev.k = 3) :
    Calls Try.prog 26 #[.pointer (some ⟨B, 0, none⟩), .agg (evV ev)] w fun e w' => e = .returned (.bool true) ∧ StepQ N w w' B n p := by
  obtain ⟨E, hE⟩ : ∃ E, E = w.heap.size := ⟨_, rfl⟩
  obtain ⟨W0, hW0⟩ : ∃ W0, W0 = w.alloc (.cells (evV ev) 68) := ⟨_, rfl⟩
  have b0' : Below w.heap.size w W0 := by rw [hW0]; exact (Below.refl _ w).alloc (Nat.le_refl _) _
  have m0' : W0.heap[E]? = some (.cells (evV ev) 68) := by rw [hW0, hE]; exact heap_last _ _
  have P0 := hide (h.below b0')
  have B0 : Hid (Below N w W0) := b0'.mono h.gN
  have M0 := hide m0'
  have EX : Hid (∀ q, plS B S nv lv fv bv av q → q < E) := fun q e => by
    rw [hE]
    rcases e with e | e | e | e | e | e | e
    · rw [e]; exact blk_lt h.ob
    · exact h.ct.lt q e
    · exact own_lt2 h.nd e
    · exact own_lt2 h.lt e
    · exact own_lt2 h.fe e
    · exact own_lt2 h.ba e
    · exact own_lt2 h.at' e
  have x0 := P0.out.cells.1
  have y0 : W0.cell? ⟨E, 0, none⟩ = some (.int .i64 ev.k) := by rw [cell_row m0']; rfl
  have y1 : W0.cell? ⟨E, 1, none⟩ = some (.int .i64 ev.n) := by rw [cell_row m0']; rfl
  have y2 : W0.cell? ⟨E, 2, none⟩ = some (.int .i64 ev.v) := by rw [cell_row m0']; rfl
  have BU := busy_any P0.out.ct hi.ci.fine.n1
  have HI := hide hi
  have HJB := hide hjb
  have HLT := hide hlt
  have n16 := hi.n16
  have n1 := hi.n1
  have HE := hide hE
  have q1 : (ev.k == 1) = false := by simpa using k1
  have q2 : (ev.k == 2) = false := by simpa using k2
  have q6 : (ev.k == 6) = false := by simpa using k6
  have q7 : (ev.k == 7) = false := by simpa using k7
  have q8 : (ev.k == 8) = false := by simpa using k8
  have q9 : (ev.k == 9) = false := by simpa using k9
  clear k1 k2 k6 k7 k8 k9
  have q3 : (ev.k == 3) = true := by simpa using k3
  clear k3
  obtain ⟨la, lc, hlv⟩ := own_sl P0.out.lt
  have x2 := P0.out.cells.2.2.1
  rw [hlv] at x2
  obtain ⟨ln, hln⟩ : ∃ ln, ln = p.lt.length := ⟨_, rfl⟩
  rw [← hln] at x2 hl
  have HLN := hide hln
  have lnb : ln ≤ 1000000000 := by rw [hln]; exact hlt
  have qz : ((ln : Int) == 0) = false := by simp; omega
  have MO1 := fun w => mod15_any ev.n (ln : Int) (by omega) (by omega) w
  obtain ⟨r1, hr1⟩ : ∃ q, ev.n % (ln : Int) = q := ⟨_, rfl⟩
  have e11 : 0 ≤ r1 := by rw [← hr1]; exact Int.emod_nonneg _ (by omega)
  have e12 : r1 < (ln : Int) := by rw [← hr1]; exact Int.emod_lt_of_pos _ (by omega)
  rw [hr1] at MO1
  obtain ⟨k, hk⟩ : ∃ k : Nat, r1 = (k : Int) := ⟨r1.toNat, by omega⟩
  subst hk
  have hkl : Hid (k < p.lt.length) := by rw [← hln]; unfold Hid; omega
  have MOQ : Hid (∀ w : World, Calls Try.prog 8 #[.int .i64 ev.n, .int .i64 (ln : Int)] w fun x w' => x = .returned (.int .i64 (k : Int)) ∧ w' = w) := fun w => (MO1 w).mono fun _ _ ⟨a, b⟩ => ⟨a, b.symm⟩
  have HLV := hide hlv
  clear MO1 hr1 hln hlv
  replace BU := hide BU
  clear h hi b0' m0' hjb hlt
  go_enter Try.func26, Try.ntmps26
  go_upto_region 1 with fail
  rw [← hW0, ← HE.out]
  clear hW0 hE
  go_wp2_with fail
  refine Calls.mono BU.out ?_
  rintro e w9 ⟨rfl, rfl⟩
  go_upto_region 26 with fail
  go_quiet ((go_at_call 8; exact Calls.quiet_of_same (MOQ.out _)))
  obtain ⟨W3, hW3⟩ : ∃ X, X = W0.drewN nq := ⟨_, rfl⟩
  have kk3 : Kp W0 W3 non := by rw [hW3]; exact (Kp.refl _ non).drewN _
  have P3 := hide (P0.out.kp kk3 (fun _ f => f.elim))
  have M3 : Hid (W3.heap[E]? = some (.cells (evV ev) 68)) := getL kk3 M0.out (fun f => f)
  have B3 : Hid (Below N w W3) := B0.out.trans (kk3.toN P0.out.gN (fun _ f => f.elim))
  rw [← hW3]
  clear hW3 kk3 x0 x2 y0 y1 y2 P0 M0 B0 BU MOQ
  have y0 : W3.cell? ⟨E, 0, none⟩ = some (.int .i64 ev.k) := by rw [cell_row M3.out]; rfl
  have DE := hide (deliver_any P3.out HI.out HLT.out k hkl.out)
  go_wp2_with fail
  refine Calls.mono DE.out ?_
  rintro e W4 ⟨rfl, sq⟩
  have SQ := hide (StepQ.pre B3.out sq)
  clear sq DE
  go_wp2_with fail
  go_ret
  exact ⟨rfl, SQ.out⟩
set_option maxHeartbeats 8000000 in
set_option maxRecDepth 100000 in
set_option linter.unusedSimpArgs false in
set_option linter.unusedVariables false in
theorem step_drop {N : Nat} {w : World} {B C : Nat} {S : Nat → Prop} {nv lv fv bv av : Value} {p : Pl} (h : PlX N w B C S nv lv fv bv av p) {n : Nat} (hi : PI n p) (hjb : p.job ≤ 1000000000) (hlt : p.lt.length ≤ 1000000000) (ev : Ev) (k1 : ev.k ≠ 1) (k2 : ev.k ≠ 2) (k6 : ev.k ≠ 6) (k7 : ev.k ≠ 7) (k8 : ev.k ≠ 8) (k9 : ev.k ≠ 9) (hl : p.lt.length ≠ 0) (k3 : ev.k = 4) :
    Calls Try.prog 26 #[.pointer (some ⟨B, 0, none⟩), .agg (evV ev)] w fun e w' => e = .returned (.bool true) ∧ StepQ N w w' B n p := by
  obtain ⟨E, hE⟩ : ∃ E, E = w.heap.size := ⟨_, rfl⟩
  obtain ⟨W0, hW0⟩ : ∃ W0, W0 = w.alloc (.cells (evV ev) 68) := ⟨_, rfl⟩
  have b0' : Below w.heap.size w W0 := by rw [hW0]; exact (Below.refl _ w).alloc (Nat.le_refl _) _
  have m0' : W0.heap[E]? = some (.cells (evV ev) 68) := by rw [hW0, hE]; exact heap_last _ _
  have P0 := hide (h.below b0')
  have B0 : Hid (Below N w W0) := b0'.mono h.gN
  have M0 := hide m0'
  have EX : Hid (∀ q, plS B S nv lv fv bv av q → q < E) := fun q e => by
    rw [hE]
    rcases e with e | e | e | e | e | e | e
    · rw [e]; exact blk_lt h.ob
    · exact h.ct.lt q e
    · exact own_lt2 h.nd e
    · exact own_lt2 h.lt e
    · exact own_lt2 h.fe e
    · exact own_lt2 h.ba e
    · exact own_lt2 h.at' e
  have x0 := P0.out.cells.1
  have y0 : W0.cell? ⟨E, 0, none⟩ = some (.int .i64 ev.k) := by rw [cell_row m0']; rfl
  have y1 : W0.cell? ⟨E, 1, none⟩ = some (.int .i64 ev.n) := by rw [cell_row m0']; rfl
  have y2 : W0.cell? ⟨E, 2, none⟩ = some (.int .i64 ev.v) := by rw [cell_row m0']; rfl
  have BU := busy_any P0.out.ct hi.ci.fine.n1
  have HI := hide hi
  have HJB := hide hjb
  have HLT := hide hlt
  have n16 := hi.n16
  have n1 := hi.n1
  have HE := hide hE
  have q1 : (ev.k == 1) = false := by simpa using k1
  have q2 : (ev.k == 2) = false := by simpa using k2
  have q6 : (ev.k == 6) = false := by simpa using k6
  have q7 : (ev.k == 7) = false := by simpa using k7
  have q8 : (ev.k == 8) = false := by simpa using k8
  have q9 : (ev.k == 9) = false := by simpa using k9
  clear k1 k2 k6 k7 k8 k9
  have q3 : (ev.k == 3) = false := by simp; omega
  have q4 : (ev.k == 4) = true := by simpa using k3
  clear k3
  obtain ⟨la, lc, hlv⟩ := own_sl P0.out.lt
  have x2 := P0.out.cells.2.2.1
  rw [hlv] at x2
  obtain ⟨ln, hln⟩ : ∃ ln, ln = p.lt.length := ⟨_, rfl⟩
  rw [← hln] at x2 hl
  have HLN := hide hln
  have lnb : ln ≤ 1000000000 := by rw [hln]; exact hlt
  have qz : ((ln : Int) == 0) = false := by simp; omega
  have MO1 := fun w => mod15_any ev.n (ln : Int) (by omega) (by omega) w
  obtain ⟨r1, hr1⟩ : ∃ q, ev.n % (ln : Int) = q := ⟨_, rfl⟩
  have e11 : 0 ≤ r1 := by rw [← hr1]; exact Int.emod_nonneg _ (by omega)
  have e12 : r1 < (ln : Int) := by rw [← hr1]; exact Int.emod_lt_of_pos _ (by omega)
  rw [hr1] at MO1
  obtain ⟨k, hk⟩ : ∃ k : Nat, r1 = (k : Int) := ⟨r1.toNat, by omega⟩
  subst hk
  have hkl : Hid (k < p.lt.length) := by rw [← hln]; unfold Hid; omega
  have MOQ : Hid (∀ w : World, Calls Try.prog 8 #[.int .i64 ev.n, .int .i64 (ln : Int)] w fun x w' => x = .returned (.int .i64 (k : Int)) ∧ w' = w) := fun w => (MO1 w).mono fun _ _ ⟨a, b⟩ => ⟨a, b.symm⟩
  have HLV := hide hlv
  clear MO1 hr1 hln hlv
  replace BU := hide BU
  clear h hi b0' m0' hjb hlt
  go_enter Try.func26, Try.ntmps26
  go_upto_region 1 with fail
  rw [← hW0, ← HE.out]
  clear hW0 hE
  go_wp2_with fail
  refine Calls.mono BU.out ?_
  rintro e w9 ⟨rfl, rfl⟩
  go_upto_region 26 with fail
  go_quiet ((go_at_call 8; exact Calls.quiet_of_same (MOQ.out _)))
  obtain ⟨W3, hW3⟩ : ∃ X, X = W0.drewN nq := ⟨_, rfl⟩
  have kk3 : Kp W0 W3 non := by rw [hW3]; exact (Kp.refl _ non).drewN _
  have P3 := hide (P0.out.kp kk3 (fun _ f => f.elim))
  have M3 : Hid (W3.heap[E]? = some (.cells (evV ev) 68)) := getL kk3 M0.out (fun f => f)
  have B3 : Hid (Below N w W3) := B0.out.trans (kk3.toN P0.out.gN (fun _ f => f.elim))
  rw [← hW3]
  clear hW3 kk3 x0 x2 y0 y1 y2 P0 M0 B0 BU MOQ
  have y0 : W3.cell? ⟨E, 0, none⟩ = some (.int .i64 ev.k) := by rw [cell_row M3.out]; rfl
  have DE := hide (taken_any P3.out k hkl.out HLT.out)
  go_wp2_with fail
  refine Calls.mono DE.out ?_
  rintro e W4 ⟨lv', rfl, p4, b4⟩
  have SQ : Hid (StepQ N w W4 B n p) := ⟨_, p4.at, HI.out.letters (p.lt.eraseIdx k) (fun x hx => List.mem_of_mem_eraseIdx hx), B3.out.trans b4, by show p.job ≤ _; omega, by show (p.lt.eraseIdx k).length ≤ _; have := List.length_eraseIdx_le p.lt k; omega⟩
  clear p4 b4 DE
  go_wp2_with fail
  go_ret
  exact ⟨rfl, SQ.out⟩
set_option maxHeartbeats 8000000 in
set_option maxRecDepth 100000 in
set_option linter.unusedSimpArgs false in
set_option linter.unusedVariables false in
theorem step_other {N : Nat} {w : World} {B C : Nat} {S : Nat → Prop} {nv lv fv bv av : Value} {p : Pl} (h : PlX N w B C S nv lv fv bv av p) {n : Nat} (hi : PI n p) (hjb : p.job ≤ 1000000000) (hlt : p.lt.length ≤ 1000000000) (ev : Ev) (k1 : ev.k ≠ 1) (k2 : ev.k ≠ 2) (k6 : ev.k ≠ 6) (k7 : ev.k ≠ 7) (k8 : ev.k ≠ 8) (k9 : ev.k ≠ 9) (hl : p.lt.length ≠ 0) (k3 : ev.k ≠ 3) (k4 : ev.k ≠ 4) (k5 : ev.k ≠ 5) :
    Calls Try.prog 26 #[.pointer (some ⟨B, 0, none⟩), .agg (evV ev)] w fun e w' => e = .returned (.bool true) ∧ StepQ N w w' B n p := by
  obtain ⟨E, hE⟩ : ∃ E, E = w.heap.size := ⟨_, rfl⟩
  obtain ⟨W0, hW0⟩ : ∃ W0, W0 = w.alloc (.cells (evV ev) 68) := ⟨_, rfl⟩
  have b0' : Below w.heap.size w W0 := by rw [hW0]; exact (Below.refl _ w).alloc (Nat.le_refl _) _
  have m0' : W0.heap[E]? = some (.cells (evV ev) 68) := by rw [hW0, hE]; exact heap_last _ _
  have P0 := hide (h.below b0')
  have B0 : Hid (Below N w W0) := b0'.mono h.gN
  have M0 := hide m0'
  have EX : Hid (∀ q, plS B S nv lv fv bv av q → q < E) := fun q e => by
    rw [hE]
    rcases e with e | e | e | e | e | e | e
    · rw [e]; exact blk_lt h.ob
    · exact h.ct.lt q e
    · exact own_lt2 h.nd e
    · exact own_lt2 h.lt e
    · exact own_lt2 h.fe e
    · exact own_lt2 h.ba e
    · exact own_lt2 h.at' e
  have x0 := P0.out.cells.1
  have y0 : W0.cell? ⟨E, 0, none⟩ = some (.int .i64 ev.k) := by rw [cell_row m0']; rfl
  have y1 : W0.cell? ⟨E, 1, none⟩ = some (.int .i64 ev.n) := by rw [cell_row m0']; rfl
  have y2 : W0.cell? ⟨E, 2, none⟩ = some (.int .i64 ev.v) := by rw [cell_row m0']; rfl
  have BU := busy_any P0.out.ct hi.ci.fine.n1
  have HI := hide hi
  have HJB := hide hjb
  have HLT := hide hlt
  have n16 := hi.n16
  have n1 := hi.n1
  have HE := hide hE
  have q1 : (ev.k == 1) = false := by simpa using k1
  have q2 : (ev.k == 2) = false := by simpa using k2
  have q6 : (ev.k == 6) = false := by simpa using k6
  have q7 : (ev.k == 7) = false := by simpa using k7
  have q8 : (ev.k == 8) = false := by simpa using k8
  have q9 : (ev.k == 9) = false := by simpa using k9
  clear k1 k2 k6 k7 k8 k9
  have q3 : (ev.k == 3) = false := by simpa using k3
  have q4 : (ev.k == 4) = false := by simpa using k4
  have q5 : (ev.k == 5) = false := by simpa using k5
  clear k3 k4 k5
  obtain ⟨la, lc, hlv⟩ := own_sl P0.out.lt
  have x2 := P0.out.cells.2.2.1
  rw [hlv] at x2
  obtain ⟨ln, hln⟩ : ∃ ln, ln = p.lt.length := ⟨_, rfl⟩
  rw [← hln] at x2 hl
  have HLN := hide hln
  have lnb : ln ≤ 1000000000 := by rw [hln]; exact hlt
  have qz : ((ln : Int) == 0) = false := by simp; omega
  have MO1 := fun w => mod15_any ev.n (ln : Int) (by omega) (by omega) w
  obtain ⟨r1, hr1⟩ : ∃ q, ev.n % (ln : Int) = q := ⟨_, rfl⟩
  have e11 : 0 ≤ r1 := by rw [← hr1]; exact Int.emod_nonneg _ (by omega)
  have e12 : r1 < (ln : Int) := by rw [← hr1]; exact Int.emod_lt_of_pos _ (by omega)
  rw [hr1] at MO1
  obtain ⟨k, hk⟩ : ∃ k : Nat, r1 = (k : Int) := ⟨r1.toNat, by omega⟩
  subst hk
  have hkl : Hid (k < p.lt.length) := by rw [← hln]; unfold Hid; omega
  have MOQ : Hid (∀ w : World, Calls Try.prog 8 #[.int .i64 ev.n, .int .i64 (ln : Int)] w fun x w' => x = .returned (.int .i64 (k : Int)) ∧ w' = w) := fun w => (MO1 w).mono fun _ _ ⟨a, b⟩ => ⟨a, b.symm⟩
  have HLV := hide hlv
  clear MO1 hr1 hln hlv
  replace BU := hide BU
  clear h hi b0' m0' hjb hlt
  go_enter Try.func26, Try.ntmps26
  go_upto_region 1 with fail
  rw [← hW0, ← HE.out]
  clear hW0 hE
  go_wp2_with fail
  refine Calls.mono BU.out ?_
  rintro e w9 ⟨rfl, rfl⟩
  go_upto_region 26 with fail
  go_quiet ((go_at_call 8; exact Calls.quiet_of_same (MOQ.out _)))
  obtain ⟨W3, hW3⟩ : ∃ X, X = W0.drewN nq := ⟨_, rfl⟩
  have kk3 : Kp W0 W3 non := by rw [hW3]; exact (Kp.refl _ non).drewN _
  have P3 := hide (P0.out.kp kk3 (fun _ f => f.elim))
  have M3 : Hid (W3.heap[E]? = some (.cells (evV ev) 68)) := getL kk3 M0.out (fun f => f)
  have B3 : Hid (Below N w W3) := B0.out.trans (kk3.toN P0.out.gN (fun _ f => f.elim))
  rw [← hW3]
  clear hW3 kk3 x0 x2 y0 y1 y2 P0 M0 B0 BU MOQ
  have y0 : W3.cell? ⟨E, 0, none⟩ = some (.int .i64 ev.k) := by rw [cell_row M3.out]; rfl
  go_wp2_with fail
  go_ret
  exact ⟨rfl, StepQ.stay P3.out.at HI.out B3.out⟩
end Go.Proofs.Ytpleakkhbfhdkaa.Cn
namespace Go.Proofs.Ytpleakkhbfhdkaa.Cn
open Go.RowKit
set_option maxHeartbeats 8000000 in
set_option maxRecDepth 100000 in
set_option linter.unusedSimpArgs false in
set_option linter.unusedVariables false in
theorem step_copy {N : Nat} {w : World} {B C : Nat} {S : Nat → Prop} {nv lv fv bv av : Value} {p : Pl} (h : PlX N w B C S nv lv fv bv av p) {n : Nat} (hi : PI n p) (hjb : p.job ≤ 1000000000) (hlt : p.lt.length ≤ 1000000000) (ev : Ev) (k1 : ev.k ≠ 1) (k2 : ev.k ≠ 2) (k6 : ev.k ≠ 6) (k7 : ev.k ≠ 7) (k8 : ev.k ≠ 8) (k9 : ev.k ≠ 9) (hl : p.lt.length ≠ 0) (k3 : ev.k = 5) :
    Calls Try.prog 26 #[.pointer (some ⟨B, 0, none⟩), .agg (evV ev)] w fun e w' => e = .returned (.bool true) ∧ StepQ N w w' B n p := by
  obtain ⟨E, hE⟩ : ∃ E, E = w.heap.size := ⟨_, rfl⟩
  obtain ⟨W0, hW0⟩ : ∃ W0, W0 = w.alloc (.cells (evV ev) 68) := ⟨_, rfl⟩
  have b0' : Below w.heap.size w W0 := by rw [hW0]; exact (Below.refl _ w).alloc (Nat.le_refl _) _
  have m0' : W0.heap[E]? = some (.cells (evV ev) 68) := by rw [hW0, hE]; exact heap_last _ _
  have P0 := hide (h.below b0')
  have B0 : Hid (Below N w W0) := b0'.mono h.gN
  have M0 := hide m0'
  have EX : Hid (∀ q, plS B S nv lv fv bv av q → q < E) := fun q e => by
    rw [hE]
    rcases e with e | e | e | e | e | e | e
    · rw [e]; exact blk_lt h.ob
    · exact h.ct.lt q e
    · exact own_lt2 h.nd e
    · exact own_lt2 h.lt e
    · exact own_lt2 h.fe e
    · exact own_lt2 h.ba e
    · exact own_lt2 h.at' e
  have x0 := P0.out.cells.1
  have y0 : W0.cell? ⟨E, 0, none⟩ = some (.int .i64 ev.k) := by rw [cell_row m0']; rfl
  have y1 : W0.cell? ⟨E, 1, none⟩ = some (.int .i64 ev.n) := by rw [cell_row m0']; rfl
  have y2 : W0.cell? ⟨E, 2, none⟩ = some (.int .i64 ev.v) := by rw [cell_row m0']; rfl
  have BU := busy_any P0.out.ct hi.ci.fine.n1
  have HI := hide hi
  have HJB := hide hjb
  have HLT := hide hlt
  have n16 := hi.n16
  have n1 := hi.n1
  have HE := hide hE
  have q1 : (ev.k == 1) = false := by simpa using k1
  have q2 : (ev.k == 2) = false := by simpa using k2
  have q6 : (ev.k == 6) = false := by simpa using k6
  have q7 : (ev.k == 7) = false := by simpa using k7
  have q8 : (ev.k == 8) = false := by simpa using k8
  have q9 : (ev.k == 9) = false := by simpa using k9
  clear k1 k2 k6 k7 k8 k9
  have q3 : (ev.k == 3) = false := by simp; omega
  have q4 : (ev.k == 4) = false := by simp; omega
  have q5 : (ev.k == 5) = true := by simpa using k3
  clear k3
  obtain ⟨la, lc, hlv⟩ := own_sl P0.out.lt
  have x2 := P0.out.cells.2.2.1
  rw [hlv] at x2
  obtain ⟨ln, hln⟩ : ∃ ln, ln = p.lt.length := ⟨_, rfl⟩
  rw [← hln] at x2 hl
  have HLN := hide hln
  have lnb : ln ≤ 1000000000 := by rw [hln]; exact hlt
  have qz : ((ln : Int) == 0) = false := by simp; omega
  have MO1 := fun w => mod15_any ev.n (ln : Int) (by omega) (by omega) w
  obtain ⟨r1, hr1⟩ : ∃ q, ev.n % (ln : Int) = q := ⟨_, rfl⟩
  have e11 : 0 ≤ r1 := by rw [← hr1]; exact Int.emod_nonneg _ (by omega)
  have e12 : r1 < (ln : Int) := by rw [← hr1]; exact Int.emod_lt_of_pos _ (by omega)
  rw [hr1] at MO1
  obtain ⟨k, hk⟩ : ∃ k : Nat, r1 = (k : Int) := ⟨r1.toNat, by omega⟩
  subst hk
  have hkl : Hid (k < p.lt.length) := by rw [← hln]; unfold Hid; omega
  have MOQ : Hid (∀ w : World, Calls Try.prog 8 #[.int .i64 ev.n, .int .i64 (ln : Int)] w fun x w' => x = .returned (.int .i64 (k : Int)) ∧ w' = w) := fun w => (MO1 w).mono fun _ _ ⟨a, b⟩ => ⟨a, b.symm⟩
  have HLV := hide hlv
  clear MO1 hr1 hln hlv
  replace BU := hide BU
  clear h hi b0' m0' hjb hlt
  go_enter Try.func26, Try.ntmps26
  go_upto_region 1 with fail
  rw [← hW0, ← HE.out]
  clear hW0 hE
  go_wp2_with fail
  refine Calls.mono BU.out ?_
  rintro e w9 ⟨rfl, rfl⟩
  go_upto_region 26 with fail
  go_quiet ((go_at_call 8; exact Calls.quiet_of_same (MOQ.out _)))
  obtain ⟨W3, hW3⟩ : ∃ X, X = W0.drewN nq := ⟨_, rfl⟩
  have kk3 : Kp W0 W3 non := by rw [hW3]; exact (Kp.refl _ non).drewN _
  have P3 := hide (P0.out.kp kk3 (fun _ f => f.elim))
  have M3 : Hid (W3.heap[E]? = some (.cells (evV ev) 68)) := getL kk3 M0.out (fun f => f)
  have B3 : Hid (Below N w W3) := B0.out.trans (kk3.toN P0.out.gN (fun _ f => f.elim))
  rw [← hW3]
  clear hW3 kk3 x0 x2 y0 y1 y2 P0 M0 B0 BU MOQ
  have y0 : W3.cell? ⟨E, 0, none⟩ = some (.int .i64 ev.k) := by rw [cell_row M3.out]; rfl
  obtain ⟨g, c9, hv9, hg, cl, rg⟩ := own_mg P3.out.lt k hkl.out
  have e8 := hv9.symm.trans HLV.out
  simp only [Value.slice.injEq] at e8
  obtain ⟨e81, _, _⟩ := e8
  subst e81
  obtain ⟨mi, hmi⟩ : ∃ mi, mi = p.lt[k]'hkl.out := ⟨_, rfl⟩
  have RG : Hid (W3.drew.rangeAt g (k * 11) (mgV mi).toList) := by rw [hmi]; exact (World.rangeAt_drew _ _ _ _).2 rg
  have p3 := P3.out
  rw [HLV.out, ← HLN.out] at p3
  have PW := hide p3
  have x2 : W3.cell? ⟨B, 2, none⟩ = some (.slice (some ⟨g, 0, none⟩) ln lc) := p3.cells.2.2.1
  have PIQ : Hid (PI n { p with lt := p.lt ++ [mi] }) := HI.out.letters _ (fun x hx => by
    rcases List.mem_append.1 hx with a | a
    · exact a
    · rw [List.mem_singleton.1 a, hmi]; exact List.getElem_mem hkl.out)
  have hkk : (k : Int) < (ln : Int) := by omega
  obtain ⟨W9, hW9⟩ : ∃ X, X = W3.drew.alloc (.cells (mgV mi) 44) := ⟨_, rfl⟩
  obtain ⟨J9, hJ9⟩ : ∃ J, J = W3.drew.heap.size := ⟨_, rfl⟩
  have K9 : Hid (Kp W3 W9 non) := by rw [hW9]; exact ((Kp.refl W3 non).drew).alloc _
  have M9 : Hid (W9.heap[J9]? = some (.cells (mgV mi) 44)) := by rw [hW9, hJ9]; exact heap_last _ _
  have P9 := hide (PW.out.kp K9.out (fun _ f => f.elim))
  have x29 : W9.cell? ⟨B, 2, none⟩ = some (.slice (some ⟨g, 0, none⟩) ln lc) := P9.out.cells.2.2.1
  have hlq : Hid (p.lt.length ≤ 1000000000000) := by have := HLT.out; unfold Hid; omega
  have O9 : Hid (W9.ownsRow N 44 11 (.slice (some ⟨g, 0, none⟩) ln lc) p.lt.length (mgs p.lt)) := P9.out.lt
  clear hv9 hg cl rg hmi p3
  go_upto_region 33 with fail
  clear y0
  refine wp_region_held_drew (S := fun _ => True) (by kernel_rfl) trivial (fun hHeld => ?_)
  refine wpAnyH_take (i := 0) (v := (.pointer (some ⟨B, 0, none⟩))) rfl (by kernel_rfl) (by kernel_rfl) (by kernel_rfl) (fun _ _ _ h => h) (Or.inl ⟨by kernel_rfl, ?_⟩) (by assumption) ?_
  · intro w' hSw
    (try dsimp only at hSw)
    go_simp
  (try simp only [Act.put, List.getElem_toArray, List.getElem_cons_zero, List.getElem_cons_succ, List.setIfInBounds_toArray, List.set_cons_zero, List.set_cons_succ])
  refine wpAnyH_take (i := 1) (v := (.pointer (some ⟨B, 0, none⟩))) rfl (by kernel_rfl) (by kernel_rfl) (by kernel_rfl) (fun _ _ _ h => h) (Or.inl ⟨by kernel_rfl, ?_⟩) (by assumption) ?_
  · intro w' hSw
    (try dsimp only at hSw)
    go_simp
  (try simp only [Act.put, List.getElem_toArray, List.getElem_cons_zero, List.getElem_cons_succ, List.setIfInBounds_toArray, List.set_cons_zero, List.set_cons_succ])
  refine wpAnyH_take (i := 2) (v := (.pointer (some ⟨B, 0, none⟩))) rfl (by kernel_rfl) (by kernel_rfl) (by kernel_rfl) (fun _ _ _ h => h) (Or.inl ⟨by kernel_rfl, ?_⟩) (by assumption) ?_
  · intro w' hSw
    (try dsimp only at hSw)
    go_simp
  (try simp only [Act.put, List.getElem_toArray, List.getElem_cons_zero, List.getElem_cons_succ, List.setIfInBounds_toArray, List.set_cons_zero, List.set_cons_succ])
  refine wpAnyH_take (i := 3) (v := (.pointer (some ⟨B, 2, none⟩))) rfl (by kernel_rfl) (by kernel_rfl) (by kernel_rfl) (fun _ _ _ h => h) (Or.inl ⟨by kernel_rfl, ?_⟩) (by assumption) ?_
  · intro w' hSw
    (try dsimp only at hSw)
    go_simp
  (try simp only [Act.put, List.getElem_toArray, List.getElem_cons_zero, List.getElem_cons_succ, List.setIfInBounds_toArray, List.set_cons_zero, List.set_cons_succ])
  refine wpAnyH_take (i := 5) (v := (.pointer (some ⟨B, 0, none⟩))) rfl (by kernel_rfl) (by kernel_rfl) (by kernel_rfl) (fun _ _ _ h => h) (Or.inl ⟨by kernel_rfl, ?_⟩) (by assumption) ?_
  · intro w' hSw
    (try dsimp only at hSw)
    go_simp
  (try simp only [Act.put, List.getElem_toArray, List.getElem_cons_zero, List.getElem_cons_succ, List.setIfInBounds_toArray, List.set_cons_zero, List.set_cons_succ])
  refine wpAnyH_take (i := 6) (v := (.pointer (some ⟨B, 0, none⟩))) rfl (by kernel_rfl) (by kernel_rfl) (by kernel_rfl) (fun _ _ _ h => h) (Or.inl ⟨by kernel_rfl, ?_⟩) (by assumption) ?_
  · intro w' hSw
    (try dsimp only at hSw)
    go_simp
  (try simp only [Act.put, List.getElem_toArray, List.getElem_cons_zero, List.getElem_cons_succ, List.setIfInBounds_toArray, List.set_cons_zero, List.set_cons_succ])
  refine wpAnyH_take (i := 7) (v := (.pointer (some ⟨B, 2, none⟩))) rfl (by kernel_rfl) (by kernel_rfl) (by kernel_rfl) (fun _ _ _ h => h) (Or.inl ⟨by kernel_rfl, ?_⟩) (by assumption) ?_
  · intro w' hSw
    (try dsimp only at hSw)
    go_simp
  (try simp only [Act.put, List.getElem_toArray, List.getElem_cons_zero, List.getElem_cons_succ, List.setIfInBounds_toArray, List.set_cons_zero, List.set_cons_succ])
  refine wpAnyH_take (i := 9) (v := (.int .i64 (k : Int))) rfl (by kernel_rfl) (by kernel_rfl) (by kernel_rfl) (fun _ _ _ h => h) (Or.inl ⟨by kernel_rfl, ?_⟩) (by assumption) ?_
  · intro w' hSw
    (try dsimp only at hSw)
    go_simp
  (try simp only [Act.put, List.getElem_toArray, List.getElem_cons_zero, List.getElem_cons_succ, List.setIfInBounds_toArray, List.set_cons_zero, List.set_cons_succ])
  refine wpAnyH_ready (rs := [4, 8]) (by kernel_rfl) (by simp) ?_
  refine AllReadyH.cons rfl (fun K hK => ?_) (AllReadyH.cons rfl (fun K hK => ?_) AllReadyH.nil)
  · skip
    go_simp
    refine hK.out _ _ (trivial) (fun hHeld => ?_)
    clear hK
    (try simp only [Act.put, List.setIfInBounds_toArray, List.set_cons_zero, List.set_cons_succ])
    refine wpAnyH_ready (rs := [8]) (by kernel_rfl) (by simp) ?_
    refine AllReadyH.cons rfl (fun K hK => ?_) AllReadyH.nil
    go_simp
    refine hK.out _ _ (trivial) (fun hHeld => ?_)
    clear hK
    (try simp only [Act.put, List.setIfInBounds_toArray, List.set_cons_zero, List.set_cons_succ])
    refine wpAnyH_take (i := 10) (v := (.pointer (some ⟨g, k * 11, none⟩))) rfl (by kernel_rfl) (by kernel_rfl) (by kernel_rfl) (fun _ _ _ h => h) (Or.inl ⟨by kernel_rfl, ?_⟩) (by assumption) ?_
    · intro w' hSw
      (try dsimp only at hSw)
      go_simp
    (try simp only [Act.put, List.getElem_toArray, List.getElem_cons_zero, List.getElem_cons_succ, List.setIfInBounds_toArray, List.set_cons_zero, List.set_cons_succ])
    refine wpAnyH_ready (rs := [11]) (by kernel_rfl) (by simp) ?_
    refine AllReadyH.cons rfl (fun K hK => ?_) AllReadyH.nil
    refine wp_load_mid 44 (.tmp 161) rfl g (k * 11) rfl (mgV mi).toList _ RG.out Try.underlying44 rfl mg_info ?_
    refine hK.out _ _ (trivial) (fun hHeld => ?_)
    clear hK
    (try simp only [Act.put, List.setIfInBounds_toArray, List.set_cons_zero, List.set_cons_succ])
    refine wpAnyH_ready (rs := [12]) (by kernel_rfl) (by simp) ?_
    refine AllReadyH.cons rfl (fun K hK => ?_) AllReadyH.nil
    refine wp_bsM (.tmp 162) rfl mi rfl ?_
    rw [← hW9, ← hJ9]
    clear hW9 hJ9
    refine hK.out _ _ (trivial) (fun hHeld => ?_)
    clear hK
    (try simp only [Act.put, List.setIfInBounds_toArray, List.set_cons_zero, List.set_cons_succ])
    refine wpAnyH_ready (rs := [13]) (by kernel_rfl) (by simp) ?_
    refine AllReadyH.cons rfl (fun K hK => ?_) AllReadyH.nil
    refine ite_yes (by rfl) ?_
    refine wp_apM (.tmp 155) (.tmp 163) ?hBo N (.slice (some ⟨g, 0, none⟩) ln lc) p.lt ?hBs O9.out J9 mi ?hBx M9.out hlq.out P9.out.gN ?hBk
    case hBo => rfl
    case hBs => kernel_rfl
    case hBx => kernel_rfl
    intro v2 w4 o4 g4 at4
    obtain ⟨hB4, hP4, hK4⟩ := P9.out.app o4 g4 at4
    obtain ⟨g2, cap2, hv2⟩ := own_g o4 (by omega)
    subst hv2
    have k3 : w4.cell? ⟨B, 2, none⟩ = some (.slice (some ⟨g, 0, none⟩) ln lc) := by unfold World.cell?; rw [hB4, P9.out.ob]; rfl
    have z3 : w4.frozen? ⟨B, 2, none⟩ = false := by unfold World.frozen?; rw [hB4, P9.out.ob]; simp
    obtain ⟨W5, hW5⟩ : ∃ X, X = w4.setCell ⟨B, 2, none⟩ (.slice (some ⟨g2, 0, none⟩) (p.lt.length + 1) cap2) := ⟨_, rfl⟩
    rw [← hW5] at hP4 hK4
    have P5 := hide hP4
    have K5 : Hid (Kp W3 W5 (fun k => k = B ∨ (Value.slice (some ⟨g, 0, none⟩) ln lc).ownBlock = some k)) := (K9.out.mono (fun _ f => f.elim)).trans hK4 (fun _ e => Or.inl e)
    have B5 : Hid (Below N w W5) := B3.out.trans (K5.out.toN PW.out.gN (fun k e => by rcases e with e | e; rw [e]; exact PW.out.gB; exact own_ge PW.out.lt e))
    replace hW5 := hide hW5
    clear hP4 hK4 hB4 o4 g4 at4
    refine hK.out _ _ (trivial) (fun hHeld => ?_)
    clear hK
    (try simp only [Act.put, List.setIfInBounds_toArray, List.set_cons_zero, List.set_cons_succ])
    refine wpAnyH_take (i := 14) (v := (.pointer (some ⟨B, 0, none⟩))) rfl (by kernel_rfl) (by kernel_rfl) (by kernel_rfl) (fun _ _ _ h => h) (Or.inl ⟨by kernel_rfl, ?_⟩) (by assumption) ?_
    · intro w' hSw
      (try dsimp only at hSw)
      go_simp
    (try simp only [Act.put, List.getElem_toArray, List.getElem_cons_zero, List.getElem_cons_succ, List.setIfInBounds_toArray, List.set_cons_zero, List.set_cons_succ])
    refine wpAnyH_take (i := 15) (v := (.pointer (some ⟨B, 2, none⟩))) rfl (by kernel_rfl) (by kernel_rfl) (by kernel_rfl) (fun _ _ _ h => h) (Or.inl ⟨by kernel_rfl, ?_⟩) (by assumption) ?_
    · intro w' hSw
      (try dsimp only at hSw)
      go_simp
    (try simp only [Act.put, List.getElem_toArray, List.getElem_cons_zero, List.getElem_cons_succ, List.setIfInBounds_toArray, List.set_cons_zero, List.set_cons_succ])
    refine wpAnyH_ready (rs := [16]) (by kernel_rfl) (by simp) ?_
    refine AllReadyH.cons rfl (fun K hK => ?_) AllReadyH.nil
    go_simp
    rw [← hW5.out]
    clear hW5 k3 z3
    refine hK.out _ _ (trivial) (fun hHeld => ?_)
    clear hK
    (try simp only [Act.put, List.setIfInBounds_toArray, List.set_cons_zero, List.set_cons_succ])
    refine wpAnyH_done (by kernel_rfl) ?_ _
    clear hHeld
    go_wp2_with fail
    go_ret
    exact ⟨rfl, _, P5.out.at, PIQ.out, B5.out, by show p.job ≤ _; omega, by show (p.lt ++ [mi]).length ≤ _; rw [List.length_append]; simp⟩
  · skip
    go_simp
    refine hK.out _ _ (trivial) (fun hHeld => ?_)
    clear hK
    (try simp only [Act.put, List.setIfInBounds_toArray, List.set_cons_zero, List.set_cons_succ])
    refine wpAnyH_take (i := 10) (v := (.pointer (some ⟨g, k * 11, none⟩))) rfl (by kernel_rfl) (by kernel_rfl) (by kernel_rfl) (fun _ _ _ h => h) (Or.inl ⟨by kernel_rfl, ?_⟩) (by assumption) ?_
    · intro w' hSw
      (try dsimp only at hSw)
      go_simp
    (try simp only [Act.put, List.getElem_toArray, List.getElem_cons_zero, List.getElem_cons_succ, List.setIfInBounds_toArray, List.set_cons_zero, List.set_cons_succ])
    refine wpAnyH_ready (rs := [4, 11]) (by kernel_rfl) (by simp) ?_
    refine AllReadyH.cons rfl (fun K hK => ?_) (AllReadyH.cons rfl (fun K hK => ?_) AllReadyH.nil)
    · skip
      go_simp
      refine hK.out _ _ (trivial) (fun hHeld => ?_)
      clear hK
      (try simp only [Act.put, List.setIfInBounds_toArray, List.set_cons_zero, List.set_cons_succ])
      refine wpAnyH_ready (rs := [11]) (by kernel_rfl) (by simp) ?_
      refine AllReadyH.cons rfl (fun K hK => ?_) AllReadyH.nil
      refine wp_load_mid 44 (.tmp 161) rfl g (k * 11) rfl (mgV mi).toList _ RG.out Try.underlying44 rfl mg_info ?_
      refine hK.out _ _ (trivial) (fun hHeld => ?_)
      clear hK
      (try simp only [Act.put, List.setIfInBounds_toArray, List.set_cons_zero, List.set_cons_succ])
      refine wpAnyH_ready (rs := [12]) (by kernel_rfl) (by simp) ?_
      refine AllReadyH.cons rfl (fun K hK => ?_) AllReadyH.nil
      refine wp_bsM (.tmp 162) rfl mi rfl ?_
      rw [← hW9, ← hJ9]
      clear hW9 hJ9
      refine hK.out _ _ (trivial) (fun hHeld => ?_)
      clear hK
      (try simp only [Act.put, List.setIfInBounds_toArray, List.set_cons_zero, List.set_cons_succ])
      refine wpAnyH_ready (rs := [13]) (by kernel_rfl) (by simp) ?_
      refine AllReadyH.cons rfl (fun K hK => ?_) AllReadyH.nil
      refine ite_yes (by rfl) ?_
      refine wp_apM (.tmp 155) (.tmp 163) ?hCo N (.slice (some ⟨g, 0, none⟩) ln lc) p.lt ?hCs O9.out J9 mi ?hCx M9.out hlq.out P9.out.gN ?hCk
      case hCo => rfl
      case hCs => kernel_rfl
      case hCx => kernel_rfl
      intro v2 w4 o4 g4 at4
      obtain ⟨hB4, hP4, hK4⟩ := P9.out.app o4 g4 at4
      obtain ⟨g2, cap2, hv2⟩ := own_g o4 (by omega)
      subst hv2
      have k3 : w4.cell? ⟨B, 2, none⟩ = some (.slice (some ⟨g, 0, none⟩) ln lc) := by unfold World.cell?; rw [hB4, P9.out.ob]; rfl
      have z3 : w4.frozen? ⟨B, 2, none⟩ = false := by unfold World.frozen?; rw [hB4, P9.out.ob]; simp
      obtain ⟨W5, hW5⟩ : ∃ X, X = w4.setCell ⟨B, 2, none⟩ (.slice (some ⟨g2, 0, none⟩) (p.lt.length + 1) cap2) := ⟨_, rfl⟩
      rw [← hW5] at hP4 hK4
      have P5 := hide hP4
      have K5 : Hid (Kp W3 W5 (fun k => k = B ∨ (Value.slice (some ⟨g, 0, none⟩) ln lc).ownBlock = some k)) := (K9.out.mono (fun _ f => f.elim)).trans hK4 (fun _ e => Or.inl e)
      have B5 : Hid (Below N w W5) := B3.out.trans (K5.out.toN PW.out.gN (fun k e => by rcases e with e | e; rw [e]; exact PW.out.gB; exact own_ge PW.out.lt e))
      replace hW5 := hide hW5
      clear hP4 hK4 hB4 o4 g4 at4
      refine hK.out _ _ (trivial) (fun hHeld => ?_)
      clear hK
      (try simp only [Act.put, List.setIfInBounds_toArray, List.set_cons_zero, List.set_cons_succ])
      refine wpAnyH_take (i := 14) (v := (.pointer (some ⟨B, 0, none⟩))) rfl (by kernel_rfl) (by kernel_rfl) (by kernel_rfl) (fun _ _ _ h => h) (Or.inl ⟨by kernel_rfl, ?_⟩) (by assumption) ?_
      · intro w' hSw
        (try dsimp only at hSw)
        go_simp
      (try simp only [Act.put, List.getElem_toArray, List.getElem_cons_zero, List.getElem_cons_succ, List.setIfInBounds_toArray, List.set_cons_zero, List.set_cons_succ])
      refine wpAnyH_take (i := 15) (v := (.pointer (some ⟨B, 2, none⟩))) rfl (by kernel_rfl) (by kernel_rfl) (by kernel_rfl) (fun _ _ _ h => h) (Or.inl ⟨by kernel_rfl, ?_⟩) (by assumption) ?_
      · intro w' hSw
        (try dsimp only at hSw)
        go_simp
      (try simp only [Act.put, List.getElem_toArray, List.getElem_cons_zero, List.getElem_cons_succ, List.setIfInBounds_toArray, List.set_cons_zero, List.set_cons_succ])
      refine wpAnyH_ready (rs := [16]) (by kernel_rfl) (by simp) ?_
      refine AllReadyH.cons rfl (fun K hK => ?_) AllReadyH.nil
      go_simp
      rw [← hW5.out]
      clear hW5 k3 z3
      refine hK.out _ _ (trivial) (fun hHeld => ?_)
      clear hK
      (try simp only [Act.put, List.setIfInBounds_toArray, List.set_cons_zero, List.set_cons_succ])
      refine wpAnyH_done (by kernel_rfl) ?_ _
      clear hHeld
      go_wp2_with fail
      go_ret
      exact ⟨rfl, _, P5.out.at, PIQ.out, B5.out, by show p.job ≤ _; omega, by show (p.lt ++ [mi]).length ≤ _; rw [List.length_append]; simp⟩
    · skip
      refine wp_load_mid 44 (.tmp 161) rfl g (k * 11) rfl (mgV mi).toList _ RG.out Try.underlying44 rfl mg_info ?_
      refine hK.out _ _ (trivial) (fun hHeld => ?_)
      clear hK
      (try simp only [Act.put, List.setIfInBounds_toArray, List.set_cons_zero, List.set_cons_succ])
      refine wpAnyH_ready (rs := [4, 12]) (by kernel_rfl) (by simp) ?_
      refine AllReadyH.cons rfl (fun K hK => ?_) (AllReadyH.cons rfl (fun K hK => ?_) AllReadyH.nil)
      · skip
        go_simp
        refine hK.out _ _ (trivial) (fun hHeld => ?_)
        clear hK
        (try simp only [Act.put, List.setIfInBounds_toArray, List.set_cons_zero, List.set_cons_succ])
        refine wpAnyH_ready (rs := [12]) (by kernel_rfl) (by simp) ?_
        refine AllReadyH.cons rfl (fun K hK => ?_) AllReadyH.nil
        refine wp_bsM (.tmp 162) rfl mi rfl ?_
        rw [← hW9, ← hJ9]
        clear hW9 hJ9
        refine hK.out _ _ (trivial) (fun hHeld => ?_)
        clear hK
        (try simp only [Act.put, List.setIfInBounds_toArray, List.set_cons_zero, List.set_cons_succ])
        refine wpAnyH_ready (rs := [13]) (by kernel_rfl) (by simp) ?_
        refine AllReadyH.cons rfl (fun K hK => ?_) AllReadyH.nil
        refine ite_yes (by rfl) ?_
        refine wp_apM (.tmp 155) (.tmp 163) ?hDo N (.slice (some ⟨g, 0, none⟩) ln lc) p.lt ?hDs O9.out J9 mi ?hDx M9.out hlq.out P9.out.gN ?hDk
        case hDo => rfl
        case hDs => kernel_rfl
        case hDx => kernel_rfl
        intro v2 w4 o4 g4 at4
        obtain ⟨hB4, hP4, hK4⟩ := P9.out.app o4 g4 at4
        obtain ⟨g2, cap2, hv2⟩ := own_g o4 (by omega)
        subst hv2
        have k3 : w4.cell? ⟨B, 2, none⟩ = some (.slice (some ⟨g, 0, none⟩) ln lc) := by unfold World.cell?; rw [hB4, P9.out.ob]; rfl
        have z3 : w4.frozen? ⟨B, 2, none⟩ = false := by unfold World.frozen?; rw [hB4, P9.out.ob]; simp
        obtain ⟨W5, hW5⟩ : ∃ X, X = w4.setCell ⟨B, 2, none⟩ (.slice (some ⟨g2, 0, none⟩) (p.lt.length + 1) cap2) := ⟨_, rfl⟩
        rw [← hW5] at hP4 hK4
        have P5 := hide hP4
        have K5 : Hid (Kp W3 W5 (fun k => k = B ∨ (Value.slice (some ⟨g, 0, none⟩) ln lc).ownBlock = some k)) := (K9.out.mono (fun _ f => f.elim)).trans hK4 (fun _ e => Or.inl e)
        have B5 : Hid (Below N w W5) := B3.out.trans (K5.out.toN PW.out.gN (fun k e => by rcases e with e | e; rw [e]; exact PW.out.gB; exact own_ge PW.out.lt e))
        replace hW5 := hide hW5
        clear hP4 hK4 hB4 o4 g4 at4
        refine hK.out _ _ (trivial) (fun hHeld => ?_)
        clear hK
        (try simp only [Act.put, List.setIfInBounds_toArray, List.set_cons_zero, List.set_cons_succ])
        refine wpAnyH_take (i := 14) (v := (.pointer (some ⟨B, 0, none⟩))) rfl (by kernel_rfl) (by kernel_rfl) (by kernel_rfl) (fun _ _ _ h => h) (Or.inl ⟨by kernel_rfl, ?_⟩) (by assumption) ?_
        · intro w' hSw
          (try dsimp only at hSw)
          go_simp
        (try simp only [Act.put, List.getElem_toArray, List.getElem_cons_zero, List.getElem_cons_succ, List.setIfInBounds_toArray, List.set_cons_zero, List.set_cons_succ])
        refine wpAnyH_take (i := 15) (v := (.pointer (some ⟨B, 2, none⟩))) rfl (by kernel_rfl) (by kernel_rfl) (by kernel_rfl) (fun _ _ _ h => h) (Or.inl ⟨by kernel_rfl, ?_⟩) (by assumption) ?_
        · intro w' hSw
          (try dsimp only at hSw)
          go_simp
        (try simp only [Act.put, List.getElem_toArray, List.getElem_cons_zero, List.getElem_cons_succ, List.setIfInBounds_toArray, List.set_cons_zero, List.set_cons_succ])
        refine wpAnyH_ready (rs := [16]) (by kernel_rfl) (by simp) ?_
        refine AllReadyH.cons rfl (fun K hK => ?_) AllReadyH.nil
        go_simp
        rw [← hW5.out]
        clear hW5 k3 z3
        refine hK.out _ _ (trivial) (fun hHeld => ?_)
        clear hK
        (try simp only [Act.put, List.setIfInBounds_toArray, List.set_cons_zero, List.set_cons_succ])
        refine wpAnyH_done (by kernel_rfl) ?_ _
        clear hHeld
        go_wp2_with fail
        go_ret
        exact ⟨rfl, _, P5.out.at, PIQ.out, B5.out, by show p.job ≤ _; omega, by show (p.lt ++ [mi]).length ≤ _; rw [List.length_append]; simp⟩
      · skip
        refine wp_bsM (.tmp 162) rfl mi rfl ?_
        rw [← hW9, ← hJ9]
        clear hW9 hJ9
        refine hK.out _ _ (trivial) (fun hHeld => ?_)
        clear hK
        (try simp only [Act.put, List.setIfInBounds_toArray, List.set_cons_zero, List.set_cons_succ])
        refine wpAnyH_ready (rs := [4]) (by kernel_rfl) (by simp) ?_
        refine AllReadyH.cons rfl (fun K hK => ?_) AllReadyH.nil
        go_simp
        refine hK.out _ _ (trivial) (fun hHeld => ?_)
        clear hK
        (try simp only [Act.put, List.setIfInBounds_toArray, List.set_cons_zero, List.set_cons_succ])
        refine wpAnyH_ready (rs := [13]) (by kernel_rfl) (by simp) ?_
        refine AllReadyH.cons rfl (fun K hK => ?_) AllReadyH.nil
        refine ite_yes (by rfl) ?_
        refine wp_apM (.tmp 155) (.tmp 163) ?hEo N (.slice (some ⟨g, 0, none⟩) ln lc) p.lt ?hEs O9.out J9 mi ?hEx M9.out hlq.out P9.out.gN ?hEk
        case hEo => rfl
        case hEs => kernel_rfl
        case hEx => kernel_rfl
        intro v2 w4 o4 g4 at4
        obtain ⟨hB4, hP4, hK4⟩ := P9.out.app o4 g4 at4
        obtain ⟨g2, cap2, hv2⟩ := own_g o4 (by omega)
        subst hv2
        have k3 : w4.cell? ⟨B, 2, none⟩ = some (.slice (some ⟨g, 0, none⟩) ln lc) := by unfold World.cell?; rw [hB4, P9.out.ob]; rfl
        have z3 : w4.frozen? ⟨B, 2, none⟩ = false := by unfold World.frozen?; rw [hB4, P9.out.ob]; simp
        obtain ⟨W5, hW5⟩ : ∃ X, X = w4.setCell ⟨B, 2, none⟩ (.slice (some ⟨g2, 0, none⟩) (p.lt.length + 1) cap2) := ⟨_, rfl⟩
        rw [← hW5] at hP4 hK4
        have P5 := hide hP4
        have K5 : Hid (Kp W3 W5 (fun k => k = B ∨ (Value.slice (some ⟨g, 0, none⟩) ln lc).ownBlock = some k)) := (K9.out.mono (fun _ f => f.elim)).trans hK4 (fun _ e => Or.inl e)
        have B5 : Hid (Below N w W5) := B3.out.trans (K5.out.toN PW.out.gN (fun k e => by rcases e with e | e; rw [e]; exact PW.out.gB; exact own_ge PW.out.lt e))
        replace hW5 := hide hW5
        clear hP4 hK4 hB4 o4 g4 at4
        refine hK.out _ _ (trivial) (fun hHeld => ?_)
        clear hK
        (try simp only [Act.put, List.setIfInBounds_toArray, List.set_cons_zero, List.set_cons_succ])
        refine wpAnyH_take (i := 14) (v := (.pointer (some ⟨B, 0, none⟩))) rfl (by kernel_rfl) (by kernel_rfl) (by kernel_rfl) (fun _ _ _ h => h) (Or.inl ⟨by kernel_rfl, ?_⟩) (by assumption) ?_
        · intro w' hSw
          (try dsimp only at hSw)
          go_simp
        (try simp only [Act.put, List.getElem_toArray, List.getElem_cons_zero, List.getElem_cons_succ, List.setIfInBounds_toArray, List.set_cons_zero, List.set_cons_succ])
        refine wpAnyH_take (i := 15) (v := (.pointer (some ⟨B, 2, none⟩))) rfl (by kernel_rfl) (by kernel_rfl) (by kernel_rfl) (fun _ _ _ h => h) (Or.inl ⟨by kernel_rfl, ?_⟩) (by assumption) ?_
        · intro w' hSw
          (try dsimp only at hSw)
          go_simp
        (try simp only [Act.put, List.getElem_toArray, List.getElem_cons_zero, List.getElem_cons_succ, List.setIfInBounds_toArray, List.set_cons_zero, List.set_cons_succ])
        refine wpAnyH_ready (rs := [16]) (by kernel_rfl) (by simp) ?_
        refine AllReadyH.cons rfl (fun K hK => ?_) AllReadyH.nil
        go_simp
        rw [← hW5.out]
        clear hW5 k3 z3
        refine hK.out _ _ (trivial) (fun hHeld => ?_)
        clear hK
        (try simp only [Act.put, List.setIfInBounds_toArray, List.set_cons_zero, List.set_cons_succ])
        refine wpAnyH_done (by kernel_rfl) ?_ _
        clear hHeld
        go_wp2_with fail
        go_ret
        exact ⟨rfl, _, P5.out.at, PIQ.out, B5.out, by show p.job ≤ _; omega, by show (p.lt ++ [mi]).length ≤ _; rw [List.length_append]; simp⟩
end Go.Proofs.Ytpleakkhbfhdkaa.Cn
