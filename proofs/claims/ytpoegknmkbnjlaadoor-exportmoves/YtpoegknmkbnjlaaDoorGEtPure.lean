import Derived.Test.YtpoegknmkbnjlaaDoorGCaBase
import Derived.Test.YtpoegknmkbnjlaaDoorGErAsk
import Derived.Test.YtpoegknmkbnjlaaDoorGErLeave
import Derived.Test.YtpoegknmkbnjlaaDoorEpCalls
namespace Go.Proofs.YtpoegknmkbnjlaaDoor.Cn
open Go.RowKit
/-- what was read is bounded: it grows only while a job goes on -/
structure Bok (e : Ex) (r : Rx) (R n : Nat) : Prop where
  rel : Rel e r
  ok : Eok e R n
  ob : r.of_.length ≤ 40000
theorem Go.oflen {e : Ex} {r : Rx} {R n : Nat} (g : Go e r) (ok : Eok e R n) (hb : busyB e = true) : r.of_.length ≤ 33280 ∧ r.rd.length = r.of_.length := by
  obtain ⟨o, h1, h2, h3⟩ := g.of_
  have j := ok.job hb
  have j1 := j.pl; have j2 := j.rl; have j3 := j.pt; have p1 := ok.p1
  have e1 : r.of_.length = e.told.ps.length + e.rd.length := by rw [h1, List.length_append, h2, List.length_replicate]
  have e2 : r.rd.length = e.told.ps.length + e.rd.length := by rw [g.rd, List.length_append]
  omega
theorem Bok.rok {e : Ex} {r : Rx} {R n : Nat} (h : Bok e r R n) : Rok r :=
  ⟨by rw [h.rel.b.rows]; exact h.ok.p1, fun q hq => by
    rw [h.rel.b.rows] at hq
    rw [h.ok.rw_ q hq]
    exact h.ok.r1, by have := h.ob; omega⟩
theorem Bok.rjb {e : Ex} {r : Rx} {R n : Nat} (h : Bok e r R n) (ho : r.on = true) : Rjb r := by
  have hb : busyB e = true := by rw [← h.rel.on]; exact ho
  have g := h.rel.go hb
  have j := h.ok.job hb
  refine ⟨by rw [h.rel.b.rows, g.part]; exact j.pt, ?_, (g.oflen h.ok hb).2, ?_⟩
  · rw [h.rel.b.row g, rowAt_len h.ok j.pt, g.left]
    exact j.lf
  · rw [g.lost]
    have := j.ml; have := j.pt; have := h.ok.p1
    omega
theorem Bok.jobs {e : Ex} {r : Rx} {R n : Nat} (h : Bok e r R n) : 0 ≤ r.job ∧ r.job ≤ (n : Int) + 1 := by
  have l := h.ok.lj
  have e1 := h.rel.job
  cases hb : busyB e with
  | false => rw [hb, if_neg (by simp)] at e1; omega
  | true =>
    rw [hb, if_pos rfl] at e1
    have := h.ok.jn hb
    omega
theorem Bok.now {e : Ex} {r : Rx} {R n : Nat} (h : Bok e r R n) : 0 ≤ r.now ∧ r.now ≤ (n : Int) := by rw [h.rel.b.now]; exact h.ok.nw
theorem Bok.wt {e : Ex} {r : Rx} {R n : Nat} (h : Bok e r R n) : 1 ≤ r.wt ∧ r.wt ≤ 1000000000 := by rw [h.rel.b.wt]; exact h.ok.gw
theorem keepO_le (l : List Int) (x : Int) : (keepO l x).length ≤ l.length := List.length_filter_le _ _
theorem goR_of (r : Rx) : (goR r).of_ = r.of_ := by
  unfold goR
  split <;> rfl
theorem leaveR_of (r : Rx) : (leaveR r).of_.length ≤ r.of_.length := by
  unfold leaveR
  split
  · exact Nat.le_refl _
  · rw [goR_of]
    exact keepO_le _ _
/-- behind a call: it goes on, or what was read has not grown -/
theorem Bok.mk' {e e' : Ex} {r r' : Rx} {R n n' : Nat} (h : Bok e r R n) (hr : Rel e' r') (ok : Eok e' R n') (ho : r'.on = true ∨ r'.of_.length ≤ r.of_.length) : Bok e' r' R n' := by
  refine ⟨hr, ok, ?_⟩
  have := h.ob
  cases hb : busyB e' with
  | true => have := ((hr.go hb).oflen ok hb).1; omega
  | false =>
    rcases ho with ho | ho
    · rw [hr.on, hb] at ho; cases ho
    · omega
theorem Bok.take {e : Ex} {r : Rx} {R n : Nat} (h : Bok e r R n) (m : Mg) : Bok (takeX e m) (takeR r m) R (n + 1) ∧ takeL e m = takeRL r m := by
  obtain ⟨h1, h2⟩ := rel_take h.ok h.rel m
  refine ⟨h.mk' h1 (takeX_ok h.ok m) ?_, h2⟩
  unfold takeR
  cases hi : isR r m with
  | false => exact Or.inr (Nat.le_refl _)
  | true =>
    rw [if_pos rfl]
    unfold hearR
    by_cases q : m.code = 16
    · rw [if_pos q, goR_of]
      exact Or.inr (Nat.le_refl _)
    · rw [if_neg q]
      by_cases q2 : m.code = 0 ∧ cntR r < 512
      · rw [if_pos q2]
        left
        unfold isR at hi
        rw [Bool.and_eq_true] at hi
        exact hi.1
      · rw [if_neg q2]
        exact Or.inr (leaveR_of r)
theorem Bok.tick {e : Ex} {r : Rx} {R n : Nat} (h : Bok e r R n) : Bok (tickX e) (tickR r) R (n + 2) ∧ tickL e = tickRL r := by
  obtain ⟨h1, h2⟩ := rel_tick h.ok h.rel
  refine ⟨h.mk' h1 (tickX_ok h.ok) (Or.inr ?_), h2⟩
  unfold tickR
  split
  · exact leaveR_of (nowR r)
  · exact Nat.le_refl _
theorem Bok.beg {e : Ex} {r : Rx} {R n : Nat} (h : Bok e r R n) (v : Int) : Bok (begX e v) (begR r v) R (n + 1) ∧ begL e v = begRL r v ∧ begE e v = begRE r v := by
  obtain ⟨h1, h2, h3⟩ := rel_beg h.ok h.rel v
  refine ⟨h.mk' h1 (begX_ok h.ok v) (Or.inr ?_), h2, h3⟩
  unfold begR
  split
  · exact Nat.zero_le _
  · exact Nat.le_refl _
theorem Bok.more {e : Ex} {r : Rx} {R n n' : Nat} (h : Bok e r R n) (hn : n ≤ n') : Bok e r R n' := ⟨h.rel, h.ok.more hn, h.ob⟩
/-- at most one message goes out -/
theorem goRL_one (r : Rx) : (goRL r).length ≤ 1 := by unfold goRL; split <;> simp
theorem leaveRL_one (r : Rx) : (leaveRL r).length ≤ 1 := by
  unfold leaveRL
  split
  · simp
  · exact goRL_one _
theorem takeRL_one (r : Rx) (m : Mg) : (takeRL r m).length ≤ 1 := by
  unfold takeRL
  split
  · unfold hearRL
    split
    · exact goRL_one _
    · split
      · simp
      · exact leaveRL_one _
  · simp
theorem tickRL_one (r : Rx) : (tickRL r).length ≤ 1 := by
  unfold tickRL
  split
  · exact leaveRL_one _
  · simp
theorem begRL_one (r : Rx) (v : Int) : (begRL r v).length ≤ 1 := by unfold begRL; split <;> simp
end Go.Proofs.YtpoegknmkbnjlaaDoor.Cn
namespace Go.Proofs.YtpoegknmkbnjlaaDoor.Cn
open Go.RowKit
theorem run_copy_rowK {P : Program} (w : World) (dT sT ty elem : TypeId) (k g o dLen dCap : Nat) (a : Addr) (sLen sCap : Nat) (cur : Array Value) (t : TypeId) (cs : List Value)
    (hu : P.underlying dT = some (.slice elem)) (hs : (P.info? elem).map (·.size) = some k)
    (hg : w.heap[g]? = some (.cells cur t (0, 0))) (hn : cs.length = Nat.min sLen dLen * k)
    (hsrc : ∀ j v, cs[j]? = some v → w.cell? (a.add j) = some v) (hfit : o + cs.length ≤ cur.size) (h1 : ∀ v ∈ cs, v.oneCell' = true) :
    (Builtin.copy_ #[dT, sT] ty #[.slice (some ⟨g, o, none⟩) dLen dCap, .slice (some a) sLen sCap]).run P w =
      .ok (goInt (Nat.min sLen dLen)) (w.setRow g (cur.toList.take o ++ cs ++ cur.toList.drop (o + cs.length)).toArray) := by
  have hl := run_loadCells_list (P := P) w a cs hsrc
  have hst := run_storeCells_at P g o t cs 0 cur w hg (by simpa using hfit) h1
  cases hq : P.info? elem with
  | none => simp [hq] at hs
  | some i =>
    have hi : i.size = k := by simpa [hq] using hs
    simp [Builtin.copy_, run_underlying hu, Builtin.lenOf, Builtin.firstCells, sizeOf, typeInfo, hq, hi, ← hn, hl, hst]
set_option maxHeartbeats 16000000 in
set_option maxRecDepth 100000 in
set_option linter.unusedSimpArgs false in
set_option linter.unusedVariables false in
theorem copyP_x {w : World} {u : Value} {n : Nat} {xs : List Value} (ho : w.ownsRow 0 89 2 u n xs) (h1 : ∀ q ∈ xs, q.oneCell' = true) (hL : n ≤ 100000000) :
    Calls Tryd.prog 36 #[u] w fun e w' => ∃ u', e = .returned u' ∧ w'.ownsRow w.heap.size 89 2 u' n xs ∧ Kp w w' non := by
  obtain ⟨i0, hi0, hz0, hz1, hz2⟩ := info_parts pr_infos
  obtain ⟨ZC, hZ⟩ : ∃ ZC, ZC = madeCells (Value.cells (.agg (prV ⟨⟨#[]⟩, ⟨#[]⟩⟩))) (((n : Nat) : Int).toNat * i0.size) := ⟨_, rfl⟩
  have hZs : ZC.size = n * 2 := by rw [hZ, size_madeCells, hz1]; simp
  have hmk : (Instr.makeSlice 55 (.int .i64 (n : Int)) (.int .i64 (n : Int))).run Tryd.prog w = .ok (.slice (some ⟨w.heap.size, 0, none⟩) n n) (w.alloc (.cells ZC 89)) := by
    have h := run_make (P := Tryd.prog) w 55 89 i0 _ Tryd.underlying55 hi0 hz0 .i64 .i64 (n : Int) (n : Int) (by omega) (by omega) (by rw [hz2]; omega) (by omega)
    rw [← hZ] at h
    simpa using h
  clear hZ
  obtain ⟨W1, hW1⟩ : ∃ W1, W1 = w.alloc (.cells ZC 89) := ⟨_, rfl⟩
  have hB : W1.heap[w.heap.size]? = some (.cells ZC 89) := by rw [hW1]; exact heap_last w _
  have k1 : Kp w W1 non := by rw [hW1]; exact (Kp.refl w non).alloc _
  have o1 := own_kp ho k1 (fun _ _ f => f)
  have fin : ∀ w' : World, w'.heap[w.heap.size]? = some (.cells xs.toArray 89) → w'.ownsRow w.heap.size 89 2 (.slice (some ⟨w.heap.size, 0, none⟩) n n) n xs := fun w' hw => ⟨ho.1, .inr ⟨w.heap.size, n, xs.toArray, rfl, Nat.le_refl _, hw, Nat.le_refl _, by unfold maxLen; omega, by rw [List.size_toArray]; exact ho.1, by
    rw [List.take_of_length_le (by rw [ho.1]; exact Nat.le_refl _)]⟩⟩
  have hcp : ∀ ty, ∃ w', (Builtin.copy_ #[55, 55] ty #[.slice (some ⟨w.heap.size, 0, none⟩) n n, u]).run Tryd.prog W1 = .ok (goInt n) w' ∧ w'.ownsRow w.heap.size 89 2 (.slice (some ⟨w.heap.size, 0, none⟩) n n) n xs ∧ Kp w w' non := by
    intro ty
    rcases o1.2 with ⟨e, e2⟩ | ⟨g, cap, cur, e, _⟩
    · have h0 : xs = [] := by
        have := ho.1
        rw [e2, Nat.zero_mul] at this
        exact List.length_eq_zero_iff.1 this
      subst e2 e
      refine ⟨_, run_copy_nil (P := Tryd.prog) _ _ _ ty _ _ _ _ Tryd.underlying55 (by rw [hi0]; rfl), fin _ ?_, k1⟩
      rw [hB]
      have : ZC = #[] := Array.eq_empty_of_size_eq_zero (by simpa using hZs)
      rw [this, h0]
    · subst e
      have hrun := run_copy_rowK (P := Tryd.prog) W1 55 55 ty 89 2 w.heap.size 0 n n ⟨g, 0, none⟩ n cap ZC 89 xs Tryd.underlying55 (by rw [hi0]; simp [hz1]) hB (by rw [ho.1]; simp) (by
        intro j q hj
        rw [Addr.add_mid, Nat.zero_add]
        obtain ⟨g', c', e1, hc, _⟩ := own_at o1 hj
        injection e1 with e1
        injection e1 with e1
        injection e1 with e1
        rw [e1]
        exact hc) (by rw [ho.1, hZs]; omega) h1
      rw [show Nat.min n n = n from Nat.min_self _] at hrun
      refine ⟨_, hrun, fin _ ?_, k1.row (Or.inr (Nat.le_refl _)) _⟩
      rw [setRow_heap _ _ ZC _ 89 (0, 0) hB, List.take_zero, List.nil_append, List.drop_of_length_le (by rw [Array.length_toList, ho.1, hZs]; omega), List.append_nil]
  obtain ⟨ua, uc, hu⟩ := own_sl ho
  subst hu
  have HF := hide hcp
  rw [hW1] at HF
  clear ho h1 hB k1 o1 fin hcp hW1 hi0 hz0 hz1 hz2 hZs
  go_enter Tryd.func36, Tryd.ntmps36
  go_upto_region 2 with fail
  obtain ⟨w2, hr, o2, k2⟩ := HF.out 3
  have O2 := hide o2
  have K2 := hide k2
  clear o2 k2 HF hmk
  go_wp2_with fail
  go_ret
  exact ⟨_, rfl, O2.out, K2.out⟩
set_option maxHeartbeats 16000000 in
set_option maxRecDepth 100000 in
set_option linter.unusedSimpArgs false in
set_option linter.unusedVariables false in
theorem copyI_x {w : World} {u : Value} {n : Nat} {xs : List Value} (ho : w.ownsRow 0 3 1 u n xs) (h1 : ∀ q ∈ xs, q.oneCell' = true) (hL : n ≤ 100000000) :
    Calls Tryd.prog 37 #[u] w fun e w' => ∃ u', e = .returned u' ∧ w'.ownsRow w.heap.size 3 1 u' n xs ∧ Kp w w' non := by
  obtain ⟨i0, hi0, hz0, hz1, hz2⟩ := info_parts int_infos
  obtain ⟨ZC, hZ⟩ : ∃ ZC, ZC = madeCells (Value.cells (.int .i64 0)) (((n : Nat) : Int).toNat * i0.size) := ⟨_, rfl⟩
  have hZs : ZC.size = n * 1 := by rw [hZ, size_madeCells, hz1]; simp
  have hmk : (Instr.makeSlice 48 (.int .i64 (n : Int)) (.int .i64 (n : Int))).run Tryd.prog w = .ok (.slice (some ⟨w.heap.size, 0, none⟩) n n) (w.alloc (.cells ZC 3)) := by
    have h := run_make (P := Tryd.prog) w 48 3 i0 _ Tryd.underlying48 hi0 hz0 .i64 .i64 (n : Int) (n : Int) (by omega) (by omega) (by rw [hz2]; omega) (by omega)
    rw [← hZ] at h
    simpa using h
  clear hZ
  obtain ⟨W1, hW1⟩ : ∃ W1, W1 = w.alloc (.cells ZC 3) := ⟨_, rfl⟩
  have hB : W1.heap[w.heap.size]? = some (.cells ZC 3) := by rw [hW1]; exact heap_last w _
  have k1 : Kp w W1 non := by rw [hW1]; exact (Kp.refl w non).alloc _
  have o1 := own_kp ho k1 (fun _ _ f => f)
  have fin : ∀ w' : World, w'.heap[w.heap.size]? = some (.cells xs.toArray 3) → w'.ownsRow w.heap.size 3 1 (.slice (some ⟨w.heap.size, 0, none⟩) n n) n xs := fun w' hw => ⟨ho.1, .inr ⟨w.heap.size, n, xs.toArray, rfl, Nat.le_refl _, hw, Nat.le_refl _, by unfold maxLen; omega, by rw [List.size_toArray]; exact ho.1, by
    rw [List.take_of_length_le (by rw [ho.1]; exact Nat.le_refl _)]⟩⟩
  have hcp : ∀ ty, ∃ w', (Builtin.copy_ #[48, 48] ty #[.slice (some ⟨w.heap.size, 0, none⟩) n n, u]).run Tryd.prog W1 = .ok (goInt n) w' ∧ w'.ownsRow w.heap.size 3 1 (.slice (some ⟨w.heap.size, 0, none⟩) n n) n xs ∧ Kp w w' non := by
    intro ty
    rcases o1.2 with ⟨e, e2⟩ | ⟨g, cap, cur, e, _⟩
    · have h0 : xs = [] := by
        have := ho.1
        rw [e2, Nat.zero_mul] at this
        exact List.length_eq_zero_iff.1 this
      subst e2 e
      refine ⟨_, run_copy_nil (P := Tryd.prog) _ _ _ ty _ _ _ _ Tryd.underlying48 (by rw [hi0]; rfl), fin _ ?_, k1⟩
      rw [hB]
      have : ZC = #[] := Array.eq_empty_of_size_eq_zero (by simpa using hZs)
      rw [this, h0]
    · subst e
      have hrun := run_copy_rowK (P := Tryd.prog) W1 48 48 ty 3 1 w.heap.size 0 n n ⟨g, 0, none⟩ n cap ZC 3 xs Tryd.underlying48 (by rw [hi0]; simp [hz1]) hB (by rw [ho.1]; simp) (by
        intro j q hj
        rw [Addr.add_mid, Nat.zero_add]
        obtain ⟨g', c', e1, hc, _⟩ := own_at o1 hj
        injection e1 with e1
        injection e1 with e1
        injection e1 with e1
        rw [e1]
        exact hc) (by rw [ho.1, hZs]; omega) h1
      rw [show Nat.min n n = n from Nat.min_self _] at hrun
      refine ⟨_, hrun, fin _ ?_, k1.row (Or.inr (Nat.le_refl _)) _⟩
      rw [setRow_heap _ _ ZC _ 3 (0, 0) hB, List.take_zero, List.nil_append, List.drop_of_length_le (by rw [Array.length_toList, ho.1, hZs]; omega), List.append_nil]
  obtain ⟨ua, uc, hu⟩ := own_sl ho
  subst hu
  have HF := hide hcp
  rw [hW1] at HF
  clear ho h1 hB k1 o1 fin hcp hW1 hi0 hz0 hz1 hz2 hZs
  go_enter Tryd.func37, Tryd.ntmps37
  go_upto_region 2 with fail
  obtain ⟨w2, hr, o2, k2⟩ := HF.out 3
  have O2 := hide o2
  have K2 := hide k2
  clear o2 k2 HF hmk
  go_wp2_with fail
  go_ret
  exact ⟨_, rfl, O2.out, K2.out⟩
end Go.Proofs.YtpoegknmkbnjlaaDoor.Cn
namespace Go.Proofs.YtpoegknmkbnjlaaDoor.Cn
open Go.RowKit
set_option maxHeartbeats 16000000 in
set_option maxRecDepth 100000 in
set_option linter.unusedSimpArgs false in
set_option linter.unusedVariables false in
theorem Report_x {w : World} {X : Nat} {v : Ex} {Z : Zz} (h : ExAt w X v Z) (hp : 1 ≤ v.rows.length) (hj : v.last.jb ≠ 0) (hl : v.last.ps.length ≤ 100000 ∧ v.last.ms.length ≤ 100000) :
    Calls Tryd.prog 18 #[.pointer (some ⟨X, 0, none⟩)] w fun e w' => ∃ u1 u2, e = .returned (.tuple #[.agg (toA v.last u1 u2), .int .i64 0]) ∧ w'.ownsRow w.heap.size 89 2 u1 v.last.ps.length (prs v.last.ps) ∧ w'.ownsRow w.heap.size 3 1 u2 v.last.ms.length (ints v.last.ms) ∧ Kp w w' non := by
  obtain ⟨A, hA⟩ : ∃ A, A = w.heap.size := ⟨_, rfl⟩
  obtain ⟨W0, hW0⟩ : ∃ W0, W0 = w.alloc (.cells (toA rp0 nilV nilV) 57) := ⟨_, rfl⟩
  have hz0 : W0.heap.size = A + 1 := by rw [hW0, hA]; simp
  have k0 : Kp w W0 non := by rw [hW0]; exact (Kp.refl w non).alloc _
  have A0 : W0.heap[A]? = some (.cells (toA rp0 nilV nilV) 57) := by rw [hW0, hA]; exact heap_last _ _
  have x0 := h.kp0 k0
  obtain ⟨W1, hW1⟩ : ∃ W1, W1 = W0.alloc (.cells (toA v.last Z.lp Z.lm) 57) := ⟨_, rfl⟩
  have k1 : Kp W0 W1 non := by rw [hW1]; exact (Kp.refl W0 non).alloc _
  have c1 : W1.heap[A + 1]? = some (.cells (toA v.last Z.lp Z.lm) 57) := by rw [hW1, ← hz0]; exact heap_last _ _
  have KW : Hid (Kp w W1 non) := k0.trans k1 (fun _ f => f.elim)
  have X1 : Hid (ExAt W1 X v Z) := x0.kp0 k1
  have A1 : Hid (W1.heap[A]? = some (.cells (toA rp0 nilV nilV) 57)) := k1.blk0 A0
  have C1 := hide c1
  have NO := hide (none_x x0 hp)
  have c16 : W0.cell? ⟨X, 16, none⟩ = some (.int .i64 v.last.jb) := (ex_cells x0.blk).2.2.2.2.2.2.2.2.2.2.2
  have RG := hide (last_range x0.blk)
  have o1 := sls h.ow.lp
  have o2 := sls h.ow.lm
  have ON := hide (to_one v.last o1 o2)
  have TI := hide to_info
  have q1 : (v.last.jb == 0) = false := by simpa using hj
  have HA := hide hA
  have SN : Hid (W0.alloc (.cells (toA rp0 nilV nilV) 57) = W0.alloc (.cells #[.int .i64 0, .int .i64 0, .slice none 0 0, .slice none 0 0] 57)) := rfl
  have HS : Hid ((W0.alloc (.cells #[.int .i64 0, .int .i64 0, .slice none 0 0, .slice none 0 0] 57)).setRow (A + 1) (toA v.last Z.lp Z.lm) = W1) := by
    rw [hW1, ← hz0]
    exact World.setRow_alloc_new _ _ _ _
  have HL : Hid ((W0.alloc (.cells #[.int .i64 0, .int .i64 0, .slice none 0 0, .slice none 0 0] 57)).heap[A + 1]? = some (.cells #[.int .i64 0, .int .i64 0, .slice none 0 0, .slice none 0 0] 57)) := by
    rw [← hz0]
    exact heap_last _ _
  have HW0 : Hid (W0 = w.alloc (.cells #[.int .i64 0, .int .i64 0, .slice none 0 0, .slice none 0 0] 57)) := hW0
  have HZ0 := hide hz0
  have CP : Hid (∀ Y, Kp W1 Y non → Calls Tryd.prog 36 #[Z.lp] Y fun e w' => ∃ u', e = .returned u' ∧ w'.ownsRow Y.heap.size 89 2 u' v.last.ps.length (prs v.last.ps) ∧ Kp Y w' non) := fun Y hk => copyP_x (own_kp X1.out.ow.lp hk (fun _ _ f => f)) (prs_oneCell _) (by omega)
  have CI : Hid (∀ Y, Kp W1 Y non → Calls Tryd.prog 37 #[Z.lm] Y fun e w' => ∃ u', e = .returned u' ∧ w'.ownsRow Y.heap.size 3 1 u' v.last.ms.length (ints v.last.ms) ∧ Kp Y w' non) := fun Y hk => copyI_x (own_kp X1.out.ow.lm hk (fun _ _ f => f)) (ints_one _) (by omega)
  obtain ⟨lj, hlj⟩ : ∃ lj, lj = v.last.jb := ⟨_, rfl⟩
  rw [← hlj] at c16 q1
  obtain ⟨lp, hlp⟩ : ∃ lp, lp = Z.lp := ⟨_, rfl⟩
  obtain ⟨lm, hlm⟩ : ∃ lm, lm = Z.lm := ⟨_, rfl⟩
  rw [← hlp] at C1 RG o1 ON HS CP
  rw [← hlm] at C1 RG o2 ON HS CI
  obtain ⟨lpa, lpn, lpc, elp⟩ := o1
  obtain ⟨lma, lmn, lmc, elm⟩ := o2
  subst elp elm
  obtain ⟨la, hla⟩ : ∃ la, la = v.last := ⟨_, rfl⟩
  have HLA := hide hla
  rw [← hla] at C1 RG ON HS
  clear h hp hj hl k0 A0 x0 k1 c1 hW1 hz0 hW0 hlj hla hlp hlm
  go_enter Tryd.func18, Tryd.ntmps18
  go_upto_region 1 with fail
  rw [← HW0.out]
  rw [← hA]
  clear hA
  go_wp2_with fail
  refine Calls.mono NO.out ?_
  rintro e w' ⟨rfl, rfl⟩
  go_upto_region 5 with fail
  clear c16 q1 NO
  have SZ := HZ0.out
  go_upto_region 6 with (first | refine wpList_load_mid rfl 57 (.tmp 19) rfl X 16 rfl (toA la (.slice lpa lpn lpc) (.slice lma lmn lmc)).toList _ RG.out Tryd.underlying57 rfl TI.out ?_ | (refine wpList_stR rfl 57 (.tmp 4) (.tmp 20) rfl (A + 1) rfl (toA la (.slice lpa lpn lpc) (.slice lma lmn lmc)) #[.int .i64 0, .int .i64 0, .slice none 0 0, .slice none 0 0] rfl _ HL.out TI.out rfl ON.out ?_; rw [HS.out]))
  clear HL HS RG ON SZ HW0 HZ0 SN
  refine wp_region_held_drew (S := fun _ => True) (by kernel_rfl) trivial (fun hHeld => ?_)
  refine wTk (i := 0) (v := (.pointer (some ⟨A + 1, 2, none⟩))) rfl ?_ ?_
  · intro w' hSw
    (try dsimp only at hSw)
    go_simp
  (try simp only [Act.put, List.getElem_toArray, List.getElem_cons_zero, List.getElem_cons_succ, List.setIfInBounds_toArray, List.set_cons_zero, List.set_cons_succ])
  refine wTk (i := 3) (v := (.pointer (some ⟨A + 1, 3, none⟩))) rfl ?_ ?_
  · intro w' hSw
    (try dsimp only at hSw)
    go_simp
  (try simp only [Act.put, List.getElem_toArray, List.getElem_cons_zero, List.getElem_cons_succ, List.setIfInBounds_toArray, List.set_cons_zero, List.set_cons_succ])
  refine wpAnyH_ready (rs := [1, 4]) (by kernel_rfl) (by simp) ?_
  refine AllReadyH.cons rfl (fun K hK => ?_) (AllReadyH.cons rfl (fun K hK => ?_) AllReadyH.nil)
  · have cc : W1.drew.cell? ⟨A + 1, 2, none⟩ = some (.slice lpa lpn lpc) := by rw [cell_row ((((Kp.refl W1 non).drew)).blk0 C1.out)]; rfl
    have cc2 : W1.cell? ⟨A + 1, 2, none⟩ = some (.slice lpa lpn lpc) := cc
    go_simp
    clear cc cc2
    refine hK.out _ _ (trivial) (fun hHeld => ?_)
    clear hK
    (try simp only [Act.put, List.setIfInBounds_toArray, List.set_cons_zero, List.set_cons_succ])
    refine wpAnyH_ready (rs := [2, 4]) (by kernel_rfl) (by simp) ?_
    refine AllReadyH.cons rfl (fun K hK => ?_) (AllReadyH.cons rfl (fun K hK => ?_) AllReadyH.nil)
    · go_simp
      refine Calls.mono (CP.out _ (((Kp.refl W1 non).drew))) ?_
      rintro e Y2 ⟨u1, rfl, op, k2⟩
      have Op := hide op
      have K2 : Hid (Kp W1 Y2 non) := (((Kp.refl W1 non).drew)).trans k2 (fun _ f => f.elim)
      have OpS : Hid (W1.heap.size ≤ W1.drew.heap.size) := (((Kp.refl W1 non).drew)).size
      clear k2 op
      obtain ⟨u1a, u1c, rfl⟩ := own_sl Op.out
      refine hK.out _ _ (trivial) (fun hHeld => ?_)
      clear hK
      (try simp only [Act.put, List.setIfInBounds_toArray, List.set_cons_zero, List.set_cons_succ])
      refine wpAnyH_ready (rs := [4]) (by kernel_rfl) (by simp) ?_
      refine AllReadyH.cons rfl (fun K hK => ?_) AllReadyH.nil
      have cc : Y2.cell? ⟨A + 1, 3, none⟩ = some (.slice lma lmn lmc) := by rw [cell_row ((K2.out).blk0 C1.out)]; rfl
      go_simp
      clear cc
      refine hK.out _ _ (trivial) (fun hHeld => ?_)
      clear hK
      (try simp only [Act.put, List.setIfInBounds_toArray, List.set_cons_zero, List.set_cons_succ])
      refine wTk (i := 6) (v := (.pointer (some ⟨A + 1, 2, none⟩))) rfl ?_ ?_
      · intro w' hSw
        (try dsimp only at hSw)
        go_simp
      (try simp only [Act.put, List.getElem_toArray, List.getElem_cons_zero, List.getElem_cons_succ, List.setIfInBounds_toArray, List.set_cons_zero, List.set_cons_succ])
      refine wpAnyH_ready (rs := [5]) (by kernel_rfl) (by simp) ?_
      refine AllReadyH.cons rfl (fun K hK => ?_) AllReadyH.nil
      go_simp
      refine Calls.mono (CI.out _ (K2.out)) ?_
      rintro e Y4 ⟨u2, rfl, oq, k4⟩
      have Oq := hide oq
      have K4 : Hid (Kp W1 Y4 non) := (K2.out).trans k4 (fun _ f => f.elim)
      have Op := hide (own_kp Op.out k4 (fun _ _ f => f))
      have OqS : Hid (W1.heap.size ≤ Y2.heap.size) := (K2.out).size
      clear k4 oq
      obtain ⟨u2a, u2c, rfl⟩ := own_sl Oq.out
      refine hK.out _ _ (trivial) (fun hHeld => ?_)
      clear hK
      (try simp only [Act.put, List.setIfInBounds_toArray, List.set_cons_zero, List.set_cons_succ])
      refine wpAnyH_ready (rs := [7]) (by kernel_rfl) (by simp) ?_
      refine AllReadyH.cons rfl (fun K hK => ?_) AllReadyH.nil
      have bC : Y4.heap[A + 1]? = some (.cells (toA la (.slice lpa lpn lpc) (.slice lma lmn lmc)) 57) := (K4.out).blk0 C1.out
      have x2 : Y4.cell? ⟨A + 1, 2, none⟩ = some (.slice lpa lpn lpc) := by rw [cell_row bC]; rfl
      have f2 := fz_row bC 2
      go_simp
      obtain ⟨V1, hV1⟩ : ∃ V, V = Y4.setCell ⟨A + 1, 2, none⟩ (.slice u1a v.last.ps.length u1c) := ⟨_, rfl⟩
      rw [← hV1]
      have b1 := set_row bC 2 (.slice u1a v.last.ps.length u1c)
      rw [← hV1] at b1
      have b1 : V1.heap[A + 1]? = some (.cells (toA la (.slice u1a v.last.ps.length u1c) (.slice lma lmn lmc)) 57) := b1
      refine hK.out _ _ (trivial) (fun hHeld => ?_)
      clear hK
      (try simp only [Act.put, List.setIfInBounds_toArray, List.set_cons_zero, List.set_cons_succ])
      refine wTk (i := 8) (v := (.pointer (some ⟨A + 1, 3, none⟩))) rfl ?_ ?_
      · intro w' hSw
        (try dsimp only at hSw)
        go_simp
      (try simp only [Act.put, List.getElem_toArray, List.getElem_cons_zero, List.getElem_cons_succ, List.setIfInBounds_toArray, List.set_cons_zero, List.set_cons_succ])
      refine wpAnyH_ready (rs := [9]) (by kernel_rfl) (by simp) ?_
      refine AllReadyH.cons rfl (fun K hK => ?_) AllReadyH.nil
      have x3 : V1.cell? ⟨A + 1, 3, none⟩ = some (.slice lma lmn lmc) := by rw [cell_row b1]; rfl
      have f3 := fz_row b1 3
      have kV : Kp Y4 V1 (fun k => k = A + 1) := by rw [hV1]; exact (Kp.refl Y4 (fun k => k = A + 1)).set (Or.inl rfl) _ _
      clear hV1 x2 f2 bC
      go_simp
      obtain ⟨V2, hV2⟩ : ∃ V, V = V1.setCell ⟨A + 1, 3, none⟩ (.slice u2a v.last.ms.length u2c) := ⟨_, rfl⟩
      rw [← hV2]
      have b2 := set_row b1 3 (.slice u2a v.last.ms.length u2c)
      rw [← hV2] at b2
      have B2 : Hid (V2.heap[A + 1]? = some (.cells (toA la (.slice u1a v.last.ps.length u1c) (.slice u2a v.last.ms.length u2c)) 57)) := b2
      have KV : Hid (Kp Y4 V2 (fun k => k = A + 1)) := kV.trans (by rw [hV2]; exact (Kp.refl V1 (fun k => k = A + 1)).set (Or.inl rfl) _ _) (fun _ e => Or.inl e)
      refine hK.out _ _ (trivial) (fun hHeld => ?_)
      clear hK
      (try simp only [Act.put, List.setIfInBounds_toArray, List.set_cons_zero, List.set_cons_succ])
      clear hV2 x3 f3 b1 b2 kV
      refine wpAnyH_done (by kernel_rfl) ?_ _
      clear hHeld
      have KA : Hid (Kp w V2 non) := (KW.out.trans (K4.out) (fun _ f => f.elim)).trans KV.out (fun k e => Or.inr (by have := HA.out; omega))
      have BA : Hid (V2.heap[A]? = some (.cells (toA rp0 nilV nilV) 57)) := (KV.out.block _ (blk_lt ((K4.out).blk0 A1.out)) (fun e => by have e : A = A + 1 := e; omega)).trans ((K4.out).blk0 A1.out)
      have P1 : Hid (V2.ownsRow w.heap.size 89 2 (.slice u1a v.last.ps.length u1c) v.last.ps.length (prs v.last.ps)) := own_kp (own_base Op.out (by have := KW.out.size; have := OpS.out; omega)) KV.out (fun k e q => by have := own_ge Op.out e; have := blk_lt C1.out; have := OpS.out; omega)
      have P2 : Hid (V2.ownsRow w.heap.size 3 1 (.slice u2a v.last.ms.length u2c) v.last.ms.length (ints v.last.ms)) := own_kp (own_base Oq.out (by have := KW.out.size; have := OqS.out; omega)) KV.out (fun k e q => by have := own_ge Oq.out e; have := blk_lt C1.out; have := OqS.out; omega)
      go_upto_region 7 with fail
      obtain ⟨V3, hV3⟩ : ∃ V, V = V2.setRow A (toA la (.slice u1a v.last.ps.length u1c) (.slice u2a v.last.ms.length u2c)) := ⟨_, rfl⟩
      have B3 : Hid (V3.heap[A]? = some (.cells (toA la (.slice u1a v.last.ps.length u1c) (.slice u2a v.last.ms.length u2c)) 57)) := by rw [hV3]; exact setRow_heap _ _ _ _ _ _ BA.out
      have K3 : Hid (Kp w V3 non) := by rw [hV3]; exact KA.out.row (Or.inr (by rw [HA.out]; exact Nat.le_refl _)) _
      have kr : Kp V2 V3 (fun k => k = A) := by rw [hV3]; exact (Kp.refl V2 (fun k => k = A)).row (Or.inl rfl) _
      have HV3 := hide hV3
      have ON : (toA la (.slice u1a v.last.ps.length u1c) (.slice u2a v.last.ms.length u2c)).all (·.oneCell') = true := to_one la ⟨_, _, _, rfl⟩ ⟨_, _, _, rfl⟩
      have ON := hide ON
      have Q1 : Hid (V3.ownsRow w.heap.size 89 2 (.slice u1a v.last.ps.length u1c) v.last.ps.length (prs v.last.ps)) := own_kp P1.out kr (fun k e q => by obtain ⟨c, hc⟩ := own_typ P1.out e; have e2 := BA.out; rw [← q, hc] at e2; simp at e2)
      have Q2 : Hid (V3.ownsRow w.heap.size 3 1 (.slice u2a v.last.ms.length u2c) v.last.ms.length (ints v.last.ms)) := own_kp P2.out kr (fun k e q => by obtain ⟨c, hc⟩ := own_typ P2.out e; have e2 := BA.out; rw [← q, hc] at e2; simp at e2)
      clear hV3 kr P1 P2 KA KV
      go_wp2_with (first | refine wpList_ldR rfl 57 (.tmp 4) rfl (A + 1) rfl _ (toA la (.slice u1a v.last.ps.length u1c) (.slice u2a v.last.ms.length u2c)) B2.out Tryd.underlying57 TI.out ?_ | (refine wpList_stR rfl 57 (.tmp 2) (.tmp 29) rfl A rfl (toA la (.slice u1a v.last.ps.length u1c) (.slice u2a v.last.ms.length u2c)) (toA rp0 nilV nilV) rfl _ BA.out TI.out rfl ON.out ?_; rw [← HV3.out]))
      refine bodyPost_ret (v := .tuple #[.agg (toA la (.slice u1a v.last.ps.length u1c) (.slice u2a v.last.ms.length u2c)), .int .i64 0]) (res_row2 Tryd.results18 _ _ V3 A rfl _ rfl _ B3.out Tryd.underlying57 TI.out) rfl ?_
      rw [HLA.out]
      exact ⟨_, _, rfl, Q1.out, Q2.out, K3.out⟩
    · have cc : W1.drew.cell? ⟨A + 1, 3, none⟩ = some (.slice lma lmn lmc) := by rw [cell_row ((((Kp.refl W1 non).drew)).blk0 C1.out)]; rfl
      have cc2 : W1.cell? ⟨A + 1, 3, none⟩ = some (.slice lma lmn lmc) := cc
      go_simp
      clear cc cc2
      refine hK.out _ _ (trivial) (fun hHeld => ?_)
      clear hK
      (try simp only [Act.put, List.setIfInBounds_toArray, List.set_cons_zero, List.set_cons_succ])
      refine wpAnyH_ready (rs := [2]) (by kernel_rfl) (by simp) ?_
      refine AllReadyH.cons rfl (fun K hK => ?_) AllReadyH.nil
      go_simp
      refine Calls.mono (CP.out _ (((Kp.refl W1 non).drew))) ?_
      rintro e Y3 ⟨u1, rfl, op, k3⟩
      have Op := hide op
      have K3 : Hid (Kp W1 Y3 non) := (((Kp.refl W1 non).drew)).trans k3 (fun _ f => f.elim)
      have OpS : Hid (W1.heap.size ≤ W1.drew.heap.size) := (((Kp.refl W1 non).drew)).size
      clear k3 op
      obtain ⟨u1a, u1c, rfl⟩ := own_sl Op.out
      refine hK.out _ _ (trivial) (fun hHeld => ?_)
      clear hK
      (try simp only [Act.put, List.setIfInBounds_toArray, List.set_cons_zero, List.set_cons_succ])
      refine wTk (i := 6) (v := (.pointer (some ⟨A + 1, 2, none⟩))) rfl ?_ ?_
      · intro w' hSw
        (try dsimp only at hSw)
        go_simp
      (try simp only [Act.put, List.getElem_toArray, List.getElem_cons_zero, List.getElem_cons_succ, List.setIfInBounds_toArray, List.set_cons_zero, List.set_cons_succ])
      refine wpAnyH_ready (rs := [5]) (by kernel_rfl) (by simp) ?_
      refine AllReadyH.cons rfl (fun K hK => ?_) AllReadyH.nil
      go_simp
      refine Calls.mono (CI.out _ (K3.out)) ?_
      rintro e Y4 ⟨u2, rfl, oq, k4⟩
      have Oq := hide oq
      have K4 : Hid (Kp W1 Y4 non) := (K3.out).trans k4 (fun _ f => f.elim)
      have Op := hide (own_kp Op.out k4 (fun _ _ f => f))
      have OqS : Hid (W1.heap.size ≤ Y3.heap.size) := (K3.out).size
      clear k4 oq
      obtain ⟨u2a, u2c, rfl⟩ := own_sl Oq.out
      refine hK.out _ _ (trivial) (fun hHeld => ?_)
      clear hK
      (try simp only [Act.put, List.setIfInBounds_toArray, List.set_cons_zero, List.set_cons_succ])
      refine wpAnyH_ready (rs := [7]) (by kernel_rfl) (by simp) ?_
      refine AllReadyH.cons rfl (fun K hK => ?_) AllReadyH.nil
      have bC : Y4.heap[A + 1]? = some (.cells (toA la (.slice lpa lpn lpc) (.slice lma lmn lmc)) 57) := (K4.out).blk0 C1.out
      have x2 : Y4.cell? ⟨A + 1, 2, none⟩ = some (.slice lpa lpn lpc) := by rw [cell_row bC]; rfl
      have f2 := fz_row bC 2
      go_simp
      obtain ⟨V1, hV1⟩ : ∃ V, V = Y4.setCell ⟨A + 1, 2, none⟩ (.slice u1a v.last.ps.length u1c) := ⟨_, rfl⟩
      rw [← hV1]
      have b1 := set_row bC 2 (.slice u1a v.last.ps.length u1c)
      rw [← hV1] at b1
      have b1 : V1.heap[A + 1]? = some (.cells (toA la (.slice u1a v.last.ps.length u1c) (.slice lma lmn lmc)) 57) := b1
      refine hK.out _ _ (trivial) (fun hHeld => ?_)
      clear hK
      (try simp only [Act.put, List.setIfInBounds_toArray, List.set_cons_zero, List.set_cons_succ])
      refine wTk (i := 8) (v := (.pointer (some ⟨A + 1, 3, none⟩))) rfl ?_ ?_
      · intro w' hSw
        (try dsimp only at hSw)
        go_simp
      (try simp only [Act.put, List.getElem_toArray, List.getElem_cons_zero, List.getElem_cons_succ, List.setIfInBounds_toArray, List.set_cons_zero, List.set_cons_succ])
      refine wpAnyH_ready (rs := [9]) (by kernel_rfl) (by simp) ?_
      refine AllReadyH.cons rfl (fun K hK => ?_) AllReadyH.nil
      have x3 : V1.cell? ⟨A + 1, 3, none⟩ = some (.slice lma lmn lmc) := by rw [cell_row b1]; rfl
      have f3 := fz_row b1 3
      have kV : Kp Y4 V1 (fun k => k = A + 1) := by rw [hV1]; exact (Kp.refl Y4 (fun k => k = A + 1)).set (Or.inl rfl) _ _
      clear hV1 x2 f2 bC
      go_simp
      obtain ⟨V2, hV2⟩ : ∃ V, V = V1.setCell ⟨A + 1, 3, none⟩ (.slice u2a v.last.ms.length u2c) := ⟨_, rfl⟩
      rw [← hV2]
      have b2 := set_row b1 3 (.slice u2a v.last.ms.length u2c)
      rw [← hV2] at b2
      have B2 : Hid (V2.heap[A + 1]? = some (.cells (toA la (.slice u1a v.last.ps.length u1c) (.slice u2a v.last.ms.length u2c)) 57)) := b2
      have KV : Hid (Kp Y4 V2 (fun k => k = A + 1)) := kV.trans (by rw [hV2]; exact (Kp.refl V1 (fun k => k = A + 1)).set (Or.inl rfl) _ _) (fun _ e => Or.inl e)
      refine hK.out _ _ (trivial) (fun hHeld => ?_)
      clear hK
      (try simp only [Act.put, List.setIfInBounds_toArray, List.set_cons_zero, List.set_cons_succ])
      clear hV2 x3 f3 b1 b2 kV
      refine wpAnyH_done (by kernel_rfl) ?_ _
      clear hHeld
      have KA : Hid (Kp w V2 non) := (KW.out.trans (K4.out) (fun _ f => f.elim)).trans KV.out (fun k e => Or.inr (by have := HA.out; omega))
      have BA : Hid (V2.heap[A]? = some (.cells (toA rp0 nilV nilV) 57)) := (KV.out.block _ (blk_lt ((K4.out).blk0 A1.out)) (fun e => by have e : A = A + 1 := e; omega)).trans ((K4.out).blk0 A1.out)
      have P1 : Hid (V2.ownsRow w.heap.size 89 2 (.slice u1a v.last.ps.length u1c) v.last.ps.length (prs v.last.ps)) := own_kp (own_base Op.out (by have := KW.out.size; have := OpS.out; omega)) KV.out (fun k e q => by have := own_ge Op.out e; have := blk_lt C1.out; have := OpS.out; omega)
      have P2 : Hid (V2.ownsRow w.heap.size 3 1 (.slice u2a v.last.ms.length u2c) v.last.ms.length (ints v.last.ms)) := own_kp (own_base Oq.out (by have := KW.out.size; have := OqS.out; omega)) KV.out (fun k e q => by have := own_ge Oq.out e; have := blk_lt C1.out; have := OqS.out; omega)
      go_upto_region 7 with fail
      obtain ⟨V3, hV3⟩ : ∃ V, V = V2.setRow A (toA la (.slice u1a v.last.ps.length u1c) (.slice u2a v.last.ms.length u2c)) := ⟨_, rfl⟩
      have B3 : Hid (V3.heap[A]? = some (.cells (toA la (.slice u1a v.last.ps.length u1c) (.slice u2a v.last.ms.length u2c)) 57)) := by rw [hV3]; exact setRow_heap _ _ _ _ _ _ BA.out
      have K3 : Hid (Kp w V3 non) := by rw [hV3]; exact KA.out.row (Or.inr (by rw [HA.out]; exact Nat.le_refl _)) _
      have kr : Kp V2 V3 (fun k => k = A) := by rw [hV3]; exact (Kp.refl V2 (fun k => k = A)).row (Or.inl rfl) _
      have HV3 := hide hV3
      have ON : (toA la (.slice u1a v.last.ps.length u1c) (.slice u2a v.last.ms.length u2c)).all (·.oneCell') = true := to_one la ⟨_, _, _, rfl⟩ ⟨_, _, _, rfl⟩
      have ON := hide ON
      have Q1 : Hid (V3.ownsRow w.heap.size 89 2 (.slice u1a v.last.ps.length u1c) v.last.ps.length (prs v.last.ps)) := own_kp P1.out kr (fun k e q => by obtain ⟨c, hc⟩ := own_typ P1.out e; have e2 := BA.out; rw [← q, hc] at e2; simp at e2)
      have Q2 : Hid (V3.ownsRow w.heap.size 3 1 (.slice u2a v.last.ms.length u2c) v.last.ms.length (ints v.last.ms)) := own_kp P2.out kr (fun k e q => by obtain ⟨c, hc⟩ := own_typ P2.out e; have e2 := BA.out; rw [← q, hc] at e2; simp at e2)
      clear hV3 kr P1 P2 KA KV
      go_wp2_with (first | refine wpList_ldR rfl 57 (.tmp 4) rfl (A + 1) rfl _ (toA la (.slice u1a v.last.ps.length u1c) (.slice u2a v.last.ms.length u2c)) B2.out Tryd.underlying57 TI.out ?_ | (refine wpList_stR rfl 57 (.tmp 2) (.tmp 29) rfl A rfl (toA la (.slice u1a v.last.ps.length u1c) (.slice u2a v.last.ms.length u2c)) (toA rp0 nilV nilV) rfl _ BA.out TI.out rfl ON.out ?_; rw [← HV3.out]))
      refine bodyPost_ret (v := .tuple #[.agg (toA la (.slice u1a v.last.ps.length u1c) (.slice u2a v.last.ms.length u2c)), .int .i64 0]) (res_row2 Tryd.results18 _ _ V3 A rfl _ rfl _ B3.out Tryd.underlying57 TI.out) rfl ?_
      rw [HLA.out]
      exact ⟨_, _, rfl, Q1.out, Q2.out, K3.out⟩
  · have cc : W1.drew.cell? ⟨A + 1, 3, none⟩ = some (.slice lma lmn lmc) := by rw [cell_row ((((Kp.refl W1 non).drew)).blk0 C1.out)]; rfl
    have cc2 : W1.cell? ⟨A + 1, 3, none⟩ = some (.slice lma lmn lmc) := cc
    go_simp
    clear cc cc2
    refine hK.out _ _ (trivial) (fun hHeld => ?_)
    clear hK
    (try simp only [Act.put, List.setIfInBounds_toArray, List.set_cons_zero, List.set_cons_succ])
    refine wpAnyH_ready (rs := [1]) (by kernel_rfl) (by simp) ?_
    refine AllReadyH.cons rfl (fun K hK => ?_) AllReadyH.nil
    have cc : W1.drew.cell? ⟨A + 1, 2, none⟩ = some (.slice lpa lpn lpc) := by rw [cell_row ((((Kp.refl W1 non).drew)).blk0 C1.out)]; rfl
    have cc2 : W1.cell? ⟨A + 1, 2, none⟩ = some (.slice lpa lpn lpc) := cc
    go_simp
    clear cc cc2
    refine hK.out _ _ (trivial) (fun hHeld => ?_)
    clear hK
    (try simp only [Act.put, List.setIfInBounds_toArray, List.set_cons_zero, List.set_cons_succ])
    refine wpAnyH_ready (rs := [2]) (by kernel_rfl) (by simp) ?_
    refine AllReadyH.cons rfl (fun K hK => ?_) AllReadyH.nil
    go_simp
    refine Calls.mono (CP.out _ (((Kp.refl W1 non).drew))) ?_
    rintro e Y3 ⟨u1, rfl, op, k3⟩
    have Op := hide op
    have K3 : Hid (Kp W1 Y3 non) := (((Kp.refl W1 non).drew)).trans k3 (fun _ f => f.elim)
    have OpS : Hid (W1.heap.size ≤ W1.drew.heap.size) := (((Kp.refl W1 non).drew)).size
    clear k3 op
    obtain ⟨u1a, u1c, rfl⟩ := own_sl Op.out
    refine hK.out _ _ (trivial) (fun hHeld => ?_)
    clear hK
    (try simp only [Act.put, List.setIfInBounds_toArray, List.set_cons_zero, List.set_cons_succ])
    refine wTk (i := 6) (v := (.pointer (some ⟨A + 1, 2, none⟩))) rfl ?_ ?_
    · intro w' hSw
      (try dsimp only at hSw)
      go_simp
    (try simp only [Act.put, List.getElem_toArray, List.getElem_cons_zero, List.getElem_cons_succ, List.setIfInBounds_toArray, List.set_cons_zero, List.set_cons_succ])
    refine wpAnyH_ready (rs := [5]) (by kernel_rfl) (by simp) ?_
    refine AllReadyH.cons rfl (fun K hK => ?_) AllReadyH.nil
    go_simp
    refine Calls.mono (CI.out _ (K3.out)) ?_
    rintro e Y4 ⟨u2, rfl, oq, k4⟩
    have Oq := hide oq
    have K4 : Hid (Kp W1 Y4 non) := (K3.out).trans k4 (fun _ f => f.elim)
    have Op := hide (own_kp Op.out k4 (fun _ _ f => f))
    have OqS : Hid (W1.heap.size ≤ Y3.heap.size) := (K3.out).size
    clear k4 oq
    obtain ⟨u2a, u2c, rfl⟩ := own_sl Oq.out
    refine hK.out _ _ (trivial) (fun hHeld => ?_)
    clear hK
    (try simp only [Act.put, List.setIfInBounds_toArray, List.set_cons_zero, List.set_cons_succ])
    refine wpAnyH_ready (rs := [7]) (by kernel_rfl) (by simp) ?_
    refine AllReadyH.cons rfl (fun K hK => ?_) AllReadyH.nil
    have bC : Y4.heap[A + 1]? = some (.cells (toA la (.slice lpa lpn lpc) (.slice lma lmn lmc)) 57) := (K4.out).blk0 C1.out
    have x2 : Y4.cell? ⟨A + 1, 2, none⟩ = some (.slice lpa lpn lpc) := by rw [cell_row bC]; rfl
    have f2 := fz_row bC 2
    go_simp
    obtain ⟨V1, hV1⟩ : ∃ V, V = Y4.setCell ⟨A + 1, 2, none⟩ (.slice u1a v.last.ps.length u1c) := ⟨_, rfl⟩
    rw [← hV1]
    have b1 := set_row bC 2 (.slice u1a v.last.ps.length u1c)
    rw [← hV1] at b1
    have b1 : V1.heap[A + 1]? = some (.cells (toA la (.slice u1a v.last.ps.length u1c) (.slice lma lmn lmc)) 57) := b1
    refine hK.out _ _ (trivial) (fun hHeld => ?_)
    clear hK
    (try simp only [Act.put, List.setIfInBounds_toArray, List.set_cons_zero, List.set_cons_succ])
    refine wTk (i := 8) (v := (.pointer (some ⟨A + 1, 3, none⟩))) rfl ?_ ?_
    · intro w' hSw
      (try dsimp only at hSw)
      go_simp
    (try simp only [Act.put, List.getElem_toArray, List.getElem_cons_zero, List.getElem_cons_succ, List.setIfInBounds_toArray, List.set_cons_zero, List.set_cons_succ])
    refine wpAnyH_ready (rs := [9]) (by kernel_rfl) (by simp) ?_
    refine AllReadyH.cons rfl (fun K hK => ?_) AllReadyH.nil
    have x3 : V1.cell? ⟨A + 1, 3, none⟩ = some (.slice lma lmn lmc) := by rw [cell_row b1]; rfl
    have f3 := fz_row b1 3
    have kV : Kp Y4 V1 (fun k => k = A + 1) := by rw [hV1]; exact (Kp.refl Y4 (fun k => k = A + 1)).set (Or.inl rfl) _ _
    clear hV1 x2 f2 bC
    go_simp
    obtain ⟨V2, hV2⟩ : ∃ V, V = V1.setCell ⟨A + 1, 3, none⟩ (.slice u2a v.last.ms.length u2c) := ⟨_, rfl⟩
    rw [← hV2]
    have b2 := set_row b1 3 (.slice u2a v.last.ms.length u2c)
    rw [← hV2] at b2
    have B2 : Hid (V2.heap[A + 1]? = some (.cells (toA la (.slice u1a v.last.ps.length u1c) (.slice u2a v.last.ms.length u2c)) 57)) := b2
    have KV : Hid (Kp Y4 V2 (fun k => k = A + 1)) := kV.trans (by rw [hV2]; exact (Kp.refl V1 (fun k => k = A + 1)).set (Or.inl rfl) _ _) (fun _ e => Or.inl e)
    refine hK.out _ _ (trivial) (fun hHeld => ?_)
    clear hK
    (try simp only [Act.put, List.setIfInBounds_toArray, List.set_cons_zero, List.set_cons_succ])
    clear hV2 x3 f3 b1 b2 kV
    refine wpAnyH_done (by kernel_rfl) ?_ _
    clear hHeld
    have KA : Hid (Kp w V2 non) := (KW.out.trans (K4.out) (fun _ f => f.elim)).trans KV.out (fun k e => Or.inr (by have := HA.out; omega))
    have BA : Hid (V2.heap[A]? = some (.cells (toA rp0 nilV nilV) 57)) := (KV.out.block _ (blk_lt ((K4.out).blk0 A1.out)) (fun e => by have e : A = A + 1 := e; omega)).trans ((K4.out).blk0 A1.out)
    have P1 : Hid (V2.ownsRow w.heap.size 89 2 (.slice u1a v.last.ps.length u1c) v.last.ps.length (prs v.last.ps)) := own_kp (own_base Op.out (by have := KW.out.size; have := OpS.out; omega)) KV.out (fun k e q => by have := own_ge Op.out e; have := blk_lt C1.out; have := OpS.out; omega)
    have P2 : Hid (V2.ownsRow w.heap.size 3 1 (.slice u2a v.last.ms.length u2c) v.last.ms.length (ints v.last.ms)) := own_kp (own_base Oq.out (by have := KW.out.size; have := OqS.out; omega)) KV.out (fun k e q => by have := own_ge Oq.out e; have := blk_lt C1.out; have := OqS.out; omega)
    go_upto_region 7 with fail
    obtain ⟨V3, hV3⟩ : ∃ V, V = V2.setRow A (toA la (.slice u1a v.last.ps.length u1c) (.slice u2a v.last.ms.length u2c)) := ⟨_, rfl⟩
    have B3 : Hid (V3.heap[A]? = some (.cells (toA la (.slice u1a v.last.ps.length u1c) (.slice u2a v.last.ms.length u2c)) 57)) := by rw [hV3]; exact setRow_heap _ _ _ _ _ _ BA.out
    have K3 : Hid (Kp w V3 non) := by rw [hV3]; exact KA.out.row (Or.inr (by rw [HA.out]; exact Nat.le_refl _)) _
    have kr : Kp V2 V3 (fun k => k = A) := by rw [hV3]; exact (Kp.refl V2 (fun k => k = A)).row (Or.inl rfl) _
    have HV3 := hide hV3
    have ON : (toA la (.slice u1a v.last.ps.length u1c) (.slice u2a v.last.ms.length u2c)).all (·.oneCell') = true := to_one la ⟨_, _, _, rfl⟩ ⟨_, _, _, rfl⟩
    have ON := hide ON
    have Q1 : Hid (V3.ownsRow w.heap.size 89 2 (.slice u1a v.last.ps.length u1c) v.last.ps.length (prs v.last.ps)) := own_kp P1.out kr (fun k e q => by obtain ⟨c, hc⟩ := own_typ P1.out e; have e2 := BA.out; rw [← q, hc] at e2; simp at e2)
    have Q2 : Hid (V3.ownsRow w.heap.size 3 1 (.slice u2a v.last.ms.length u2c) v.last.ms.length (ints v.last.ms)) := own_kp P2.out kr (fun k e q => by obtain ⟨c, hc⟩ := own_typ P2.out e; have e2 := BA.out; rw [← q, hc] at e2; simp at e2)
    clear hV3 kr P1 P2 KA KV
    go_wp2_with (first | refine wpList_ldR rfl 57 (.tmp 4) rfl (A + 1) rfl _ (toA la (.slice u1a v.last.ps.length u1c) (.slice u2a v.last.ms.length u2c)) B2.out Tryd.underlying57 TI.out ?_ | (refine wpList_stR rfl 57 (.tmp 2) (.tmp 29) rfl A rfl (toA la (.slice u1a v.last.ps.length u1c) (.slice u2a v.last.ms.length u2c)) (toA rp0 nilV nilV) rfl _ BA.out TI.out rfl ON.out ?_; rw [← HV3.out]))
    refine bodyPost_ret (v := .tuple #[.agg (toA la (.slice u1a v.last.ps.length u1c) (.slice u2a v.last.ms.length u2c)), .int .i64 0]) (res_row2 Tryd.results18 _ _ V3 A rfl _ rfl _ B3.out Tryd.underlying57 TI.out) rfl ?_
    rw [HLA.out]
    exact ⟨_, _, rfl, Q1.out, Q2.out, K3.out⟩
end Go.Proofs.YtpoegknmkbnjlaaDoor.Cn
