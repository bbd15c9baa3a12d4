import Derived.Test.YteiiolilpemimaaDoorGAfTold
import Derived.Test.YteiiolilpemimaaDoorGAeLists
import Derived.Test.YteiiolilpemimaaDoorGAaBusy
import Derived.Laws.StructEq
import Derived.Test.YteiiolilpemimaaDoorGAeKeep
import Derived.Test.YteiiolilpemimaaDoorGAaClone
import Derived.Test.YteiiolilpemimaaDoorAfEnd0
namespace Go.Proofs.YteiiolilpemimaaDoor.Cn
open Go.RowKit
set_option maxHeartbeats 16000000 in
set_option maxRecDepth 100000 in
set_option linter.unusedSimpArgs false in
set_option linter.unusedVariables false in
theorem neqMgF (a : Mg) (w : World) : (binOp .neq 41 (.agg (mgV a)) (.agg (mgV a))).run Tryd.prog w = .ok (.bool false) w := by
  have hS : Tryd.prog.underlying 41 = some (.struct (Tryd.prog.fieldsOf 41)) := by kernel_rfl
  have hp : Tryd.prog.stoodInHeld 41 = false := by kernel_rfl
  have e : (Op.equalIn 10000 41 (.agg (mgV a)) (.agg (mgV a))).run Tryd.prog w = .ok true w := by
    rw [show (10000 : Nat) = 9999 + 1 from rfl, run_equalIn_agg w 9999 41 _ _ hS hp]
    simp only [Program.fieldsOf, Tryd.underlying41]
    rw [show (9999 : Nat) = 9998 + 1 from rfl]
    rw [eqf_int (k := .i64) (x := a.kind) (y := a.kind) (by decide) (by kernel_rfl) (by kernel_rfl) (by kernel_rfl), if_pos rfl]
    rw [eqf_int (k := .i64) (x := a.fr) (y := a.fr) (by decide) (by kernel_rfl) (by kernel_rfl) (by kernel_rfl), if_pos rfl]
    rw [eqf_int (k := .i64) (x := a.td) (y := a.td) (by decide) (by kernel_rfl) (by kernel_rfl) (by kernel_rfl), if_pos rfl]
    rw [eqf_int (k := .i64) (x := a.id) (y := a.id) (by decide) (by kernel_rfl) (by kernel_rfl) (by kernel_rfl), if_pos rfl]
    rw [eqf_int (k := .i64) (x := a.ep) (y := a.ep) (by decide) (by kernel_rfl) (by kernel_rfl) (by kernel_rfl), if_pos rfl]
    rw [eqf_int (k := .i64) (x := a.sq) (y := a.sq) (by decide) (by kernel_rfl) (by kernel_rfl) (by kernel_rfl), if_pos rfl]
    rw [eqf_int (k := .i64) (x := a.ver) (y := a.ver) (by decide) (by kernel_rfl) (by kernel_rfl) (by kernel_rfl), if_pos rfl]
    rw [eqf_int (k := .i64) (x := a.prev) (y := a.prev) (by decide) (by kernel_rfl) (by kernel_rfl) (by kernel_rfl), if_pos rfl]
    rw [eqf_int (k := .i64) (x := a.code) (y := a.code) (by decide) (by kernel_rfl) (by kernel_rfl) (by kernel_rfl), if_pos rfl]
    rw [eqf_str (x := a.key) (y := a.key) (by decide) (by kernel_rfl) (by kernel_rfl) (by kernel_rfl), if_pos rfl]
    rw [eqf_str (x := a.val) (y := a.val) (by decide) (by kernel_rfl) (by kernel_rfl) (by kernel_rfl), if_pos rfl]
    rfl
  rw [run_neq_struct, e]
  rfl
theorem wpList_neqMG {w : World} {ops : Array Oper} {rest : List Oper} {o : Oper} {a : Act} {Q : Exit → Act → World → Prop} (x y : Operand) (t2 : TypeId) (ho : o.op = .binOp .neq 41 x y t2) (hw : Region.wanted o (yielded ops a.tmps) = true) (m : Mg) (hx : a.eval x = .agg (mgV m)) (hy : a.eval y = .agg (mgV m))
    (h : wpList Tryd.prog ops Q rest (a.put o.dst (.bool false)) w) : wpList Tryd.prog ops Q (o :: rest) a w := by
  refine wpList_step fun K hK => ?_
  rw [if_pos hw]
  have hg : Tryd.prog.eqGuardType Tryd.prog.depth 41 = false := by kernel_rfl
  unfold Oper.wp execOp
  simp only [ho, Sem.run_bind, Sem.run_pure, Result.andThen_ok, hx, hy, neqMgF, run_eqGuard_agg w .neq 41 x y (mgV m) (mgV m) hg]
  exact hK _ _ h
theorem wpList_ldMG {w : World} {ops : Array Oper} {rest : List Oper} {o : Oper} {a : Act} {Q : Exit → Act → World → Prop} (x : Operand) (ho : o.op = .load 41 x) (hw : Region.wanted o (yielded ops a.tmps) = true) (m : Mg) (b : Nat) (hx : a.eval x = .pointer (some ⟨b, 0, none⟩)) (hO : MgAt w b m)
    (h : wpList Tryd.prog ops Q rest (a.put o.dst (.agg (mgV m))) w) : wpList Tryd.prog ops Q (o :: rest) a w := by
  have hl : (Instr.loadAt 41 (.pointer (some ⟨b, 0, none⟩))).run Tryd.prog w = .ok (.agg (mgV m)) w := by
    simp only [Instr.loadAt, Instr.sureAddr, Sem.run_bind, Sem.run_pure, Result.andThen]
    exact run_loadVar_row _ _ 41 41 (mgV m) (0, 0) _ hO Tryd.underlying41 rfl mg_info
  refine wpList_step fun K hK => ?_
  rw [if_pos hw]
  unfold Oper.wp execOp
  simp only [ho, Sem.run_bind, Sem.run_pure, Result.andThen_ok, hx, hl]
  exact hK _ _ h
theorem wpList_blRG {w : World} {ops : Array Oper} {rest : List Oper} {o : Oper} {a : Act} {Q : Exit → Act → World → Prop} (ty : TypeId) (parts : Array (Nat × Operand)) (ho : o.op = .build ty parts) (hw : Region.wanted o (yielded ops a.tmps) = true) (A : Array Value) (hb : Tryd.prog.built ty (parts.map fun (i, x) => (i, a.eval x)).toList = some A)
    (h : wpList Tryd.prog ops Q rest (a.put o.dst (.agg A)) w) : wpList Tryd.prog ops Q (o :: rest) a w := by
  refine wpList_step fun K hK => ?_
  rw [if_pos hw]
  unfold Oper.wp execOp
  simp only [ho, Sem.run_bind, Sem.run_pure]
  have := run_build w ty _ A hb
  rw [this]
  exact hK _ _ h
set_option maxHeartbeats 8000000 in
set_option maxRecDepth 100000 in
set_option linter.unusedSimpArgs false in
set_option linter.unusedVariables false in
theorem question_a {w : World} {b0 : Nat} {u : Value} {vs : List Value} {st : ByteArray} {x : Nat → Int} {ns : List ND} {nn : Nat} (ho : w.ownsRow b0 26 1 u nn vs) (hv : LsAt w st x ns vs) (hl : vs.length = nn) (q i : Nat) (s : Nat × Nat) (hq : q < nn) (hn16 : nn ≤ 1000) (hs : (hdS st x ns (q : Int))[i]? = some s) (hl64 : (hdS st x ns (q : Int)).length ≤ 1000) (ver : Int) :
    Calls Tryd.prog 14 #[u, .agg (mgV ⟨13, 66, (q : Int), 1, 0, (s.1 : Int), ver, 0, 0, ⟨#[]⟩, ⟨#[]⟩⟩), .int .i64 ver] w fun e w' => e = .returned (.bool true) ∧ Kp w w' non := by
  obtain ⟨sp, hsp⟩ : ∃ sp : Int, sp = (s.1 : Int) := ⟨_, rfl⟩
  rw [← hsp]
  obtain ⟨B, hB⟩ : ∃ B, B = w.heap.size := ⟨_, rfl⟩
  obtain ⟨W0, hW0⟩ : ∃ W0, W0 = w.alloc (.cells (mgV ⟨13, 66, (q : Int), 1, 0, sp, ver, 0, 0, ⟨#[]⟩, ⟨#[]⟩⟩) 41) := ⟨_, rfl⟩
  have k0 : Kp w W0 non := by rw [hW0]; exact (Kp.refl w non).alloc _
  have m0 : Hid (MgAt W0 B ⟨13, 66, (q : Int), 1, 0, sp, ver, 0, 0, ⟨#[]⟩, ⟨#[]⟩⟩) := by rw [hW0, hB]; exact MgAt.new w _
  obtain ⟨-, -, c2, -, -, c5, -⟩ := m0.out.cells
  obtain ⟨uq, huq⟩ : ∃ uq, vs[q]? = some uq := ⟨_, List.getElem?_eq_getElem (by omega)⟩
  have K0 := hide k0
  have OW := own_kp ho k0 (fun _ _ f => f)
  have OQ := own_kp (hv q uq huq) k0 (fun _ _ f => f)
  obtain ⟨g, gc, rfl, cg, -⟩ := own_at OW huq
  obtain ⟨a1, n1, rfl⟩ := own_sl OQ
  obtain ⟨hd, hhd⟩ : ∃ hd, hd = hdS st x ns (q : Int) := ⟨_, rfl⟩
  rw [← hhd] at hs hl64 OQ cg huq
  have hlen : (ptsL hd).length = hd.length := by unfold ptsL; rw [List.length_map]
  rw [hlen] at OQ cg huq
  obtain ⟨ln, hln⟩ : ∃ ln, ln = hd.length := ⟨_, rfl⟩
  have hil : i < ln := by rw [hln]; exact (List.getElem?_eq_some_iff.1 hs).1
  have CE : Hid (∀ X, Kp W0 X non → ∀ j, j < ln → ∃ sj, hd[j]? = some sj ∧ ∃ ga, a1 = some ⟨ga, 0, none⟩ ∧ X.cell? ⟨ga, j, none⟩ = some (.int .i64 (sj.1 : Int))) := fun X hX j hj => by
    have hjl : j < hd.length := by omega
    have e : (ints (ptsL hd))[j]? = some (.int .i64 (hd[j].1 : Int)) := by
      unfold ints ptsL
      rw [List.map_map, List.getElem?_map, List.getElem?_eq_getElem hjl]
      rfl
    obtain ⟨ga, c', e', hc, -⟩ := own_at (own_kp OQ hX (fun _ _ f => f)) e
    injection e' with e' _ _
    exact ⟨hd[j], List.getElem?_eq_getElem hjl, ga, e', hc⟩
  rw [← hln] at OQ cg hl64 huq
  have HS := hide hs
  have CB : Hid (∀ X, Kp W0 X non → X.cell? ⟨B, 2, none⟩ = some (.int .i64 (q : Int)) ∧ X.cell? ⟨B, 5, none⟩ = some (.int .i64 sp) ∧ X.cell? ⟨g, q, none⟩ = some (.slice a1 ln n1)) := fun X hX => by
    have z := (m0.out.keep hX (fun f => f)).cells
    obtain ⟨g', gc', e', hc', -⟩ := own_at (own_kp OW hX (fun _ _ f => f)) huq
    injection e' with e' _ _
    injection e' with e'
    injection e' with e' _ _
    subst e'
    exact ⟨z.2.2.1, z.2.2.2.2.2.1, hc'⟩
  have hqi : (q : Int) < (nn : Int) := by omega
  have hq0 : ¬ (q : Int) < 0 := by omega
  have HSP := hide hsp
  clear k0 OW OQ ho hv hs hhd hlen hln c2 c5 cg hsp
  obtain ⟨c2, c5, cg⟩ := CB.out W0 (Kp.refl _ _)
  have M0 := hide m0.out
  go_enter Tryd.func14, Tryd.ntmps14
  go_upto_region 1 with fail
  rw [← hW0, ← hB]
  clear hW0 hB
  have hnq : decide (nn ≤ q) = false := by simpa using hq
  go_wp2_with (first | refine wpList_ldMG (.tmp 4) rfl (by kernel_rfl) ⟨13, 66, (q : Int), 1, 0, sp, ver, 0, 0, ⟨#[]⟩, ⟨#[]⟩⟩ B rfl M0.out ?_ | refine wpList_neqMG (.tmp 19) (.tmp 25) 41 rfl (by kernel_rfl) ⟨13, 66, (q : Int), 1, 0, sp, ver, 0, 0, ⟨#[]⟩, ⟨#[]⟩⟩ rfl rfl ?_)
  clear hnq hq0
  have hqn := hqi
  clear M0 m0 hqi c2 c5 cg
  go_loopw [7] (fun vj wr => ∃ j : Nat, j ≤ i ∧ vj = .int .i64 (j : Int) ∧ Hid (Kp W0 wr non)) (fun vj _ => i - (intOf vj).toNat)
  case atStart => exact ⟨0, Nat.zero_le _, rfl, Kp.refl _ _⟩
  case round =>
    obtain ⟨j, hj, rfl, HK⟩ := hrel
    have hjl : j < ln := by omega
    have hji : (j : Int) < (ln : Int) := by omega
    obtain ⟨sj, e1, ga, rfl, e2⟩ := CE.out wr HK.out j hjl
    obtain ⟨c2, c5, cg⟩ := CB.out wr HK.out
    have FIN : Hid (((sj.1 : Int) == sp) = false → j ≠ i) := fun hz e => by
      subst e
      rw [HS.out] at e1
      rw [HSP.out, Option.some.inj e1] at hz
      simp at hz
    clear e1
    generalize (sj.1 : Int) = z at *
    have C0 : Hid (wr.cell? ⟨B, 2, none⟩ = some (.int .i64 (q : Int)) ∧ wr.cell? ⟨g, q, none⟩ = some (.slice (some ⟨ga, 0, none⟩) ln n1) ∧ wr.cell? ⟨ga, j, none⟩ = some (.int .i64 z) ∧ wr.cell? ⟨B, 5, none⟩ = some (.int .i64 sp)) := ⟨c2, cg, e2, c5⟩
    clear e2 c5
    go_upto_region 6 with fail
    clear c2 cg
    refine wp_region_held_drew (S := fun X => X.cell? ⟨B, 2, none⟩ = some (.int .i64 (q : Int)) ∧ X.cell? ⟨g, q, none⟩ = some (.slice (some ⟨ga, 0, none⟩) ln n1) ∧ X.cell? ⟨ga, j, none⟩ = some (.int .i64 z) ∧ X.cell? ⟨B, 5, none⟩ = some (.int .i64 sp)) (by kernel_rfl) C0.out (fun hHeld => ?_)
    refine wpAnyH_take (i := 0) (v := (.slice (some ⟨g, 0, none⟩) nn gc)) rfl (by kernel_rfl) (by kernel_rfl) (by kernel_rfl) (fun _ _ _ h => h) (Or.inl ⟨by kernel_rfl, ?_⟩) (by assumption) ?_
    · intro w' hSw
      (try dsimp only at hSw)
      go_simp
    (try simp only [Act.put, List.getElem_toArray, List.getElem_cons_zero, List.getElem_cons_succ, List.setIfInBounds_toArray, List.set_cons_zero, List.set_cons_succ])
    refine wpAnyH_take (i := 1) (v := (.pointer (some ⟨B, 2, none⟩))) rfl (by kernel_rfl) (by kernel_rfl) (by kernel_rfl) (fun _ _ _ h => h) (Or.inl ⟨by kernel_rfl, ?_⟩) (by assumption) ?_
    · intro w' hSw
      (try dsimp only at hSw)
      go_simp
    (try simp only [Act.put, List.getElem_toArray, List.getElem_cons_zero, List.getElem_cons_succ, List.setIfInBounds_toArray, List.set_cons_zero, List.set_cons_succ])
    refine wpAnyH_take (i := 2) (v := (.int .i64 (q : Int))) rfl (by kernel_rfl) (by kernel_rfl) (by kernel_rfl) (fun _ _ _ h => h) (Or.inl ⟨by kernel_rfl, ?_⟩) (by assumption) ?_
    · intro w' hSw
      (try dsimp only at hSw)
      (have y := hSw.1; go_simp)
    (try simp only [Act.put, List.getElem_toArray, List.getElem_cons_zero, List.getElem_cons_succ, List.setIfInBounds_toArray, List.set_cons_zero, List.set_cons_succ])
    refine wpAnyH_take (i := 3) (v := (.pointer (some ⟨g, q, none⟩))) rfl (by kernel_rfl) (by kernel_rfl) (by kernel_rfl) (fun _ _ _ h => h) (Or.inl ⟨by kernel_rfl, ?_⟩) (by assumption) ?_
    · intro w' hSw
      (try dsimp only at hSw)
      go_simp
    (try simp only [Act.put, List.getElem_toArray, List.getElem_cons_zero, List.getElem_cons_succ, List.setIfInBounds_toArray, List.set_cons_zero, List.set_cons_succ])
    refine wpAnyH_take (i := 4) (v := (.slice (some ⟨ga, 0, none⟩) ln n1)) rfl (by kernel_rfl) (by kernel_rfl) (by kernel_rfl) (fun _ _ _ h => h) (Or.inl ⟨by kernel_rfl, ?_⟩) (by assumption) ?_
    · intro w' hSw
      (try dsimp only at hSw)
      (have y := hSw.2.1; go_simp)
    (try simp only [Act.put, List.getElem_toArray, List.getElem_cons_zero, List.getElem_cons_succ, List.setIfInBounds_toArray, List.set_cons_zero, List.set_cons_succ])
    refine wpAnyH_take (i := 5) (v := (.int .i64 (j : Int))) rfl (by kernel_rfl) (by kernel_rfl) (by kernel_rfl) (fun _ _ _ h => h) (Or.inl ⟨by kernel_rfl, ?_⟩) (by assumption) ?_
    · intro w' hSw
      (try dsimp only at hSw)
      go_simp
    (try simp only [Act.put, List.getElem_toArray, List.getElem_cons_zero, List.getElem_cons_succ, List.setIfInBounds_toArray, List.set_cons_zero, List.set_cons_succ])
    refine wpAnyH_take (i := 6) (v := (.pointer (some ⟨ga, j, none⟩))) rfl (by kernel_rfl) (by kernel_rfl) (by kernel_rfl) (fun _ _ _ h => h) (Or.inl ⟨by kernel_rfl, ?_⟩) (by assumption) ?_
    · intro w' hSw
      (try dsimp only at hSw)
      go_simp
    (try simp only [Act.put, List.getElem_toArray, List.getElem_cons_zero, List.getElem_cons_succ, List.setIfInBounds_toArray, List.set_cons_zero, List.set_cons_succ])
    refine wpAnyH_take (i := 7) (v := (.int .i64 z)) rfl (by kernel_rfl) (by kernel_rfl) (by kernel_rfl) (fun _ _ _ h => h) (Or.inl ⟨by kernel_rfl, ?_⟩) (by assumption) ?_
    · intro w' hSw
      (try dsimp only at hSw)
      (have y := hSw.2.2.1; go_simp)
    (try simp only [Act.put, List.getElem_toArray, List.getElem_cons_zero, List.getElem_cons_succ, List.setIfInBounds_toArray, List.set_cons_zero, List.set_cons_succ])
    refine wpAnyH_take (i := 8) (v := (.pointer (some ⟨B, 5, none⟩))) rfl (by kernel_rfl) (by kernel_rfl) (by kernel_rfl) (fun _ _ _ h => h) (Or.inl ⟨by kernel_rfl, ?_⟩) (by assumption) ?_
    · intro w' hSw
      (try dsimp only at hSw)
      go_simp
    (try simp only [Act.put, List.getElem_toArray, List.getElem_cons_zero, List.getElem_cons_succ, List.setIfInBounds_toArray, List.set_cons_zero, List.set_cons_succ])
    refine wpAnyH_take (i := 9) (v := (.int .i64 sp)) rfl (by kernel_rfl) (by kernel_rfl) (by kernel_rfl) (fun _ _ _ h => h) (Or.inl ⟨by kernel_rfl, ?_⟩) (by assumption) ?_
    · intro w' hSw
      (try dsimp only at hSw)
      (have y := hSw.2.2.2; go_simp)
    (try simp only [Act.put, List.getElem_toArray, List.getElem_cons_zero, List.getElem_cons_succ, List.setIfInBounds_toArray, List.set_cons_zero, List.set_cons_succ])
    refine wpAnyH_ready (rs := [10]) (by kernel_rfl) (by simp) ?_
    refine AllReadyH.cons rfl (fun K hK => ?_) AllReadyH.nil
    go_simp
    refine hK.out _ _ (C0.out) (fun hHeld => ?_)
    clear hK
    (try simp only [Act.put, List.setIfInBounds_toArray, List.set_cons_zero, List.set_cons_succ])
    refine wpAnyH_done (by kernel_rfl) ?_ _
    clear hHeld C0
    cases hz : (z == sp)
    case true =>
      go_wp2_with fail
      go_ret
      exact ⟨rfl, K0.out.trans HK.out.drew (fun _ f => f.elim)⟩
    case false =>
      have hne := FIN.out hz
      go_wp2_with fail
      go_roundw
      case rel => exact ⟨j + 1, by omega, by go_num, HK.out.drew⟩
      case measure => simp [intOf]; omega
end Go.Proofs.YteiiolilpemimaaDoor.Cn
namespace Go.Proofs.YteiiolilpemimaaDoor.Cn
open Go.RowKit
set_option maxHeartbeats 8000000 in
set_option maxRecDepth 100000 in
set_option linter.unusedSimpArgs false in
set_option linter.unusedVariables false in
theorem sameRep_a {w : World} {b1 b2 b3 b4 : Nat} {d1 d2 m1 m2 : Value} {DL ML : List Int} (p : Rp) (h1 : w.ownsRow b1 3 1 d1 DL.length (ints DL)) (h2 : w.ownsRow b2 3 1 d2 DL.length (ints DL)) (h3 : w.ownsRow b3 3 1 m1 ML.length (ints ML)) (h4 : w.ownsRow b4 3 1 m2 ML.length (ints ML)) (hl : DL.length ≤ 1000000) (hm : ML.length ≤ 1000000) :
    Calls Tryd.prog 19 #[.agg (rpA p d1 m1), .agg (rpA p d2 m2)] w fun e w' => e = .returned (.bool true) ∧ Kp w w' non := by
  obtain ⟨W0, hW0⟩ : ∃ W0, W0 = w.alloc (.cells (rpA p d1 m1) 49) := ⟨_, rfl⟩
  obtain ⟨W1, hW1⟩ : ∃ W1, W1 = W0.alloc (.cells (rpA p d2 m2) 49) := ⟨_, rfl⟩
  obtain ⟨B, hB⟩ : ∃ B, B = w.heap.size := ⟨_, rfl⟩
  have k0 : Kp w W0 non := by rw [hW0]; exact (Kp.refl w non).alloc _
  have k1 : Kp W0 W1 non := by rw [hW1]; exact (Kp.refl W0 non).alloc _
  have K1 : Hid (Kp w W1 non) := k0.trans k1 (fun _ f => f.elim)
  have m0 : W0.heap[B]? = some (.cells (rpA p d1 m1) 49) := by rw [hW0, hB]; exact heap_last w _
  have n1 : W1.heap[B]? = some (.cells (rpA p d1 m1) 49) := (k1.block _ (blk_lt m0) (fun f => f)).trans m0
  have n2 : W1.heap[B + 1]? = some (.cells (rpA p d2 m2) 49) := by rw [hW1, hB, ← World.size_alloc, ← hW0]; exact heap_last W0 _
  have SD := hide fun X (hX : Kp W1 X non) => same_ints (own_kp h1 (K1.out.trans hX (fun _ f => f.elim)) (fun _ _ f => f)) (own_kp h2 (K1.out.trans hX (fun _ f => f.elim)) (fun _ _ f => f)) hl
  have SM := hide fun X (hX : Kp W1 X non) => same_ints (own_kp h3 (K1.out.trans hX (fun _ f => f.elim)) (fun _ _ f => f)) (own_kp h4 (K1.out.trans hX (fun _ f => f.elim)) (fun _ _ f => f)) hm
  have CE : Hid (∀ X, Kp W1 X non → X.cell? ⟨B, 0, none⟩ = some (.int .i64 p.job) ∧ X.cell? ⟨B, 1, none⟩ = some (.int .i64 p.ver) ∧ X.cell? ⟨B, 2, none⟩ = some (.int .i64 p.out) ∧ X.cell? ⟨B, 3, none⟩ = some d1 ∧ X.cell? ⟨B, 4, none⟩ = some m1 ∧ X.cell? ⟨B + 1, 0, none⟩ = some (.int .i64 p.job) ∧ X.cell? ⟨B + 1, 1, none⟩ = some (.int .i64 p.ver) ∧ X.cell? ⟨B + 1, 2, none⟩ = some (.int .i64 p.out) ∧ X.cell? ⟨B + 1, 3, none⟩ = some d2 ∧ X.cell? ⟨B + 1, 4, none⟩ = some m2) := fun X hX => by
    have z1 := (hX.block _ (blk_lt n1) (fun f => f)).trans n1
    have z2 := (hX.block _ (blk_lt n2) (fun f => f)).trans n2
    simp only [cell_row z1, cell_row z2]
    exact ⟨rfl, rfl, rfl, rfl, rfl, rfl, rfl, rfl, rfl, rfl⟩
  obtain ⟨a1, c1, rfl⟩ := own_sl h1
  obtain ⟨a2, c2, rfl⟩ := own_sl h2
  obtain ⟨a3, c3, rfl⟩ := own_sl h3
  obtain ⟨a4, c4, rfl⟩ := own_sl h4
  generalize DL.length = dn at *
  generalize ML.length = mn at *
  obtain ⟨x0, x1, x2, x3, x4, y0, y1, y2, y3, y4⟩ := CE.out W1 (Kp.refl _ _)
  have q0 : (p.job == p.job) = true := by simp
  have q1 : (p.ver == p.ver) = true := by simp
  have q2 : (p.out == p.out) = true := by simp
  clear h1 h2 h3 h4 k0 k1 m0 n1 n2
  go_enter Tryd.func19, Tryd.ntmps19
  go_upto_region 1 with fail
  rw [← hW0, ← hB]
  rw [← hW1]
  clear hW0 hB hW1
  have SD0 := hide (SD.out W1 (Kp.refl _ _))
  go_wp2_with (go_at_call 21; refine Calls.mono SD0.out ?_; rintro e W2 ⟨rfl, k2⟩; have K2 := hide k2; obtain ⟨x0, x1, x2, x3, x4, y0, y1, y2, y3, y4⟩ := CE.out W2 K2.out; have SM0 := hide (SM.out W2 K2.out); clear k2 SD0)
  refine Calls.mono SM0.out ?_
  rintro e W3 ⟨rfl, k3⟩
  have K3 := hide k3
  clear k3
  go_wp2_with fail
  go_ret
  exact ⟨rfl, (K1.out.trans K2.out (fun _ f => f.elim)).trans K3.out (fun _ f => f.elim)⟩
end Go.Proofs.YteiiolilpemimaaDoor.Cn
namespace Go.Proofs.YteiiolilpemimaaDoor.Cn
open Go.RowKit
theorem hdF_get {node : Int} {p : Nat} : ∀ {r : Nat} {l : List Int} {s : Nat × Nat}, s ∈ hdF node p r l → ∃ i, s.2 = r + i ∧ l[i]? = some node
  | r, [], s, h => by simp [hdF] at h
  | r, b :: l, s, h => by
    simp only [hdF] at h
    split at h
    · rename_i hb
      rcases List.mem_cons.1 h with rfl | h
      · exact ⟨0, by simp, by simp [hb]⟩
      · obtain ⟨i, a, b'⟩ := hdF_get h
        exact ⟨i + 1, by omega, by simpa using b'⟩
    · obtain ⟨i, a, b'⟩ := hdF_get h
      exact ⟨i + 1, by omega, by simpa using b'⟩
theorem hdL_get {x : Nat → Int} {ns : List ND} {node : Int} {q : Nat} {s : Nat × Nat} (h : s ∈ hdL x ns node q) : s.1 < q ∧ (owL ns (wk x ns (s.1 : Int)))[s.2]? = some node ∧ s.2 < (x 0).toNat := by
  unfold hdL at h
  obtain ⟨p, hp, hs⟩ := List.mem_flatMap.1 h
  have h1 := hdF_mem hs
  obtain ⟨i, e1, e2⟩ := hdF_get hs
  refine ⟨by rw [h1.1]; exact List.mem_range.1 hp, ?_, ?_⟩
  · rw [h1.1, e1, Nat.zero_add]
    exact e2
  · have h2 := h1.2
    rw [owL_len] at h2
    have : (wk x ns (p : Int)).length ≤ (x 0).toNat := by
      unfold wk wkR
      rw [List.length_take]
      omega
    omega
theorem hdL_up (x : Nat → Int) (ns : List ND) (node : Int) (q : Nat) : (hdL x ns node q).Pairwise (fun a b => a.1 < b.1) := by
  induction q with
  | zero => simp [hdL]
  | succ q ih =>
    rw [hdL_succ, List.pairwise_append]
    refine ⟨ih, ?_, fun a ha b hb => ?_⟩
    · have h1 := hdF_len (node := node) (p := q) (r := 0) (wk_diff x ns (q : Int))
      cases hl : hdF node q 0 (owL ns (wk x ns (q : Int))) with
      | nil => simp
      | cons a l =>
        rw [hl] at h1
        have : l = [] := List.length_eq_zero_iff.1 (by simp only [List.length_cons] at h1; omega)
        rw [this]
        simp
    · have h1 := (hdL_get ha).1
      have h2 := (hdF_mem hb).1
      omega
theorem up_one {l : List Sl} (h : l.Pairwise (fun a b => a.1 < b.1)) {i j : Nat} {s : Sl} (hi : l[i]? = some s) (hj : l[j]? = some s) : i = j := by
  obtain ⟨h1, e1⟩ := List.getElem?_eq_some_iff.1 hi
  obtain ⟨h2, e2⟩ := List.getElem?_eq_some_iff.1 hj
  rcases Nat.lt_trichotomy i j with q | q | q
  · have := List.pairwise_iff_getElem.1 h i j h1 h2 q
    rw [e1, e2] at this
    omega
  · exact q
  · have := List.pairwise_iff_getElem.1 h j i h2 h1 q
    rw [e1, e2] at this
    omega
theorem uq_of {st : ByteArray} {x : Nat → Int} {ns : List ND} (he : errP st x ns = 0) {hs : List Ho} (hsl : ∀ (j : Nat) (k : Ho), hs[j]? = some k → k.sl = hdS st x ns (j : Int)) : Uq hs (x 0).toNat := by
  have hp : ptN ns ≤ 64 := (errP_all he).2.2.2.1.p2
  have sub : ∀ (j : Nat), (∀ s ∈ hdS st x ns (j : Int), s ∈ hdL x ns (j : Int) (ptN ns)) ∧ (hdS st x ns (j : Int)).Pairwise (fun a b => a.1 < b.1) := fun j => by
    unfold hdS
    split
    · exact ⟨fun s h => h, hdL_up x ns (j : Int) (ptN ns)⟩
    · exact ⟨fun s h => by simp at h, by simp⟩
  refine ⟨fun q q' i i' k k' s h1 h2 h3 h4 => ?_, fun q k h1 => ?_, fun q k h1 s hm => ?_⟩
  · have e1 := hsl q k h1
    have e2 := hsl q' k' h2
    have g1 := hdL_get ((sub q).1 s (by rw [← e1]; exact List.mem_of_getElem? h3))
    have g2 := hdL_get ((sub q').1 s (by rw [← e2]; exact List.mem_of_getElem? h4))
    have eq : q = q' := by
      have := g1.2.1.symm.trans g2.2.1
      have := Option.some.inj this
      omega
    subst eq
    rw [h1] at h2
    obtain rfl := Option.some.inj h2
    exact ⟨rfl, up_one (by rw [e1]; exact (sub q).2) h3 h4⟩
  · rw [hsl q k h1]
    exact (sub q).2
  · have g := hdL_get ((sub q).1 s (by rw [← hsl q k h1]; exact hm))
    exact ⟨g.2.2, by omega⟩
/-- all slots -/
noncomputable def slS (st : ByteArray) (x : Nat → Int) (ns : List ND) : Nat → Nat
  | 0 => 0
  | i + 1 => slS st x ns i + (hdS st x ns (i : Int)).length
theorem sl_take {st : ByteArray} {x : Nat → Int} {ns : List ND} {hs : List Ho} (h : ∀ (j : Nat) (k : Ho), hs[j]? = some k → k.sl = hdS st x ns (j : Int)) : ∀ i, i ≤ hs.length → slN2 (hs.take i) = slS st x ns i
  | 0, _ => rfl
  | i + 1, hi => by
    have hl : i < hs.length := by omega
    rw [List.take_succ_eq_append_getElem hl]
    unfold slN2
    rw [List.map_append, List.sum_append]
    have := sl_take h i (by omega)
    unfold slN2 at this
    rw [this]
    show _ = slS st x ns i + _
    rw [← h i hs[i] (List.getElem?_eq_getElem hl)]
    simp
theorem sl_sum {st : ByteArray} {x : Nat → Int} {ns : List ND} {hs : List Ho} (h : ∀ (j : Nat) (k : Ho), hs[j]? = some k → k.sl = hdS st x ns (j : Int)) : slN2 hs = slS st x ns hs.length := by
  have := sl_take h hs.length (Nat.le_refl _)
  rwa [List.take_length] at this
end Go.Proofs.YteiiolilpemimaaDoor.Cn
