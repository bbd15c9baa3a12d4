import Derived.Test.YtpoegknmkbnjlaaDoorErRep
import Derived.Test.YtpoegknmkbnjlaaDoorEwSame
import Derived.Test.YtpoegknmkbnjlaaDoorGEpBusy
import Derived.Laws.StructEq
import Derived.WalkMore
import Derived.Test.YtpoegknmkbnjlaaDoorGCaBase
import Derived.Test.YtpoegknmkbnjlaaDoorGErLeave
namespace Go.Proofs.YtpoegknmkbnjlaaDoor.Cn
open Go.RowKit
theorem eq_beqT (a b : ByteArray) : (a.toList == b.toList) = decide (a = b) := by
  rw [ByteArray.toList_eq, ByteArray.toList_eq, Bool.eq_iff_iff]
  simp
  constructor
  · intro h
    cases a; cases b; simp at h; rw [h]
  · intro h; rw [h]
theorem eqf_intT {P : Program} {d : Nat} {xs ys : Array Value} {f : Field} {fs : List Field} {k : IntKind} {x y : Int} {w : World} (hn : f.name ≠ "_") (hx : (part f.type xs f.offset).run P w = .ok (.int .i64 x) w) (hy : (part f.type ys f.offset).run P w = .ok (.int .i64 y) w) (hu : P.underlying f.type = some (.int k)) :
    (Op.eqFields (d + 1) xs ys (f :: fs)).run P w = if x = y then (Op.eqFields (d + 1) xs ys fs).run P w else .ok false w := by
  simp only [Op.eqFields, if_pos hn, Sem.run_bind, hx, hy, Result.andThen_ok, run_equalIn_int w d f.type .i64 k x y hu]
  by_cases h : x = y
  · rw [if_pos h, if_neg (by simp [h])]
  · rw [if_neg h, if_pos (by simp [h])]; rfl
theorem eqf_strT {P : Program} {d : Nat} {xs ys : Array Value} {f : Field} {fs : List Field} {x y : ByteArray} {w : World} (hn : f.name ≠ "_") (hx : (part f.type xs f.offset).run P w = .ok (.string x) w) (hy : (part f.type ys f.offset).run P w = .ok (.string y) w) (hu : P.underlying f.type = some .string) :
    (Op.eqFields (d + 1) xs ys (f :: fs)).run P w = if x = y then (Op.eqFields (d + 1) xs ys fs).run P w else .ok false w := by
  simp only [Op.eqFields, if_pos hn, Sem.run_bind, hx, hy, Result.andThen_ok, run_equalIn_string w d f.type x y hu, eq_beqT]
  by_cases h : x = y
  · rw [if_pos h, if_neg (by simp [h])]
  · rw [if_neg h, if_pos (by simp [h])]; rfl
set_option maxHeartbeats 16000000 in
set_option maxRecDepth 100000 in
set_option linter.unusedSimpArgs false in
set_option linter.unusedVariables false in
theorem neqMgT (a : Mg) (w : World) : (binOp .neq 36 (.agg (mgV a)) (.agg (mgV a))).run Tryd.prog w = .ok (.bool false) w := by
  have hS : Tryd.prog.underlying 36 = some (.struct (Tryd.prog.fieldsOf 36)) := by kernel_rfl
  have hp : Tryd.prog.stoodInHeld 36 = false := by kernel_rfl
  have e : (Op.equalIn 10000 36 (.agg (mgV a)) (.agg (mgV a))).run Tryd.prog w = .ok true w := by
    rw [show (10000 : Nat) = 9999 + 1 from rfl, run_equalIn_agg w 9999 36 _ _ hS hp]
    simp only [Program.fieldsOf, Tryd.underlying36]
    rw [show (9999 : Nat) = 9998 + 1 from rfl]
    rw [eqf_intT (k := .i64) (x := a.kind) (y := a.kind) (by decide) (by kernel_rfl) (by kernel_rfl) (by kernel_rfl), if_pos rfl]
    rw [eqf_intT (k := .i64) (x := a.fr) (y := a.fr) (by decide) (by kernel_rfl) (by kernel_rfl) (by kernel_rfl), if_pos rfl]
    rw [eqf_intT (k := .i64) (x := a.td) (y := a.td) (by decide) (by kernel_rfl) (by kernel_rfl) (by kernel_rfl), if_pos rfl]
    rw [eqf_intT (k := .i64) (x := a.id) (y := a.id) (by decide) (by kernel_rfl) (by kernel_rfl) (by kernel_rfl), if_pos rfl]
    rw [eqf_intT (k := .i64) (x := a.ep) (y := a.ep) (by decide) (by kernel_rfl) (by kernel_rfl) (by kernel_rfl), if_pos rfl]
    rw [eqf_intT (k := .i64) (x := a.sq) (y := a.sq) (by decide) (by kernel_rfl) (by kernel_rfl) (by kernel_rfl), if_pos rfl]
    rw [eqf_intT (k := .i64) (x := a.ver) (y := a.ver) (by decide) (by kernel_rfl) (by kernel_rfl) (by kernel_rfl), if_pos rfl]
    rw [eqf_intT (k := .i64) (x := a.prev) (y := a.prev) (by decide) (by kernel_rfl) (by kernel_rfl) (by kernel_rfl), if_pos rfl]
    rw [eqf_intT (k := .i64) (x := a.code) (y := a.code) (by decide) (by kernel_rfl) (by kernel_rfl) (by kernel_rfl), if_pos rfl]
    rw [eqf_strT (x := a.key) (y := a.key) (by decide) (by kernel_rfl) (by kernel_rfl) (by kernel_rfl), if_pos rfl]
    rw [eqf_strT (x := a.val) (y := a.val) (by decide) (by kernel_rfl) (by kernel_rfl) (by kernel_rfl), if_pos rfl]
    rfl
  rw [run_neq_struct, e]
  rfl
theorem wp_neqM {o : Oper} {a : Act} {w : World} {K : Act → World → Prop} {Q : Exit → Act → World → Prop} (x y : Operand) (t2 : TypeId) (ho : o.op = .binOp .neq 36 x y t2) (m : Mg) (hx : a.eval x = .agg (mgV m)) (hy : a.eval y = .agg (mgV m))
    (h : K (a.put o.dst (.bool false)) w) : o.wp Tryd.prog a w K Q := by
  have hg : Tryd.prog.eqGuardType Tryd.prog.depth 36 = false := by kernel_rfl
  unfold Oper.wp execOp
  simp only [ho, Sem.run_bind, Sem.run_pure, Result.andThen_ok, hx, hy, neqMgT, run_eqGuard_agg w .neq 36 x y (mgV m) (mgV m) hg]
  exact h
theorem exec_ldMr {ρ : Operand → Value} {o : Oper} {w : World} {b off : Nat} {m : Mg} (p : Operand) (ho : o.op = .load 36 p) (hx : ρ p = .pointer (some ⟨b, off, none⟩)) (hO : w.rangeAt b off (mgV m).toList) : (execOp ρ o).run Tryd.prog w = .ok (.value (.agg (mgV m))) w := by
  have hl := run_loadAt_mid (P := Tryd.prog) w b off 36 (mgV m).toList _ hO Tryd.underlying36 rfl mg_info
  unfold execOp
  simp only [ho, hx, Sem.run_bind, hl, Result.andThen_ok, Sem.run_pure]
theorem mg_rng {w : World} {b g d n : Nat} {L : List Mg} (r : w.ownsRow b 36 11 (.slice (some ⟨g, 0, none⟩) n d) n (mgs L)) (i : Nat) (hi : i < L.length) : w.rangeAt g (i * 11) (mgV L[i]).toList := fun j u hj => by
  have hl : j < 11 := by
    have := (List.getElem?_eq_some_iff.1 hj).1
    simpa [mgV] using this
  have e := mgs_at L i hi j hl
  have hj' : (mgV L[i])[j]? = some u := by simpa using hj
  obtain ⟨g', c', e1, hc, _⟩ := own_at r (j := i * 11 + j) (u := u) (by rw [e]; exact hj')
  injection e1 with e1
  injection e1 with e1
  injection e1 with e1
  rw [e1]
  exact hc
set_option maxHeartbeats 16000000 in
set_option maxRecDepth 100000 in
set_option linter.unusedSimpArgs false in
set_option linter.unusedVariables false in
theorem sameM_x {w : World} {b1 b2 n : Nat} {u1 u2 : Value} {L : List Mg} (hl : L.length = n) (o1 : w.ownsRow b1 36 11 u1 n (mgs L)) (o2 : w.ownsRow b2 36 11 u2 n (mgs L)) (hn : n ≤ 1000000000000) :
    Calls Tryd.prog 34 #[u1, u2] w fun e w' => e = .returned (.bool true) ∧ Kp w w' non := by
  obtain ⟨p1, c1, rfl⟩ := own_sl o1
  obtain ⟨p2, c2, rfl⟩ := own_sl o2
  have O1 := hide o1
  have O2 := hide o2
  have HL := hide hl
  clear o1 o2 hl
  go_enter Tryd.func34, Tryd.ntmps34
  go_wp2_with fail
  go_loopw [5] (fun vi wr => ∃ i : Nat, i ≤ n ∧ vi = .int .i64 (i : Int) ∧ Hid (Kp w wr non)) (fun vi _ => n - (intOf vi).toNat)
  case atStart => exact ⟨0, Nat.zero_le _, rfl, Kp.refl _ _⟩
  case round =>
    obtain ⟨i, hi, rfl, KI⟩ := hrel
    by_cases hin : i < n
    case pos =>
      have hii : (i : Int) < (n : Int) := by omega
      have hiL : i < L.length := by rw [HL.out]; exact hin
      obtain ⟨g1, d1, h1⟩ := own_g O1.out (by omega)
      obtain ⟨g2, d2, h2⟩ := own_g O2.out (by omega)
      injection h1 with h1 _ h1c
      injection h2 with h2 _ h2c
      subst h1 h1c h2 h2c
      have r1 := own_kp O1.out KI.out (fun _ _ f => f)
      have r2 := own_kp O2.out KI.out (fun _ _ f => f)
      have S0 : Hid (wr.rangeAt g1 (i * 11) (mgV L[i]).toList ∧ wr.rangeAt g2 (i * 11) (mgV L[i]).toList) := ⟨mg_rng r1 i hiL, mg_rng r2 i hiL⟩
      clear r1 r2
      generalize L[i] = z at S0
      go_upto_region 6 with fail
      refine wp_region_held_drew (S := fun Y => Y.rangeAt g1 (i * 11) (mgV z).toList ∧ Y.rangeAt g2 (i * 11) (mgV z).toList) (by kernel_rfl) S0.out (fun hHeld => ?_)
      refine wTk (i := 0) (v := (.slice (some ⟨g1, 0, none⟩) n c1)) rfl ?_ ?_
      · intro w' hSw
        (try dsimp only at hSw)
        go_simp
      (try simp only [Act.put, List.getElem_toArray, List.getElem_cons_zero, List.getElem_cons_succ, List.setIfInBounds_toArray, List.set_cons_zero, List.set_cons_succ])
      refine wTk (i := 1) (v := (.int .i64 (i : Int))) rfl ?_ ?_
      · intro w' hSw
        (try dsimp only at hSw)
        go_simp
      (try simp only [Act.put, List.getElem_toArray, List.getElem_cons_zero, List.getElem_cons_succ, List.setIfInBounds_toArray, List.set_cons_zero, List.set_cons_succ])
      refine wTk (i := 2) (v := (.pointer (some ⟨g1, i * 11, none⟩))) rfl ?_ ?_
      · intro w' hSw
        (try dsimp only at hSw)
        go_simp
      (try simp only [Act.put, List.getElem_toArray, List.getElem_cons_zero, List.getElem_cons_succ, List.setIfInBounds_toArray, List.set_cons_zero, List.set_cons_succ])
      refine wTk (i := 3) (v := (.agg (mgV z))) rfl ?_ ?_
      · intro w' hSw
        (try dsimp only at hSw)
        (exact exec_ldMr (.tmp 19) rfl rfl hSw.1)
      (try simp only [Act.put, List.getElem_toArray, List.getElem_cons_zero, List.getElem_cons_succ, List.setIfInBounds_toArray, List.set_cons_zero, List.set_cons_succ])
      refine wTk (i := 4) (v := (.slice (some ⟨g2, 0, none⟩) n c2)) rfl ?_ ?_
      · intro w' hSw
        (try dsimp only at hSw)
        go_simp
      (try simp only [Act.put, List.getElem_toArray, List.getElem_cons_zero, List.getElem_cons_succ, List.setIfInBounds_toArray, List.set_cons_zero, List.set_cons_succ])
      refine wTk (i := 5) (v := (.int .i64 (i : Int))) rfl ?_ ?_
      · intro w' hSw
        (try dsimp only at hSw)
        go_simp
      (try simp only [Act.put, List.getElem_toArray, List.getElem_cons_zero, List.getElem_cons_succ, List.setIfInBounds_toArray, List.set_cons_zero, List.set_cons_succ])
      refine wTk (i := 6) (v := (.pointer (some ⟨g2, i * 11, none⟩))) rfl ?_ ?_
      · intro w' hSw
        (try dsimp only at hSw)
        go_simp
      (try simp only [Act.put, List.getElem_toArray, List.getElem_cons_zero, List.getElem_cons_succ, List.setIfInBounds_toArray, List.set_cons_zero, List.set_cons_succ])
      refine wTk (i := 7) (v := (.agg (mgV z))) rfl ?_ ?_
      · intro w' hSw
        (try dsimp only at hSw)
        (exact exec_ldMr (.tmp 23) rfl rfl hSw.2)
      (try simp only [Act.put, List.getElem_toArray, List.getElem_cons_zero, List.getElem_cons_succ, List.setIfInBounds_toArray, List.set_cons_zero, List.set_cons_succ])
      refine wpAnyH_ready (rs := [8]) (by kernel_rfl) (by simp) ?_
      refine AllReadyH.cons rfl (fun K hK => ?_) AllReadyH.nil
      refine wp_neqM (.tmp 20) (.tmp 24) _ rfl z rfl rfl ?_
      refine hK.out _ _ (S0.out) (fun hHeld => ?_)
      clear hK
      (try simp only [Act.put, List.setIfInBounds_toArray, List.set_cons_zero, List.set_cons_succ])
      refine wpAnyH_done (by kernel_rfl) ?_ _
      clear hHeld
      have KQ : Hid (Kp w wr.drew non) := KI.out.trans ((Kp.refl wr non).drew) (fun _ f => f.elim)
      clear S0
      go_wp2_with fail
      go_roundw
      case rel => exact ⟨i + 1, by omega, by go_num, KQ.out⟩
      case measure => simp [intOf]; omega
    case neg =>
      obtain rfl : i = n := by omega
      go_wp2_with fail
      go_ret
      exact ⟨rfl, KI.out⟩
set_option maxHeartbeats 16000000 in
set_option maxRecDepth 100000 in
set_option linter.unusedSimpArgs false in
set_option linter.unusedVariables false in
theorem sameRep_x {w : World} {b1 b2 b3 b4 : Nat} {d1 d2 m1 m2 : Value} (p : Rp) (h1 : w.ownsRow b1 89 2 d1 p.ps.length (prs p.ps)) (h2 : w.ownsRow b2 89 2 d2 p.ps.length (prs p.ps)) (h3 : w.ownsRow b3 3 1 m1 p.ms.length (ints p.ms)) (h4 : w.ownsRow b4 3 1 m2 p.ms.length (ints p.ms)) (hl : p.ps.length ≤ 1000000) (hm : p.ms.length ≤ 1000000) :
    Calls Tryd.prog 20 #[.agg (toA p d1 m1), .agg (toA p d2 m2)] w fun e w' => e = .returned (.bool true) ∧ Kp w w' non := by
  obtain ⟨W0, hW0⟩ : ∃ W0, W0 = w.alloc (.cells (toA p d1 m1) 57) := ⟨_, rfl⟩
  obtain ⟨W1, hW1⟩ : ∃ W1, W1 = W0.alloc (.cells (toA p d2 m2) 57) := ⟨_, rfl⟩
  obtain ⟨B, hB⟩ : ∃ B, B = w.heap.size := ⟨_, rfl⟩
  have k0 : Kp w W0 non := by rw [hW0]; exact (Kp.refl w non).alloc _
  have k1 : Kp W0 W1 non := by rw [hW1]; exact (Kp.refl W0 non).alloc _
  have K1 : Hid (Kp w W1 non) := k0.trans k1 (fun _ f => f.elim)
  have m0 : W0.heap[B]? = some (.cells (toA p d1 m1) 57) := by rw [hW0, hB]; exact heap_last w _
  have n1 : W1.heap[B]? = some (.cells (toA p d1 m1) 57) := (k1.block _ (blk_lt m0) (fun f => f)).trans m0
  have n2 : W1.heap[B + 1]? = some (.cells (toA p d2 m2) 57) := by rw [hW1, hB, ← World.size_alloc, ← hW0]; exact heap_last W0 _
  have SD := hide fun X (hX : Kp W1 X non) => sameP_x rfl (own_kp h1 (K1.out.trans hX (fun _ f => f.elim)) (fun _ _ f => f)) (own_kp h2 (K1.out.trans hX (fun _ f => f.elim)) (fun _ _ f => f)) hl
  have SM := hide fun X (hX : Kp W1 X non) => sameI_x rfl (own_kp h3 (K1.out.trans hX (fun _ f => f.elim)) (fun _ _ f => f)) (own_kp h4 (K1.out.trans hX (fun _ f => f.elim)) (fun _ _ f => f)) hm
  have CE : Hid (∀ X, Kp W1 X non → X.cell? ⟨B, 0, none⟩ = some (.int .i64 p.jb) ∧ X.cell? ⟨B, 1, none⟩ = some (.int .i64 p.vr) ∧ X.cell? ⟨B, 2, none⟩ = some d1 ∧ X.cell? ⟨B, 3, none⟩ = some m1 ∧ X.cell? ⟨B + 1, 0, none⟩ = some (.int .i64 p.jb) ∧ X.cell? ⟨B + 1, 1, none⟩ = some (.int .i64 p.vr) ∧ X.cell? ⟨B + 1, 2, none⟩ = some d2 ∧ X.cell? ⟨B + 1, 3, none⟩ = some m2) := fun X hX => by
    have z1 := (hX.block _ (blk_lt n1) (fun f => f)).trans n1
    have z2 := (hX.block _ (blk_lt n2) (fun f => f)).trans n2
    simp only [cell_row z1, cell_row z2]
    exact ⟨rfl, rfl, rfl, rfl, rfl, rfl, rfl, rfl⟩
  obtain ⟨a1, c1, rfl⟩ := own_sl h1
  obtain ⟨a2, c2, rfl⟩ := own_sl h2
  obtain ⟨a3, c3, rfl⟩ := own_sl h3
  obtain ⟨a4, c4, rfl⟩ := own_sl h4
  generalize p.ps.length = dn at *
  generalize p.ms.length = mn at *
  obtain ⟨x0, x1, x2, x3, y0, y1, y2, y3⟩ := CE.out W1 (Kp.refl _ _)
  have q0 : (p.jb == p.jb) = true := by simp
  have q1 : (p.vr == p.vr) = true := by simp
  clear h1 h2 h3 h4 k0 k1 m0 n1 n2
  go_enter Tryd.func20, Tryd.ntmps20
  go_upto_region 1 with fail
  rw [← hW0, ← hB]
  rw [← hW1]
  clear hW0 hB hW1
  have SD0 := hide (SD.out W1 (Kp.refl _ _))
  go_wp2_with (go_at_call 38; refine Calls.mono SD0.out ?_; rintro e W2 ⟨rfl, k2⟩; have K2 := hide k2; obtain ⟨x0, x1, x2, x3, y0, y1, y2, y3⟩ := CE.out W2 K2.out; have SM0 := hide (SM.out W2 K2.out); clear k2 SD0)
  refine Calls.mono SM0.out ?_
  rintro e W3 ⟨rfl, k3⟩
  have K3 := hide k3
  clear k3
  go_wp2_with fail
  go_ret
  exact ⟨rfl, (K1.out.trans K2.out (fun _ f => f.elim)).trans K3.out (fun _ f => f.elim)⟩
end Go.Proofs.YtpoegknmkbnjlaaDoor.Cn
namespace Go.Proofs.YtpoegknmkbnjlaaDoor.Cn
open Go.RowKit
/-- a step of a script -/
structure Sp where
  k : Int
  n : Int
  v : Int
  m : Mg
def spV (s : Sp) : Array Value := #[.int .i64 s.k, .int .i64 s.n, .int .i64 s.v, .int .i64 s.m.kind, .int .i64 s.m.fr, .int .i64 s.m.td, .int .i64 s.m.id, .int .i64 s.m.ep, .int .i64 s.m.sq, .int .i64 s.m.ver, .int .i64 s.m.prev, .int .i64 s.m.code, .string s.m.key, .string s.m.val]
/-- rows of k cells that are handed in -/
structure RwAt {α : Type} (k : Nat) (V : α → Array Value) (N : Nat) (w : World) (ao : Option Addr) (b o : Nat) (L : List α) : Prop where
  at0 : 0 < L.length → ao = some ⟨b, o, none⟩
  lt : 0 < L.length → b < N
  c : ∀ (q : Nat) (h : q < L.length) (j : Nat) (u : Value), (V L[q])[j]? = some u → w.cell? ⟨b, o + q * k + j, none⟩ = some u
  len : L.length ≤ 9223372036854775807
theorem RwAt.below {α : Type} {k : Nat} {V : α → Array Value} {N : Nat} {w w' : World} {ao : Option Addr} {b o : Nat} {L : List α} (h : RwAt k V N w ao b o L) (hb : Below N w w') : RwAt k V N w' ao b o L :=
  ⟨h.at0, h.lt, fun q hq j u hj => (hb.cell (h.lt (by omega))).trans (h.c q hq j u hj), h.len⟩
/-- texts that can be copied -/
def MgFit (m : Mg) : Prop := m.key.size ≤ 281474976710656 ∧ m.val.size ≤ 281474976710656
end Go.Proofs.YtpoegknmkbnjlaaDoor.Cn
namespace Go.Proofs.YtpoegknmkbnjlaaDoor.Cn
open Go.RowKit
def atW (n : Nat) (v : Int) : Int := wrap64 (((n : Int) - 1) - v)
set_option maxHeartbeats 16000000 in
set_option maxRecDepth 100000 in
set_option linter.unusedSimpArgs false in
set_option linter.unusedVariables false in
theorem place_all (n : Int) : ∃ i : Nat, i < 2 ∧ ∀ w : World, Calls Tryd.prog 8 #[.int .i64 n] w fun e w' => e = .returned (.int .i64 (i : Int)) ∧ w = w' := by
  have h1 : n.tmod 2 < 2 := Int.tmod_lt_of_pos n (by omega)
  have h2 : -2 < n.tmod 2 := Int.lt_tmod_of_pos n (by omega)
  obtain ⟨r, hr⟩ : ∃ r, n.tmod 2 = r := ⟨_, rfl⟩
  rw [hr] at h1 h2
  have h3 : (r + 2).tmod 2 = (r + 2) % 2 := Int.tmod_eq_emod_of_nonneg (by omega)
  have h4 : 0 ≤ (r + 2) % 2 ∧ (r + 2) % 2 < 2 := by omega
  obtain ⟨i, hi⟩ : ∃ i : Nat, (r + 2) % 2 = (i : Int) := ⟨((r + 2) % 2).toNat, by omega⟩
  refine ⟨i, by omega, ?_⟩
  rw [hi] at h3
  intro w
  have e1 : IntKind.i64.wrap r = r := i64_in (by omega) (by omega)
  have e2 := wrap_in (x := r + 2) (by omega) (by omega)
  have e3 : wrap64 r = r := wrap_in (by omega) (by omega)
  have e4 : wrap64 (i : Int) = (i : Int) := wrap_in (by omega) (by omega)
  go_enter Tryd.func8, Tryd.ntmps8
  go_wp2_with fail
  go_ret
  refine ⟨?_, rfl⟩
  simp [hr, h3, e1, e2, e3, e4]
set_option maxHeartbeats 16000000 in
set_option maxRecDepth 100000 in
set_option linter.unusedSimpArgs false in
set_option linter.unusedVariables false in
theorem answer_no {w : World} (s : Sp) (a : Option Addr) (n cp : Nat) (hl : n ≤ 1000000000000) (hat : atW n s.v < 0 ∨ (n : Int) ≤ atW n s.v) :
    Calls Tryd.prog 15 #[.slice a n cp, .agg (spV s)] w fun e w' => e = .returned (.tuple #[.agg (mgV mg0), .bool false]) ∧ Kp w w' non := by
  obtain ⟨B, hB⟩ : ∃ B, B = w.heap.size := ⟨_, rfl⟩
  obtain ⟨W0, hW0⟩ : ∃ W0, W0 = (w.alloc (.cells (spV s) 38)).alloc (.cells (mgV mg0) 36) := ⟨_, rfl⟩
  have k0 : Kp w W0 non := by rw [hW0]; exact ((Kp.refl w non).alloc _).alloc _
  have ob0 : W0.heap[B]? = some (.cells (spV s) 38) := by
    rw [hW0, hB]
    exact ((Kp.refl _ non).alloc _).block _ (by rw [World.size_alloc]; omega) (fun f => f) |>.trans (heap_last w _)
  have m0 : W0.heap[B + 1]? = some (.cells (mgV mg0) 36) := by
    rw [hW0, hB]
    have := heap_last (w.alloc (.cells (spV s) 38)) (.cells (mgV mg0) 36)
    rw [World.size_alloc] at this
    exact this
  have s0 : W0.heap.size = B + 2 := by rw [hW0, hB]; simp
  obtain ⟨vN, hvN⟩ : ∃ vN, vN = s.v := ⟨_, rfl⟩
  have n2 : W0.cell? ⟨B, 2, none⟩ = some (.int .i64 vN) := by rw [cell_row ob0, hvN]; rfl
  rw [← hvN] at hat
  have ew := wrap_in (x := (n : Int) - 1) (by omega) (by omega)
  obtain ⟨W1, hW1⟩ : ∃ W1, W1 = W0.setRow (B + 1) (mgV mg0) := ⟨_, rfl⟩
  have kr : Kp W0 W1 (fun j => j = B + 1) := by rw [hW1]; exact (Kp.refl W0 (fun j => j = B + 1)).row (Or.inl rfl) _
  have K1 : Hid (Kp w W1 non) := k0.trans kr (fun j e => Or.inr (by rw [e, hB]; omega))
  have B1 : Hid (W1.heap[B + 1]? = some (.cells (mgV mg0) 36)) := by rw [hW1]; exact setRow_heap _ _ _ _ _ _ m0
  have M0 := hide m0
  have HW1 := hide hW1
  have hat0 : atW n vN = wrap64 (((n : Int) - 1) - vN) := rfl
  obtain ⟨av, hav⟩ : ∃ av, av = atW n vN := ⟨_, rfl⟩
  rw [← hav] at hat hat0
  have hat1 := hat0.symm
  clear k0 ob0 m0 s0 kr hW1 hvN hat0 hav
  go_enter Tryd.func15, Tryd.ntmps15
  go_upto_region 1 with fail
  rw [show (w.alloc (.cells (spV s) 38)).alloc (.cells #[.int .i64 0, .int .i64 0, .int .i64 0, .int .i64 0, .int .i64 0, .int .i64 0, .int .i64 0, .int .i64 0, .int .i64 0, .string ⟨#[]⟩, .string ⟨#[]⟩] 36) = W0 from hW0.symm, ← hB]
  clear hW0 hB
  by_cases hneg : av < 0
  · have hnb : decide (av < 0) = true := by simpa using hneg
    go_wp2_with (first | refine wpList_blR rfl 36 #[] rfl (mgV mg0) (by kernel_rfl) ?_ | (refine wpList_stR rfl 36 (.tmp 4) (.tmp 22) rfl (B + 1) rfl (mgV mg0) (mgV mg0) rfl _ M0.out mg_info rfl (mg_one _) ?_; rw [← HW1.out]))
    refine bodyPost_ret (v := .tuple #[.agg (mgV mg0), .bool false]) (res_row2 Tryd.results15 _ _ W1 (B + 1) rfl _ rfl _ B1.out Tryd.underlying36 mg_info) rfl ⟨rfl, K1.out⟩
  · have hnb : decide (av < 0) = false := by simpa using hneg
    have hge : (n : Int) ≤ av := by omega
    go_wp2_with (first | refine wpList_blR rfl 36 #[] rfl (mgV mg0) (by kernel_rfl) ?_ | (refine wpList_stR rfl 36 (.tmp 4) (.tmp 22) rfl (B + 1) rfl (mgV mg0) (mgV mg0) rfl _ M0.out mg_info rfl (mg_one _) ?_; rw [← HW1.out]))
    refine bodyPost_ret (v := .tuple #[.agg (mgV mg0), .bool false]) (res_row2 Tryd.results15 _ _ W1 (B + 1) rfl _ rfl _ B1.out Tryd.underlying36 mg_info) rfl ⟨rfl, K1.out⟩
def ansT (q o : Mg) : Mg := ⟨16, q.td, q.fr, wrap64 (q.id + o.id), 0, wrap64 (q.sq + o.sq), wrap64 (q.ver + o.ver), wrap64 (q.prev + o.prev), o.code, o.key, o.val⟩
set_option maxHeartbeats 16000000 in
set_option maxRecDepth 100000 in
set_option linter.unusedSimpArgs false in
set_option linter.unusedVariables false in
theorem answer_yes {w : World} {base g cp n : Nat} {L : List Mg} (s : Sp) (h : w.ownsRow base 36 11 (.slice (some ⟨g, 0, none⟩) n cp) n (mgs L)) (hl : n ≤ 1000000000000) (j : Nat) (hat : atW n s.v = (j : Int)) (hj : j < n) :
    ∃ q : Mg, Calls Tryd.prog 15 #[.slice (some ⟨g, 0, none⟩) n cp, .agg (spV s)] w fun e w' => e = .returned (.tuple #[.agg (mgV (ansT q s.m)), .bool true]) ∧ Kp w w' non := by
  have hlL : L.length = n := by have h1 := h.1; rw [mgs_len] at h1; omega
  have hjL : j < L.length := by omega
  obtain ⟨q, hq⟩ : ∃ q, q = L[j] := ⟨_, rfl⟩
  refine ⟨q, ?_⟩
  obtain ⟨B, hB⟩ : ∃ B, B = w.heap.size := ⟨_, rfl⟩
  obtain ⟨W0, hW0⟩ : ∃ W0, W0 = (w.alloc (.cells (spV s) 38)).alloc (.cells (mgV mg0) 36) := ⟨_, rfl⟩
  have k0 : Kp w W0 non := by rw [hW0]; exact ((Kp.refl w non).alloc _).alloc _
  have ob0 : W0.heap[B]? = some (.cells (spV s) 38) := by
    rw [hW0, hB]
    exact ((Kp.refl _ non).alloc _).block _ (by rw [World.size_alloc]; omega) (fun f => f) |>.trans (heap_last w _)
  have m0 : W0.heap[B + 1]? = some (.cells (mgV mg0) 36) := by
    rw [hW0, hB]
    have := heap_last (w.alloc (.cells (spV s) 38)) (.cells (mgV mg0) 36)
    rw [World.size_alloc] at this
    exact this
  have s0 : W0.heap.size = B + 2 := by rw [hW0, hB]; simp
  obtain ⟨vN, hvN⟩ : ∃ vN, vN = s.v := ⟨_, rfl⟩
  have n2 : W0.cell? ⟨B, 2, none⟩ = some (.int .i64 vN) := by rw [cell_row ob0, hvN]; rfl
  rw [← hvN] at hat
  have ew := wrap_in (x := (n : Int) - 1) (by omega) (by omega)
  have RG := hide (mg_rng (own_kp h k0 (fun _ _ f => f)) j hjL)
  rw [← hq] at RG
  have hat0 : atW n vN = wrap64 (((n : Int) - 1) - vN) := rfl
  rw [hat] at hat0
  have hat1 := hat0.symm
  have hjn : decide ((j : Int) < 0) = false := by simp
  have hjI : (j : Int) < (n : Int) := by omega
  have hj0 : ¬ (n : Int) ≤ (j : Int) := by omega
  obtain ⟨W1, hW1⟩ : ∃ W1, W1 = W0.alloc (.cells (mgV q) 36) := ⟨_, rfl⟩
  have k1 : Kp W0 W1 non := by rw [hW1]; exact (Kp.refl W0 non).alloc _
  have m1 : MgAt W1 (B + 2) q := by rw [hW1, ← s0]; exact MgAt.new W0 q
  have ob1 := (k1.block _ (blk_lt ob0) (fun f => f)).trans ob0
  have z1 : W1.heap[B + 1]? = some (.cells (mgV mg0) 36) := (k1.block _ (blk_lt m0) (fun f => f)).trans m0
  obtain ⟨W2, hW2⟩ : ∃ W2, W2 = W1.setRow (B + 1) (mgV (ansT q s.m)) := ⟨_, rfl⟩
  have kr : Kp W1 W2 (fun j => j = B + 1) := by rw [hW2]; exact (Kp.refl W1 (fun j => j = B + 1)).row (Or.inl rfl) _
  have K2 : Hid (Kp w W2 non) := (k0.trans k1 (fun _ f => f.elim)).trans kr (fun j e => Or.inr (by rw [e, hB]; omega))
  have B2 : Hid (W2.heap[B + 1]? = some (.cells (mgV (ansT q s.m)) 36)) := by rw [hW2]; exact setRow_heap _ _ _ _ _ _ z1
  obtain ⟨c0, c1, c2, c3, c4, c5, c6, c7, c8, c9, c10⟩ := m1.cells
  have d : W1.cell? ⟨B, 6, none⟩ = some (.int .i64 s.m.id) ∧ W1.cell? ⟨B, 8, none⟩ = some (.int .i64 s.m.sq) ∧ W1.cell? ⟨B, 9, none⟩ = some (.int .i64 s.m.ver) ∧ W1.cell? ⟨B, 10, none⟩ = some (.int .i64 s.m.prev) ∧ W1.cell? ⟨B, 11, none⟩ = some (.int .i64 s.m.code) ∧ W1.cell? ⟨B, 12, none⟩ = some (.string s.m.key) ∧ W1.cell? ⟨B, 13, none⟩ = some (.string s.m.val) := by
    simp only [cell_row ob1]
    exact ⟨rfl, rfl, rfl, rfl, rfl, rfl, rfl⟩
  obtain ⟨d6, d8, d9, d10, d11, d12, d13⟩ := d
  have SZ0 := hide s0
  have Z1 := hide z1
  have HW1 := hide hW1
  have HW2 := hide hW2
  have HL0 : Hid ((W0.alloc (.cells #[.int .i64 0, .int .i64 0, .int .i64 0, .int .i64 0, .int .i64 0, .int .i64 0, .int .i64 0, .int .i64 0, .int .i64 0, .string ⟨#[]⟩, .string ⟨#[]⟩] 36)).heap[B + 2]? = some (.cells (mgV mg0) 36)) := by rw [← s0]; exact heap_last W0 _
  have HS0 : Hid ((W0.alloc (.cells #[.int .i64 0, .int .i64 0, .int .i64 0, .int .i64 0, .int .i64 0, .int .i64 0, .int .i64 0, .int .i64 0, .int .i64 0, .string ⟨#[]⟩, .string ⟨#[]⟩] 36)).setRow (B + 2) (mgV q) = W1) := by rw [hW1, ← s0]; exact World.setRow_alloc_new _ _ _ _
  have hjw : j < 1000000000000 := by omega
  obtain ⟨an, han⟩ : ∃ an, an = ansT q s.m := ⟨_, rfl⟩
  have HAN : Hid (mgV an = #[.int .i64 16, .int .i64 q.td, .int .i64 q.fr, .int .i64 (wrap64 (q.id + s.m.id)), .int .i64 0, .int .i64 (wrap64 (q.sq + s.m.sq)), .int .i64 (wrap64 (q.ver + s.m.ver)), .int .i64 (wrap64 (q.prev + s.m.prev)), .int .i64 s.m.code, .string s.m.key, .string s.m.val]) := by rw [han]; rfl
  rw [← han] at B2 HW2
  have HANS := hide han
  clear h k0 ob0 m0 k1 m1 ob1 z1 kr hW1 hW2 s0 hvN hat hat0 hlL hjL hq han c0 c4 c8 c9 c10
  go_enter Tryd.func15, Tryd.ntmps15
  go_upto_region 1 with fail
  rw [show (w.alloc (.cells (spV s) 38)).alloc (.cells #[.int .i64 0, .int .i64 0, .int .i64 0, .int .i64 0, .int .i64 0, .int .i64 0, .int .i64 0, .int .i64 0, .int .i64 0, .string ⟨#[]⟩, .string ⟨#[]⟩] 36) = W0 from hW0.symm, ← hB]
  clear hW0 hB
  go_upto_region 4 with fail
  have SZ := SZ0.out
  go_upto_region 5 with (first | refine wpList_load_mid rfl 36 (.tmp 25) rfl g (j * 11) rfl (mgV q).toList _ RG.out Tryd.underlying36 rfl mg_info ?_ | (refine wpList_stR rfl 36 (.tmp 7) (.tmp 26) rfl (B + 2) rfl (mgV q) (mgV mg0) rfl _ HL0.out mg_info rfl (mg_one _) ?_; rw [HS0.out]))
  clear SZ n2 ew hat1 hjn hjI hj0 RG
  go_wp2_with (first | refine wpList_blR rfl 36 _ rfl (mgV an) (by rw [HAN.out]; kernel_rfl) ?_ | (refine wpList_stR rfl 36 (.tmp 4) (.tmp 64) rfl (B + 1) rfl (mgV an) (mgV mg0) rfl _ Z1.out mg_info rfl (mg_one _) ?_; rw [← HW2.out]))
  refine bodyPost_ret (v := .tuple #[.agg (mgV an), .bool true]) (res_row2 Tryd.results15 _ _ W2 (B + 1) rfl _ rfl _ B2.out Tryd.underlying36 mg_info) rfl ⟨by rw [HANS.out], K2.out⟩
end Go.Proofs.YtpoegknmkbnjlaaDoor.Cn
namespace Go.Proofs.YtpoegknmkbnjlaaDoor.Cn
open Go.RowKit
set_option maxHeartbeats 16000000 in
set_option maxRecDepth 100000 in
set_option linter.unusedSimpArgs false in
set_option linter.unusedVariables false in
theorem begin_r {w : World} {Y : Nat} {r : Rx} {Z : Zr} (h : RxAt w Y r Z) (ok : Rok r) (hjb : 0 ≤ r.job ∧ r.job ≤ 1000000000000) (ver : Int) :
    Calls Tryd.prog 29 #[.pointer (some ⟨Y, 0, none⟩), .int .i64 ver] w fun e w' => ∃ u Z', e = .returned (.tuple #[u, .int .i64 (begRE r ver)]) ∧ Out w w' u (begRL r ver) ∧ Lr w w' Y Z (begR r ver) Z' := by
  have c5 : w.cell? ⟨Y, 5, none⟩ = some (.bool r.on) := (rx_cells h.blk).2.2.2.2.2.1
  have NO : Hid (∀ k : Int, k ≠ 0 → begRE r ver = k → (∃ u Z', (Ending.returned (.tuple #[Value.slice none 0 0, .int .i64 k]) : Ending) = .returned (.tuple #[u, .int .i64 (begRE r ver)]) ∧ Out w w u (begRL r ver) ∧ Lr w w Y Z (begR r ver) Z')) := fun k hk q => by
    have e1 : begR r ver = r := by unfold begR; rw [if_neg (by rw [q]; exact hk)]
    have e2 : begRL r ver = [] := by unfold begRL; rw [if_neg (by rw [q]; exact hk)]
    refine ⟨_, Z, by rw [q], ?_, ?_⟩
    · rw [e2]; exact World.ownsRow_nil _ _ _ _
    · rw [e1]; exact Lr.same h (Kp.refl _ _)
  have H := hide h
  have OK := hide ok
  have HJB := hide hjb
  cases hon : r.on with
  | true =>
    rw [hon] at c5
    have e0 : begRE r ver = 150 := by unfold begRE; rw [hon]; rfl
    have E0 := hide (NO.out 150 (by decide) e0)
    clear h ok hjb hon e0 NO
    go_enter Tryd.func29, Tryd.ntmps29
    go_wp2_with fail
    go_ret2
    obtain ⟨u, Z', e, a, b⟩ := E0.out
    first | exact ⟨u, Z', e, a, b⟩ | exact ⟨u, e, a, Z', b⟩
  | false =>
  rw [hon] at c5
  by_cases hv : verB ver = true
  case neg =>
    have e0 : begRE r ver = 80 := by unfold begRE; rw [hon, if_neg (by simp), if_neg hv]
    have E0 := hide (NO.out 80 (by decide) e0)
    have hor : ver < 1 ∨ 999999 < ver := by
      have hv : verB ver = false := by simpa using hv
      unfold verB at hv
      have := of_decide_eq_false hv
      omega
    clear h ok hjb hon e0 hv NO
    by_cases hv1 : ver < 1
    case pos =>
      clear hor
      go_enter Tryd.func29, Tryd.ntmps29
      go_wp2_with fail
      go_ret2
      obtain ⟨u, Z', e, a, b⟩ := E0.out
      first | exact ⟨u, Z', e, a, b⟩ | exact ⟨u, e, a, Z', b⟩
    case neg =>
      have hv2 : 999999 < ver := hor.resolve_left hv1
      clear hor
      go_enter Tryd.func29, Tryd.ntmps29
      go_wp2_with fail
      go_ret2
      obtain ⟨u, Z', e, a, b⟩ := E0.out
      first | exact ⟨u, Z', e, a, b⟩ | exact ⟨u, e, a, Z', b⟩
  case pos =>
  have e0 : begRE r ver = 0 := by unfold begRE; rw [hon, if_neg (by simp), if_pos hv]
  have hvr : 1 ≤ ver ∧ ver ≤ 999999 := by unfold verB at hv; exact of_decide_eq_true hv
  have y1 : ¬ ver < 1 := by omega
  have y2 : ¬ 999999 < ver := by omega
  obtain ⟨jb, hj⟩ : ∃ jb, jb = r.job := ⟨_, rfl⟩
  rw [← hj] at hjb
  have ew := wrap_in (x := jb + 1) (by omega) (by omega)
  have b0 := h.blk
  obtain ⟨w1, hw1⟩ : ∃ w1, w1 = w.setCell ⟨Y, 5, none⟩ (.bool true) := ⟨_, rfl⟩
  have b1 : w1.heap[Y]? = some (.cells (rxA { r with on := true } Z) 76) := by rw [hw1]; exact set_row b0 5 _
  obtain ⟨w2, hw2⟩ : ∃ w2, w2 = w1.setCell ⟨Y, 3, none⟩ (.int .i64 (jb + 1)) := ⟨_, rfl⟩
  have b2 : w2.heap[Y]? = some (.cells (rxA { r with on := true, job := jb + 1 } Z) 76) := by rw [hw2]; exact set_row b1 3 _
  obtain ⟨w3, hw3⟩ : ∃ w3, w3 = w2.setCell ⟨Y, 4, none⟩ (.int .i64 ver) := ⟨_, rfl⟩
  have b3 : w3.heap[Y]? = some (.cells (rxA { r with on := true, job := jb + 1, ver := ver } Z) 76) := by rw [hw3]; exact set_row b2 4 _
  obtain ⟨w4, hw4⟩ : ∃ w4, w4 = w3.setCell ⟨Y, 7, none⟩ (.int .i64 0) := ⟨_, rfl⟩
  have b4 : w4.heap[Y]? = some (.cells (rxA { r with on := true, job := jb + 1, ver := ver, part := 0 } Z) 76) := by rw [hw4]; exact set_row b3 7 _
  obtain ⟨w5, hw5⟩ : ∃ w5, w5 = w4.setCell ⟨Y, 8, none⟩ (.int .i64 0) := ⟨_, rfl⟩
  have b5 : w5.heap[Y]? = some (.cells (rxA { r with on := true, job := jb + 1, ver := ver, part := 0, left := 0 } Z) 76) := by rw [hw5]; exact set_row b4 8 _
  obtain ⟨w6, hw6⟩ : ∃ w6, w6 = w5.setCell ⟨Y, 10, none⟩ (.slice none 0 0) := ⟨_, rfl⟩
  have b6 : w6.heap[Y]? = some (.cells (rxA { r with on := true, job := jb + 1, ver := ver, part := 0, left := 0 } { Z with rd := .slice none 0 0 }) 76) := by rw [hw6]; exact set_row b5 10 _
  obtain ⟨w7, hw7⟩ : ∃ w7, w7 = w6.setCell ⟨Y, 11, none⟩ (.slice none 0 0) := ⟨_, rfl⟩
  have b7 : w7.heap[Y]? = some (.cells (rxA { r with on := true, job := jb + 1, ver := ver, part := 0, left := 0 } { Z with rd := .slice none 0 0, ofv := .slice none 0 0 }) 76) := by rw [hw7]; exact set_row b6 11 _
  obtain ⟨w8, hw8⟩ : ∃ w8, w8 = w7.setCell ⟨Y, 12, none⟩ (.slice none 0 0) := ⟨_, rfl⟩
  have b8 : w8.heap[Y]? = some (.cells (rxA { r with on := true, job := jb + 1, ver := ver, part := 0, left := 0 } { Z with rd := .slice none 0 0, ofv := .slice none 0 0, lo := .slice none 0 0 }) 76) := by rw [hw8]; exact set_row b7 12 _
  have kk : Kp w w8 (fun k => k = Y) := by rw [hw8, hw7, hw6, hw5, hw4, hw3, hw2, hw1]; exact ((((((((Kp.refl w (fun k => k = Y)).set (Or.inl rfl) _ _).set (Or.inl rfl) _ _).set (Or.inl rfl) _ _).set (Or.inl rfl) _ _).set (Or.inl rfl) _ _).set (Or.inl rfl) _ _).set (Or.inl rfl) _ _).set (Or.inl rfl) _ _
  have o8 := h.ow.setY h.blk kk
  have bb : w8.heap[Y]? = some (.cells (rxA (startR r ver) { Z with rd := .slice none 0 0, ofv := .slice none 0 0, lo := .slice none 0 0 }) 76) := by rw [hj] at b8; exact b8
  have L8 : Hid (Lr w w8 Y Z (startR r ver) { Z with rd := .slice none 0 0, ofv := .slice none 0 0, lo := .slice none 0 0 }) := by
    refine ⟨⟨bb, ⟨o8.rows, o8.row, World.ownsRow_nil _ _ _ _, World.ownsRow_nil _ _ _ _, World.ownsRow_nil _ _ _ _, o8.lp, o8.lm, fun _ k e => by simp [Value.ownBlock] at e, fun _ k e => by simp [Value.ownBlock] at e, fun _ k e => by simp [Value.ownBlock] at e⟩⟩, kk.mono (fun _ e => Or.inl e), fun k e => ?_, fun k e => ?_⟩
    · rcases e with e | e | e | e
      · exact Or.inl (Or.inl e)
      · simp [Value.ownBlock] at e
      · simp [Value.ownBlock] at e
      · simp [Value.ownBlock] at e
    · rcases e with e | e | e | e | e
      · exact Or.inl (Or.inl e)
      · simp [Value.ownBlock] at e
      · simp [Value.ownBlock] at e
      · simp [Value.ownBlock] at e
      · exact Or.inl (Or.inr (Or.inr (Or.inr (Or.inr e))))
  have BG : Hid (begR r ver = sentR (startR r ver) ∧ begRL r ver = [qR (startR r ver)]) := ⟨by unfold begR; rw [if_pos e0], by unfold begRL; rw [if_pos e0]⟩
  have okn : Rok (startR r ver) := ⟨OK.out.rl, OK.out.rw_, Nat.zero_le _⟩
  have hpt : (startR r ver).part < (startR r ver).rows.length := by show 0 < r.rows.length; have := OK.out.rl; omega
  have rr := okn.row hpt
  have QN := hide (question_r L8.out.at_ hpt (by show 0 < _; omega) (Nat.zero_le _) OK.out.rl.2 rr.2)
  rw [e0]
  have F1 := hide (fz_row b0 5)
  have G1 : Hid (∃ q, w.cell? ⟨Y, 5, none⟩ = some q) := by rw [cell_row b0]; exact ⟨_, rfl⟩
  have H1 := hide hw1
  have g2 : w1.cell? ⟨Y, 3, none⟩ = some (.int .i64 jb) := by rw [hj, cell_row b1]; rfl
  have F2 := hide (fz_row b1 3)
  have G2 : Hid (∃ q, w1.cell? ⟨Y, 3, none⟩ = some q) := by rw [cell_row b1]; exact ⟨_, rfl⟩
  have H2 := hide hw2
  have F3 := hide (fz_row b2 4)
  have G3 : Hid (∃ q, w2.cell? ⟨Y, 4, none⟩ = some q) := by rw [cell_row b2]; exact ⟨_, rfl⟩
  have H3 := hide hw3
  have F4 := hide (fz_row b3 7)
  have G4 : Hid (∃ q, w3.cell? ⟨Y, 7, none⟩ = some q) := by rw [cell_row b3]; exact ⟨_, rfl⟩
  have H4 := hide hw4
  have F5 := hide (fz_row b4 8)
  have G5 : Hid (∃ q, w4.cell? ⟨Y, 8, none⟩ = some q) := by rw [cell_row b4]; exact ⟨_, rfl⟩
  have H5 := hide hw5
  have F6 := hide (fz_row b5 10)
  have G6 : Hid (∃ q, w5.cell? ⟨Y, 10, none⟩ = some q) := by rw [cell_row b5]; exact ⟨_, rfl⟩
  have H6 := hide hw6
  have F7 := hide (fz_row b6 11)
  have G7 : Hid (∃ q, w6.cell? ⟨Y, 11, none⟩ = some q) := by rw [cell_row b6]; exact ⟨_, rfl⟩
  have H7 := hide hw7
  have F8 := hide (fz_row b7 12)
  have G8 : Hid (∃ q, w7.cell? ⟨Y, 12, none⟩ = some q) := by rw [cell_row b7]; exact ⟨_, rfl⟩
  have H8 := hide hw8
  have g2 := hide g2
  clear h ok hjb hon e0 hv hvr hj kk o8 bb okn hpt rr NO hw1 hw2 hw3 hw4 hw5 hw6 hw7 hw8 b0 b1 b2 b3 b4 b5 b6 b7 b8
  go_enter Tryd.func29, Tryd.ntmps29
  go_upto_region 7 with fail
  clear c5 y1 y2
  obtain ⟨q1, g3⟩ := G1.out
  have f3 := F1.out
  go_upto_region 8 with fail
  rw [← H1.out]
  clear g3 f3
  have g3 := g2.out
  have f3 := F2.out
  go_upto_region 9 with fail
  rw [← H2.out]
  clear g3 f3
  obtain ⟨q3, g3⟩ := G3.out
  have f3 := F3.out
  go_upto_region 10 with fail
  rw [← H3.out]
  clear g3 f3
  obtain ⟨q4, g3⟩ := G4.out
  have f3 := F4.out
  go_upto_region 11 with fail
  rw [← H4.out]
  clear g3 f3
  obtain ⟨q5, g3⟩ := G5.out
  have f3 := F5.out
  go_upto_region 12 with fail
  rw [← H5.out]
  clear g3 f3
  obtain ⟨q6, g3⟩ := G6.out
  have f3 := F6.out
  go_upto_region 13 with fail
  rw [← H6.out]
  clear g3 f3
  obtain ⟨q7, g3⟩ := G7.out
  have f3 := F7.out
  go_upto_region 14 with fail
  rw [← H7.out]
  clear g3 f3
  obtain ⟨q8, g3⟩ := G8.out
  have f3 := F8.out
  go_upto_region 15 with fail
  rw [← H8.out]
  clear g3 f3
  go_wp2_with fail
  refine Calls.mono QN.out ?_
  rintro e W9 ⟨u, rfl, o9, l9⟩
  have O9 := hide o9
  have L9 := hide (L8.out.trans l9)
  clear o9 l9 QN
  go_wp2_with fail
  go_ret2
  first | refine ⟨_, { Z with rd := .slice none 0 0, ofv := .slice none 0 0, lo := .slice none 0 0 }, rfl, ?_, ?_⟩ | refine ⟨_, rfl, ?_, { Z with rd := .slice none 0 0, ofv := .slice none 0 0, lo := .slice none 0 0 }, ?_⟩
  · rw [BG.out.2]
    exact own_base O9.out L8.out.kp.size
  · rw [BG.out.1]
    exact L9.out
end Go.Proofs.YtpoegknmkbnjlaaDoor.Cn
