import Derived.Test.YtndfhpfhgdamgaaGreatDoorRuEnd
import Derived.Shelf.Strings.Builder1
import Derived.Shelf.Strings.Builder2
import Derived.Shelf.Small.Bits
import Derived.Shelf.Small.Strs
import Derived.Shelf.Small.Wraps
import Derived.Shelf.Strings.BuilderF
import Derived.Shelf.Strings.Builder2Cap
import Derived.Shelf.Strconv.Itoa0
import Derived.Shelf.LaysM
import Derived.Shelf.Strconv.Clone
import Derived.Shelf.Strings.Search1
import Derived.Shelf.Sort.Plain
import Derived.Shelf.Strings.Prefix
import Derived.Shelf.Bits.Mul64
import Derived.Shelf.Strings.Repeat
import Derived.Shelf.Slices.Turned
import Derived.Shelf.Slices.Clone
import Derived.Shelf.Slices.SearchI
import Derived.Shelf.Slices.In.SortNone
import Derived.Shelf.SlicesE.Clone
import Derived.Ground.Names2Prog
import Derived.Test.YtndfhpfhgdamgaaGreatDoorGDgPlain
import Derived.Test.YtndfhpfhgdamgaaGreatDoorProg
namespace Go.Proofs.YtndfhpfhgdamgaaGreatDoor.Cn
open Go.RowKit
def goP (P : List Gp) (now : Int) (p : Gp) : List Gp := if p.g.asked = p.g.ow.length then goneP P p.g.tk else askdP P p.g.tk now
def goM (now : Int) (g : Gt) : List Mg := if g.asked = g.ow.length then [] else [getMg (askG now g)]
def goE (g : Gt) : List Oc := if g.asked = g.ow.length then [noOc g] else []
theorem exec_blR {w : World} {op : Oper} {ρ : Operand → Value} (ty : TypeId) (parts : Array (Nat × Operand)) (ho : op.op = .build ty parts) (A : Array Value) (hb : Tryz.prog.built ty (parts.map fun (i, x) => (i, ρ x)).toList = some A) : (execOp ρ op).run Tryz.prog w = .ok (.value (.agg A)) w := by
  unfold execOp
  simp only [ho, Sem.run_bind, Sem.run_pure]
  rw [run_build w ty _ A hb]
  rfl
set_option maxHeartbeats 8000000 in
set_option maxRecDepth 100000 in
set_option linter.unusedSimpArgs false in
set_option linter.unusedVariables false in
theorem goOn_end {w : World} {S N : Nat → Prop} {R base Nb : Nat} {c : Cl} {P : List Gp} {v : Rv} {L : List Mg} {E : List Oc} {p : Gp} (h : RtAt w S R c P v) (hp : p ∈ P) (hn : NwAt w base N Nb L E) (hE : E.length ≤ 1000000) (ht : tkOk p.g.tk) (hb : base ≤ w.heap.size) (ha : p.g.asked = p.g.ow.length) (hl : p.g.ow.length ≤ 300) :
    Calls Tryz.prog 47 #[.pointer (some ⟨R, 0, none⟩), .pointer (some ⟨p.b, 0, none⟩), .pointer (some ⟨Nb, 0, none⟩)] w fun e w' => e = .returned (.tuple #[]) ∧ ∃ S' N', RtAt w' S' R c (goneP P p.g.tk) v ∧ NwAt w' base N' Nb L (E ++ [noOc p.g]) ∧ Kp w w' (fun k => S k ∨ N k) ∧ (∀ k, S' k → S k) ∧ (∀ k, N' k → N k ∨ w.heap.size ≤ k) := by
  have gp : GpAt w p := by
    obtain ⟨D, M, S1, Kb, ao, nb, no, ncap, pv, hx, hS⟩ := h
    exact hx.gts p hp
  have c2 := gp.cells.2.2.1
  have c3 := gp.cells.2.2.2.1
  rw [ha] at c3
  have EN : Hid (∀ n, Calls Tryz.prog 70 #[.pointer (some ⟨R, 0, none⟩), .pointer (some ⟨p.b, 0, none⟩), .agg (ocV ⟨0, ⟨#[]⟩, 171, -1, 0, ⟨#[]⟩⟩), .pointer (some ⟨Nb, 0, none⟩)] (w.drewN n) fun e w' => e = .returned (.tuple #[]) ∧ ∃ S' N', RtAt w' S' R c (goneP P p.g.tk) v ∧ NwAt w' base N' Nb L (E ++ [noOc p.g]) ∧ Kp w w' (fun k => S k ∨ N k) ∧ (∀ k, S' k → S k) ∧ (∀ k, N' k → N k ∨ w.heap.size ≤ k)) := fun n => by
    have kd := (Kp.refl w non).drewN n
    refine Calls.mono (end_any (h.kp kd (fun _ _ f => f)) hp (hn.kp kd (fun _ _ f => f)) ⟨0, ⟨#[]⟩, 171, -1, 0, ⟨#[]⟩⟩ hE ht hb) ?_
    rintro e w' ⟨rfl, S', N', a1, a2, a3, a4, a5⟩
    exact ⟨rfl, S', N', a1, a2, (kd.mono (fun _ f => f.elim)).trans a3 (fun _ e => Or.inl e), a4, a5⟩
  generalize p.g.ow.length = n at *
  generalize p.b = pb at *
  generalize p.c = pc at *
  clear gp
  go_enter Tryz.func47, Tryz.ntmps47
  go_wp2_with fail
  go_quiet (fail)
  go_wp2_with fail
  refine Calls.mono (EN.out _) ?_
  rintro e W1 ⟨rfl, S', N', a1, a2, a3, a4, a5⟩
  go_wp2_with fail
  refine bodyPost_ret (results_none rfl _ _ _) rfl ?_
  exact ⟨rfl, S', N', a1, a2, a3, a4, a5⟩
set_option maxHeartbeats 8000000 in
set_option maxRecDepth 100000 in
set_option linter.unusedSimpArgs false in
set_option linter.unusedVariables false in
theorem goOn_ask {w : World} {S N : Nat → Prop} {R base Nb : Nat} {c : Cl} {P : List Gp} {v : Rv} {L : List Mg} {E : List Oc} {p : Gp} (h : RtAt w S R c P v) (hp : p ∈ P) (hn : NwAt w base N Nb L E) (hL : L.length ≤ 1000000) (hb : base ≤ w.heap.size) (ha : p.g.asked < p.g.ow.length) (hl : p.g.ow.length ≤ 300) :
    Calls Tryz.prog 47 #[.pointer (some ⟨R, 0, none⟩), .pointer (some ⟨p.b, 0, none⟩), .pointer (some ⟨Nb, 0, none⟩)] w fun e w' => e = .returned (.tuple #[]) ∧ ∃ S' N', RtAt w' S' R c (askdP P p.g.tk v.now) v ∧ NwAt w' base N' Nb (L ++ [getMg (askG v.now p.g)]) E ∧ Kp w w' (fun k => S k ∨ N k) ∧ (∀ k, S' k → S k) ∧ (∀ k, N' k → N k ∨ w.heap.size ≤ k) := by
  have AP := h.apart hn
  obtain ⟨D, M, S1, Kb, ao, nb, no, ncap, pv, hx, hS⟩ := h
  obtain ⟨vo, ve, hnx, hN⟩ := hn
  obtain ⟨oa, oc, hvo⟩ := own_sl hnx.out
  subst hvo
  have gp := hx.gts p hp
  have AP2 : Hid (∀ k, RtS R M S1 Kb P k → ¬ NwS Nb (.slice oa L.length oc) ve k) := fun k h1 h2 => AP k ((hS k).2 h1) ((hN k).2 h2)
  have hpS : RtS R M S1 Kb P p.b := Or.inr (Or.inr (Or.inr (Or.inr ⟨p, hp, Or.inl rfl⟩)))
  have SP : Hid (S p.b) := (hS _).2 hpS
  have PN : Hid (∀ k, NwS Nb (.slice oa L.length oc) ve k → k ≠ p.b) := fun k hk e => AP2.out k (e ▸ hpS) hk
  have c2 := gp.cells.2.2.1
  have c3 := gp.cells.2.2.2.1
  have c4 := gp.cells.2.2.2.2
  have f3 := gp.fz 3
  have f4 := gp.fz 4
  have r2 := hx.cells.2.2.2.2.1
  obtain ⟨n1, n2, n3, n4, n5, n6, n7, n8, n9⟩ := hx.ne_b hp
  obtain ⟨x1, g1⟩ := hx.ask hp
  have e1 : wrap64 ((p.g.asked : Int) + 1) = (p.g.asked : Int) + 1 := wrap_in (by omega) (by omega)
  have ky : ∀ m, Kp w (((w.drewN m).setCell ⟨p.b, 3, none⟩ (.int .i64 ((p.g.asked : Int) + 1))).setCell ⟨p.b, 4, none⟩ (.int .i64 v.now)) (fun k => k = p.b) := fun m => ((((Kp.refl w (fun k => k = p.b)).drewN m).set (Or.inl rfl) _ _).set (Or.inl rfl) _ _)
  have XA : Hid (∀ m, RtX (((w.drewN m).setCell ⟨p.b, 3, none⟩ (.int .i64 ((p.g.asked : Int) + 1))).setCell ⟨p.b, 4, none⟩ (.int .i64 v.now)) R c (askdP P p.g.tk v.now) v D M S1 Kb ao nb no ncap pv ∧ GpAt (((w.drewN m).setCell ⟨p.b, 3, none⟩ (.int .i64 ((p.g.asked : Int) + 1))).setCell ⟨p.b, 4, none⟩ (.int .i64 v.now)) { p with g := askG v.now p.g }) := fun m => (hx.kp ((Kp.refl w non).drewN m) (fun _ _ f => f)).ask hp
  have KA := hide ky
  have NA : Hid (∀ m, NwX (((w.drewN m).setCell ⟨p.b, 3, none⟩ (.int .i64 ((p.g.asked : Int) + 1))).setCell ⟨p.b, 4, none⟩ (.int .i64 v.now)) base Nb (.slice oa L.length oc) ve L E) := fun m => hnx.kp (ky m) (fun k hk => PN.out k hk)
  have LA : Hid (∀ (X : World), GpAt X { p with g := askG v.now p.g } → Calls Tryz.prog 52 #[.pointer (some ⟨p.b, 0, none⟩)] X fun e w' => e = .returned (.int .i64 (lastA (askG v.now p.g))) ∧ ∃ n, w' = X.drewN n) := fun X hX => lastAsked_any hX (by show 1 ≤ p.g.asked + 1; omega) (by show p.g.asked + 1 ≤ _; exact ha) hl
  have HS := hide hS
  have HN := hide hN
  obtain ⟨m, hm⟩ : ∃ m, m = getMg (askG v.now p.g) := ⟨_, rfl⟩
  have HM : Hid (m = ⟨11, 65, lastA (askG v.now p.g), p.g.tk, 0, 0, 0, 0, 0, p.g.key, ⟨#[]⟩⟩) := hm
  rw [← hm]
  have GG : Hid (∀ X, GpAt X { p with g := askG v.now p.g } → X.cell? ⟨p.b, 0, none⟩ = some (.int .i64 p.g.tk) ∧ X.cell? ⟨p.b, 1, none⟩ = some (.string p.g.key)) := fun X hX => ⟨hX.cells.1, hX.cells.2.1⟩
  have hne : ((p.g.asked : Int) == (p.g.ow.length : Int)) = false := by simp; omega
  have hne2 : (p.g.asked == p.g.ow.length) = false := by simp; omega
  have hne3 : ¬ p.g.asked = p.g.ow.length := by omega
  have nRb : ¬ p.b = R := fun e => n1 e.symm
  generalize hla : lastA (askG v.now p.g) = la at *
  generalize hgp : ({ p with g := askG v.now p.g } : Gp) = p' at *
  generalize p.g.tk = tk at *
  generalize p.g.key = key at *
  generalize p.g.asked = aa at *
  generalize p.g.ow.length = n at *
  generalize p.b = pb at *
  generalize p.c = pc at *
  generalize hnow : v.now = now at *
  clear hm ky gp hx hnx hS hN AP x1 g1 hpS hp hla hgp n1 n2 n3 n4 n5 n6 n7 n8 n9
  go_enter Tryz.func47, Tryz.ntmps47
  go_wp2_with fail
  go_quiet (fail)
  go_upto_region 4 with fail
  obtain ⟨Y1, hY1⟩ : ∃ Y1, Y1 = ((w.drewN nq).setCell ⟨pb, 3, none⟩ (.int .i64 ((aa : Int) + 1))).setCell ⟨pb, 4, none⟩ (.int .i64 now) := ⟨_, rfl⟩
  have X1 : Hid (RtX Y1 R c (askdP P tk now) v D M S1 Kb ao nb no ncap pv) := by rw [hY1]; exact (XA.out nq).1
  have G1 : Hid (GpAt Y1 p') := by rw [hY1]; exact (XA.out nq).2
  have KY1 : Hid (Kp w Y1 (fun k => k = pb)) := by rw [hY1]; exact KA.out nq
  have N1 : Hid (NwX Y1 base Nb (.slice oa L.length oc) ve L E) := by rw [hY1]; exact NA.out nq
  rw [← hY1]
  clear hY1 XA KA NA c2 c3 c4 f3 f4 r2 hne hne2 hne3 e1
  have C1 := hide (GG.out Y1 G1.out)
  have o1 : Y1.cell? ⟨Nb, 0, none⟩ = some (.slice oa L.length oc) := by rw [cell_row N1.out.blk]; rfl
  have LL : Hid (Calls Tryz.prog 52 #[.pointer (some ⟨pb, 0, none⟩)] Y1.drew fun e w' => e = .returned (.int .i64 la) ∧ ∃ n, w' = (Y1.drew).drewN n) := LA.out _ ⟨G1.out.blk, G1.out.row⟩
  have pl1 : Hid (pb < Y1.heap.size) := World.block_lt_of_cell? Y1 _ C1.out.1
  refine wp_region_held_drew (S := fun X => X.cell? ⟨pb, 0, none⟩ = some (.int .i64 tk) ∧ X.cell? ⟨pb, 1, none⟩ = some (.string key)) (by kernel_rfl) C1.out (fun hHeld => ?_)
  refine wpAnyH_take (i := 0) (v := (.pointer (some ⟨Nb, 0, none⟩))) rfl (by kernel_rfl) (by kernel_rfl) (by kernel_rfl) (fun _ _ _ h => h) (Or.inl ⟨by rfl, ?_⟩) (by assumption) ?_
  · intro w' hSw
    (try dsimp only at hSw)
    go_simp
  (try simp only [Act.put, List.getElem_toArray, List.getElem_cons_zero, List.getElem_cons_succ, List.setIfInBounds_toArray, List.set_cons_zero, List.set_cons_succ])
  refine wpAnyH_take (i := 1) (v := (.pointer (some ⟨Nb, 0, none⟩))) rfl (by kernel_rfl) (by kernel_rfl) (by kernel_rfl) (fun _ _ _ h => h) (Or.inl ⟨by rfl, ?_⟩) (by assumption) ?_
  · intro w' hSw
    (try dsimp only at hSw)
    go_simp
  (try simp only [Act.put, List.getElem_toArray, List.getElem_cons_zero, List.getElem_cons_succ, List.setIfInBounds_toArray, List.set_cons_zero, List.set_cons_succ])
  refine wpAnyH_take (i := 2) (v := (.pointer (some ⟨Nb, 0, none⟩))) rfl (by kernel_rfl) (by kernel_rfl) (by kernel_rfl) (fun _ _ _ h => h) (Or.inl ⟨by rfl, ?_⟩) (by assumption) ?_
  · intro w' hSw
    (try dsimp only at hSw)
    go_simp
  (try simp only [Act.put, List.getElem_toArray, List.getElem_cons_zero, List.getElem_cons_succ, List.setIfInBounds_toArray, List.set_cons_zero, List.set_cons_succ])
  refine wpAnyH_take (i := 3) (v := (.pointer (some ⟨Nb, 0, none⟩))) rfl (by kernel_rfl) (by kernel_rfl) (by kernel_rfl) (fun _ _ _ h => h) (Or.inl ⟨by rfl, ?_⟩) (by assumption) ?_
  · intro w' hSw
    (try dsimp only at hSw)
    go_simp
  (try simp only [Act.put, List.getElem_toArray, List.getElem_cons_zero, List.getElem_cons_succ, List.setIfInBounds_toArray, List.set_cons_zero, List.set_cons_succ])
  refine wpAnyH_take (i := 5) (v := (.pointer (some ⟨pb, 0, none⟩))) rfl (by kernel_rfl) (by kernel_rfl) (by kernel_rfl) (fun _ _ _ h => h) (Or.inl ⟨by rfl, ?_⟩) (by assumption) ?_
  · intro w' hSw
    (try dsimp only at hSw)
    go_simp
  (try simp only [Act.put, List.getElem_toArray, List.getElem_cons_zero, List.getElem_cons_succ, List.setIfInBounds_toArray, List.set_cons_zero, List.set_cons_succ])
  refine wpAnyH_take (i := 7) (v := (.pointer (some ⟨pb, 0, none⟩))) rfl (by kernel_rfl) (by kernel_rfl) (by kernel_rfl) (fun _ _ _ h => h) (Or.inl ⟨by rfl, ?_⟩) (by assumption) ?_
  · intro w' hSw
    (try dsimp only at hSw)
    go_simp
  (try simp only [Act.put, List.getElem_toArray, List.getElem_cons_zero, List.getElem_cons_succ, List.setIfInBounds_toArray, List.set_cons_zero, List.set_cons_succ])
  refine wpAnyH_take (i := 8) (v := (.pointer (some ⟨pb, 0, none⟩))) rfl (by kernel_rfl) (by kernel_rfl) (by kernel_rfl) (fun _ _ _ h => h) (Or.inl ⟨by rfl, ?_⟩) (by assumption) ?_
  · intro w' hSw
    (try dsimp only at hSw)
    go_simp
  (try simp only [Act.put, List.getElem_toArray, List.getElem_cons_zero, List.getElem_cons_succ, List.setIfInBounds_toArray, List.set_cons_zero, List.set_cons_succ])
  refine wpAnyH_take (i := 9) (v := (.pointer (some ⟨pb, 0, none⟩))) rfl (by kernel_rfl) (by kernel_rfl) (by kernel_rfl) (fun _ _ _ h => h) (Or.inl ⟨by rfl, ?_⟩) (by assumption) ?_
  · intro w' hSw
    (try dsimp only at hSw)
    go_simp
  (try simp only [Act.put, List.getElem_toArray, List.getElem_cons_zero, List.getElem_cons_succ, List.setIfInBounds_toArray, List.set_cons_zero, List.set_cons_succ])
  refine wpAnyH_take (i := 10) (v := (.int .i64 tk)) rfl (by kernel_rfl) (by kernel_rfl) (by kernel_rfl) (fun _ _ _ h => h) (Or.inl ⟨by rfl, ?_⟩) (by assumption) ?_
  · intro w' hSw
    (try dsimp only at hSw)
    (have hs1 := hSw.1; go_simp)
  (try simp only [Act.put, List.getElem_toArray, List.getElem_cons_zero, List.getElem_cons_succ, List.setIfInBounds_toArray, List.set_cons_zero, List.set_cons_succ])
  refine wpAnyH_take (i := 11) (v := (.pointer (some ⟨pb, 0, none⟩))) rfl (by kernel_rfl) (by kernel_rfl) (by kernel_rfl) (fun _ _ _ h => h) (Or.inl ⟨by rfl, ?_⟩) (by assumption) ?_
  · intro w' hSw
    (try dsimp only at hSw)
    go_simp
  (try simp only [Act.put, List.getElem_toArray, List.getElem_cons_zero, List.getElem_cons_succ, List.setIfInBounds_toArray, List.set_cons_zero, List.set_cons_succ])
  refine wpAnyH_take (i := 12) (v := (.pointer (some ⟨pb, 0, none⟩))) rfl (by kernel_rfl) (by kernel_rfl) (by kernel_rfl) (fun _ _ _ h => h) (Or.inl ⟨by rfl, ?_⟩) (by assumption) ?_
  · intro w' hSw
    (try dsimp only at hSw)
    go_simp
  (try simp only [Act.put, List.getElem_toArray, List.getElem_cons_zero, List.getElem_cons_succ, List.setIfInBounds_toArray, List.set_cons_zero, List.set_cons_succ])
  refine wpAnyH_take (i := 13) (v := (.pointer (some ⟨pb, 1, none⟩))) rfl (by kernel_rfl) (by kernel_rfl) (by kernel_rfl) (fun _ _ _ h => h) (Or.inl ⟨by rfl, ?_⟩) (by assumption) ?_
  · intro w' hSw
    (try dsimp only at hSw)
    go_simp
  (try simp only [Act.put, List.getElem_toArray, List.getElem_cons_zero, List.getElem_cons_succ, List.setIfInBounds_toArray, List.set_cons_zero, List.set_cons_succ])
  refine wpAnyH_take (i := 14) (v := (.string key)) rfl (by kernel_rfl) (by kernel_rfl) (by kernel_rfl) (fun _ _ _ h => h) (Or.inl ⟨by rfl, ?_⟩) (by assumption) ?_
  · intro w' hSw
    (try dsimp only at hSw)
    (have hs2 := hSw.2; go_simp)
  (try simp only [Act.put, List.getElem_toArray, List.getElem_cons_zero, List.getElem_cons_succ, List.setIfInBounds_toArray, List.set_cons_zero, List.set_cons_succ])
  refine wpAnyH_ready (rs := [4, 6]) (by kernel_rfl) (by simp) ?_
  refine AllReadyH.cons rfl (fun K hK => ?_) (AllReadyH.cons rfl (fun K hK => ?_) AllReadyH.nil)
  · go_simp
    refine hK.out _ _ (C1.out) (fun hHeld => ?_)
    clear hK
    (try simp only [Act.put, List.setIfInBounds_toArray, List.set_cons_zero, List.set_cons_succ])
    refine wpAnyH_ready (rs := [6]) (by kernel_rfl) (by simp) ?_
    refine AllReadyH.cons rfl (fun K hK => ?_) AllReadyH.nil
    go_simp
    refine Calls.mono LL.out ?_
    rintro e W2 ⟨rfl, n2, rfl⟩
    obtain ⟨Y2, hY2⟩ : ∃ Y2, Y2 = (Y1.drew).drewN n2 := ⟨_, rfl⟩
    have ky2 : Kp Y1 Y2 non := by rw [hY2]; exact ((Kp.refl Y1 non).drew).drewN n2
    obtain ⟨J, hJ⟩ : ∃ J, J = Y2.heap.size := ⟨_, rfl⟩
    obtain ⟨Y3, hY3⟩ : ∃ Y3, Y3 = Y2.alloc (.cells (mgV m) 58) := ⟨_, rfl⟩
    have ky3 : Kp Y1 Y3 non := by rw [hY3]; exact ky2.alloc _
    have J3 : Hid (Y3.heap[J]? = some (.cells (mgV m) 58)) := by rw [hY3, hJ]; exact heap_last _ _
    have N3 := hide (N1.out.kp ky3 (fun _ _ f => f))
    have X3 := hide (X1.out.kp ky3 (fun _ _ f => f))
    have CY2 : Hid (Y2.cell? ⟨pb, 0, none⟩ = some (.int .i64 tk) ∧ Y2.cell? ⟨pb, 1, none⟩ = some (.string key)) := ⟨(ky2.cell pl1.out (fun f => f)).trans C1.out.1, (ky2.cell pl1.out (fun f => f)).trans C1.out.2⟩
    have D3 : Hid (Y3.cell? ⟨pb, 0, none⟩ = some (.int .i64 tk) ∧ Y3.cell? ⟨pb, 1, none⟩ = some (.string key)) := ⟨(ky3.cell pl1.out (fun f => f)).trans C1.out.1, (ky3.cell pl1.out (fun f => f)).trans C1.out.2⟩
    have OY2 : Hid (Y2.cell? ⟨Nb, 0, none⟩ = some (.slice oa L.length oc)) := (ky2.cell (blk_lt N1.out.blk) (fun f => f)).trans o1
    have C3 : Hid (Y3.cell? ⟨Nb, 0, none⟩ = some (.slice oa L.length oc)) := (ky3.cell (blk_lt N1.out.blk) (fun f => f)).trans o1
    have KY3 := hide ky3
    have pl : Hid (pb < Y3.heap.size) := Nat.lt_of_lt_of_le pl1.out ky3.size
    have hJb : Hid (base ≤ Y3.heap.size) := Nat.le_trans hb (Nat.le_trans KY1.out.size ky3.size)
    rw [← hY2]
    clear hY2 ky2 ky3 o1 LL
    refine hK.out _ _ (CY2.out) (fun hHeld => ?_)
    clear hK
    (try simp only [Act.put, List.setIfInBounds_toArray, List.set_cons_zero, List.set_cons_succ])
    refine wpAnyH_take (i := 15) (v := (.agg (mgV m))) rfl (by kernel_rfl) (by kernel_rfl) (by kernel_rfl) (fun _ _ _ h => h) (Or.inl ⟨by rfl, ?_⟩) (by assumption) ?_
    · intro w' hSw
      (try dsimp only at hSw)
      (exact exec_blR 58 _ rfl _ (by rw [HM.out]; kernel_rfl))
    (try simp only [Act.put, List.getElem_toArray, List.getElem_cons_zero, List.getElem_cons_succ, List.setIfInBounds_toArray, List.set_cons_zero, List.set_cons_succ])
    refine wpAnyH_ready (rs := [16]) (by kernel_rfl) (by simp) ?_
    refine AllReadyH.cons rfl (fun K hK => ?_) AllReadyH.nil
    refine wp_bsM (.tmp 50) rfl m rfl ?_
    rw [← hY3]
    clear hY3
    refine hK.out _ _ (D3.out) (fun hHeld => ?_)
    clear hK
    (try simp only [Act.put, List.setIfInBounds_toArray, List.set_cons_zero, List.set_cons_succ])
    refine wpAnyH_ready (rs := [17]) (by kernel_rfl) (by simp) ?_
    refine AllReadyH.cons rfl (fun K hK => ?_) AllReadyH.nil
    refine wp_apM (.tmp 39) (.tmp 51) rfl base (.slice oa L.length oc) L rfl N3.out.out J m (by rw [hJ]; rfl) J3.out (by omega) hJb.out ?_
    intro vo' Y4 ho hg hnb
    obtain ⟨e4, n5, k5, s5⟩ := N3.out.app ho hg hnb
    obtain ⟨ba, cp, rfl⟩ := own_sl ho
    have kg := Kp.of_grown hg
    have c4 : Y4.cell? ⟨Nb, 0, none⟩ = some (.slice oa L.length oc) := (kg.cell (blk_lt N3.out.blk) (fun e => N3.out.ne_out e.symm)).trans C3.out
    have npb : Hid (∀ k, NwS Nb (.slice oa L.length oc) ve k → k ≠ pb) := PN.out
    have D4 : Hid (Y4.cell? ⟨pb, 0, none⟩ = some (.int .i64 tk) ∧ Y4.cell? ⟨pb, 1, none⟩ = some (.string key)) := ⟨(kg.cell pl.out (fun e => npb.out pb (Or.inr (Or.inl e.symm)) rfl)).trans D3.out.1, (kg.cell pl.out (fun e => npb.out pb (Or.inr (Or.inl e.symm)) rfl)).trans D3.out.2⟩
    have ks : Kp Y4 (Y4.setCell ⟨Nb, 0, none⟩ (.slice ba (L.length + 1) cp)) (fun k => k = Nb) := (Kp.refl Y4 (fun k => k = Nb)).set (Or.inl rfl) _ _
    have pl4 : pb < Y4.heap.size := Nat.lt_of_lt_of_le pl.out kg.size
    have D5 : Hid ((Y4.setCell ⟨Nb, 0, none⟩ (.slice ba (L.length + 1) cp)).cell? ⟨pb, 0, none⟩ = some (.int .i64 tk) ∧ (Y4.setCell ⟨Nb, 0, none⟩ (.slice ba (L.length + 1) cp)).cell? ⟨pb, 1, none⟩ = some (.string key)) := ⟨(ks.cell pl4 (fun e => npb.out pb (Or.inl e) rfl)).trans D4.out.1, (ks.cell pl4 (fun e => npb.out pb (Or.inl e) rfl)).trans D4.out.2⟩
    have f4 : Y4.frozen? ⟨Nb, 0, none⟩ = false := fz_row (e4.trans N3.out.blk) 0
    have X5 := hide (X3.out.kp k5 (fun k hk e => AP2.out k (RtS.ask.1 hk) e))
    have N5 := hide n5
    have K5 := hide k5
    have S5 := hide s5
    clear ho hg hnb n5 k5 s5 kg e4 J3 ks pl4
    refine hK.out _ _ (D4.out) (fun hHeld => ?_)
    clear hK
    (try simp only [Act.put, List.setIfInBounds_toArray, List.set_cons_zero, List.set_cons_succ])
    refine wpAnyH_take (i := 18) (v := (.pointer (some ⟨Nb, 0, none⟩))) rfl (by kernel_rfl) (by kernel_rfl) (by kernel_rfl) (fun _ _ _ h => h) (Or.inl ⟨by rfl, ?_⟩) (by assumption) ?_
    · intro w' hSw
      (try dsimp only at hSw)
      go_simp
    (try simp only [Act.put, List.getElem_toArray, List.getElem_cons_zero, List.getElem_cons_succ, List.setIfInBounds_toArray, List.set_cons_zero, List.set_cons_succ])
    refine wpAnyH_take (i := 19) (v := (.pointer (some ⟨Nb, 0, none⟩))) rfl (by kernel_rfl) (by kernel_rfl) (by kernel_rfl) (fun _ _ _ h => h) (Or.inl ⟨by rfl, ?_⟩) (by assumption) ?_
    · intro w' hSw
      (try dsimp only at hSw)
      go_simp
    (try simp only [Act.put, List.getElem_toArray, List.getElem_cons_zero, List.getElem_cons_succ, List.setIfInBounds_toArray, List.set_cons_zero, List.set_cons_succ])
    refine wpAnyH_ready (rs := [20]) (by kernel_rfl) (by simp) ?_
    refine AllReadyH.cons rfl (fun K hK => ?_) AllReadyH.nil
    go_simp
    refine hK.out _ _ (D5.out) (fun hHeld => ?_)
    clear hK
    (try simp only [Act.put, List.setIfInBounds_toArray, List.set_cons_zero, List.set_cons_succ])
    refine wpAnyH_done (by kernel_rfl) ?_ _
    refine bodyPost_end (results_none rfl _ _ _) rfl ?_
    refine ⟨rfl, RtS R M S1 Kb (askdP P tk now), NwS Nb (.slice ba (L.length + 1) cp) ve, ⟨D, M, S1, Kb, ao, nb, no, ncap, pv, X5.out, fun _ => Iff.rfl⟩, ⟨_, _, N5.out, fun _ => Iff.rfl⟩, ?_, fun k hk => (HS.out k).2 (RtS.ask.1 hk), fun k hk => ?_⟩
    · have a1 : Kp w Y3 (fun k => S k ∨ N k) := (KY1.out.mono (T := fun k => S k ∨ N k) (fun k e => Or.inl (by rw [e]; exact SP.out))).trans KY3.out (fun k e => e.elim)
      exact a1.trans K5.out (fun k e => Or.inl (Or.inr ((HN.out k).2 e)))
    · have h1 := KY1.out.size
      have h3 := KY3.out.size
      rcases S5.out k hk with q | q
      · exact Or.inl ((HN.out k).2 q)
      · exact Or.inr (by omega)
  · go_simp
    refine Calls.mono LL.out ?_
    rintro e W2 ⟨rfl, n2, rfl⟩
    obtain ⟨Y2, hY2⟩ : ∃ Y2, Y2 = (Y1.drew).drewN n2 := ⟨_, rfl⟩
    have ky2 : Kp Y1 Y2 non := by rw [hY2]; exact ((Kp.refl Y1 non).drew).drewN n2
    obtain ⟨J, hJ⟩ : ∃ J, J = Y2.heap.size := ⟨_, rfl⟩
    obtain ⟨Y3, hY3⟩ : ∃ Y3, Y3 = Y2.alloc (.cells (mgV m) 58) := ⟨_, rfl⟩
    have ky3 : Kp Y1 Y3 non := by rw [hY3]; exact ky2.alloc _
    have J3 : Hid (Y3.heap[J]? = some (.cells (mgV m) 58)) := by rw [hY3, hJ]; exact heap_last _ _
    have N3 := hide (N1.out.kp ky3 (fun _ _ f => f))
    have X3 := hide (X1.out.kp ky3 (fun _ _ f => f))
    have CY2 : Hid (Y2.cell? ⟨pb, 0, none⟩ = some (.int .i64 tk) ∧ Y2.cell? ⟨pb, 1, none⟩ = some (.string key)) := ⟨(ky2.cell pl1.out (fun f => f)).trans C1.out.1, (ky2.cell pl1.out (fun f => f)).trans C1.out.2⟩
    have D3 : Hid (Y3.cell? ⟨pb, 0, none⟩ = some (.int .i64 tk) ∧ Y3.cell? ⟨pb, 1, none⟩ = some (.string key)) := ⟨(ky3.cell pl1.out (fun f => f)).trans C1.out.1, (ky3.cell pl1.out (fun f => f)).trans C1.out.2⟩
    have OY2 : Hid (Y2.cell? ⟨Nb, 0, none⟩ = some (.slice oa L.length oc)) := (ky2.cell (blk_lt N1.out.blk) (fun f => f)).trans o1
    have C3 : Hid (Y3.cell? ⟨Nb, 0, none⟩ = some (.slice oa L.length oc)) := (ky3.cell (blk_lt N1.out.blk) (fun f => f)).trans o1
    have KY3 := hide ky3
    have pl : Hid (pb < Y3.heap.size) := Nat.lt_of_lt_of_le pl1.out ky3.size
    have hJb : Hid (base ≤ Y3.heap.size) := Nat.le_trans hb (Nat.le_trans KY1.out.size ky3.size)
    rw [← hY2]
    clear hY2 ky2 ky3 o1 LL
    refine hK.out _ _ (CY2.out) (fun hHeld => ?_)
    clear hK
    (try simp only [Act.put, List.setIfInBounds_toArray, List.set_cons_zero, List.set_cons_succ])
    refine wpAnyH_take (i := 15) (v := (.agg (mgV m))) rfl (by kernel_rfl) (by kernel_rfl) (by kernel_rfl) (fun _ _ _ h => h) (Or.inl ⟨by rfl, ?_⟩) (by assumption) ?_
    · intro w' hSw
      (try dsimp only at hSw)
      (exact exec_blR 58 _ rfl _ (by rw [HM.out]; kernel_rfl))
    (try simp only [Act.put, List.getElem_toArray, List.getElem_cons_zero, List.getElem_cons_succ, List.setIfInBounds_toArray, List.set_cons_zero, List.set_cons_succ])
    refine wpAnyH_ready (rs := [4, 16]) (by kernel_rfl) (by simp) ?_
    refine AllReadyH.cons rfl (fun K hK => ?_) (AllReadyH.cons rfl (fun K hK => ?_) AllReadyH.nil)
    · have o2 := OY2.out
      go_simp
      clear o2
      refine hK.out _ _ (CY2.out) (fun hHeld => ?_)
      clear hK
      (try simp only [Act.put, List.setIfInBounds_toArray, List.set_cons_zero, List.set_cons_succ])
      refine wpAnyH_ready (rs := [16]) (by kernel_rfl) (by simp) ?_
      refine AllReadyH.cons rfl (fun K hK => ?_) AllReadyH.nil
      refine wp_bsM (.tmp 50) rfl m rfl ?_
      rw [← hY3]
      clear hY3
      refine hK.out _ _ (D3.out) (fun hHeld => ?_)
      clear hK
      (try simp only [Act.put, List.setIfInBounds_toArray, List.set_cons_zero, List.set_cons_succ])
      refine wpAnyH_ready (rs := [17]) (by kernel_rfl) (by simp) ?_
      refine AllReadyH.cons rfl (fun K hK => ?_) AllReadyH.nil
      refine wp_apM (.tmp 39) (.tmp 51) rfl base (.slice oa L.length oc) L rfl N3.out.out J m (by rw [hJ]; rfl) J3.out (by omega) hJb.out ?_
      intro vo' Y4 ho hg hnb
      obtain ⟨e4, n5, k5, s5⟩ := N3.out.app ho hg hnb
      obtain ⟨ba, cp, rfl⟩ := own_sl ho
      have kg := Kp.of_grown hg
      have c4 : Y4.cell? ⟨Nb, 0, none⟩ = some (.slice oa L.length oc) := (kg.cell (blk_lt N3.out.blk) (fun e => N3.out.ne_out e.symm)).trans C3.out
      have npb : Hid (∀ k, NwS Nb (.slice oa L.length oc) ve k → k ≠ pb) := PN.out
      have D4 : Hid (Y4.cell? ⟨pb, 0, none⟩ = some (.int .i64 tk) ∧ Y4.cell? ⟨pb, 1, none⟩ = some (.string key)) := ⟨(kg.cell pl.out (fun e => npb.out pb (Or.inr (Or.inl e.symm)) rfl)).trans D3.out.1, (kg.cell pl.out (fun e => npb.out pb (Or.inr (Or.inl e.symm)) rfl)).trans D3.out.2⟩
      have ks : Kp Y4 (Y4.setCell ⟨Nb, 0, none⟩ (.slice ba (L.length + 1) cp)) (fun k => k = Nb) := (Kp.refl Y4 (fun k => k = Nb)).set (Or.inl rfl) _ _
      have pl4 : pb < Y4.heap.size := Nat.lt_of_lt_of_le pl.out kg.size
      have D5 : Hid ((Y4.setCell ⟨Nb, 0, none⟩ (.slice ba (L.length + 1) cp)).cell? ⟨pb, 0, none⟩ = some (.int .i64 tk) ∧ (Y4.setCell ⟨Nb, 0, none⟩ (.slice ba (L.length + 1) cp)).cell? ⟨pb, 1, none⟩ = some (.string key)) := ⟨(ks.cell pl4 (fun e => npb.out pb (Or.inl e) rfl)).trans D4.out.1, (ks.cell pl4 (fun e => npb.out pb (Or.inl e) rfl)).trans D4.out.2⟩
      have f4 : Y4.frozen? ⟨Nb, 0, none⟩ = false := fz_row (e4.trans N3.out.blk) 0
      have X5 := hide (X3.out.kp k5 (fun k hk e => AP2.out k (RtS.ask.1 hk) e))
      have N5 := hide n5
      have K5 := hide k5
      have S5 := hide s5
      clear ho hg hnb n5 k5 s5 kg e4 J3 ks pl4
      refine hK.out _ _ (D4.out) (fun hHeld => ?_)
      clear hK
      (try simp only [Act.put, List.setIfInBounds_toArray, List.set_cons_zero, List.set_cons_succ])
      refine wpAnyH_take (i := 18) (v := (.pointer (some ⟨Nb, 0, none⟩))) rfl (by kernel_rfl) (by kernel_rfl) (by kernel_rfl) (fun _ _ _ h => h) (Or.inl ⟨by rfl, ?_⟩) (by assumption) ?_
      · intro w' hSw
        (try dsimp only at hSw)
        go_simp
      (try simp only [Act.put, List.getElem_toArray, List.getElem_cons_zero, List.getElem_cons_succ, List.setIfInBounds_toArray, List.set_cons_zero, List.set_cons_succ])
      refine wpAnyH_take (i := 19) (v := (.pointer (some ⟨Nb, 0, none⟩))) rfl (by kernel_rfl) (by kernel_rfl) (by kernel_rfl) (fun _ _ _ h => h) (Or.inl ⟨by rfl, ?_⟩) (by assumption) ?_
      · intro w' hSw
        (try dsimp only at hSw)
        go_simp
      (try simp only [Act.put, List.getElem_toArray, List.getElem_cons_zero, List.getElem_cons_succ, List.setIfInBounds_toArray, List.set_cons_zero, List.set_cons_succ])
      refine wpAnyH_ready (rs := [20]) (by kernel_rfl) (by simp) ?_
      refine AllReadyH.cons rfl (fun K hK => ?_) AllReadyH.nil
      go_simp
      refine hK.out _ _ (D5.out) (fun hHeld => ?_)
      clear hK
      (try simp only [Act.put, List.setIfInBounds_toArray, List.set_cons_zero, List.set_cons_succ])
      refine wpAnyH_done (by kernel_rfl) ?_ _
      refine bodyPost_end (results_none rfl _ _ _) rfl ?_
      refine ⟨rfl, RtS R M S1 Kb (askdP P tk now), NwS Nb (.slice ba (L.length + 1) cp) ve, ⟨D, M, S1, Kb, ao, nb, no, ncap, pv, X5.out, fun _ => Iff.rfl⟩, ⟨_, _, N5.out, fun _ => Iff.rfl⟩, ?_, fun k hk => (HS.out k).2 (RtS.ask.1 hk), fun k hk => ?_⟩
      · have a1 : Kp w Y3 (fun k => S k ∨ N k) := (KY1.out.mono (T := fun k => S k ∨ N k) (fun k e => Or.inl (by rw [e]; exact SP.out))).trans KY3.out (fun k e => e.elim)
        exact a1.trans K5.out (fun k e => Or.inl (Or.inr ((HN.out k).2 e)))
      · have h1 := KY1.out.size
        have h3 := KY3.out.size
        rcases S5.out k hk with q | q
        · exact Or.inl ((HN.out k).2 q)
        · exact Or.inr (by omega)
    · skip
      refine wp_bsM (.tmp 50) rfl m rfl ?_
      rw [← hY3]
      clear hY3
      refine hK.out _ _ (D3.out) (fun hHeld => ?_)
      clear hK
      (try simp only [Act.put, List.setIfInBounds_toArray, List.set_cons_zero, List.set_cons_succ])
      refine wpAnyH_ready (rs := [4]) (by kernel_rfl) (by simp) ?_
      refine AllReadyH.cons rfl (fun K hK => ?_) AllReadyH.nil
      have o2 := C3.out
      go_simp
      clear o2
      refine hK.out _ _ (D3.out) (fun hHeld => ?_)
      clear hK
      (try simp only [Act.put, List.setIfInBounds_toArray, List.set_cons_zero, List.set_cons_succ])
      refine wpAnyH_ready (rs := [17]) (by kernel_rfl) (by simp) ?_
      refine AllReadyH.cons rfl (fun K hK => ?_) AllReadyH.nil
      refine wp_apM (.tmp 39) (.tmp 51) rfl base (.slice oa L.length oc) L rfl N3.out.out J m (by rw [hJ]; rfl) J3.out (by omega) hJb.out ?_
      intro vo' Y4 ho hg hnb
      obtain ⟨e4, n5, k5, s5⟩ := N3.out.app ho hg hnb
      obtain ⟨ba, cp, rfl⟩ := own_sl ho
      have kg := Kp.of_grown hg
      have c4 : Y4.cell? ⟨Nb, 0, none⟩ = some (.slice oa L.length oc) := (kg.cell (blk_lt N3.out.blk) (fun e => N3.out.ne_out e.symm)).trans C3.out
      have npb : Hid (∀ k, NwS Nb (.slice oa L.length oc) ve k → k ≠ pb) := PN.out
      have D4 : Hid (Y4.cell? ⟨pb, 0, none⟩ = some (.int .i64 tk) ∧ Y4.cell? ⟨pb, 1, none⟩ = some (.string key)) := ⟨(kg.cell pl.out (fun e => npb.out pb (Or.inr (Or.inl e.symm)) rfl)).trans D3.out.1, (kg.cell pl.out (fun e => npb.out pb (Or.inr (Or.inl e.symm)) rfl)).trans D3.out.2⟩
      have ks : Kp Y4 (Y4.setCell ⟨Nb, 0, none⟩ (.slice ba (L.length + 1) cp)) (fun k => k = Nb) := (Kp.refl Y4 (fun k => k = Nb)).set (Or.inl rfl) _ _
      have pl4 : pb < Y4.heap.size := Nat.lt_of_lt_of_le pl.out kg.size
      have D5 : Hid ((Y4.setCell ⟨Nb, 0, none⟩ (.slice ba (L.length + 1) cp)).cell? ⟨pb, 0, none⟩ = some (.int .i64 tk) ∧ (Y4.setCell ⟨Nb, 0, none⟩ (.slice ba (L.length + 1) cp)).cell? ⟨pb, 1, none⟩ = some (.string key)) := ⟨(ks.cell pl4 (fun e => npb.out pb (Or.inl e) rfl)).trans D4.out.1, (ks.cell pl4 (fun e => npb.out pb (Or.inl e) rfl)).trans D4.out.2⟩
      have f4 : Y4.frozen? ⟨Nb, 0, none⟩ = false := fz_row (e4.trans N3.out.blk) 0
      have X5 := hide (X3.out.kp k5 (fun k hk e => AP2.out k (RtS.ask.1 hk) e))
      have N5 := hide n5
      have K5 := hide k5
      have S5 := hide s5
      clear ho hg hnb n5 k5 s5 kg e4 J3 ks pl4
      refine hK.out _ _ (D4.out) (fun hHeld => ?_)
      clear hK
      (try simp only [Act.put, List.setIfInBounds_toArray, List.set_cons_zero, List.set_cons_succ])
      refine wpAnyH_take (i := 18) (v := (.pointer (some ⟨Nb, 0, none⟩))) rfl (by kernel_rfl) (by kernel_rfl) (by kernel_rfl) (fun _ _ _ h => h) (Or.inl ⟨by rfl, ?_⟩) (by assumption) ?_
      · intro w' hSw
        (try dsimp only at hSw)
        go_simp
      (try simp only [Act.put, List.getElem_toArray, List.getElem_cons_zero, List.getElem_cons_succ, List.setIfInBounds_toArray, List.set_cons_zero, List.set_cons_succ])
      refine wpAnyH_take (i := 19) (v := (.pointer (some ⟨Nb, 0, none⟩))) rfl (by kernel_rfl) (by kernel_rfl) (by kernel_rfl) (fun _ _ _ h => h) (Or.inl ⟨by rfl, ?_⟩) (by assumption) ?_
      · intro w' hSw
        (try dsimp only at hSw)
        go_simp
      (try simp only [Act.put, List.getElem_toArray, List.getElem_cons_zero, List.getElem_cons_succ, List.setIfInBounds_toArray, List.set_cons_zero, List.set_cons_succ])
      refine wpAnyH_ready (rs := [20]) (by kernel_rfl) (by simp) ?_
      refine AllReadyH.cons rfl (fun K hK => ?_) AllReadyH.nil
      go_simp
      refine hK.out _ _ (D5.out) (fun hHeld => ?_)
      clear hK
      (try simp only [Act.put, List.setIfInBounds_toArray, List.set_cons_zero, List.set_cons_succ])
      refine wpAnyH_done (by kernel_rfl) ?_ _
      refine bodyPost_end (results_none rfl _ _ _) rfl ?_
      refine ⟨rfl, RtS R M S1 Kb (askdP P tk now), NwS Nb (.slice ba (L.length + 1) cp) ve, ⟨D, M, S1, Kb, ao, nb, no, ncap, pv, X5.out, fun _ => Iff.rfl⟩, ⟨_, _, N5.out, fun _ => Iff.rfl⟩, ?_, fun k hk => (HS.out k).2 (RtS.ask.1 hk), fun k hk => ?_⟩
      · have a1 : Kp w Y3 (fun k => S k ∨ N k) := (KY1.out.mono (T := fun k => S k ∨ N k) (fun k e => Or.inl (by rw [e]; exact SP.out))).trans KY3.out (fun k e => e.elim)
        exact a1.trans K5.out (fun k e => Or.inl (Or.inr ((HN.out k).2 e)))
      · have h1 := KY1.out.size
        have h3 := KY3.out.size
        rcases S5.out k hk with q | q
        · exact Or.inl ((HN.out k).2 q)
        · exact Or.inr (by omega)
theorem goOn_any {w : World} {S N : Nat → Prop} {R base Nb : Nat} {c : Cl} {P : List Gp} {v : Rv} {L : List Mg} {E : List Oc} {p : Gp} (h : RtAt w S R c P v) (hp : p ∈ P) (hn : NwAt w base N Nb L E) (hL : L.length ≤ 1000000) (hE : E.length ≤ 1000000) (ht : tkOk p.g.tk) (hb : base ≤ w.heap.size) (ha : p.g.asked ≤ p.g.ow.length) (hl : p.g.ow.length ≤ 300) :
    Calls Tryz.prog 47 #[.pointer (some ⟨R, 0, none⟩), .pointer (some ⟨p.b, 0, none⟩), .pointer (some ⟨Nb, 0, none⟩)] w fun e w' => e = .returned (.tuple #[]) ∧ ∃ S' N', RtAt w' S' R c (goP P v.now p) v ∧ NwAt w' base N' Nb (L ++ goM v.now p.g) (E ++ goE p.g) ∧ Kp w w' (fun k => S k ∨ N k) ∧ (∀ k, S' k → S k) ∧ (∀ k, N' k → N k ∨ w.heap.size ≤ k) := by
  unfold goP goM goE
  by_cases e : p.g.asked = p.g.ow.length
  · rw [if_pos e, if_pos e, if_pos e, List.append_nil]
    exact goOn_end h hp hn hE ht hb e hl
  · rw [if_neg e, if_neg e, if_neg e, List.append_nil]
    exact goOn_ask h hp hn hL hb (by omega) hl
end Go.Proofs.YtndfhpfhgdamgaaGreatDoor.Cn
namespace Go.Proofs
open Go.Shelf Go.RowKit
def Tryz.lays189_ren : Go.Shelf.Ren := ⟨fun | 189 => 73 | 125 => 88 | 257 => 87 | 128 => 112 | 129 => 113 | 294 => 103 | 295 => 104 | 296 => 105 | 297 => 106 | 298 => 107 | 299 => 108 | 216 => 109 | 300 => 110 | 301 => 111 | 328 => 122 | 329 => 123 | 330 => 124 | 331 => 125 | 332 => 126 | 215 => 121 | 343 => 132 | n => n, fun | 28 => 25 | 3 => 3 | 46 => 133 | 0 => 0 | 51 => 125 | 53 => 159 | 4 => 4 | 183 => 189 | 182 => 188 | 131 => 193 | 5 => 5 | 9 => 9 | 218 => 202 | 222 => 151 | 228 => 212 | 229 => 213 | n => n, fun | n => n⟩
theorem Tryz.lays189 : Go.Proofs.Lays.n189 Tryz.prog Tryz.lays189_ren := {
  mixed := by kernel_rfl
  f125 := Tryz.func88.trans (congrArg some (by kernel_rfl))
  f128 := Tryz.func112.trans (congrArg some (by kernel_rfl))
  f129 := Tryz.func113.trans (congrArg some (by kernel_rfl))
  f189 := Tryz.func73.trans (congrArg some (by kernel_rfl))
  f215 := Tryz.func121.trans (congrArg some (by kernel_rfl))
  f216 := Tryz.func109.trans (congrArg some (by kernel_rfl))
  f257 := Tryz.func87.trans (congrArg some (by kernel_rfl))
  f294 := Tryz.func103.trans (congrArg some (by kernel_rfl))
  f295 := Tryz.func104.trans (congrArg some (by kernel_rfl))
  f296 := Tryz.func105.trans (congrArg some (by kernel_rfl))
  f297 := Tryz.func106.trans (congrArg some (by kernel_rfl))
  f298 := Tryz.func107.trans (congrArg some (by kernel_rfl))
  f299 := Tryz.func108.trans (congrArg some (by kernel_rfl))
  f300 := Tryz.func110.trans (congrArg some (by kernel_rfl))
  f301 := Tryz.func111.trans (congrArg some (by kernel_rfl))
  f328 := Tryz.func122.trans (congrArg some (by kernel_rfl))
  f329 := Tryz.func123.trans (congrArg some (by kernel_rfl))
  f330 := Tryz.func124.trans (congrArg some (by kernel_rfl))
  f331 := Tryz.func125.trans (congrArg some (by kernel_rfl))
  f332 := Tryz.func126.trans (congrArg some (by kernel_rfl))
  f343 := Tryz.func132.trans (congrArg some (by kernel_rfl))
  t0 := Tryz.underlying0
  a0 := Tryz.isAgg0
  z0 := Tryz.sizeOf0
  v0 := Tryz.zeroValue0
  t3 := Tryz.underlying3
  a3 := Tryz.isAgg3
  z3 := Tryz.sizeOf3
  v3 := Tryz.zeroValue3
  t4 := Tryz.underlying4
  a4 := Tryz.isAgg4
  z4 := Tryz.sizeOf4
  v4 := Tryz.zeroValue4
  t5 := Tryz.underlying5
  a5 := Tryz.isAgg5
  z5 := Tryz.sizeOf5
  v5 := Tryz.zeroValue5
  t9 := Tryz.underlying9
  a9 := Tryz.isAgg9
  z9 := Tryz.sizeOf9
  v9 := Tryz.zeroValue9
  t28 := Tryz.underlying25
  a28 := Tryz.isAgg25
  z28 := Tryz.sizeOf25
  v28 := Tryz.zeroValue25
  t46 := Tryz.underlying133
  a46 := Tryz.isAgg133
  z46 := Tryz.sizeOf133
  v46 := Tryz.zeroValue133
  t51 := Tryz.underlying125
  a51 := Tryz.isAgg125
  z51 := Tryz.sizeOf125
  v51 := Tryz.zeroValue125
  t53 := Tryz.underlying159
  a53 := Tryz.isAgg159
  z53 := Tryz.sizeOf159
  v53 := Tryz.zeroValue159
  t131 := Tryz.underlying193
  a131 := Tryz.isAgg193
  z131 := Tryz.sizeOf193
  v131 := Tryz.zeroValue193
  t182 := Tryz.underlying188
  a182 := Tryz.isAgg188
  z182 := Tryz.sizeOf188
  v182 := Tryz.zeroValue188
  t183 := Tryz.underlying189
  a183 := Tryz.isAgg189
  z183 := Tryz.sizeOf189
  v183 := Tryz.zeroValue189
  t218 := Tryz.underlying202
  a218 := Tryz.isAgg202
  z218 := Tryz.sizeOf202
  v218 := Tryz.zeroValue202
  t222 := Tryz.underlying151
  a222 := Tryz.isAgg151
  z222 := Tryz.sizeOf151
  v222 := Tryz.zeroValue151
  t228 := Tryz.underlying212
  a228 := Tryz.isAgg212
  z228 := Tryz.sizeOf212
  v228 := Tryz.zeroValue212
  t229 := Tryz.underlying213
  a229 := Tryz.isAgg213
  z229 := Tryz.sizeOf213
  v229 := Tryz.zeroValue213 }
open Go.Sort Go.RowKit in
theorem Tryz.slices_Sort_int (blk off cap : Nat) (zs : List Int) (w : World) (hH : Holds (Value.int .i64) w blk off zs.toArray) (hblk : blk < w.heap.size) (hsz : zs.length < 4611686018427387904) :
    Calls Tryz.prog 73 #[.slice (some ⟨blk, off, none⟩) zs.length cap] w fun e w' =>
      e = .returned (.tuple #[]) ∧ ∃ n os, w' = grow (putRow (Value.int .i64) (Sort.ahead w n) blk off (zs.mergeSort fun x y => decide (x ≤ y)).toArray) os := Any.slices_Sort_int Tryz.lays189 blk off cap zs w hH hblk hsz
open Go.RowKit Go.Sort in
theorem Tryz.slices_Sort_int_none (p : Option Addr) (cap : Nat) (w : World) :
    Calls Tryz.prog 73 #[.slice p 0 cap] w fun e w' => e = .returned (.tuple #[]) ∧ w' = w := Any.slices_Sort_int_none Tryz.lays189 p cap w
def Tryz.lays107_ren : Go.Shelf.Ren := ⟨fun | 107 => 77 | 108 => 90 | n => n, fun | 28 => 25 | 3 => 3 | 4 => 4 | 0 => 0 | n => n, fun | n => n⟩
theorem Tryz.lays107 : Go.Proofs.Lays.n107 Tryz.prog Tryz.lays107_ren := {
  mixed := by kernel_rfl
  f107 := Tryz.func77.trans (congrArg some (by kernel_rfl))
  f108 := Tryz.func90.trans (congrArg some (by kernel_rfl))
  t0 := Tryz.underlying0
  a0 := Tryz.isAgg0
  z0 := Tryz.sizeOf0
  v0 := Tryz.zeroValue0
  t3 := Tryz.underlying3
  a3 := Tryz.isAgg3
  z3 := Tryz.sizeOf3
  v3 := Tryz.zeroValue3
  t4 := Tryz.underlying4
  a4 := Tryz.isAgg4
  z4 := Tryz.sizeOf4
  v4 := Tryz.zeroValue4
  t28 := Tryz.underlying25
  a28 := Tryz.isAgg25
  z28 := Tryz.sizeOf25
  v28 := Tryz.zeroValue25 }
open Go.Lib in
theorem Tryz.slices_Contains_int (b off n c : Nat) (zs : List Int) (x : Int) (w : World) (hz : n ≤ zs.length) (hbig : n ≤ 9223372036854775807) (hc : ∀ j, j < zs.length → w.cell? ⟨b, off + j, none⟩ = some (.int .i64 (zs.getD j 0))) :
    Calls Tryz.prog 77 #[.slice (some ⟨b, off, none⟩) n c, .int .i64 x] w fun e w' => e = .returned (.bool ((zs.take n).contains x)) ∧ w' = w := Any.slices_Contains_int Tryz.lays107 b off n c zs x w hz hbig hc
def Tryz.laysNm215_ren : Go.Shelf.Ren := ⟨fun | 15 => 65 | n => n, fun | 22 => 25 | 3 => 3 | 4 => 4 | n => n, fun | n => n⟩
theorem Tryz.laysNm215 : Go.Proofs.Lays2.n15 Tryz.prog Tryz.laysNm215_ren := {
  mixed := by kernel_rfl
  f15 := Tryz.func65.trans (congrArg some (by kernel_rfl))
  t3 := Tryz.underlying3
  a3 := Tryz.isAgg3
  z3 := Tryz.sizeOf3
  v3 := Tryz.zeroValue3
  t4 := Tryz.underlying4
  a4 := Tryz.isAgg4
  z4 := Tryz.sizeOf4
  v4 := Tryz.zeroValue4
  t22 := Tryz.underlying25
  a22 := Tryz.isAgg25
  z22 := Tryz.sizeOf25
  v22 := Tryz.zeroValue25
  i3 := by kernel_rfl }
open Go.RowKit Go.Lib in
theorem Tryz.slices_Clone_int (b off n c : Nat) (zs : List Int) (w : World) (hz : n ≤ zs.length) (hbig : n * 8 ≤ 140737488355328) (hc : ∀ j, j < zs.length → w.cell? ⟨b, off + j, none⟩ = some (.int .i64 (zs.getD j 0))) :
    Calls Tryz.prog 65 #[.slice (some ⟨b, off, none⟩) n c] w fun e w' => ∃ v', e = .returned v' ∧ w'.ownsRow w.heap.size 3 1 v' n ((zs.take n).map (Value.int .i64)) ∧ v' ≠ .slice none 0 0 ∧ Below w.heap.size w w' := Any.slices_Clone_int Tryz.laysNm215 b off n c zs w hz hbig hc
open Go.RowKit Go.Lib in
theorem Tryz.slices_Clone_int_nil (n c : Nat) (w : World) :
    Calls Tryz.prog 65 #[.slice none n c] w fun e w' => e = .returned (.slice none 0 0) ∧ w' = w := Any.slices_Clone_int_nil Tryz.laysNm215 n c w
open Go.RowKit Go.Lib in
theorem Tryz.slices_Clone_int_zero (a : Addr) (c : Nat) (w : World) :
    Calls Tryz.prog 65 #[.slice (some a) 0 c] w fun e w' => ∃ v', e = .returned v' ∧ w'.ownsRow w.heap.size 3 1 v' 0 [] ∧ v' ≠ .slice none 0 0 ∧ Below w.heap.size w w' := Any.slices_Clone_int_zero Tryz.laysNm215 a c w
def Tryz.laysM316_ren : Go.Shelf.Ren := ⟨fun | 316 => 81 | n => n, fun | 9 => 9 | 3 => 3 | 4 => 4 | 37 => 156 | 0 => 0 | 127 => 170 | 5 => 5 | n => n, fun | n => n⟩
theorem Tryz.laysM316 : Go.Proofs.LaysM.n316 Tryz.prog Tryz.laysM316_ren := {
  mixed := by kernel_rfl
  f316 := Tryz.func81.trans (congrArg some (by kernel_rfl))
  t0 := Tryz.underlying0
  a0 := Tryz.isAgg0
  z0 := Tryz.sizeOf0
  v0 := Tryz.zeroValue0
  t3 := Tryz.underlying3
  a3 := Tryz.isAgg3
  z3 := Tryz.sizeOf3
  v3 := Tryz.zeroValue3
  t4 := Tryz.underlying4
  a4 := Tryz.isAgg4
  z4 := Tryz.sizeOf4
  v4 := Tryz.zeroValue4
  t9 := Tryz.underlying9
  a9 := Tryz.isAgg9
  z9 := Tryz.sizeOf9
  v9 := Tryz.zeroValue9
  t37 := Tryz.underlying156
  a37 := Tryz.isAgg156
  z37 := Tryz.sizeOf156
  v37 := Tryz.zeroValue156
  t127 := Tryz.underlying170
  a127 := Tryz.isAgg170
  z127 := Tryz.sizeOf170
  v127 := Tryz.zeroValue170
  t5 := Tryz.underlying5
  a5 := Tryz.isAgg5
  z5 := Tryz.sizeOf5
  v5 := Tryz.zeroValue5
  i0 := by kernel_rfl
  i3 := by kernel_rfl
  i4 := by kernel_rfl
  i5 := by kernel_rfl
  i9 := by kernel_rfl
  i37 := by kernel_rfl
  i127 := by kernel_rfl }
open Go.RowKit in
theorem Tryz.stringslite_Clone (s : ByteArray) (w : World) (hlim : s.size ≤ 281474976710656) :
    Calls Tryz.prog 81 #[.string s] w fun e w' => e = .returned (.string s) ∧ Below w.heap.size w w' := Any.stringslite_Clone Tryz.laysM316 s w hlim
end Go.Proofs
