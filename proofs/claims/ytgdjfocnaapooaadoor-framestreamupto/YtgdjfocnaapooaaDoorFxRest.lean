import Derived.Test.YtgdjfocnaapooaaDoorGFuClose
import Derived.Laws.EntriesVeiled
namespace Go.Proofs.YtgdjfocnaapooaaDoor
open Go.RowKit Go.Shelf
theorem eqlNil1 (f : Nat) (b : Array Value) (w : World) : (binOp .eql 43 (.func (.func f) #[] b) .nilFunc).run Tryd.prog w = .ok (.bool false) w := by
  kernel_rfl
theorem run_neqM {w : World} {a : Act} (x y : Operand) (d : Option Tmp) (ty t2 : TypeId) (pos : String) (af : Array _) (gd : Option (Nat × Bool)) (m n : MM) (hx : a.eval x = .agg (msgV m)) (hy : a.eval y = .agg (msgV n)) :
    (execOp a.eval { dst := d, op := .binOp .neq 27 x y t2, type := ty, pos := pos, after := af, guard := gd }).run Tryd.prog w = .ok (.value (.bool (!sameM m n))) w := by
  have hg : Tryd.prog.eqGuardType Tryd.prog.depth 27 = false := by kernel_rfl
  unfold execOp
  simp only [Sem.run_bind, Sem.run_pure, Result.andThen_ok, hx, hy, neqMsg, run_eqGuard_agg w .neq 27 x y (msgV m) (msgV n) hg]
theorem res_bool {fn : Func} {p : Tmp} (h : fn.results = #[.cell p 4]) (tmps : Array Value) (w : World) (b : Nat) (v : Bool) (ht : tmps.getD p undef = .pointer (some ⟨b, 0, none⟩)) (hc : w.cell? ⟨b, 0, none⟩ = some (.bool v)) : (results fn tmps).run Tryd.prog w = .ok (.bool v) w := by
  have ht' : tmps[p]?.getD undef = .pointer (some ⟨b, 0, none⟩) := by simpa using ht
  have hl : (loadVar 4 ⟨b, 0, none⟩).run Tryd.prog w = .ok (.bool v) w := by
    go_simp
  unfold results
  rw [h]
  simp [ht', asAddr, hl]
/-- what stands in the boxes of FrameScans -/
structure ScEnv (w : World) (bRes bWant bTxt bScan : Nat) (stop : Int) (S : ByteArray) (bb : Nat) (vp : Value) (W : World) : Prop where
  stp : Boxed W w.heap.size 3 (.int .i64 stop)
  res : Boxed W bRes 4 (.bool false)
  wnt : ∃ v, Boxed W bWant 35 v ∧ W.ownsRow bb 38 13 v (splitP S 0).length (pcs (splitP S 0)) ∧ v = vp
  txt : Boxed W bTxt 9 (.string S)
  scn : Boxed W bScan 43 (.func (.func 35) #[] #[.pointer (some ⟨bTxt, 0, none⟩)])
  bel : Below w.heap.size w W
theorem ScEnv.keep {w : World} {bRes bWant bTxt bScan : Nat} {stop : Int} {S : ByteArray} {bb : Nat} {vp : Value} {X Y : World} {row : Option Nat} (h : ScEnv w bRes bWant bTxt bScan stop S bb vp X) (hg : X.grownBy Y row) (hr : ∀ r, row = some r → w.heap.size ≤ r ∧ ∃ o : Obj, X.heap[r]? = some o ∧ o.isCells = false) : ScEnv w bRes bWant bTxt bScan stop S bb vp Y := by
  have hr2 : ∀ r, row = some r → ∃ o : Obj, X.heap[r]? = some o ∧ o.isCells = false := fun r e => (hr r e).2
  exact ⟨boxed_own _ _ (fun _ : Unit => _) () X Y row h.stp hg hr2, boxed_own _ _ (fun _ : Unit => _) () X Y row h.res hg hr2, holdsRow_own bb bWant _ _ 13 (fun _ : Unit => _) (fun _ => _) (fun _ v => v = vp) () X Y row h.wnt hg hr2, boxed_own _ _ (fun _ : Unit => _) () X Y row h.txt hg hr2, boxed_own _ _ (fun _ : Unit => _) () X Y row h.scn hg hr2, h.bel.grown hg h.bel.size (fun k e => (hr k e).1)⟩
theorem ScEnv.below {w : World} {bRes bWant bTxt bScan : Nat} {stop : Int} {S : ByteArray} {bb : Nat} {vp : Value} {X Y : World} (h : ScEnv w bRes bWant bTxt bScan stop S bb vp X) (hb : Below X.heap.size X Y) : ScEnv w bRes bWant bTxt bScan stop S bb vp Y :=
  h.keep (row := none) ⟨hb.os, hb.tape, hb.output, hb.size, fun i hi _ => hb.block i hi⟩ (fun r e => by cases e)
theorem ScEnv.set {w : World} {bRes bWant bTxt bScan : Nat} {stop : Int} {S : ByteArray} {bb : Nat} {vp : Value} {X : World} (h : ScEnv w bRes bWant bTxt bScan stop S bb vp X) {b : Nat} {u : Value} (hb : Boxed X b 3 u) (h0 : w.heap.size < b) (h1 : bRes ≠ b) (h2 : bWant ≠ b) (h3 : bTxt ≠ b) (h4 : bScan ≠ b) (v : Value) : ScEnv w bRes bWant bTxt bScan stop S bb vp (X.setCell ⟨b, 0, none⟩ v) := by
  obtain ⟨v', w1, w2, w3⟩ := h.wnt
  exact ⟨h.stp.other (by omega) v, h.res.other h1 v, ⟨v', w1.other h2 v, w2.kept (grownBy_setCell' X b v) (.inr (fun e => hb.not_row (by decide) w2 e.symm)), w3⟩, h.txt.other h3 v, h.scn.other h4 v, h.bel.setCell (p := ⟨b, 0, none⟩) (by show w.heap.size ≤ b; omega) v⟩
/-- the same, with a counter and a block of deferred calls -/
structure Sc2 (w : World) (bRes bWant bTxt bScan : Nat) (stop : Int) (S : ByteArray) (bb : Nat) (vp : Value) (bN D : Nat) (q : Int) (W : World) : Prop where
  env : ScEnv w bRes bWant bTxt bScan stop S bb vp W
  nbx : Boxed W bN 3 (.int .i64 q)
  dfr : W.heap[D]? = some (.deferred (some []))
theorem Sc2.keep {w : World} {bRes bWant bTxt bScan : Nat} {stop : Int} {S : ByteArray} {bb : Nat} {vp : Value} {bN D : Nat} {q : Int} {X Y : World} {row : Option Nat} (h : Sc2 w bRes bWant bTxt bScan stop S bb vp bN D q X) (hg : X.grownBy Y row) {B : Nat} (hB : w.heap.size ≤ B) (hD : D < B) (hr : ∀ r, row = some r → B ≤ r ∧ ∃ o : Obj, X.heap[r]? = some o ∧ o.isCells = false) : Sc2 w bRes bWant bTxt bScan stop S bb vp bN D q Y :=
  ⟨h.env.keep hg (fun r e => ⟨Nat.le_trans hB (hr r e).1, (hr r e).2⟩), boxed_own _ _ (fun _ : Unit => _) () X Y row h.nbx hg (fun r e => (hr r e).2), (hg.block D (blk_lt h.dfr) (fun e => by have := (hr D e.symm).1; omega)).trans h.dfr⟩
theorem Sc2.below {w : World} {bRes bWant bTxt bScan : Nat} {stop : Int} {S : ByteArray} {bb : Nat} {vp : Value} {bN D : Nat} {q : Int} {X Y : World} (h : Sc2 w bRes bWant bTxt bScan stop S bb vp bN D q X) (hb : Below X.heap.size X Y) : Sc2 w bRes bWant bTxt bScan stop S bb vp bN D q Y :=
  ⟨h.env.below hb, box_below h.nbx hb, blk_keep h.dfr hb⟩
theorem Sc2.setN {w : World} {bRes bWant bTxt bScan : Nat} {stop : Int} {S : ByteArray} {bb : Nat} {vp : Value} {bN D : Nat} {q : Int} {X : World} (h : Sc2 w bRes bWant bTxt bScan stop S bb vp bN D q X) (h0 : w.heap.size < bN) (h1 : bRes ≠ bN) (h2 : bWant ≠ bN) (h3 : bTxt ≠ bN) (h4 : bScan ≠ bN) (q' : Int) : Sc2 w bRes bWant bTxt bScan stop S bb vp bN D q' (X.setCell ⟨bN, 0, none⟩ (.int .i64 q')) :=
  ⟨h.env.set h.nbx h0 h1 h2 h3 h4 _, h.nbx.set _, (Below.heap_setCell _ _ _ D (fun e => by have hx := h.dfr; rw [show D = bN from e] at hx; have := (show X.heap[bN]? = _ from h.nbx).symm.trans hx; cases this)).trans h.dfr⟩
theorem Sc2.setK {w : World} {bRes bWant bTxt bScan : Nat} {stop : Int} {S : ByteArray} {bb : Nat} {vp : Value} {bN D : Nat} {q : Int} {X : World} (h : Sc2 w bRes bWant bTxt bScan stop S bb vp bN D q X) {b : Nat} {u : Value} (hb : Boxed X b 3 u) (h0 : w.heap.size < b) (h1 : bRes ≠ b) (h2 : bWant ≠ b) (h3 : bTxt ≠ b) (h4 : bScan ≠ b) (h5 : bN ≠ b) (v : Value) : Sc2 w bRes bWant bTxt bScan stop S bb vp bN D q (X.setCell ⟨b, 0, none⟩ v) :=
  ⟨h.env.set hb h0 h1 h2 h3 h4 _, h.nbx.other h5 _, (Below.heap_setCell _ _ _ D (fun e => by have hx := h.dfr; rw [show D = b from e] at hx; have := (show X.heap[b]? = _ from hb).symm.trans hx; cases this)).trans h.dfr⟩
theorem blk_keep' {w w' : World} {b : Nat} {o : Obj} (h : w.heap[b]? = some o) (hb : Below w.heap.size w w') : w'.heap[b]? = some o := (hb.block _ (blk_lt h)).trans h
theorem pref_iff {α : Type} {pre Q : List α} (h : pre <+: Q) (hl : pre.length < Q.length) (x : α) : pre ++ [x] <+: Q ↔ x = Q[pre.length] := by
  obtain ⟨r, hr⟩ := h
  subst hr
  cases r with
  | nil => simp at hl
  | cons y r =>
    rw [List.prefix_append_right_inj]
    simp
theorem pie_at {S : ByteArray} {q : Nat} (h : q < (scanQ S 0).length) (h2 : q < (splitP S 0).length) : (splitP S 0)[q] = toP (scanQ S 0)[q] := by
  have e := scan_split S S.size 0 (by omega)
  have : (splitP S 0)[q]? = some (toP (scanQ S 0)[q]) := by rw [← e, List.getElem?_map, List.getElem?_eq_getElem h]; rfl
  rw [List.getElem?_eq_getElem h2] at this
  exact Option.some.inj this
theorem scan_len (S : ByteArray) : (scanQ S 0).length = (splitP S 0).length := by rw [← scan_split S S.size 0 (by omega), List.length_map]
attribute [local go_sem] Oper.semAt_some
attribute [local go_sem] eqlNil1
def sq2 : Code → Code
  | .seq _ b => b
  | c => c
/-- what FrameScans does behind its first range -/
noncomputable def restC : Code := sq2 (sq2 (sq2 (sq2 (sq2 (sq2 (sq2 (Tryd.f4.body.getD .skip)))))))
set_option maxHeartbeats 16000000 in
set_option maxRecDepth 100000 in
set_option linter.unusedSimpArgs false in
theorem scans_rest (t S : ByteArray) (stop : Int) (w W0 : World) (bRes bWant bTxt bScan bN bb pg pc PL : Nat) (hzs : S.size ≤ 900000000000) (hP0 : 0 < (splitP S 0).length) (hPL : (splitP S 0).length = PL) (o1 : w.heap.size < bRes) (o2 : bRes < bWant) (o3 : bWant < bTxt) (o4 : bTxt < bScan) (o5 : bScan < bN) (o6 : bN < W0.heap.size)
    (HT : ∀ W1 : World, Below w.heap.size w W1 → ∀ W', Below w.heap.size W1 W' → TabF W' ∧ Tab4 5 W') (hQL : (scanQ S 0).length = PL) (hPl : PL ≤ 900000000000)
    (D n0 : Nat) (W : World) (hD : W0.heap.size ≤ D) (hE : ScEnv w bRes bWant bTxt bScan stop S bb (.slice (some ⟨pg, 0, none⟩) PL pc) W) (hN : Boxed W bN 3 (.int .i64 (n0 : Int))) (hn : n0 = PL ∨ (n0 : Int) = stop) (hK : W.heap[D]? = some (.deferred (some []))) :
    restC.wpIn Fence.wide 12 Tryd.prog (bodyPostM Fence.wide 12 Tryd.prog Tryd.f4 fun e w' => e = .returned (.bool true) ∧ Below w.heap.size w w') { tmps := #[.string t, .int .i64 stop, undef, .pointer (some ⟨w.heap.size, 0, none⟩), .pointer (some ⟨bRes, 0, none⟩), .string S, .pointer (some ⟨bWant, 0, none⟩), .pointer (some ⟨bScan, 0, none⟩), .pointer (some ⟨bN, 0, none⟩), undef, undef, undef, undef, undef, undef, undef, .string t, .string S, .string S, .slice (some ⟨pg, 0, none⟩) PL pc, .string S, .func (.func 35) #[] #[.pointer (some ⟨bTxt, 0, none⟩)], .func (.func 35) #[] #[.pointer (some ⟨bTxt, 0, none⟩)], .bool false, .func (.func 35) #[] #[.pointer (some ⟨bTxt, 0, none⟩)], undef, undef, undef, undef, undef, undef, undef, undef, undef, undef, undef, undef, undef, undef, undef, undef, undef, undef, undef, undef, undef, undef, undef, undef, undef, undef, undef, undef, undef, undef, undef, undef, undef, undef, undef, undef, undef, undef, undef, undef, undef, undef, undef, undef, undef, undef, undef, undef, undef, undef, undef, undef, undef, undef, undef, undef, undef, undef, undef, undef, undef, undef, undef, undef, undef, undef, undef, undef, undef, undef, undef, undef, undef, undef, undef, undef, undef, undef, undef, undef, undef, undef, undef, undef, undef, undef, undef, undef, undef, undef, undef, undef, undef, undef, undef, undef, undef, undef, undef, undef], defers := [{ target := .collected D, args := #[] }] } W := by
  simp only [restC, Tryd.f4, Option.getD_some, sq2]
  gi_upto_region 14 with fail
  rename_i K3 hKr3 K2 hKr2
  have REST2 : Hid (∀ (u54 u55 u56 u57 u58 u59 u60 u61 u62 : Value) , K3 { tmps := #[.string t, .int .i64 stop, undef, .pointer (some ⟨w.heap.size, 0, none⟩), .pointer (some ⟨bRes, 0, none⟩), .string S, .pointer (some ⟨bWant, 0, none⟩), .pointer (some ⟨bScan, 0, none⟩), .pointer (some ⟨bN, 0, none⟩), undef, undef, undef, undef, undef, undef, undef, .string t, .string S, .string S, .slice (some ⟨pg, 0, none⟩) PL pc, .string S, .func (.func 35) #[] #[.pointer (some ⟨bTxt, 0, none⟩)], .func (.func 35) #[] #[.pointer (some ⟨bTxt, 0, none⟩)], .bool false, .func (.func 35) #[] #[.pointer (some ⟨bTxt, 0, none⟩)], undef, undef, undef, undef, undef, undef, undef, undef, undef, undef, undef, undef, undef, undef, undef, undef, undef, undef, undef, undef, undef, undef, undef, undef, undef, undef, undef, undef, undef, u54, u55, u56, u57, u58, u59, u60, u61, u62, undef, undef, undef, undef, undef, undef, undef, undef, undef, undef, undef, undef, undef, undef, undef, undef, undef, undef, undef, undef, undef, undef, undef, undef, undef, undef, undef, undef, undef, undef, undef, undef, undef, undef, undef, undef, undef, undef, undef, undef, undef, undef, undef, undef, undef, undef, undef, undef, undef, undef, undef, undef, undef, undef, undef, undef, undef, undef, undef, undef, undef, undef], defers := [{ target := .collected D, args := #[] }] } W) := by
    intro u54 u55 u56 u57 u58 u59 u60 u61 u62
    refine hKr3 _ _ ?_
    clear hKr3 hKr2
    have cN := hN.cell
    have fN := hN.frozen
    have hN1 := hN.set (.int .i64 0)
    have hE1 := hE.set hN (by omega) (by omega) (by omega) (by omega) (by omega) (.int .i64 0)
    have hDN : D ≠ bN := fun e => by rw [e] at hK; have := (show W.heap[bN]? = _ from hN).symm.trans hK; cases this
    have hK1 : (W.setCell ⟨bN, 0, none⟩ (.int .i64 0)).heap[D]? = some (.deferred (some [])) := (Below.heap_setCell _ _ _ D hDN).trans hK
    have cF := hE1.scn.cell
    have hDl := blk_lt hK1
    clear hE hN hK hn
    gi_wp2_with fail
    generalize W.setCell ⟨bN, 0, none⟩ (.int .i64 0) = W1 at *
    clear cN fN cF
    have ES : Sc2 w bRes bWant bTxt bScan stop S bb (.slice (some ⟨pg, 0, none⟩) PL pc) bN D (0) W1 := ⟨hE1, hN1, hK1⟩
    have hB1 := hE1.bel.size
    clear hE1 hN1 hK1
    refine wpIn_rangeFunc_ownH (F := Fence.wide) (α := FrAt S) rfl (by omega) (gf := 35) (lb := #[.pointer (some ⟨bTxt, 0, none⟩)]) rfl trivial (enters_of Tryd.func35 (by kernel_rfl) rfl)
      (scan1_stops 11 (by omega) bTxt w.heap.size S hzs W1 hB1 ES.env.txt.cell (HT W1 ES.env.bel)) kpS_t (kpS_b hB1) (Below.refl _ _) (fun _ => rfl)
      (fun pre W => Sc2 w bRes bWant bTxt bScan stop S bb (.slice (some ⟨pg, 0, none⟩) PL pc) bN D ((pre.length : Int)) W ∧ pre <+: scanQ S 0)
      (fun c pre W => c = .ret ∧ ¬ pre <+: scanQ S 0)
      (fun s X Y row hs hg hr => ⟨hs.1.keep hg hB1 hDl hr, hs.2⟩)
      (fun c s X Y row hs hg hr => hs)
      ⟨ES, List.nil_prefix⟩
      (fun x a' W => ∃ Bx, bN < Bx ∧ W.heap[Bx]? = some (.cells (msgV x.1.2) 27) ∧ a' = { tmps := #[.string t, .int .i64 stop, undef, .pointer (some ⟨w.heap.size, 0, none⟩), .pointer (some ⟨bRes, 0, none⟩), .string S, .pointer (some ⟨bWant, 0, none⟩), .pointer (some ⟨bScan, 0, none⟩), .pointer (some ⟨bN, 0, none⟩), undef, undef, .int .i64 (x.1.1 : Int), .pointer (some ⟨Bx, 0, none⟩), undef, undef, undef, .string t, .string S, .string S, .slice (some ⟨pg, 0, none⟩) PL pc, .string S, .func (.func 35) #[] #[.pointer (some ⟨bTxt, 0, none⟩)], .func (.func 35) #[] #[.pointer (some ⟨bTxt, 0, none⟩)], .bool false, .func (.func 35) #[] #[.pointer (some ⟨bTxt, 0, none⟩)], undef, undef, undef, undef, undef, undef, undef, undef, undef, undef, undef, undef, undef, undef, undef, undef, undef, undef, undef, undef, undef, undef, undef, undef, undef, undef, undef, undef, undef, u54, u55, u56, u57, u58, u59, u60, u61, u62, .func (.func 35) #[] #[.pointer (some ⟨bTxt, 0, none⟩)], .int .i64 (x.1.1 : Int), .agg (msgV x.1.2), undef, undef, undef, undef, undef, undef, undef, undef, undef, undef, undef, undef, undef, undef, undef, undef, undef, undef, undef, undef, undef, undef, undef, undef, undef, undef, undef, undef, undef, undef, undef, undef, undef, undef, undef, undef, undef, undef, undef, undef, undef, undef, undef, undef, undef, undef, undef, undef, undef, undef, undef, undef, undef, undef, undef, undef, undef, undef, undef], defers := [] })
      (fun x a' _ X Y row hs hg hr => by obtain ⟨Bx, h1, h2, h3⟩ := hs; exact ⟨Bx, h1, msgBox_kept h2 hg (fun r e => (hr r e).2), h3⟩)
      ?assign ?body ?done ?stop
    case assign =>
      rintro l pre x W K' ⟨hE, hpre⟩ hK
      obtain ⟨WX, eX, hX, bX1, _⟩ := laid_new (Below.refl _ W) x.1.2
      have HK := hide hK
      have hs3 := hE.nbx.lt
      clear hK
      gi_wp2_with (refine wpListIn_storeMsg rfl (.tmp 12) (.tmp 65) rfl W.heap.size rfl x.1.2 (mm0 0) rfl (heap_last _ _) ?_)
      rw [← eX]
      exact HK.out _ _ (keeps_below bX1) (kpS_below bX1) ⟨hE.below bX1, hpre⟩ ⟨W.heap.size, hs3, hX, rfl⟩
    case body =>
      rintro l pre x a' W hl ⟨r, hr⟩ ⟨hE, hpre⟩ ⟨Bx, hBx, bX, rfl⟩ hlt
      rw [hQL] at hlt
      have hEs := hE.env.bel.size
      obtain ⟨hxi, hxn⟩ := x.2
      have PI := pref_iff hpre (by rw [hQL]; exact hlt) x
      have hqs : pre.length < (splitP S 0).length := by rw [hPL]; exact hlt
      have PA := pie_at (q := pre.length) (by rw [hQL]; exact hlt) hqs
      obtain ⟨xi, hex⟩ : ∃ xi, x.1.1 = xi := ⟨_, rfl⟩
      obtain ⟨xm, hem⟩ : ∃ xm, x.1.2 = xm := ⟨_, rfl⟩
      obtain ⟨⟨pi, pn, pm⟩, hpe⟩ : ∃ p, p = (splitP S 0)[pre.length] := ⟨_, rfl⟩
      have SAME : Hid (pre ++ [x] <+: scanQ S 0 ↔ xi = pi ∧ xm = pm) := by
        show _ ↔ _
        rw [PI, ← hex, ← hem]
        rw [← hpe] at PA
        unfold toP at PA
        simp only [Prod.mk.injEq] at PA
        obtain ⟨p1, _, p3⟩ := PA
        rw [p1, p3]
        constructor
        · rintro rfl; exact ⟨rfl, rfl⟩
        · rintro ⟨e1, e2⟩; exact Subtype.ext (Prod.ext e1 e2)
      rw [hem] at bX
      obtain ⟨vpp, w1', w2', w3'⟩ := hE.env.wnt
      subst w3'
      have bD : Below W.heap.size W W.drew := (Below.refl _ W).drew
      have ED := hE.below bD
      have ND := box_below hE.nbx bD
      have XD := blk_keep bX bD
      have RD : W.drew.rangeAt pg (pre.length * 13) (pieL (pi, pn, pm)) := by
        obtain ⟨vq, u1, u2, u3⟩ := ED.env.wnt
        subst u3
        obtain ⟨ba, cp, e1, kk⟩ := own_pie u2
        obtain ⟨g, hg1, _, hg3⟩ := kk (by omega)
        rw [hg1, hPL] at e1
        simp only [Value.slice.injEq, Option.some.injEq, Addr.mk.injEq, and_true, true_and] at e1
        have e1' : pg = g := e1.1
        rw [e1', hpe]
        exact pcs_range hg3 _ hqs
      have S0 : W.drew.cell? ⟨bN, 0, none⟩ = some (.int .i64 (pre.length : Int)) ∧ W.drew.cell? ⟨bWant, 0, none⟩ = some (.slice (some ⟨pg, 0, none⟩) PL pc) ∧ W.drew.rangeAt Bx 0 (msgV xm).toList ∧ W.drew.cell? ⟨pg, pre.length * 13, none⟩ = some (.int .i64 (pi : Int)) ∧ W.drew.rangeAt pg (pre.length * 13 + 2) (msgV pm).toList := by
        obtain ⟨vq, u1, u2, u3⟩ := ED.env.wnt
        subst u3
        refine ⟨ND.cell, u1.cell, msg_range XD, RD 0 _ rfl, fun j u hj => ?_⟩
        have := RD (2 + j) u (by rw [show pieL (pi, pn, pm) = .int .i64 (pi : Int) :: .int .i64 (pn : Int) :: (msgV pm).toList from rfl, Nat.add_comm 2 j]; exact hj)
        rw [show pre.length * 13 + 2 + j = pre.length * 13 + (2 + j) by omega]; exact this
      simp only [hex, hem]
      clear hex hem hpe PA PI hqs w1' w2' RD hxi hxn
      have kD : KeepsFrom W1.heap.size W W.drew := keeps_below bD
      obtain ⟨QN, hQ⟩ : ∃ QN, pre.length = QN := ⟨_, rfl⟩
      have hQ1 : (pre ++ [x]).length = QN + 1 := by rw [List.length_append, hQ]; rfl
      rw [hQ] at ND S0 hlt ED
      have hge : decide ((PL : Int) ≤ (QN : Int)) = false := decide_eq_false (by omega)
      have hli : (QN : Int) < (PL : Int) := by omega
      have RETX : Hid (¬ (xi = pi ∧ xm = pm) → ¬ (pre ++ [x]) <+: scanQ S 0) := fun h e => h (SAME.out.1 e)
      have GO : Hid (xi = pi ∧ xm = pm → (pre ++ [x]) <+: scanQ S 0) := fun h => SAME.out.2 h
      have EN : Hid ((((pre ++ [x]).length : Nat) : Int) = (QN : Int) + 1) := by show _ = _; rw [hQ1]; omega
      clear hQ hQ1 hpre SAME hE bX
      gi_wp2_with fail
      by_cases hxe : xi = pi
      case neg =>
        have hxp : ((xi : Int) != (pi : Int)) = true := bne_iff_ne.2 (by omega)
        refine wpIn_region_round (l := l) (S := fun X => X.cell? ⟨bN, 0, none⟩ = some (.int .i64 (QN : Int)) ∧ X.cell? ⟨bWant, 0, none⟩ = some (.slice (some ⟨pg, 0, none⟩) PL pc) ∧ X.rangeAt Bx 0 (msgV xm).toList ∧ X.cell? ⟨pg, QN * 13, none⟩ = some (.int .i64 (pi : Int)) ∧ X.rangeAt pg (QN * 13 + 2) (msgV pm).toList) (by kernel_rfl) (by kernel_rfl) (fun _ _ h => h) S0 (fun hHeld => ?_)
        refine wpAnyH_take (i := 0) (v := (.int .i64 (QN : Int))) rfl (by kernel_rfl) (by kernel_rfl) (by kernel_rfl) (fun _ _ _ h => h) (Or.inl ⟨by rfl, ?_⟩) (by assumption) ?_
        · intro w' hSw
          (try dsimp only at hSw)
          (obtain ⟨h1, h2, h3, h4, h5⟩ := hSw; go_simp)
        (try simp only [Act.put, List.setIfInBounds_toArray, List.set_cons_zero, List.set_cons_succ])
        refine wpAnyH_take (i := 1) (v := (.slice (some ⟨pg, 0, none⟩) PL pc)) rfl (by kernel_rfl) (by kernel_rfl) (by kernel_rfl) (fun _ _ _ h => h) (Or.inl ⟨by rfl, ?_⟩) (by assumption) ?_
        · intro w' hSw
          (try dsimp only at hSw)
          (obtain ⟨h1, h2, h3, h4, h5⟩ := hSw; go_simp)
        (try simp only [Act.put, List.setIfInBounds_toArray, List.set_cons_zero, List.set_cons_succ])
        refine wpAnyH_take (i := 2) (v := (.int .i64 (PL : Int))) rfl (by kernel_rfl) (by kernel_rfl) (by kernel_rfl) (fun _ _ _ h => h) (Or.inl ⟨by rfl, ?_⟩) (by assumption) ?_
        · intro w' hSw
          (try dsimp only at hSw)
          go_simp <;> first | exact i64_in (by omega) (by omega) | exact u32_in (by omega) (by omega) | exact u32_add _ _ | (rw [Int.tmod_eq_emod_of_nonneg (by omega)]; omega) | (rw [Int.tdiv_eq_ediv_of_nonneg (by omega)]; omega) | omega
        (try simp only [Act.put, List.setIfInBounds_toArray, List.set_cons_zero, List.set_cons_succ])
        refine wpAnyH_take (i := 3) (v := (.bool false)) rfl (by kernel_rfl) (by kernel_rfl) (by kernel_rfl) (fun _ _ _ h => h) (Or.inl ⟨by rfl, ?_⟩) (by assumption) ?_
        · intro w' hSw
          (try dsimp only at hSw)
          (go_simp <;> first | omega | simp [hge])
        (try simp only [Act.put, List.setIfInBounds_toArray, List.set_cons_zero, List.set_cons_succ])
        refine wpAnyH_take (i := 4) (v := (.bool false)) rfl (by kernel_rfl) (by kernel_rfl) (by kernel_rfl) (fun _ _ _ h => h) (Or.inl ⟨by rfl, ?_⟩) (by assumption) ?_
        · intro w' hSw
          (try dsimp only at hSw)
          go_simp <;> first | exact i64_in (by omega) (by omega) | exact u32_in (by omega) (by omega) | exact u32_add _ _ | (rw [Int.tmod_eq_emod_of_nonneg (by omega)]; omega) | (rw [Int.tdiv_eq_ediv_of_nonneg (by omega)]; omega) | omega
        (try simp only [Act.put, List.setIfInBounds_toArray, List.set_cons_zero, List.set_cons_succ])
        refine wpAnyH_take (i := 5) (v := (.int .i64 (xi : Int))) rfl (by kernel_rfl) (by kernel_rfl) (by kernel_rfl) (fun _ _ _ h => h) (Or.inl ⟨by kernel_rfl, ?_⟩) (by assumption) ?_
        · intro w' hSw
          (try dsimp only at hSw)
          go_simp
        (try simp only [Act.put, List.setIfInBounds_toArray, List.set_cons_zero, List.set_cons_succ])
        refine wpAnyH_take (i := 6) (v := (.slice (some ⟨pg, 0, none⟩) PL pc)) rfl (by kernel_rfl) (by kernel_rfl) (by kernel_rfl) (fun _ _ _ h => h) (Or.inl ⟨by kernel_rfl, ?_⟩) (by assumption) ?_
        · intro w' hSw
          (try dsimp only at hSw)
          (obtain ⟨h1, h2, h3, h4, h5⟩ := hSw; go_simp)
        (try simp only [Act.put, List.setIfInBounds_toArray, List.set_cons_zero, List.set_cons_succ])
        refine wpAnyH_take (i := 7) (v := (.int .i64 (QN : Int))) rfl (by kernel_rfl) (by kernel_rfl) (by kernel_rfl) (fun _ _ _ h => h) (Or.inl ⟨by kernel_rfl, ?_⟩) (by assumption) ?_
        · intro w' hSw
          (try dsimp only at hSw)
          (obtain ⟨h1, h2, h3, h4, h5⟩ := hSw; go_simp)
        (try simp only [Act.put, List.setIfInBounds_toArray, List.set_cons_zero, List.set_cons_succ])
        refine wpAnyH_take (i := 8) (v := (.pointer (some ⟨pg, QN * 13, none⟩))) rfl (by kernel_rfl) (by kernel_rfl) (by kernel_rfl) (fun _ _ _ h => h) (Or.inl ⟨by kernel_rfl, ?_⟩) (by assumption) ?_
        · intro w' hSw
          (try dsimp only at hSw)
          (go_simp <;> omega)
        (try simp only [Act.put, List.setIfInBounds_toArray, List.set_cons_zero, List.set_cons_succ])
        refine wpAnyH_take (i := 9) (v := (.pointer (some ⟨pg, QN * 13, none⟩))) rfl (by kernel_rfl) (by kernel_rfl) (by kernel_rfl) (fun _ _ _ h => h) (Or.inl ⟨by kernel_rfl, ?_⟩) (by assumption) ?_
        · intro w' hSw
          (try dsimp only at hSw)
          go_simp
        (try simp only [Act.put, List.setIfInBounds_toArray, List.set_cons_zero, List.set_cons_succ])
        refine wpAnyH_take (i := 10) (v := (.int .i64 (pi : Int))) rfl (by kernel_rfl) (by kernel_rfl) (by kernel_rfl) (fun _ _ _ h => h) (Or.inl ⟨by kernel_rfl, ?_⟩) (by assumption) ?_
        · intro w' hSw
          (try dsimp only at hSw)
          (obtain ⟨h1, h2, h3, h4, h5⟩ := hSw; go_simp)
        (try simp only [Act.put, List.setIfInBounds_toArray, List.set_cons_zero, List.set_cons_succ])
        refine wpAnyH_take (i := 11) (v := (.bool true)) rfl (by kernel_rfl) (by kernel_rfl) (by kernel_rfl) (fun _ _ _ h => h) (Or.inl ⟨by kernel_rfl, ?_⟩) (by assumption) ?_
        · intro w' hSw
          (try dsimp only at hSw)
          (go_simp <;> simp [hxp])
        (try simp only [Act.put, List.setIfInBounds_toArray, List.set_cons_zero, List.set_cons_succ])
        refine wpAnyH_take (i := 12) (v := (.bool true)) rfl (by kernel_rfl) (by kernel_rfl) (by kernel_rfl) (fun _ _ _ h => h) (Or.inl ⟨by rfl, ?_⟩) (by assumption) ?_
        · intro w' hSw
          (try dsimp only at hSw)
          go_simp <;> first | exact i64_in (by omega) (by omega) | exact u32_in (by omega) (by omega) | exact u32_add _ _ | (rw [Int.tmod_eq_emod_of_nonneg (by omega)]; omega) | (rw [Int.tdiv_eq_ediv_of_nonneg (by omega)]; omega) | omega
        (try simp only [Act.put, List.setIfInBounds_toArray, List.set_cons_zero, List.set_cons_succ])
        refine wpAnyH_take (i := 13) (v := (.bool true)) rfl (by kernel_rfl) (by kernel_rfl) (by kernel_rfl) (fun _ _ _ h => h) (Or.inl ⟨by rfl, ?_⟩) (by assumption) ?_
        · intro w' hSw
          (try dsimp only at hSw)
          go_simp <;> first | exact i64_in (by omega) (by omega) | exact u32_in (by omega) (by omega) | exact u32_add _ _ | (rw [Int.tmod_eq_emod_of_nonneg (by omega)]; omega) | (rw [Int.tdiv_eq_ediv_of_nonneg (by omega)]; omega) | omega
        (try simp only [Act.put, List.setIfInBounds_toArray, List.set_cons_zero, List.set_cons_succ])
        refine wpAnyH_take (i := 14) (v := undef) rfl (by kernel_rfl) (by kernel_rfl) (by kernel_rfl) (fun _ _ _ h => h) (Or.inr ⟨by kernel_rfl, rfl⟩) (by assumption) ?_
        (try simp only [Act.put, List.setIfInBounds_toArray, List.set_cons_zero, List.set_cons_succ])
        refine wpAnyH_take (i := 15) (v := undef) rfl (by kernel_rfl) (by kernel_rfl) (by kernel_rfl) (fun _ _ _ h => h) (Or.inr ⟨by kernel_rfl, rfl⟩) (by assumption) ?_
        (try simp only [Act.put, List.setIfInBounds_toArray, List.set_cons_zero, List.set_cons_succ])
        refine wpAnyH_take (i := 16) (v := undef) rfl (by kernel_rfl) (by kernel_rfl) (by kernel_rfl) (fun _ _ _ h => h) (Or.inr ⟨by kernel_rfl, rfl⟩) (by assumption) ?_
        (try simp only [Act.put, List.setIfInBounds_toArray, List.set_cons_zero, List.set_cons_succ])
        refine wpAnyH_take (i := 17) (v := undef) rfl (by kernel_rfl) (by kernel_rfl) (by kernel_rfl) (fun _ _ _ h => h) (Or.inr ⟨by kernel_rfl, rfl⟩) (by assumption) ?_
        (try simp only [Act.put, List.setIfInBounds_toArray, List.set_cons_zero, List.set_cons_succ])
        refine wpAnyH_take (i := 18) (v := undef) rfl (by kernel_rfl) (by kernel_rfl) (by kernel_rfl) (fun _ _ _ h => h) (Or.inr ⟨by kernel_rfl, rfl⟩) (by assumption) ?_
        (try simp only [Act.put, List.setIfInBounds_toArray, List.set_cons_zero, List.set_cons_succ])
        refine wpAnyH_take (i := 19) (v := undef) rfl (by kernel_rfl) (by kernel_rfl) (by kernel_rfl) (fun _ _ _ h => h) (Or.inr ⟨by kernel_rfl, rfl⟩) (by assumption) ?_
        (try simp only [Act.put, List.setIfInBounds_toArray, List.set_cons_zero, List.set_cons_succ])
        refine wpAnyH_take (i := 20) (v := undef) rfl (by kernel_rfl) (by kernel_rfl) (by kernel_rfl) (fun _ _ _ h => h) (Or.inr ⟨by kernel_rfl, rfl⟩) (by assumption) ?_
        (try simp only [Act.put, List.setIfInBounds_toArray, List.set_cons_zero, List.set_cons_succ])
        refine wpAnyH_ready (rs := [21]) (by kernel_rfl) (by simp) ?_
        refine AllReadyH.cons rfl (fun K hK => ?_) AllReadyH.nil
        go_simp
        refine hK.out _ _ (hHeld) (fun hHeld => ?_)
        clear hK
        (try simp only [Act.put, List.setIfInBounds_toArray, List.set_cons_zero, List.set_cons_succ])
        refine wpAnyH_done (by kernel_rfl) ?_ _
        clear hHeld
        have cR := ED.env.res.cell
        have fR := ED.env.res.frozen
        generalize W.drew = WD at *
        gi_wp2_with fail
        exact ⟨kD.trans ((KeepsOthers.setCell _ _ _).from _), And.intro rfl (RETX.out (fun h => hxe h.1))⟩
      case pos =>
        have hxp : ((xi : Int) != (pi : Int)) = false := by rw [hxe]; simp
        refine wpIn_region_round (l := l) (S := fun X => X.cell? ⟨bN, 0, none⟩ = some (.int .i64 (QN : Int)) ∧ X.cell? ⟨bWant, 0, none⟩ = some (.slice (some ⟨pg, 0, none⟩) PL pc) ∧ X.rangeAt Bx 0 (msgV xm).toList ∧ X.cell? ⟨pg, QN * 13, none⟩ = some (.int .i64 (pi : Int)) ∧ X.rangeAt pg (QN * 13 + 2) (msgV pm).toList) (by kernel_rfl) (by kernel_rfl) (fun _ _ h => h) S0 (fun hHeld => ?_)
        refine wpAnyH_take (i := 0) (v := (.int .i64 (QN : Int))) rfl (by kernel_rfl) (by kernel_rfl) (by kernel_rfl) (fun _ _ _ h => h) (Or.inl ⟨by rfl, ?_⟩) (by assumption) ?_
        · intro w' hSw
          (try dsimp only at hSw)
          (obtain ⟨h1, h2, h3, h4, h5⟩ := hSw; go_simp)
        (try simp only [Act.put, List.setIfInBounds_toArray, List.set_cons_zero, List.set_cons_succ])
        refine wpAnyH_take (i := 1) (v := (.slice (some ⟨pg, 0, none⟩) PL pc)) rfl (by kernel_rfl) (by kernel_rfl) (by kernel_rfl) (fun _ _ _ h => h) (Or.inl ⟨by rfl, ?_⟩) (by assumption) ?_
        · intro w' hSw
          (try dsimp only at hSw)
          (obtain ⟨h1, h2, h3, h4, h5⟩ := hSw; go_simp)
        (try simp only [Act.put, List.setIfInBounds_toArray, List.set_cons_zero, List.set_cons_succ])
        refine wpAnyH_take (i := 2) (v := (.int .i64 (PL : Int))) rfl (by kernel_rfl) (by kernel_rfl) (by kernel_rfl) (fun _ _ _ h => h) (Or.inl ⟨by rfl, ?_⟩) (by assumption) ?_
        · intro w' hSw
          (try dsimp only at hSw)
          go_simp <;> first | exact i64_in (by omega) (by omega) | exact u32_in (by omega) (by omega) | exact u32_add _ _ | (rw [Int.tmod_eq_emod_of_nonneg (by omega)]; omega) | (rw [Int.tdiv_eq_ediv_of_nonneg (by omega)]; omega) | omega
        (try simp only [Act.put, List.setIfInBounds_toArray, List.set_cons_zero, List.set_cons_succ])
        refine wpAnyH_take (i := 3) (v := (.bool false)) rfl (by kernel_rfl) (by kernel_rfl) (by kernel_rfl) (fun _ _ _ h => h) (Or.inl ⟨by rfl, ?_⟩) (by assumption) ?_
        · intro w' hSw
          (try dsimp only at hSw)
          (go_simp <;> first | omega | simp [hge])
        (try simp only [Act.put, List.setIfInBounds_toArray, List.set_cons_zero, List.set_cons_succ])
        refine wpAnyH_take (i := 4) (v := (.bool false)) rfl (by kernel_rfl) (by kernel_rfl) (by kernel_rfl) (fun _ _ _ h => h) (Or.inl ⟨by rfl, ?_⟩) (by assumption) ?_
        · intro w' hSw
          (try dsimp only at hSw)
          go_simp <;> first | exact i64_in (by omega) (by omega) | exact u32_in (by omega) (by omega) | exact u32_add _ _ | (rw [Int.tmod_eq_emod_of_nonneg (by omega)]; omega) | (rw [Int.tdiv_eq_ediv_of_nonneg (by omega)]; omega) | omega
        (try simp only [Act.put, List.setIfInBounds_toArray, List.set_cons_zero, List.set_cons_succ])
        refine wpAnyH_take (i := 5) (v := (.int .i64 (xi : Int))) rfl (by kernel_rfl) (by kernel_rfl) (by kernel_rfl) (fun _ _ _ h => h) (Or.inl ⟨by kernel_rfl, ?_⟩) (by assumption) ?_
        · intro w' hSw
          (try dsimp only at hSw)
          go_simp
        (try simp only [Act.put, List.setIfInBounds_toArray, List.set_cons_zero, List.set_cons_succ])
        refine wpAnyH_take (i := 6) (v := (.slice (some ⟨pg, 0, none⟩) PL pc)) rfl (by kernel_rfl) (by kernel_rfl) (by kernel_rfl) (fun _ _ _ h => h) (Or.inl ⟨by kernel_rfl, ?_⟩) (by assumption) ?_
        · intro w' hSw
          (try dsimp only at hSw)
          (obtain ⟨h1, h2, h3, h4, h5⟩ := hSw; go_simp)
        (try simp only [Act.put, List.setIfInBounds_toArray, List.set_cons_zero, List.set_cons_succ])
        refine wpAnyH_take (i := 7) (v := (.int .i64 (QN : Int))) rfl (by kernel_rfl) (by kernel_rfl) (by kernel_rfl) (fun _ _ _ h => h) (Or.inl ⟨by kernel_rfl, ?_⟩) (by assumption) ?_
        · intro w' hSw
          (try dsimp only at hSw)
          (obtain ⟨h1, h2, h3, h4, h5⟩ := hSw; go_simp)
        (try simp only [Act.put, List.setIfInBounds_toArray, List.set_cons_zero, List.set_cons_succ])
        refine wpAnyH_take (i := 8) (v := (.pointer (some ⟨pg, QN * 13, none⟩))) rfl (by kernel_rfl) (by kernel_rfl) (by kernel_rfl) (fun _ _ _ h => h) (Or.inl ⟨by kernel_rfl, ?_⟩) (by assumption) ?_
        · intro w' hSw
          (try dsimp only at hSw)
          (go_simp <;> omega)
        (try simp only [Act.put, List.setIfInBounds_toArray, List.set_cons_zero, List.set_cons_succ])
        refine wpAnyH_take (i := 9) (v := (.pointer (some ⟨pg, QN * 13, none⟩))) rfl (by kernel_rfl) (by kernel_rfl) (by kernel_rfl) (fun _ _ _ h => h) (Or.inl ⟨by kernel_rfl, ?_⟩) (by assumption) ?_
        · intro w' hSw
          (try dsimp only at hSw)
          go_simp
        (try simp only [Act.put, List.setIfInBounds_toArray, List.set_cons_zero, List.set_cons_succ])
        refine wpAnyH_take (i := 10) (v := (.int .i64 (pi : Int))) rfl (by kernel_rfl) (by kernel_rfl) (by kernel_rfl) (fun _ _ _ h => h) (Or.inl ⟨by kernel_rfl, ?_⟩) (by assumption) ?_
        · intro w' hSw
          (try dsimp only at hSw)
          (obtain ⟨h1, h2, h3, h4, h5⟩ := hSw; go_simp)
        (try simp only [Act.put, List.setIfInBounds_toArray, List.set_cons_zero, List.set_cons_succ])
        refine wpAnyH_take (i := 11) (v := (.bool false)) rfl (by kernel_rfl) (by kernel_rfl) (by kernel_rfl) (fun _ _ _ h => h) (Or.inl ⟨by kernel_rfl, ?_⟩) (by assumption) ?_
        · intro w' hSw
          (try dsimp only at hSw)
          (go_simp <;> simp [hxp])
        (try simp only [Act.put, List.setIfInBounds_toArray, List.set_cons_zero, List.set_cons_succ])
        refine wpAnyH_take (i := 12) (v := (.bool false)) rfl (by kernel_rfl) (by kernel_rfl) (by kernel_rfl) (fun _ _ _ h => h) (Or.inl ⟨by rfl, ?_⟩) (by assumption) ?_
        · intro w' hSw
          (try dsimp only at hSw)
          go_simp <;> first | exact i64_in (by omega) (by omega) | exact u32_in (by omega) (by omega) | exact u32_add _ _ | (rw [Int.tmod_eq_emod_of_nonneg (by omega)]; omega) | (rw [Int.tdiv_eq_ediv_of_nonneg (by omega)]; omega) | omega
        (try simp only [Act.put, List.setIfInBounds_toArray, List.set_cons_zero, List.set_cons_succ])
        refine wpAnyH_take (i := 13) (v := (.bool false)) rfl (by kernel_rfl) (by kernel_rfl) (by kernel_rfl) (fun _ _ _ h => h) (Or.inl ⟨by rfl, ?_⟩) (by assumption) ?_
        · intro w' hSw
          (try dsimp only at hSw)
          go_simp <;> first | exact i64_in (by omega) (by omega) | exact u32_in (by omega) (by omega) | exact u32_add _ _ | (rw [Int.tmod_eq_emod_of_nonneg (by omega)]; omega) | (rw [Int.tdiv_eq_ediv_of_nonneg (by omega)]; omega) | omega
        (try simp only [Act.put, List.setIfInBounds_toArray, List.set_cons_zero, List.set_cons_succ])
        refine wpAnyH_take (i := 14) (v := .agg (msgV xm)) rfl (by kernel_rfl) (by kernel_rfl) (by kernel_rfl) (fun _ _ _ h => h) (yieldsIf_load_mid ?hw14 27 (.tmp 12) ?ho14 Bx 0 ?hx14 (msgV xm).toList _ (fun w' h => h.2.2.1) Tryd.underlying27 rfl infoMs11) (by assumption) ?_
        case hw14 => kernel_rfl
        case ho14 => rfl
        case hx14 => kernel_rfl
        (try simp only [Act.put, List.getElem_toArray, List.getElem_cons_zero, List.getElem_cons_succ, List.setIfInBounds_toArray, List.set_cons_zero, List.set_cons_succ])
        refine wpAnyH_take (i := 15) (v := (.slice (some ⟨pg, 0, none⟩) PL pc)) rfl (by kernel_rfl) (by kernel_rfl) (by kernel_rfl) (fun _ _ _ h => h) (Or.inl ⟨by kernel_rfl, ?_⟩) (by assumption) ?_
        · intro w' hSw
          (try dsimp only at hSw)
          (obtain ⟨h1, h2, h3, h4, h5⟩ := hSw; go_simp)
        (try simp only [Act.put, List.setIfInBounds_toArray, List.set_cons_zero, List.set_cons_succ])
        refine wpAnyH_take (i := 16) (v := (.int .i64 (QN : Int))) rfl (by kernel_rfl) (by kernel_rfl) (by kernel_rfl) (fun _ _ _ h => h) (Or.inl ⟨by kernel_rfl, ?_⟩) (by assumption) ?_
        · intro w' hSw
          (try dsimp only at hSw)
          (obtain ⟨h1, h2, h3, h4, h5⟩ := hSw; go_simp)
        (try simp only [Act.put, List.setIfInBounds_toArray, List.set_cons_zero, List.set_cons_succ])
        refine wpAnyH_take (i := 17) (v := (.pointer (some ⟨pg, QN * 13, none⟩))) rfl (by kernel_rfl) (by kernel_rfl) (by kernel_rfl) (fun _ _ _ h => h) (Or.inl ⟨by kernel_rfl, ?_⟩) (by assumption) ?_
        · intro w' hSw
          (try dsimp only at hSw)
          (go_simp <;> omega)
        (try simp only [Act.put, List.setIfInBounds_toArray, List.set_cons_zero, List.set_cons_succ])
        refine wpAnyH_take (i := 18) (v := (.pointer (some ⟨pg, QN * 13 + 2, none⟩))) rfl (by kernel_rfl) (by kernel_rfl) (by kernel_rfl) (fun _ _ _ h => h) (Or.inl ⟨by kernel_rfl, ?_⟩) (by assumption) ?_
        · intro w' hSw
          (try dsimp only at hSw)
          go_simp
        (try simp only [Act.put, List.setIfInBounds_toArray, List.set_cons_zero, List.set_cons_succ])
        refine wpAnyH_take (i := 19) (v := .agg (msgV pm)) rfl (by kernel_rfl) (by kernel_rfl) (by kernel_rfl) (fun _ _ _ h => h) (yieldsIf_load_mid ?hw19 27 (.tmp 84) ?ho19 pg (QN * 13 + 2) ?hx19 (msgV pm).toList _ (fun w' h => h.2.2.2.2) Tryd.underlying27 rfl infoMs11) (by assumption) ?_
        case hw19 => kernel_rfl
        case ho19 => rfl
        case hx19 => kernel_rfl
        (try simp only [Act.put, List.getElem_toArray, List.getElem_cons_zero, List.getElem_cons_succ, List.setIfInBounds_toArray, List.set_cons_zero, List.set_cons_succ])
        refine wpAnyH_take (i := 20) (v := (.bool (!sameM xm pm))) rfl (by kernel_rfl) (by kernel_rfl) (by kernel_rfl) (fun _ _ _ h => h) (Or.inl ⟨by kernel_rfl, ?_⟩) (by assumption) ?_
        · intro w' hSw
          (try dsimp only at hSw)
          exact run_neqM _ _ _ _ _ _ _ _ xm pm (by kernel_rfl) (by kernel_rfl)
        (try simp only [Act.put, List.setIfInBounds_toArray, List.set_cons_zero, List.set_cons_succ])
        refine wpAnyH_ready (rs := [21]) (by kernel_rfl) (by simp) ?_
        refine AllReadyH.cons rfl (fun K hK => ?_) AllReadyH.nil
        go_simp
        refine hK.out _ _ (hHeld) (fun hHeld => ?_)
        clear hK
        (try simp only [Act.put, List.setIfInBounds_toArray, List.set_cons_zero, List.set_cons_succ])
        refine wpAnyH_done (by kernel_rfl) ?_ _
        clear hHeld
        have cR := ED.env.res.cell
        have fR := ED.env.res.frozen
        generalize W.drew = WD at *
        by_cases hxm : xm = pm
        case neg =>
          rw [sameM_no hxm]
          gi_wp2_with fail
          exact ⟨kD.trans ((KeepsOthers.setCell _ _ _).from _), And.intro rfl (RETX.out (fun h => hxm h.2))⟩
        case pos =>
          rw [hxm, sameM_self]
          have PX := hide (GO.out ⟨hxe, hxm⟩)
          clear GO RETX S0
          have hDl2 : D < WD.heap.size := blk_lt ED.dfr
          have bK0 := Boxed.new WD 3 (.int .i64 0)
          have aK : Below WD.heap.size WD (WD.alloc (.cells #[.int .i64 0] 3)) := (Below.refl _ _).alloc (Nat.le_refl _) _
          have EK := ED.below aK
          have KK := kD.trans (keeps_below (B := W1.heap.size) aK)
          have BK : Below w.heap.size W (WD.alloc (.cells #[.int .i64 0] 3)) := (bD.mono hEs).trans (aK.mono (Nat.le_trans hEs bD.size))
          have hsK : (WD.alloc (.cells #[.int .i64 0] 3)).heap.size = WD.heap.size + 1 := by simp
          have hr2 : (WD.alloc (.cells #[.int .i64 0] 3)).heap[l]? = some (.loop r) := blk_keep (blk_keep' hr bD) aK
          have oK : bN < WD.heap.size := ND.lt
          have hsW := bD.size
          have cF := EK.env.scn.cell
          have FIN : Hid (∀ W' : World, Sc2 w bRes bWant bTxt bScan stop S bb (.slice (some ⟨pg, 0, none⟩) PL pc) bN D ((QN : Int)) W' → Below w.heap.size W W' → KeepsFrom W1.heap.size W W' → KeepsFrom W1.heap.size W (W'.setCell ⟨bN, 0, none⟩ (.int .i64 ((QN : Int) + 1))) ∧ (w.heap.size ≤ W.heap.size → KpS w.heap.size bTxt S W (W'.setCell ⟨bN, 0, none⟩ (.int .i64 ((QN : Int) + 1)))) ∧ Sc2 w bRes bWant bTxt bScan stop S bb (.slice (some ⟨pg, 0, none⟩) PL pc) bN D (((pre ++ [x]).length : Int)) (W'.setCell ⟨bN, 0, none⟩ (.int .i64 ((QN : Int) + 1))) ∧ (pre ++ [x]) <+: scanQ S 0) := fun W' e b k => by
            have e2 := e.setN (by omega) (by omega) (by omega) (by omega) (by omega) ((QN : Int) + 1)
            have b2 := b.setCell (p := ⟨bN, 0, none⟩) (show w.heap.size ≤ bN by omega) (.int .i64 ((QN : Int) + 1))
            rw [EN.out]
            exact ⟨k.trans ((KeepsOthers.setCell _ _ _).from _), fun _ => ⟨b2, fun _ => e2.env.txt.cell, b2.size⟩, e2, PX.out⟩
          have hltN := hlt
          clear hr cR fR XD ND ED aK hxe hxm hxp hge hli hlt PX EN
          gi_wp2_with fail
          clear cF
          generalize WD.alloc (.cells #[.int .i64 0] 3) = W3 at *
          generalize WD.heap.size = bK at *
          have hB3 := EK.env.bel.size
          have hD3 : D < W3.heap.size := by omega
          have hW3 : W.heap.size ≤ W3.heap.size := by omega
          refine wpIn_rangeFunc_ownN (F := Fence.wide.inRound l) (α := FrAt S) (l₀ := l) (r₀ := r) rfl hr2 (by omega) (gf := 35) (lb := #[.pointer (some ⟨bTxt, 0, none⟩)]) rfl trivial (enters_of Tryd.func35 (by kernel_rfl) rfl)
            ((scan1_stops 9 (by omega) bTxt w.heap.size S hzs W3 hB3 EK.env.txt.cell (HT W3 EK.env.bel)).inRound l) kpS_t (kpS_b hB3) (Below.refl _ _) (fun _ => rfl)
            (fun pre' W' => (Sc2 w bRes bWant bTxt bScan stop S bb (.slice (some ⟨pg, 0, none⟩) PL pc) bN D ((QN : Int)) W' ∧ Boxed W' bK 3 (.int .i64 (pre'.length : Int))) ∧ pre' <+: scanQ S 0 ∧ Below w.heap.size W W' ∧ KeepsFrom W1.heap.size W W')
            (fun c pre' W' => (c = .exit 4 ∧ Sc2 w bRes bWant bTxt bScan stop S bb (.slice (some ⟨pg, 0, none⟩) PL pc) bN D ((QN : Int)) W' ∧ Below w.heap.size W W' ∧ KeepsFrom W1.heap.size W W') ∨ (c = .ret ∧ ¬ pre' <+: scanQ S 0))
            (fun s X Y row hs hg hr => ⟨⟨hs.1.1.keep hg hB3 hD3 hr, boxed_own _ _ (fun _ : Unit => _) () X Y row hs.1.2 hg (fun r e => (hr r e).2)⟩, hs.2.1, hs.2.2.1.grown hg hs.1.1.env.bel.size (fun k e => Nat.le_trans hB3 (hr k e).1), ownFrom_keepsFrom (β := Unit) hW3 () X Y row hs.2.2.2 hg hr⟩)
            (fun c s X Y row hs hg hr => hs.elim (fun h => .inl ⟨h.1, h.2.1.keep hg hB3 hD3 hr, h.2.2.1.grown hg h.2.1.env.bel.size (fun k e => Nat.le_trans hB3 (hr k e).1), ownFrom_keepsFrom (β := Unit) hW3 () X Y row h.2.2.2 hg hr⟩) .inr)
            ⟨⟨EK, bK0⟩, List.nil_prefix, BK, KK⟩
            (fun y a' Wy => ∃ By, bK < By ∧ Wy.heap[By]? = some (.cells (msgV y.1.2) 27) ∧ a' = { tmps := #[.string t, .int .i64 stop, undef, .pointer (some ⟨w.heap.size, 0, none⟩), .pointer (some ⟨bRes, 0, none⟩), .string S, .pointer (some ⟨bWant, 0, none⟩), .pointer (some ⟨bScan, 0, none⟩), .pointer (some ⟨bN, 0, none⟩), undef, undef, .int .i64 (pi : Int), .pointer (some ⟨Bx, 0, none⟩), .pointer (some ⟨bK, 0, none⟩), .int .i64 (y.1.1 : Int), .pointer (some ⟨By, 0, none⟩), .string t, .string S, .string S, .slice (some ⟨pg, 0, none⟩) PL pc, .string S, .func (.func 35) #[] #[.pointer (some ⟨bTxt, 0, none⟩)], .func (.func 35) #[] #[.pointer (some ⟨bTxt, 0, none⟩)], .bool false, .func (.func 35) #[] #[.pointer (some ⟨bTxt, 0, none⟩)], undef, undef, undef, undef, undef, undef, undef, undef, undef, undef, undef, undef, undef, undef, undef, undef, undef, undef, undef, undef, undef, undef, undef, undef, undef, undef, undef, undef, undef, u54, u55, u56, u57, u58, u59, u60, u61, u62, .func (.func 35) #[] #[.pointer (some ⟨bTxt, 0, none⟩)], .int .i64 (pi : Int), .agg (msgV pm), .int .i64 (QN : Int), .slice (some ⟨pg, 0, none⟩) PL pc, .int .i64 (PL : Int), .bool false, .bool false, .int .i64 (pi : Int), .slice (some ⟨pg, 0, none⟩) PL pc, .int .i64 (QN : Int), .pointer (some ⟨pg, QN * 13, none⟩), .pointer (some ⟨pg, QN * 13, none⟩), .int .i64 (pi : Int), .bool false, .bool false, .bool false, .agg (msgV pm), .slice (some ⟨pg, 0, none⟩) PL pc, .int .i64 (QN : Int), .pointer (some ⟨pg, QN * 13, none⟩), .pointer (some ⟨pg, QN * 13 + 2, none⟩), .agg (msgV pm), .bool (!true), .bool (!true), .func (.func 35) #[] #[.pointer (some ⟨bTxt, 0, none⟩)], .int .i64 (y.1.1 : Int), .agg (msgV y.1.2), undef, undef, undef, undef, undef, undef, undef, undef, undef, undef, undef, undef, undef, undef, undef, undef, undef, undef, undef, undef, undef, undef, undef, undef, undef, undef, undef, undef, undef, undef, undef, undef, undef, undef], defers := [] })
            (fun x a' _ X Y row hs hg hr => by obtain ⟨Bx, h1, h2, h3⟩ := hs; exact ⟨Bx, h1, msgBox_kept h2 hg (fun r e => (hr r e).2), h3⟩)
            ?assign3 ?body3 ?done3 ?stop3
          case assign3 =>
            rintro l3 pre' y Wy K' ⟨⟨hE, hKb⟩, hpre, hBW, hKW⟩ hK
            obtain ⟨WX, eX, hX, bX1, _⟩ := laid_new (Below.refl _ Wy) y.1.2
            have HK := hide hK
            have hs3 := hKb.lt
            have hs4 := hE.env.bel.size
            clear hK
            gi_wp2_with (refine wpListIn_storeMsg rfl (.tmp 15) (.tmp 90) rfl Wy.heap.size rfl y.1.2 (mm0 0) rfl (heap_last _ _) ?_)
            rw [← eX]
            exact HK.out _ _ (keeps_below bX1) (kpS_below bX1) ⟨⟨hE.below bX1, box_below hKb bX1⟩, hpre, hBW.trans (bX1.mono hs4), hKW.trans (keeps_below bX1)⟩ ⟨Wy.heap.size, hs3, hX, rfl⟩
          case body3 =>
            rintro l3 pre x a' W hl3 ⟨r3, hr3⟩ ⟨⟨hE, hKb⟩, hpre, hBW, hKW⟩ ⟨Bx, hBx, bX, rfl⟩ hlt
            rw [hQL] at hlt
            have hEs := hE.env.bel.size
            obtain ⟨hxi, hxn⟩ := x.2
            have PI := pref_iff hpre (by rw [hQL]; exact hlt) x
            have hqs : pre.length < (splitP S 0).length := by rw [hPL]; exact hlt
            have PA := pie_at (q := pre.length) (by rw [hQL]; exact hlt) hqs
            obtain ⟨xi, hex⟩ : ∃ xi, x.1.1 = xi := ⟨_, rfl⟩
            obtain ⟨xm, hem⟩ : ∃ xm, x.1.2 = xm := ⟨_, rfl⟩
            obtain ⟨⟨pi, pn, pm⟩, hpe⟩ : ∃ p, p = (splitP S 0)[pre.length] := ⟨_, rfl⟩
            have SAME : Hid (pre ++ [x] <+: scanQ S 0 ↔ xi = pi ∧ xm = pm) := by
              show _ ↔ _
              rw [PI, ← hex, ← hem]
              rw [← hpe] at PA
              unfold toP at PA
              simp only [Prod.mk.injEq] at PA
              obtain ⟨p1, _, p3⟩ := PA
              rw [p1, p3]
              constructor
              · rintro rfl; exact ⟨rfl, rfl⟩
              · rintro ⟨e1, e2⟩; exact Subtype.ext (Prod.ext e1 e2)
            rw [hem] at bX
            obtain ⟨vpp, w1', w2', w3'⟩ := hE.env.wnt
            subst w3'
            have bD : Below W.heap.size W W.drew := (Below.refl _ W).drew
            have ED := hE.below bD
            have ND := box_below hKb bD
            have XD := blk_keep bX bD
            have RD : W.drew.rangeAt pg (pre.length * 13) (pieL (pi, pn, pm)) := by
              obtain ⟨vq, u1, u2, u3⟩ := ED.env.wnt
              subst u3
              obtain ⟨ba, cp, e1, kk⟩ := own_pie u2
              obtain ⟨g, hg1, _, hg3⟩ := kk (by omega)
              rw [hg1, hPL] at e1
              simp only [Value.slice.injEq, Option.some.injEq, Addr.mk.injEq, and_true, true_and] at e1
              have e1' : pg = g := e1.1
              rw [e1', hpe]
              exact pcs_range hg3 _ hqs
            have S0 : W.drew.cell? ⟨bK, 0, none⟩ = some (.int .i64 (pre.length : Int)) ∧ W.drew.cell? ⟨bWant, 0, none⟩ = some (.slice (some ⟨pg, 0, none⟩) PL pc) ∧ W.drew.rangeAt Bx 0 (msgV xm).toList ∧ W.drew.cell? ⟨pg, pre.length * 13, none⟩ = some (.int .i64 (pi : Int)) ∧ W.drew.rangeAt pg (pre.length * 13 + 2) (msgV pm).toList := by
              obtain ⟨vq, u1, u2, u3⟩ := ED.env.wnt
              subst u3
              refine ⟨ND.cell, u1.cell, msg_range XD, RD 0 _ rfl, fun j u hj => ?_⟩
              have := RD (2 + j) u (by rw [show pieL (pi, pn, pm) = .int .i64 (pi : Int) :: .int .i64 (pn : Int) :: (msgV pm).toList from rfl, Nat.add_comm 2 j]; exact hj)
              rw [show pre.length * 13 + 2 + j = pre.length * 13 + (2 + j) by omega]; exact this
            simp only [hex, hem]
            clear hex hem hpe PA PI hqs w1' w2' RD hxi hxn
            have kD : KeepsFrom W3.heap.size W W.drew := keeps_below bD
            obtain ⟨Q, hQ⟩ : ∃ Q, pre.length = Q := ⟨_, rfl⟩
            have hQ1 : (pre ++ [x]).length = Q + 1 := by rw [List.length_append, hQ]; rfl
            rw [hQ] at ND S0 hlt
            have hge : decide ((PL : Int) ≤ (Q : Int)) = false := decide_eq_false (by omega)
            have hli : (Q : Int) < (PL : Int) := by omega
            have RETX : Hid (¬ (xi = pi ∧ xm = pm) → ¬ (pre ++ [x]) <+: scanQ S 0) := fun h e => h (SAME.out.1 e)
            have GO : Hid (xi = pi ∧ xm = pm → (pre ++ [x]) <+: scanQ S 0) := fun h => SAME.out.2 h
            have EN : Hid ((((pre ++ [x]).length : Nat) : Int) = (Q : Int) + 1) := by show _ = _; rw [hQ1]; omega
            clear hQ hQ1 hpre SAME hE bX hKb hr3
            gi_wp2_with fail
            by_cases hxe : xi = pi
            case neg =>
              have hxp : ((xi : Int) != (pi : Int)) = true := bne_iff_ne.2 (by omega)
              refine wpIn_region_round (l := l3) (S := fun X => X.cell? ⟨bK, 0, none⟩ = some (.int .i64 (Q : Int)) ∧ X.cell? ⟨bWant, 0, none⟩ = some (.slice (some ⟨pg, 0, none⟩) PL pc) ∧ X.rangeAt Bx 0 (msgV xm).toList ∧ X.cell? ⟨pg, Q * 13, none⟩ = some (.int .i64 (pi : Int)) ∧ X.rangeAt pg (Q * 13 + 2) (msgV pm).toList) (by kernel_rfl) (by kernel_rfl) (fun _ _ h => h) S0 (fun hHeld => ?_)
              refine wpAnyH_take (i := 0) (v := (.int .i64 (Q : Int))) rfl (by kernel_rfl) (by kernel_rfl) (by kernel_rfl) (fun _ _ _ h => h) (Or.inl ⟨by rfl, ?_⟩) (by assumption) ?_
              · intro w' hSw
                (try dsimp only at hSw)
                (obtain ⟨h1, h2, h3, h4, h5⟩ := hSw; go_simp)
              (try simp only [Act.put, List.setIfInBounds_toArray, List.set_cons_zero, List.set_cons_succ])
              refine wpAnyH_take (i := 1) (v := (.slice (some ⟨pg, 0, none⟩) PL pc)) rfl (by kernel_rfl) (by kernel_rfl) (by kernel_rfl) (fun _ _ _ h => h) (Or.inl ⟨by rfl, ?_⟩) (by assumption) ?_
              · intro w' hSw
                (try dsimp only at hSw)
                (obtain ⟨h1, h2, h3, h4, h5⟩ := hSw; go_simp)
              (try simp only [Act.put, List.setIfInBounds_toArray, List.set_cons_zero, List.set_cons_succ])
              refine wpAnyH_take (i := 2) (v := (.int .i64 (PL : Int))) rfl (by kernel_rfl) (by kernel_rfl) (by kernel_rfl) (fun _ _ _ h => h) (Or.inl ⟨by rfl, ?_⟩) (by assumption) ?_
              · intro w' hSw
                (try dsimp only at hSw)
                go_simp <;> first | exact i64_in (by omega) (by omega) | exact u32_in (by omega) (by omega) | exact u32_add _ _ | (rw [Int.tmod_eq_emod_of_nonneg (by omega)]; omega) | (rw [Int.tdiv_eq_ediv_of_nonneg (by omega)]; omega) | omega
              (try simp only [Act.put, List.setIfInBounds_toArray, List.set_cons_zero, List.set_cons_succ])
              refine wpAnyH_take (i := 3) (v := (.bool false)) rfl (by kernel_rfl) (by kernel_rfl) (by kernel_rfl) (fun _ _ _ h => h) (Or.inl ⟨by rfl, ?_⟩) (by assumption) ?_
              · intro w' hSw
                (try dsimp only at hSw)
                (go_simp <;> first | omega | simp [hge])
              (try simp only [Act.put, List.setIfInBounds_toArray, List.set_cons_zero, List.set_cons_succ])
              refine wpAnyH_take (i := 4) (v := (.bool false)) rfl (by kernel_rfl) (by kernel_rfl) (by kernel_rfl) (fun _ _ _ h => h) (Or.inl ⟨by rfl, ?_⟩) (by assumption) ?_
              · intro w' hSw
                (try dsimp only at hSw)
                go_simp <;> first | exact i64_in (by omega) (by omega) | exact u32_in (by omega) (by omega) | exact u32_add _ _ | (rw [Int.tmod_eq_emod_of_nonneg (by omega)]; omega) | (rw [Int.tdiv_eq_ediv_of_nonneg (by omega)]; omega) | omega
              (try simp only [Act.put, List.setIfInBounds_toArray, List.set_cons_zero, List.set_cons_succ])
              refine wpAnyH_take (i := 5) (v := (.int .i64 (xi : Int))) rfl (by kernel_rfl) (by kernel_rfl) (by kernel_rfl) (fun _ _ _ h => h) (Or.inl ⟨by kernel_rfl, ?_⟩) (by assumption) ?_
              · intro w' hSw
                (try dsimp only at hSw)
                go_simp
              (try simp only [Act.put, List.setIfInBounds_toArray, List.set_cons_zero, List.set_cons_succ])
              refine wpAnyH_take (i := 6) (v := (.slice (some ⟨pg, 0, none⟩) PL pc)) rfl (by kernel_rfl) (by kernel_rfl) (by kernel_rfl) (fun _ _ _ h => h) (Or.inl ⟨by kernel_rfl, ?_⟩) (by assumption) ?_
              · intro w' hSw
                (try dsimp only at hSw)
                (obtain ⟨h1, h2, h3, h4, h5⟩ := hSw; go_simp)
              (try simp only [Act.put, List.setIfInBounds_toArray, List.set_cons_zero, List.set_cons_succ])
              refine wpAnyH_take (i := 7) (v := (.int .i64 (Q : Int))) rfl (by kernel_rfl) (by kernel_rfl) (by kernel_rfl) (fun _ _ _ h => h) (Or.inl ⟨by kernel_rfl, ?_⟩) (by assumption) ?_
              · intro w' hSw
                (try dsimp only at hSw)
                (obtain ⟨h1, h2, h3, h4, h5⟩ := hSw; go_simp)
              (try simp only [Act.put, List.setIfInBounds_toArray, List.set_cons_zero, List.set_cons_succ])
              refine wpAnyH_take (i := 8) (v := (.pointer (some ⟨pg, Q * 13, none⟩))) rfl (by kernel_rfl) (by kernel_rfl) (by kernel_rfl) (fun _ _ _ h => h) (Or.inl ⟨by kernel_rfl, ?_⟩) (by assumption) ?_
              · intro w' hSw
                (try dsimp only at hSw)
                (go_simp <;> omega)
              (try simp only [Act.put, List.setIfInBounds_toArray, List.set_cons_zero, List.set_cons_succ])
              refine wpAnyH_take (i := 9) (v := (.pointer (some ⟨pg, Q * 13, none⟩))) rfl (by kernel_rfl) (by kernel_rfl) (by kernel_rfl) (fun _ _ _ h => h) (Or.inl ⟨by kernel_rfl, ?_⟩) (by assumption) ?_
              · intro w' hSw
                (try dsimp only at hSw)
                go_simp
              (try simp only [Act.put, List.setIfInBounds_toArray, List.set_cons_zero, List.set_cons_succ])
              refine wpAnyH_take (i := 10) (v := (.int .i64 (pi : Int))) rfl (by kernel_rfl) (by kernel_rfl) (by kernel_rfl) (fun _ _ _ h => h) (Or.inl ⟨by kernel_rfl, ?_⟩) (by assumption) ?_
              · intro w' hSw
                (try dsimp only at hSw)
                (obtain ⟨h1, h2, h3, h4, h5⟩ := hSw; go_simp)
              (try simp only [Act.put, List.setIfInBounds_toArray, List.set_cons_zero, List.set_cons_succ])
              refine wpAnyH_take (i := 11) (v := (.bool true)) rfl (by kernel_rfl) (by kernel_rfl) (by kernel_rfl) (fun _ _ _ h => h) (Or.inl ⟨by kernel_rfl, ?_⟩) (by assumption) ?_
              · intro w' hSw
                (try dsimp only at hSw)
                (go_simp <;> simp [hxp])
              (try simp only [Act.put, List.setIfInBounds_toArray, List.set_cons_zero, List.set_cons_succ])
              refine wpAnyH_take (i := 12) (v := (.bool true)) rfl (by kernel_rfl) (by kernel_rfl) (by kernel_rfl) (fun _ _ _ h => h) (Or.inl ⟨by rfl, ?_⟩) (by assumption) ?_
              · intro w' hSw
                (try dsimp only at hSw)
                go_simp <;> first | exact i64_in (by omega) (by omega) | exact u32_in (by omega) (by omega) | exact u32_add _ _ | (rw [Int.tmod_eq_emod_of_nonneg (by omega)]; omega) | (rw [Int.tdiv_eq_ediv_of_nonneg (by omega)]; omega) | omega
              (try simp only [Act.put, List.setIfInBounds_toArray, List.set_cons_zero, List.set_cons_succ])
              refine wpAnyH_take (i := 13) (v := (.bool true)) rfl (by kernel_rfl) (by kernel_rfl) (by kernel_rfl) (fun _ _ _ h => h) (Or.inl ⟨by rfl, ?_⟩) (by assumption) ?_
              · intro w' hSw
                (try dsimp only at hSw)
                go_simp <;> first | exact i64_in (by omega) (by omega) | exact u32_in (by omega) (by omega) | exact u32_add _ _ | (rw [Int.tmod_eq_emod_of_nonneg (by omega)]; omega) | (rw [Int.tdiv_eq_ediv_of_nonneg (by omega)]; omega) | omega
              (try simp only [Act.put, List.setIfInBounds_toArray, List.set_cons_zero, List.set_cons_succ])
              refine wpAnyH_take (i := 14) (v := undef) rfl (by kernel_rfl) (by kernel_rfl) (by kernel_rfl) (fun _ _ _ h => h) (Or.inr ⟨by kernel_rfl, rfl⟩) (by assumption) ?_
              (try simp only [Act.put, List.setIfInBounds_toArray, List.set_cons_zero, List.set_cons_succ])
              refine wpAnyH_take (i := 15) (v := undef) rfl (by kernel_rfl) (by kernel_rfl) (by kernel_rfl) (fun _ _ _ h => h) (Or.inr ⟨by kernel_rfl, rfl⟩) (by assumption) ?_
              (try simp only [Act.put, List.setIfInBounds_toArray, List.set_cons_zero, List.set_cons_succ])
              refine wpAnyH_take (i := 16) (v := undef) rfl (by kernel_rfl) (by kernel_rfl) (by kernel_rfl) (fun _ _ _ h => h) (Or.inr ⟨by kernel_rfl, rfl⟩) (by assumption) ?_
              (try simp only [Act.put, List.setIfInBounds_toArray, List.set_cons_zero, List.set_cons_succ])
              refine wpAnyH_take (i := 17) (v := undef) rfl (by kernel_rfl) (by kernel_rfl) (by kernel_rfl) (fun _ _ _ h => h) (Or.inr ⟨by kernel_rfl, rfl⟩) (by assumption) ?_
              (try simp only [Act.put, List.setIfInBounds_toArray, List.set_cons_zero, List.set_cons_succ])
              refine wpAnyH_take (i := 18) (v := undef) rfl (by kernel_rfl) (by kernel_rfl) (by kernel_rfl) (fun _ _ _ h => h) (Or.inr ⟨by kernel_rfl, rfl⟩) (by assumption) ?_
              (try simp only [Act.put, List.setIfInBounds_toArray, List.set_cons_zero, List.set_cons_succ])
              refine wpAnyH_take (i := 19) (v := undef) rfl (by kernel_rfl) (by kernel_rfl) (by kernel_rfl) (fun _ _ _ h => h) (Or.inr ⟨by kernel_rfl, rfl⟩) (by assumption) ?_
              (try simp only [Act.put, List.setIfInBounds_toArray, List.set_cons_zero, List.set_cons_succ])
              refine wpAnyH_take (i := 20) (v := undef) rfl (by kernel_rfl) (by kernel_rfl) (by kernel_rfl) (fun _ _ _ h => h) (Or.inr ⟨by kernel_rfl, rfl⟩) (by assumption) ?_
              (try simp only [Act.put, List.setIfInBounds_toArray, List.set_cons_zero, List.set_cons_succ])
              refine wpAnyH_ready (rs := [21]) (by kernel_rfl) (by simp) ?_
              refine AllReadyH.cons rfl (fun K hK => ?_) AllReadyH.nil
              go_simp
              refine hK.out _ _ (hHeld) (fun hHeld => ?_)
              clear hK
              (try simp only [Act.put, List.setIfInBounds_toArray, List.set_cons_zero, List.set_cons_succ])
              refine wpAnyH_done (by kernel_rfl) ?_ _
              clear hHeld
              have cR := ED.env.res.cell
              have fR := ED.env.res.frozen
              generalize W.drew = WD at *
              gi_wp2_with fail
              exact ⟨kD.trans ((KeepsOthers.setCell _ _ _).from _), (fun h => Or.inr (And.intro rfl h)) (RETX.out (fun h => hxe h.1))⟩
            case pos =>
              have hxp : ((xi : Int) != (pi : Int)) = false := by rw [hxe]; simp
              refine wpIn_region_round (l := l3) (S := fun X => X.cell? ⟨bK, 0, none⟩ = some (.int .i64 (Q : Int)) ∧ X.cell? ⟨bWant, 0, none⟩ = some (.slice (some ⟨pg, 0, none⟩) PL pc) ∧ X.rangeAt Bx 0 (msgV xm).toList ∧ X.cell? ⟨pg, Q * 13, none⟩ = some (.int .i64 (pi : Int)) ∧ X.rangeAt pg (Q * 13 + 2) (msgV pm).toList) (by kernel_rfl) (by kernel_rfl) (fun _ _ h => h) S0 (fun hHeld => ?_)
              refine wpAnyH_take (i := 0) (v := (.int .i64 (Q : Int))) rfl (by kernel_rfl) (by kernel_rfl) (by kernel_rfl) (fun _ _ _ h => h) (Or.inl ⟨by rfl, ?_⟩) (by assumption) ?_
              · intro w' hSw
                (try dsimp only at hSw)
                (obtain ⟨h1, h2, h3, h4, h5⟩ := hSw; go_simp)
              (try simp only [Act.put, List.setIfInBounds_toArray, List.set_cons_zero, List.set_cons_succ])
              refine wpAnyH_take (i := 1) (v := (.slice (some ⟨pg, 0, none⟩) PL pc)) rfl (by kernel_rfl) (by kernel_rfl) (by kernel_rfl) (fun _ _ _ h => h) (Or.inl ⟨by rfl, ?_⟩) (by assumption) ?_
              · intro w' hSw
                (try dsimp only at hSw)
                (obtain ⟨h1, h2, h3, h4, h5⟩ := hSw; go_simp)
              (try simp only [Act.put, List.setIfInBounds_toArray, List.set_cons_zero, List.set_cons_succ])
              refine wpAnyH_take (i := 2) (v := (.int .i64 (PL : Int))) rfl (by kernel_rfl) (by kernel_rfl) (by kernel_rfl) (fun _ _ _ h => h) (Or.inl ⟨by rfl, ?_⟩) (by assumption) ?_
              · intro w' hSw
                (try dsimp only at hSw)
                go_simp <;> first | exact i64_in (by omega) (by omega) | exact u32_in (by omega) (by omega) | exact u32_add _ _ | (rw [Int.tmod_eq_emod_of_nonneg (by omega)]; omega) | (rw [Int.tdiv_eq_ediv_of_nonneg (by omega)]; omega) | omega
              (try simp only [Act.put, List.setIfInBounds_toArray, List.set_cons_zero, List.set_cons_succ])
              refine wpAnyH_take (i := 3) (v := (.bool false)) rfl (by kernel_rfl) (by kernel_rfl) (by kernel_rfl) (fun _ _ _ h => h) (Or.inl ⟨by rfl, ?_⟩) (by assumption) ?_
              · intro w' hSw
                (try dsimp only at hSw)
                (go_simp <;> first | omega | simp [hge])
              (try simp only [Act.put, List.setIfInBounds_toArray, List.set_cons_zero, List.set_cons_succ])
              refine wpAnyH_take (i := 4) (v := (.bool false)) rfl (by kernel_rfl) (by kernel_rfl) (by kernel_rfl) (fun _ _ _ h => h) (Or.inl ⟨by rfl, ?_⟩) (by assumption) ?_
              · intro w' hSw
                (try dsimp only at hSw)
                go_simp <;> first | exact i64_in (by omega) (by omega) | exact u32_in (by omega) (by omega) | exact u32_add _ _ | (rw [Int.tmod_eq_emod_of_nonneg (by omega)]; omega) | (rw [Int.tdiv_eq_ediv_of_nonneg (by omega)]; omega) | omega
              (try simp only [Act.put, List.setIfInBounds_toArray, List.set_cons_zero, List.set_cons_succ])
              refine wpAnyH_take (i := 5) (v := (.int .i64 (xi : Int))) rfl (by kernel_rfl) (by kernel_rfl) (by kernel_rfl) (fun _ _ _ h => h) (Or.inl ⟨by kernel_rfl, ?_⟩) (by assumption) ?_
              · intro w' hSw
                (try dsimp only at hSw)
                go_simp
              (try simp only [Act.put, List.setIfInBounds_toArray, List.set_cons_zero, List.set_cons_succ])
              refine wpAnyH_take (i := 6) (v := (.slice (some ⟨pg, 0, none⟩) PL pc)) rfl (by kernel_rfl) (by kernel_rfl) (by kernel_rfl) (fun _ _ _ h => h) (Or.inl ⟨by kernel_rfl, ?_⟩) (by assumption) ?_
              · intro w' hSw
                (try dsimp only at hSw)
                (obtain ⟨h1, h2, h3, h4, h5⟩ := hSw; go_simp)
              (try simp only [Act.put, List.setIfInBounds_toArray, List.set_cons_zero, List.set_cons_succ])
              refine wpAnyH_take (i := 7) (v := (.int .i64 (Q : Int))) rfl (by kernel_rfl) (by kernel_rfl) (by kernel_rfl) (fun _ _ _ h => h) (Or.inl ⟨by kernel_rfl, ?_⟩) (by assumption) ?_
              · intro w' hSw
                (try dsimp only at hSw)
                (obtain ⟨h1, h2, h3, h4, h5⟩ := hSw; go_simp)
              (try simp only [Act.put, List.setIfInBounds_toArray, List.set_cons_zero, List.set_cons_succ])
              refine wpAnyH_take (i := 8) (v := (.pointer (some ⟨pg, Q * 13, none⟩))) rfl (by kernel_rfl) (by kernel_rfl) (by kernel_rfl) (fun _ _ _ h => h) (Or.inl ⟨by kernel_rfl, ?_⟩) (by assumption) ?_
              · intro w' hSw
                (try dsimp only at hSw)
                (go_simp <;> omega)
              (try simp only [Act.put, List.setIfInBounds_toArray, List.set_cons_zero, List.set_cons_succ])
              refine wpAnyH_take (i := 9) (v := (.pointer (some ⟨pg, Q * 13, none⟩))) rfl (by kernel_rfl) (by kernel_rfl) (by kernel_rfl) (fun _ _ _ h => h) (Or.inl ⟨by kernel_rfl, ?_⟩) (by assumption) ?_
              · intro w' hSw
                (try dsimp only at hSw)
                go_simp
              (try simp only [Act.put, List.setIfInBounds_toArray, List.set_cons_zero, List.set_cons_succ])
              refine wpAnyH_take (i := 10) (v := (.int .i64 (pi : Int))) rfl (by kernel_rfl) (by kernel_rfl) (by kernel_rfl) (fun _ _ _ h => h) (Or.inl ⟨by kernel_rfl, ?_⟩) (by assumption) ?_
              · intro w' hSw
                (try dsimp only at hSw)
                (obtain ⟨h1, h2, h3, h4, h5⟩ := hSw; go_simp)
              (try simp only [Act.put, List.setIfInBounds_toArray, List.set_cons_zero, List.set_cons_succ])
              refine wpAnyH_take (i := 11) (v := (.bool false)) rfl (by kernel_rfl) (by kernel_rfl) (by kernel_rfl) (fun _ _ _ h => h) (Or.inl ⟨by kernel_rfl, ?_⟩) (by assumption) ?_
              · intro w' hSw
                (try dsimp only at hSw)
                (go_simp <;> simp [hxp])
              (try simp only [Act.put, List.setIfInBounds_toArray, List.set_cons_zero, List.set_cons_succ])
              refine wpAnyH_take (i := 12) (v := (.bool false)) rfl (by kernel_rfl) (by kernel_rfl) (by kernel_rfl) (fun _ _ _ h => h) (Or.inl ⟨by rfl, ?_⟩) (by assumption) ?_
              · intro w' hSw
                (try dsimp only at hSw)
                go_simp <;> first | exact i64_in (by omega) (by omega) | exact u32_in (by omega) (by omega) | exact u32_add _ _ | (rw [Int.tmod_eq_emod_of_nonneg (by omega)]; omega) | (rw [Int.tdiv_eq_ediv_of_nonneg (by omega)]; omega) | omega
              (try simp only [Act.put, List.setIfInBounds_toArray, List.set_cons_zero, List.set_cons_succ])
              refine wpAnyH_take (i := 13) (v := (.bool false)) rfl (by kernel_rfl) (by kernel_rfl) (by kernel_rfl) (fun _ _ _ h => h) (Or.inl ⟨by rfl, ?_⟩) (by assumption) ?_
              · intro w' hSw
                (try dsimp only at hSw)
                go_simp <;> first | exact i64_in (by omega) (by omega) | exact u32_in (by omega) (by omega) | exact u32_add _ _ | (rw [Int.tmod_eq_emod_of_nonneg (by omega)]; omega) | (rw [Int.tdiv_eq_ediv_of_nonneg (by omega)]; omega) | omega
              (try simp only [Act.put, List.setIfInBounds_toArray, List.set_cons_zero, List.set_cons_succ])
              refine wpAnyH_take (i := 14) (v := .agg (msgV xm)) rfl (by kernel_rfl) (by kernel_rfl) (by kernel_rfl) (fun _ _ _ h => h) (yieldsIf_load_mid ?hw14 27 (.tmp 15) ?ho14 Bx 0 ?hx14 (msgV xm).toList _ (fun w' h => h.2.2.1) Tryd.underlying27 rfl infoMs11) (by assumption) ?_
              case hw14 => kernel_rfl
              case ho14 => rfl
              case hx14 => kernel_rfl
              (try simp only [Act.put, List.getElem_toArray, List.getElem_cons_zero, List.getElem_cons_succ, List.setIfInBounds_toArray, List.set_cons_zero, List.set_cons_succ])
              refine wpAnyH_take (i := 15) (v := (.slice (some ⟨pg, 0, none⟩) PL pc)) rfl (by kernel_rfl) (by kernel_rfl) (by kernel_rfl) (fun _ _ _ h => h) (Or.inl ⟨by kernel_rfl, ?_⟩) (by assumption) ?_
              · intro w' hSw
                (try dsimp only at hSw)
                (obtain ⟨h1, h2, h3, h4, h5⟩ := hSw; go_simp)
              (try simp only [Act.put, List.setIfInBounds_toArray, List.set_cons_zero, List.set_cons_succ])
              refine wpAnyH_take (i := 16) (v := (.int .i64 (Q : Int))) rfl (by kernel_rfl) (by kernel_rfl) (by kernel_rfl) (fun _ _ _ h => h) (Or.inl ⟨by kernel_rfl, ?_⟩) (by assumption) ?_
              · intro w' hSw
                (try dsimp only at hSw)
                (obtain ⟨h1, h2, h3, h4, h5⟩ := hSw; go_simp)
              (try simp only [Act.put, List.setIfInBounds_toArray, List.set_cons_zero, List.set_cons_succ])
              refine wpAnyH_take (i := 17) (v := (.pointer (some ⟨pg, Q * 13, none⟩))) rfl (by kernel_rfl) (by kernel_rfl) (by kernel_rfl) (fun _ _ _ h => h) (Or.inl ⟨by kernel_rfl, ?_⟩) (by assumption) ?_
              · intro w' hSw
                (try dsimp only at hSw)
                (go_simp <;> omega)
              (try simp only [Act.put, List.setIfInBounds_toArray, List.set_cons_zero, List.set_cons_succ])
              refine wpAnyH_take (i := 18) (v := (.pointer (some ⟨pg, Q * 13 + 2, none⟩))) rfl (by kernel_rfl) (by kernel_rfl) (by kernel_rfl) (fun _ _ _ h => h) (Or.inl ⟨by kernel_rfl, ?_⟩) (by assumption) ?_
              · intro w' hSw
                (try dsimp only at hSw)
                go_simp
              (try simp only [Act.put, List.setIfInBounds_toArray, List.set_cons_zero, List.set_cons_succ])
              refine wpAnyH_take (i := 19) (v := .agg (msgV pm)) rfl (by kernel_rfl) (by kernel_rfl) (by kernel_rfl) (fun _ _ _ h => h) (yieldsIf_load_mid ?hw19 27 (.tmp 109) ?ho19 pg (Q * 13 + 2) ?hx19 (msgV pm).toList _ (fun w' h => h.2.2.2.2) Tryd.underlying27 rfl infoMs11) (by assumption) ?_
              case hw19 => kernel_rfl
              case ho19 => rfl
              case hx19 => kernel_rfl
              (try simp only [Act.put, List.getElem_toArray, List.getElem_cons_zero, List.getElem_cons_succ, List.setIfInBounds_toArray, List.set_cons_zero, List.set_cons_succ])
              refine wpAnyH_take (i := 20) (v := (.bool (!sameM xm pm))) rfl (by kernel_rfl) (by kernel_rfl) (by kernel_rfl) (fun _ _ _ h => h) (Or.inl ⟨by kernel_rfl, ?_⟩) (by assumption) ?_
              · intro w' hSw
                (try dsimp only at hSw)
                exact run_neqM _ _ _ _ _ _ _ _ xm pm (by kernel_rfl) (by kernel_rfl)
              (try simp only [Act.put, List.setIfInBounds_toArray, List.set_cons_zero, List.set_cons_succ])
              refine wpAnyH_ready (rs := [21]) (by kernel_rfl) (by simp) ?_
              refine AllReadyH.cons rfl (fun K hK => ?_) AllReadyH.nil
              go_simp
              refine hK.out _ _ (hHeld) (fun hHeld => ?_)
              clear hK
              (try simp only [Act.put, List.setIfInBounds_toArray, List.set_cons_zero, List.set_cons_succ])
              refine wpAnyH_done (by kernel_rfl) ?_ _
              clear hHeld
              have cR := ED.env.res.cell
              have fR := ED.env.res.frozen
              generalize W.drew = WD at *
              by_cases hxm : xm = pm
              case neg =>
                rw [sameM_no hxm]
                gi_wp2_with fail
                exact ⟨kD.trans ((KeepsOthers.setCell _ _ _).from _), (fun h => Or.inr (And.intro rfl h)) (RETX.out (fun h => hxm h.2))⟩
              case pos =>
                rw [hxm, sameM_self]
                have PX := hide (GO.out ⟨hxe, hxm⟩)
                clear GO RETX S0
                have QS := ND.set (.int .i64 ((Q : Int) + 1))
                have ES3 := ED.setK ND (by omega) (by omega) (by omega) (by omega) (by omega) (by omega) (.int .i64 ((Q : Int) + 1))
                have nK := kD.trans ((KeepsOthers.setCell WD ⟨bK, 0, none⟩ (.int .i64 ((Q : Int) + 1))).from W3.heap.size)
                have nK1 := (hKW.trans (keeps_below (B := W1.heap.size) bD)).trans ((KeepsOthers.setCell WD ⟨bK, 0, none⟩ (.int .i64 ((Q : Int) + 1))).from W1.heap.size)
                have nBx := (bD.mono hEs).setCell (p := ⟨bK, 0, none⟩) (show w.heap.size ≤ bK by omega) (.int .i64 ((Q : Int) + 1))
                have nB1 := hBW.trans nBx
                have cN := ND.cell
                have fN := ND.frozen
                have cK2 := QS.cell
                have cN2 := ES3.nbx.cell
                have NK := hide nK
                have NK1 := hide nK1
                have NBX := hide nBx
                have NB1 := hide nB1
                have NE := hide ES3
                have NN := hide QS
                clear nK nK1 nBx nB1 ES3 QS hKW hBW ED ND XD
                gi_wp2_with fail
                all_goals first
                  | exact ⟨NK.out, fun _ => ⟨NBX.out, fun _ => NE.out.env.txt.cell, NBX.out.size⟩, ⟨NE.out, by rw [EN.out]; exact NN.out⟩, PX.out, NB1.out, NK1.out⟩
                  | exact ⟨NK.out, .inl ⟨rfl, NE.out, NB1.out, NK1.out⟩⟩
          case done3 =>
            rintro zs W' rfl ⟨⟨hE, hKb⟩, hpre, hBW, hKW⟩
            have F1 := hide (FIN.out W' hE hBW hKW)
            have cN := hE.nbx.cell
            have fN := hE.nbx.frozen
            gi_wp2_with fail
            exact F1.out
          case stop3 =>
            rintro c pre' W' hp hI
            rcases hI with ⟨rfl, hE, hBW, hKW⟩ | ⟨rfl, hno⟩
            · have F1 := hide (FIN.out W' hE hBW hKW)
              have cN := hE.nbx.cell
              have fN := hE.nbx.frozen
              gi_wp2_with fail
              exact F1.out
            · exact absurd hp hno
    case done =>
      rintro D2 zs W hD2 rfl ⟨hE, hpre⟩ hK2
      rw [hQL] at hE
      have cN := hE.nbx.cell
      obtain ⟨vq, u1, _, u3⟩ := hE.env.wnt
      subst u3
      have cW := u1.cell
      have cR := hE.env.res.cell
      have fR := hE.env.res.frozen
      have nE := hE.env.res
      have n2 : D2 ≠ bRes := fun e => by rw [e] at hK2; have := (show W.heap[bRes]? = _ from nE).symm.trans hK2; cases this
      have n1 : D ≠ bRes := fun e => by have hx := hE.dfr; rw [e] at hx; have := (show W.heap[bRes]? = _ from nE).symm.trans hx; cases this
      have nD : D ≠ D2 := by omega
      have nR := nE.set (.bool true)
      have nB : Below w.heap.size w (W.setCell ⟨bRes, 0, none⟩ (.bool true)) := hE.env.bel.setCell (p := ⟨bRes, 0, none⟩) (by show w.heap.size ≤ bRes; omega) _
      have k2 : (W.setCell ⟨bRes, 0, none⟩ (.bool true)).heap[D2]? = some (.deferred (some [])) := (Below.heap_setCell _ _ _ D2 n2).trans hK2
      have k1 : (W.setCell ⟨bRes, 0, none⟩ (.bool true)).heap[D]? = some (.deferred (some [])) := (Below.heap_setCell _ _ _ D n1).trans hE.dfr
      gi_wp2_with fail
      generalize W.setCell ⟨bRes, 0, none⟩ (.bool true) = WR at *
      have g2 := grownBy_putObj' WR D2 (.deferred none)
      have k1' : (WR.putObj D2 (.deferred none)).heap[D]? = some (.deferred (some [])) := (g2.block D (blk_lt k1) (fun e => nD (by cases e; rfl))).trans k1
      have g1 := grownBy_putObj' (WR.putObj D2 (.deferred none)) D (.deferred none)
      have r2 : Boxed (WR.putObj D2 (.deferred none)) bRes 4 (.bool true) := nR.kept g2 (fun e => n2 (by cases e; rfl))
      have r1 : Boxed ((WR.putObj D2 (.deferred none)).putObj D (.deferred none)) bRes 4 (.bool true) := r2.kept g1 (fun e => n1 (by cases e; rfl))
      have B2 : Below w.heap.size w (WR.putObj D2 (.deferred none)) := nB.grown g2 nB.size (fun k e => by cases e; omega)
      have B1 : Below w.heap.size w ((WR.putObj D2 (.deferred none)).putObj D (.deferred none)) := B2.grown g1 B2.size (fun k e => by cases e; omega)
      have cR1 := r1.cell
      refine ⟨by simp, .inl ⟨_, _, rfl, run_takeDeferred k2, ?_⟩⟩
      refine ⟨by simp, .inl ⟨_, _, rfl, run_takeDeferred k1', ?_⟩⟩
      exact ⟨_, res_bool rfl _ _ bRes true rfl cR1, rfl, B1⟩
    case stop =>
      rintro D2 c pre W hD2 hp ⟨rfl, hno⟩ hK2
      exact absurd hp hno
  clear hKr3
  have cN := hN.cell
  have cS := hE.stp.cell
  obtain ⟨vq, u1, _, u3⟩ := hE.wnt
  subst u3
  have cW := u1.cell
  by_cases hnp : n0 = PL
  · have h1 : (((n0 : Nat) : Int) != ((PL : Nat) : Int)) = false := by rw [hnp]; simp
    gi_wp2_with fail
    exact REST2.out _ _ _ _ _ _ _ _ _
  · have h1 : (((n0 : Nat) : Int) != ((PL : Nat) : Int)) = true := bne_iff_ne.2 (by omega)
    have h2 : (((n0 : Nat) : Int) != stop) = false := by rw [hn.resolve_left hnp]; simp
    gi_wp2_with fail
    exact REST2.out _ _ _ _ _ _ _ _ _
end Go.Proofs.YtgdjfocnaapooaaDoor
