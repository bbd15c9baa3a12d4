import Derived.Test.YtgdjfocnaapooaaDoorGFsAt
import Derived.Test.YtgdjfocnaapooaaDoorGFsSplit
import Derived.RangeFuncBox
namespace Go.Proofs.YtgdjfocnaapooaaDoor
open Go.RowKit Go.Shelf
attribute [local go_sem] Oper.semAt_some
theorem kpS_t {n₀ Bn : Nat} {s : ByteArray} {A B C : World} (h : n₀ ≤ A.heap.size → KpS n₀ Bn s A B) (k : n₀ ≤ B.heap.size → KpS n₀ Bn s B C) : n₀ ≤ A.heap.size → KpS n₀ Bn s A C := fun hA => (h hA).t (k (Nat.le_trans hA (h hA).2.2))
theorem kpS_b {w : World} {n₀ Bn : Nat} {s : ByteArray} (hw : n₀ ≤ w.heap.size) (W : World) (l : Nat) (o o' : Obj) (hl : w.heap.size ≤ l) (h : W.heap[l]? = some o) (hc : o.isCells = false) (hw2 : o.isWalk = false) : n₀ ≤ W.heap.size → KpS n₀ Bn s W (W.putObj l o') := fun _ =>
  have hb := belowK_b (w := w) hw W l o o' hl h hc hw2
  ⟨hb, fun hx => cell_kept hx (grownBy_putObj' W l o') (fun r e => by cases e; exact ⟨_, h, hc⟩), hb.size⟩
theorem msgBox_kept {X Y : World} {row : Option Nat} {Bx : Nat} {m : MM} (h : X.heap[Bx]? = some (.cells (msgV m) 27)) (hg : X.grownBy Y row) (hr : ∀ r, row = some r → ∃ o : Obj, X.heap[r]? = some o ∧ o.isCells = false) : Y.heap[Bx]? = some (.cells (msgV m) 27) := by
  refine (hg.block Bx (Array.getElem?_eq_some_iff.1 h).1 (fun e => ?_)).trans h
  obtain ⟨o, ho, hc⟩ := hr Bx e.symm
  rw [h] at ho; cases ho; cases hc
theorem keeps_below {B : Nat} {A C : World} (h : Below A.heap.size A C) : KeepsFrom B A C := (KeepsOthers.of_grownBy (row := none) ⟨h.os, h.tape, h.output, h.size, fun i hi _ => h.block i hi⟩ (by intro j o e; cases e)).from _
theorem box_below {A C : World} {B : Nat} {t : TypeId} {v : Value} (h : Boxed A B t v) (hb : Below A.heap.size A C) : Boxed C B t v := (hb.block _ h.lt).trans h
theorem kpS_below {n₀ Bn : Nat} {s : ByteArray} {A B : World} (hb : Below A.heap.size A B) : n₀ ≤ A.heap.size → KpS n₀ Bn s A B := fun hA => ⟨hb.mono hA, fun x => (hb.cell (World.block_lt_of_cell? A _ x)).trans x, hb.size⟩
theorem scanF_len (s : ByteArray) : ∀ f i, (scanF s f i).length ≤ f := by
  intro f
  induction f with
  | zero => intro i; exact Nat.le_refl _
  | succ f ih =>
    intro i
    unfold scanF
    split
    · split
      · exact Nat.succ_le_succ (ih _)
      · exact Nat.le_succ_of_le (ih _)
    · exact Nat.zero_le _
theorem scanQ_len (s : ByteArray) (i : Nat) : (scanQ s i).length ≤ s.size := Nat.le_trans (scanF_len s _ i) (by omega)
theorem msg_range {W : World} {Bx : Nat} {m : MM} (h : W.heap[Bx]? = some (.cells (msgV m) 27)) : W.rangeAt Bx 0 (msgV m).toList := by
  intro j u hj
  unfold World.cell?
  rw [h]
  show (msgV m)[0 + j]? = some u
  rw [Nat.zero_add, ← Array.getElem?_toList]
  exact hj
theorem blk_not_row {W : World} {B : Nat} {t e : TypeId} {cs : Array Value} (h : W.heap[B]? = some (.cells cs t)) (hte : t ≠ e) {base size k : Nat} {v : Value} {xs : List Value} (hr : W.ownsRow base e size v k xs) : some B ≠ v.ownBlock := by
  rcases hr.2 with ⟨rfl, _⟩ | ⟨g, cap, cur, rfl, _, hgb, _⟩
  · simp [Value.ownBlock]
  · intro e'
    obtain rfl : B = g := by simpa [Value.ownBlock] using e'
    have := h.symm.trans hgb
    simp at this
    exact hte this.2
theorem wp_bsPie {w : World} {o : Oper} {a : Act} {K : Act → World → Prop} {Q : Exit → Act → World → Prop} (x : Operand) (ho : o.op = .buildSlice 35 1 #[(0, x)]) (i n : Nat) (m : MM) (hx : a.eval x = .agg (pieA i n m))
    (h : K (a.put o.dst (.slice (some ⟨w.heap.size, 0, none⟩) 1 1)) (w.alloc (.cells (pieA i n m) 38))) : o.wp Tryd.prog a w K Q := by
  obtain ⟨i0, hi, hz0, hz1, hz2⟩ := info_partsF infoPc
  refine wp_buildSlice 35 38 1 _ ho (pieA i n m) i0 _ Tryd.underlying35 hi hz0 (by rw [hz1]; decide) (by rw [hz1]; decide) ?_ h
  rw [hz1]
  simp only [List.map_toArray, List.map_cons, List.map_nil, hx]
  exact fill_pie i n m _ rfl
theorem run_bldPie {w : World} {a : Act} (x0 x1 x2 : Operand) (d : Option Tmp) (ty : TypeId) (pos : String) (af : Array _) (i n : Nat) (m : MM) (h0 : a.eval x0 = .int .i64 (i : Int)) (h1 : a.eval x1 = .int .i64 (n : Int)) (h2 : a.eval x2 = .agg (msgV m)) :
    (execOp a.eval { dst := d, op := .build 38 #[(0, x0), (1, x1), (2, x2)], type := ty, pos := pos, after := af, guard := none }).run Tryd.prog w = .ok (.value (.agg (pieA i n m))) w := by
  unfold execOp
  simp only [List.map_toArray, List.map_cons, List.map_nil, h0, h1, h2, Sem.run_bind, Sem.run_pure, Result.andThen_ok, run_build w 38 _ (pieA i n m) (built_pie i n m)]
theorem infoMs11 : (Tryd.prog.info? 27).map (·.size) = some 11 := by kernel_rfl
theorem itY {c : Prop} [Decidable c] {A B : Prop} (hc : c) (h : A) : if c then A else B := by rw [if_pos hc]; exact h
theorem via {R G : Prop} (h : R → G) (r : R) : G := h r
set_option maxHeartbeats 8000000 in
set_option maxRecDepth 100000 in
set_option linter.unusedSimpArgs false in
/-- Split -/
theorem split_any (s : ByteArray) (hs : s.size ≤ 900000000000) (w : World) (hT : TabF w) (hT4 : Tab4 5 w) :
    Calls Tryd.prog 13 #[.string s] w fun e w' => ∃ v, e = .returned v ∧ w'.ownsRow w.heap.size 38 13 v (splitP s 0).length (pcs (splitP s 0)) ∧ Below w.heap.size w w' := by
  refine (callsIn_wide (n := 6)).1 ?_
  refine callsIn_of_wp_marks Tryd.func13 rfl trivial ?_ rfl
  simp only [Tryd.ntmps13, List.size_toArray, List.length_cons, List.length_nil, Nat.reduceAdd, Nat.reduceSub, Array.replicate_succ, Array.replicate_zero, List.push_toArray, List.append_toArray, List.nil_append, List.cons_append]
  gi_wp2_with fail
  refine ⟨trivial, (callsIn_wide.2 (scan_any s _)).mono ?_⟩
  rintro e w' ⟨rfl, rfl⟩
  gi_wp2_with fail
  have bS := ((Boxed.new w 9 (.string s)).alloc (.cells #[.slice none 0 0] 35)).alloc (.cells #[.string s] 9)
  have bP := (Boxed.new (w.alloc (.cells #[.string s] 9)) 35 (.slice none 0 0)).alloc (.cells #[.string s] 9)
  have bC := Boxed.new ((w.alloc (.cells #[.string s] 9)).alloc (.cells #[.slice none 0 0] 35)) 9 (.string s)
  simp only [World.size_alloc] at bP bC
  have hB0 : Below w.heap.size w (((w.alloc (.cells #[.string s] 9)).alloc (.cells #[.slice none 0 0] 35)).alloc (.cells #[.string s] 9)) := (((Below.refl _ w).alloc (Nat.le_refl _) _).alloc (by simp) _).alloc (by simp; omega) _
  have hsz : (((w.alloc (.cells #[.string s] 9)).alloc (.cells #[.slice none 0 0] 35)).alloc (.cells #[.string s] 9)).heap.size = w.heap.size + 3 := by simp
  obtain ⟨W0, hW0⟩ : ∃ W0, ((w.alloc (.cells #[.string s] 9)).alloc (.cells #[.slice none 0 0] 35)).alloc (.cells #[.string s] 9) = W0 := ⟨_, rfl⟩
  rw [hW0] at bS bP bC hB0 hsz ⊢
  clear hW0
  have HT : ∀ W', Below w.heap.size W0 W' → TabF W' ∧ Tab4 5 W' := fun W' hb => by
    have hb' := hB0.trans hb
    exact ⟨hT.below hb', fun j hj => (hb'.cell (World.block_lt_of_cell? w _ (hT4 j hj))).trans (hT4 j hj)⟩
  refine wpIn_rangeFunc_ownH (F := Fence.wide) (α := FrAt s) rfl (by omega) (gf := 35) (lb := #[.pointer (some ⟨w.heap.size + 1 + 1, 0, none⟩)]) rfl trivial (enters_of Tryd.func35 (by kernel_rfl) rfl)
    (scan1_stops 5 (by omega) (w.heap.size + 1 + 1) w.heap.size s hs W0 (by omega) bC.cell HT) kpS_t (kpS_b (by omega)) (Below.refl _ _) (fun _ => rfl)
    (fun pre W => (Boxed W w.heap.size 9 (.string s) ∧ ∃ v, Boxed W (w.heap.size + 1) 35 v ∧ W.ownsRow w.heap.size 38 13 v (pre.map toP).length (pcs (pre.map toP)) ∧ True) ∧ Below w.heap.size w W ∧ Boxed W (w.heap.size + 1 + 1) 9 (.string s))
    (fun _ _ _ => False)
    (OwnFrom.and (OwnFrom.and (Own.from (boxed_own _ _ _) _) (Own.from (holdsRow_own w.heap.size (w.heap.size + 1) 35 38 13 (fun pre : List (FrAt s) => (pre.map toP).length) (fun pre => pcs (pre.map toP)) (fun _ _ => True)) _)) (OwnFrom.and (ownFrom_below (Nat.le_refl _) (by omega)) (Own.from (boxed_own _ _ _) _)))
    (fun _ _ _ _ _ hs _ _ => hs)
    ⟨⟨bS, _, bP, World.ownsRow_nil _ _ _ _, trivial⟩, hB0, bC⟩
    (fun x a' W => ∃ Bx, w.heap.size + 2 < Bx ∧ W.heap[Bx]? = some (.cells (msgV x.1.2) 27) ∧ a' = { tmps := #[.string s, .pointer (some ⟨w.heap.size, 0, none⟩), .slice none 0 0, .pointer (some ⟨w.heap.size + 1, 0, none⟩), .int .i64 (x.1.1 : Int), .pointer (some ⟨Bx, 0, none⟩), .string s, .func (.func 35) #[] #[.pointer (some ⟨w.heap.size + 1 + 1, 0, none⟩)], .int .i64 (x.1.1 : Int), .agg (msgV x.1.2), undef, undef, undef, undef, undef, undef, undef, undef, undef, undef, undef], defers := [] })
    (fun x a' _ X Y row hs hg hr => by obtain ⟨Bx, h1, h2, h3⟩ := hs; exact ⟨Bx, h1, msgBox_kept h2 hg (fun r e => (hr r e).2), h3⟩)
    ?assign ?body ?done ?stop
  case assign =>
    rintro l pre x W K ⟨⟨bS1, v, bP1, hr1, _⟩, hB1, hc1⟩ hK
    obtain ⟨WX, eX, hX, bX1, _⟩ := laid_new (Below.refl _ W) x.1.2
    have HK := hide hK
    have hs1 := hB1.size
    have hs2 := bX1.size
    have hs3 : w.heap.size + 2 < W.heap.size := hc1.lt
    clear hK
    gi_wp2_with (refine wpListIn_storeMsg rfl (.tmp 5) (.tmp 9) rfl W.heap.size rfl x.1.2 (mm0 0) rfl (heap_last _ _) ?_)
    rw [← eX]
    exact HK.out _ _ (keeps_below bX1) (kpS_below bX1) ⟨⟨box_below bS1 bX1, v, box_below bP1 bX1, own_belowS hr1 bX1, trivial⟩, hB1.trans (bX1.mono hs1), box_below hc1 bX1⟩ ⟨W.heap.size, hs3, hX, rfl⟩
  case body =>
    rintro l pre x a' W hl ⟨r, hr⟩ ⟨⟨bS1, v, bP1, hr1, _⟩, hB1, hc1⟩ ⟨Bx, hBx, bX, rfl⟩ hlt
    obtain ⟨hxi, hxn⟩ := x.2
    have hP : Hid (toP x = (x.1.1, 24 + bszF (s.extract x.1.1 s.size), x.1.2)) := rfl
    obtain ⟨xi, hex⟩ : ∃ xi, x.1.1 = xi := ⟨_, rfl⟩
    obtain ⟨xm, hem⟩ : ∃ xm, x.1.2 = xm := ⟨_, rfl⟩
    rw [hex, hem] at hxn hP
    rw [hem] at bX
    rw [hex] at hxi
    obtain ⟨n24, nle, n44, _⟩ := firstP_size hxn
    have hsz2 : (s.extract xi s.size).size = s.size - xi := by rw [ByteArray.size_extract]; omega
    have FS : Hid (∀ w', Calls Tryd.prog 32 #[.string (s.extract xi s.size)] w' fun e w'' => e = .returned (.int .i64 ((24 + bszF (s.extract xi s.size) : Nat) : Int)) ∧ w' = w'') := fun w' => by
      have := frameSize_any (s.extract xi s.size) (by omega) w'
      rw [show (24 + (bszF (s.extract xi s.size) : Int)) = ((24 + bszF (s.extract xi s.size) : Nat) : Int) by omega] at this
      exact this
    have hlen := scanQ_len s 0
    obtain ⟨hm1, hm2⟩ := pie_room (k := (pre.map toP).length) (by rw [List.length_map]; omega)
    obtain ⟨i0, hi0, hz0, hz1, hz2⟩ := info_partsF infoPc
    obtain ⟨N, hNe⟩ : ∃ N, 24 + bszF (s.extract xi s.size) = N := ⟨_, rfl⟩
    rw [hNe] at n24 nle n44 FS hP
    simp only [hex, hem]
    clear hex hem hNe hxn
    have hki : (xi : Int) ≤ (s.size : Int) := by omega
    have hki2 : ¬ (s.size : Int) < (xi : Int) := by omega
    have R1 := msg_range bX
    have bD : Below W.heap.size W W.drew := (Below.refl _ W).drew
    have bSD := box_below bS1 bD
    have bPD := box_below bP1 bD
    have bND := box_below hc1 bD
    have bXD := blk_keep bX bD
    have hrD := own_belowS hr1 bD
    have hn0 : w.heap.size ≤ W.drew.heap.size := Nat.le_trans hB1.size bD.size
    have KS : Hid (∀ X : World, Boxed X w.heap.size 9 (.string s) → X.heap[Bx]? = some (.cells (msgV xm) 27) → X.cell? ⟨w.heap.size, 0, none⟩ = some (.string s) ∧ X.rangeAt Bx 0 (msgV xm).toList) := fun X h1 h2 => ⟨h1.cell, msg_range h2⟩
    have HE : Hid (∀ X : World, KeepsOthers W.drew X → Below w.heap.size W.drew X → Boxed X w.heap.size 9 (.string s) → Boxed X (w.heap.size + 1 + 1) 9 (.string s) → (∃ v, Boxed X (w.heap.size + 1) 35 v ∧ X.ownsRow w.heap.size 38 13 v (pre.length + 1) (pcs (pre.map toP) ++ pcs [(xi, N, xm)])) → KeepsFrom W0.heap.size W X ∧ (w.heap.size ≤ W.heap.size → KpS w.heap.size (w.heap.size + 1 + 1) s W X) ∧ (Boxed X w.heap.size 9 (.string s) ∧ ∃ v, Boxed X (w.heap.size + 1) 35 v ∧ X.ownsRow w.heap.size 38 13 v ((pre ++ [x]).map toP).length (pcs ((pre ++ [x]).map toP)) ∧ True) ∧ Below w.heap.size w X ∧ Boxed X (w.heap.size + 1 + 1) 9 (.string s)) := fun X k b c1 c2 c3 => by
      obtain ⟨u, u1, u2⟩ := c3
      have b2 := (bD.mono hB1.size).trans b
      refine ⟨(keeps_below bD).trans (k.from _), fun _ => ⟨b2, fun _ => c2.cell, b2.size⟩, ⟨c1, u, u1, ?_, trivial⟩, hB1.trans b2, c2⟩
      rw [List.map_append, List.map_cons, List.map_nil, hP.out, pcs_append, List.length_append, List.length_map]
      exact u2
    gi_wp2_with fail
    refine wpIn_region_round (S := fun x => x.cell? ⟨w.heap.size, 0, none⟩ = some (.string s) ∧ x.rangeAt Bx 0 (msgV xm).toList) (by kernel_rfl) (by kernel_rfl) (fun _ _ h => h) (KS.out _ bSD bXD) (fun hHeld => ?_)
    have cP := bPD.cell
    clear bS1 bP1 hr1 hB1 hc1 bX hBx hxi hlt hr hl bD
    generalize W.drew = WD at *
    refine wpAnyH_take (i := 1) (v := (.int .i64 (xi : Int))) rfl (by kernel_rfl) (by kernel_rfl) (by kernel_rfl) (fun _ _ _ h => h) (Or.inl ⟨by rfl, ?_⟩) (by assumption) ?_
    · intro w' hSw
      (try dsimp only at hSw)
      go_simp <;> first | exact i64_in (by omega) (by omega) | exact u32_in (by omega) (by omega) | exact u32_add _ _ | (rw [Int.tmod_eq_emod_of_nonneg (by omega)]; omega) | (rw [Int.tdiv_eq_ediv_of_nonneg (by omega)]; omega) | omega
    (try simp only [Act.put, List.setIfInBounds_toArray, List.set_cons_zero, List.set_cons_succ])
    refine wpAnyH_take (i := 2) (v := (.string s)) rfl (by kernel_rfl) (by kernel_rfl) (by kernel_rfl) (fun _ _ _ h => h) (Or.inl ⟨by rfl, ?_⟩) (by assumption) ?_
    · intro w' hSw
      (try dsimp only at hSw)
      (obtain ⟨h1, h2⟩ := hSw; go_simp)
    (try simp only [Act.put, List.setIfInBounds_toArray, List.set_cons_zero, List.set_cons_succ])
    refine wpAnyH_take (i := 3) (v := (.int .i64 (xi : Int))) rfl (by kernel_rfl) (by kernel_rfl) (by kernel_rfl) (fun _ _ _ h => h) (Or.inl ⟨by rfl, ?_⟩) (by assumption) ?_
    · intro w' hSw
      (try dsimp only at hSw)
      go_simp <;> first | exact i64_in (by omega) (by omega) | exact u32_in (by omega) (by omega) | exact u32_add _ _ | (rw [Int.tmod_eq_emod_of_nonneg (by omega)]; omega) | (rw [Int.tdiv_eq_ediv_of_nonneg (by omega)]; omega) | omega
    (try simp only [Act.put, List.setIfInBounds_toArray, List.set_cons_zero, List.set_cons_succ])
    refine wpAnyH_take (i := 4) (v := (.string (s.extract xi s.size))) rfl (by kernel_rfl) (by kernel_rfl) (by kernel_rfl) (fun _ _ _ h => h) (Or.inl ⟨by rfl, ?_⟩) (by assumption) ?_
    · intro w' hSw
      (try dsimp only at hSw)
      go_simp <;> first | exact i64_in (by omega) (by omega) | exact u32_in (by omega) (by omega) | exact u32_add _ _ | (rw [Int.tmod_eq_emod_of_nonneg (by omega)]; omega) | (rw [Int.tdiv_eq_ediv_of_nonneg (by omega)]; omega) | omega
    (try simp only [Act.put, List.setIfInBounds_toArray, List.set_cons_zero, List.set_cons_succ])
    refine wpAnyH_take (i := 6) (v := .agg (msgV xm)) rfl (by kernel_rfl) (by kernel_rfl) (by kernel_rfl) (fun _ _ _ h => h) (yieldsIf_load_mid rfl 27 (.tmp 5) rfl Bx 0 rfl (msgV xm).toList _ (fun w' h => h.2) Tryd.underlying27 rfl infoMs11) (by assumption) ?_
    (try simp only [Act.put, List.getElem_toArray, List.getElem_cons_zero, List.getElem_cons_succ, List.setIfInBounds_toArray, List.set_cons_zero, List.set_cons_succ])
    refine' via (R := _) (fun REST2 => ?_) ?_
    rotate_left 1
    refine' via (R := _) (fun REST => ?_) ?_
    rotate_left 1
    refine wpAnyH_ready (rs := [0, 5]) (by kernel_rfl) (by simp) ?_
    refine AllReadyH.cons rfl (fun K hK => ?_) (AllReadyH.cons rfl (fun K hK => ?_) AllReadyH.nil)
    · skip
      go_simp
      refine hK.out _ _ (hHeld) (fun hHeld => ?_)
      clear hK
      (try simp only [Act.put, List.setIfInBounds_toArray, List.set_cons_zero, List.set_cons_succ])
      refine wpAnyH_ready (rs := [5]) (by kernel_rfl) (by simp) ?_
      refine AllReadyH.cons rfl (fun K hK => ?_) AllReadyH.nil
      go_simp
      refine Calls.mono (FS.out _) ?_
      rintro e w1 ⟨rfl, rfl⟩
      refine hK.out _ _ (hHeld) (fun hHeld => ?_)
      clear hK
      (try simp only [Act.put, List.setIfInBounds_toArray, List.set_cons_zero, List.set_cons_succ])
      refine wpAnyH_take (i := 7) (v := (.agg (pieA xi N xm))) rfl (by kernel_rfl) (by kernel_rfl) (by kernel_rfl) (fun _ _ _ h => h) (Or.inl ⟨by rfl, ?_⟩) (by assumption) ?_
      · intro w' hSw
        (try dsimp only at hSw)
        exact run_bldPie _ _ _ _ _ _ _ xi N xm rfl rfl rfl
      (try simp only [Act.put, List.getElem_toArray, List.getElem_cons_zero, List.getElem_cons_succ, List.setIfInBounds_toArray, List.set_cons_zero, List.set_cons_succ])
      exact REST
    · skip
      go_simp
      refine Calls.mono (FS.out _) ?_
      rintro e w1 ⟨rfl, rfl⟩
      refine hK.out _ _ (hHeld) (fun hHeld => ?_)
      clear hK
      (try simp only [Act.put, List.setIfInBounds_toArray, List.set_cons_zero, List.set_cons_succ])
      refine wpAnyH_take (i := 7) (v := (.agg (pieA xi N xm))) rfl (by kernel_rfl) (by kernel_rfl) (by kernel_rfl) (fun _ _ _ h => h) (Or.inl ⟨by rfl, ?_⟩) (by assumption) ?_
      · intro w' hSw
        (try dsimp only at hSw)
        exact run_bldPie _ _ _ _ _ _ _ xi N xm rfl rfl rfl
      (try simp only [Act.put, List.getElem_toArray, List.getElem_cons_zero, List.getElem_cons_succ, List.setIfInBounds_toArray, List.set_cons_zero, List.set_cons_succ])
      refine wpAnyH_ready (rs := [0, 8]) (by kernel_rfl) (by simp) ?_
      refine AllReadyH.cons rfl (fun K hK => ?_) (AllReadyH.cons rfl (fun K hK => ?_) AllReadyH.nil)
      · skip
        go_simp
        refine hK.out _ _ (hHeld) (fun hHeld => ?_)
        clear hK
        (try simp only [Act.put, List.setIfInBounds_toArray, List.set_cons_zero, List.set_cons_succ])
        exact REST
      · skip
        refine itY (by rfl) ?_
        refine wp_bsPie (.tmp 17) rfl xi N xm rfl ?_
        refine hK.out _ _ (KS.out _ (bSD.alloc _) (blk_keep bXD ((Below.refl _ _).alloc (Nat.le_refl _) _))) (fun hHeld => ?_)
        clear hK
        (try simp only [Act.put, List.setIfInBounds_toArray, List.set_cons_zero, List.set_cons_succ])
        refine wpAnyH_ready (rs := [0]) (by kernel_rfl) (by simp) ?_
        refine AllReadyH.cons rfl (fun K hK => ?_) AllReadyH.nil
        have cP2 := (bPD.alloc (.cells (pieA xi N xm) 38)).cell
        go_simp
        refine hK.out _ _ (hHeld) (fun hHeld => ?_)
        clear hK
        (try simp only [Act.put, List.setIfInBounds_toArray, List.set_cons_zero, List.set_cons_succ])
        exact REST2
    · skip
      refine wpAnyH_ready (rs := [8]) (by kernel_rfl) (by simp) ?_
      refine AllReadyH.cons rfl (fun K hK => ?_) AllReadyH.nil
      refine itY (by rfl) ?_
      refine wp_bsPie (.tmp 17) rfl xi N xm rfl ?_
      refine hK.out _ _ (KS.out _ (bSD.alloc _) (blk_keep bXD ((Below.refl _ _).alloc (Nat.le_refl _) _))) (fun hHeld => ?_)
      clear hK
      (try simp only [Act.put, List.setIfInBounds_toArray, List.set_cons_zero, List.set_cons_succ])
      exact REST2
    · skip
      refine wpAnyH_ready (rs := [9]) (by kernel_rfl) (by simp) ?_
      refine AllReadyH.cons rfl (fun K hK => ?_) AllReadyH.nil
      refine itY (by rfl) ?_
      refine wp_append_own (WD.alloc (.cells (pieA xi N xm) 38)) (.tmp 10) (.tmp 18) 35 ?hho w.heap.size 38 i0 _ 13 120 Tryd.underlying35 hi0 hz0 hz1 hz2 ?hzs (by decide) v (pre.map toP).length (pcs (pre.map toP)) ?hhs (hrD.alloc _) ⟨WD.heap.size, 0, none⟩ 1 1 (pcs [(xi, N, xm)]) ?hhx (by rw [pcs_one]; rfl) (pie_cell WD xi N xm) (pie_one _) hm1 hm2 (by simp; omega) ?hhk
      case hho => rfl
      case hzs => rfl
      case hhs => kernel_rfl
      case hhx => kernel_rfl
      intro v2 w2 o2 g2 n2
      clear n2
      obtain ⟨g', cap', rfl⟩ := ownsRow_succ o2
      obtain ⟨hv1, hv2, hr2, hk2, hb2⟩ := bPD.appended (by decide) hrD hn0 (by omega) o2 g2
      have c1 := hv1.cell
      have f1 := hv1.frozen
      have kS1 : Boxed w2 w.heap.size 9 (.string s) := (bSD.alloc _).kept g2 (bSD.not_row (by decide) hrD)
      have kN1 : Boxed w2 (w.heap.size + 1 + 1) 9 (.string s) := (bND.alloc _).kept g2 (bND.not_row (by decide) hrD)
      have kX0 := blk_keep bXD ((Below.refl _ _).alloc (Nat.le_refl _) (.cells (pieA xi N xm) 38))
      have kX1 : w2.heap[Bx]? = some (.cells (msgV xm) 27) := (g2.block Bx (blk_lt kX0) (blk_not_row bXD (by decide) hrD)).trans kX0
      have hne : Bx ≠ w.heap.size + 1 := fun e => by rw [e] at kX1; have := hv1.symm.trans kX1; simp at this
      refine hK.out _ _ (KS.out _ kS1 kX1) (fun hHeld => ?_)
      clear hK
      (try simp only [Act.put, List.setIfInBounds_toArray, List.set_cons_zero, List.set_cons_succ])
      refine wpAnyH_ready (rs := [10]) (by kernel_rfl) (by simp) ?_
      refine AllReadyH.cons rfl (fun K hK => ?_) AllReadyH.nil
      go_simp
      refine hK.out _ _ (KS.out _ (kS1.other (by omega) _) ((Below.heap_setCell _ _ _ Bx hne).trans kX1)) (fun hHeld => ?_)
      clear hK
      (try simp only [Act.put, List.setIfInBounds_toArray, List.set_cons_zero, List.set_cons_succ])
      refine wpAnyH_done (by kernel_rfl) ?_ _
      simp only [List.length_map] at hk2 hb2 hv2 hr2
      exact HE.out _ hk2 hb2 (kS1.other (by omega) _) (kN1.other (by omega) _) ⟨_, hv2, hr2⟩
  case done =>
    rintro D zs W hD rfl ⟨⟨bS1, v, bP1, hr1, _⟩, hB1, hc1⟩ hK
    have cP := bP1.cell
    gi_wp2
    refine ⟨by simp, .inl ⟨_, _, rfl, run_takeDeferred hK, ?_⟩⟩
    rw [scan_split s s.size 0 (by omega)] at hr1
    exact ⟨_, results_tmp rfl _ _ _, v, rfl, ownsRow_putObj hr1 _ hK rfl, hB1.trans (belowK_b (w := w) (Nat.le_refl _) W D _ _ (by omega) hK rfl rfl)⟩
  case stop =>
    rintro D c pre W _ _ h _
    exact h.elim
end Go.Proofs.YtgdjfocnaapooaaDoor
namespace Go.Proofs.YtgdjfocnaapooaaDoor
open Go.RowKit
theorem splitP_len (s : ByteArray) : (splitP s 0).length ≤ s.size := by
  rw [← scan_split s s.size 0 (by omega), List.length_map]
  exact scanQ_len s 0
theorem own_mono {w w' : World} {base e sz n : Nat} {v : Value} {xs : List Value} (h : w.ownsRow base e sz v n xs) (hb : Below w.heap.size w w') : w'.ownsRow base e sz v n xs := own_belowS h hb
set_option maxHeartbeats 4000000 in
set_option maxRecDepth 100000 in
/-- FrameSplits, of streams that a machine may hold -/
theorem frameSplits_any (t : ByteArray) (ht : t.size ≤ 800000000000) (w : World) (hT : TabF w) (hR : TabR w) (_h6 : 6 ≤ w.heap.size) (hT4 : Tab4 5 w) :
    Calls Tryd.prog 6 #[.string t] w fun e w' => e = .returned (.bool true) ∧ Below w.heap.size w w' := by
  have KT : Hid (∀ w', Below w.heap.size w w' → TabF w' ∧ TabR w' ∧ Tab4 5 w') := fun w' hb => ⟨hT.below hb, hR.below hb, fun j hj => (hb.cell (World.block_lt_of_cell? w _ (hT4 j hj))).trans (hT4 j hj)⟩
  have H := hide (headed_any t (by omega) w hR)
  have hz := hd_size
  have hzs : (encS hdM ++ t).size ≤ 900000000000 := by rw [ByteArray.size_append]; omega
  generalize encS hdM ++ t = S at *
  clear hT hR hT4 hz
  have L1 := Nat.le_trans (splitP_len S) hzs
  have L2 := Nat.le_trans (splitP_len t) ht
  have ht9 : t.size ≤ 900000000000 := by omega
  go_enter Tryd.func6, Tryd.ntmps6
  go_wp2_with fail
  refine Calls.mono H.out ?_
  rintro e w1 ⟨rfl, b1⟩
  have B1 := hide b1
  clear b1 H
  go_wp2_with fail
  have DS := split_any S hzs w1 (KT.out _ B1.out).1 (KT.out _ B1.out).2.2
  refine Calls.mono DS ?_
  clear DS
  rintro e waS ⟨vS, rfl, oS, bS⟩
  have BS := hide (B1.out.trans (bS.mono B1.out.size))
  have OS := hide oS
  obtain ⟨baS, cpS, rfl, _⟩ := own_pie oS
  clear oS bS
  go_wp2_with fail
  refine Calls.mono (rsplit_any S hzs waS (KT.out _ BS.out).2.1) ?_
  rintro e wbS ⟨uS, rfl, pS, cS⟩
  have SPS := hide (samePieces_any (splitP S 0) (by omega) _ _ _ _ wbS (own_mono OS.out cS) pS)
  have CS := hide (BS.out.trans (cS.mono BS.out.size))
  obtain ⟨bbS, cqS, rfl, _⟩ := own_pie pS
  clear pS cS OS BS
  go_wp2_with fail
  refine Calls.mono SPS.out ?_
  rintro e wcS ⟨rfl, dS⟩
  have ES := hide (CS.out.trans (dS.mono CS.out.size))
  clear dS CS SPS
  go_wp2_with fail
  have Dt := split_any t ht9 wcS (KT.out _ ES.out).1 (KT.out _ ES.out).2.2
  refine Calls.mono Dt ?_
  clear Dt
  rintro e wat ⟨vt, rfl, ot, bt⟩
  have Bt := hide (ES.out.trans (bt.mono ES.out.size))
  have Ot := hide ot
  obtain ⟨bat, cpt, rfl, _⟩ := own_pie ot
  clear ot bt
  go_wp2_with fail
  refine Calls.mono (rsplit_any t ht9 wat (KT.out _ Bt.out).2.1) ?_
  rintro e wbt ⟨ut, rfl, pt, ct⟩
  have SPt := hide (samePieces_any (splitP t 0) (by omega) _ _ _ _ wbt (own_mono Ot.out ct) pt)
  have Ct := hide (Bt.out.trans (ct.mono Bt.out.size))
  obtain ⟨bbt, cqt, rfl, _⟩ := own_pie pt
  clear pt ct Ot Bt
  go_wp2_with fail
  refine Calls.mono SPt.out ?_
  rintro e wct ⟨rfl, dt⟩
  have Et := hide (Ct.out.trans (dt.mono Ct.out.size))
  clear dt Ct SPt
  go_wp2_with fail
  go_ret
  exact ⟨rfl, Et.out⟩
end Go.Proofs.YtgdjfocnaapooaaDoor
