import Derived.Test.YtanlnelfbfjelaaDoorGGrShelf
namespace Go.Proofs.YtanlnelfbfjelaaDoor
open Go.RowKit
/-- what the text so far is -/
structure JB (W1 : World) (l : List UInt8) (w : World) : Prop where
  bel : Below W1.heap.size W1 w
  bld : Lib.IsBuilderF 66 5 W1.heap.size W1.heap.size (Lib.byteCells l) w
theorem JB.below {W1 w w' : World} {l : List UInt8} (h : JB W1 l w) (hb : Below w.heap.size w w') : JB W1 l w' := ⟨h.bel.trans (hb.mono h.bel.size), bldF_below h.bld hb⟩
theorem JB.alloc {W1 w : World} {l : List UInt8} (h : JB W1 l w) (o : Obj) : JB W1 l (w.alloc o) := h.below ((Below.refl _ _).alloc (Nat.le_refl _) _)
theorem JB.line {W1 w : World} {l : List UInt8} (h : JB W1 l w) (ws : List (List UInt8)) (bk c : Nat) (hc : ∀ (j : Nat) (h : j < ws.length), w.cell? ⟨bk, 0 + j, none⟩ = some (.string (strOf ws[j]))) (hbk : bk < w.heap.size) (hcap : ws.length ≤ c) (hn : ws.length ≤ 1000000) (hl : l.length ≤ 1000000) (hw : ∀ a ∈ ws, a.length ≤ 1000) (hn2 : ws.length ≤ 100) :
    Calls Tryd.prog 25 #[.slice (some ⟨bk, 0, none⟩) ws.length c, .pointer (some ⟨W1.heap.size, 0, none⟩)] w fun e w' => e = .returned (.tuple #[]) ∧ JB W1 (l ++ lnB ws) w' ∧ Lib.OthersKept 5 (some W1.heap.size) w w' := by
  have hj := lnB_len 1000 ws hw
  have hj2 := Nat.mul_le_mul (Nat.le_refl (1000 + 1)) hn2
  refine (wline_any W1.heap.size W1.heap.size l ws bk 0 c w h.bld h.bel.size hc hbk hcap hn (by omega) (by omega)).mono fun e w' ⟨h1, h2, h3, h4⟩ => ⟨h1, ⟨h.bel.trans h3, h2⟩, h4⟩
theorem run_ldSr {w : World} {b o : Nat} {v : Value} (hc : w.cell? ⟨b, o, none⟩ = some v) : (Instr.loadAt 9 (.pointer (some ⟨b, o, none⟩))).run Tryd.prog w = .ok v w := by
  go_simp
theorem exec_ldSr {ρ : Operand → Value} {op : Oper} {w : World} {b o : Nat} {v : Value} (x : Operand) (ho : op.op = .load 9 x) (hx : ρ x = .pointer (some ⟨b, o, none⟩)) (hc : w.cell? ⟨b, o, none⟩ = some v) : (execOp ρ op).run Tryd.prog w = .ok (.value v) w := by
  unfold execOp
  simp only [ho, hx, run_ldSr hc, Sem.run_bind, Result.andThen_ok, Sem.run_pure]
theorem run_ldIr {w : World} {b o : Nat} {v : Value} (hc : w.cell? ⟨b, o, none⟩ = some v) : (Instr.loadAt 3 (.pointer (some ⟨b, o, none⟩))).run Tryd.prog w = .ok v w := by
  go_simp
theorem exec_ldIr {ρ : Operand → Value} {op : Oper} {w : World} {b o : Nat} {v : Value} (x : Operand) (ho : op.op = .load 3 x) (hx : ρ x = .pointer (some ⟨b, o, none⟩)) (hc : w.cell? ⟨b, o, none⟩ = some v) : (execOp ρ op).run Tryd.prog w = .ok (.value v) w := by
  unfold execOp
  simp only [ho, hx, Sem.run_bind, run_ldIr hc, Result.andThen_ok, Sem.run_pure]
theorem run_ldP {w : World} {b o : Nat} {v : Value} (hc : w.cell? ⟨b, o, none⟩ = some v) : (Instr.loadAt 76 (.pointer (some ⟨b, o, none⟩))).run Tryd.prog w = .ok v w := by
  go_simp
theorem exec_ldP {ρ : Operand → Value} {op : Oper} {w : World} {b o : Nat} {v : Value} (x : Operand) (ho : op.op = .load 76 x) (hx : ρ x = .pointer (some ⟨b, o, none⟩)) (hc : w.cell? ⟨b, o, none⟩ = some v) : (execOp ρ op).run Tryd.prog w = .ok (.value v) w := by
  unfold execOp
  simp only [ho, hx, run_ldP hc, Sem.run_bind, Result.andThen_ok, Sem.run_pure]
theorem StAt.c0 {w : World} {b : Nat} {s : ByteArray} {p : Option Addr} {l h : Int} (k : StAt w b s p l h) : w.cell? ⟨b, 0, none⟩ = some (.string s) := by unfold World.cell?; rw [show w.heap[b]? = _ from k]; rfl
theorem infoStrR : (Tryd.prog.info? 9).map (fun i => (i.zero, i.size, i.bytes)) = some (some (.string ⟨#[]⟩), 1, 16) := by kernel_rfl
theorem one_cellR (w : World) (a : List UInt8) : ∀ j u, (nmc [a])[j]? = some u → (w.alloc (.cells #[.string (strOf a)] 9)).cell? ((⟨w.heap.size, 0, none⟩ : Addr).add j) = some u := by
  intro j u hj
  have e := heap_last w (.cells #[.string (strOf a)] 9)
  match j, hj with
  | 0, hj => simp [nmc] at hj; subst hj; rw [add_pl]; unfold World.cell?; rw [e]; rfl
  | (j + 1), hj => simp [nmc] at hj
/-- an append to words leaves the builder -/
theorem JB.grown {W1 w w' : World} {l : List UInt8} (h : JB W1 l w) {base n : Nat} {v : Value} {xs : List Value} (hr : w.ownsRow base 9 1 v n xs) (hB : W1.heap.size ≤ base) (hg : w.grownBy w' v.ownBlock) : JB W1 l w' := by
  refine ⟨h.bel.grown hg (by have := h.bel.size; omega) (fun j hj => by have := (own_lt hr hj).1; omega), bldF_keep h.bld fun k c t z ht hk => ?_⟩
  refine (hg.block k (blk_lt hk) fun e => ?_).trans hk
  rcases hr.2 with ⟨e3, _⟩ | ⟨g3, cap3, cur3, e3, _, hg3, _⟩
  · rw [e3] at e; cases e
  · rw [e3] at e
    have : k = g3 := by simpa [Value.ownBlock] using e
    subst this
    rw [hk] at hg3
    injection hg3 with hg3
    injection hg3 with _ h2
    exact ht h2
/-- what is left by a line -/
theorem kept_line {w w' : World} {b k : Nat} {c : Array Value} {t : TypeId} {z : Nat × Nat} (h : Lib.OthersKept 5 (some b) w w') (hk : w.heap[k]? = some (.cells c t z)) (hn : k ≠ b) (ht : t ≠ 5) : w'.heap[k]? = some (.cells c t z) :=
  h k _ hk (fun e => hn (by injection e)) (fun c' fz e => by injection e with _ e2; exact ht e2)
theorem bld_ne {B b k : Nat} {bs : List Value} {w : World} {c : Array Value} {t : TypeId} {z : Nat × Nat} (h : Lib.IsBuilderF 66 5 B b bs w) (hk : w.heap[k]? = some (.cells c t z)) (ht : t ≠ 66) : k ≠ b := by
  rintro rfl
  rcases h with ⟨_, v, h1, _⟩ | ⟨_, v, h1, _⟩ <;> (rw [hk] at h1; injection h1 with h1; injection h1 with _ h2; exact ht h2)
set_option maxHeartbeats 8000000 in
set_option maxRecDepth 100000 in
set_option linter.unusedSimpArgs false in
set_option linter.unusedVariables false in
theorem print_any (N : Nat) (w : World) (st : ByteArray) (x : Nat → Int) (ao : Option Addr) (b o cap : Nat) (pv : Nat → Value) (ns : List ND) (h : NsAt N w ao b o pv ns) (hN : N ≤ w.heap.size) (hs : st.size ≤ 9223372036854775807) (hP : PowR w) :
    Calls Tryd.prog 10 #[.agg (clA st x (.slice ao ns.length cap))] w fun e w' => e = .returned (.tuple #[.string (strOf (prV st x ns)), .int .i64 (errP st x ns)]) ∧ Below w.heap.size w w' := by
  obtain ⟨W0, hW0, hX⟩ := boxed st x cap h hN
  have HX := hide (hX.stand hN)
  have B0 := hide hX.bel
  have HPw := hide hP
  clear hX h hP
  have CH := check_any N W0 st x ao b o cap pv ns HX.out.nd HX.out.le hs
  obtain ⟨K, hK⟩ : ∃ K, K = errP st x ns := ⟨_, rfl⟩
  obtain ⟨V, hV⟩ : ∃ V, V = strOf (prV st x ns) := ⟨_, rfl⟩
  rw [← hK, ← hV]
  rw [← hK] at CH
  have HK := hide hK
  have HV0 := hide hV
  replace CH := hide CH
  clear hK hV
  go_enter Tryd.func10, Tryd.ntmps10
  go_upto_region 1 with fail
  rw [← hW0]
  clear hW0
  go_wp2_with (refine wpList_loadCl rfl (.tmp 1) rfl w.heap.size st x _ rfl HX.out.cl ?_)
  refine Calls.mono CH.out ?_
  rintro e W1 ⟨rfl, hb⟩
  have X1 := hide (HX.out.below hb)
  have B1 := hide (B0.out.trans (hb.mono B0.out.size))
  clear hb HX CH B0
  by_cases he : K = 0
  case neg =>
    have hV : V = ⟨#[]⟩ := by
      rw [HV0.out]
      unfold prV
      rw [if_neg (by rw [← HK.out]; exact he)]
      rfl
    subst hV
    clear HV0
    go_wp2_with fail
    go_ret2
    exact ⟨rfl, B1.out⟩
  case pos =>
    subst he
    have OK := hide (pr_ok HK.out.symm)
    have HV : Hid (V = strOf (prT st x ns)) := by
      show _ = _
      rw [HV0.out]
      unfold prV
      rw [if_pos HK.out.symm]
    have n16 := OK.out.n
    clear HV0
    have stc := X1.out.cl.st
    obtain ⟨W2, hW2⟩ : ∃ W2, W2 = W1.alloc (.cells #[.pointer none, .slice none 0 0] 66) := ⟨_, rfl⟩
    have J2 : Hid (JB W1 [] W2) := by
      rw [hW2]
      exact ⟨(Below.refl _ _).alloc (Nat.le_refl _) _, Lib.IsBuilderF.of (Lib.fresh_isBuilder 66 5 W1)⟩
    go_upto_region 6 with fail
    rw [← hW2]
    clear hW2 stc
    have stc := (X1.out.cl.below J2.out.bel).st
    obtain ⟨W3, hW3⟩ : ∃ W3, W3 = W2.alloc (.cells #[.string (strOf storeW), .string st] 9) := ⟨_, rfl⟩
    have J3 : Hid (JB W1 [] W3) := by rw [hW3]; exact J2.out.alloc _
    have LI := hide (J3.out.line [storeW, st.data.toList] W2.heap.size 2 (fun j hj => by
      have e : W3.heap[W2.heap.size]? = some (.cells #[.string (strOf storeW), .string st] 9) := by rw [hW3]; exact heap_last _ _
      rw [Nat.zero_add]
      match j, hj with
      | 0, _ => unfold World.cell?; rw [e]; rfl
      | 1, _ => unfold World.cell?; rw [e]; simp [strOf_toList]
      | (j + 2), hj => exact absurd hj (by simp)) (by rw [hW3]; simp) (Nat.le_refl _) (by simp) (by simp) (fun a ha => by
      simp at ha
      rcases ha with rfl | rfl
      · decide
      · rw [size_data]; exact OK.out.s) (by simp))
    go_wp2_with fail
    rw [show W2.alloc (.cells #[.string ⟨#[115, 116, 111, 114, 101]⟩, .string st] 9) = W3 from hW3.symm]
    clear hW3 stc
    refine Calls.mono LI.out ?_
    rintro e W4 ⟨rfl, j4, _⟩
    rw [List.nil_append] at j4
    have J4 := hide j4
    have HL1 : Hid ((lnB [storeW, st.data.toList]).length ≤ 2100) := by
      have := lnB_len 1000 [storeW, st.data.toList] (fun a ha => by
        simp at ha
        rcases ha with rfl | rfl
        · decide
        · rw [size_data]; exact OK.out.s)
      simp only [List.length_cons, List.length_nil] at this
      show _ ≤ _
      omega
    have HT1 : Hid (prT st x ns = lnB [storeW, st.data.toList] ++ prS x 21 ++ prN ns ns.length) := rfl
    generalize lnB [storeW, st.data.toList] = L1 at *
    clear j4 LI J3 J2
    have SE := hide (settings_any W4 w.heap.size)
    go_wp2_with fail
    refine Calls.mono SE.out ?_
    rintro e W5 ⟨sg, rfl, hg, hgs, hb⟩
    have J5 := hide (J4.out.below hb)
    have G5 := hide hg
    clear hg hgs hb SE J4
    go_wp2_with fail
    go_loopw [27] (fun vi wr => ∃ (i : Nat), i ≤ 21 ∧ vi = .int .i64 (i : Int) ∧ Hid (JB W1 (L1 ++ prS x i) wr) ∧ Hid (wr.heap[sg]? = some (.cells (setA w.heap.size) 78))) (fun vi _ => 21 - (intOf vi).toNat)
    case atStart => exact ⟨0, Nat.zero_le _, rfl, by simpa [prS] using J5, G5⟩
    case round =>
      clear J5 G5
      obtain ⟨i, hi, rfl, J, G⟩ := hrel
      by_cases hil : i < 21
      case pos =>
        have hii : (i : Int) < 21 := by omega
        obtain ⟨_, c1, c2, c3⟩ := setA_at w.heap.size i hil
        have c0 := setA_word w.heap.size i hil
        have d0 := (set_cell G.out (i * 4)).trans c0
        have d1 := (set_cell G.out (i * 4 + 1)).trans c1
        have d2 := (set_cell G.out (i * 4 + 2)).trans c2
        have d3 := (set_cell G.out (i * 4 + 3)).trans c3
        have hxi := OK.out.x i hil
        have HXi : Hid (i64R (x i)) := hxi
        have HSu := hide (prS_succ x i)
        have hsl := prS_len OK.out.x i hi
        have hL1 := HL1.out
        have hsw := swd_len i
        obtain ⟨W6, hW6⟩ : ∃ W6, W6 = wr.alloc (.cells #[.string (strOf (swd i)), .pointer (some ⟨w.heap.size, i + 1, none⟩), .int .i64 (loS i), .int .i64 (hiS i)] 78) := ⟨_, rfl⟩
        have S6 : Hid (StAt W6 wr.heap.size (strOf (swd i)) (some ⟨w.heap.size, i + 1, none⟩) (loS i) (hiS i)) := by rw [hW6]; exact heap_last _ _
        have J6 : Hid (JB W1 (L1 ++ prS x i) W6) := by rw [hW6]; exact J.out.alloc _
        have G6 : Hid (W6.heap[sg]? = some (.cells (setA w.heap.size) 78)) := by rw [hW6, Below.heap_alloc _ _ _ (blk_lt G.out)]; exact G.out
        have CL : Hid (∀ Y, Below W1.heap.size W1 Y → Y.cell? ⟨w.heap.size, i + 1, none⟩ = some (.int .i64 (x i))) := fun Y hY => (X1.out.cl.below hY).x i hil
        have IT := hide (fun Y (hY : Below W1.heap.size W1 Y) => itoa_any (x i) w Y HPw.out (B1.out.trans (hY.mono B1.out.size)) HXi.out.1 HXi.out.2)
        have hlen : (L1 ++ prS x i).length ≤ 100000 := by rw [List.length_append]; omega
        have HIl := hide (itB_len2 HXi.out)
        clear c0 c1 c2 c3 J G hxi hsl hL1
        go_upto_region 10 with fail
        rw [← hW6]
        clear hW6 d0 d1 d2 d3
        generalize wr.heap.size = sB at *
        generalize loS i = lo at *
        generalize hiS i = hh at *
        generalize swd i = sw at *
        generalize itB (x i) = ib at *
        generalize x i = xi at *
        generalize hLL : L1 ++ prS x i = LL at *
        have HLL := hide hLL
        clear hLL
        refine wp_region_held_drew (S := fun Y => Below W1.heap.size W1 Y ∧ StAt Y sB (strOf sw) (some ⟨w.heap.size, i + 1, none⟩) lo hh) (by kernel_rfl) ⟨J6.out.bel.drew, S6.out⟩ (fun hHeld => ?_)
        refine wpAnyH_take (i := 0) (v := (.func (.func 25) #[] #[.pointer (some ⟨W1.heap.size, 0, none⟩)])) rfl (by kernel_rfl) (by kernel_rfl) (by kernel_rfl) (fun _ _ _ h => h) (Or.inl ⟨by rfl, ?_⟩) (by assumption) ?_
        · intro w' hSw
          (try dsimp only at hSw)
          exact exec_move (.tmp 6) rfl (by kernel_rfl)
        (try simp only [Act.put, List.getElem_toArray, List.getElem_cons_zero, List.getElem_cons_succ, List.setIfInBounds_toArray, List.set_cons_zero, List.set_cons_succ])
        refine wpAnyH_take (i := 1) (v := (.pointer (some ⟨sB, 0, none⟩))) rfl (by kernel_rfl) (by kernel_rfl) (by kernel_rfl) (fun _ _ _ h => h) (Or.inl ⟨by rfl, ?_⟩) (by assumption) ?_
        · intro w' hSw
          (try dsimp only at hSw)
          go_simp
        (try simp only [Act.put, List.getElem_toArray, List.getElem_cons_zero, List.getElem_cons_succ, List.setIfInBounds_toArray, List.set_cons_zero, List.set_cons_succ])
        refine wpAnyH_take (i := 2) (v := (.string (strOf sw))) rfl (by kernel_rfl) (by kernel_rfl) (by kernel_rfl) (fun _ _ _ h => h) (Or.inl ⟨by rfl, ?_⟩) (by assumption) ?_
        · intro w' hSw
          (try dsimp only at hSw)
          exact exec_ldSr (.tmp 32) rfl (by kernel_rfl) hSw.2.c0
        (try simp only [Act.put, List.getElem_toArray, List.getElem_cons_zero, List.getElem_cons_succ, List.setIfInBounds_toArray, List.set_cons_zero, List.set_cons_succ])
        refine wpAnyH_take (i := 3) (v := (.pointer (some ⟨sB, 1, none⟩))) rfl (by kernel_rfl) (by kernel_rfl) (by kernel_rfl) (fun _ _ _ h => h) (Or.inl ⟨by rfl, ?_⟩) (by assumption) ?_
        · intro w' hSw
          (try dsimp only at hSw)
          go_simp
        (try simp only [Act.put, List.getElem_toArray, List.getElem_cons_zero, List.getElem_cons_succ, List.setIfInBounds_toArray, List.set_cons_zero, List.set_cons_succ])
        refine wpAnyH_take (i := 4) (v := (.pointer (some ⟨w.heap.size, i + 1, none⟩))) rfl (by kernel_rfl) (by kernel_rfl) (by kernel_rfl) (fun _ _ _ h => h) (Or.inl ⟨by rfl, ?_⟩) (by assumption) ?_
        · intro w' hSw
          (try dsimp only at hSw)
          exact exec_ldP (.tmp 34) rfl (by kernel_rfl) hSw.2.c1
        (try simp only [Act.put, List.getElem_toArray, List.getElem_cons_zero, List.getElem_cons_succ, List.setIfInBounds_toArray, List.set_cons_zero, List.set_cons_succ])
        refine wpAnyH_take (i := 5) (v := (.pointer (some ⟨w.heap.size, i + 1, none⟩))) rfl (by kernel_rfl) (by kernel_rfl) (by kernel_rfl) (fun _ _ _ h => h) (Or.inl ⟨by rfl, ?_⟩) (by assumption) ?_
        · intro w' hSw
          (try dsimp only at hSw)
          exact exec_nil (.tmp 35) rfl (by kernel_rfl)
        (try simp only [Act.put, List.getElem_toArray, List.getElem_cons_zero, List.getElem_cons_succ, List.setIfInBounds_toArray, List.set_cons_zero, List.set_cons_succ])
        refine wpAnyH_take (i := 6) (v := (.int .i64 xi)) rfl (by kernel_rfl) (by kernel_rfl) (by kernel_rfl) (fun _ _ _ h => h) (Or.inl ⟨by rfl, ?_⟩) (by assumption) ?_
        · intro w' hSw
          (try dsimp only at hSw)
          exact exec_ldIr (.tmp 36) rfl (by kernel_rfl) (CL.out _ hSw.1)
        (try simp only [Act.put, List.getElem_toArray, List.getElem_cons_zero, List.getElem_cons_succ, List.setIfInBounds_toArray, List.set_cons_zero, List.set_cons_succ])
        refine wpAnyH_ready (rs := [7]) (by kernel_rfl) (by simp) ?_
        refine AllReadyH.cons rfl (fun K hK => ?_) AllReadyH.nil
        go_simp
        refine Calls.mono (IT.out _ J6.out.bel.drew) ?_
        rintro e X7 ⟨rfl, hb⟩
        have b7 : Hid (Below W6.heap.size W6 X7) := (Below.refl _ W6).drew.trans hb
        have J7 := hide (J6.out.below b7.out)
        have S7 : Hid (StAt X7 sB (strOf sw) (some ⟨w.heap.size, i + 1, none⟩) lo hh) := (b7.out.block _ (blk_lt S6.out)).trans S6.out
        have G7 : Hid (X7.heap[sg]? = some (.cells (setA w.heap.size) 78)) := (b7.out.block _ (blk_lt G6.out)).trans G6.out
        clear hb b7 J6 S6 G6
        refine hK.out _ _ (⟨J7.out.bel, S7.out⟩) (fun hHeld => ?_)
        clear hK
        (try simp only [Act.put, List.setIfInBounds_toArray, List.set_cons_zero, List.set_cons_succ])
        refine wpAnyH_ready (rs := [8]) (by kernel_rfl) (by simp) ?_
        refine AllReadyH.cons rfl (fun K hK => ?_) AllReadyH.nil
        go_simp
        obtain ⟨X8, hX8⟩ : ∃ X8, X8 = X7.alloc (.cells #[.string (strOf sw), .string (strOf ib)] 9) := ⟨_, rfl⟩
        have J8 : Hid (JB W1 LL X8) := by rw [hX8]; exact J7.out.alloc _
        have b8 : Below X7.heap.size X7 X8 := by rw [hX8]; exact (Below.refl _ _).alloc (Nat.le_refl _) _
        have S8 : Hid (StAt X8 sB (strOf sw) (some ⟨w.heap.size, i + 1, none⟩) lo hh) := (b8.block _ (blk_lt S7.out)).trans S7.out
        have G8 : Hid (X8.heap[sg]? = some (.cells (setA w.heap.size) 78)) := (b8.block _ (blk_lt G7.out)).trans G7.out
        have LI := hide (J8.out.line [sw, ib] X7.heap.size 2 (fun j hj => by
          have e : X8.heap[X7.heap.size]? = some (.cells #[.string (strOf sw), .string (strOf ib)] 9) := by rw [hX8]; exact heap_last _ _
          rw [Nat.zero_add]
          match j, hj with
          | 0, _ => unfold World.cell?; rw [e]; rfl
          | 1, _ => unfold World.cell?; rw [e]; rfl
          | (j + 2), hj => exact absurd hj (by simp)) (by rw [hX8]; simp) (Nat.le_refl _) (by simp) (by omega) (fun a ha => by
          simp at ha
          rcases ha with rfl | rfl
          · omega
          · have := HIl.out; omega) (by simp))
        rw [← hX8]
        clear hX8 b8 J7 S7 G7
        refine hK.out _ _ (⟨J8.out.bel, S8.out⟩) (fun hHeld => ?_)
        clear hK
        (try simp only [Act.put, List.setIfInBounds_toArray, List.set_cons_zero, List.set_cons_succ])
        refine wpAnyH_ready (rs := [9]) (by kernel_rfl) (by simp) ?_
        refine AllReadyH.cons rfl (fun K hK => ?_) AllReadyH.nil
        go_simp
        refine Calls.mono LI.out ?_
        rintro e X9 ⟨rfl, j9, k9⟩
        have J9 := hide j9
        have S9 : Hid (StAt X9 sB (strOf sw) (some ⟨w.heap.size, i + 1, none⟩) lo hh) := kept_line k9 S8.out (bld_ne J8.out.bld S8.out (by decide)) (by decide)
        have G9 : Hid (X9.heap[sg]? = some (.cells (setA w.heap.size) 78)) := kept_line k9 G8.out (bld_ne J8.out.bld G8.out (by decide)) (by decide)
        clear j9 k9 J8 S8 G8 LI
        refine hK.out _ _ (⟨J9.out.bel, S9.out⟩) (fun hHeld => ?_)
        clear hK
        (try simp only [Act.put, List.setIfInBounds_toArray, List.set_cons_zero, List.set_cons_succ])
        refine wpAnyH_done (by kernel_rfl) ?_ _
        clear hHeld
        go_wp2_with fail
        go_roundw
        case rel => exact ⟨i + 1, by omega, by go_num, by rw [HSu.out, ← List.append_assoc, HLL.out]; exact J9, G9⟩
        case measure => simp [intOf]; omega
      case neg =>
        have hi21 : i = 21 := by omega
        have hnl : ¬ ((i : Int) < 21) := by omega
        have hsl := prS_len OK.out.x i hi
        have hL1 := HL1.out
        have HL2 : Hid ((L1 ++ prS x i).length ≤ 10000) := by show _ ≤ _; rw [List.length_append]; omega
        have HT2 : Hid (prT st x ns = L1 ++ prS x i ++ prN ns ns.length) := by rw [hi21]; exact HT1.out
        clear hi21 hi hil HT1
        generalize hLL : L1 ++ prS x i = L2 at *
        have HLL := hide hLL
        clear hLL hsl hL1 G HL1
        have nvw := (X1.out.cl.below J.out.bel).nv
        go_wp2_with fail
        clear nvw
        have J0 := J
        go_loopw [45] (fun vi wr => ∃ (j : Nat), j ≤ ns.length ∧ vi = .int .i64 (j : Int) ∧ Hid (JB W1 (L2 ++ prN ns j) wr)) (fun vi _ => ns.length - (intOf vi).toNat)
        case atStart => exact ⟨0, Nat.zero_le _, rfl, by simpa [prN] using J0⟩
        case round =>
          clear J J0
          obtain ⟨j, hj, rfl, J⟩ := hrel
          have HNl := hide (prN_len OK.out.n OK.out.z OK.out.p OK.out.l j hj)
          by_cases hjl : j < ns.length
          case neg =>
            obtain rfl : j = ns.length := by omega
            have BS := hide (Tryd.Builder_String_any_f W1.heap.size W1.heap.size (L2 ++ prN ns ns.length) wr J.out.bld J.out.bel.size)
            go_wp2_with fail
            refine Calls.mono BS.out ?_
            rintro e W9 ⟨rfl, _, hb⟩
            have HF : Hid (V = ⟨(L2 ++ prN ns ns.length).toArray⟩) := by
              show _ = _
              rw [HV.out, HT2.out]
              rfl
            rw [← HF.out]
            have B9 := hide (B1.out.trans ((J.out.bel.trans hb).mono B1.out.size))
            clear hb BS
            go_wp2_with fail
            go_ret2
            exact ⟨rfl, B9.out⟩
          case pos =>
            have hji : (j : Int) < (ns.length : Int) := by omega
            have hao := X1.out.nd.at0 (by omega)
            have X2 := X1.out.nd.below (J.out.bel.mono X1.out.le)
            have e0 := X2.cz j hjl
            have e1 := X2.cp j hjl
            obtain ⟨pa, pb, po, pc, hpv, hps⟩ := X2.ps j hjl
            have hpl := hps.len
            rw [hpv] at e1
            subst hao
            have hm : ns[j] ∈ ns := List.getElem_mem _
            have h64 := OK.out.l _ hm
            have HZi := hide (OK.out.z _ hm)
            have HPi := hide (OK.out.p _ hm)
            have HSu := hide (prN_succ hjl)
            have HW5 : Hid (ndW j ns[j] = [nodeW, itB (j : Int), zoneW, itB ns[j].z, partsW] ++ ns[j].ps.map itB) := rfl
            have PS : Hid (∀ Y, Below W1.heap.size W1 Y → PsAt N Y pa pb po ns[j].ps) := fun Y hY => by
              have hX3 := (X1.out.nd.below (hY.mono X1.out.le)).ps j hjl
              obtain ⟨pa', pb', po', pc', hpv', hps'⟩ := hX3
              exact ⟨hps.at0, hps.lt, fun q hq => ((hY.mono X1.out.le).cell (p := ⟨pb, po + q, none⟩) (hps.lt (by omega))).trans (((J.out.bel.mono X1.out.le).cell (p := ⟨pb, po + q, none⟩) (hps.lt (by omega))).symm.trans (hps.c q hq)), hps.len⟩
            have HLn := hide (ndW_len (by omega) HZi.out HPi.out : ∀ a ∈ ndW j ns[j], a.length ≤ 40)
            have HJl : Hid ((L2 ++ prN ns j).length ≤ 100000) := by
              show _ ≤ _
              rw [List.length_append]
              have := HL2.out
              have := HNl.out
              have := Nat.mul_le_mul (Nat.le_refl 3000) hj
              omega
            obtain ⟨W3, hW3⟩ : ∃ W3, W3 = wr.alloc (.cells #[.int .i64 ns[j].z, .slice pa ns[j].ps.length pc] 59) := ⟨_, rfl⟩
            have N3 : Hid (W3.heap[wr.heap.size]? = some (.cells #[.int .i64 ns[j].z, .slice pa ns[j].ps.length pc] 59)) := by rw [hW3]; exact heap_last _ _
            have J3 : Hid (JB W1 (L2 ++ prN ns j) W3) := by rw [hW3]; exact J.out.alloc _
            have IT := hide (fun n (hn : i64R n) Y (hY : Below W1.heap.size W1 Y) => itoa_any n w Y HPw.out (B1.out.trans (hY.mono B1.out.size)) hn.1 hn.2)
            have hj16 : i64R (j : Int) := ⟨by omega, by omega⟩
            have HJ16 := hide hj16
            clear X2 hpv hps hm hj16
            generalize hnd : ns[j] = nd at *
            clear hnd
            obtain ⟨z, ps⟩ := nd
            dsimp only at e0 e1 hpl h64 HZi HPi HW5 PS hW3 N3
            go_upto_region 15 with fail
            rw [← hW3]
            clear hW3 e0 e1 J
            generalize wr.heap.size = nB at *
            generalize hLL : L2 ++ prN ns j = LL at *
            have HLL := hide hLL
            clear hLL
            refine wp_region_held_drew (S := fun Y => Y.heap[nB]? = some (.cells #[.int .i64 z, .slice pa ps.length pc] 59)) (by kernel_rfl) N3.out (fun hHeld => ?_)
            refine wpAnyH_take (i := 0) (v := (.int .i64 (j : Int))) rfl (by kernel_rfl) (by kernel_rfl) (by kernel_rfl) (fun _ _ _ h => h) (Or.inl ⟨by rfl, ?_⟩) (by assumption) ?_
            · intro w' hSw
              (try dsimp only at hSw)
              exact exec_move (.tmp 9) rfl (by kernel_rfl)
            (try simp only [Act.put, List.getElem_toArray, List.getElem_cons_zero, List.getElem_cons_succ, List.setIfInBounds_toArray, List.set_cons_zero, List.set_cons_succ])
            refine wpAnyH_take (i := 2) (v := (.pointer (some ⟨nB, 0, none⟩))) rfl (by kernel_rfl) (by kernel_rfl) (by kernel_rfl) (fun _ _ _ h => h) (Or.inl ⟨by rfl, ?_⟩) (by assumption) ?_
            · intro w' hSw
              (try dsimp only at hSw)
              go_simp
            (try simp only [Act.put, List.getElem_toArray, List.getElem_cons_zero, List.getElem_cons_succ, List.setIfInBounds_toArray, List.set_cons_zero, List.set_cons_succ])
            refine wpAnyH_take (i := 3) (v := (.int .i64 z)) rfl (by kernel_rfl) (by kernel_rfl) (by kernel_rfl) (fun _ _ _ h => h) (Or.inl ⟨by rfl, ?_⟩) (by assumption) ?_
            · intro w' hSw
              (try dsimp only at hSw)
              exact exec_ldIr (b := nB) (o := 0) (.tmp 52) rfl (by kernel_rfl) (by unfold World.cell?; rw [hSw]; rfl)
            (try simp only [Act.put, List.getElem_toArray, List.getElem_cons_zero, List.getElem_cons_succ, List.setIfInBounds_toArray, List.set_cons_zero, List.set_cons_succ])
            refine wpAnyH_ready (rs := [1]) (by kernel_rfl) (by simp) ?_
            refine AllReadyH.cons rfl (fun K hK => ?_) AllReadyH.nil
            go_simp
            refine Calls.mono (IT.out _ HJ16.out _ J3.out.bel.drew) ?_
            rintro e X4 ⟨rfl, hb⟩
            have b4 : Below W3.heap.size W3 X4 := (Below.refl _ W3).drew.trans hb
            have J4 := hide (J3.out.below b4)
            have N4 : Hid (X4.heap[nB]? = some (.cells #[.int .i64 z, .slice pa ps.length pc] 59)) := (b4.block _ (blk_lt N3.out)).trans N3.out
            clear hb b4 J3 N3
            refine hK.out _ _ (N4.out) (fun hHeld => ?_)
            clear hK
            (try simp only [Act.put, List.setIfInBounds_toArray, List.set_cons_zero, List.set_cons_succ])
            refine wpAnyH_ready (rs := [4]) (by kernel_rfl) (by simp) ?_
            refine AllReadyH.cons rfl (fun K hK => ?_) AllReadyH.nil
            go_simp
            refine Calls.mono (IT.out _ HZi.out _ J4.out.bel) ?_
            rintro e X5 ⟨rfl, hb⟩
            have J5 := hide (J4.out.below hb)
            have N5 : Hid (X5.heap[nB]? = some (.cells #[.int .i64 z, .slice pa ps.length pc] 59)) := (hb.block _ (blk_lt N4.out)).trans N4.out
            clear hb J4 N4
            refine hK.out _ _ (N5.out) (fun hHeld => ?_)
            clear hK
            (try simp only [Act.put, List.setIfInBounds_toArray, List.set_cons_zero, List.set_cons_succ])
            refine wpAnyH_ready (rs := [5]) (by kernel_rfl) (by simp) ?_
            refine AllReadyH.cons rfl (fun K hK => ?_) AllReadyH.nil
            go_simp
            obtain ⟨X6, hX6⟩ : ∃ X6, X6 = X5.alloc (.cells #[.string (strOf nodeW), .string (strOf (itB (j : Int))), .string (strOf zoneW), .string (strOf (itB z)), .string (strOf partsW)] 9) := ⟨_, rfl⟩
            rw [show X5.alloc (.cells #[.string ⟨#[110, 111, 100, 101]⟩, .string (strOf (itB (j : Int))), .string ⟨#[122, 111, 110, 101]⟩, .string (strOf (itB z)), .string ⟨#[112, 97, 114, 116, 115]⟩] 9) = X6 from hX6.symm]
            have J6 : Hid (JB W1 LL X6) := by rw [hX6]; exact J5.out.alloc _
            have N6 : Hid (X6.heap[nB]? = some (.cells #[.int .i64 z, .slice pa ps.length pc] 59)) := by rw [hX6, Below.heap_alloc _ _ _ (blk_lt N5.out)]; exact N5.out
            have R6 : Hid (X6.ownsRow W1.heap.size 9 1 (.slice (some ⟨X5.heap.size, 0, none⟩) 5 5) 5 (nmc [nodeW, itB (j : Int), zoneW, itB z, partsW])) := by
              rw [hX6]
              exact ⟨rfl, Or.inr ⟨X5.heap.size, 5, _, rfl, J5.out.bel.size, heap_last _ _, Nat.le_refl _, by unfold maxLen; omega, rfl, rfl⟩⟩
            clear hX6 J5 N5
            generalize X5.heap.size = g0 at *
            refine hK.out _ _ (N6.out) (fun hHeld => ?_)
            clear hK
            (try simp only [Act.put, List.setIfInBounds_toArray, List.set_cons_zero, List.set_cons_succ])
            refine wpAnyH_ready (rs := [6]) (by kernel_rfl) (by simp) ?_
            refine AllReadyH.cons rfl (fun K hK => ?_) AllReadyH.nil
            go_simp
            refine hK.out _ _ (N6.out) (fun hHeld => ?_)
            clear hK
            (try simp only [Act.put, List.setIfInBounds_toArray, List.set_cons_zero, List.set_cons_succ])
            refine wpAnyH_done (by kernel_rfl) ?_ _
            clear hHeld
            have n1 : X6.cell? ⟨nB, 1, none⟩ = some (.slice pa ps.length pc) := by unfold World.cell?; rw [N6.out]; rfl
            go_wp2_with fail
            clear n1
            go_loopw [11, 59] (fun vl vi wq => ∃ (k : Nat), k ≤ ps.length ∧ vi = .int .i64 (k : Int) ∧ (∃ ba cp, vl = .slice ba (5 + k) cp) ∧ Hid (wq.ownsRow W1.heap.size 9 1 vl (5 + k) (nmc ([nodeW, itB (j : Int), zoneW, itB z, partsW] ++ (ps.take k).map itB))) ∧ Hid (JB W1 LL wq)) (fun _ vi _ => ps.length - (intOf vi).toNat)
            case atStart => exact ⟨0, Nat.zero_le _, rfl, ⟨some ⟨g0, 0, none⟩, 5, rfl⟩, by simpa using R6, J6⟩
            case round =>
              clear R6 J6 N6
              obtain ⟨k, hk, rfl, ⟨ba, cp, rfl⟩, R, J⟩ := hrel
              by_cases hkl : k < ps.length
              case neg =>
                obtain rfl : k = ps.length := by omega
                have HR := R.out
                rw [List.take_length, ← HW5.out] at HR
                obtain ⟨g, cg, hv⟩ := own_some HR (by omega)
                injection hv with v1 _ v3
                subst v1
                subst v3
                have hwl : (ndW j ⟨z, ps⟩).length = 5 + ps.length := by rw [HW5.out, List.length_append, List.length_map]; rfl
                have hcp : 5 + ps.length ≤ cp := by
                  rcases HR.2 with ⟨e, _⟩ | ⟨g', cap', cur, e, _, _, hc1, _⟩
                  · cases e
                  · injection e with _ _ e3
                    omega
                have LI := J.out.line (ndW j ⟨z, ps⟩) g cp (fun q hq => by
                  rw [Nat.zero_add, HR.cellAt q (by omega)]
                  exact nmc_at _ q hq) (own_lt HR rfl).2 (by omega) (by omega) (by have := HJl.out; omega) (fun a ha => by have := HLn.out a ha; omega) (by omega)
                rw [hwl] at LI
                replace LI := hide LI
                clear HR R hwl hcp
                go_wp2_with fail
                refine Calls.mono LI.out ?_
                rintro e X9 ⟨rfl, j9, _⟩
                have J9 := hide j9
                clear j9 LI J
                go_wp2_with fail
                go_roundw
                case rel => exact ⟨j + 1, by omega, by go_num, by rw [HSu.out, ← List.append_assoc, HLL.out]; exact J9⟩
                case measure => simp [intOf]; omega
              case pos =>
                have hki : (k : Int) < (ps.length : Int) := by omega
                have P2 := PS.out _ J.out.bel
                have hpa := P2.at0 (by omega)
                subst hpa
                have c1 := P2.c k hkl
                have HPk := hide (HPi.out ps[k] (List.getElem_mem hkl))
                have HTk : Hid ((ps.take (k + 1)).map itB = (ps.take k).map itB ++ [itB ps[k]]) := by
                  show _ = _
                  rw [List.take_succ_eq_append_getElem hkl, List.map_append]
                  rfl
                obtain ⟨k0, hk0, hx0, hx1, hx2⟩ := info_parts infoStrR
                clear P2
                generalize ps[k] = pk at *
                go_wp2_with fail
                refine Calls.mono (IT.out _ HPk.out _ J.out.bel) ?_
                rintro e X7 ⟨rfl, hb⟩
                have J7 := hide (J.out.below hb)
                have R7 : Hid (X7.ownsRow W1.heap.size 9 1 (.slice ba (5 + k) cp) (5 + k) (nmc ([nodeW, itB (j : Int), zoneW, itB z, partsW] ++ (ps.take k).map itB))) := own_keep R.out fun i hi => hb.block i (own_lt R.out hi).2
                clear hb R J c1
                generalize hib : itB pk = ib at *
                clear hib
                generalize hWL : [nodeW, itB (j : Int), zoneW, itB z, partsW] ++ (ps.take k).map itB = WL at *
                have HWL := hide hWL
                clear hWL
                go_wp2_with (at_builtin; refine wpList_append_own_at _ rfl (.tmp 63) (.tmp 66) 40 rfl W1.heap.size 9 k0 (.string ⟨#[]⟩) 1 16 Tryd.underlying40 hk0 hx0 hx1 hx2 rfl (by decide) _ _ _ rfl (R7.out.alloc _) ⟨_, 0, none⟩ 1 1 (nmc [ib]) rfl rfl (one_cellR _ ib) (nmc_one _) (by unfold maxLen; omega) (by omega) (by have := J7.out.bel.size; simp; omega) ?_; intro v8 X8 o8 g8 n8 a8; clear n8 a8)
                have J8 : Hid (JB W1 LL X8) := (J7.out.alloc (.cells #[.string (strOf ib)] 9)).grown (R7.out.alloc _) (Nat.le_refl _) g8
                have R8 : Hid (X8.ownsRow W1.heap.size 9 1 v8 (5 + (k + 1)) (nmc (WL ++ [ib]))) := by
                  rw [nmc_append]
                  exact o8
                obtain ⟨ba8, cp8, hv8, _⟩ := own_sl R8.out
                subst hv8
                clear o8 g8 J7 R7
                go_wp2_with fail
                go_roundw
                case rel => exact ⟨k + 1, by omega, by go_num, ⟨ba8, cp8, rfl⟩, by rw [HTk.out, ← List.append_assoc, HWL.out]; exact R8, J8⟩
                case measure => simp [intOf]; omega
end Go.Proofs.YtanlnelfbfjelaaDoor
