import Derived.Test.YteiiolilpemimaaDoorAnTwin
import Derived.Test.YteiiolilpemimaaDoorGAeLists
namespace Go.Proofs.YteiiolilpemimaaDoor.Cn
open Go.RowKit
/-- append(l, m), up to what an allocation holds -/
theorem wpList_apIL {w : World} {ops : Array Oper} {rest : List Oper} {o : Oper} {a : Act} {Q : Exit → Act → World → Prop} (hgd : o.guard = none) (x y : Operand) (ho : o.op = .call { callee := .builtin .append, args := #[x, y], argTypes := #[26, 26] }) (base : Nat) (v : Value) (n : Nat) (L : List Int) (hx : a.eval x = v) (hv : w.ownsRow base 3 1 v n (ints L)) (g : Nat) (m : Int) (hy : a.eval y = .slice (some ⟨g, 0, none⟩) 1 1) (hg : w.heap[g]? = some (.cells #[.int .i64 m] 3)) (hl : n < 17592186044000) (hb : base ≤ w.heap.size)
    (h : ∀ v' w', w'.ownsRow base 3 1 v' (n + 1) (ints (L ++ [m])) → w.grownBy w' v.ownBlock → (v'.ownBlock = v.ownBlock ∨ v'.ownBlock = some w.heap.size) → wpList Tryd.prog ops Q rest (a.put o.dst v') w') : wpList Tryd.prog ops Q (o :: rest) a w := by
  obtain ⟨i0, hi, hz0, hz1, hz2⟩ := info_parts int_infos
  refine wpList_append_own_at _ hgd _ _ 26 ho base 3 i0 _ 1 8 Tryd.underlying26 hi hz0 hz1 hz2 rfl (by decide) _ _ _ hx hv ⟨g, 0, none⟩ 1 1 (ints [m]) hy rfl ?_ (ints_one _) (by unfold maxLen; omega) (by omega) hb ?_
  · intro j u hj
    rw [Addr.add_mid, Nat.zero_add, cell_row hg]
    simpa [ints] using hj
  · intro v' w' h1 h2 _ h4
    refine h v' w' ?_ h2 h4
    unfold ints at h1 ⊢
    rw [List.map_append]
    exact h1
theorem wpList_apSL {w : World} {ops : Array Oper} {rest : List Oper} {o : Oper} {a : Act} {Q : Exit → Act → World → Prop} (hgd : o.guard = none) (x y : Operand) (ho : o.op = .call { callee := .builtin .append, args := #[x, y], argTypes := #[37, 37] }) (base : Nat) (v : Value) (n : Nat) (L : List Value) (hx : a.eval x = v) (hv : w.ownsRow base 26 1 v n L) (g : Nat) (m : Value) (h1 : m.oneCell' = true) (hy : a.eval y = .slice (some ⟨g, 0, none⟩) 1 1) (hg : w.heap[g]? = some (.cells #[m] 26)) (hl : n ≤ 4398046510976) (hb : base ≤ w.heap.size)
    (h : ∀ v' w', w'.ownsRow base 26 1 v' (n + 1) (L ++ [m]) → w.grownBy w' v.ownBlock → wpList Tryd.prog ops Q rest (a.put o.dst v') w') : wpList Tryd.prog ops Q (o :: rest) a w := by
  obtain ⟨i0, hi, hz0, hz1, hz2⟩ := info_parts ss_infos
  refine wpList_append_own_at _ hgd _ _ 37 ho base 26 i0 _ 1 24 Tryd.underlying37 hi hz0 hz1 hz2 rfl (by decide) _ _ _ hx hv ⟨g, 0, none⟩ 1 1 [m] hy rfl ?_ (by intro u hu; rw [List.mem_singleton.1 hu]; exact h1) (by unfold maxLen; omega) (by omega) hb ?_
  · intro j u hj
    rw [Addr.add_mid, Nat.zero_add, cell_row hg]
    simpa using hj
  · intro v' w' a1 a2 _ _
    exact h v' w' a1 a2
def mk8 (j : Nat) : List Int := List.replicate j (-77)
/-- lists of which the first have got their marks -/
structure Mk (b0 : Nat) (W : World) (ns : List ND) (vl : Value) (zs : List (Int × Value)) (fs : List Value) : Prop where
  row : W.ownsRow b0 78 2 vl zs.length (ndc zs)
  len : zs.length = ns.length
  z : ∀ (q : Nat) (h : q < zs.length) (h' : q < ns.length), zs[q].1 = ns[q].z
  lo : ∀ (q : Nat) (h : q < zs.length) (h' : q < ns.length) (f : Value), fs[q]? = some f → W.ownsRow b0 3 1 f (ns[q].ps.length + 8) (ints (ns[q].ps ++ mk8 8)) ∧ ∃ g cap, f = .slice (some ⟨g, 0, none⟩) (ns[q].ps.length + 8) cap ∧ zs[q].2 = .slice (some ⟨g, 0, none⟩) ns[q].ps.length cap
  hi : ∀ (q : Nat) (h : q < zs.length) (h' : q < ns.length), fs.length ≤ q → W.ownsRow b0 3 1 zs[q].2 ns[q].ps.length (ints ns[q].ps)
  ap : ApZ zs
theorem Mk.kp {b0 : Nat} {W W' : World} {ns : List ND} {vl : Value} {zs : List (Int × Value)} {fs : List Value} {S : Nat → Prop} (h : Mk b0 W ns vl zs fs) (hk : Kp W W' S) (hS : ∀ k C t fr, W.heap[k]? = some (.cells C t fr) → (t = 78 ∨ t = 3) → ¬ S k) : Mk b0 W' ns vl zs fs := by
  have iv : ∀ {u : Value} {m : Nat} {xs : List Value}, W.ownsRow b0 3 1 u m xs → W'.ownsRow b0 3 1 u m xs := fun {u m xs} hh => own_kp hh hk (fun k e => by
    obtain ⟨cur, hc⟩ := own_typ hh e
    exact hS k _ _ _ hc (Or.inr rfl))
  exact ⟨own_kp h.row hk (fun k e => by
    obtain ⟨cur, hc⟩ := own_typ h.row e
    exact hS k _ _ _ hc (Or.inl rfl)), h.len, h.z, fun q hq hq' f hf => ⟨iv (h.lo q hq hq' f hf).1, (h.lo q hq hq' f hf).2⟩, fun q hq hq' hl => iv (h.hi q hq hq' hl), h.ap⟩
theorem ndc_put {zs : List (Int × Value)} {i : Nat} (h : i < zs.length) (u : Value) : ndc (zs.set i (zs[i].1, u)) = (ndc zs).set (i * 2 + 1) u := by
  induction zs generalizing i with
  | nil => simp at h
  | cons a r ih =>
    cases i with
    | zero => rfl
    | succ i =>
      have h' : i < r.length := by simpa using h
      have := ih h'
      unfold ndc at *
      rw [List.set_cons_succ, List.flatMap_cons, List.flatMap_cons, show (i + 1) * 2 + 1 = [Value.int .i64 a.1, a.2].length + (i * 2 + 1) by simp; omega, List.set_append_right _ _ (by omega), Nat.add_sub_cancel_left]
      rw [show (a :: r)[i + 1].1 = r[i].1 from rfl, this]
/-- what lies below a block is as it was, and every block above it that is no list of ints and no list of nodes -/
structure Bo (b0 : Nat) (w w' : World) : Prop where
  be : Below b0 w w'
  oth : ∀ (k : Nat) (C : Array Value) (t : TypeId) (fr : Nat × Nat), w.heap[k]? = some (.cells C t fr) → t ≠ 3 → t ≠ 78 → w'.heap[k]? = w.heap[k]?
/-- what marked leaves -/
def MkR (b0 : Nat) (w w' : World) (ns : List ND) (vl fv : Value) : Prop := ∃ zs fs, fs.length = ns.length ∧ Mk b0 w' ns vl zs fs ∧ w'.ownsRow w.heap.size 26 1 fv fs.length fs ∧ Bo b0 w w'
set_option maxHeartbeats 16000000 in
set_option maxRecDepth 100000 in
set_option linter.unusedSimpArgs false in
set_option linter.unusedVariables false in
theorem marked_a (b0 : Nat) (w : World) (st : ByteArray) (x : Nat → Int) (ns : List ND) (vl : Value) (zs0 : List (Int × Value)) (h : Mk b0 w ns vl zs0 []) (hb0 : b0 ≤ w.heap.size) (hps : ∀ (q : Nat) (hq : q < ns.length), ns[q].ps.length ≤ 17592186043904) (hns : ns.length ≤ 4398046510976) :
    Calls Tryd.prog 43 #[.agg (clA st x vl)] w fun e w' => ∃ fv, e = .returned fv ∧ MkR b0 w w' ns vl fv := by
  obtain ⟨C, hC⟩ : ∃ C, C = w.heap.size := ⟨_, rfl⟩
  obtain ⟨W0, hW0⟩ : ∃ W0, W0 = w.alloc (.cells (clA st x vl) 24) := ⟨_, rfl⟩
  have k0 : Kp w W0 non := by rw [hW0]; exact (Kp.refl w non).alloc _
  have m0 : Hid (W0.heap[C]? = some (.cells (clA st x vl) 24)) := by rw [hW0, hC]; exact heap_last w _
  have M0 : Hid (Mk b0 W0 ns vl zs0 []) := ⟨own_kp h.row k0 (fun _ _ f => f), h.len, h.z, fun q hq hq' f hf => by simp at hf, fun q hq hq' hl => own_kp (h.hi q hq hq' hl) k0 (fun _ _ f => f), h.ap⟩
  have B0 : Hid (Bo b0 w W0) := ⟨k0.below.mono hb0, fun k _ _ _ hc _ _ => k0.block k (blk_lt hc) (fun f => f)⟩
  have HL0 := h.len
  obtain ⟨nb, vc, hvl⟩ := own_sl h.row
  obtain ⟨cn, hcn⟩ : ∃ cn, cn = ns.length := ⟨_, rfl⟩
  have HCN := hide hcn
  rw [HL0, ← hcn] at hvl
  have HVL := hide hvl
  have HC := hide hC
  have F0 : Hid (W0.ownsRow C 26 1 (.slice none 0 0) ([] : List Value).length []) := World.ownsRow_nil _ _ _ _
  clear h k0 HL0 hcn hvl
  go_enter Tryd.func43, Tryd.ntmps43
  go_upto_region 1 with fail
  rw [← hW0, ← hC]
  clear hW0 hC
  go_wp2_with fail
  go_loopw [3, 4] (fun v3 v4 wr => ∃ (i : Nat) (zs : List (Int × Value)) (fs : List Value), i ≤ cn ∧ v4 = .int .i64 (i : Int) ∧ Hid (fs.length = i) ∧ Hid (Mk b0 wr ns vl zs fs) ∧ Hid (wr.ownsRow C 26 1 v3 fs.length fs) ∧ Hid (wr.heap[C]? = some (.cells (clA st x vl) 24)) ∧ Hid (Bo b0 w wr)) (fun _ v4 _ => cn - (intOf v4).toNat)
  case atStart => exact ⟨0, zs0, [], Nat.zero_le _, rfl, rfl, M0.out, F0.out, m0.out, B0.out⟩
  case round =>
    clear M0 F0 m0 B0
    obtain ⟨i, zs, fs, hi, rfl, HFL, HM, HF, HCB, HB⟩ := hrel
    have c22 : wr.cell? ⟨C, 22, none⟩ = some (.slice nb cn vc) := by rw [cell_row HCB.out, HVL.out]; rfl
    by_cases hin : i < cn
    case neg =>
      obtain rfl : i = cn := by omega
      have hii : ¬ (i : Int) < (i : Int) := by omega
      go_wp2_with fail
      go_ret
      exact ⟨_, rfl, zs, fs, HFL.out.trans HCN.out, HM.out, by rw [← HC.out]; exact HF.out, HB.out⟩
    case pos =>
      have hii : (i : Int) < (cn : Int) := by omega
      have hiz : i < zs.length := by rw [HM.out.len, ← HCN.out]; exact hin
      have hin2 : i < ns.length := by rw [← HCN.out]; exact hin
      obtain ⟨g0, c0', eg, qn, qf⟩ := own_at HM.out.row (ndc_at zs i hiz).2
      have HV2 := HVL.out
      rw [HV2] at eg
      injection eg with eg el ec
      subst eg
      subst ec
      clear el
      have hown := HM.out.hi i hiz hin2 (by rw [HFL.out]; exact Nat.le_refl _)
      obtain ⟨pa, pc, hp2⟩ := own_sl hown
      obtain ⟨n, hn⟩ : ∃ n, n = ns[i].ps.length := ⟨_, rfl⟩
      have HN := hide hn
      have hn44 := hps i hin2
      rw [← hn] at hp2 hn44
      rw [hp2] at qn
      have HP2 := hide hp2
      have O0 : Hid (wr.ownsRow b0 3 1 (.slice pa n pc) (n + 0) (ints (ns[i].ps ++ mk8 0))) := by
        show World.ownsRow _ _ _ _ _ _ (ints (ns[i].ps ++ []))
        rw [List.append_nil, ← hp2, hn]
        exact hown
      clear hown hn hp2 HV2
      have HP0 : Hid (∀ k, (Value.slice pa n pc).ownBlock = some k → zs[i].2.ownBlock = some k) := fun k e => by rw [HP2.out]; exact e
      go_wp2_with fail
      clear qn qf c22
      generalize wr = wo at *
      go_loopw [6, 7] (fun v6 v7 wx => ∃ (j : Nat) (fa : Option Addr) (fc : Nat), j ≤ 8 ∧ v7 = .int .i64 (j : Int) ∧ v6 = .slice fa (n + j) fc ∧ Hid (wx.ownsRow b0 3 1 (.slice fa (n + j) fc) (n + j) (ints (ns[i].ps ++ mk8 j))) ∧ Hid (∀ k, (Value.slice fa (n + j) fc).ownBlock = some k → zs[i].2.ownBlock = some k ∨ wo.heap.size ≤ k) ∧ Hid (Kp wo wx (fun k => zs[i].2.ownBlock = some k))) (fun _ v7 _ => 8 - (intOf v7).toNat)
      case atStart => exact ⟨0, pa, pc, by omega, rfl, rfl, O0.out, fun k e => Or.inl (HP0.out k e), Kp.refl _ _⟩
      case round =>
        clear O0 HP0
        obtain ⟨j, fa, fc, hj, rfl, rfl, HO, HG, HK⟩ := hrel
        by_cases hj8 : j < 8
        case pos =>
          have hji : (j : Int) < 8 := by omega
          have SZ : Hid (b0 ≤ (wr.alloc (.cells #[.int .i64 (-77)] 3)).heap.size) := by
            have h1 := HB.out.be.size
            have h2 := HK.out.size
            show b0 ≤ _
            rw [World.size_alloc]
            omega
          have O1 : Hid ((wr.alloc (.cells #[.int .i64 (-77)] 3)).ownsRow b0 3 1 (.slice fa (n + j) fc) (n + j) (ints (ns[i].ps ++ mk8 j))) := own_kp HO.out ((Kp.refl wr non).alloc _) (fun _ _ f => f)
          have G1 : Hid ((wr.alloc (.cells #[.int .i64 (-77)] 3)).heap[wr.heap.size]? = some (.cells #[.int .i64 (-77)] 3)) := heap_last _ _
          have EM : Hid ((ns[i].ps ++ mk8 j) ++ [-77] = ns[i].ps ++ mk8 (j + 1)) := by
            show _ = _
            rw [List.append_assoc]
            unfold mk8
            rw [List.replicate_succ']
          obtain ⟨nj, hnj⟩ : ∃ nj, nj = n + j := ⟨_, rfl⟩
          have HNJ := hide hnj
          have hnjb : nj < 17592186044000 := by omega
          rw [← hnj] at O1 ⊢
          clear hnj
          go_wp2_with (at_builtin; refine wpList_apIL rfl (.tmp 32) (.tmp 33) rfl b0 _ nj (ns[i].ps ++ mk8 j) rfl O1.out wr.heap.size (-77) rfl G1.out hnjb SZ.out ?_; intro v' w3 o2 g2 g3)
          obtain ⟨va, vcc, rfl⟩ := own_sl o2
          have kg : Kp wr w3 (fun k => some k = (Value.slice fa nj fc).ownBlock) := ((Kp.refl wr (fun k => some k = (Value.slice fa nj fc).ownBlock)).alloc _).trans (Kp.of_grown g2) (fun _ e => Or.inl e)
          have K9 : Hid (Kp wo w3 (fun k => zs[i].2.ownBlock = some k)) := HK.out.trans kg (fun k e => by
            rcases HG.out k (by rw [← HNJ.out]; exact e.symm) with z | z
            · exact Or.inl z
            · exact Or.inr z)
          have G9 : Hid (∀ k, (Value.slice va (n + (j + 1)) vcc).ownBlock = some k → zs[i].2.ownBlock = some k ∨ wo.heap.size ≤ k) := fun k e => by
            have e' : (Value.slice va (nj + 1) vcc).ownBlock = some k := by rw [HNJ.out]; exact e
            rcases g3 with z | z
            · have z2 : (Value.slice fa nj fc).ownBlock = some k := z.symm.trans e'
              rw [HNJ.out] at z2
              exact HG.out k z2
            · rw [e'] at z
              have z' := Option.some.inj z
              rw [World.size_alloc] at z'
              have := HK.out.size
              exact Or.inr (by omega)
          have O9 : Hid (w3.ownsRow b0 3 1 (.slice va (n + (j + 1)) vcc) (n + (j + 1)) (ints (ns[i].ps ++ mk8 (j + 1)))) := by
            have z := o2
            rw [EM.out, HNJ.out] at z
            exact z
          have NE : Hid (Value.slice va (nj + 1) vcc = Value.slice va (n + (j + 1)) vcc) := by
            show _ = _
            rw [HNJ.out]
            rfl
          clear kg o2 g2 g3 hnjb
          go_roundw
          case rel => exact ⟨j + 1, va, vcc, by omega, by go_num, NE.out, O9.out, G9.out, K9.out⟩
          case measure => simp [intOf]; omega
        case neg =>
          obtain rfl : j = 8 := by omega
          have hji : ¬ (8 : Int) < 8 := by omega
          have hfc : ¬ fc < n := by
            rcases HO.out.2 with ⟨_, hz⟩ | ⟨g', cap', cur, e, _, _, hle, _⟩
            · omega
            · injection e with _ _ e3
              omega
          obtain ⟨g, cg, hfa⟩ := own_g HO.out (by omega)
          injection hfa with hfa el3 ec3
          subst hfa
          subst ec3
          try clear el3
          have ofI : ∀ {k : Nat} {Cc : Array Value} {t : TypeId} {fr : Nat × Nat}, wo.heap[k]? = some (.cells Cc t fr) → t ≠ 3 → ¬ zs[i].2.ownBlock = some k := fun {k Cc t fr} hc ht e => by
            have hw := HM.out.hi i hiz hin2 (by rw [HFL.out]; exact Nat.le_refl _)
            obtain ⟨cur, hc'⟩ := own_typ hw e
            rw [hc] at hc'
            simp at hc'
            exact ht hc'.2.1
          have HCB1 : Hid (wr.heap[C]? = some (.cells (clA st x vl) 24)) := (HK.out.block _ (blk_lt HCB.out) (ofI HCB.out (by decide))).trans HCB.out
          have ROW1 : Hid (wr.ownsRow b0 78 2 vl zs.length (ndc zs)) := own_kp HM.out.row HK.out (fun k e => by
            obtain ⟨cur, hc⟩ := own_typ HM.out.row e
            exact ofI hc (by decide))
          have FUL1 : Hid (wr.ownsRow C 26 1 u3 fs.length fs) := own_kp HF.out HK.out (fun k e => by
            obtain ⟨cur, hc⟩ := own_typ HF.out e
            exact ofI hc (by decide))
          obtain ⟨gx, cx, egx, qn, qf⟩ := own_at ROW1.out (ndc_at zs i hiz).2
          rw [HVL.out] at egx
          injection egx with egx el4 ec4
          subst ec4
          clear el4
          injection egx with egx
          injection egx with egx _ _
          subst egx
          rw [HP2.out] at qn
          have c22 : wr.cell? ⟨C, 22, none⟩ = some (.slice (some ⟨g0, 0, none⟩) cn vc) := by rw [cell_row HCB1.out, HVL.out]; rfl
          have hn8 : n ≤ n + 8 := by omega
          have hn8i : (n : Int) ≤ ((n + 8 : Nat) : Int) := by omega
          go_upto_region 11 with fail
          have C0 : Hid (wr.cell? ⟨C, 22, none⟩ = some (.slice (some ⟨g0, 0, none⟩) cn vc) ∧ wr.cell? ⟨g0, i * 2 + 1, none⟩ = some (.slice pa n pc) ∧ wr.frozen? ⟨g0, i * 2 + 1, none⟩ = false) := ⟨c22, qn, qf⟩
          clear c22 qn qf
          refine wp_region_held_drew (S := fun X => X.cell? ⟨C, 22, none⟩ = some (.slice (some ⟨g0, 0, none⟩) cn vc)) (by kernel_rfl) C0.out.1 (fun hHeld => ?_)
          refine wpAnyH_take (i := 0) (v := (.pointer (some ⟨C, 22, none⟩))) rfl (by kernel_rfl) (by kernel_rfl) (by kernel_rfl) (fun _ _ _ h => h) (Or.inl ⟨by kernel_rfl, ?_⟩) (by assumption) ?_
          · intro w' hSw
            (try dsimp only at hSw)
            go_simp
          (try simp only [Act.put, List.getElem_toArray, List.getElem_cons_zero, List.getElem_cons_succ, List.setIfInBounds_toArray, List.set_cons_zero, List.set_cons_succ])
          refine wpAnyH_take (i := 1) (v := (.slice (some ⟨g0, 0, none⟩) cn vc)) rfl (by kernel_rfl) (by kernel_rfl) (by kernel_rfl) (fun _ _ _ h => h) (Or.inl ⟨by kernel_rfl, ?_⟩) (by assumption) ?_
          · intro w' hSw
            (try dsimp only at hSw)
            (have y := hSw; go_simp)
          (try simp only [Act.put, List.getElem_toArray, List.getElem_cons_zero, List.getElem_cons_succ, List.setIfInBounds_toArray, List.set_cons_zero, List.set_cons_succ])
          refine wpAnyH_take (i := 2) (v := (.int .i64 (i : Int))) rfl (by kernel_rfl) (by kernel_rfl) (by kernel_rfl) (fun _ _ _ h => h) (Or.inl ⟨by kernel_rfl, ?_⟩) (by assumption) ?_
          · intro w' hSw
            (try dsimp only at hSw)
            go_simp
          (try simp only [Act.put, List.getElem_toArray, List.getElem_cons_zero, List.getElem_cons_succ, List.setIfInBounds_toArray, List.set_cons_zero, List.set_cons_succ])
          refine wpAnyH_take (i := 3) (v := (.slice (some ⟨g, 0, none⟩) (n + 8) fc)) rfl (by kernel_rfl) (by kernel_rfl) (by kernel_rfl) (fun _ _ _ h => h) (Or.inl ⟨by kernel_rfl, ?_⟩) (by assumption) ?_
          · intro w' hSw
            (try dsimp only at hSw)
            go_simp
          (try simp only [Act.put, List.getElem_toArray, List.getElem_cons_zero, List.getElem_cons_succ, List.setIfInBounds_toArray, List.set_cons_zero, List.set_cons_succ])
          refine wpAnyH_take (i := 4) (v := (.int .i64 (n : Int))) rfl (by kernel_rfl) (by kernel_rfl) (by kernel_rfl) (fun _ _ _ h => h) (Or.inl ⟨by kernel_rfl, ?_⟩) (by assumption) ?_
          · intro w' hSw
            (try dsimp only at hSw)
            go_simp
          (try simp only [Act.put, List.getElem_toArray, List.getElem_cons_zero, List.getElem_cons_succ, List.setIfInBounds_toArray, List.set_cons_zero, List.set_cons_succ])
          refine wpAnyH_take (i := 5) (v := (.slice (some ⟨g, 0, none⟩) n fc)) rfl (by kernel_rfl) (by kernel_rfl) (by kernel_rfl) (fun _ _ _ h => h) (Or.inl ⟨by kernel_rfl, ?_⟩) (by assumption) ?_
          · intro w' hSw
            (try dsimp only at hSw)
            go_simp
          (try simp only [Act.put, List.getElem_toArray, List.getElem_cons_zero, List.getElem_cons_succ, List.setIfInBounds_toArray, List.set_cons_zero, List.set_cons_succ])
          refine wpAnyH_take (i := 6) (v := (.pointer (some ⟨g0, i * 2, none⟩))) rfl (by kernel_rfl) (by kernel_rfl) (by kernel_rfl) (fun _ _ _ h => h) (Or.inl ⟨by kernel_rfl, ?_⟩) (by assumption) ?_
          · intro w' hSw
            (try dsimp only at hSw)
            go_simp
          (try simp only [Act.put, List.getElem_toArray, List.getElem_cons_zero, List.getElem_cons_succ, List.setIfInBounds_toArray, List.set_cons_zero, List.set_cons_succ])
          refine wpAnyH_take (i := 7) (v := (.pointer (some ⟨g0, i * 2 + 1, none⟩))) rfl (by kernel_rfl) (by kernel_rfl) (by kernel_rfl) (fun _ _ _ h => h) (Or.inl ⟨by kernel_rfl, ?_⟩) (by assumption) ?_
          · intro w' hSw
            (try dsimp only at hSw)
            go_simp
          (try simp only [Act.put, List.getElem_toArray, List.getElem_cons_zero, List.getElem_cons_succ, List.setIfInBounds_toArray, List.set_cons_zero, List.set_cons_succ])
          refine wpAnyH_ready (rs := [8]) (by kernel_rfl) (by simp) ?_
          refine AllReadyH.cons rfl (fun K hK => ?_) AllReadyH.nil
          have y2 := C0.out.2.1
          have y3 := C0.out.2.2
          go_simp
          obtain ⟨W9, hW9⟩ : ∃ W9, W9 = (wr.setCell ⟨g0, i * 2 + 1, none⟩ (.slice (some ⟨g, 0, none⟩) n fc)).drew := ⟨_, rfl⟩
          have k9 : Kp wr W9 (fun b => b = g0) := by rw [hW9]; exact ((Kp.refl wr (fun b => b = g0)).set (Or.inl rfl) _ _).drew
          have HV9 := HVL.out
          have hgo : vl.ownBlock = some g0 := by rw [HV9]; rfl
          have of9 : ∀ {k : Nat} {Cc : Array Value} {t : TypeId} {fr : Nat × Nat}, wr.heap[k]? = some (.cells Cc t fr) → t ≠ 78 → k ≠ g0 := fun {k Cc t fr} hc ht e => by
            obtain ⟨cur, hc'⟩ := own_typ ROW1.out hgo
            rw [e, hc'] at hc
            simp at hc
            exact ht hc.2.1.symm
          have c9 : W9.cell? ⟨C, 22, none⟩ = some (.slice (some ⟨g0, 0, none⟩) cn vc) := (k9.cell (blk_lt HCB1.out) (of9 HCB1.out (by decide))).trans C0.out.1
          have HCB9 : Hid (W9.heap[C]? = some (.cells (clA st x vl) 24)) := (k9.block _ (blk_lt HCB1.out) (of9 HCB1.out (by decide))).trans HCB1.out
          have FUL9 : Hid (W9.ownsRow C 26 1 u3 fs.length fs) := own_kp FUL1.out k9 (fun k e => by
            obtain ⟨cur, hc⟩ := own_typ FUL1.out e
            exact of9 hc (by decide))
          have int9 : ∀ {u : Value} {m : Nat} {xs : List Value}, wr.ownsRow b0 3 1 u m xs → W9.ownsRow b0 3 1 u m xs := fun {u m xs} hh => own_kp hh k9 (fun k e => by
            obtain ⟨cur, hc⟩ := own_typ hh e
            exact of9 hc (by decide))
          have ROW9 : W9.ownsRow b0 78 2 vl zs.length (ndc (zs.set i (zs[i].1, .slice (some ⟨g, 0, none⟩) n fc))) := by
            rw [ndc_put hiz, hW9]
            have hcz : cn = zs.length := HCN.out.trans HM.out.len.symm
            have z0 := ROW1.out
            rw [HV9, hcz] at z0
            have z := own_kp (own_setZ z0 (i * 2 + 1) (.slice (some ⟨g, 0, none⟩) n fc)) ((Kp.refl (wr.setCell ⟨g0, i * 2 + 1, none⟩ (.slice (some ⟨g, 0, none⟩) n fc)) non).drew) (fun _ _ f => f)
            rw [HV9, hcz]
            exact z
          have blk9 : ∀ (q : Nat) (hq : q < zs.length) (k : Nat), zs[q].2.ownBlock = some k → k < wo.heap.size ∧ (q < i → ∀ f, fs[q]? = some f → f.ownBlock = some k) := fun q hq k e => by
            have hq2 : q < ns.length := by rw [← HM.out.len]; exact hq
            by_cases hqi : q < i
            · obtain ⟨f, hf⟩ : ∃ f, fs[q]? = some f := ⟨_, List.getElem?_eq_getElem (by rw [HFL.out]; exact hqi)⟩
              obtain ⟨h1, gq, cq, rfl, e2⟩ := HM.out.lo q hq hq2 f hf
              rw [e2] at e
              have e3 : (Value.slice (some ⟨gq, 0, none⟩) (ns[q].ps.length + 8) cq).ownBlock = some k := e
              obtain ⟨cur, hc⟩ := own_typ h1 e3
              exact ⟨blk_lt hc, fun _ f' hf' => by rw [hf] at hf'; rw [← Option.some.inj hf']; exact e3⟩
            · obtain ⟨cur, hc⟩ := own_typ (HM.out.hi q hq hq2 (by rw [HFL.out]; omega)) e
              exact ⟨blk_lt hc, fun z => absurd z hqi⟩
          have MK9 : Hid (Mk b0 W9 ns vl (zs.set i (zs[i].1, .slice (some ⟨g, 0, none⟩) n fc)) (fs ++ [.slice (some ⟨g, 0, none⟩) (n + 8) fc])) := by
            refine ⟨by rw [List.length_set]; exact ROW9, by rw [List.length_set]; exact HM.out.len, fun q hq hq2 => ?_, fun q hq hq2 f hf => ?_, fun q hq hq2 hl => ?_, fun q q' hq hq' k hne e1 e2 => ?_⟩
            · rw [List.length_set] at hq
              rw [List.getElem_set]
              split
              · rename_i e
                subst e
                exact HM.out.z i hiz hq2
              · exact HM.out.z q hq hq2
            · rw [List.length_set] at hq
              by_cases hqi : q < i
              · rw [List.getElem?_append_left (by rw [HFL.out]; exact hqi)] at hf
                obtain ⟨h1, gq, cq, rfl, e2⟩ := HM.out.lo q hq hq2 f hf
                refine ⟨int9 (own_kp h1 HK.out (fun k e e' => ?_)), gq, cq, rfl, by rw [List.getElem_set_ne (by omega)]; exact e2⟩
                exact HM.out.ap q i hq hiz k (by omega) (by rw [e2]; exact e) e'
              · have hqe : q = i := by
                  have := (List.getElem?_eq_some_iff.1 hf).1
                  rw [List.length_append, HFL.out] at this
                  simp at this
                  omega
                subst hqe
                rw [List.getElem?_append_right (by rw [HFL.out]; exact Nat.le_refl _), HFL.out, Nat.sub_self] at hf
                obtain rfl : Value.slice (some ⟨g, 0, none⟩) (n + 8) fc = f := by simpa using hf
                refine ⟨by rw [← HN.out]; exact int9 HO.out, g, fc, by rw [← HN.out], by rw [List.getElem_set_self, ← HN.out]⟩
            · rw [List.length_set] at hq
              rw [List.length_append, HFL.out] at hl
              simp at hl
              rw [List.getElem_set_ne (by omega)]
              exact int9 (own_kp (HM.out.hi q hq hq2 (by rw [HFL.out]; omega)) HK.out (fun k e e' => HM.out.ap q i hq hiz k (by omega) e e'))
            · have hq1 : q < zs.length := by rw [List.length_set] at hq; exact hq
              have hq1' : q' < zs.length := by rw [List.length_set] at hq'; exact hq'
              by_cases hqi : q = i
              · subst hqi
                rw [List.getElem_set_self] at e1
                rw [List.getElem_set_ne hne] at e2
                rcases HG.out k e1 with z | z
                · exact HM.out.ap q q' hq1 hq1' k hne z e2
                · have := (blk9 q' hq1' k e2).1
                  omega
              · rw [List.getElem_set_ne (fun e => hqi e.symm)] at e1
                by_cases hqi' : q' = i
                · subst hqi'
                  rw [List.getElem_set_self] at e2
                  rcases HG.out k e2 with z | z
                  · exact HM.out.ap q q' hq1 hq1' k hne e1 z
                  · have := (blk9 q hq1 k e1).1
                    omega
                · rw [List.getElem_set_ne (fun e => hqi' e.symm)] at e2
                  exact HM.out.ap q q' hq1 hq1' k hne e1 e2
          rw [← hW9]
          clear hW9 hHeld
          refine hK.out _ _ (c9) (fun hHeld => ?_)
          clear hK
          (try simp only [Act.put, List.setIfInBounds_toArray, List.set_cons_zero, List.set_cons_succ])
          refine wpAnyH_done (by kernel_rfl) ?_ _
          have B9 : Hid (Bo b0 w W9) := by
            have ge : ∀ k, zs[i].2.ownBlock = some k → b0 ≤ k := fun k e => own_ge (HM.out.hi i hiz hin2 (by rw [HFL.out]; exact Nat.le_refl _)) e
            have gg : b0 ≤ g0 := own_ge HM.out.row hgo
            have b1 : Below b0 w wr := HB.out.be.trans ⟨HK.out.os, HK.out.tape, HK.out.output, HK.out.size, fun k hk => HK.out.block k (by have := HB.out.be.size; omega) (fun e => by have := ge k e; omega)⟩
            refine ⟨b1.trans ⟨k9.os, k9.tape, k9.output, k9.size, fun k hk => k9.block k (by have := b1.size; omega) (fun e => by omega)⟩, fun k Cc t fr hc h3 hN => ?_⟩
            have z1 := HB.out.oth k Cc t fr hc h3 hN
            have c1 := z1.trans hc
            have z2 := HK.out.block k (blk_lt c1) (ofI c1 h3)
            have c2 := z2.trans c1
            exact (k9.block k (blk_lt c2) (of9 c2 hN)).trans (z2.trans z1)
          clear k9 of9 int9 ROW9 blk9 HV9 hgo C0 HM HF HK HO HG HCB HB ofI ROW1 FUL1 HCB1 HP2 c9
          obtain ⟨ua, uc, rfl⟩ := own_sl FUL9.out
          obtain ⟨fl, hfl⟩ : ∃ fl, fl = fs.length := ⟨_, rfl⟩
          have HFL2 := hide hfl
          have hfl42 : fl ≤ 4398046510976 := by have := HFL.out; have := HCN.out; omega
          rw [← hfl] at FUL9 ⊢
          clear hfl
          have OA : Hid ((W9.alloc (.cells #[.slice (some ⟨g, 0, none⟩) (n + 8) fc] 26)).ownsRow C 26 1 (.slice ua fl uc) fl fs) := own_kp FUL9.out ((Kp.refl W9 non).alloc _) (fun _ _ f => f)
          have GA : Hid ((W9.alloc (.cells #[.slice (some ⟨g, 0, none⟩) (n + 8) fc] 26)).heap[W9.heap.size]? = some (.cells #[.slice (some ⟨g, 0, none⟩) (n + 8) fc] 26)) := heap_last _ _
          have hCs : C ≤ (W9.alloc (.cells #[.slice (some ⟨g, 0, none⟩) (n + 8) fc] 26)).heap.size := by
            rw [World.size_alloc]
            have := blk_lt HCB9.out
            omega
          have HCS := hide hCs
          clear hCs
          go_wp2_with (at_builtin; refine wpList_apSL rfl (.tmp 43) (.tmp 45) rfl C _ fl fs rfl OA.out W9.heap.size (.slice (some ⟨g, 0, none⟩) (n + 8) fc) rfl rfl GA.out hfl42 HCS.out ?_; intro v' w3 o2 g2)
          have k10 : Kp W9 w3 (fun k => some k = (Value.slice ua fl uc).ownBlock) := ((Kp.refl W9 _).alloc _).trans (Kp.of_grown g2) (fun _ e => Or.inl e)
          have of10 : ∀ {k : Nat} {Cc : Array Value} {t : TypeId} {fr : Nat × Nat}, W9.heap[k]? = some (.cells Cc t fr) → t ≠ 26 → ¬ some k = (Value.slice ua fl uc).ownBlock := fun {k Cc t fr} hc ht e => by
            obtain ⟨cur, hc'⟩ := own_typ FUL9.out e.symm
            rw [hc] at hc'
            simp at hc'
            exact ht hc'.2.1
          have MK10 := hide (MK9.out.kp k10 (fun k Cc t fr hc ht => of10 hc (by rcases ht with rfl | rfl <;> decide)))
          have HCB10 : Hid (w3.heap[C]? = some (.cells (clA st x vl) 24)) := (k10.block _ (blk_lt HCB9.out) (of10 HCB9.out (by decide))).trans HCB9.out
          have B10 : Hid (Bo b0 w w3) := ⟨B9.out.be.trans ⟨k10.os, k10.tape, k10.output, k10.size, fun k hk => k10.block k (by have := B9.out.be.size; omega) (fun e => by have := own_ge FUL9.out e.symm; have := HC.out; omega)⟩, fun k Cc t fr hc h3 hN => (k10.block k (by have := blk_lt hc; have := B9.out.be.size; omega) (fun e => by have := own_ge FUL9.out e.symm; have := HC.out; have := blk_lt hc; omega)).trans (B9.out.oth k Cc t fr hc h3 hN)⟩
          have F10 : Hid (w3.ownsRow C 26 1 v' (fs ++ [Value.slice (some ⟨g, 0, none⟩) (n + 8) fc]).length (fs ++ [Value.slice (some ⟨g, 0, none⟩) (n + 8) fc])) := by
            rw [List.length_append, ← HFL2.out]
            exact o2
          have FL10 : Hid ((fs ++ [Value.slice (some ⟨g, 0, none⟩) (n + 8) fc]).length = i + 1) := by
            show _ = _
            rw [List.length_append, HFL.out]
            rfl
          clear k10 of10 o2 g2 MK9 HCB9 B9 FUL9 OA GA
          go_roundw
          case rel => exact ⟨i + 1, _, _, by omega, by go_num, FL10.out, MK10.out, F10.out, HCB10.out, B10.out⟩
          case measure => simp [intOf]; omega
end Go.Proofs.YteiiolilpemimaaDoor.Cn
