import Derived.Test.YtpleakkhbfhdkaaGCgPI
namespace Go.Proofs.Ytpleakkhbfhdkaa.Cn
open Go.RowKit
/-- a node of the play -/
theorem PlX.node {N : Nat} {w : World} {B C : Nat} {S : Nat → Prop} {nv lv fv bv av : Value} {p : Pl} (h : PlX N w B C S nv lv fv bv av p) (k : Nat) (hk : k < p.nd.length) :
    ∃ g c cur, nv = .slice (some ⟨g, 0, none⟩) p.nd.length c ∧ NdX w g (k * 8) cur p.nd[k] ∧ g < w.heap.size ∧ N ≤ g ∧ ∀ w' n', NdX w' g (k * 8) cur n' → Kp w w' (fun q => q = g) → PlX N w' B C S nv lv fv bv av { p with nd := p.nd.set k n' } := by
  obtain ⟨g, c, hv, hg, _⟩ := own_nd h.nd k hk
  subst hv
  obtain ⟨cur, h1, h2⟩ := nd_open h.nd k hk
  refine ⟨g, c, cur, rfl, h1, hg, own_ge h.nd rfl, fun w' n' hn kp => ?_⟩
  have ap : ∀ {e sz n : Nat} {u : Value} {xs : List Value}, w.ownsRow N e sz u n xs → e ≠ 108 → ∀ q, u.ownBlock = some q → ¬ q = g := fun ho he q e f => own_apart ho h.nd he q e (by rw [f]; rfl)
  refine ⟨getL kp h.ob (fun e => h.ne.1 g rfl e.symm), h.ct.kp kp (fun q e s => h.sn g rfl (e ▸ s)), ?_, own_kp h.lt kp (ap h.lt (by decide)), own_kp h.fe kp (ap h.fe (by decide)), own_kp h.ba kp (ap h.ba (by decide)), own_kp h.at' kp (ap h.at' (by decide)), h.sB, h.sn, h.sl, h.sf, h.sb, h.sa, h.fb, h.gB, h.gS, Nat.le_trans h.gN kp.size⟩
  show World.ownsRow _ N _ 8 _ (p.nd.set k n').length _
  rw [List.length_set]
  exact h2 w' n' hn
set_option maxHeartbeats 8000000 in
set_option maxRecDepth 100000 in
set_option linter.unusedSimpArgs false in
set_option linter.unusedVariables false in
theorem deliver_node {N : Nat} {w : World} {B C : Nat} {S : Nat → Prop} {nv lv fv bv av : Value} {p : Pl} (h : PlX N w B C S nv lv fv bv av p) {n : Nat} (hi : PI n p) (hlt : p.lt.length ≤ 1000000000) (k : Nat) (hk : k < p.lt.length) (ht : p.lt[k].td ≠ 64) :
    Calls Try.prog 43 #[.pointer (some ⟨B, 0, none⟩), .int .i64 (k : Int)] w fun e w' => e = .returned (.bool true) ∧ ∃ lv' p2, PlX N w' B C S nv lv' fv bv av p2 ∧ PI n p2 ∧ Below N w w' ∧ p2.job = p.job ∧ p2.lt.length ≤ p.lt.length := by
  obtain ⟨m, hm⟩ : ∃ m, m = p.lt[k] := ⟨_, rfl⟩
  have TA := taken_any h k hk hlt
  rw [← hm] at TA
  replace TA := hide TA
  have LE := hi.lt m (by rw [hm]; exact List.getElem_mem hk)
  have ER : Hid (∀ x ∈ p.lt.eraseIdx k, x ∈ p.lt) := fun x hx => List.mem_of_mem_eraseIdx hx
  have EL : Hid ((p.lt.eraseIdx k).length + 1 = p.lt.length) := by rw [List.length_eraseIdx, if_pos hk]; unfold Hid; omega
  rw [← hm] at ht
  have HI := hide hi
  have n16 := hi.n16
  have HLT := hide hlt
  clear hi h hk hm hlt
  obtain ⟨d0, d1, rq⟩ : 0 ≤ m.td ∧ m.td < (n : Int) ∧ RqI p.job p.ver p.bk m := by
    rcases LE with ⟨_, a, b, c⟩ | ⟨a, _⟩
    · exact ⟨a, b, c⟩
    · exact absurd a ht
  clear LE
  obtain ⟨kk, hkk⟩ : ∃ kk : Nat, m.td = (kk : Int) := ⟨m.td.toNat, by omega⟩
  have hkn : kk < n := by omega
  have t64 : (m.td != 64) = true := by simpa using ht
  have RQ := hide rq
  have HKK := hide hkk
  clear rq ht d0 d1
  go_enter Try.func43, Try.ntmps43
  go_wp2_with fail
  refine Calls.mono TA.out ?_
  rintro e W1 ⟨lv1, rfl, p1, b1⟩
  clear TA
  obtain ⟨M, hM⟩ : ∃ M, M = W1.heap.size := ⟨_, rfl⟩
  obtain ⟨W2, hW2⟩ : ∃ X, X = (W1.alloc (.cells (mgV mg0) 44)).setRow W1.heap.size (mgV m) := ⟨_, rfl⟩
  have b2 : Below W1.heap.size W1 W2 := by rw [hW2]; exact (((Kp.refl W1 non).alloc _).row (Or.inr (Nat.le_refl _)) _).below
  have M2 : Hid (MgAt W2 M m) := by rw [hW2, hM]; exact setRow_heap _ _ _ _ _ _ (heap_last W1 _)
  have P2 := hide (p1.below b2)
  have B2 : Hid (Below N w W2) := b1.trans (b2.mono p1.gN)
  have MB : Hid (M ≠ B) := by have := blk_lt p1.ob; unfold Hid; omega
  have MX : Hid (∀ q, plS B S nv lv1 fv bv av q → q < M) := fun q e => by
    rw [hM]
    rcases e with e | e | e | e | e | e | e
    · rw [e]; exact blk_lt p1.ob
    · exact p1.ct.lt q e
    · exact own_lt2 p1.nd e
    · exact own_lt2 p1.lt e
    · exact own_lt2 p1.fe e
    · exact own_lt2 p1.ba e
    · exact own_lt2 p1.at' e
  have HM := hide hM
  replace hW2 := hide hW2
  clear p1 b1 b2
  go_upto_region 2 with (refine wpList_stR rfl 44 (.tmp 5) (.tmp 12) rfl W1.heap.size rfl (mgV m) (mgV mg0) rfl _ (heap_last W1 _) mg_info rfl (mg_one _) ?_)
  rw [show (#[.int .i64 0, .int .i64 0, .int .i64 0, .int .i64 0, .int .i64 0, .int .i64 0, .int .i64 0, .int .i64 0, .int .i64 0, .string ⟨#[]⟩, .string ⟨#[]⟩] : Array Value) = mgV mg0 from rfl, ← hW2.out, ← HM.out]
  clear hW2 hM
  have y2 : W2.cell? ⟨M, 2, none⟩ = some (.int .i64 (kk : Int)) := by rw [← HKK.out]; exact M2.out.cells.2.2.1
  rw [HKK.out] at t64
  go_upto_region 3 with fail
  have hkl : kk < p.nd.length := by rw [HI.out.nn]; exact hkn
  obtain ⟨gn', nc, cur', hnv, _⟩ := P2.out.node kk hkl
  have x1 := P2.out.cells.2.1
  rw [hnv] at x1
  have el : ({ p with lt := p.lt.eraseIdx k } : Pl).nd.length = n := HI.out.nn
  rw [el] at x1 hnv
  have HNV := hide hnv
  have kkn : (kk : Int) < (n : Int) := by omega
  clear hkk hnv el
  go_quiet (fail)
  obtain ⟨W3, hW3⟩ : ∃ X, X = W2.drewN nq := ⟨_, rfl⟩
  have kk3 : Kp W2 W3 non := by rw [hW3]; exact (Kp.refl _ non).drewN _
  have P3 := hide (P2.out.kp kk3 (fun _ f => f.elim))
  have MM3 : Hid (MgAt W3 M m) := M2.out.keep kk3 (fun f => f)
  have M3 : Hid (M < W3.heap.size) := blk_lt MM3.out
  have B3 : Hid (Below N w W3) := B2.out.trans (kk3.toN P2.out.gN (fun _ f => f.elim))
  rw [← hW3]
  clear hW3 kk3 x1 y2 P2 M2 B2
  obtain ⟨g', c', cur, hnv2, ndx, gnlt, gnN, pn⟩ := P3.out.node kk hkl
  have eg : g' = gn' := by
    have q := hnv2.symm.trans HNV.out
    simp only [Value.slice.injEq, Option.some.injEq, Addr.mk.injEq] at q
    exact q.1.1
  subst eg
  have gN := hide gnN
  obtain ⟨nd, hnd⟩ : ∃ nd, nd = ndF p kk := ⟨_, rfl⟩
  have hnd2 : p.nd[kk] = nd := by rw [hnd]; exact (getD_at hkl).symm
  have ndx2 : NdX W3 g' (kk * 8) cur nd := by rw [← hnd2]; exact ndx
  have cd := ndx2.cells.2.2.2.2.2.2.2
  have gn : Hid (M ≠ g') := by have := MX.out g' (Or.inr (Or.inr (Or.inl (by rw [HNV.out]; rfl)))); unfold Hid; omega
  have PIE0 := HI.out.node hkn RQ.out HKK.out (p.lt.eraseIdx k) ER.out
  rw [← hnd] at PIE0
  cases hd : nd.deaf with
  | true =>
    rw [hd] at cd
    have PIE := hide (HI.out.letters (p.lt.eraseIdx k) ER.out)
    have LL : Hid ((p.lt.eraseIdx k).length ≤ p.lt.length) := by have := EL.out; unfold Hid; omega
    clear ndx ndx2 pn hnd hnd2 hd PIE0 hnv2 gnN
    go_wp2_with fail
    go_ret
    exact ⟨rfl, _, _, P3.out, PIE.out, B3.out, rfl, LL.out⟩
  | false =>
    rw [hd] at cd
    obtain ⟨am, ham⟩ : ∃ am, am = doesA nd m := ⟨_, rfl⟩
    obtain ⟨q, hq⟩ : ∃ q, q = ({ p with nd := p.nd.set kk (doesN nd m), lt := p.lt.eraseIdx k } : Pl) := ⟨_, rfl⟩
    have PIE : Hid (PI n { q with lt := q.lt ++ [am] }) := by rw [hq, ham]; exact PIE0
    have JE : Hid (({ q with lt := q.lt ++ [am] } : Pl).job = p.job) := by rw [hq]; exact rfl
    have LL : Hid (({ q with lt := q.lt ++ [am] } : Pl).lt.length ≤ p.lt.length) := by
      rw [hq]
      show (p.lt.eraseIdx k ++ [am]).length ≤ _
      rw [List.length_append]
      have := EL.out
      simp only [List.length_cons, List.length_nil]
      omega
    have hlq : Hid (q.lt.length ≤ 1000000000000) := by rw [hq]; show (p.lt.eraseIdx k).length ≤ _; have := EL.out; have := HLT.out; omega
    have elq : q.lt = p.lt.eraseIdx k := by rw [hq]
    have DO0 := Does_any (ndx2.keep ((Kp.refl W3 non).drew) (fun f => f)) m RQ.out.kd
    have DO := hide DO0
    have PN : Hid (∀ w' n', NdX w' g' (kk * 8) cur n' → Kp W3.drew w' (fun q => q = g') → PlX N w' B C S nv lv1 fv bv av { p with nd := p.nd.set kk n', lt := p.lt.eraseIdx k }) := fun w' n' a b => pn w' n' a (((Kp.refl W3 (fun q => q = g')).drew).trans b (fun _ e => Or.inl e))
    have HQ := hide hq
    have HAM := hide ham
    obtain ⟨la, lc, hlv⟩ := own_sl P3.out.lt
    rw [show ({ p with lt := p.lt.eraseIdx k } : Pl).lt.length = q.lt.length by rw [elq]] at hlv
    subst hlv
    have x2 : W3.cell? ⟨B, 2, none⟩ = some (.slice la q.lt.length lc) := P3.out.cells.2.2.1
    have VLq : Hid (∀ q', (Value.slice la q.lt.length lc).ownBlock = some q' → q' ≠ M) := fun q' e f => by have := MX.out q' (Or.inr (Or.inr (Or.inr (Or.inl e)))); omega
    clear ndx ndx2 pn hnd hnd2 hd PIE0 hq ham elq DO0 hnv2 gnN
    go_upto_region 5 with fail
    refine wp_region_held_drew (S := fun X => X.heap[M]? = W3.heap[M]?) (by kernel_rfl) rfl (fun hHeld => ?_)
    refine wpAnyH_take (i := 0) (v := (.pointer (some ⟨B, 0, none⟩))) rfl (by kernel_rfl) (by kernel_rfl) (by kernel_rfl) (fun _ _ _ h => h) (Or.inl ⟨by kernel_rfl, ?_⟩) (by assumption) ?_
    · intro w' hSw
      (try dsimp only at hSw)
      go_simp
    (try simp only [Act.put, List.getElem_toArray, List.getElem_cons_zero, List.getElem_cons_succ, List.setIfInBounds_toArray, List.set_cons_zero, List.set_cons_succ])
    refine wpAnyH_take (i := 1) (v := (.pointer (some ⟨B, 0, none⟩))) rfl (by kernel_rfl) (by kernel_rfl) (by kernel_rfl) (fun _ _ _ h => h) (Or.inl ⟨by kernel_rfl, ?_⟩) (by assumption) ?_
    · intro w' hSw
      (try dsimp only at hSw)
      go_simp
    (try simp only [Act.put, List.getElem_toArray, List.getElem_cons_zero, List.getElem_cons_succ, List.setIfInBounds_toArray, List.set_cons_zero, List.set_cons_succ])
    refine wpAnyH_take (i := 2) (v := (.pointer (some ⟨B, 0, none⟩))) rfl (by kernel_rfl) (by kernel_rfl) (by kernel_rfl) (fun _ _ _ h => h) (Or.inl ⟨by kernel_rfl, ?_⟩) (by assumption) ?_
    · intro w' hSw
      (try dsimp only at hSw)
      go_simp
    (try simp only [Act.put, List.getElem_toArray, List.getElem_cons_zero, List.getElem_cons_succ, List.setIfInBounds_toArray, List.set_cons_zero, List.set_cons_succ])
    refine wpAnyH_take (i := 3) (v := (.pointer (some ⟨B, 2, none⟩))) rfl (by kernel_rfl) (by kernel_rfl) (by kernel_rfl) (fun _ _ _ h => h) (Or.inl ⟨by kernel_rfl, ?_⟩) (by assumption) ?_
    · intro w' hSw
      (try dsimp only at hSw)
      go_simp
    (try simp only [Act.put, List.getElem_toArray, List.getElem_cons_zero, List.getElem_cons_succ, List.setIfInBounds_toArray, List.set_cons_zero, List.set_cons_succ])
    refine wpAnyH_take (i := 5) (v := (.pointer (some ⟨g', kk * 8, none⟩))) rfl (by kernel_rfl) (by kernel_rfl) (by kernel_rfl) (fun _ _ _ h => h) (Or.inl ⟨by kernel_rfl, ?_⟩) (by assumption) ?_
    · intro w' hSw
      (try dsimp only at hSw)
      go_simp
    (try simp only [Act.put, List.getElem_toArray, List.getElem_cons_zero, List.getElem_cons_succ, List.setIfInBounds_toArray, List.set_cons_zero, List.set_cons_succ])
    refine wpAnyH_take (i := 6) (v := (.agg (mgV m))) rfl (by kernel_rfl) (by kernel_rfl) (by kernel_rfl) (fun _ _ _ h => h) (Or.inl ⟨by kernel_rfl, ?_⟩) (by assumption) ?_
    · intro w' hSw
      (try dsimp only at hSw)
      (exact exec_ldR 44 (.tmp 5) rfl rfl _ (hSw.trans MM3.out) Try.underlying44 mg_info)
    (try simp only [Act.put, List.getElem_toArray, List.getElem_cons_zero, List.getElem_cons_succ, List.setIfInBounds_toArray, List.set_cons_zero, List.set_cons_succ])
    clear cd
    refine wpAnyH_ready (rs := [4, 7]) (by kernel_rfl) (by simp) ?_
    refine AllReadyH.cons rfl (fun K hK => ?_) (AllReadyH.cons rfl (fun K hK => ?_) AllReadyH.nil)
    · skip
      go_simp
      refine hK.out _ _ (rfl) (fun hHeld => ?_)
      clear hK
      (try simp only [Act.put, List.setIfInBounds_toArray, List.set_cons_zero, List.set_cons_succ])
      clear x2
      refine wpAnyH_ready (rs := [7]) (by kernel_rfl) (by simp) ?_
      refine AllReadyH.cons rfl (fun K hK => ?_) AllReadyH.nil
      go_simp
      refine Calls.mono DO.out ?_
      rintro e W7 ⟨rfl, nd7, k7⟩
      have p7 := PN.out W7 _ nd7 k7
      rw [← HQ.out] at p7
      have P7 := hide p7
      have G7 : Hid (W7.heap[M]? = W3.heap[M]?) := k7.block M M3.out gn.out
      have gM : Hid (M < W7.heap.size) := Nat.lt_of_lt_of_le M3.out k7.size
      have B7 : Hid (Below N w W7) := B3.out.trans ((((Kp.refl W3 (fun q => q = g')).drew).trans k7 (fun _ e => Or.inl e)).toN P3.out.gN (fun q e => by rw [e]; exact gN.out))
      rw [← HAM.out]
      clear DO nd7 k7 p7
      refine hK.out _ _ (G7.out) (fun hHeld => ?_)
      clear hK
      (try simp only [Act.put, List.setIfInBounds_toArray, List.set_cons_zero, List.set_cons_succ])
      obtain ⟨W9, hW9⟩ : ∃ X, X = W7.alloc (.cells (mgV am) 44) := ⟨_, rfl⟩
      obtain ⟨J9, hJ9⟩ : ∃ J, J = W7.heap.size := ⟨_, rfl⟩
      have K9 : Hid (Kp W7 W9 non) := by rw [hW9]; exact (Kp.refl W7 non).alloc _
      have M9 : Hid (W9.heap[J9]? = some (.cells (mgV am) 44)) := by rw [hW9, hJ9]; exact heap_last _ _
      have P9 := hide (P7.out.kp K9.out (fun _ f => f.elim))
      have G9 : Hid (W9.heap[M]? = W3.heap[M]?) := (K9.out.block _ gM.out (fun f => f)).trans G7.out
      refine wpAnyH_ready (rs := [8]) (by kernel_rfl) (by simp) ?_
      refine AllReadyH.cons rfl (fun K hK => ?_) AllReadyH.nil
      refine wp_bsM (.tmp 35) rfl am rfl ?_
      rw [← hW9, ← hJ9]
      clear hW9 hJ9
      refine hK.out _ _ (G9.out) (fun hHeld => ?_)
      clear hK
      (try simp only [Act.put, List.setIfInBounds_toArray, List.set_cons_zero, List.set_cons_succ])
      refine wpAnyH_ready (rs := [9]) (by kernel_rfl) (by simp) ?_
      refine AllReadyH.cons rfl (fun K hK => ?_) AllReadyH.nil
      refine ite_yes (by rfl) ?_
      refine wp_apM (.tmp 32) (.tmp 36) ?hAo N (.slice la q.lt.length lc) q.lt ?hAs P9.out.lt J9 am ?hAx M9.out hlq.out P9.out.gN ?hAk
      case hAo => rfl
      case hAs => kernel_rfl
      case hAx => kernel_rfl
      intro v2 w4 o4 g4 at4
      obtain ⟨hB4, hP4, hK4⟩ := P9.out.app o4 g4 at4
      obtain ⟨g2, cap2, hv2⟩ := own_g o4 (by omega)
      have G4 : Hid (w4.heap[M]? = W3.heap[M]?) := (g4.block M (Nat.lt_of_lt_of_le gM.out K9.out.size) (fun e => VLq.out M e.symm rfl)).trans G9.out
      subst hv2
      have k3 : w4.cell? ⟨B, 2, none⟩ = some (.slice la q.lt.length lc) := by unfold World.cell?; rw [hB4, P9.out.ob]; rfl
      have z3 : w4.frozen? ⟨B, 2, none⟩ = false := by unfold World.frozen?; rw [hB4, P9.out.ob]; simp
      obtain ⟨W5, hW5⟩ : ∃ X, X = w4.setCell ⟨B, 2, none⟩ (.slice (some ⟨g2, 0, none⟩) (q.lt.length + 1) cap2) := ⟨_, rfl⟩
      rw [← hW5] at hP4 hK4
      have P5 := hide hP4
      have K5 : Hid (Kp W7 W5 (fun k => k = B ∨ (Value.slice la q.lt.length lc).ownBlock = some k)) := (K9.out.mono (fun _ f => f.elim)).trans hK4 (fun _ e => Or.inl e)
      have G5 : Hid (W5.heap[M]? = W3.heap[M]?) := (K5.out.block M gM.out (fun e => by rcases e with e | e; exact MB.out e; exact VLq.out M e rfl)).trans G7.out
      replace hW5 := hide hW5
      clear hP4 hK4 hB4 o4 g4 at4
      refine hK.out _ _ (G4.out) (fun hHeld => ?_)
      clear hK
      (try simp only [Act.put, List.setIfInBounds_toArray, List.set_cons_zero, List.set_cons_succ])
      refine wpAnyH_take (i := 10) (v := (.pointer (some ⟨B, 0, none⟩))) rfl (by kernel_rfl) (by kernel_rfl) (by kernel_rfl) (fun _ _ _ h => h) (Or.inl ⟨by kernel_rfl, ?_⟩) (by assumption) ?_
      · intro w' hSw
        (try dsimp only at hSw)
        go_simp
      (try simp only [Act.put, List.getElem_toArray, List.getElem_cons_zero, List.getElem_cons_succ, List.setIfInBounds_toArray, List.set_cons_zero, List.set_cons_succ])
      refine wpAnyH_take (i := 11) (v := (.pointer (some ⟨B, 2, none⟩))) rfl (by kernel_rfl) (by kernel_rfl) (by kernel_rfl) (fun _ _ _ h => h) (Or.inl ⟨by kernel_rfl, ?_⟩) (by assumption) ?_
      · intro w' hSw
        (try dsimp only at hSw)
        go_simp
      (try simp only [Act.put, List.getElem_toArray, List.getElem_cons_zero, List.getElem_cons_succ, List.setIfInBounds_toArray, List.set_cons_zero, List.set_cons_succ])
      refine wpAnyH_ready (rs := [12]) (by kernel_rfl) (by simp) ?_
      refine AllReadyH.cons rfl (fun K hK => ?_) AllReadyH.nil
      go_simp
      rw [← hW5.out]
      clear hW5 k3 z3
      refine hK.out _ _ (G5.out) (fun hHeld => ?_)
      clear hK
      (try simp only [Act.put, List.setIfInBounds_toArray, List.set_cons_zero, List.set_cons_succ])
      refine wpAnyH_done (by kernel_rfl) ?_ _
      clear hHeld
      have B5 : Hid (Below N w W5) := B7.out.trans (K5.out.toN P7.out.gN (fun k e => by rcases e with e | e; rw [e]; exact P7.out.gB; exact own_ge P7.out.lt e))
      go_wp2_with fail
      go_ret
      exact ⟨rfl, _, _, P5.out, PIE.out, B5.out, JE.out, LL.out⟩
    · skip
      clear x2
      go_simp
      refine Calls.mono DO.out ?_
      rintro e W7 ⟨rfl, nd7, k7⟩
      have p7 := PN.out W7 _ nd7 k7
      rw [← HQ.out] at p7
      have P7 := hide p7
      have G7 : Hid (W7.heap[M]? = W3.heap[M]?) := k7.block M M3.out gn.out
      have gM : Hid (M < W7.heap.size) := Nat.lt_of_lt_of_le M3.out k7.size
      have B7 : Hid (Below N w W7) := B3.out.trans ((((Kp.refl W3 (fun q => q = g')).drew).trans k7 (fun _ e => Or.inl e)).toN P3.out.gN (fun q e => by rw [e]; exact gN.out))
      rw [← HAM.out]
      clear DO nd7 k7 p7
      refine hK.out _ _ (G7.out) (fun hHeld => ?_)
      clear hK
      (try simp only [Act.put, List.setIfInBounds_toArray, List.set_cons_zero, List.set_cons_succ])
      have x27 : W7.cell? ⟨B, 2, none⟩ = some (.slice la q.lt.length lc) := P7.out.cells.2.2.1
      obtain ⟨W9, hW9⟩ : ∃ X, X = W7.alloc (.cells (mgV am) 44) := ⟨_, rfl⟩
      obtain ⟨J9, hJ9⟩ : ∃ J, J = W7.heap.size := ⟨_, rfl⟩
      have K9 : Hid (Kp W7 W9 non) := by rw [hW9]; exact (Kp.refl W7 non).alloc _
      have M9 : Hid (W9.heap[J9]? = some (.cells (mgV am) 44)) := by rw [hW9, hJ9]; exact heap_last _ _
      have P9 := hide (P7.out.kp K9.out (fun _ f => f.elim))
      have G9 : Hid (W9.heap[M]? = W3.heap[M]?) := (K9.out.block _ gM.out (fun f => f)).trans G7.out
      refine wpAnyH_ready (rs := [4, 8]) (by kernel_rfl) (by simp) ?_
      refine AllReadyH.cons rfl (fun K hK => ?_) (AllReadyH.cons rfl (fun K hK => ?_) AllReadyH.nil)
      · skip
        go_simp
        refine hK.out _ _ (G7.out) (fun hHeld => ?_)
        clear hK
        (try simp only [Act.put, List.setIfInBounds_toArray, List.set_cons_zero, List.set_cons_succ])
        clear x27
        refine wpAnyH_ready (rs := [8]) (by kernel_rfl) (by simp) ?_
        refine AllReadyH.cons rfl (fun K hK => ?_) AllReadyH.nil
        refine wp_bsM (.tmp 35) rfl am rfl ?_
        rw [← hW9, ← hJ9]
        clear hW9 hJ9
        refine hK.out _ _ (G9.out) (fun hHeld => ?_)
        clear hK
        (try simp only [Act.put, List.setIfInBounds_toArray, List.set_cons_zero, List.set_cons_succ])
        refine wpAnyH_ready (rs := [9]) (by kernel_rfl) (by simp) ?_
        refine AllReadyH.cons rfl (fun K hK => ?_) AllReadyH.nil
        refine ite_yes (by rfl) ?_
        refine wp_apM (.tmp 32) (.tmp 36) ?hBo N (.slice la q.lt.length lc) q.lt ?hBs P9.out.lt J9 am ?hBx M9.out hlq.out P9.out.gN ?hBk
        case hBo => rfl
        case hBs => kernel_rfl
        case hBx => kernel_rfl
        intro v2 w4 o4 g4 at4
        obtain ⟨hB4, hP4, hK4⟩ := P9.out.app o4 g4 at4
        obtain ⟨g2, cap2, hv2⟩ := own_g o4 (by omega)
        have G4 : Hid (w4.heap[M]? = W3.heap[M]?) := (g4.block M (Nat.lt_of_lt_of_le gM.out K9.out.size) (fun e => VLq.out M e.symm rfl)).trans G9.out
        subst hv2
        have k3 : w4.cell? ⟨B, 2, none⟩ = some (.slice la q.lt.length lc) := by unfold World.cell?; rw [hB4, P9.out.ob]; rfl
        have z3 : w4.frozen? ⟨B, 2, none⟩ = false := by unfold World.frozen?; rw [hB4, P9.out.ob]; simp
        obtain ⟨W5, hW5⟩ : ∃ X, X = w4.setCell ⟨B, 2, none⟩ (.slice (some ⟨g2, 0, none⟩) (q.lt.length + 1) cap2) := ⟨_, rfl⟩
        rw [← hW5] at hP4 hK4
        have P5 := hide hP4
        have K5 : Hid (Kp W7 W5 (fun k => k = B ∨ (Value.slice la q.lt.length lc).ownBlock = some k)) := (K9.out.mono (fun _ f => f.elim)).trans hK4 (fun _ e => Or.inl e)
        have G5 : Hid (W5.heap[M]? = W3.heap[M]?) := (K5.out.block M gM.out (fun e => by rcases e with e | e; exact MB.out e; exact VLq.out M e rfl)).trans G7.out
        replace hW5 := hide hW5
        clear hP4 hK4 hB4 o4 g4 at4
        refine hK.out _ _ (G4.out) (fun hHeld => ?_)
        clear hK
        (try simp only [Act.put, List.setIfInBounds_toArray, List.set_cons_zero, List.set_cons_succ])
        refine wpAnyH_take (i := 10) (v := (.pointer (some ⟨B, 0, none⟩))) rfl (by kernel_rfl) (by kernel_rfl) (by kernel_rfl) (fun _ _ _ h => h) (Or.inl ⟨by kernel_rfl, ?_⟩) (by assumption) ?_
        · intro w' hSw
          (try dsimp only at hSw)
          go_simp
        (try simp only [Act.put, List.getElem_toArray, List.getElem_cons_zero, List.getElem_cons_succ, List.setIfInBounds_toArray, List.set_cons_zero, List.set_cons_succ])
        refine wpAnyH_take (i := 11) (v := (.pointer (some ⟨B, 2, none⟩))) rfl (by kernel_rfl) (by kernel_rfl) (by kernel_rfl) (fun _ _ _ h => h) (Or.inl ⟨by kernel_rfl, ?_⟩) (by assumption) ?_
        · intro w' hSw
          (try dsimp only at hSw)
          go_simp
        (try simp only [Act.put, List.getElem_toArray, List.getElem_cons_zero, List.getElem_cons_succ, List.setIfInBounds_toArray, List.set_cons_zero, List.set_cons_succ])
        refine wpAnyH_ready (rs := [12]) (by kernel_rfl) (by simp) ?_
        refine AllReadyH.cons rfl (fun K hK => ?_) AllReadyH.nil
        go_simp
        rw [← hW5.out]
        clear hW5 k3 z3
        refine hK.out _ _ (G5.out) (fun hHeld => ?_)
        clear hK
        (try simp only [Act.put, List.setIfInBounds_toArray, List.set_cons_zero, List.set_cons_succ])
        refine wpAnyH_done (by kernel_rfl) ?_ _
        clear hHeld
        have B5 : Hid (Below N w W5) := B7.out.trans (K5.out.toN P7.out.gN (fun k e => by rcases e with e | e; rw [e]; exact P7.out.gB; exact own_ge P7.out.lt e))
        go_wp2_with fail
        go_ret
        exact ⟨rfl, _, _, P5.out, PIE.out, B5.out, JE.out, LL.out⟩
      · skip
        clear x27
        refine wp_bsM (.tmp 35) rfl am rfl ?_
        rw [← hW9, ← hJ9]
        clear hW9 hJ9
        refine hK.out _ _ (G9.out) (fun hHeld => ?_)
        clear hK
        (try simp only [Act.put, List.setIfInBounds_toArray, List.set_cons_zero, List.set_cons_succ])
        have x29 : W9.cell? ⟨B, 2, none⟩ = some (.slice la q.lt.length lc) := P9.out.cells.2.2.1
        refine wpAnyH_ready (rs := [4]) (by kernel_rfl) (by simp) ?_
        refine AllReadyH.cons rfl (fun K hK => ?_) AllReadyH.nil
        go_simp
        refine hK.out _ _ (G9.out) (fun hHeld => ?_)
        clear hK
        (try simp only [Act.put, List.setIfInBounds_toArray, List.set_cons_zero, List.set_cons_succ])
        clear x29
        refine wpAnyH_ready (rs := [9]) (by kernel_rfl) (by simp) ?_
        refine AllReadyH.cons rfl (fun K hK => ?_) AllReadyH.nil
        refine ite_yes (by rfl) ?_
        refine wp_apM (.tmp 32) (.tmp 36) ?hCo N (.slice la q.lt.length lc) q.lt ?hCs P9.out.lt J9 am ?hCx M9.out hlq.out P9.out.gN ?hCk
        case hCo => rfl
        case hCs => kernel_rfl
        case hCx => kernel_rfl
        intro v2 w4 o4 g4 at4
        obtain ⟨hB4, hP4, hK4⟩ := P9.out.app o4 g4 at4
        obtain ⟨g2, cap2, hv2⟩ := own_g o4 (by omega)
        have G4 : Hid (w4.heap[M]? = W3.heap[M]?) := (g4.block M (Nat.lt_of_lt_of_le gM.out K9.out.size) (fun e => VLq.out M e.symm rfl)).trans G9.out
        subst hv2
        have k3 : w4.cell? ⟨B, 2, none⟩ = some (.slice la q.lt.length lc) := by unfold World.cell?; rw [hB4, P9.out.ob]; rfl
        have z3 : w4.frozen? ⟨B, 2, none⟩ = false := by unfold World.frozen?; rw [hB4, P9.out.ob]; simp
        obtain ⟨W5, hW5⟩ : ∃ X, X = w4.setCell ⟨B, 2, none⟩ (.slice (some ⟨g2, 0, none⟩) (q.lt.length + 1) cap2) := ⟨_, rfl⟩
        rw [← hW5] at hP4 hK4
        have P5 := hide hP4
        have K5 : Hid (Kp W7 W5 (fun k => k = B ∨ (Value.slice la q.lt.length lc).ownBlock = some k)) := (K9.out.mono (fun _ f => f.elim)).trans hK4 (fun _ e => Or.inl e)
        have G5 : Hid (W5.heap[M]? = W3.heap[M]?) := (K5.out.block M gM.out (fun e => by rcases e with e | e; exact MB.out e; exact VLq.out M e rfl)).trans G7.out
        replace hW5 := hide hW5
        clear hP4 hK4 hB4 o4 g4 at4
        refine hK.out _ _ (G4.out) (fun hHeld => ?_)
        clear hK
        (try simp only [Act.put, List.setIfInBounds_toArray, List.set_cons_zero, List.set_cons_succ])
        refine wpAnyH_take (i := 10) (v := (.pointer (some ⟨B, 0, none⟩))) rfl (by kernel_rfl) (by kernel_rfl) (by kernel_rfl) (fun _ _ _ h => h) (Or.inl ⟨by kernel_rfl, ?_⟩) (by assumption) ?_
        · intro w' hSw
          (try dsimp only at hSw)
          go_simp
        (try simp only [Act.put, List.getElem_toArray, List.getElem_cons_zero, List.getElem_cons_succ, List.setIfInBounds_toArray, List.set_cons_zero, List.set_cons_succ])
        refine wpAnyH_take (i := 11) (v := (.pointer (some ⟨B, 2, none⟩))) rfl (by kernel_rfl) (by kernel_rfl) (by kernel_rfl) (fun _ _ _ h => h) (Or.inl ⟨by kernel_rfl, ?_⟩) (by assumption) ?_
        · intro w' hSw
          (try dsimp only at hSw)
          go_simp
        (try simp only [Act.put, List.getElem_toArray, List.getElem_cons_zero, List.getElem_cons_succ, List.setIfInBounds_toArray, List.set_cons_zero, List.set_cons_succ])
        refine wpAnyH_ready (rs := [12]) (by kernel_rfl) (by simp) ?_
        refine AllReadyH.cons rfl (fun K hK => ?_) AllReadyH.nil
        go_simp
        rw [← hW5.out]
        clear hW5 k3 z3
        refine hK.out _ _ (G5.out) (fun hHeld => ?_)
        clear hK
        (try simp only [Act.put, List.setIfInBounds_toArray, List.set_cons_zero, List.set_cons_succ])
        refine wpAnyH_done (by kernel_rfl) ?_ _
        clear hHeld
        have B5 : Hid (Below N w W5) := B7.out.trans (K5.out.toN P7.out.gN (fun k e => by rcases e with e | e; rw [e]; exact P7.out.gB; exact own_ge P7.out.lt e))
        go_wp2_with fail
        go_ret
        exact ⟨rfl, _, _, P5.out, PIE.out, B5.out, JE.out, LL.out⟩
end Go.Proofs.Ytpleakkhbfhdkaa.Cn
namespace Go.Proofs.Ytpleakkhbfhdkaa.Cn
open Go.RowKit
theorem PlX.setFe {N : Nat} {w : World} {B C : Nat} {S : Nat → Prop} {nv lv bv av : Value} {p : Pl} {g c n : Nat} (h : PlX N w B C S nv lv (.slice (some ⟨g, 0, none⟩) n c) bv av p) (hn : p.fe.length = n) (i : Nat) (x : Bool) : PlX N (w.setCell ⟨g, i, none⟩ (.bool x)) B C S nv lv (.slice (some ⟨g, 0, none⟩) n c) bv av { p with fe := p.fe.set i x } ∧ Kp w (w.setCell ⟨g, i, none⟩ (.bool x)) (fun k => k = g) := by
  subst hn
  have kp : Kp w (w.setCell ⟨g, i, none⟩ (.bool x)) (fun k => k = g) := (Kp.refl w (fun k => k = g)).set (Or.inl rfl) _ _
  have ne := h.ne
  have a := own_setZ h.fe i (.bool x)
  rw [bls_set] at a
  have ob := getL kp h.ob (fun e => ne.2.2.1 g rfl e.symm)
  have ap : ∀ {e sz n : Nat} {u : Value} {xs : List Value}, w.ownsRow N e sz u n xs → e ≠ 4 → ∀ k, u.ownBlock = some k → ¬ k = g := fun ho he k e f => own_apart ho h.fe he k e (by rw [f]; rfl)
  refine ⟨⟨ob, h.ct.kp kp (fun k e s => h.sf g rfl (e ▸ s)), own_kp h.nd kp (ap h.nd (by decide)), own_kp h.lt kp (ap h.lt (by decide)), ?_, own_kp h.ba kp (fun k e f => h.fb k (by rw [f]; rfl) e), own_kp h.at' kp (ap h.at' (by decide)), h.sB, h.sn, h.sl, h.sf, h.sb, h.sa, h.fb, h.gB, h.gS, Nat.le_trans h.gN kp.size⟩, kp⟩
  show World.ownsRow _ N _ 1 _ (p.fe.set i x).length _
  rw [List.length_set]
  exact a
theorem PlX.setBa {N : Nat} {w : World} {B C : Nat} {S : Nat → Prop} {nv lv fv av : Value} {p : Pl} {g c n : Nat} (h : PlX N w B C S nv lv fv (.slice (some ⟨g, 0, none⟩) n c) av p) (hn : p.ba.length = n) (i : Nat) (x : Bool) : PlX N (w.setCell ⟨g, i, none⟩ (.bool x)) B C S nv lv fv (.slice (some ⟨g, 0, none⟩) n c) av { p with ba := p.ba.set i x } ∧ Kp w (w.setCell ⟨g, i, none⟩ (.bool x)) (fun k => k = g) := by
  subst hn
  have kp : Kp w (w.setCell ⟨g, i, none⟩ (.bool x)) (fun k => k = g) := (Kp.refl w (fun k => k = g)).set (Or.inl rfl) _ _
  have ne := h.ne
  have a := own_setZ h.ba i (.bool x)
  rw [bls_set] at a
  have ob := getL kp h.ob (fun e => ne.2.2.2.1 g rfl e.symm)
  have ap : ∀ {e sz n : Nat} {u : Value} {xs : List Value}, w.ownsRow N e sz u n xs → e ≠ 4 → ∀ k, u.ownBlock = some k → ¬ k = g := fun ho he k e f => own_apart ho h.ba he k e (by rw [f]; rfl)
  refine ⟨⟨ob, h.ct.kp kp (fun k e s => h.sb g rfl (e ▸ s)), own_kp h.nd kp (ap h.nd (by decide)), own_kp h.lt kp (ap h.lt (by decide)), own_kp h.fe kp (fun k e f => h.fb k e (by rw [f]; rfl)), ?_, own_kp h.at' kp (ap h.at' (by decide)), h.sB, h.sn, h.sl, h.sf, h.sb, h.sa, h.fb, h.gB, h.gS, Nat.le_trans h.gN kp.size⟩, kp⟩
  show World.ownsRow _ N _ 1 _ (p.ba.set i x).length _
  rw [List.length_set]
  exact a
theorem PlX.feCell {N : Nat} {w : World} {B C : Nat} {S : Nat → Prop} {nv lv fv bv av : Value} {p : Pl} {n : Nat} (h : PlX N w B C S nv lv fv bv av p) (hn : p.fe.length = n) (i : Nat) (hi : i < n) : ∃ g c u, fv = .slice (some ⟨g, 0, none⟩) n c ∧ w.cell? ⟨g, i, none⟩ = some (.bool u) ∧ w.frozen? ⟨g, i, none⟩ = false ∧ g ≠ B := by
  subst hn
  obtain ⟨g, c, e, _, _, y⟩ := own_bl h.fe i hi
  subst e
  exact ⟨g, c, _, rfl, y, own_fz h.fe i, fun e => h.ne.2.2.1 _ rfl e⟩
theorem PlX.baCell {N : Nat} {w : World} {B C : Nat} {S : Nat → Prop} {nv lv fv bv av : Value} {p : Pl} {n : Nat} (h : PlX N w B C S nv lv fv bv av p) (hn : p.ba.length = n) (i : Nat) (hi : i < n) : ∃ g c u, bv = .slice (some ⟨g, 0, none⟩) n c ∧ w.cell? ⟨g, i, none⟩ = some (.bool u) ∧ w.frozen? ⟨g, i, none⟩ = false ∧ g ≠ B := by
  subst hn
  obtain ⟨g, c, e, _, _, y⟩ := own_bl h.ba i hi
  subst e
  exact ⟨g, c, _, rfl, y, own_fz h.ba i, fun e => h.ne.2.2.2.1 _ rfl e⟩
set_option maxHeartbeats 8000000 in
set_option maxRecDepth 100000 in
set_option linter.unusedSimpArgs false in
set_option linter.unusedVariables false in
theorem deliver_idle {N : Nat} {w : World} {B C : Nat} {S : Nat → Prop} {nv lv fv bv av : Value} {p : Pl} (h : PlX N w B C S nv lv fv bv av p) {n : Nat} (hi : PI n p) (hlt : p.lt.length ≤ 1000000000) (k : Nat) (hk : k < p.lt.length) (ht : p.lt[k].td = 64) (hph : p.c.ph = none) :
    Calls Try.prog 43 #[.pointer (some ⟨B, 0, none⟩), .int .i64 (k : Int)] w fun e w' => e = .returned (.bool true) ∧ ∃ S' lv' p2, PlX N w' B C S' nv lv' fv bv av p2 ∧ PI n p2 ∧ Below N w w' ∧ p2.job = p.job ∧ p2.lt.length ≤ p.lt.length + 16 := by
  obtain ⟨m, hm⟩ : ∃ m, m = p.lt[k] := ⟨_, rfl⟩
  have TA := taken_any h k hk hlt
  rw [← hm] at TA
  replace TA := hide TA
  have LE := hi.lt m (by rw [hm]; exact List.getElem_mem hk)
  have ER : Hid (∀ x ∈ p.lt.eraseIdx k, x ∈ p.lt) := fun x hx => List.mem_of_mem_eraseIdx hx
  have EL : Hid ((p.lt.eraseIdx k).length + 1 = p.lt.length) := by rw [List.length_eraseIdx, if_pos hk]; unfold Hid; omega
  rw [← hm] at ht
  have HI := hide hi
  have n16 := hi.n16
  have HLT := hide hlt
  clear hi h hk hm hlt
  have TF := hide HI.out.ci.fine
  have HPH := hide hph
  have HT := hide ht
  clear LE ht hph
  go_enter Try.func43, Try.ntmps43
  go_wp2_with fail
  refine Calls.mono TA.out ?_
  rintro e W1 ⟨lv1, rfl, p1, b1⟩
  clear TA
  obtain ⟨M, hM⟩ : ∃ M, M = W1.heap.size := ⟨_, rfl⟩
  obtain ⟨W2, hW2⟩ : ∃ X, X = (W1.alloc (.cells (mgV mg0) 44)).setRow W1.heap.size (mgV m) := ⟨_, rfl⟩
  have b2 : Below W1.heap.size W1 W2 := by rw [hW2]; exact (((Kp.refl W1 non).alloc _).row (Or.inr (Nat.le_refl _)) _).below
  have M2 : Hid (MgAt W2 M m) := by rw [hW2, hM]; exact setRow_heap _ _ _ _ _ _ (heap_last W1 _)
  have P2 := hide (p1.below b2)
  have B2 : Hid (Below N w W2) := b1.trans (b2.mono p1.gN)
  have MB : Hid (M ≠ B) := by have := blk_lt p1.ob; unfold Hid; omega
  have MX : Hid (∀ q, plS B S nv lv1 fv bv av q → q < M) := fun q e => by
    rw [hM]
    rcases e with e | e | e | e | e | e | e
    · rw [e]; exact blk_lt p1.ob
    · exact p1.ct.lt q e
    · exact own_lt2 p1.nd e
    · exact own_lt2 p1.lt e
    · exact own_lt2 p1.fe e
    · exact own_lt2 p1.ba e
    · exact own_lt2 p1.at' e
  have HM := hide hM
  replace hW2 := hide hW2
  clear p1 b1 b2
  go_upto_region 2 with (refine wpList_stR rfl 44 (.tmp 5) (.tmp 12) rfl W1.heap.size rfl (mgV m) (mgV mg0) rfl _ (heap_last W1 _) mg_info rfl (mg_one _) ?_)
  rw [show (#[.int .i64 0, .int .i64 0, .int .i64 0, .int .i64 0, .int .i64 0, .int .i64 0, .int .i64 0, .int .i64 0, .int .i64 0, .string ⟨#[]⟩, .string ⟨#[]⟩] : Array Value) = mgV mg0 from rfl, ← hW2.out, ← HM.out]
  clear hW2 hM
  have y2 : W2.cell? ⟨M, 2, none⟩ = some (.int .i64 64) := by rw [← HT.out]; exact M2.out.cells.2.2.1
  have y8 := M2.out.cells.2.2.2.2.2.2.2.2.1
  have y4 := M2.out.cells.2.2.2.2.1
  have x0 := P2.out.cells.1
  have x3 := P2.out.cells.2.2.2.1
  have BU := busy_any P2.out.ct (by exact TF.out.n1)
  rw [show ({ p with lt := p.lt.eraseIdx k } : Pl).c.ph.isSome = false by show p.c.ph.isSome = false; rw [HPH.out]; rfl] at BU
  replace BU := hide BU
  go_wp2_with fail
  refine Calls.mono BU.out ?_
  rintro e w9 ⟨rfl, rfl⟩
  go_upto_region 8 with fail
  go_quiet (fail)
  obtain ⟨W3, hW3⟩ : ∃ X, X = W2.drewN nq := ⟨_, rfl⟩
  have kk3 : Kp W2 W3 non := by rw [hW3]; exact (Kp.refl _ non).drewN _
  have P3 := hide (P2.out.kp kk3 (fun _ f => f.elim))
  have M3 : Hid (MgAt W3 M m) := M2.out.keep kk3 (fun f => f)
  have B3 : Hid (Below N w W3) := B2.out.trans (kk3.toN P2.out.gN (fun _ f => f.elim))
  rw [← hW3]
  clear hW3 kk3 x0 x3 y2 y4 y8 P2 M2 B2 BU
  have TK := hide (Take_any (P3.out.ct.kp ((Kp.refl W3 non).drew) (fun _ f => f.elim)) TF.out m)
  have FF : Hid (∀ X : World, (X.heap[B]? = W3.heap[B]? ∧ X.heap[M]? = W3.heap[M]?) → X.cell? ⟨B, 0, none⟩ = some (.pointer (some ⟨C, 0, none⟩)) ∧ X.heap[M]? = some (.cells (mgV m) 44)) := fun X hX => by
    unfold World.cell?
    rw [hX.1, hX.2, P3.out.ob]
    exact ⟨rfl, M3.out⟩
  have PD := hide (P3.out.kp ((Kp.refl W3 non).drew) (fun _ f => f.elim))
  go_upto_region 13 with fail
  refine wp_region_held_drew (S := fun X => X.heap[B]? = W3.heap[B]? ∧ X.heap[M]? = W3.heap[M]?) (by kernel_rfl) ⟨rfl, rfl⟩ (fun hHeld => ?_)
  refine wpAnyH_take (i := 0) (v := (.pointer (some ⟨B, 0, none⟩))) rfl (by kernel_rfl) (by kernel_rfl) (by kernel_rfl) (fun _ _ _ h => h) (Or.inl ⟨by kernel_rfl, ?_⟩) (by assumption) ?_
  · intro w' hSw
    (try dsimp only at hSw)
    go_simp
  (try simp only [Act.put, List.getElem_toArray, List.getElem_cons_zero, List.getElem_cons_succ, List.setIfInBounds_toArray, List.set_cons_zero, List.set_cons_succ])
  refine wpAnyH_take (i := 1) (v := (.pointer (some ⟨B, 0, none⟩))) rfl (by kernel_rfl) (by kernel_rfl) (by kernel_rfl) (fun _ _ _ h => h) (Or.inl ⟨by kernel_rfl, ?_⟩) (by assumption) ?_
  · intro w' hSw
    (try dsimp only at hSw)
    go_simp
  (try simp only [Act.put, List.getElem_toArray, List.getElem_cons_zero, List.getElem_cons_succ, List.setIfInBounds_toArray, List.set_cons_zero, List.set_cons_succ])
  refine wpAnyH_take (i := 2) (v := (.pointer (some ⟨B, 0, none⟩))) rfl (by kernel_rfl) (by kernel_rfl) (by kernel_rfl) (fun _ _ _ h => h) (Or.inl ⟨by kernel_rfl, ?_⟩) (by assumption) ?_
  · intro w' hSw
    (try dsimp only at hSw)
    go_simp
  (try simp only [Act.put, List.getElem_toArray, List.getElem_cons_zero, List.getElem_cons_succ, List.setIfInBounds_toArray, List.set_cons_zero, List.set_cons_succ])
  refine wpAnyH_take (i := 3) (v := (.pointer (some ⟨C, 0, none⟩))) rfl (by kernel_rfl) (by kernel_rfl) (by kernel_rfl) (fun _ _ _ h => h) (Or.inl ⟨by kernel_rfl, ?_⟩) (by assumption) ?_
  · intro w' hSw
    (try dsimp only at hSw)
    (have z := (FF.out _ hSw).1; go_simp)
  (try simp only [Act.put, List.getElem_toArray, List.getElem_cons_zero, List.getElem_cons_succ, List.setIfInBounds_toArray, List.set_cons_zero, List.set_cons_succ])
  refine wpAnyH_take (i := 4) (v := (.agg (mgV m))) rfl (by kernel_rfl) (by kernel_rfl) (by kernel_rfl) (fun _ _ _ h => h) (Or.inl ⟨by kernel_rfl, ?_⟩) (by assumption) ?_
  · intro w' hSw
    (try dsimp only at hSw)
    (exact exec_ldR 44 (.tmp 5) rfl rfl _ (FF.out _ hSw).2 Try.underlying44 mg_info)
  (try simp only [Act.put, List.getElem_toArray, List.getElem_cons_zero, List.getElem_cons_succ, List.setIfInBounds_toArray, List.set_cons_zero, List.set_cons_succ])
  refine wpAnyH_ready (rs := [5]) (by kernel_rfl) (by simp) ?_
  refine AllReadyH.cons rfl (fun K hK => ?_) AllReadyH.nil
  go_simp
  refine Calls.mono TK.out ?_
  rintro e WT ⟨vv, rfl, di⟩
  have kB : WT.heap[B]? = W3.heap[B]? := (di.keep PD.out.ob PD.out.sB).trans PD.out.ob.symm
  have kM : WT.heap[M]? = W3.heap[M]? := (di.keep (show (World.drew W3).heap[M]? = some (.cells (mgV m) 44) from M3.out) (fun e => by have := MX.out M (Or.inr (Or.inl e)); omega)).trans (Eq.symm M3.out)
  have KBM := hide (And.intro kB kM)
  obtain ⟨S1, pT, rT, lT, bT⟩ := PD.out.did di
  have PT := hide pT
  have RT := hide rT
  have LT := hide lT
  have BT : Hid (Below N w WT) := B3.out.trans ((((Kp.refl W3 non).drew).toN P3.out.gN (fun _ f => f.elim)).trans bT)
  clear TK di kB kM pT rT lT bT FF
  refine hK.out _ _ (KBM.out) (fun hHeld => ?_)
  clear hK
  (try simp only [Act.put, List.setIfInBounds_toArray, List.set_cons_zero, List.set_cons_succ])
  refine wpAnyH_take (i := 6) (v := (.tuple #[vv, .int .i64 0])) rfl (by kernel_rfl) (by kernel_rfl) (by kernel_rfl) (fun _ _ _ h => h) (Or.inl ⟨by kernel_rfl, ?_⟩) (by assumption) ?_
  · intro w' hSw
    (try dsimp only at hSw)
    go_simp
  (try simp only [Act.put, List.getElem_toArray, List.getElem_cons_zero, List.getElem_cons_succ, List.setIfInBounds_toArray, List.set_cons_zero, List.set_cons_succ])
  refine wpAnyH_take (i := 7) (v := vv) rfl (by kernel_rfl) (by kernel_rfl) (by kernel_rfl) (fun _ _ _ h => h) (Or.inl ⟨by kernel_rfl, ?_⟩) (by assumption) ?_
  · intro w' hSw
    (try dsimp only at hSw)
    go_simp
  (try simp only [Act.put, List.getElem_toArray, List.getElem_cons_zero, List.getElem_cons_succ, List.setIfInBounds_toArray, List.set_cons_zero, List.set_cons_succ])
  refine wpAnyH_take (i := 8) (v := (.int .i64 0)) rfl (by kernel_rfl) (by kernel_rfl) (by kernel_rfl) (fun _ _ _ h => h) (Or.inl ⟨by kernel_rfl, ?_⟩) (by assumption) ?_
  · intro w' hSw
    (try dsimp only at hSw)
    go_simp
  (try simp only [Act.put, List.getElem_toArray, List.getElem_cons_zero, List.getElem_cons_succ, List.setIfInBounds_toArray, List.set_cons_zero, List.set_cons_succ])
  refine wpAnyH_take (i := 9) (v := vv) rfl (by kernel_rfl) (by kernel_rfl) (by kernel_rfl) (fun _ _ _ h => h) (Or.inl ⟨by kernel_rfl, ?_⟩) (by assumption) ?_
  · intro w' hSw
    (try dsimp only at hSw)
    go_simp
  (try simp only [Act.put, List.getElem_toArray, List.getElem_cons_zero, List.getElem_cons_succ, List.setIfInBounds_toArray, List.set_cons_zero, List.set_cons_succ])
  refine wpAnyH_ready (rs := [10]) (by kernel_rfl) (by simp) ?_
  refine AllReadyH.cons rfl (fun K hK => ?_) AllReadyH.nil
  go_simp
  refine hK.out _ _ (KBM.out) (fun hHeld => ?_)
  clear hK
  (try simp only [Act.put, List.setIfInBounds_toArray, List.set_cons_zero, List.set_cons_succ])
  refine wpAnyH_done (by kernel_rfl) ?_ _
  clear hHeld KBM
  have tl : takeL p.c m = [] := by unfold takeL; rw [HPH.out]
  have tc : takeC p.c m = p.c := by unfold takeC; rw [HPH.out]
  have rt := RT.out
  rw [show (takeL ({ p with lt := p.lt.eraseIdx k } : Pl).c m) = [] from tl] at rt
  obtain ⟨va, vc, hvv⟩ := own_sl rt
  have hvv2 : vv = .slice va 0 vc := hvv
  have pt := PT.out
  rw [show (takeC ({ p with lt := p.lt.eraseIdx k } : Pl).c m) = p.c from tc] at pt
  have FA : Hid (∃ S' lv' p2, PlX N WT B C S' nv lv' fv bv av p2 ∧ PI n p2 ∧ Below N w WT ∧ p2.job = p.job ∧ p2.lt.length ≤ p.lt.length + 16) := ⟨S1, _, _, pt, HI.out.letters (p.lt.eraseIdx k) ER.out, BT.out, rfl, by show (p.lt.eraseIdx k).length ≤ _; have := EL.out; omega⟩
  clear RT LT PT pt rt tl tc hvv
  subst hvv2
  go_wp2_with fail
  refine Calls.mono went_none ?_
  rintro e w9 ⟨rfl, rfl⟩
  go_wp2_with fail
  go_ret
  exact ⟨rfl, FA.out⟩
end Go.Proofs.Ytpleakkhbfhdkaa.Cn
