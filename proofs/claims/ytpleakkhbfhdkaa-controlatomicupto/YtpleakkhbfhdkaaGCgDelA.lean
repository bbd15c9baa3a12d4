import Derived.Test.YtpleakkhbfhdkaaGCgDelN
namespace Go.Proofs.Ytpleakkhbfhdkaa.Cn
open Go.RowKit
set_option maxHeartbeats 8000000 in
set_option maxRecDepth 100000 in
set_option linter.unusedSimpArgs false in
set_option linter.unusedVariables false in
theorem deliver_a {N : Nat} {w : World} {B C : Nat} {S : Nat → Prop} {nv lv fv bv av : Value} {p : Pl} (h : PlX N w B C S nv lv fv bv av p) {n : Nat} (hi : PI n p) (hlt : p.lt.length ≤ 1000000000) (k : Nat) (hk : k < p.lt.length) (ht : p.lt[k].td = 64) (hph : p.c.ph ≠ none) (cc : p.lt[k].code ≠ 0) :
    Calls Try.prog 43 #[.pointer (some ⟨B, 0, none⟩), .int .i64 (k : Int)] w fun e w' => e = .returned (.bool true) ∧ ∃ S' lv' p2, PlX N w' B C S' nv lv' fv bv av p2 ∧ PI n p2 ∧ Below N w w' ∧ p2.job = p.job ∧ p2.lt.length ≤ p.lt.length + 16 := by
  obtain ⟨m, hm⟩ : ∃ m, m = p.lt[k] := ⟨_, rfl⟩
  have TA := taken_any h k hk hlt
  rw [← hm] at TA
  replace TA := hide TA
  have LE := hi.lt m (by rw [hm]; exact List.getElem_mem hk)
  have ER : Hid (∀ x ∈ p.lt.eraseIdx k, x ∈ p.lt) := fun x hx => List.mem_of_mem_eraseIdx hx
  have EL : Hid ((p.lt.eraseIdx k).length + 1 = p.lt.length) := by rw [List.length_eraseIdx, if_pos hk]; unfold Hid; omega
  rw [← hm] at ht cc
  have HI := hide hi
  have n16 := hi.n16
  have HLT := hide hlt
  clear hi h hk hm hlt
  obtain ⟨f0, f1, an⟩ : 0 ≤ m.fr ∧ m.fr < (n : Int) ∧ AnI p.job p.ver p.bk (ndF p m.fr.toNat) m := by
    rcases LE with ⟨a, _⟩ | ⟨_, a, b, c⟩
    · exact absurd ht a
    · exact ⟨a, b, c⟩
  clear LE
  obtain ⟨kk, hkk⟩ : ∃ kk : Nat, m.fr = (kk : Int) := ⟨m.fr.toNat, by omega⟩
  have hkn : kk < n := by omega
  have kkn : (kk : Int) < (n : Int) := by omega
  rw [show m.fr.toNat = kk by omega] at an
  obtain ⟨lf, lb, lj, lat⟩ := HI.out.fb hph
  obtain ⟨x, hx⟩ := Option.ne_none_iff_exists'.1 hph
  obtain ⟨ph, rd⟩ := x
  have ST0 := take_step HI.out.ci hx hkn hkk an
  have HBK : Hid (m.ep = p.job → m.kind = 8 → p.bk = true) := fun a b => (an.ba a b).2.1
  have TF0 := hide HI.out.ci.fine
  have HPH : Hid (p.c.ph.isSome = true) := by rw [hx]; exact rfl
  have HT := hide ht
  have HKK := hide hkk
  have HNO := hide (num_any m.code)
  obtain ⟨q, hq⟩ : ∃ q, q = ({ p with c := takeC p.c m, lt := p.lt.eraseIdx k, fe := p.fe, ba := p.ba } : Pl) := ⟨_, rfl⟩
  have eF : feF q = feT (feF p) kk p.job m := by
    rw [hq]
    unfold feT
    rw [if_neg (fun z => cc z.1)]
    rfl
  have eB : baF q = baT (baF p) p.bk kk p.job m := by
    rw [hq]
    unfold baT
    rw [if_neg (fun z => cc z.1)]
    rfl
  have ST : Hid (StepI q.c (takeL p.c m) n q.job q.kind q.ver q.bk (feF q) (baF q) (ndF q)) := by
    rw [eF, eB, hq]
    exact ST0
  have HN : Hid (q.nd.length = n) := by rw [hq]; exact HI.out.nn
  have HA : Hid (q.at'.length = n) := by rw [hq]; exact HI.out.na
  have HFE : Hid (q.fe.length = n) := by rw [hq]; show (p.fe).length = n; exact lf
  have HBA : Hid (q.ba.length = n) := by rw [hq]; show (p.ba).length = n; exact lb
  have HJ0 : Hid (q.job ≠ 0) := by rw [hq]; exact lj
  have HJE : Hid (q.job = p.job) := by rw [hq]; exact rfl
  have HAT : Hid (∀ i, i < n → atF q.at' i < 0) := by rw [hq]; exact lat
  have HLET : Hid (∀ x ∈ q.lt, LetI n q.job q.ver q.bk (ndF q) x) := by rw [hq]; exact fun x hx => HI.out.lt x (ER.out x hx)
  have HLE : Hid (q.lt.length ≤ p.lt.length) := by rw [hq]; show (p.lt.eraseIdx k).length ≤ _; have := EL.out; omega
  have HLL : Hid (q.lt.length ≤ 1000000000) := Nat.le_trans HLE.out HLT.out
  have LF := hide lf
  have LB := hide lb
  have HQ := hide hq
  have q8 : (m.code == 0) = false := by simpa using cc
  clear eF eB ST0 an ht hkk hx hph f0 f1 lf lb lj lat hq cc
  go_enter Try.func43, Try.ntmps43
  go_wp2_with fail
  refine Calls.mono TA.out ?_
  rintro e W1 ⟨lv1, rfl, p1, b1⟩
  clear TA
  obtain ⟨M, hM⟩ : ∃ M, M = W1.heap.size := ⟨_, rfl⟩
  obtain ⟨W2, hW2⟩ : ∃ X, X = (W1.alloc (.cells (mgV mg0) 44)).setRow W1.heap.size (mgV m) := ⟨_, rfl⟩
  have b2 : Below W1.heap.size W1 W2 := by rw [hW2]; exact (((Kp.refl W1 non).alloc _).row (Or.inr (Nat.le_refl _)) _).below
  have M2 : Hid (MgAt W2 M m) := by rw [hW2, hM]; exact setRow_heap _ _ _ _ _ _ (heap_last W1 _)
  have P2 := hide (p1.below b2)
  have B2 : Hid (Below N w W2) := b1.trans (b2.mono p1.gN)
  have MB : Hid (M ≠ B) := by have := blk_lt p1.ob; unfold Hid; omega
  have MX : Hid (∀ q, plS B S nv lv1 fv bv av q → q < M) := fun q e => by
    rw [hM]
    rcases e with e | e | e | e | e | e | e
    · rw [e]; exact blk_lt p1.ob
    · exact p1.ct.lt q e
    · exact own_lt2 p1.nd e
    · exact own_lt2 p1.lt e
    · exact own_lt2 p1.fe e
    · exact own_lt2 p1.ba e
    · exact own_lt2 p1.at' e
  have HM := hide hM
  replace hW2 := hide hW2
  clear p1 b1 b2
  go_upto_region 2 with (refine wpList_stR rfl 44 (.tmp 5) (.tmp 12) rfl W1.heap.size rfl (mgV m) (mgV mg0) rfl _ (heap_last W1 _) mg_info rfl (mg_one _) ?_)
  rw [show (#[.int .i64 0, .int .i64 0, .int .i64 0, .int .i64 0, .int .i64 0, .int .i64 0, .int .i64 0, .int .i64 0, .int .i64 0, .string ⟨#[]⟩, .string ⟨#[]⟩] : Array Value) = mgV mg0 from rfl, ← hW2.out, ← HM.out]
  clear hW2 hM
  have y2 : W2.cell? ⟨M, 2, none⟩ = some (.int .i64 64) := by rw [← HT.out]; exact M2.out.cells.2.2.1
  have y8 := M2.out.cells.2.2.2.2.2.2.2.2.1
  have y4 := M2.out.cells.2.2.2.2.1
  have x0 := P2.out.cells.1
  have x3 : W2.cell? ⟨B, 3, none⟩ = some (.int .i64 p.job) := P2.out.cells.2.2.2.1
  have BU := busy_any P2.out.ct (by exact TF0.out.n1)
  rw [show ({ p with lt := p.lt.eraseIdx k } : Pl).c.ph.isSome = true from HPH.out] at BU
  replace BU := hide BU
  have NUQ : Hid (∀ w : World, Calls Try.prog 11 #[.int .i64 m.code] w fun x w' => x = .returned (.int .i64 m.code) ∧ w' = w) := fun w => (HNO.out w).mono fun _ _ ⟨a, b⟩ => ⟨a, b.symm⟩
  go_wp2_with fail
  refine Calls.mono BU.out ?_
  rintro e w9 ⟨rfl, rfl⟩
  go_upto_region 8 with fail
  go_quiet ((go_at_call 11; exact Calls.quiet_of_same (NUQ.out _)))
  obtain ⟨W3, hW3⟩ : ∃ X, X = W2.drewN nq := ⟨_, rfl⟩
  have kk3 : Kp W2 W3 non := by rw [hW3]; exact (Kp.refl _ non).drewN _
  have P3 := hide (P2.out.kp kk3 (fun _ f => f.elim))
  have M3 : Hid (MgAt W3 M m) := M2.out.keep kk3 (fun f => f)
  have B3 : Hid (Below N w W3) := B2.out.trans (kk3.toN P2.out.gN (fun _ f => f.elim))
  rw [← hW3]
  clear hW3 kk3 x0 x3 y2 y4 y8 P2 M2 B2 BU NUQ HNO q8
  have TF : Hid (({ p with lt := p.lt.eraseIdx k } : Pl).c.fine) := TF0.out
  have PP := P3
  have TK := hide (Take_any (PP.out.ct.kp ((Kp.refl W3 non).drew) (fun _ f => f.elim)) TF.out m)
  have FF : Hid (∀ X : World, (X.heap[B]? = W3.heap[B]? ∧ X.heap[M]? = W3.heap[M]?) → X.cell? ⟨B, 0, none⟩ = some (.pointer (some ⟨C, 0, none⟩)) ∧ X.heap[M]? = some (.cells (mgV m) 44)) := fun X hX => by
    unfold World.cell?
    rw [hX.1, hX.2, PP.out.ob]
    exact ⟨rfl, M3.out⟩
  have PD := hide (PP.out.kp ((Kp.refl W3 non).drew) (fun _ f => f.elim))
  go_upto_region 13 with fail
  refine wp_region_held_drew (S := fun X => X.heap[B]? = W3.heap[B]? ∧ X.heap[M]? = W3.heap[M]?) (by kernel_rfl) ⟨rfl, rfl⟩ (fun hHeld => ?_)
  refine wpAnyH_take (i := 0) (v := (.pointer (some ⟨B, 0, none⟩))) rfl (by kernel_rfl) (by kernel_rfl) (by kernel_rfl) (fun _ _ _ h => h) (Or.inl ⟨by kernel_rfl, ?_⟩) (by assumption) ?_
  · intro w' hSw
    (try dsimp only at hSw)
    go_simp
  (try simp only [Act.put, List.getElem_toArray, List.getElem_cons_zero, List.getElem_cons_succ, List.setIfInBounds_toArray, List.set_cons_zero, List.set_cons_succ])
  refine wpAnyH_take (i := 1) (v := (.pointer (some ⟨B, 0, none⟩))) rfl (by kernel_rfl) (by kernel_rfl) (by kernel_rfl) (fun _ _ _ h => h) (Or.inl ⟨by kernel_rfl, ?_⟩) (by assumption) ?_
  · intro w' hSw
    (try dsimp only at hSw)
    go_simp
  (try simp only [Act.put, List.getElem_toArray, List.getElem_cons_zero, List.getElem_cons_succ, List.setIfInBounds_toArray, List.set_cons_zero, List.set_cons_succ])
  refine wpAnyH_take (i := 2) (v := (.pointer (some ⟨B, 0, none⟩))) rfl (by kernel_rfl) (by kernel_rfl) (by kernel_rfl) (fun _ _ _ h => h) (Or.inl ⟨by kernel_rfl, ?_⟩) (by assumption) ?_
  · intro w' hSw
    (try dsimp only at hSw)
    go_simp
  (try simp only [Act.put, List.getElem_toArray, List.getElem_cons_zero, List.getElem_cons_succ, List.setIfInBounds_toArray, List.set_cons_zero, List.set_cons_succ])
  refine wpAnyH_take (i := 3) (v := (.pointer (some ⟨C, 0, none⟩))) rfl (by kernel_rfl) (by kernel_rfl) (by kernel_rfl) (fun _ _ _ h => h) (Or.inl ⟨by kernel_rfl, ?_⟩) (by assumption) ?_
  · intro w' hSw
    (try dsimp only at hSw)
    (have z := (FF.out _ hSw).1; go_simp)
  (try simp only [Act.put, List.getElem_toArray, List.getElem_cons_zero, List.getElem_cons_succ, List.setIfInBounds_toArray, List.set_cons_zero, List.set_cons_succ])
  refine wpAnyH_take (i := 4) (v := (.agg (mgV m))) rfl (by kernel_rfl) (by kernel_rfl) (by kernel_rfl) (fun _ _ _ h => h) (Or.inl ⟨by kernel_rfl, ?_⟩) (by assumption) ?_
  · intro w' hSw
    (try dsimp only at hSw)
    (exact exec_ldR 44 (.tmp 5) rfl rfl _ (FF.out _ hSw).2 Try.underlying44 mg_info)
  (try simp only [Act.put, List.getElem_toArray, List.getElem_cons_zero, List.getElem_cons_succ, List.setIfInBounds_toArray, List.set_cons_zero, List.set_cons_succ])
  refine wpAnyH_ready (rs := [5]) (by kernel_rfl) (by simp) ?_
  refine AllReadyH.cons rfl (fun K hK => ?_) AllReadyH.nil
  go_simp
  refine Calls.mono TK.out ?_
  rintro e WT ⟨vv, rfl, di⟩
  have kB : WT.heap[B]? = W3.heap[B]? := (di.keep PD.out.ob PD.out.sB).trans PD.out.ob.symm
  have kM : WT.heap[M]? = W3.heap[M]? := (di.keep (show (World.drew W3).heap[M]? = some (.cells (mgV m) 44) from M3.out) (fun e => by have := MX.out M (Or.inr (Or.inl e)); omega)).trans (Eq.symm M3.out)
  have KBM := hide (And.intro kB kM)
  obtain ⟨S1, pT, rT, lT, bT⟩ := PD.out.did di
  have pT' := pT
  rw [show ({ ({ p with lt := p.lt.eraseIdx k } : Pl) with c := takeC p.c m } : Pl) = q from HQ.out.symm] at pT'
  have PT := hide pT'
  have RT := hide rT
  have LT := hide lT
  have BT : Hid (Below N w WT) := B3.out.trans ((((Kp.refl W3 non).drew).toN PP.out.gN (fun _ f => f.elim)).trans bT)
  clear TK di kB kM pT pT' rT lT bT FF
  refine hK.out _ _ (KBM.out) (fun hHeld => ?_)
  clear hK
  (try simp only [Act.put, List.setIfInBounds_toArray, List.set_cons_zero, List.set_cons_succ])
  refine wpAnyH_take (i := 6) (v := (.tuple #[vv, .int .i64 0])) rfl (by kernel_rfl) (by kernel_rfl) (by kernel_rfl) (fun _ _ _ h => h) (Or.inl ⟨by kernel_rfl, ?_⟩) (by assumption) ?_
  · intro w' hSw
    (try dsimp only at hSw)
    go_simp
  (try simp only [Act.put, List.getElem_toArray, List.getElem_cons_zero, List.getElem_cons_succ, List.setIfInBounds_toArray, List.set_cons_zero, List.set_cons_succ])
  refine wpAnyH_take (i := 7) (v := vv) rfl (by kernel_rfl) (by kernel_rfl) (by kernel_rfl) (fun _ _ _ h => h) (Or.inl ⟨by kernel_rfl, ?_⟩) (by assumption) ?_
  · intro w' hSw
    (try dsimp only at hSw)
    go_simp
  (try simp only [Act.put, List.getElem_toArray, List.getElem_cons_zero, List.getElem_cons_succ, List.setIfInBounds_toArray, List.set_cons_zero, List.set_cons_succ])
  refine wpAnyH_take (i := 8) (v := (.int .i64 0)) rfl (by kernel_rfl) (by kernel_rfl) (by kernel_rfl) (fun _ _ _ h => h) (Or.inl ⟨by kernel_rfl, ?_⟩) (by assumption) ?_
  · intro w' hSw
    (try dsimp only at hSw)
    go_simp
  (try simp only [Act.put, List.getElem_toArray, List.getElem_cons_zero, List.getElem_cons_succ, List.setIfInBounds_toArray, List.set_cons_zero, List.set_cons_succ])
  refine wpAnyH_take (i := 9) (v := vv) rfl (by kernel_rfl) (by kernel_rfl) (by kernel_rfl) (fun _ _ _ h => h) (Or.inl ⟨by kernel_rfl, ?_⟩) (by assumption) ?_
  · intro w' hSw
    (try dsimp only at hSw)
    go_simp
  (try simp only [Act.put, List.getElem_toArray, List.getElem_cons_zero, List.getElem_cons_succ, List.setIfInBounds_toArray, List.set_cons_zero, List.set_cons_succ])
  refine wpAnyH_ready (rs := [10]) (by kernel_rfl) (by simp) ?_
  refine AllReadyH.cons rfl (fun K hK => ?_) AllReadyH.nil
  go_simp
  refine hK.out _ _ (KBM.out) (fun hHeld => ?_)
  clear hK
  (try simp only [Act.put, List.setIfInBounds_toArray, List.set_cons_zero, List.set_cons_succ])
  refine wpAnyH_done (by kernel_rfl) ?_ _
  clear hHeld KBM
  have WS := hide (went_step PT.out ST.out HN.out HA.out HFE.out HBA.out HJ0.out HAT.out HLET.out RT.out LT.out (takeL_len TF.out m) HLL.out)
  go_wp2_with fail
  refine Calls.mono WS.out ?_
  rintro e WF ⟨rfl, lvF, pF, a1, a2, a3, a4, a5, a6, a7⟩
  have FA : Hid (∃ S' lv' p2, PlX N WF B C S' nv lv' fv bv av p2 ∧ PI n p2 ∧ Below N w WF ∧ p2.job = p.job ∧ p2.lt.length ≤ p.lt.length + 16) := ⟨S1, lvF, pF, a1, a2, BT.out.trans a3, a5.trans HJE.out, Nat.le_trans a6 (by have := HLE.out; omega)⟩
  clear a1 a2 a3 a4 a5 a6 a7 WS
  go_wp2_with fail
  go_ret
  exact ⟨rfl, FA.out⟩
end Go.Proofs.Ytpleakkhbfhdkaa.Cn
namespace Go.Proofs.Ytpleakkhbfhdkaa.Cn
open Go.RowKit
set_option maxHeartbeats 8000000 in
set_option maxRecDepth 100000 in
set_option linter.unusedSimpArgs false in
set_option linter.unusedVariables false in
theorem deliver_b {N : Nat} {w : World} {B C : Nat} {S : Nat → Prop} {nv lv fv bv av : Value} {p : Pl} (h : PlX N w B C S nv lv fv bv av p) {n : Nat} (hi : PI n p) (hlt : p.lt.length ≤ 1000000000) (k : Nat) (hk : k < p.lt.length) (ht : p.lt[k].td = 64) (hph : p.c.ph ≠ none) (cc : p.lt[k].code = 0) (ce : p.lt[k].ep ≠ p.job) :
    Calls Try.prog 43 #[.pointer (some ⟨B, 0, none⟩), .int .i64 (k : Int)] w fun e w' => e = .returned (.bool true) ∧ ∃ S' lv' p2, PlX N w' B C S' nv lv' fv bv av p2 ∧ PI n p2 ∧ Below N w w' ∧ p2.job = p.job ∧ p2.lt.length ≤ p.lt.length + 16 := by
  obtain ⟨m, hm⟩ : ∃ m, m = p.lt[k] := ⟨_, rfl⟩
  have TA := taken_any h k hk hlt
  rw [← hm] at TA
  replace TA := hide TA
  have LE := hi.lt m (by rw [hm]; exact List.getElem_mem hk)
  have ER : Hid (∀ x ∈ p.lt.eraseIdx k, x ∈ p.lt) := fun x hx => List.mem_of_mem_eraseIdx hx
  have EL : Hid ((p.lt.eraseIdx k).length + 1 = p.lt.length) := by rw [List.length_eraseIdx, if_pos hk]; unfold Hid; omega
  rw [← hm] at ht cc ce
  have HI := hide hi
  have n16 := hi.n16
  have HLT := hide hlt
  clear hi h hk hm hlt
  obtain ⟨f0, f1, an⟩ : 0 ≤ m.fr ∧ m.fr < (n : Int) ∧ AnI p.job p.ver p.bk (ndF p m.fr.toNat) m := by
    rcases LE with ⟨a, _⟩ | ⟨_, a, b, c⟩
    · exact absurd ht a
    · exact ⟨a, b, c⟩
  clear LE
  obtain ⟨kk, hkk⟩ : ∃ kk : Nat, m.fr = (kk : Int) := ⟨m.fr.toNat, by omega⟩
  have hkn : kk < n := by omega
  have kkn : (kk : Int) < (n : Int) := by omega
  rw [show m.fr.toNat = kk by omega] at an
  obtain ⟨lf, lb, lj, lat⟩ := HI.out.fb hph
  obtain ⟨x, hx⟩ := Option.ne_none_iff_exists'.1 hph
  obtain ⟨ph, rd⟩ := x
  have ST0 := take_step HI.out.ci hx hkn hkk an
  have HBK : Hid (m.ep = p.job → m.kind = 8 → p.bk = true) := fun a b => (an.ba a b).2.1
  have TF0 := hide HI.out.ci.fine
  have HPH : Hid (p.c.ph.isSome = true) := by rw [hx]; exact rfl
  have HT := hide ht
  have HKK := hide hkk
  have HNO := hide (num_any m.code)
  obtain ⟨q, hq⟩ : ∃ q, q = ({ p with c := takeC p.c m, lt := p.lt.eraseIdx k, fe := p.fe, ba := p.ba } : Pl) := ⟨_, rfl⟩
  have eF : feF q = feT (feF p) kk p.job m := by
    rw [hq]
    unfold feT
    rw [if_neg (fun z => ce z.2.1)]
    rfl
  have eB : baF q = baT (baF p) p.bk kk p.job m := by
    rw [hq]
    unfold baT
    rw [if_neg (fun z => ce z.2.1)]
    rfl
  have ST : Hid (StepI q.c (takeL p.c m) n q.job q.kind q.ver q.bk (feF q) (baF q) (ndF q)) := by
    rw [eF, eB, hq]
    exact ST0
  have HN : Hid (q.nd.length = n) := by rw [hq]; exact HI.out.nn
  have HA : Hid (q.at'.length = n) := by rw [hq]; exact HI.out.na
  have HFE : Hid (q.fe.length = n) := by rw [hq]; show (p.fe).length = n; exact lf
  have HBA : Hid (q.ba.length = n) := by rw [hq]; show (p.ba).length = n; exact lb
  have HJ0 : Hid (q.job ≠ 0) := by rw [hq]; exact lj
  have HJE : Hid (q.job = p.job) := by rw [hq]; exact rfl
  have HAT : Hid (∀ i, i < n → atF q.at' i < 0) := by rw [hq]; exact lat
  have HLET : Hid (∀ x ∈ q.lt, LetI n q.job q.ver q.bk (ndF q) x) := by rw [hq]; exact fun x hx => HI.out.lt x (ER.out x hx)
  have HLE : Hid (q.lt.length ≤ p.lt.length) := by rw [hq]; show (p.lt.eraseIdx k).length ≤ _; have := EL.out; omega
  have HLL : Hid (q.lt.length ≤ 1000000000) := Nat.le_trans HLE.out HLT.out
  have LF := hide lf
  have LB := hide lb
  have HQ := hide hq
  have q8 : (m.code == 0) = true := by simpa using cc
  have q4 : (m.ep == p.job) = false := by simpa using ce
  clear eF eB ST0 an ht hkk hx hph f0 f1 lf lb lj lat hq cc ce
  go_enter Try.func43, Try.ntmps43
  go_wp2_with fail
  refine Calls.mono TA.out ?_
  rintro e W1 ⟨lv1, rfl, p1, b1⟩
  clear TA
  obtain ⟨M, hM⟩ : ∃ M, M = W1.heap.size := ⟨_, rfl⟩
  obtain ⟨W2, hW2⟩ : ∃ X, X = (W1.alloc (.cells (mgV mg0) 44)).setRow W1.heap.size (mgV m) := ⟨_, rfl⟩
  have b2 : Below W1.heap.size W1 W2 := by rw [hW2]; exact (((Kp.refl W1 non).alloc _).row (Or.inr (Nat.le_refl _)) _).below
  have M2 : Hid (MgAt W2 M m) := by rw [hW2, hM]; exact setRow_heap _ _ _ _ _ _ (heap_last W1 _)
  have P2 := hide (p1.below b2)
  have B2 : Hid (Below N w W2) := b1.trans (b2.mono p1.gN)
  have MB : Hid (M ≠ B) := by have := blk_lt p1.ob; unfold Hid; omega
  have MX : Hid (∀ q, plS B S nv lv1 fv bv av q → q < M) := fun q e => by
    rw [hM]
    rcases e with e | e | e | e | e | e | e
    · rw [e]; exact blk_lt p1.ob
    · exact p1.ct.lt q e
    · exact own_lt2 p1.nd e
    · exact own_lt2 p1.lt e
    · exact own_lt2 p1.fe e
    · exact own_lt2 p1.ba e
    · exact own_lt2 p1.at' e
  have HM := hide hM
  replace hW2 := hide hW2
  clear p1 b1 b2
  go_upto_region 2 with (refine wpList_stR rfl 44 (.tmp 5) (.tmp 12) rfl W1.heap.size rfl (mgV m) (mgV mg0) rfl _ (heap_last W1 _) mg_info rfl (mg_one _) ?_)
  rw [show (#[.int .i64 0, .int .i64 0, .int .i64 0, .int .i64 0, .int .i64 0, .int .i64 0, .int .i64 0, .int .i64 0, .int .i64 0, .string ⟨#[]⟩, .string ⟨#[]⟩] : Array Value) = mgV mg0 from rfl, ← hW2.out, ← HM.out]
  clear hW2 hM
  have y2 : W2.cell? ⟨M, 2, none⟩ = some (.int .i64 64) := by rw [← HT.out]; exact M2.out.cells.2.2.1
  have y8 := M2.out.cells.2.2.2.2.2.2.2.2.1
  have y4 := M2.out.cells.2.2.2.2.1
  have x0 := P2.out.cells.1
  have x3 : W2.cell? ⟨B, 3, none⟩ = some (.int .i64 p.job) := P2.out.cells.2.2.2.1
  have BU := busy_any P2.out.ct (by exact TF0.out.n1)
  rw [show ({ p with lt := p.lt.eraseIdx k } : Pl).c.ph.isSome = true from HPH.out] at BU
  replace BU := hide BU
  have NUQ : Hid (∀ w : World, Calls Try.prog 11 #[.int .i64 m.code] w fun x w' => x = .returned (.int .i64 m.code) ∧ w' = w) := fun w => (HNO.out w).mono fun _ _ ⟨a, b⟩ => ⟨a, b.symm⟩
  go_wp2_with fail
  refine Calls.mono BU.out ?_
  rintro e w9 ⟨rfl, rfl⟩
  go_upto_region 8 with fail
  go_quiet ((go_at_call 11; exact Calls.quiet_of_same (NUQ.out _)))
  obtain ⟨W3, hW3⟩ : ∃ X, X = W2.drewN nq := ⟨_, rfl⟩
  have kk3 : Kp W2 W3 non := by rw [hW3]; exact (Kp.refl _ non).drewN _
  have P3 := hide (P2.out.kp kk3 (fun _ f => f.elim))
  have M3 : Hid (MgAt W3 M m) := M2.out.keep kk3 (fun f => f)
  have B3 : Hid (Below N w W3) := B2.out.trans (kk3.toN P2.out.gN (fun _ f => f.elim))
  rw [← hW3]
  clear hW3 kk3 x0 x3 y2 y4 y8 P2 M2 B2 BU NUQ HNO q8 q4
  have TF : Hid (({ p with lt := p.lt.eraseIdx k } : Pl).c.fine) := TF0.out
  have PP := P3
  have TK := hide (Take_any (PP.out.ct.kp ((Kp.refl W3 non).drew) (fun _ f => f.elim)) TF.out m)
  have FF : Hid (∀ X : World, (X.heap[B]? = W3.heap[B]? ∧ X.heap[M]? = W3.heap[M]?) → X.cell? ⟨B, 0, none⟩ = some (.pointer (some ⟨C, 0, none⟩)) ∧ X.heap[M]? = some (.cells (mgV m) 44)) := fun X hX => by
    unfold World.cell?
    rw [hX.1, hX.2, PP.out.ob]
    exact ⟨rfl, M3.out⟩
  have PD := hide (PP.out.kp ((Kp.refl W3 non).drew) (fun _ f => f.elim))
  go_upto_region 13 with fail
  refine wp_region_held_drew (S := fun X => X.heap[B]? = W3.heap[B]? ∧ X.heap[M]? = W3.heap[M]?) (by kernel_rfl) ⟨rfl, rfl⟩ (fun hHeld => ?_)
  refine wpAnyH_take (i := 0) (v := (.pointer (some ⟨B, 0, none⟩))) rfl (by kernel_rfl) (by kernel_rfl) (by kernel_rfl) (fun _ _ _ h => h) (Or.inl ⟨by kernel_rfl, ?_⟩) (by assumption) ?_
  · intro w' hSw
    (try dsimp only at hSw)
    go_simp
  (try simp only [Act.put, List.getElem_toArray, List.getElem_cons_zero, List.getElem_cons_succ, List.setIfInBounds_toArray, List.set_cons_zero, List.set_cons_succ])
  refine wpAnyH_take (i := 1) (v := (.pointer (some ⟨B, 0, none⟩))) rfl (by kernel_rfl) (by kernel_rfl) (by kernel_rfl) (fun _ _ _ h => h) (Or.inl ⟨by kernel_rfl, ?_⟩) (by assumption) ?_
  · intro w' hSw
    (try dsimp only at hSw)
    go_simp
  (try simp only [Act.put, List.getElem_toArray, List.getElem_cons_zero, List.getElem_cons_succ, List.setIfInBounds_toArray, List.set_cons_zero, List.set_cons_succ])
  refine wpAnyH_take (i := 2) (v := (.pointer (some ⟨B, 0, none⟩))) rfl (by kernel_rfl) (by kernel_rfl) (by kernel_rfl) (fun _ _ _ h => h) (Or.inl ⟨by kernel_rfl, ?_⟩) (by assumption) ?_
  · intro w' hSw
    (try dsimp only at hSw)
    go_simp
  (try simp only [Act.put, List.getElem_toArray, List.getElem_cons_zero, List.getElem_cons_succ, List.setIfInBounds_toArray, List.set_cons_zero, List.set_cons_succ])
  refine wpAnyH_take (i := 3) (v := (.pointer (some ⟨C, 0, none⟩))) rfl (by kernel_rfl) (by kernel_rfl) (by kernel_rfl) (fun _ _ _ h => h) (Or.inl ⟨by kernel_rfl, ?_⟩) (by assumption) ?_
  · intro w' hSw
    (try dsimp only at hSw)
    (have z := (FF.out _ hSw).1; go_simp)
  (try simp only [Act.put, List.getElem_toArray, List.getElem_cons_zero, List.getElem_cons_succ, List.setIfInBounds_toArray, List.set_cons_zero, List.set_cons_succ])
  refine wpAnyH_take (i := 4) (v := (.agg (mgV m))) rfl (by kernel_rfl) (by kernel_rfl) (by kernel_rfl) (fun _ _ _ h => h) (Or.inl ⟨by kernel_rfl, ?_⟩) (by assumption) ?_
  · intro w' hSw
    (try dsimp only at hSw)
    (exact exec_ldR 44 (.tmp 5) rfl rfl _ (FF.out _ hSw).2 Try.underlying44 mg_info)
  (try simp only [Act.put, List.getElem_toArray, List.getElem_cons_zero, List.getElem_cons_succ, List.setIfInBounds_toArray, List.set_cons_zero, List.set_cons_succ])
  refine wpAnyH_ready (rs := [5]) (by kernel_rfl) (by simp) ?_
  refine AllReadyH.cons rfl (fun K hK => ?_) AllReadyH.nil
  go_simp
  refine Calls.mono TK.out ?_
  rintro e WT ⟨vv, rfl, di⟩
  have kB : WT.heap[B]? = W3.heap[B]? := (di.keep PD.out.ob PD.out.sB).trans PD.out.ob.symm
  have kM : WT.heap[M]? = W3.heap[M]? := (di.keep (show (World.drew W3).heap[M]? = some (.cells (mgV m) 44) from M3.out) (fun e => by have := MX.out M (Or.inr (Or.inl e)); omega)).trans (Eq.symm M3.out)
  have KBM := hide (And.intro kB kM)
  obtain ⟨S1, pT, rT, lT, bT⟩ := PD.out.did di
  have pT' := pT
  rw [show ({ ({ p with lt := p.lt.eraseIdx k } : Pl) with c := takeC p.c m } : Pl) = q from HQ.out.symm] at pT'
  have PT := hide pT'
  have RT := hide rT
  have LT := hide lT
  have BT : Hid (Below N w WT) := B3.out.trans ((((Kp.refl W3 non).drew).toN PP.out.gN (fun _ f => f.elim)).trans bT)
  clear TK di kB kM pT pT' rT lT bT FF
  refine hK.out _ _ (KBM.out) (fun hHeld => ?_)
  clear hK
  (try simp only [Act.put, List.setIfInBounds_toArray, List.set_cons_zero, List.set_cons_succ])
  refine wpAnyH_take (i := 6) (v := (.tuple #[vv, .int .i64 0])) rfl (by kernel_rfl) (by kernel_rfl) (by kernel_rfl) (fun _ _ _ h => h) (Or.inl ⟨by kernel_rfl, ?_⟩) (by assumption) ?_
  · intro w' hSw
    (try dsimp only at hSw)
    go_simp
  (try simp only [Act.put, List.getElem_toArray, List.getElem_cons_zero, List.getElem_cons_succ, List.setIfInBounds_toArray, List.set_cons_zero, List.set_cons_succ])
  refine wpAnyH_take (i := 7) (v := vv) rfl (by kernel_rfl) (by kernel_rfl) (by kernel_rfl) (fun _ _ _ h => h) (Or.inl ⟨by kernel_rfl, ?_⟩) (by assumption) ?_
  · intro w' hSw
    (try dsimp only at hSw)
    go_simp
  (try simp only [Act.put, List.getElem_toArray, List.getElem_cons_zero, List.getElem_cons_succ, List.setIfInBounds_toArray, List.set_cons_zero, List.set_cons_succ])
  refine wpAnyH_take (i := 8) (v := (.int .i64 0)) rfl (by kernel_rfl) (by kernel_rfl) (by kernel_rfl) (fun _ _ _ h => h) (Or.inl ⟨by kernel_rfl, ?_⟩) (by assumption) ?_
  · intro w' hSw
    (try dsimp only at hSw)
    go_simp
  (try simp only [Act.put, List.getElem_toArray, List.getElem_cons_zero, List.getElem_cons_succ, List.setIfInBounds_toArray, List.set_cons_zero, List.set_cons_succ])
  refine wpAnyH_take (i := 9) (v := vv) rfl (by kernel_rfl) (by kernel_rfl) (by kernel_rfl) (fun _ _ _ h => h) (Or.inl ⟨by kernel_rfl, ?_⟩) (by assumption) ?_
  · intro w' hSw
    (try dsimp only at hSw)
    go_simp
  (try simp only [Act.put, List.getElem_toArray, List.getElem_cons_zero, List.getElem_cons_succ, List.setIfInBounds_toArray, List.set_cons_zero, List.set_cons_succ])
  refine wpAnyH_ready (rs := [10]) (by kernel_rfl) (by simp) ?_
  refine AllReadyH.cons rfl (fun K hK => ?_) AllReadyH.nil
  go_simp
  refine hK.out _ _ (KBM.out) (fun hHeld => ?_)
  clear hK
  (try simp only [Act.put, List.setIfInBounds_toArray, List.set_cons_zero, List.set_cons_succ])
  refine wpAnyH_done (by kernel_rfl) ?_ _
  clear hHeld KBM
  have WS := hide (went_step PT.out ST.out HN.out HA.out HFE.out HBA.out HJ0.out HAT.out HLET.out RT.out LT.out (takeL_len TF.out m) HLL.out)
  go_wp2_with fail
  refine Calls.mono WS.out ?_
  rintro e WF ⟨rfl, lvF, pF, a1, a2, a3, a4, a5, a6, a7⟩
  have FA : Hid (∃ S' lv' p2, PlX N WF B C S' nv lv' fv bv av p2 ∧ PI n p2 ∧ Below N w WF ∧ p2.job = p.job ∧ p2.lt.length ≤ p.lt.length + 16) := ⟨S1, lvF, pF, a1, a2, BT.out.trans a3, a5.trans HJE.out, Nat.le_trans a6 (by have := HLE.out; omega)⟩
  clear a1 a2 a3 a4 a5 a6 a7 WS
  go_wp2_with fail
  go_ret
  exact ⟨rfl, FA.out⟩
end Go.Proofs.Ytpleakkhbfhdkaa.Cn
namespace Go.Proofs.Ytpleakkhbfhdkaa.Cn
open Go.RowKit
set_option maxHeartbeats 8000000 in
set_option maxRecDepth 100000 in
set_option linter.unusedSimpArgs false in
set_option linter.unusedVariables false in
theorem deliver_c {N : Nat} {w : World} {B C : Nat} {S : Nat → Prop} {nv lv fv bv av : Value} {p : Pl} (h : PlX N w B C S nv lv fv bv av p) {n : Nat} (hi : PI n p) (hlt : p.lt.length ≤ 1000000000) (k : Nat) (hk : k < p.lt.length) (ht : p.lt[k].td = 64) (hph : p.c.ph ≠ none) (cc : p.lt[k].code = 0) (ce : p.lt[k].ep = p.job) (ck : p.lt[k].kind = 6) :
    Calls Try.prog 43 #[.pointer (some ⟨B, 0, none⟩), .int .i64 (k : Int)] w fun e w' => e = .returned (.bool true) ∧ ∃ S' lv' p2, PlX N w' B C S' nv lv' fv bv av p2 ∧ PI n p2 ∧ Below N w w' ∧ p2.job = p.job ∧ p2.lt.length ≤ p.lt.length + 16 := by
  obtain ⟨m, hm⟩ : ∃ m, m = p.lt[k] := ⟨_, rfl⟩
  have TA := taken_any h k hk hlt
  rw [← hm] at TA
  replace TA := hide TA
  have LE := hi.lt m (by rw [hm]; exact List.getElem_mem hk)
  have ER : Hid (∀ x ∈ p.lt.eraseIdx k, x ∈ p.lt) := fun x hx => List.mem_of_mem_eraseIdx hx
  have EL : Hid ((p.lt.eraseIdx k).length + 1 = p.lt.length) := by rw [List.length_eraseIdx, if_pos hk]; unfold Hid; omega
  rw [← hm] at ht cc ce ck
  have HI := hide hi
  have n16 := hi.n16
  have HLT := hide hlt
  clear hi h hk hm hlt
  obtain ⟨f0, f1, an⟩ : 0 ≤ m.fr ∧ m.fr < (n : Int) ∧ AnI p.job p.ver p.bk (ndF p m.fr.toNat) m := by
    rcases LE with ⟨a, _⟩ | ⟨_, a, b, c⟩
    · exact absurd ht a
    · exact ⟨a, b, c⟩
  clear LE
  obtain ⟨kk, hkk⟩ : ∃ kk : Nat, m.fr = (kk : Int) := ⟨m.fr.toNat, by omega⟩
  have hkn : kk < n := by omega
  have kkn : (kk : Int) < (n : Int) := by omega
  rw [show m.fr.toNat = kk by omega] at an
  obtain ⟨lf, lb, lj, lat⟩ := HI.out.fb hph
  obtain ⟨x, hx⟩ := Option.ne_none_iff_exists'.1 hph
  obtain ⟨ph, rd⟩ := x
  have ST0 := take_step HI.out.ci hx hkn hkk an
  have HBK : Hid (m.ep = p.job → m.kind = 8 → p.bk = true) := fun a b => (an.ba a b).2.1
  have TF0 := hide HI.out.ci.fine
  have HPH : Hid (p.c.ph.isSome = true) := by rw [hx]; exact rfl
  have HT := hide ht
  have HKK := hide hkk
  have HNO := hide (num_any m.code)
  obtain ⟨q, hq⟩ : ∃ q, q = ({ p with c := takeC p.c m, lt := p.lt.eraseIdx k, fe := p.fe, ba := p.ba } : Pl) := ⟨_, rfl⟩
  have eF : feF q = feT (feF p) kk p.job m := by
    rw [hq]
    unfold feT
    rw [if_neg (fun z => by omega)]
    rfl
  have eB : baF q = baT (baF p) p.bk kk p.job m := by
    rw [hq]
    unfold baT
    rw [if_neg (fun z => by omega)]
    rfl
  have ST : Hid (StepI q.c (takeL p.c m) n q.job q.kind q.ver q.bk (feF q) (baF q) (ndF q)) := by
    rw [eF, eB, hq]
    exact ST0
  have HN : Hid (q.nd.length = n) := by rw [hq]; exact HI.out.nn
  have HA : Hid (q.at'.length = n) := by rw [hq]; exact HI.out.na
  have HFE : Hid (q.fe.length = n) := by rw [hq]; show (p.fe).length = n; exact lf
  have HBA : Hid (q.ba.length = n) := by rw [hq]; show (p.ba).length = n; exact lb
  have HJ0 : Hid (q.job ≠ 0) := by rw [hq]; exact lj
  have HJE : Hid (q.job = p.job) := by rw [hq]; exact rfl
  have HAT : Hid (∀ i, i < n → atF q.at' i < 0) := by rw [hq]; exact lat
  have HLET : Hid (∀ x ∈ q.lt, LetI n q.job q.ver q.bk (ndF q) x) := by rw [hq]; exact fun x hx => HI.out.lt x (ER.out x hx)
  have HLE : Hid (q.lt.length ≤ p.lt.length) := by rw [hq]; show (p.lt.eraseIdx k).length ≤ _; have := EL.out; omega
  have HLL : Hid (q.lt.length ≤ 1000000000) := Nat.le_trans HLE.out HLT.out
  have LF := hide lf
  have LB := hide lb
  have HQ := hide hq
  have q8 : (m.code == 0) = true := by simpa using cc
  have q4 : (m.ep == p.job) = true := by simpa using ce
  have CE := hide (And.intro ce ck)
  clear eF eB ST0 an ht hkk hx hph f0 f1 lf lb lj lat hq cc ce ck
  go_enter Try.func43, Try.ntmps43
  go_wp2_with fail
  refine Calls.mono TA.out ?_
  rintro e W1 ⟨lv1, rfl, p1, b1⟩
  clear TA
  obtain ⟨M, hM⟩ : ∃ M, M = W1.heap.size := ⟨_, rfl⟩
  obtain ⟨W2, hW2⟩ : ∃ X, X = (W1.alloc (.cells (mgV mg0) 44)).setRow W1.heap.size (mgV m) := ⟨_, rfl⟩
  have b2 : Below W1.heap.size W1 W2 := by rw [hW2]; exact (((Kp.refl W1 non).alloc _).row (Or.inr (Nat.le_refl _)) _).below
  have M2 : Hid (MgAt W2 M m) := by rw [hW2, hM]; exact setRow_heap _ _ _ _ _ _ (heap_last W1 _)
  have P2 := hide (p1.below b2)
  have B2 : Hid (Below N w W2) := b1.trans (b2.mono p1.gN)
  have MB : Hid (M ≠ B) := by have := blk_lt p1.ob; unfold Hid; omega
  have MX : Hid (∀ q, plS B S nv lv1 fv bv av q → q < M) := fun q e => by
    rw [hM]
    rcases e with e | e | e | e | e | e | e
    · rw [e]; exact blk_lt p1.ob
    · exact p1.ct.lt q e
    · exact own_lt2 p1.nd e
    · exact own_lt2 p1.lt e
    · exact own_lt2 p1.fe e
    · exact own_lt2 p1.ba e
    · exact own_lt2 p1.at' e
  have HM := hide hM
  replace hW2 := hide hW2
  clear p1 b1 b2
  go_upto_region 2 with (refine wpList_stR rfl 44 (.tmp 5) (.tmp 12) rfl W1.heap.size rfl (mgV m) (mgV mg0) rfl _ (heap_last W1 _) mg_info rfl (mg_one _) ?_)
  rw [show (#[.int .i64 0, .int .i64 0, .int .i64 0, .int .i64 0, .int .i64 0, .int .i64 0, .int .i64 0, .int .i64 0, .int .i64 0, .string ⟨#[]⟩, .string ⟨#[]⟩] : Array Value) = mgV mg0 from rfl, ← hW2.out, ← HM.out]
  clear hW2 hM
  have y2 : W2.cell? ⟨M, 2, none⟩ = some (.int .i64 64) := by rw [← HT.out]; exact M2.out.cells.2.2.1
  have y8 := M2.out.cells.2.2.2.2.2.2.2.2.1
  have y4 := M2.out.cells.2.2.2.2.1
  have x0 := P2.out.cells.1
  have x3 : W2.cell? ⟨B, 3, none⟩ = some (.int .i64 p.job) := P2.out.cells.2.2.2.1
  have BU := busy_any P2.out.ct (by exact TF0.out.n1)
  rw [show ({ p with lt := p.lt.eraseIdx k } : Pl).c.ph.isSome = true from HPH.out] at BU
  replace BU := hide BU
  have NUQ : Hid (∀ w : World, Calls Try.prog 11 #[.int .i64 m.code] w fun x w' => x = .returned (.int .i64 m.code) ∧ w' = w) := fun w => (HNO.out w).mono fun _ _ ⟨a, b⟩ => ⟨a, b.symm⟩
  go_wp2_with fail
  refine Calls.mono BU.out ?_
  rintro e w9 ⟨rfl, rfl⟩
  go_upto_region 8 with fail
  go_quiet ((go_at_call 11; exact Calls.quiet_of_same (NUQ.out _)))
  obtain ⟨W3, hW3⟩ : ∃ X, X = W2.drewN nq := ⟨_, rfl⟩
  have kk3 : Kp W2 W3 non := by rw [hW3]; exact (Kp.refl _ non).drewN _
  have P3 := hide (P2.out.kp kk3 (fun _ f => f.elim))
  have M3 : Hid (MgAt W3 M m) := M2.out.keep kk3 (fun f => f)
  have B3 : Hid (Below N w W3) := B2.out.trans (kk3.toN P2.out.gN (fun _ f => f.elim))
  rw [← hW3]
  clear hW3 kk3 x0 x3 y2 y4 y8 P2 M2 B2 BU NUQ HNO q8 q4
  have y0 : W3.cell? ⟨M, 0, none⟩ = some (.int .i64 6) := by rw [← CE.out.2]; exact M3.out.cells.1
  have TF : Hid (({ p with lt := p.lt.eraseIdx k } : Pl).c.fine) := TF0.out
  have PP := P3
  go_upto_region 13 with fail
  clear y0
  have TK := hide (Take_any (PP.out.ct.kp ((Kp.refl W3 non).drew) (fun _ f => f.elim)) TF.out m)
  have FF : Hid (∀ X : World, (X.heap[B]? = W3.heap[B]? ∧ X.heap[M]? = W3.heap[M]?) → X.cell? ⟨B, 0, none⟩ = some (.pointer (some ⟨C, 0, none⟩)) ∧ X.heap[M]? = some (.cells (mgV m) 44)) := fun X hX => by
    unfold World.cell?
    rw [hX.1, hX.2, PP.out.ob]
    exact ⟨rfl, M3.out⟩
  have PD := hide (PP.out.kp ((Kp.refl W3 non).drew) (fun _ f => f.elim))
  go_upto_region 13 with fail
  refine wp_region_held_drew (S := fun X => X.heap[B]? = W3.heap[B]? ∧ X.heap[M]? = W3.heap[M]?) (by kernel_rfl) ⟨rfl, rfl⟩ (fun hHeld => ?_)
  refine wpAnyH_take (i := 0) (v := (.pointer (some ⟨B, 0, none⟩))) rfl (by kernel_rfl) (by kernel_rfl) (by kernel_rfl) (fun _ _ _ h => h) (Or.inl ⟨by kernel_rfl, ?_⟩) (by assumption) ?_
  · intro w' hSw
    (try dsimp only at hSw)
    go_simp
  (try simp only [Act.put, List.getElem_toArray, List.getElem_cons_zero, List.getElem_cons_succ, List.setIfInBounds_toArray, List.set_cons_zero, List.set_cons_succ])
  refine wpAnyH_take (i := 1) (v := (.pointer (some ⟨B, 0, none⟩))) rfl (by kernel_rfl) (by kernel_rfl) (by kernel_rfl) (fun _ _ _ h => h) (Or.inl ⟨by kernel_rfl, ?_⟩) (by assumption) ?_
  · intro w' hSw
    (try dsimp only at hSw)
    go_simp
  (try simp only [Act.put, List.getElem_toArray, List.getElem_cons_zero, List.getElem_cons_succ, List.setIfInBounds_toArray, List.set_cons_zero, List.set_cons_succ])
  refine wpAnyH_take (i := 2) (v := (.pointer (some ⟨B, 0, none⟩))) rfl (by kernel_rfl) (by kernel_rfl) (by kernel_rfl) (fun _ _ _ h => h) (Or.inl ⟨by kernel_rfl, ?_⟩) (by assumption) ?_
  · intro w' hSw
    (try dsimp only at hSw)
    go_simp
  (try simp only [Act.put, List.getElem_toArray, List.getElem_cons_zero, List.getElem_cons_succ, List.setIfInBounds_toArray, List.set_cons_zero, List.set_cons_succ])
  refine wpAnyH_take (i := 3) (v := (.pointer (some ⟨C, 0, none⟩))) rfl (by kernel_rfl) (by kernel_rfl) (by kernel_rfl) (fun _ _ _ h => h) (Or.inl ⟨by kernel_rfl, ?_⟩) (by assumption) ?_
  · intro w' hSw
    (try dsimp only at hSw)
    (have z := (FF.out _ hSw).1; go_simp)
  (try simp only [Act.put, List.getElem_toArray, List.getElem_cons_zero, List.getElem_cons_succ, List.setIfInBounds_toArray, List.set_cons_zero, List.set_cons_succ])
  refine wpAnyH_take (i := 4) (v := (.agg (mgV m))) rfl (by kernel_rfl) (by kernel_rfl) (by kernel_rfl) (fun _ _ _ h => h) (Or.inl ⟨by kernel_rfl, ?_⟩) (by assumption) ?_
  · intro w' hSw
    (try dsimp only at hSw)
    (exact exec_ldR 44 (.tmp 5) rfl rfl _ (FF.out _ hSw).2 Try.underlying44 mg_info)
  (try simp only [Act.put, List.getElem_toArray, List.getElem_cons_zero, List.getElem_cons_succ, List.setIfInBounds_toArray, List.set_cons_zero, List.set_cons_succ])
  refine wpAnyH_ready (rs := [5]) (by kernel_rfl) (by simp) ?_
  refine AllReadyH.cons rfl (fun K hK => ?_) AllReadyH.nil
  go_simp
  refine Calls.mono TK.out ?_
  rintro e WT ⟨vv, rfl, di⟩
  have kB : WT.heap[B]? = W3.heap[B]? := (di.keep PD.out.ob PD.out.sB).trans PD.out.ob.symm
  have kM : WT.heap[M]? = W3.heap[M]? := (di.keep (show (World.drew W3).heap[M]? = some (.cells (mgV m) 44) from M3.out) (fun e => by have := MX.out M (Or.inr (Or.inl e)); omega)).trans (Eq.symm M3.out)
  have KBM := hide (And.intro kB kM)
  obtain ⟨S1, pT, rT, lT, bT⟩ := PD.out.did di
  have pT' := pT
  rw [show ({ ({ p with lt := p.lt.eraseIdx k } : Pl) with c := takeC p.c m } : Pl) = q from HQ.out.symm] at pT'
  have PT := hide pT'
  have RT := hide rT
  have LT := hide lT
  have BT : Hid (Below N w WT) := B3.out.trans ((((Kp.refl W3 non).drew).toN PP.out.gN (fun _ f => f.elim)).trans bT)
  clear TK di kB kM pT pT' rT lT bT FF
  refine hK.out _ _ (KBM.out) (fun hHeld => ?_)
  clear hK
  (try simp only [Act.put, List.setIfInBounds_toArray, List.set_cons_zero, List.set_cons_succ])
  refine wpAnyH_take (i := 6) (v := (.tuple #[vv, .int .i64 0])) rfl (by kernel_rfl) (by kernel_rfl) (by kernel_rfl) (fun _ _ _ h => h) (Or.inl ⟨by kernel_rfl, ?_⟩) (by assumption) ?_
  · intro w' hSw
    (try dsimp only at hSw)
    go_simp
  (try simp only [Act.put, List.getElem_toArray, List.getElem_cons_zero, List.getElem_cons_succ, List.setIfInBounds_toArray, List.set_cons_zero, List.set_cons_succ])
  refine wpAnyH_take (i := 7) (v := vv) rfl (by kernel_rfl) (by kernel_rfl) (by kernel_rfl) (fun _ _ _ h => h) (Or.inl ⟨by kernel_rfl, ?_⟩) (by assumption) ?_
  · intro w' hSw
    (try dsimp only at hSw)
    go_simp
  (try simp only [Act.put, List.getElem_toArray, List.getElem_cons_zero, List.getElem_cons_succ, List.setIfInBounds_toArray, List.set_cons_zero, List.set_cons_succ])
  refine wpAnyH_take (i := 8) (v := (.int .i64 0)) rfl (by kernel_rfl) (by kernel_rfl) (by kernel_rfl) (fun _ _ _ h => h) (Or.inl ⟨by kernel_rfl, ?_⟩) (by assumption) ?_
  · intro w' hSw
    (try dsimp only at hSw)
    go_simp
  (try simp only [Act.put, List.getElem_toArray, List.getElem_cons_zero, List.getElem_cons_succ, List.setIfInBounds_toArray, List.set_cons_zero, List.set_cons_succ])
  refine wpAnyH_take (i := 9) (v := vv) rfl (by kernel_rfl) (by kernel_rfl) (by kernel_rfl) (fun _ _ _ h => h) (Or.inl ⟨by kernel_rfl, ?_⟩) (by assumption) ?_
  · intro w' hSw
    (try dsimp only at hSw)
    go_simp
  (try simp only [Act.put, List.getElem_toArray, List.getElem_cons_zero, List.getElem_cons_succ, List.setIfInBounds_toArray, List.set_cons_zero, List.set_cons_succ])
  refine wpAnyH_ready (rs := [10]) (by kernel_rfl) (by simp) ?_
  refine AllReadyH.cons rfl (fun K hK => ?_) AllReadyH.nil
  go_simp
  refine hK.out _ _ (KBM.out) (fun hHeld => ?_)
  clear hK
  (try simp only [Act.put, List.setIfInBounds_toArray, List.set_cons_zero, List.set_cons_succ])
  refine wpAnyH_done (by kernel_rfl) ?_ _
  clear hHeld KBM
  have WS := hide (went_step PT.out ST.out HN.out HA.out HFE.out HBA.out HJ0.out HAT.out HLET.out RT.out LT.out (takeL_len TF.out m) HLL.out)
  go_wp2_with fail
  refine Calls.mono WS.out ?_
  rintro e WF ⟨rfl, lvF, pF, a1, a2, a3, a4, a5, a6, a7⟩
  have FA : Hid (∃ S' lv' p2, PlX N WF B C S' nv lv' fv bv av p2 ∧ PI n p2 ∧ Below N w WF ∧ p2.job = p.job ∧ p2.lt.length ≤ p.lt.length + 16) := ⟨S1, lvF, pF, a1, a2, BT.out.trans a3, a5.trans HJE.out, Nat.le_trans a6 (by have := HLE.out; omega)⟩
  clear a1 a2 a3 a4 a5 a6 a7 WS
  go_wp2_with fail
  go_ret
  exact ⟨rfl, FA.out⟩
end Go.Proofs.Ytpleakkhbfhdkaa.Cn
