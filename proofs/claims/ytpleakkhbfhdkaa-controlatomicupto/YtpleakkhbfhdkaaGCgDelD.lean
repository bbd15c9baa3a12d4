import Derived.Test.YtpleakkhbfhdkaaGCgDelN
import Derived.Test.YtpleakkhbfhdkaaGCgPI
import Derived.Test.YtpleakkhbfhdkaaGCgDelA
namespace Go.Proofs.Ytpleakkhbfhdkaa.Cn
open Go.RowKit
set_option maxHeartbeats 8000000 in
set_option maxRecDepth 100000 in
set_option linter.unusedSimpArgs false in
set_option linter.unusedVariables false in
theorem deliver_d {N : Nat} {w : World} {B C : Nat} {S : Nat → Prop} {nv lv fv bv av : Value} {p : Pl} (h : PlX N w B C S nv lv fv bv av p) {n : Nat} (hi : PI n p) (hlt : p.lt.length ≤ 1000000000) (k : Nat) (hk : k < p.lt.length) (ht : p.lt[k].td = 64) (hph : p.c.ph ≠ none) (cc : p.lt[k].code = 0) (ce : p.lt[k].ep = p.job) (ck : p.lt[k].kind = 4) :
    Calls Try.prog 43 #[.pointer (some ⟨B, 0, none⟩), .int .i64 (k : Int)] w fun e w' => e = .returned (.bool true) ∧ ∃ S' lv' p2, PlX N w' B C S' nv lv' fv bv av p2 ∧ PI n p2 ∧ Below N w w' ∧ p2.job = p.job ∧ p2.lt.length ≤ p.lt.length + 16 := by
  obtain ⟨m, hm⟩ : ∃ m, m = p.lt[k] := ⟨_, rfl⟩
  have TA := taken_any h k hk hlt
  rw [← hm] at TA
  replace TA := hide TA
  have LE := hi.lt m (by rw [hm]; exact List.getElem_mem hk)
  have ER : Hid (∀ x ∈ p.lt.eraseIdx k, x ∈ p.lt) := fun x hx => List.mem_of_mem_eraseIdx hx
  have EL : Hid ((p.lt.eraseIdx k).length + 1 = p.lt.length) := by rw [List.length_eraseIdx, if_pos hk]; unfold Hid; omega
  rw [← hm] at ht cc ce ck
  have HI := hide hi
  have n16 := hi.n16
  have HLT := hide hlt
  clear hi h hk hm hlt
  obtain ⟨f0, f1, an⟩ : 0 ≤ m.fr ∧ m.fr < (n : Int) ∧ AnI p.job p.ver p.bk (ndF p m.fr.toNat) m := by
    rcases LE with ⟨a, _⟩ | ⟨_, a, b, c⟩
    · exact absurd ht a
    · exact ⟨a, b, c⟩
  clear LE
  obtain ⟨kk, hkk⟩ : ∃ kk : Nat, m.fr = (kk : Int) := ⟨m.fr.toNat, by omega⟩
  have hkn : kk < n := by omega
  have kkn : (kk : Int) < (n : Int) := by omega
  rw [show m.fr.toNat = kk by omega] at an
  obtain ⟨lf, lb, lj, lat⟩ := HI.out.fb hph
  obtain ⟨x, hx⟩ := Option.ne_none_iff_exists'.1 hph
  obtain ⟨ph, rd⟩ := x
  have ST0 := take_step HI.out.ci hx hkn hkk an
  have HBK : Hid (m.ep = p.job → m.kind = 8 → p.bk = true) := fun a b => (an.ba a b).2.1
  have TF0 := hide HI.out.ci.fine
  have HPH : Hid (p.c.ph.isSome = true) := by rw [hx]; exact rfl
  have HT := hide ht
  have HKK := hide hkk
  have HNO := hide (num_any m.code)
  obtain ⟨q, hq⟩ : ∃ q, q = ({ p with c := takeC p.c m, lt := p.lt.eraseIdx k, fe := p.fe.set kk true, ba := p.ba } : Pl) := ⟨_, rfl⟩
  have eF : feF q = feT (feF p) kk p.job m := by
    rw [hq]
    unfold feT
    rw [if_pos ⟨cc, ce, ck⟩]
    funext i
    exact getD_setL (by rw [lf]; exact hkn)
  have eB : baF q = baT (baF p) p.bk kk p.job m := by
    rw [hq]
    unfold baT
    rw [if_neg (fun z => by omega)]
    rfl
  have ST : Hid (StepI q.c (takeL p.c m) n q.job q.kind q.ver q.bk (feF q) (baF q) (ndF q)) := by
    rw [eF, eB, hq]
    exact ST0
  have HN : Hid (q.nd.length = n) := by rw [hq]; exact HI.out.nn
  have HA : Hid (q.at'.length = n) := by rw [hq]; exact HI.out.na
  have HFE : Hid (q.fe.length = n) := by rw [hq]; show (p.fe.set kk true).length = n; rw [List.length_set]; exact lf
  have HBA : Hid (q.ba.length = n) := by rw [hq]; show (p.ba).length = n; exact lb
  have HJ0 : Hid (q.job ≠ 0) := by rw [hq]; exact lj
  have HJE : Hid (q.job = p.job) := by rw [hq]; exact rfl
  have HAT : Hid (∀ i, i < n → atF q.at' i < 0) := by rw [hq]; exact lat
  have HLET : Hid (∀ x ∈ q.lt, LetI n q.job q.ver q.bk (ndF q) x) := by rw [hq]; exact fun x hx => HI.out.lt x (ER.out x hx)
  have HLE : Hid (q.lt.length ≤ p.lt.length) := by rw [hq]; show (p.lt.eraseIdx k).length ≤ _; have := EL.out; omega
  have HLL : Hid (q.lt.length ≤ 1000000000) := Nat.le_trans HLE.out HLT.out
  have LF := hide lf
  have LB := hide lb
  have HQ := hide hq
  have q8 : (m.code == 0) = true := by simpa using cc
  have q4 : (m.ep == p.job) = true := by simpa using ce
  have CE := hide (And.intro ce ck)
  clear eF eB ST0 an ht hkk hx hph f0 f1 lf lb lj lat hq cc ce ck
  go_enter Try.func43, Try.ntmps43
  go_wp2_with fail
  refine Calls.mono TA.out ?_
  rintro e W1 ⟨lv1, rfl, p1, b1⟩
  clear TA
  obtain ⟨M, hM⟩ : ∃ M, M = W1.heap.size := ⟨_, rfl⟩
  obtain ⟨W2, hW2⟩ : ∃ X, X = (W1.alloc (.cells (mgV mg0) 44)).setRow W1.heap.size (mgV m) := ⟨_, rfl⟩
  have b2 : Below W1.heap.size W1 W2 := by rw [hW2]; exact (((Kp.refl W1 non).alloc _).row (Or.inr (Nat.le_refl _)) _).below
  have M2 : Hid (MgAt W2 M m) := by rw [hW2, hM]; exact setRow_heap _ _ _ _ _ _ (heap_last W1 _)
  have P2 := hide (p1.below b2)
  have B2 : Hid (Below N w W2) := b1.trans (b2.mono p1.gN)
  have MB : Hid (M ≠ B) := by have := blk_lt p1.ob; unfold Hid; omega
  have MX : Hid (∀ q, plS B S nv lv1 fv bv av q → q < M) := fun q e => by
    rw [hM]
    rcases e with e | e | e | e | e | e | e
    · rw [e]; exact blk_lt p1.ob
    · exact p1.ct.lt q e
    · exact own_lt2 p1.nd e
    · exact own_lt2 p1.lt e
    · exact own_lt2 p1.fe e
    · exact own_lt2 p1.ba e
    · exact own_lt2 p1.at' e
  have HM := hide hM
  replace hW2 := hide hW2
  clear p1 b1 b2
  go_upto_region 2 with (refine wpList_stR rfl 44 (.tmp 5) (.tmp 12) rfl W1.heap.size rfl (mgV m) (mgV mg0) rfl _ (heap_last W1 _) mg_info rfl (mg_one _) ?_)
  rw [show (#[.int .i64 0, .int .i64 0, .int .i64 0, .int .i64 0, .int .i64 0, .int .i64 0, .int .i64 0, .int .i64 0, .int .i64 0, .string ⟨#[]⟩, .string ⟨#[]⟩] : Array Value) = mgV mg0 from rfl, ← hW2.out, ← HM.out]
  clear hW2 hM
  have y2 : W2.cell? ⟨M, 2, none⟩ = some (.int .i64 64) := by rw [← HT.out]; exact M2.out.cells.2.2.1
  have y8 := M2.out.cells.2.2.2.2.2.2.2.2.1
  have y4 := M2.out.cells.2.2.2.2.1
  have x0 := P2.out.cells.1
  have x3 : W2.cell? ⟨B, 3, none⟩ = some (.int .i64 p.job) := P2.out.cells.2.2.2.1
  have BU := busy_any P2.out.ct (by exact TF0.out.n1)
  rw [show ({ p with lt := p.lt.eraseIdx k } : Pl).c.ph.isSome = true from HPH.out] at BU
  replace BU := hide BU
  have NUQ : Hid (∀ w : World, Calls Try.prog 11 #[.int .i64 m.code] w fun x w' => x = .returned (.int .i64 m.code) ∧ w' = w) := fun w => (HNO.out w).mono fun _ _ ⟨a, b⟩ => ⟨a, b.symm⟩
  go_wp2_with fail
  refine Calls.mono BU.out ?_
  rintro e w9 ⟨rfl, rfl⟩
  go_upto_region 8 with fail
  go_quiet ((go_at_call 11; exact Calls.quiet_of_same (NUQ.out _)))
  obtain ⟨W3, hW3⟩ : ∃ X, X = W2.drewN nq := ⟨_, rfl⟩
  have kk3 : Kp W2 W3 non := by rw [hW3]; exact (Kp.refl _ non).drewN _
  have P3 := hide (P2.out.kp kk3 (fun _ f => f.elim))
  have M3 : Hid (MgAt W3 M m) := M2.out.keep kk3 (fun f => f)
  have B3 : Hid (Below N w W3) := B2.out.trans (kk3.toN P2.out.gN (fun _ f => f.elim))
  rw [← hW3]
  clear hW3 kk3 x0 x3 y2 y4 y8 P2 M2 B2 BU NUQ HNO q8 q4
  have y0 : W3.cell? ⟨M, 0, none⟩ = some (.int .i64 4) := by rw [← CE.out.2]; exact M3.out.cells.1
  have x8 : W3.cell? ⟨B, 8, none⟩ = some (.bool p.bk) := P3.out.cells.2.2.2.2.2.2.2.2.1
  obtain ⟨g, gc, u, hfv, gcl, gfz, gB⟩ := P3.out.feCell LF.out kk hkn
  subst hfv
  go_upto_region 10 with fail
  obtain ⟨W4, hW4⟩ : ∃ X, X = (W3.setCell ⟨g, kk, none⟩ (.bool true)).drew := ⟨_, rfl⟩
  obtain ⟨p4, k4⟩ := P3.out.setFe LF.out kk true
  have k4' : Kp W3 W4 (fun k => k = g) := by rw [hW4]; exact k4.drew
  have PP : Hid (PlX N W4 B C S nv lv1 (.slice (some ⟨g, 0, none⟩) n gc) bv av { p with lt := p.lt.eraseIdx k, fe := p.fe.set kk true }) := by rw [hW4]; exact p4.kp ((Kp.refl _ non).drew) (fun _ f => f.elim)
  have gM : Hid (M ≠ g) := by have := MX.out g (Or.inr (Or.inr (Or.inr (Or.inr (Or.inl rfl))))); unfold Hid; omega
  have M4 : Hid (MgAt W4 M m) := M3.out.keep k4' gM.out
  have B4 : Hid (Below N w W4) := B3.out.trans (k4'.toN P3.out.gN (fun q e => by rw [e]; exact own_ge P3.out.fe rfl))
  have FG : Hid (∀ X : World, (X.heap[B]? = W3.heap[B]? ∧ X.heap[M]? = W3.heap[M]?) → X.cell? ⟨B, 6, none⟩ = some (.slice (some ⟨g, 0, none⟩) n gc) ∧ X.cell? ⟨M, 1, none⟩ = some (.int .i64 (kk : Int))) := fun X hX => by
    rw [← HKK.out]
    unfold World.cell?
    rw [hX.1, hX.2, P3.out.ob, M3.out]
    exact ⟨rfl, rfl⟩
  have GK : Hid (W4.heap[B]? = W3.heap[B]? ∧ W4.heap[M]? = W3.heap[M]?) := ⟨k4'.block B (blk_lt P3.out.ob) gB.symm, k4'.block M (blk_lt M3.out) gM.out⟩
  replace hW4 := hide hW4
  clear p4 k4 k4' y0 x8
  refine wp_region_held_drew (S := fun X => X.heap[B]? = W3.heap[B]? ∧ X.heap[M]? = W3.heap[M]?) (by kernel_rfl) ⟨rfl, rfl⟩ (fun hHeld => ?_)
  refine wpAnyH_take (i := 0) (v := (.pointer (some ⟨B, 0, none⟩))) rfl (by kernel_rfl) (by kernel_rfl) (by kernel_rfl) (fun _ _ _ h => h) (Or.inl ⟨by kernel_rfl, ?_⟩) (by assumption) ?_
  · intro w' hSw
    (try dsimp only at hSw)
    go_simp
  (try simp only [Act.put, List.getElem_toArray, List.getElem_cons_zero, List.getElem_cons_succ, List.setIfInBounds_toArray, List.set_cons_zero, List.set_cons_succ])
  refine wpAnyH_take (i := 1) (v := (.pointer (some ⟨B, 0, none⟩))) rfl (by kernel_rfl) (by kernel_rfl) (by kernel_rfl) (fun _ _ _ h => h) (Or.inl ⟨by kernel_rfl, ?_⟩) (by assumption) ?_
  · intro w' hSw
    (try dsimp only at hSw)
    go_simp
  (try simp only [Act.put, List.getElem_toArray, List.getElem_cons_zero, List.getElem_cons_succ, List.setIfInBounds_toArray, List.set_cons_zero, List.set_cons_succ])
  refine wpAnyH_take (i := 2) (v := (.pointer (some ⟨B, 6, none⟩))) rfl (by kernel_rfl) (by kernel_rfl) (by kernel_rfl) (fun _ _ _ h => h) (Or.inl ⟨by kernel_rfl, ?_⟩) (by assumption) ?_
  · intro w' hSw
    (try dsimp only at hSw)
    go_simp
  (try simp only [Act.put, List.getElem_toArray, List.getElem_cons_zero, List.getElem_cons_succ, List.setIfInBounds_toArray, List.set_cons_zero, List.set_cons_succ])
  refine wpAnyH_take (i := 3) (v := (.slice (some ⟨g, 0, none⟩) n gc)) rfl (by kernel_rfl) (by kernel_rfl) (by kernel_rfl) (fun _ _ _ h => h) (Or.inl ⟨by kernel_rfl, ?_⟩) (by assumption) ?_
  · intro w' hSw
    (try dsimp only at hSw)
    (have z := (FG.out _ hSw).1; go_simp)
  (try simp only [Act.put, List.getElem_toArray, List.getElem_cons_zero, List.getElem_cons_succ, List.setIfInBounds_toArray, List.set_cons_zero, List.set_cons_succ])
  refine wpAnyH_take (i := 4) (v := (.pointer (some ⟨M, 1, none⟩))) rfl (by kernel_rfl) (by kernel_rfl) (by kernel_rfl) (fun _ _ _ h => h) (Or.inl ⟨by kernel_rfl, ?_⟩) (by assumption) ?_
  · intro w' hSw
    (try dsimp only at hSw)
    go_simp
  (try simp only [Act.put, List.getElem_toArray, List.getElem_cons_zero, List.getElem_cons_succ, List.setIfInBounds_toArray, List.set_cons_zero, List.set_cons_succ])
  refine wpAnyH_take (i := 5) (v := (.int .i64 (kk : Int))) rfl (by kernel_rfl) (by kernel_rfl) (by kernel_rfl) (fun _ _ _ h => h) (Or.inl ⟨by kernel_rfl, ?_⟩) (by assumption) ?_
  · intro w' hSw
    (try dsimp only at hSw)
    (have z := (FG.out _ hSw).2; go_simp)
  (try simp only [Act.put, List.getElem_toArray, List.getElem_cons_zero, List.getElem_cons_succ, List.setIfInBounds_toArray, List.set_cons_zero, List.set_cons_succ])
  refine wpAnyH_take (i := 6) (v := (.pointer (some ⟨g, kk, none⟩))) rfl (by kernel_rfl) (by kernel_rfl) (by kernel_rfl) (fun _ _ _ h => h) (Or.inl ⟨by kernel_rfl, ?_⟩) (by assumption) ?_
  · intro w' hSw
    (try dsimp only at hSw)
    go_simp
  (try simp only [Act.put, List.getElem_toArray, List.getElem_cons_zero, List.getElem_cons_succ, List.setIfInBounds_toArray, List.set_cons_zero, List.set_cons_succ])
  refine wpAnyH_ready (rs := [7]) (by kernel_rfl) (by simp) ?_
  refine AllReadyH.cons rfl (fun K hK => ?_) AllReadyH.nil
  go_simp
  rw [← hW4.out]
  clear hW4 gcl gfz
  refine hK.out _ _ (GK.out) (fun hHeld => ?_)
  clear hK
  (try simp only [Act.put, List.setIfInBounds_toArray, List.set_cons_zero, List.set_cons_succ])
  refine wpAnyH_done (by kernel_rfl) ?_ _
  clear hHeld FG
  have TF : Hid (({ p with lt := p.lt.eraseIdx k, fe := p.fe.set kk true } : Pl).c.fine) := TF0.out
  have y0 : W4.cell? ⟨M, 0, none⟩ = some (.int .i64 4) := by rw [← CE.out.2]; exact M4.out.cells.1
  go_upto_region 13 with fail
  clear y0
  have TK := hide (Take_any (PP.out.ct.kp ((Kp.refl W4 non).drew) (fun _ f => f.elim)) TF.out m)
  have FF : Hid (∀ X : World, (X.heap[B]? = W4.heap[B]? ∧ X.heap[M]? = W4.heap[M]?) → X.cell? ⟨B, 0, none⟩ = some (.pointer (some ⟨C, 0, none⟩)) ∧ X.heap[M]? = some (.cells (mgV m) 44)) := fun X hX => by
    unfold World.cell?
    rw [hX.1, hX.2, PP.out.ob]
    exact ⟨rfl, M4.out⟩
  have PD := hide (PP.out.kp ((Kp.refl W4 non).drew) (fun _ f => f.elim))
  go_upto_region 13 with fail
  refine wp_region_held_drew (S := fun X => X.heap[B]? = W4.heap[B]? ∧ X.heap[M]? = W4.heap[M]?) (by kernel_rfl) ⟨rfl, rfl⟩ (fun hHeld => ?_)
  refine wpAnyH_take (i := 0) (v := (.pointer (some ⟨B, 0, none⟩))) rfl (by kernel_rfl) (by kernel_rfl) (by kernel_rfl) (fun _ _ _ h => h) (Or.inl ⟨by kernel_rfl, ?_⟩) (by assumption) ?_
  · intro w' hSw
    (try dsimp only at hSw)
    go_simp
  (try simp only [Act.put, List.getElem_toArray, List.getElem_cons_zero, List.getElem_cons_succ, List.setIfInBounds_toArray, List.set_cons_zero, List.set_cons_succ])
  refine wpAnyH_take (i := 1) (v := (.pointer (some ⟨B, 0, none⟩))) rfl (by kernel_rfl) (by kernel_rfl) (by kernel_rfl) (fun _ _ _ h => h) (Or.inl ⟨by kernel_rfl, ?_⟩) (by assumption) ?_
  · intro w' hSw
    (try dsimp only at hSw)
    go_simp
  (try simp only [Act.put, List.getElem_toArray, List.getElem_cons_zero, List.getElem_cons_succ, List.setIfInBounds_toArray, List.set_cons_zero, List.set_cons_succ])
  refine wpAnyH_take (i := 2) (v := (.pointer (some ⟨B, 0, none⟩))) rfl (by kernel_rfl) (by kernel_rfl) (by kernel_rfl) (fun _ _ _ h => h) (Or.inl ⟨by kernel_rfl, ?_⟩) (by assumption) ?_
  · intro w' hSw
    (try dsimp only at hSw)
    go_simp
  (try simp only [Act.put, List.getElem_toArray, List.getElem_cons_zero, List.getElem_cons_succ, List.setIfInBounds_toArray, List.set_cons_zero, List.set_cons_succ])
  refine wpAnyH_take (i := 3) (v := (.pointer (some ⟨C, 0, none⟩))) rfl (by kernel_rfl) (by kernel_rfl) (by kernel_rfl) (fun _ _ _ h => h) (Or.inl ⟨by kernel_rfl, ?_⟩) (by assumption) ?_
  · intro w' hSw
    (try dsimp only at hSw)
    (have z := (FF.out _ hSw).1; go_simp)
  (try simp only [Act.put, List.getElem_toArray, List.getElem_cons_zero, List.getElem_cons_succ, List.setIfInBounds_toArray, List.set_cons_zero, List.set_cons_succ])
  refine wpAnyH_take (i := 4) (v := (.agg (mgV m))) rfl (by kernel_rfl) (by kernel_rfl) (by kernel_rfl) (fun _ _ _ h => h) (Or.inl ⟨by kernel_rfl, ?_⟩) (by assumption) ?_
  · intro w' hSw
    (try dsimp only at hSw)
    (exact exec_ldR 44 (.tmp 5) rfl rfl _ (FF.out _ hSw).2 Try.underlying44 mg_info)
  (try simp only [Act.put, List.getElem_toArray, List.getElem_cons_zero, List.getElem_cons_succ, List.setIfInBounds_toArray, List.set_cons_zero, List.set_cons_succ])
  refine wpAnyH_ready (rs := [5]) (by kernel_rfl) (by simp) ?_
  refine AllReadyH.cons rfl (fun K hK => ?_) AllReadyH.nil
  go_simp
  refine Calls.mono TK.out ?_
  rintro e WT ⟨vv, rfl, di⟩
  have kB : WT.heap[B]? = W4.heap[B]? := (di.keep PD.out.ob PD.out.sB).trans PD.out.ob.symm
  have kM : WT.heap[M]? = W4.heap[M]? := (di.keep (show (World.drew W4).heap[M]? = some (.cells (mgV m) 44) from M4.out) (fun e => by have := MX.out M (Or.inr (Or.inl e)); omega)).trans (Eq.symm M4.out)
  have KBM := hide (And.intro kB kM)
  obtain ⟨S1, pT, rT, lT, bT⟩ := PD.out.did di
  have pT' := pT
  rw [show ({ ({ p with lt := p.lt.eraseIdx k, fe := p.fe.set kk true } : Pl) with c := takeC p.c m } : Pl) = q from HQ.out.symm] at pT'
  have PT := hide pT'
  have RT := hide rT
  have LT := hide lT
  have BT : Hid (Below N w WT) := B4.out.trans ((((Kp.refl W4 non).drew).toN PP.out.gN (fun _ f => f.elim)).trans bT)
  clear TK di kB kM pT pT' rT lT bT FF
  refine hK.out _ _ (KBM.out) (fun hHeld => ?_)
  clear hK
  (try simp only [Act.put, List.setIfInBounds_toArray, List.set_cons_zero, List.set_cons_succ])
  refine wpAnyH_take (i := 6) (v := (.tuple #[vv, .int .i64 0])) rfl (by kernel_rfl) (by kernel_rfl) (by kernel_rfl) (fun _ _ _ h => h) (Or.inl ⟨by kernel_rfl, ?_⟩) (by assumption) ?_
  · intro w' hSw
    (try dsimp only at hSw)
    go_simp
  (try simp only [Act.put, List.getElem_toArray, List.getElem_cons_zero, List.getElem_cons_succ, List.setIfInBounds_toArray, List.set_cons_zero, List.set_cons_succ])
  refine wpAnyH_take (i := 7) (v := vv) rfl (by kernel_rfl) (by kernel_rfl) (by kernel_rfl) (fun _ _ _ h => h) (Or.inl ⟨by kernel_rfl, ?_⟩) (by assumption) ?_
  · intro w' hSw
    (try dsimp only at hSw)
    go_simp
  (try simp only [Act.put, List.getElem_toArray, List.getElem_cons_zero, List.getElem_cons_succ, List.setIfInBounds_toArray, List.set_cons_zero, List.set_cons_succ])
  refine wpAnyH_take (i := 8) (v := (.int .i64 0)) rfl (by kernel_rfl) (by kernel_rfl) (by kernel_rfl) (fun _ _ _ h => h) (Or.inl ⟨by kernel_rfl, ?_⟩) (by assumption) ?_
  · intro w' hSw
    (try dsimp only at hSw)
    go_simp
  (try simp only [Act.put, List.getElem_toArray, List.getElem_cons_zero, List.getElem_cons_succ, List.setIfInBounds_toArray, List.set_cons_zero, List.set_cons_succ])
  refine wpAnyH_take (i := 9) (v := vv) rfl (by kernel_rfl) (by kernel_rfl) (by kernel_rfl) (fun _ _ _ h => h) (Or.inl ⟨by kernel_rfl, ?_⟩) (by assumption) ?_
  · intro w' hSw
    (try dsimp only at hSw)
    go_simp
  (try simp only [Act.put, List.getElem_toArray, List.getElem_cons_zero, List.getElem_cons_succ, List.setIfInBounds_toArray, List.set_cons_zero, List.set_cons_succ])
  refine wpAnyH_ready (rs := [10]) (by kernel_rfl) (by simp) ?_
  refine AllReadyH.cons rfl (fun K hK => ?_) AllReadyH.nil
  go_simp
  refine hK.out _ _ (KBM.out) (fun hHeld => ?_)
  clear hK
  (try simp only [Act.put, List.setIfInBounds_toArray, List.set_cons_zero, List.set_cons_succ])
  refine wpAnyH_done (by kernel_rfl) ?_ _
  clear hHeld KBM
  have WS := hide (went_step PT.out ST.out HN.out HA.out HFE.out HBA.out HJ0.out HAT.out HLET.out RT.out LT.out (takeL_len TF.out m) HLL.out)
  go_wp2_with fail
  refine Calls.mono WS.out ?_
  rintro e WF ⟨rfl, lvF, pF, a1, a2, a3, a4, a5, a6, a7⟩
  have FA : Hid (∃ S' lv' p2, PlX N WF B C S' nv lv' (.slice (some ⟨g, 0, none⟩) n gc) bv av p2 ∧ PI n p2 ∧ Below N w WF ∧ p2.job = p.job ∧ p2.lt.length ≤ p.lt.length + 16) := ⟨S1, lvF, pF, a1, a2, BT.out.trans a3, a5.trans HJE.out, Nat.le_trans a6 (by have := HLE.out; omega)⟩
  clear a1 a2 a3 a4 a5 a6 a7 WS
  go_wp2_with fail
  go_ret
  exact ⟨rfl, FA.out⟩
end Go.Proofs.Ytpleakkhbfhdkaa.Cn
namespace Go.Proofs.Ytpleakkhbfhdkaa.Cn
open Go.RowKit
set_option maxHeartbeats 8000000 in
set_option maxRecDepth 100000 in
set_option linter.unusedSimpArgs false in
set_option linter.unusedVariables false in
theorem deliver_e {N : Nat} {w : World} {B C : Nat} {S : Nat → Prop} {nv lv fv bv av : Value} {p : Pl} (h : PlX N w B C S nv lv fv bv av p) {n : Nat} (hi : PI n p) (hlt : p.lt.length ≤ 1000000000) (k : Nat) (hk : k < p.lt.length) (ht : p.lt[k].td = 64) (hph : p.c.ph ≠ none) (cc : p.lt[k].code = 0) (ce : p.lt[k].ep = p.job) (ck : p.lt[k].kind = 8) :
    Calls Try.prog 43 #[.pointer (some ⟨B, 0, none⟩), .int .i64 (k : Int)] w fun e w' => e = .returned (.bool true) ∧ ∃ S' lv' p2, PlX N w' B C S' nv lv' fv bv av p2 ∧ PI n p2 ∧ Below N w w' ∧ p2.job = p.job ∧ p2.lt.length ≤ p.lt.length + 16 := by
  obtain ⟨m, hm⟩ : ∃ m, m = p.lt[k] := ⟨_, rfl⟩
  have TA := taken_any h k hk hlt
  rw [← hm] at TA
  replace TA := hide TA
  have LE := hi.lt m (by rw [hm]; exact List.getElem_mem hk)
  have ER : Hid (∀ x ∈ p.lt.eraseIdx k, x ∈ p.lt) := fun x hx => List.mem_of_mem_eraseIdx hx
  have EL : Hid ((p.lt.eraseIdx k).length + 1 = p.lt.length) := by rw [List.length_eraseIdx, if_pos hk]; unfold Hid; omega
  rw [← hm] at ht cc ce ck
  have HI := hide hi
  have n16 := hi.n16
  have HLT := hide hlt
  clear hi h hk hm hlt
  obtain ⟨f0, f1, an⟩ : 0 ≤ m.fr ∧ m.fr < (n : Int) ∧ AnI p.job p.ver p.bk (ndF p m.fr.toNat) m := by
    rcases LE with ⟨a, _⟩ | ⟨_, a, b, c⟩
    · exact absurd ht a
    · exact ⟨a, b, c⟩
  clear LE
  obtain ⟨kk, hkk⟩ : ∃ kk : Nat, m.fr = (kk : Int) := ⟨m.fr.toNat, by omega⟩
  have hkn : kk < n := by omega
  have kkn : (kk : Int) < (n : Int) := by omega
  rw [show m.fr.toNat = kk by omega] at an
  obtain ⟨lf, lb, lj, lat⟩ := HI.out.fb hph
  obtain ⟨x, hx⟩ := Option.ne_none_iff_exists'.1 hph
  obtain ⟨ph, rd⟩ := x
  have ST0 := take_step HI.out.ci hx hkn hkk an
  have HBK : Hid (m.ep = p.job → m.kind = 8 → p.bk = true) := fun a b => (an.ba a b).2.1
  have TF0 := hide HI.out.ci.fine
  have HPH : Hid (p.c.ph.isSome = true) := by rw [hx]; exact rfl
  have HT := hide ht
  have HKK := hide hkk
  have HNO := hide (num_any m.code)
  obtain ⟨q, hq⟩ : ∃ q, q = ({ p with c := takeC p.c m, lt := p.lt.eraseIdx k, fe := p.fe, ba := p.ba.set kk true } : Pl) := ⟨_, rfl⟩
  have eF : feF q = feT (feF p) kk p.job m := by
    rw [hq]
    unfold feT
    rw [if_neg (fun z => by omega)]
    rfl
  have eB : baF q = baT (baF p) p.bk kk p.job m := by
    rw [hq]
    unfold baT
    rw [if_pos ⟨cc, ce, ck, HBK.out ce ck⟩]
    funext i
    exact getD_setL (by rw [lb]; exact hkn)
  have ST : Hid (StepI q.c (takeL p.c m) n q.job q.kind q.ver q.bk (feF q) (baF q) (ndF q)) := by
    rw [eF, eB, hq]
    exact ST0
  have HN : Hid (q.nd.length = n) := by rw [hq]; exact HI.out.nn
  have HA : Hid (q.at'.length = n) := by rw [hq]; exact HI.out.na
  have HFE : Hid (q.fe.length = n) := by rw [hq]; show (p.fe).length = n; exact lf
  have HBA : Hid (q.ba.length = n) := by rw [hq]; show (p.ba.set kk true).length = n; rw [List.length_set]; exact lb
  have HJ0 : Hid (q.job ≠ 0) := by rw [hq]; exact lj
  have HJE : Hid (q.job = p.job) := by rw [hq]; exact rfl
  have HAT : Hid (∀ i, i < n → atF q.at' i < 0) := by rw [hq]; exact lat
  have HLET : Hid (∀ x ∈ q.lt, LetI n q.job q.ver q.bk (ndF q) x) := by rw [hq]; exact fun x hx => HI.out.lt x (ER.out x hx)
  have HLE : Hid (q.lt.length ≤ p.lt.length) := by rw [hq]; show (p.lt.eraseIdx k).length ≤ _; have := EL.out; omega
  have HLL : Hid (q.lt.length ≤ 1000000000) := Nat.le_trans HLE.out HLT.out
  have LF := hide lf
  have LB := hide lb
  have HQ := hide hq
  have q8 : (m.code == 0) = true := by simpa using cc
  have q4 : (m.ep == p.job) = true := by simpa using ce
  have CE := hide (And.intro ce ck)
  clear eF eB ST0 an ht hkk hx hph f0 f1 lf lb lj lat hq cc ce ck
  go_enter Try.func43, Try.ntmps43
  go_wp2_with fail
  refine Calls.mono TA.out ?_
  rintro e W1 ⟨lv1, rfl, p1, b1⟩
  clear TA
  obtain ⟨M, hM⟩ : ∃ M, M = W1.heap.size := ⟨_, rfl⟩
  obtain ⟨W2, hW2⟩ : ∃ X, X = (W1.alloc (.cells (mgV mg0) 44)).setRow W1.heap.size (mgV m) := ⟨_, rfl⟩
  have b2 : Below W1.heap.size W1 W2 := by rw [hW2]; exact (((Kp.refl W1 non).alloc _).row (Or.inr (Nat.le_refl _)) _).below
  have M2 : Hid (MgAt W2 M m) := by rw [hW2, hM]; exact setRow_heap _ _ _ _ _ _ (heap_last W1 _)
  have P2 := hide (p1.below b2)
  have B2 : Hid (Below N w W2) := b1.trans (b2.mono p1.gN)
  have MB : Hid (M ≠ B) := by have := blk_lt p1.ob; unfold Hid; omega
  have MX : Hid (∀ q, plS B S nv lv1 fv bv av q → q < M) := fun q e => by
    rw [hM]
    rcases e with e | e | e | e | e | e | e
    · rw [e]; exact blk_lt p1.ob
    · exact p1.ct.lt q e
    · exact own_lt2 p1.nd e
    · exact own_lt2 p1.lt e
    · exact own_lt2 p1.fe e
    · exact own_lt2 p1.ba e
    · exact own_lt2 p1.at' e
  have HM := hide hM
  replace hW2 := hide hW2
  clear p1 b1 b2
  go_upto_region 2 with (refine wpList_stR rfl 44 (.tmp 5) (.tmp 12) rfl W1.heap.size rfl (mgV m) (mgV mg0) rfl _ (heap_last W1 _) mg_info rfl (mg_one _) ?_)
  rw [show (#[.int .i64 0, .int .i64 0, .int .i64 0, .int .i64 0, .int .i64 0, .int .i64 0, .int .i64 0, .int .i64 0, .int .i64 0, .string ⟨#[]⟩, .string ⟨#[]⟩] : Array Value) = mgV mg0 from rfl, ← hW2.out, ← HM.out]
  clear hW2 hM
  have y2 : W2.cell? ⟨M, 2, none⟩ = some (.int .i64 64) := by rw [← HT.out]; exact M2.out.cells.2.2.1
  have y8 := M2.out.cells.2.2.2.2.2.2.2.2.1
  have y4 := M2.out.cells.2.2.2.2.1
  have x0 := P2.out.cells.1
  have x3 : W2.cell? ⟨B, 3, none⟩ = some (.int .i64 p.job) := P2.out.cells.2.2.2.1
  have BU := busy_any P2.out.ct (by exact TF0.out.n1)
  rw [show ({ p with lt := p.lt.eraseIdx k } : Pl).c.ph.isSome = true from HPH.out] at BU
  replace BU := hide BU
  have NUQ : Hid (∀ w : World, Calls Try.prog 11 #[.int .i64 m.code] w fun x w' => x = .returned (.int .i64 m.code) ∧ w' = w) := fun w => (HNO.out w).mono fun _ _ ⟨a, b⟩ => ⟨a, b.symm⟩
  go_wp2_with fail
  refine Calls.mono BU.out ?_
  rintro e w9 ⟨rfl, rfl⟩
  go_upto_region 8 with fail
  go_quiet ((go_at_call 11; exact Calls.quiet_of_same (NUQ.out _)))
  obtain ⟨W3, hW3⟩ : ∃ X, X = W2.drewN nq := ⟨_, rfl⟩
  have kk3 : Kp W2 W3 non := by rw [hW3]; exact (Kp.refl _ non).drewN _
  have P3 := hide (P2.out.kp kk3 (fun _ f => f.elim))
  have M3 : Hid (MgAt W3 M m) := M2.out.keep kk3 (fun f => f)
  have B3 : Hid (Below N w W3) := B2.out.trans (kk3.toN P2.out.gN (fun _ f => f.elim))
  rw [← hW3]
  clear hW3 kk3 x0 x3 y2 y4 y8 P2 M2 B2 BU NUQ HNO q8 q4
  have y0 : W3.cell? ⟨M, 0, none⟩ = some (.int .i64 8) := by rw [← CE.out.2]; exact M3.out.cells.1
  have x8 : W3.cell? ⟨B, 8, none⟩ = some (.bool p.bk) := P3.out.cells.2.2.2.2.2.2.2.2.1
  rw [HBK.out CE.out.1 CE.out.2] at x8
  obtain ⟨g, gc, u, hfv, gcl, gfz, gB⟩ := P3.out.baCell LB.out kk hkn
  subst hfv
  go_upto_region 12 with fail
  obtain ⟨W4, hW4⟩ : ∃ X, X = (W3.setCell ⟨g, kk, none⟩ (.bool true)).drew := ⟨_, rfl⟩
  obtain ⟨p4, k4⟩ := P3.out.setBa LB.out kk true
  have k4' : Kp W3 W4 (fun k => k = g) := by rw [hW4]; exact k4.drew
  have PP : Hid (PlX N W4 B C S nv lv1 fv (.slice (some ⟨g, 0, none⟩) n gc) av { p with lt := p.lt.eraseIdx k, ba := p.ba.set kk true }) := by rw [hW4]; exact p4.kp ((Kp.refl _ non).drew) (fun _ f => f.elim)
  have gM : Hid (M ≠ g) := by have := MX.out g (Or.inr (Or.inr (Or.inr (Or.inr (Or.inr (Or.inl rfl)))))); unfold Hid; omega
  have M4 : Hid (MgAt W4 M m) := M3.out.keep k4' gM.out
  have B4 : Hid (Below N w W4) := B3.out.trans (k4'.toN P3.out.gN (fun q e => by rw [e]; exact own_ge P3.out.ba rfl))
  have FG : Hid (∀ X : World, (X.heap[B]? = W3.heap[B]? ∧ X.heap[M]? = W3.heap[M]?) → X.cell? ⟨B, 7, none⟩ = some (.slice (some ⟨g, 0, none⟩) n gc) ∧ X.cell? ⟨M, 1, none⟩ = some (.int .i64 (kk : Int))) := fun X hX => by
    rw [← HKK.out]
    unfold World.cell?
    rw [hX.1, hX.2, P3.out.ob, M3.out]
    exact ⟨rfl, rfl⟩
  have GK : Hid (W4.heap[B]? = W3.heap[B]? ∧ W4.heap[M]? = W3.heap[M]?) := ⟨k4'.block B (blk_lt P3.out.ob) gB.symm, k4'.block M (blk_lt M3.out) gM.out⟩
  replace hW4 := hide hW4
  clear p4 k4 k4' y0 x8
  refine wp_region_held_drew (S := fun X => X.heap[B]? = W3.heap[B]? ∧ X.heap[M]? = W3.heap[M]?) (by kernel_rfl) ⟨rfl, rfl⟩ (fun hHeld => ?_)
  refine wpAnyH_take (i := 0) (v := (.pointer (some ⟨B, 0, none⟩))) rfl (by kernel_rfl) (by kernel_rfl) (by kernel_rfl) (fun _ _ _ h => h) (Or.inl ⟨by kernel_rfl, ?_⟩) (by assumption) ?_
  · intro w' hSw
    (try dsimp only at hSw)
    go_simp
  (try simp only [Act.put, List.getElem_toArray, List.getElem_cons_zero, List.getElem_cons_succ, List.setIfInBounds_toArray, List.set_cons_zero, List.set_cons_succ])
  refine wpAnyH_take (i := 1) (v := (.pointer (some ⟨B, 0, none⟩))) rfl (by kernel_rfl) (by kernel_rfl) (by kernel_rfl) (fun _ _ _ h => h) (Or.inl ⟨by kernel_rfl, ?_⟩) (by assumption) ?_
  · intro w' hSw
    (try dsimp only at hSw)
    go_simp
  (try simp only [Act.put, List.getElem_toArray, List.getElem_cons_zero, List.getElem_cons_succ, List.setIfInBounds_toArray, List.set_cons_zero, List.set_cons_succ])
  refine wpAnyH_take (i := 2) (v := (.pointer (some ⟨B, 7, none⟩))) rfl (by kernel_rfl) (by kernel_rfl) (by kernel_rfl) (fun _ _ _ h => h) (Or.inl ⟨by kernel_rfl, ?_⟩) (by assumption) ?_
  · intro w' hSw
    (try dsimp only at hSw)
    go_simp
  (try simp only [Act.put, List.getElem_toArray, List.getElem_cons_zero, List.getElem_cons_succ, List.setIfInBounds_toArray, List.set_cons_zero, List.set_cons_succ])
  refine wpAnyH_take (i := 3) (v := (.slice (some ⟨g, 0, none⟩) n gc)) rfl (by kernel_rfl) (by kernel_rfl) (by kernel_rfl) (fun _ _ _ h => h) (Or.inl ⟨by kernel_rfl, ?_⟩) (by assumption) ?_
  · intro w' hSw
    (try dsimp only at hSw)
    (have z := (FG.out _ hSw).1; go_simp)
  (try simp only [Act.put, List.getElem_toArray, List.getElem_cons_zero, List.getElem_cons_succ, List.setIfInBounds_toArray, List.set_cons_zero, List.set_cons_succ])
  refine wpAnyH_take (i := 4) (v := (.pointer (some ⟨M, 1, none⟩))) rfl (by kernel_rfl) (by kernel_rfl) (by kernel_rfl) (fun _ _ _ h => h) (Or.inl ⟨by kernel_rfl, ?_⟩) (by assumption) ?_
  · intro w' hSw
    (try dsimp only at hSw)
    go_simp
  (try simp only [Act.put, List.getElem_toArray, List.getElem_cons_zero, List.getElem_cons_succ, List.setIfInBounds_toArray, List.set_cons_zero, List.set_cons_succ])
  refine wpAnyH_take (i := 5) (v := (.int .i64 (kk : Int))) rfl (by kernel_rfl) (by kernel_rfl) (by kernel_rfl) (fun _ _ _ h => h) (Or.inl ⟨by kernel_rfl, ?_⟩) (by assumption) ?_
  · intro w' hSw
    (try dsimp only at hSw)
    (have z := (FG.out _ hSw).2; go_simp)
  (try simp only [Act.put, List.getElem_toArray, List.getElem_cons_zero, List.getElem_cons_succ, List.setIfInBounds_toArray, List.set_cons_zero, List.set_cons_succ])
  refine wpAnyH_take (i := 6) (v := (.pointer (some ⟨g, kk, none⟩))) rfl (by kernel_rfl) (by kernel_rfl) (by kernel_rfl) (fun _ _ _ h => h) (Or.inl ⟨by kernel_rfl, ?_⟩) (by assumption) ?_
  · intro w' hSw
    (try dsimp only at hSw)
    go_simp
  (try simp only [Act.put, List.getElem_toArray, List.getElem_cons_zero, List.getElem_cons_succ, List.setIfInBounds_toArray, List.set_cons_zero, List.set_cons_succ])
  refine wpAnyH_ready (rs := [7]) (by kernel_rfl) (by simp) ?_
  refine AllReadyH.cons rfl (fun K hK => ?_) AllReadyH.nil
  go_simp
  rw [← hW4.out]
  clear hW4 gcl gfz
  refine hK.out _ _ (GK.out) (fun hHeld => ?_)
  clear hK
  (try simp only [Act.put, List.setIfInBounds_toArray, List.set_cons_zero, List.set_cons_succ])
  refine wpAnyH_done (by kernel_rfl) ?_ _
  clear hHeld FG
  have TF : Hid (({ p with lt := p.lt.eraseIdx k, ba := p.ba.set kk true } : Pl).c.fine) := TF0.out
  have TK := hide (Take_any (PP.out.ct.kp ((Kp.refl W4 non).drew) (fun _ f => f.elim)) TF.out m)
  have FF : Hid (∀ X : World, (X.heap[B]? = W4.heap[B]? ∧ X.heap[M]? = W4.heap[M]?) → X.cell? ⟨B, 0, none⟩ = some (.pointer (some ⟨C, 0, none⟩)) ∧ X.heap[M]? = some (.cells (mgV m) 44)) := fun X hX => by
    unfold World.cell?
    rw [hX.1, hX.2, PP.out.ob]
    exact ⟨rfl, M4.out⟩
  have PD := hide (PP.out.kp ((Kp.refl W4 non).drew) (fun _ f => f.elim))
  go_upto_region 13 with fail
  refine wp_region_held_drew (S := fun X => X.heap[B]? = W4.heap[B]? ∧ X.heap[M]? = W4.heap[M]?) (by kernel_rfl) ⟨rfl, rfl⟩ (fun hHeld => ?_)
  refine wpAnyH_take (i := 0) (v := (.pointer (some ⟨B, 0, none⟩))) rfl (by kernel_rfl) (by kernel_rfl) (by kernel_rfl) (fun _ _ _ h => h) (Or.inl ⟨by kernel_rfl, ?_⟩) (by assumption) ?_
  · intro w' hSw
    (try dsimp only at hSw)
    go_simp
  (try simp only [Act.put, List.getElem_toArray, List.getElem_cons_zero, List.getElem_cons_succ, List.setIfInBounds_toArray, List.set_cons_zero, List.set_cons_succ])
  refine wpAnyH_take (i := 1) (v := (.pointer (some ⟨B, 0, none⟩))) rfl (by kernel_rfl) (by kernel_rfl) (by kernel_rfl) (fun _ _ _ h => h) (Or.inl ⟨by kernel_rfl, ?_⟩) (by assumption) ?_
  · intro w' hSw
    (try dsimp only at hSw)
    go_simp
  (try simp only [Act.put, List.getElem_toArray, List.getElem_cons_zero, List.getElem_cons_succ, List.setIfInBounds_toArray, List.set_cons_zero, List.set_cons_succ])
  refine wpAnyH_take (i := 2) (v := (.pointer (some ⟨B, 0, none⟩))) rfl (by kernel_rfl) (by kernel_rfl) (by kernel_rfl) (fun _ _ _ h => h) (Or.inl ⟨by kernel_rfl, ?_⟩) (by assumption) ?_
  · intro w' hSw
    (try dsimp only at hSw)
    go_simp
  (try simp only [Act.put, List.getElem_toArray, List.getElem_cons_zero, List.getElem_cons_succ, List.setIfInBounds_toArray, List.set_cons_zero, List.set_cons_succ])
  refine wpAnyH_take (i := 3) (v := (.pointer (some ⟨C, 0, none⟩))) rfl (by kernel_rfl) (by kernel_rfl) (by kernel_rfl) (fun _ _ _ h => h) (Or.inl ⟨by kernel_rfl, ?_⟩) (by assumption) ?_
  · intro w' hSw
    (try dsimp only at hSw)
    (have z := (FF.out _ hSw).1; go_simp)
  (try simp only [Act.put, List.getElem_toArray, List.getElem_cons_zero, List.getElem_cons_succ, List.setIfInBounds_toArray, List.set_cons_zero, List.set_cons_succ])
  refine wpAnyH_take (i := 4) (v := (.agg (mgV m))) rfl (by kernel_rfl) (by kernel_rfl) (by kernel_rfl) (fun _ _ _ h => h) (Or.inl ⟨by kernel_rfl, ?_⟩) (by assumption) ?_
  · intro w' hSw
    (try dsimp only at hSw)
    (exact exec_ldR 44 (.tmp 5) rfl rfl _ (FF.out _ hSw).2 Try.underlying44 mg_info)
  (try simp only [Act.put, List.getElem_toArray, List.getElem_cons_zero, List.getElem_cons_succ, List.setIfInBounds_toArray, List.set_cons_zero, List.set_cons_succ])
  refine wpAnyH_ready (rs := [5]) (by kernel_rfl) (by simp) ?_
  refine AllReadyH.cons rfl (fun K hK => ?_) AllReadyH.nil
  go_simp
  refine Calls.mono TK.out ?_
  rintro e WT ⟨vv, rfl, di⟩
  have kB : WT.heap[B]? = W4.heap[B]? := (di.keep PD.out.ob PD.out.sB).trans PD.out.ob.symm
  have kM : WT.heap[M]? = W4.heap[M]? := (di.keep (show (World.drew W4).heap[M]? = some (.cells (mgV m) 44) from M4.out) (fun e => by have := MX.out M (Or.inr (Or.inl e)); omega)).trans (Eq.symm M4.out)
  have KBM := hide (And.intro kB kM)
  obtain ⟨S1, pT, rT, lT, bT⟩ := PD.out.did di
  have pT' := pT
  rw [show ({ ({ p with lt := p.lt.eraseIdx k, ba := p.ba.set kk true } : Pl) with c := takeC p.c m } : Pl) = q from HQ.out.symm] at pT'
  have PT := hide pT'
  have RT := hide rT
  have LT := hide lT
  have BT : Hid (Below N w WT) := B4.out.trans ((((Kp.refl W4 non).drew).toN PP.out.gN (fun _ f => f.elim)).trans bT)
  clear TK di kB kM pT pT' rT lT bT FF
  refine hK.out _ _ (KBM.out) (fun hHeld => ?_)
  clear hK
  (try simp only [Act.put, List.setIfInBounds_toArray, List.set_cons_zero, List.set_cons_succ])
  refine wpAnyH_take (i := 6) (v := (.tuple #[vv, .int .i64 0])) rfl (by kernel_rfl) (by kernel_rfl) (by kernel_rfl) (fun _ _ _ h => h) (Or.inl ⟨by kernel_rfl, ?_⟩) (by assumption) ?_
  · intro w' hSw
    (try dsimp only at hSw)
    go_simp
  (try simp only [Act.put, List.getElem_toArray, List.getElem_cons_zero, List.getElem_cons_succ, List.setIfInBounds_toArray, List.set_cons_zero, List.set_cons_succ])
  refine wpAnyH_take (i := 7) (v := vv) rfl (by kernel_rfl) (by kernel_rfl) (by kernel_rfl) (fun _ _ _ h => h) (Or.inl ⟨by kernel_rfl, ?_⟩) (by assumption) ?_
  · intro w' hSw
    (try dsimp only at hSw)
    go_simp
  (try simp only [Act.put, List.getElem_toArray, List.getElem_cons_zero, List.getElem_cons_succ, List.setIfInBounds_toArray, List.set_cons_zero, List.set_cons_succ])
  refine wpAnyH_take (i := 8) (v := (.int .i64 0)) rfl (by kernel_rfl) (by kernel_rfl) (by kernel_rfl) (fun _ _ _ h => h) (Or.inl ⟨by kernel_rfl, ?_⟩) (by assumption) ?_
  · intro w' hSw
    (try dsimp only at hSw)
    go_simp
  (try simp only [Act.put, List.getElem_toArray, List.getElem_cons_zero, List.getElem_cons_succ, List.setIfInBounds_toArray, List.set_cons_zero, List.set_cons_succ])
  refine wpAnyH_take (i := 9) (v := vv) rfl (by kernel_rfl) (by kernel_rfl) (by kernel_rfl) (fun _ _ _ h => h) (Or.inl ⟨by kernel_rfl, ?_⟩) (by assumption) ?_
  · intro w' hSw
    (try dsimp only at hSw)
    go_simp
  (try simp only [Act.put, List.getElem_toArray, List.getElem_cons_zero, List.getElem_cons_succ, List.setIfInBounds_toArray, List.set_cons_zero, List.set_cons_succ])
  refine wpAnyH_ready (rs := [10]) (by kernel_rfl) (by simp) ?_
  refine AllReadyH.cons rfl (fun K hK => ?_) AllReadyH.nil
  go_simp
  refine hK.out _ _ (KBM.out) (fun hHeld => ?_)
  clear hK
  (try simp only [Act.put, List.setIfInBounds_toArray, List.set_cons_zero, List.set_cons_succ])
  refine wpAnyH_done (by kernel_rfl) ?_ _
  clear hHeld KBM
  have WS := hide (went_step PT.out ST.out HN.out HA.out HFE.out HBA.out HJ0.out HAT.out HLET.out RT.out LT.out (takeL_len TF.out m) HLL.out)
  go_wp2_with fail
  refine Calls.mono WS.out ?_
  rintro e WF ⟨rfl, lvF, pF, a1, a2, a3, a4, a5, a6, a7⟩
  have FA : Hid (∃ S' lv' p2, PlX N WF B C S' nv lv' fv (.slice (some ⟨g, 0, none⟩) n gc) av p2 ∧ PI n p2 ∧ Below N w WF ∧ p2.job = p.job ∧ p2.lt.length ≤ p.lt.length + 16) := ⟨S1, lvF, pF, a1, a2, BT.out.trans a3, a5.trans HJE.out, Nat.le_trans a6 (by have := HLE.out; omega)⟩
  clear a1 a2 a3 a4 a5 a6 a7 WS
  go_wp2_with fail
  go_ret
  exact ⟨rfl, FA.out⟩
end Go.Proofs.Ytpleakkhbfhdkaa.Cn
namespace Go.Proofs.Ytpleakkhbfhdkaa.Cn
open Go.RowKit
/-- the play, wherever its parts lie -/
def PlAt (N : Nat) (w : World) (B : Nat) (p : Pl) : Prop := ∃ C S nv lv fv bv av, PlX N w B C S nv lv fv bv av p
theorem ev_info : (Try.prog.info? 68).map (·.size) = some 3 := by kernel_rfl
/-- what a step leaves -/
def StepQ (N : Nat) (w w' : World) (B n : Nat) (p : Pl) : Prop := ∃ p2, PlAt N w' B p2 ∧ PI n p2 ∧ Below N w w' ∧ p2.job ≤ p.job + 1 ∧ p2.lt.length ≤ p.lt.length + 16
theorem PlX.at {N : Nat} {w : World} {B C : Nat} {S : Nat → Prop} {nv lv fv bv av : Value} {p : Pl} (h : PlX N w B C S nv lv fv bv av p) : PlAt N w B p := ⟨C, S, nv, lv, fv, bv, av, h⟩
theorem StepQ.pre {N : Nat} {w w1 w' : World} {B n : Nat} {p : Pl} (hb : Below N w w1) (h : StepQ N w1 w' B n p) : StepQ N w w' B n p := by
  obtain ⟨p2, a, b, c, d⟩ := h
  exact ⟨p2, a, b, hb.trans c, d⟩
theorem StepQ.stay {N : Nat} {w w' : World} {B n : Nat} {p : Pl} (h : PlAt N w' B p) (hi : PI n p) (hb : Below N w w') : StepQ N w w' B n p := ⟨p, h, hi, hb, by omega, by omega⟩
/-- a node's marks: nothing that is kept speaks of them -/
theorem PI.flag {n : Nat} {p : Pl} (h : PI n p) (k : Nat) (hk : k < n) (x : Nd) (hx : x.cur = (ndF p k).cur ∧ x.prev = (ndF p k).prev ∧ x.ep = (ndF p k).ep ∧ x.sq = (ndF p k).sq ∧ x.sw = (ndF p k).sw ∧ x.was = (ndF p k).was) : PI n { p with nd := p.nd.set k x } := by
  have hk' : k < p.nd.length := by rw [h.nn]; exact hk
  have e : ndF { p with nd := p.nd.set k x } = upf (ndF p) k x := ndF_set (p := p) (x := x) hk' p.lt
  have E : ∀ i, (upf (ndF p) k x i).cur = (ndF p i).cur ∧ (upf (ndF p) k x i).prev = (ndF p i).prev ∧ (upf (ndF p) k x i).ep = (ndF p i).ep ∧ (upf (ndF p) k x i).sq = (ndF p i).sq ∧ (upf (ndF p) k x i).sw = (ndF p i).sw ∧ (upf (ndF p) k x i).was = (ndF p i).was := fun i => by
    unfold upf
    by_cases q : i = k
    · rw [if_pos q, q]; exact hx
    · rw [if_neg q]; exact ⟨rfl, rfl, rfl, rfl, rfl, rfl⟩
  refine ⟨?_, by show (p.nd.set k x).length = n; rw [List.length_set]; exact h.nn, h.na, h.fb, fun m hm => ?_, fun i hi h0 => ?_⟩
  · rw [e]
    refine ⟨h.ci.fine, h.ci.num, h.ci.nn, h.ci.nb, fun i hi => ?_, fun ph r hp => ?_⟩
    · obtain ⟨e1, e2, e3, e4, e5, e6⟩ := E i
      have a := h.ci.nds i hi
      refine ⟨by rw [e3]; exact a.ep, by rw [e5, e3]; exact a.sw, by rw [e3, e4, e2, e6]; exact a.at1, by rw [e3, e4, e5, e1, e2, e6]; exact a.one, by rw [e3, e4, e5, e1, e6]; exact a.two⟩
    · obtain ⟨a, b, c⟩ := h.ci.ph ph r hp
      refine ⟨a, ?_, c⟩
      cases ph
      · exact b
      · refine ⟨b.1, b.2.1, fun i hi f => ?_⟩
        obtain ⟨e1, e2, e3, e4, e5, e6⟩ := E i
        rw [e3, e4]
        exact b.2.2 i hi f
      · refine ⟨b.1, b.2.1, fun i hi f => ?_⟩
        obtain ⟨e1, e2, e3, e4, e5, e6⟩ := E i
        rw [e1, e3, e4]
        exact b.2.2 i hi f
      · exact b
  · show LetI n p.job p.ver p.bk (ndF _) m
    rw [e]
    rcases h.lt m hm with a | ⟨a, b, c, d⟩
    · exact Or.inl a
    · refine Or.inr ⟨a, b, c, ?_⟩
      obtain ⟨e1, e2, e3, e4, e5, e6⟩ := E m.fr.toNat
      refine ⟨d.kd, d.id, d.ep, d.td, d.fe, ?_, ?_⟩
      · rw [e3, e4]; exact d.sw
      · rw [e1, e3, e4]; exact d.ba
  · have q := h.at_ i hi h0
    have e9 : (ndF { p with nd := p.nd.set k x } i) = upf (ndF p) k x i := by rw [e]
    obtain ⟨e1, e2, e3, e4, e5, e6⟩ := E i
    show (ndF { p with nd := p.nd.set k x } i).cur = _ ∧ _
    rw [e9, e1, e3, e4]
    exact q
/-- deliver, of any letter -/
theorem deliver_any {N : Nat} {w : World} {B C : Nat} {S : Nat → Prop} {nv lv fv bv av : Value} {p : Pl} (h : PlX N w B C S nv lv fv bv av p) {n : Nat} (hi : PI n p) (hlt : p.lt.length ≤ 1000000000) (k : Nat) (hk : k < p.lt.length) :
    Calls Try.prog 43 #[.pointer (some ⟨B, 0, none⟩), .int .i64 (k : Int)] w fun e w' => e = .returned (.bool true) ∧ StepQ N w w' B n p := by
  have fin : ∀ {e : Ending} {w' : World}, (e = .returned (.bool true) ∧ ∃ S' lv' p2, PlX N w' B C S' nv lv' fv bv av p2 ∧ PI n p2 ∧ Below N w w' ∧ p2.job = p.job ∧ p2.lt.length ≤ p.lt.length + 16) → e = .returned (.bool true) ∧ StepQ N w w' B n p := fun ⟨a, S', lv', p2, b, c, d, f, g⟩ => ⟨a, p2, b.at, c, d, by omega, g⟩
  by_cases ht : p.lt[k].td = 64
  · cases hp : p.c.ph with
    | none => exact (deliver_idle h hi hlt k hk ht hp).mono fun _ _ q => fin q
    | some x =>
      have hph : p.c.ph ≠ none := by rw [hp]; simp
      by_cases cc : p.lt[k].code = 0
      · by_cases ce : p.lt[k].ep = p.job
        · have kd : p.lt[k].kind = 4 ∨ p.lt[k].kind = 6 ∨ p.lt[k].kind = 8 := by
            rcases hi.lt _ (List.getElem_mem hk) with ⟨a, _⟩ | ⟨_, _, _, a⟩
            · exact absurd ht a
            · exact a.kd
          rcases kd with ck | ck | ck
          · exact (deliver_d h hi hlt k hk ht hph cc ce ck).mono fun _ _ q => fin q
          · exact (deliver_c h hi hlt k hk ht hph cc ce ck).mono fun _ _ q => fin q
          · exact (deliver_e h hi hlt k hk ht hph cc ce ck).mono fun _ _ q => fin q
        · exact (deliver_b h hi hlt k hk ht hph cc ce).mono fun _ _ q => fin q
      · exact (deliver_a h hi hlt k hk ht hph cc).mono fun _ _ q => fin q
  · exact (deliver_node h hi hlt k hk ht).mono fun _ _ ⟨a, lv', p2, b, c, d, f, g⟩ => ⟨a, p2, b.at, c, d, by omega, by omega⟩
theorem Tick_c {w : World} {S : Nat → Prop} {C : Nat} {c : Ct} (h : CtAt w S C c) (hf : c.fine) :
    Calls Try.prog 19 #[.pointer (some ⟨C, 0, none⟩)] w fun e w' => ∃ lv, e = .returned (.tuple #[lv, .int .i64 0]) ∧ Did w w' S C (tickC c) lv (tickL c) := by
  unfold tickC tickL
  cases hp : c.ph with
  | none =>
    refine Calls.mono (Tick_idle h hf.n1 hp) ?_
    rintro e w' ⟨rfl, hb⟩
    exact ⟨_, rfl, Did.pre (Kp.of_below hb S) (Did.nil (h.below hb))⟩
  | some x =>
    refine Calls.mono (Tick_busy h hf.ok hp) ?_
    rintro e w' ⟨lv, rfl, di⟩
    exact ⟨lv, rfl, di⟩
theorem Stop_c {w : World} {S : Nat → Prop} {C : Nat} {c : Ct} (h : CtAt w S C c) (hf : c.fine) {x : Ph × Rd} (hp : c.ph = some x) :
    Calls Try.prog 21 #[.pointer (some ⟨C, 0, none⟩)] w fun e w' => ∃ lv, e = .returned (.tuple #[lv, .int .i64 0]) ∧ Did w w' S C (stopC c) lv (stopL c) := by
  unfold stopC stopL
  rw [hp]
  exact Stop_busy h hf.ok hp
theorem Revive_c {w : World} {S : Nat → Prop} {C : Nat} {c : Ct} (h : CtAt w S C c) (hf : c.fine) {x : Ph × Rd} (hp : c.ph = some x) :
    Calls Try.prog 22 #[.pointer (some ⟨C, 0, none⟩)] w fun e w' => ∃ lv, e = .returned (.tuple #[lv, .int .i64 0]) ∧ Did w w' S C (revC c) lv (revL c) := by
  unfold revC revL
  rw [hp]
  exact Revive_busy h hf.ok hp
end Go.Proofs.Ytpleakkhbfhdkaa.Cn
