import Derived.Test.YtbmhllcbkeblfaaEwAct3
namespace Go.Proofs.Ytbmhllcbkeblfaa.Cn
open Go.RowKit
theorem neg_tmod5 {b : Int} (hb : 0 < b) (a : Int) : -b < a.tmod b := by
  have h := Int.tmod_lt_of_pos (-a) hb
  rw [Int.neg_tmod] at h
  omega
set_option maxHeartbeats 16000000 in
set_option maxRecDepth 100000 in
set_option linter.unusedSimpArgs false in
set_option linter.unusedVariables false in
theorem act_5 {N : Nat} {w : World} {T X : Nat} {v : Ex} {Z : Zz} {t : Tk} {ov mv : Value} (h : St N w w T X v Z t ov mv) {ao : Option Addr} {b o cap : Nat} {pv : Nat → Value} {tb : List (List Pr)} (tbl : TbAt N w ao b o pv tb) {ver : Int} {R n : Nat} (j : Tj tb ver R n v t.old t.ms) (st : ByteArray) (x : Nat → Int) (nv : Value) (a0 : ActP) (hq : t.q = askM v) (hlf : t.lf = (v.left : Int)) (hR : x 0 = (R : Int)) (hgw : x 17 = v.gw) (h0 : v.at_ = v.now) {KS : Nat} (hKS : v.gw + 1 ≤ (KS : Int)) (hn : n ≤ 10000000000) (hol : t.old.length ≤ 1000000) (hsz : ∀ m, m ∈ t.old ∨ m = rightM tb (askM v) → m.key.size ≤ 281474976710656 ∧ m.val.size ≤ 281474976710656) (hw : a0.wt = 5) :
    Calls Try.prog 19 #[.pointer (some ⟨T, 0, none⟩), .agg (clA st x nv), .slice ao tb.length cap, .agg (actA a0)] w fun e w' => e = .returned (.bool true) ∧ AcR N w w' T X t v tb ver R (n + KS) := by
  obtain ⟨B, hB⟩ : ∃ B, B = w.heap.size := ⟨_, rfl⟩
  obtain ⟨q, hqq⟩ : ∃ q, q = askM v := ⟨_, rfl⟩
  obtain ⟨m, hm⟩ : ∃ m, m = rightM tb q := ⟨_, rfl⟩
  obtain ⟨W0, hW0⟩ : ∃ W0, W0 = w.alloc (.cells (clA st x nv) 24) := ⟨_, rfl⟩
  obtain ⟨W1, hW1⟩ : ∃ W1, W1 = W0.alloc (.cells (actA a0) 61) := ⟨_, rfl⟩
  obtain ⟨W2, hW2⟩ : ∃ W2, W2 = W1.alloc (.cells (mgV q) 36) := ⟨_, rfl⟩
  obtain ⟨W3, hW3⟩ : ∃ W3, W3 = W2.setCell ⟨T, 12, none⟩ (.bool false) := ⟨_, rfl⟩
  have z0 : W0.heap.size = B + 1 := by rw [hW0, hB]; simp
  have z1 : W1.heap.size = B + 2 := by rw [hW1]; simp [z0]
  have z2 : W2.heap.size = B + 3 := by rw [hW2]; simp [z1]
  have k0 : Kp w W0 non := by rw [hW0]; exact (Kp.refl w non).alloc _
  have k1 : Kp W0 W1 non := by rw [hW1]; exact (Kp.refl W0 non).alloc _
  have k2 : Kp W1 W2 non := by rw [hW2]; exact (Kp.refl W1 non).alloc _
  have k3 : Kp W2 W3 (fun k => k = T) := by rw [hW3]; exact (Kp.refl W2 (fun k => k = T)).set (Or.inl rfl) _ _
  have s1 := (h.same k0).same k1
  have s2 := s1.same k2
  have tlt : T < B := by rw [hB]; exact blk_lt h.bo.tk.blk
  have olt : ∀ k, ov.ownBlock = some k → k < B := fun k e => by rw [hB]; exact own_lt h.bo.tk.ov e
  have cl2 : ClAt W2 B st x nv := by
    have c : ClAt W0 B st x nv := by rw [hW0, hB]; exact new_cl _ _ _ _
    unfold ClAt at c ⊢
    exact k2.blk0 (k1.blk0 c)
  have ac2 : W2.heap[B + 1]? = some (.cells (actA a0) 61) := by
    have c : W1.heap[B + 1]? = some (.cells (actA a0) 61) := by rw [hW1, ← z0]; exact heap_last _ _
    exact k2.blk0 c
  have q2 : MgAt W2 (B + 2) q := by rw [hW2, ← z1]; exact MgAt.new W1 q
  have b3 : W3.heap[T]? = some (.cells (tkA X { t with op := false } ov mv) 57) := by rw [hW3]; exact set_row s2.bo.tk.blk 12 _
  have s3 := s2.talk k3 (s2.bo.tk.setT k3 b3 rfl rfl)
  have nb : ∀ k, B ≤ k → k ≠ T := fun k e z => by omega
  have cl3 : ClAt W3 B st x nv := by
    have c := cl2
    unfold ClAt at c ⊢
    exact (k3.block _ (blk_lt c) (nb _ (Nat.le_refl _))).trans c
  have ac3 : W3.heap[B + 1]? = some (.cells (actA a0) 61) := (k3.block _ (blk_lt ac2) (nb _ (by omega))).trans ac2
  have q3 : MgAt W3 (B + 2) q := by
    have c := q2
    unfold MgAt at c ⊢
    exact (k3.block _ (blk_lt c) (nb _ (by omega))).trans c
  have z3 : B + 3 ≤ W3.heap.size := by rw [← z2]; exact k3.size
  have RG : Hid (W1.rangeAt T 1 (mgV q).toList) := by
    have hb := s1.bo.tk.blk
    intro i u hi
    have hl : i < 11 := by
      have := (List.getElem?_eq_some_iff.1 hi).1
      simpa [mgV] using this
    rw [cell_row hb]
    rw [hqq, ← hq] at hi
    match i, hl with
    | 0, _ | 1, _ | 2, _ | 3, _ | 4, _ | 5, _ | 6, _ | 7, _ | 8, _ | 9, _ | 10, _ => exact hi
  have jj := j.ok.job j.b
  have jp := jj.pt
  have p64 := j.ok.p1
  have j5 := jj.rl
  have hqs : 0 ≤ q.sq ∧ q.sq ≤ 1000000 := by rw [hqq]; show 0 ≤ (v.part : Int) ∧ (v.part : Int) ≤ _; omega
  have hqp : 0 ≤ q.prev ∧ q.prev ≤ 1000000 := by rw [hqq]; show 0 ≤ (v.rd.length : Int) ∧ (v.rd.length : Int) ≤ _; omega
  have RT := right_t (cap := cap) (tbl.below s3.bel) s3.le q hqs hqp
  rw [← hm] at RT
  have RT := hide RT
  have HS : Hid ((W1.alloc (.cells #[.int .i64 0, .int .i64 0, .int .i64 0, .int .i64 0, .int .i64 0, .int .i64 0, .int .i64 0, .int .i64 0, .int .i64 0, .string ⟨#[]⟩, .string ⟨#[]⟩] 36)).setRow (B + 2) (mgV q) = W2) := by
    rw [hW2, ← z1]
    exact World.setRow_alloc_new _ _ _ _
  have HL : Hid ((W1.alloc (.cells #[.int .i64 0, .int .i64 0, .int .i64 0, .int .i64 0, .int .i64 0, .int .i64 0, .int .i64 0, .int .i64 0, .int .i64 0, .string ⟨#[]⟩, .string ⟨#[]⟩] 36)).heap[B + 2]? = some (.cells #[.int .i64 0, .int .i64 0, .int .i64 0, .int .i64 0, .int .i64 0, .int .i64 0, .int .i64 0, .int .i64 0, .int .i64 0, .string ⟨#[]⟩, .string ⟨#[]⟩] 36)) := by
    rw [← z1]
    exact heap_last _ _
  have MI := hide mg_info
  have MO := hide (mg_one q)
  have MOm := hide (mg_one m)
  have HW0 := hide hW0
  have HW1 := hide hW1
  have HW3 := hide hW3
  have HB := hide hB
  have S3 := hide s3
  have C3 := hide (And.intro cl3 (And.intro ac3 q3))
  have Z3 := hide z3
  have c12 : W2.cell? ⟨T, 12, none⟩ = some (.bool t.op) := by rw [cell_row s2.bo.tk.blk]; rfl
  have f12 := fz_row s2.bo.tk.blk 12
  have CF := hide (And.intro c12 f12)
  have QQ := hide hqq
  have HM := hide hm
  have J := hide j
  have TL := hide tlt
  have OLT := hide olt
  have HY := hide (And.intro hlf (And.intro hR (And.intro hgw (And.intro h0 (And.intro hn (And.intro hol hsz))))))
  have KB : Hid (2 ≤ KS ∧ v.gw + 1 ≤ (KS : Int)) := ⟨by have := j.ok.gw; omega, hKS⟩
  have MQ : Hid (q.sq = (v.part : Int)) := by rw [hqq]; exact rfl
  clear hKS h tbl hW0 hW1 hW2 hW3 z0 z2 z3 k0 k1 k2 k3 s1 s2 s3 tlt cl2 ac2 q2 b3 nb cl3 ac3 q3 hB hq j jj jp p64 j5 hqs hqp c12 f12 hqq hm hlf hR hgw h0 hn hol hsz olt
  go_enter Try.func19, Try.ntmps19
  go_upto_region 1 with fail
  rw [← HW0.out, show W0.alloc (.cells (actA a0) 61) = W1 from HW1.out.symm, ← HB.out]
  go_upto_region 2 with (first | refine wpList_load_mid rfl 36 (.tmp 21) rfl T 1 rfl (mgV q).toList _ RG.out Try.underlying36 rfl MI.out ?_ | (refine wpList_stR rfl 36 (.tmp 9) (.tmp 22) rfl (B + 2) rfl (mgV q) #[.int .i64 0, .int .i64 0, .int .i64 0, .int .i64 0, .int .i64 0, .int .i64 0, .int .i64 0, .int .i64 0, .int .i64 0, .string ⟨#[]⟩, .string ⟨#[]⟩] rfl _ HL.out MI.out rfl MO.out ?_; rw [HS.out]))
  obtain ⟨c12, f12⟩ := CF.out
  go_upto_region 3 with fail
  rw [← HW3.out]
  clear c12 f12 RG HS HL CF
  go_wp2_with (refine wpList_ldM rfl (.tmp 9) rfl q (B + 2) rfl C3.out.2.2 ?_)
  refine Calls.mono RT.out ?_
  rintro e W4 ⟨rfl, k4⟩
  obtain ⟨M, hMM⟩ : ∃ M, M = W4.heap.size := ⟨_, rfl⟩
  obtain ⟨W5, hW5⟩ : ∃ W5, W5 = W4.alloc (.cells (mgV m) 36) := ⟨_, rfl⟩
  have k5 : Kp W4 W5 non := by rw [hW5]; exact (Kp.refl W4 non).alloc _
  have k35 : Kp W3 W5 non := k4.trans k5 (fun _ f => f.elim)
  have ST5 := hide (S3.out.same k35)
  have MB : Hid (B + 3 ≤ M) := by rw [hMM]; exact Nat.le_trans Z3.out k4.size
  have PF5 : Hid (Pf W5 B M st x nv (actA a0) q m ov) := by
    have c := C3.out.1
    unfold ClAt at c
    have d := C3.out.2.2
    unfold MgAt at d
    refine ⟨k35.blk0 c, k35.blk0 C3.out.2.1, k35.blk0 d, by rw [hW5, hMM]; exact MgAt.new W4 m, fun e => ?_, fun e => ?_, by have := MB.out; omega⟩
    · have := OLT.out _ e
      omega
    · have := OLT.out _ e
      have := MB.out
      omega
  have HS5 : Hid ((W4.alloc (.cells #[.int .i64 0, .int .i64 0, .int .i64 0, .int .i64 0, .int .i64 0, .int .i64 0, .int .i64 0, .int .i64 0, .int .i64 0, .string ⟨#[]⟩, .string ⟨#[]⟩] 36)).setRow M (mgV m) = W5) := by
    rw [hW5, hMM]
    exact World.setRow_alloc_new _ _ _ _
  have HL5 : Hid ((W4.alloc (.cells #[.int .i64 0, .int .i64 0, .int .i64 0, .int .i64 0, .int .i64 0, .int .i64 0, .int .i64 0, .int .i64 0, .int .i64 0, .string ⟨#[]⟩, .string ⟨#[]⟩] 36)).heap[M]? = some (.cells #[.int .i64 0, .int .i64 0, .int .i64 0, .int .i64 0, .int .i64 0, .int .i64 0, .int .i64 0, .int .i64 0, .int .i64 0, .string ⟨#[]⟩, .string ⟨#[]⟩] 36)) := by
    rw [hMM]
    exact heap_last _ _
  have HMM := hide hMM
  have MN : Hid (N ≤ M ∧ B + 2 < M) := ⟨by rw [hMM]; exact Nat.le_trans S3.out.le k4.size, by have := MB.out; omega⟩
  clear k4 k5 k35 hW5 hMM S3 C3 Z3 RT TL OLT MB
  go_upto_region 4 with (refine wpList_stR rfl 36 (.tmp 10) (.tmp 28) rfl M (by rw [HMM.out]; rfl) (mgV m) #[.int .i64 0, .int .i64 0, .int .i64 0, .int .i64 0, .int .i64 0, .int .i64 0, .int .i64 0, .int .i64 0, .int .i64 0, .string ⟨#[]⟩, .string ⟨#[]⟩] rfl _ HL5.out MI.out rfl MOm.out ?_; rw [HS5.out])
  rw [← HMM.out]
  have c0 : W5.cell? ⟨B + 1, 0, none⟩ = some (.int .i64 5) := by rw [← hw]; exact (act_c PF5.out.ac).1
  have G1 : 1 ≤ v.gw ∧ v.gw ≤ 1000000000 := J.out.ok.gw
  obtain ⟨gw, hgw⟩ : ∃ gw, gw = v.gw := ⟨_, rfl⟩
  rw [← hgw] at G1
  have gpos : (0 : Int) < gw := by omega
  obtain ⟨od, hod⟩ : ∃ od, od = a0.tk := ⟨_, rfl⟩
  obtain ⟨r1, hr1⟩ : ∃ r1, r1 = od.tmod gw := ⟨_, rfl⟩
  have b1 : r1 < gw := by rw [hr1]; exact Int.tmod_lt_of_pos _ gpos
  have b2 : -gw < r1 := by rw [hr1]; exact neg_tmod5 gpos _
  obtain ⟨j, hj⟩ : ∃ j : Nat, (r1 + gw).tmod gw = (j : Int) := ⟨((r1 + gw).tmod gw).toNat, by
    have := Int.tmod_nonneg gw (show 0 ≤ r1 + gw by omega)
    omega⟩
  have jl : (j : Int) < gw := by have := Int.tmod_lt_of_pos (r1 + gw) gpos; omega
  have w1 : IntKind.i64.wrap r1 = r1 := i64_in (by omega) (by omega)
  have w2 : IntKind.i64.wrap (r1 + gw) = r1 + gw := i64_in (by omega) (by omega)
  have w3 : IntKind.i64.wrap ((j : Nat) : Int) = (j : Int) := i64_in (by omega) (by omega)
  have WW := hide (And.intro w1 (And.intro w2 w3))
  have HR := hide (And.intro hr1.symm hj)
  have HOD := hide hod
  have SD := hide (ST5.out.same ((Kp.refl W5 non).drew))
  have PD := hide (PF5.out.kp ST5.out.bo ((Kp.refl W5 non).drew) (fun _ f => f.elim))
  have TW := hide (ticks_wait SD.out.bo J.out HY.out.2.2.2.1 j (by rw [← hgw]; exact jl) (by have := HY.out.2.2.2.2.1; omega))
  have jb : (j : Int) < v.gw := by rw [← hgw]; exact jl
  have JB := hide jb
  clear jb
  have J2 := hide (nowN_tj J.out HY.out.2.2.2.1 j (by rw [← hgw]; exact jl))
  have HGW := hide hgw
  have GP := hide G1
  clear hgw hr1 hj b1 b2 jl w1 w2 w3 hod G1
  go_upto_region 19 with fail
  clear c0
  have GWC0 : ∀ Y : World, ClAt Y B st x nv → Y.cell? ⟨B, 18, none⟩ = some (.int .i64 gw) := fun Y hY => by rw [HGW.out, ← HY.out.2.2.1]; exact hY.x 17 (by omega)
  have TKC0 : ∀ Y : World, Y.heap[B + 1]? = some (.cells (actA a0) 61) → Y.cell? ⟨B + 1, 1, none⟩ = some (.int .i64 od) := fun Y hY => by rw [HOD.out]; exact (act_c hY).2.1
  have GWC := hide GWC0
  clear GWC0
  have TKC := hide TKC0
  clear TKC0
  refine wp_region_held_drew (S := fun Y => ClAt Y B st x nv ∧ Y.heap[B + 1]? = some (.cells (actA a0) 61)) (by kernel_rfl) ⟨PF5.out.cl, PF5.out.ac⟩ (fun hHeld => ?_)
  refine wpAnyH_take (i := 0) (v := (.pointer (some ⟨T, 0, none⟩))) rfl (by kernel_rfl) (by kernel_rfl) (by kernel_rfl) (fun _ _ _ h => h) (Or.inl ⟨by kernel_rfl, ?_⟩) (by assumption) ?_
  · intro w' hSw
    (try dsimp only at hSw)
    go_simp
  (try simp only [Act.put, List.getElem_toArray, List.getElem_cons_zero, List.getElem_cons_succ, List.setIfInBounds_toArray, List.set_cons_zero, List.set_cons_succ])
  refine wpAnyH_take (i := 1) (v := (.pointer (some ⟨B + 1, 1, none⟩))) rfl (by kernel_rfl) (by kernel_rfl) (by kernel_rfl) (fun _ _ _ h => h) (Or.inl ⟨by kernel_rfl, ?_⟩) (by assumption) ?_
  · intro w' hSw
    (try dsimp only at hSw)
    go_simp
  (try simp only [Act.put, List.getElem_toArray, List.getElem_cons_zero, List.getElem_cons_succ, List.setIfInBounds_toArray, List.set_cons_zero, List.set_cons_succ])
  refine wpAnyH_take (i := 2) (v := (.int .i64 od)) rfl (by kernel_rfl) (by kernel_rfl) (by kernel_rfl) (fun _ _ _ h => h) (Or.inl ⟨by kernel_rfl, ?_⟩) (by assumption) ?_
  · intro w' hSw
    (try dsimp only at hSw)
    (have z := TKC.out _ hSw.2; go_simp)
  (try simp only [Act.put, List.getElem_toArray, List.getElem_cons_zero, List.getElem_cons_succ, List.setIfInBounds_toArray, List.set_cons_zero, List.set_cons_succ])
  refine wpAnyH_take (i := 3) (v := (.pointer (some ⟨B, 18, none⟩))) rfl (by kernel_rfl) (by kernel_rfl) (by kernel_rfl) (fun _ _ _ h => h) (Or.inl ⟨by kernel_rfl, ?_⟩) (by assumption) ?_
  · intro w' hSw
    (try dsimp only at hSw)
    go_simp
  (try simp only [Act.put, List.getElem_toArray, List.getElem_cons_zero, List.getElem_cons_succ, List.setIfInBounds_toArray, List.set_cons_zero, List.set_cons_succ])
  refine wpAnyH_take (i := 4) (v := (.int .i64 gw)) rfl (by kernel_rfl) (by kernel_rfl) (by kernel_rfl) (fun _ _ _ h => h) (Or.inl ⟨by kernel_rfl, ?_⟩) (by assumption) ?_
  · intro w' hSw
    (try dsimp only at hSw)
    (have z := GWC.out _ hSw.1; go_simp)
  (try simp only [Act.put, List.getElem_toArray, List.getElem_cons_zero, List.getElem_cons_succ, List.setIfInBounds_toArray, List.set_cons_zero, List.set_cons_succ])
  refine wpAnyH_take (i := 5) (v := (.int .i64 r1)) rfl (by kernel_rfl) (by kernel_rfl) (by kernel_rfl) (fun _ _ _ h => h) (Or.inl ⟨by kernel_rfl, ?_⟩) (by assumption) ?_
  · intro w' hSw
    (try dsimp only at hSw)
    (have y0 : ¬ gw = 0 := (by omega); have y1 := HR.out.1; have y2 := WW.out.1; go_simp)
  (try simp only [Act.put, List.getElem_toArray, List.getElem_cons_zero, List.getElem_cons_succ, List.setIfInBounds_toArray, List.set_cons_zero, List.set_cons_succ])
  refine wpAnyH_take (i := 6) (v := (.pointer (some ⟨B, 18, none⟩))) rfl (by kernel_rfl) (by kernel_rfl) (by kernel_rfl) (fun _ _ _ h => h) (Or.inl ⟨by kernel_rfl, ?_⟩) (by assumption) ?_
  · intro w' hSw
    (try dsimp only at hSw)
    go_simp
  (try simp only [Act.put, List.getElem_toArray, List.getElem_cons_zero, List.getElem_cons_succ, List.setIfInBounds_toArray, List.set_cons_zero, List.set_cons_succ])
  refine wpAnyH_take (i := 7) (v := (.int .i64 gw)) rfl (by kernel_rfl) (by kernel_rfl) (by kernel_rfl) (fun _ _ _ h => h) (Or.inl ⟨by kernel_rfl, ?_⟩) (by assumption) ?_
  · intro w' hSw
    (try dsimp only at hSw)
    (have z := GWC.out _ hSw.1; go_simp)
  (try simp only [Act.put, List.getElem_toArray, List.getElem_cons_zero, List.getElem_cons_succ, List.setIfInBounds_toArray, List.set_cons_zero, List.set_cons_succ])
  refine wpAnyH_take (i := 8) (v := (.int .i64 (r1 + gw))) rfl (by kernel_rfl) (by kernel_rfl) (by kernel_rfl) (fun _ _ _ h => h) (Or.inl ⟨by kernel_rfl, ?_⟩) (by assumption) ?_
  · intro w' hSw
    (try dsimp only at hSw)
    (have y2 := WW.out.2.1; go_simp)
  (try simp only [Act.put, List.getElem_toArray, List.getElem_cons_zero, List.getElem_cons_succ, List.setIfInBounds_toArray, List.set_cons_zero, List.set_cons_succ])
  refine wpAnyH_take (i := 9) (v := (.pointer (some ⟨B, 18, none⟩))) rfl (by kernel_rfl) (by kernel_rfl) (by kernel_rfl) (fun _ _ _ h => h) (Or.inl ⟨by kernel_rfl, ?_⟩) (by assumption) ?_
  · intro w' hSw
    (try dsimp only at hSw)
    go_simp
  (try simp only [Act.put, List.getElem_toArray, List.getElem_cons_zero, List.getElem_cons_succ, List.setIfInBounds_toArray, List.set_cons_zero, List.set_cons_succ])
  refine wpAnyH_take (i := 10) (v := (.int .i64 gw)) rfl (by kernel_rfl) (by kernel_rfl) (by kernel_rfl) (fun _ _ _ h => h) (Or.inl ⟨by kernel_rfl, ?_⟩) (by assumption) ?_
  · intro w' hSw
    (try dsimp only at hSw)
    (have z := GWC.out _ hSw.1; go_simp)
  (try simp only [Act.put, List.getElem_toArray, List.getElem_cons_zero, List.getElem_cons_succ, List.setIfInBounds_toArray, List.set_cons_zero, List.set_cons_succ])
  refine wpAnyH_take (i := 11) (v := (.int .i64 (j : Int))) rfl (by kernel_rfl) (by kernel_rfl) (by kernel_rfl) (fun _ _ _ h => h) (Or.inl ⟨by kernel_rfl, ?_⟩) (by assumption) ?_
  · intro w' hSw
    (try dsimp only at hSw)
    (have y0 : ¬ gw = 0 := (by omega); have y1 := HR.out.2; have y2 := WW.out.2.2; go_simp)
  (try simp only [Act.put, List.getElem_toArray, List.getElem_cons_zero, List.getElem_cons_succ, List.setIfInBounds_toArray, List.set_cons_zero, List.set_cons_succ])
  refine wpAnyH_ready (rs := [12]) (by kernel_rfl) (by simp) ?_
  refine AllReadyH.cons rfl (fun K hK => ?_) AllReadyH.nil
  go_simp
  refine Calls.mono TW.out ?_
  rintro e W6 ⟨rfl, Z6, b6, k6, g6⟩
  have S6 := hide (SD.out.tick b6 k6 g6)
  have P6 := hide (PD.out.kp SD.out.bo k6 (fun _ e => by rcases e with e | e; exact Or.inl e; exact Or.inr (Or.inl e)))
  clear b6 k6 g6 TW SD PD
  refine hK.out _ _ (⟨P6.out.cl, P6.out.ac⟩) (fun hHeld => ?_)
  clear hK
  (try simp only [Act.put, List.setIfInBounds_toArray, List.set_cons_zero, List.set_cons_succ])
  refine wpAnyH_ready (rs := [13]) (by kernel_rfl) (by simp) ?_
  refine AllReadyH.cons rfl (fun K hK => ?_) AllReadyH.nil
  go_simp
  refine hK.out _ _ (⟨P6.out.cl, P6.out.ac⟩) (fun hHeld => ?_)
  clear hK
  (try simp only [Act.put, List.setIfInBounds_toArray, List.set_cons_zero, List.set_cons_succ])
  refine wpAnyH_done (by kernel_rfl) ?_ _
  clear hHeld GWC TKC HR WW HOD HGW GP gpos
  go_upto_region 21 with fail
  obtain ⟨Wt, hWt⟩ : ∃ Wt, Wt = W6 := ⟨_, rfl⟩
  obtain ⟨v1, hv1⟩ : ∃ v1, v1 = nowN v j := ⟨_, rfl⟩
  obtain ⟨n1, hn1⟩ : ∃ n1, n1 = n + j := ⟨_, rfl⟩
  have J1 : Hid (Tj tb ver R n1 v1 t.old t.ms) := by rw [hv1, hn1]; exact J2.out
  have A1 : Hid (askM v1 = q) := by rw [hv1]; exact QQ.out.symm
  have V1 : Hid (v1.part = v.part ∧ v1.left = v.left ∧ stp R v1 = stp R v ∧ v1.rows = v.rows ∧ v1.gw = v.gw ∧ askM v1 = askM v) := by rw [hv1]; exact ⟨rfl, rfl, rfl, rfl, rfl, rfl⟩
  have N1 : Hid (n1 + 1 ≤ n + KS) := by rw [hn1]; show _ ≤ _; have := JB.out; have := KB.out; omega
  have ST := S6
  have PT := P6
  rw [← hWt] at ST PT ⊢
  rw [← hv1] at ST
  clear hWt hv1 hn1 J2 JB
  have NU := hide fun w n => num21 w n
  have cm : Wt.cell? ⟨M, 8, none⟩ = some (.int .i64 m.code) := PT.out.m.cells.2.2.2.2.2.2.2.2.1
  have HMA : Hid (m = rightM tb (askM v1)) := by rw [A1.out]; exact HM.out
  have FR0 := fin_right J1.out
  rw [← HMA.out] at FR0
  have FR := hide FR0
  have RC := (goes_right J1.out).2
  rw [← HMA.out] at RC
  have SZ := hide (HY.out.2.2.2.2.2.2 m (Or.inr (by rw [HM.out, QQ.out])))
  have OL : Hid (t.old.length ≤ 1000000) := HY.out.2.2.2.2.2.1
  clear FR0
  by_cases hc : m.code = 16
  · have hcb : (m.code == 16) = true := by simp [hc]
    have c15 : Wt.cell? ⟨T, 15, none⟩ = some (.int .i64 t.lf) := by rw [cell_row ST.out.bo.tk.blk]; rfl
    have f15 := fz_row ST.out.bo.tk.blk 15
    obtain ⟨ta, hta⟩ : ∃ ta : Tk, ta = { t with op := false, lf := 0 } := ⟨_, rfl⟩
    obtain ⟨Wa, hWa⟩ : ∃ Wa, Wa = Wt.setCell ⟨T, 15, none⟩ (.int .i64 0) := ⟨_, rfl⟩
    have ka : Kp Wt Wa (fun k => k = T) := by rw [hWa]; exact (Kp.refl Wt (fun k => k = T)).set (Or.inl rfl) _ _
    have ba : Wa.heap[T]? = some (.cells (tkA X ta ov mv) 57) := by rw [hWa, hta]; exact set_row ST.out.bo.tk.blk 15 _
    have SA := hide (ST.out.talk ka (ST.out.bo.tk.setT ka ba (by rw [hta]) (by rw [hta])))
    have PA := hide (PT.out.kp ST.out.bo ka (fun _ e => Or.inr (Or.inl e)))
    have HTA : Hid (ta.old = t.old ∧ ta.ms = t.ms ∧ ta.pt = t.pt ∧ ta.st = t.st ∧ ta.op = false ∧ ta.lf = ((if m.code = 16 then 0 else v1.left : Nat) : Int)) := by rw [hta, if_pos hc]; exact ⟨rfl, rfl, rfl, rfl, rfl, rfl⟩
    have HWa := hide hWa
    clear ka ba hWa hta RC
    go_upto_region 23 with (go_at_call 6; refine Calls.mono (NU.out _ _) ?_; rintro e w' ⟨rfl, rfl⟩)
    rw [← HWa.out]
    clear cm hcb c15 f15 HWa hc
    refine wp_region_held_drew (S := fun Y => MgAt Y M m) (by kernel_rfl) PA.out.m (fun hHeld => ?_)
    refine wpAnyH_take (i := 0) (v := (.pointer (some ⟨T, 0, none⟩))) rfl (by kernel_rfl) (by kernel_rfl) (by kernel_rfl) (fun _ _ _ h => h) (Or.inl ⟨by kernel_rfl, ?_⟩) (by assumption) ?_
    · intro w' hSw
      (try dsimp only at hSw)
      go_simp
    (try simp only [Act.put, List.getElem_toArray, List.getElem_cons_zero, List.getElem_cons_succ, List.setIfInBounds_toArray, List.set_cons_zero, List.set_cons_succ])
    refine wpAnyH_take (i := 1) (v := (.pointer (some ⟨T, 0, none⟩))) rfl (by kernel_rfl) (by kernel_rfl) (by kernel_rfl) (fun _ _ _ h => h) (Or.inl ⟨by kernel_rfl, ?_⟩) (by assumption) ?_
    · intro w' hSw
      (try dsimp only at hSw)
      go_simp
    (try simp only [Act.put, List.getElem_toArray, List.getElem_cons_zero, List.getElem_cons_succ, List.setIfInBounds_toArray, List.set_cons_zero, List.set_cons_succ])
    refine wpAnyH_take (i := 2) (v := (.pointer (some ⟨T, 0, none⟩))) rfl (by kernel_rfl) (by kernel_rfl) (by kernel_rfl) (fun _ _ _ h => h) (Or.inl ⟨by kernel_rfl, ?_⟩) (by assumption) ?_
    · intro w' hSw
      (try dsimp only at hSw)
      go_simp
    (try simp only [Act.put, List.getElem_toArray, List.getElem_cons_zero, List.getElem_cons_succ, List.setIfInBounds_toArray, List.set_cons_zero, List.set_cons_succ])
    refine wpAnyH_take (i := 3) (v := (.pointer (some ⟨T, 13, none⟩))) rfl (by kernel_rfl) (by kernel_rfl) (by kernel_rfl) (fun _ _ _ h => h) (Or.inl ⟨by kernel_rfl, ?_⟩) (by assumption) ?_
    · intro w' hSw
      (try dsimp only at hSw)
      go_simp
    (try simp only [Act.put, List.getElem_toArray, List.getElem_cons_zero, List.getElem_cons_succ, List.setIfInBounds_toArray, List.set_cons_zero, List.set_cons_succ])
    refine wpAnyH_take (i := 5) (v := (.agg (mgV m))) rfl (by kernel_rfl) (by kernel_rfl) (by kernel_rfl) (fun _ _ _ h => h) (Or.inl ⟨by kernel_rfl, ?_⟩) (by assumption) ?_
    · intro w' hSw
      (try dsimp only at hSw)
      (exact exec_ldMg (.tmp 10) rfl rfl hSw)
    (try simp only [Act.put, List.getElem_toArray, List.getElem_cons_zero, List.getElem_cons_succ, List.setIfInBounds_toArray, List.set_cons_zero, List.set_cons_succ])
    have SAd := hide (SA.out.same ((Kp.refl Wa non).drew))
    have PAd := hide (PA.out.kp SA.out.bo ((Kp.refl Wa non).drew) (fun _ f => f.elim))
    obtain ⟨GB, hGB⟩ : ∃ GB, GB = Wa.drew.heap.size := ⟨_, rfl⟩
    obtain ⟨Wb, hWb⟩ : ∃ Wb, Wb = Wa.drew.alloc (.cells (mgV m) 36) := ⟨_, rfl⟩
    have kb : Kp Wa.drew Wb non := by rw [hWb]; exact (Kp.refl Wa.drew non).alloc _
    have GA : Hid (Wb.heap[GB]? = some (.cells (mgV m) 36)) := by rw [hWb, hGB]; exact heap_last _ _
    have SB := hide (SAd.out.same kb)
    have PB := hide (PAd.out.kp SAd.out.bo kb (fun _ f => f.elim))
    have OB : Hid (Wb.ownsRow N 36 11 ov ta.old.length (mgs ta.old)) := own_re SB.out.bo.tk.ov (fun k e => SB.out.ge k (Or.inr (Or.inr (Or.inl e))))
    have OLa : Hid (ta.old.length ≤ 1000000000000) := by rw [HTA.out.1]; show _ ≤ _; have := OL.out; omega
    have HGB := hide (And.intro hWb hGB)
    clear hWb hGB kb
    refine wpAnyH_ready (rs := [4, 6]) (by kernel_rfl) (by simp) ?_
    refine AllReadyH.cons rfl (fun K hK => ?_) (AllReadyH.cons rfl (fun K hK => ?_) AllReadyH.nil)
    · skip
      have cA : Wa.drew.cell? ⟨T, 13, none⟩ = some ov := (tk_c SAd.out.bo.tk.blk).2
      have cA2 : Wa.cell? ⟨T, 13, none⟩ = some ov := (tk_c SA.out.bo.tk.blk).2
      go_simp
      clear cA cA2
      refine hK.out _ _ (PAd.out.m) (fun hHeld => ?_)
      clear hK
      (try simp only [Act.put, List.setIfInBounds_toArray, List.set_cons_zero, List.set_cons_succ])
      refine wpAnyH_ready (rs := [6]) (by kernel_rfl) (by simp) ?_
      refine AllReadyH.cons rfl (fun K hK => ?_) AllReadyH.nil
      refine wp_bsM (.tmp 162) rfl m rfl ?_
      rw [← HGB.out.1, ← HGB.out.2]
      clear HGB
      refine hK.out _ _ (PB.out.m) (fun hHeld => ?_)
      clear hK
      (try simp only [Act.put, List.setIfInBounds_toArray, List.set_cons_zero, List.set_cons_succ])
      refine wpAnyH_ready (rs := [7]) (by kernel_rfl) (by simp) ?_
      refine AllReadyH.cons rfl (fun K hK => ?_) AllReadyH.nil
      refine ite_yes (by rfl) ?_
      refine wp_apM (.tmp 161) (.tmp 163) ?hBo11 N ov ta.old ?hBs11 OB.out GB m ?hBx11 GA.out OLa.out SB.out.le ?hBk11
      case hBo11 => rfl
      case hBs11 => kernel_rfl
      case hBx11 => kernel_rfl
      intro ov2 w4 o4 g4 n4
      obtain ⟨⟨f13, c13⟩, s4, p4⟩ := SB.out.olds PB.out o4 g4 n4
      have kg := Kp.of_grown g4
      have M4 : MgAt w4 M m := by
        have c := PB.out.m
        unfold MgAt at c ⊢
        exact (kg.block _ (blk_lt c) (fun e => PB.out.no.2.1 e.symm)).trans c
      have SC := hide s4
      have PC := hide p4
      have TM4 := hide M4
      obtain ⟨oa2, oc2, hov2⟩ := own_sl o4
      subst hov2
      obtain ⟨Wc, hWc⟩ : ∃ Wc, Wc = w4.setCell ⟨T, 13, none⟩ (.slice oa2 (ta.old.length + 1) oc2) := ⟨_, rfl⟩
      rw [← hWc] at SC PC
      have HWc := hide hWc
      clear o4 g4 n4 s4 p4 kg M4 hWc SAd PAd OB GA OLa
      refine hK.out _ _ (TM4.out) (fun hHeld => ?_)
      clear hK
      (try simp only [Act.put, List.setIfInBounds_toArray, List.set_cons_zero, List.set_cons_succ])
      refine wpAnyH_take (i := 8) (v := (.pointer (some ⟨T, 0, none⟩))) rfl (by kernel_rfl) (by kernel_rfl) (by kernel_rfl) (fun _ _ _ h => h) (Or.inl ⟨by kernel_rfl, ?_⟩) (by assumption) ?_
      · intro w' hSw
        (try dsimp only at hSw)
        go_simp
      (try simp only [Act.put, List.getElem_toArray, List.getElem_cons_zero, List.getElem_cons_succ, List.setIfInBounds_toArray, List.set_cons_zero, List.set_cons_succ])
      refine wpAnyH_take (i := 9) (v := (.pointer (some ⟨T, 13, none⟩))) rfl (by kernel_rfl) (by kernel_rfl) (by kernel_rfl) (fun _ _ _ h => h) (Or.inl ⟨by kernel_rfl, ?_⟩) (by assumption) ?_
      · intro w' hSw
        (try dsimp only at hSw)
        go_simp
      (try simp only [Act.put, List.getElem_toArray, List.getElem_cons_zero, List.getElem_cons_succ, List.setIfInBounds_toArray, List.set_cons_zero, List.set_cons_succ])
      refine wpAnyH_ready (rs := [10]) (by kernel_rfl) (by simp) ?_
      refine AllReadyH.cons rfl (fun K hK => ?_) AllReadyH.nil
      go_simp
      rw [← HWc.out]
      clear HWc f13 c13 TM4
      refine hK.out _ _ (PC.out.m) (fun hHeld => ?_)
      clear hK
      (try simp only [Act.put, List.setIfInBounds_toArray, List.set_cons_zero, List.set_cons_succ])
      refine wpAnyH_done (by kernel_rfl) ?_ _
      clear hHeld SA PA SB PB
      have LL : Hid ((takeL v1 m).length ≤ 1) := FR.out.len
      have SD := hide (SC.out.same ((Kp.refl Wc non).drew))
      have PD := hide (PC.out.kp SC.out.bo ((Kp.refl Wc non).drew) (fun _ f => f.elim))
      have TK := hide (Take_x SD.out.bo.ex J1.out.ok m SZ.out.1 SZ.out.2)
      go_upto_region 24 with fail
      refine wp_region_held_drew (S := fun Y => Y.heap[T]? = some (.cells (tkA X { ta with old := ta.old ++ [m] } (.slice oa2 (ta.old.length + 1) oc2) mv) 57) ∧ MgAt Y M m) (by kernel_rfl) ⟨SC.out.bo.tk.blk, PC.out.m⟩ (fun hHeld => ?_)
      refine wpAnyH_take (i := 0) (v := (.pointer (some ⟨T, 0, none⟩))) rfl (by kernel_rfl) (by kernel_rfl) (by kernel_rfl) (fun _ _ _ h => h) (Or.inl ⟨by kernel_rfl, ?_⟩) (by assumption) ?_
      · intro w' hSw
        (try dsimp only at hSw)
        go_simp
      (try simp only [Act.put, List.getElem_toArray, List.getElem_cons_zero, List.getElem_cons_succ, List.setIfInBounds_toArray, List.set_cons_zero, List.set_cons_succ])
      refine wpAnyH_take (i := 1) (v := (.pointer (some ⟨T, 0, none⟩))) rfl (by kernel_rfl) (by kernel_rfl) (by kernel_rfl) (fun _ _ _ h => h) (Or.inl ⟨by kernel_rfl, ?_⟩) (by assumption) ?_
      · intro w' hSw
        (try dsimp only at hSw)
        go_simp
      (try simp only [Act.put, List.getElem_toArray, List.getElem_cons_zero, List.getElem_cons_succ, List.setIfInBounds_toArray, List.set_cons_zero, List.set_cons_succ])
      refine wpAnyH_take (i := 2) (v := (.pointer (some ⟨T, 0, none⟩))) rfl (by kernel_rfl) (by kernel_rfl) (by kernel_rfl) (fun _ _ _ h => h) (Or.inl ⟨by kernel_rfl, ?_⟩) (by assumption) ?_
      · intro w' hSw
        (try dsimp only at hSw)
        go_simp
      (try simp only [Act.put, List.getElem_toArray, List.getElem_cons_zero, List.getElem_cons_succ, List.setIfInBounds_toArray, List.set_cons_zero, List.set_cons_succ])
      refine wpAnyH_take (i := 3) (v := (.pointer (some ⟨X, 0, none⟩))) rfl (by kernel_rfl) (by kernel_rfl) (by kernel_rfl) (fun _ _ _ h => h) (Or.inl ⟨by kernel_rfl, ?_⟩) (by assumption) ?_
      · intro w' hSw
        (try dsimp only at hSw)
        (have z := (tk_c hSw.1).1; go_simp)
      (try simp only [Act.put, List.getElem_toArray, List.getElem_cons_zero, List.getElem_cons_succ, List.setIfInBounds_toArray, List.set_cons_zero, List.set_cons_succ])
      refine wpAnyH_take (i := 4) (v := (.agg (mgV m))) rfl (by kernel_rfl) (by kernel_rfl) (by kernel_rfl) (fun _ _ _ h => h) (Or.inl ⟨by kernel_rfl, ?_⟩) (by assumption) ?_
      · intro w' hSw
        (try dsimp only at hSw)
        (exact exec_ldMg (.tmp 10) rfl rfl hSw.2)
      (try simp only [Act.put, List.getElem_toArray, List.getElem_cons_zero, List.getElem_cons_succ, List.setIfInBounds_toArray, List.set_cons_zero, List.set_cons_succ])
      refine wpAnyH_ready (rs := [5]) (by kernel_rfl) (by simp) ?_
      refine AllReadyH.cons rfl (fun K hK => ?_) AllReadyH.nil
      go_simp
      refine Calls.mono TK.out ?_
      rintro e We ⟨u, ZWe, rfl, o9, l9⟩
      have SE := hide (SD.out.lv l9)
      have PE := hide (PD.out.kp SD.out.bo l9.kp (fun _ e => Or.inl (Or.inl e)))
      obtain ⟨ln, hln⟩ : ∃ ln, ln = (takeL v1 m).length := ⟨_, rfl⟩
      obtain ⟨ua, uc, hu⟩ := own_sl o9
      rw [← hln] at hu
      subst hu
      have HE := hide (hear_t SE.out.bo.tk o9 LL.out)
      clear o9 l9 TK hln SD PD
      refine hK.out _ _ (⟨SE.out.bo.tk.blk, PE.out.m⟩) (fun hHeld => ?_)
      clear hK
      (try simp only [Act.put, List.setIfInBounds_toArray, List.set_cons_zero, List.set_cons_succ])
      refine wpAnyH_take (i := 6) (v := (.tuple #[.slice ua ln uc, .int .i64 0])) rfl (by kernel_rfl) (by kernel_rfl) (by kernel_rfl) (fun _ _ _ h => h) (Or.inl ⟨by kernel_rfl, ?_⟩) (by assumption) ?_
      · intro w' hSw
        (try dsimp only at hSw)
        go_simp
      (try simp only [Act.put, List.getElem_toArray, List.getElem_cons_zero, List.getElem_cons_succ, List.setIfInBounds_toArray, List.set_cons_zero, List.set_cons_succ])
      refine wpAnyH_take (i := 7) (v := (.slice ua ln uc)) rfl (by kernel_rfl) (by kernel_rfl) (by kernel_rfl) (fun _ _ _ h => h) (Or.inl ⟨by kernel_rfl, ?_⟩) (by assumption) ?_
      · intro w' hSw
        (try dsimp only at hSw)
        go_simp
      (try simp only [Act.put, List.getElem_toArray, List.getElem_cons_zero, List.getElem_cons_succ, List.setIfInBounds_toArray, List.set_cons_zero, List.set_cons_succ])
      refine wpAnyH_take (i := 8) (v := (.int .i64 0)) rfl (by kernel_rfl) (by kernel_rfl) (by kernel_rfl) (fun _ _ _ h => h) (Or.inl ⟨by kernel_rfl, ?_⟩) (by assumption) ?_
      · intro w' hSw
        (try dsimp only at hSw)
        go_simp
      (try simp only [Act.put, List.getElem_toArray, List.getElem_cons_zero, List.getElem_cons_succ, List.setIfInBounds_toArray, List.set_cons_zero, List.set_cons_succ])
      refine wpAnyH_ready (rs := [9]) (by kernel_rfl) (by simp) ?_
      refine AllReadyH.cons rfl (fun K hK => ?_) AllReadyH.nil
      go_simp
      refine hK.out _ _ (⟨SE.out.bo.tk.blk, PE.out.m⟩) (fun hHeld => ?_)
      clear hK
      (try simp only [Act.put, List.setIfInBounds_toArray, List.set_cons_zero, List.set_cons_succ])
      refine wpAnyH_ready (rs := [10]) (by kernel_rfl) (by simp) ?_
      refine AllReadyH.cons rfl (fun K hK => ?_) AllReadyH.nil
      go_simp
      refine hK.out _ _ (⟨SE.out.bo.tk.blk, PE.out.m⟩) (fun hHeld => ?_)
      clear hK
      (try simp only [Act.put, List.setIfInBounds_toArray, List.set_cons_zero, List.set_cons_succ])
      refine wpAnyH_done (by kernel_rfl) ?_ _
      clear hHeld
      have FIN : Hid (Ac tb ver R (n + KS) t (hearT { ta with old := ta.old ++ [m] } (takeL v1 m)) v (takeX v1 m)) := by
        obtain ⟨a1, a2, a3, a4, a5, a6⟩ := HTA.out
        have f := FR.out
        refine (Ac.of (t := t) (e := v1) (n' := n + KS) (t1 := { ta with old := ta.old ++ [m] }) (by show Fin tb ver R _ (ta.old ++ [m]) ta.ms v1 _ _ _; rw [a1, a2]; exact f) N1.out a3 a4 (take_rows _ _) (by show (ta.old ++ [m]).length ≤ _; rw [List.length_append, a1]; exact Nat.le_refl _) (fun y hy => ?_) a5 a6).move V1.out
        have hy : y ∈ ta.old ++ [m] := hy
        rw [a1] at hy
        rcases List.mem_append.1 hy with z | z
        · exact Or.inl z
        · exact Or.inr (by rw [List.mem_singleton.1 z]; exact HMA.out)
      go_wp2_with fail
      refine Calls.mono HE.out ?_
      rintro e Wf ⟨rfl, tf, kf⟩
      have SF := hide (SE.out.talk kf tf)
      have PF := hide (PE.out.kp SE.out.bo kf (fun _ e => Or.inr (Or.inl e)))
      have cw : Wf.cell? ⟨B + 1, 0, none⟩ = some (.int .i64 5) := by rw [← hw]; exact (act_c PF.out.ac).1
      clear tf kf HE
      go_wp2_with fail
      go_ret
      exact ⟨rfl, _, _, _, _, _, SF.out, FIN.out⟩
    · skip
      refine wp_bsM (.tmp 162) rfl m rfl ?_
      rw [← HGB.out.1, ← HGB.out.2]
      clear HGB
      refine hK.out _ _ (PB.out.m) (fun hHeld => ?_)
      clear hK
      (try simp only [Act.put, List.setIfInBounds_toArray, List.set_cons_zero, List.set_cons_succ])
      have cA : Wb.cell? ⟨T, 13, none⟩ = some ov := (tk_c SB.out.bo.tk.blk).2
      refine wpAnyH_ready (rs := [4]) (by kernel_rfl) (by simp) ?_
      refine AllReadyH.cons rfl (fun K hK => ?_) AllReadyH.nil
      go_simp
      clear cA
      refine hK.out _ _ (PB.out.m) (fun hHeld => ?_)
      clear hK
      (try simp only [Act.put, List.setIfInBounds_toArray, List.set_cons_zero, List.set_cons_succ])
      refine wpAnyH_ready (rs := [7]) (by kernel_rfl) (by simp) ?_
      refine AllReadyH.cons rfl (fun K hK => ?_) AllReadyH.nil
      refine ite_yes (by rfl) ?_
      refine wp_apM (.tmp 161) (.tmp 163) ?hBo12 N ov ta.old ?hBs12 OB.out GB m ?hBx12 GA.out OLa.out SB.out.le ?hBk12
      case hBo12 => rfl
      case hBs12 => kernel_rfl
      case hBx12 => kernel_rfl
      intro ov2 w4 o4 g4 n4
      obtain ⟨⟨f13, c13⟩, s4, p4⟩ := SB.out.olds PB.out o4 g4 n4
      have kg := Kp.of_grown g4
      have M4 : MgAt w4 M m := by
        have c := PB.out.m
        unfold MgAt at c ⊢
        exact (kg.block _ (blk_lt c) (fun e => PB.out.no.2.1 e.symm)).trans c
      have SC := hide s4
      have PC := hide p4
      have TM4 := hide M4
      obtain ⟨oa2, oc2, hov2⟩ := own_sl o4
      subst hov2
      obtain ⟨Wc, hWc⟩ : ∃ Wc, Wc = w4.setCell ⟨T, 13, none⟩ (.slice oa2 (ta.old.length + 1) oc2) := ⟨_, rfl⟩
      rw [← hWc] at SC PC
      have HWc := hide hWc
      clear o4 g4 n4 s4 p4 kg M4 hWc SAd PAd OB GA OLa
      refine hK.out _ _ (TM4.out) (fun hHeld => ?_)
      clear hK
      (try simp only [Act.put, List.setIfInBounds_toArray, List.set_cons_zero, List.set_cons_succ])
      refine wpAnyH_take (i := 8) (v := (.pointer (some ⟨T, 0, none⟩))) rfl (by kernel_rfl) (by kernel_rfl) (by kernel_rfl) (fun _ _ _ h => h) (Or.inl ⟨by kernel_rfl, ?_⟩) (by assumption) ?_
      · intro w' hSw
        (try dsimp only at hSw)
        go_simp
      (try simp only [Act.put, List.getElem_toArray, List.getElem_cons_zero, List.getElem_cons_succ, List.setIfInBounds_toArray, List.set_cons_zero, List.set_cons_succ])
      refine wpAnyH_take (i := 9) (v := (.pointer (some ⟨T, 13, none⟩))) rfl (by kernel_rfl) (by kernel_rfl) (by kernel_rfl) (fun _ _ _ h => h) (Or.inl ⟨by kernel_rfl, ?_⟩) (by assumption) ?_
      · intro w' hSw
        (try dsimp only at hSw)
        go_simp
      (try simp only [Act.put, List.getElem_toArray, List.getElem_cons_zero, List.getElem_cons_succ, List.setIfInBounds_toArray, List.set_cons_zero, List.set_cons_succ])
      refine wpAnyH_ready (rs := [10]) (by kernel_rfl) (by simp) ?_
      refine AllReadyH.cons rfl (fun K hK => ?_) AllReadyH.nil
      go_simp
      rw [← HWc.out]
      clear HWc f13 c13 TM4
      refine hK.out _ _ (PC.out.m) (fun hHeld => ?_)
      clear hK
      (try simp only [Act.put, List.setIfInBounds_toArray, List.set_cons_zero, List.set_cons_succ])
      refine wpAnyH_done (by kernel_rfl) ?_ _
      clear hHeld SA PA SB PB
      have LL : Hid ((takeL v1 m).length ≤ 1) := FR.out.len
      have SD := hide (SC.out.same ((Kp.refl Wc non).drew))
      have PD := hide (PC.out.kp SC.out.bo ((Kp.refl Wc non).drew) (fun _ f => f.elim))
      have TK := hide (Take_x SD.out.bo.ex J1.out.ok m SZ.out.1 SZ.out.2)
      go_upto_region 24 with fail
      refine wp_region_held_drew (S := fun Y => Y.heap[T]? = some (.cells (tkA X { ta with old := ta.old ++ [m] } (.slice oa2 (ta.old.length + 1) oc2) mv) 57) ∧ MgAt Y M m) (by kernel_rfl) ⟨SC.out.bo.tk.blk, PC.out.m⟩ (fun hHeld => ?_)
      refine wpAnyH_take (i := 0) (v := (.pointer (some ⟨T, 0, none⟩))) rfl (by kernel_rfl) (by kernel_rfl) (by kernel_rfl) (fun _ _ _ h => h) (Or.inl ⟨by kernel_rfl, ?_⟩) (by assumption) ?_
      · intro w' hSw
        (try dsimp only at hSw)
        go_simp
      (try simp only [Act.put, List.getElem_toArray, List.getElem_cons_zero, List.getElem_cons_succ, List.setIfInBounds_toArray, List.set_cons_zero, List.set_cons_succ])
      refine wpAnyH_take (i := 1) (v := (.pointer (some ⟨T, 0, none⟩))) rfl (by kernel_rfl) (by kernel_rfl) (by kernel_rfl) (fun _ _ _ h => h) (Or.inl ⟨by kernel_rfl, ?_⟩) (by assumption) ?_
      · intro w' hSw
        (try dsimp only at hSw)
        go_simp
      (try simp only [Act.put, List.getElem_toArray, List.getElem_cons_zero, List.getElem_cons_succ, List.setIfInBounds_toArray, List.set_cons_zero, List.set_cons_succ])
      refine wpAnyH_take (i := 2) (v := (.pointer (some ⟨T, 0, none⟩))) rfl (by kernel_rfl) (by kernel_rfl) (by kernel_rfl) (fun _ _ _ h => h) (Or.inl ⟨by kernel_rfl, ?_⟩) (by assumption) ?_
      · intro w' hSw
        (try dsimp only at hSw)
        go_simp
      (try simp only [Act.put, List.getElem_toArray, List.getElem_cons_zero, List.getElem_cons_succ, List.setIfInBounds_toArray, List.set_cons_zero, List.set_cons_succ])
      refine wpAnyH_take (i := 3) (v := (.pointer (some ⟨X, 0, none⟩))) rfl (by kernel_rfl) (by kernel_rfl) (by kernel_rfl) (fun _ _ _ h => h) (Or.inl ⟨by kernel_rfl, ?_⟩) (by assumption) ?_
      · intro w' hSw
        (try dsimp only at hSw)
        (have z := (tk_c hSw.1).1; go_simp)
      (try simp only [Act.put, List.getElem_toArray, List.getElem_cons_zero, List.getElem_cons_succ, List.setIfInBounds_toArray, List.set_cons_zero, List.set_cons_succ])
      refine wpAnyH_take (i := 4) (v := (.agg (mgV m))) rfl (by kernel_rfl) (by kernel_rfl) (by kernel_rfl) (fun _ _ _ h => h) (Or.inl ⟨by kernel_rfl, ?_⟩) (by assumption) ?_
      · intro w' hSw
        (try dsimp only at hSw)
        (exact exec_ldMg (.tmp 10) rfl rfl hSw.2)
      (try simp only [Act.put, List.getElem_toArray, List.getElem_cons_zero, List.getElem_cons_succ, List.setIfInBounds_toArray, List.set_cons_zero, List.set_cons_succ])
      refine wpAnyH_ready (rs := [5]) (by kernel_rfl) (by simp) ?_
      refine AllReadyH.cons rfl (fun K hK => ?_) AllReadyH.nil
      go_simp
      refine Calls.mono TK.out ?_
      rintro e We ⟨u, ZWe, rfl, o9, l9⟩
      have SE := hide (SD.out.lv l9)
      have PE := hide (PD.out.kp SD.out.bo l9.kp (fun _ e => Or.inl (Or.inl e)))
      obtain ⟨ln, hln⟩ : ∃ ln, ln = (takeL v1 m).length := ⟨_, rfl⟩
      obtain ⟨ua, uc, hu⟩ := own_sl o9
      rw [← hln] at hu
      subst hu
      have HE := hide (hear_t SE.out.bo.tk o9 LL.out)
      clear o9 l9 TK hln SD PD
      refine hK.out _ _ (⟨SE.out.bo.tk.blk, PE.out.m⟩) (fun hHeld => ?_)
      clear hK
      (try simp only [Act.put, List.setIfInBounds_toArray, List.set_cons_zero, List.set_cons_succ])
      refine wpAnyH_take (i := 6) (v := (.tuple #[.slice ua ln uc, .int .i64 0])) rfl (by kernel_rfl) (by kernel_rfl) (by kernel_rfl) (fun _ _ _ h => h) (Or.inl ⟨by kernel_rfl, ?_⟩) (by assumption) ?_
      · intro w' hSw
        (try dsimp only at hSw)
        go_simp
      (try simp only [Act.put, List.getElem_toArray, List.getElem_cons_zero, List.getElem_cons_succ, List.setIfInBounds_toArray, List.set_cons_zero, List.set_cons_succ])
      refine wpAnyH_take (i := 7) (v := (.slice ua ln uc)) rfl (by kernel_rfl) (by kernel_rfl) (by kernel_rfl) (fun _ _ _ h => h) (Or.inl ⟨by kernel_rfl, ?_⟩) (by assumption) ?_
      · intro w' hSw
        (try dsimp only at hSw)
        go_simp
      (try simp only [Act.put, List.getElem_toArray, List.getElem_cons_zero, List.getElem_cons_succ, List.setIfInBounds_toArray, List.set_cons_zero, List.set_cons_succ])
      refine wpAnyH_take (i := 8) (v := (.int .i64 0)) rfl (by kernel_rfl) (by kernel_rfl) (by kernel_rfl) (fun _ _ _ h => h) (Or.inl ⟨by kernel_rfl, ?_⟩) (by assumption) ?_
      · intro w' hSw
        (try dsimp only at hSw)
        go_simp
      (try simp only [Act.put, List.getElem_toArray, List.getElem_cons_zero, List.getElem_cons_succ, List.setIfInBounds_toArray, List.set_cons_zero, List.set_cons_succ])
      refine wpAnyH_ready (rs := [9]) (by kernel_rfl) (by simp) ?_
      refine AllReadyH.cons rfl (fun K hK => ?_) AllReadyH.nil
      go_simp
      refine hK.out _ _ (⟨SE.out.bo.tk.blk, PE.out.m⟩) (fun hHeld => ?_)
      clear hK
      (try simp only [Act.put, List.setIfInBounds_toArray, List.set_cons_zero, List.set_cons_succ])
      refine wpAnyH_ready (rs := [10]) (by kernel_rfl) (by simp) ?_
      refine AllReadyH.cons rfl (fun K hK => ?_) AllReadyH.nil
      go_simp
      refine hK.out _ _ (⟨SE.out.bo.tk.blk, PE.out.m⟩) (fun hHeld => ?_)
      clear hK
      (try simp only [Act.put, List.setIfInBounds_toArray, List.set_cons_zero, List.set_cons_succ])
      refine wpAnyH_done (by kernel_rfl) ?_ _
      clear hHeld
      have FIN : Hid (Ac tb ver R (n + KS) t (hearT { ta with old := ta.old ++ [m] } (takeL v1 m)) v (takeX v1 m)) := by
        obtain ⟨a1, a2, a3, a4, a5, a6⟩ := HTA.out
        have f := FR.out
        refine (Ac.of (t := t) (e := v1) (n' := n + KS) (t1 := { ta with old := ta.old ++ [m] }) (by show Fin tb ver R _ (ta.old ++ [m]) ta.ms v1 _ _ _; rw [a1, a2]; exact f) N1.out a3 a4 (take_rows _ _) (by show (ta.old ++ [m]).length ≤ _; rw [List.length_append, a1]; exact Nat.le_refl _) (fun y hy => ?_) a5 a6).move V1.out
        have hy : y ∈ ta.old ++ [m] := hy
        rw [a1] at hy
        rcases List.mem_append.1 hy with z | z
        · exact Or.inl z
        · exact Or.inr (by rw [List.mem_singleton.1 z]; exact HMA.out)
      go_wp2_with fail
      refine Calls.mono HE.out ?_
      rintro e Wf ⟨rfl, tf, kf⟩
      have SF := hide (SE.out.talk kf tf)
      have PF := hide (PE.out.kp SE.out.bo kf (fun _ e => Or.inr (Or.inl e)))
      have cw : Wf.cell? ⟨B + 1, 0, none⟩ = some (.int .i64 5) := by rw [← hw]; exact (act_c PF.out.ac).1
      clear tf kf HE
      go_wp2_with fail
      go_ret
      exact ⟨rfl, _, _, _, _, _, SF.out, FIN.out⟩
  · have hc0 : m.code = 0 := RC.resolve_right hc
    have hcb : (m.code == 16) = false := by simp [hc]
    obtain ⟨ta, hta⟩ : ∃ ta : Tk, ta = { t with op := false } := ⟨_, rfl⟩
    have ST' := ST.out
    rw [← hta] at ST'
    have SA := hide ST'
    have PA := hide PT.out
    obtain ⟨Wa, hWa⟩ : ∃ Wa, Wa = Wt := ⟨_, rfl⟩
    rw [← hWa] at SA PA
    have HTA : Hid (ta.old = t.old ∧ ta.ms = t.ms ∧ ta.pt = t.pt ∧ ta.st = t.st ∧ ta.op = false ∧ ta.lf = ((if m.code = 16 then 0 else v1.left : Nat) : Int)) := by rw [hta, if_neg hc]; exact ⟨rfl, rfl, rfl, rfl, rfl, by rw [V1.out.2.1]; exact HY.out.1⟩
    have HWa := hide hWa
    clear hWa hta RC hc0 ST'
    go_upto_region 23 with (go_at_call 6; refine Calls.mono (NU.out _ _) ?_; rintro e w' ⟨rfl, rfl⟩)
    rw [← HWa.out]
    clear cm hcb HWa hc
    refine wp_region_held_drew (S := fun Y => MgAt Y M m) (by kernel_rfl) PA.out.m (fun hHeld => ?_)
    refine wpAnyH_take (i := 0) (v := (.pointer (some ⟨T, 0, none⟩))) rfl (by kernel_rfl) (by kernel_rfl) (by kernel_rfl) (fun _ _ _ h => h) (Or.inl ⟨by kernel_rfl, ?_⟩) (by assumption) ?_
    · intro w' hSw
      (try dsimp only at hSw)
      go_simp
    (try simp only [Act.put, List.getElem_toArray, List.getElem_cons_zero, List.getElem_cons_succ, List.setIfInBounds_toArray, List.set_cons_zero, List.set_cons_succ])
    refine wpAnyH_take (i := 1) (v := (.pointer (some ⟨T, 0, none⟩))) rfl (by kernel_rfl) (by kernel_rfl) (by kernel_rfl) (fun _ _ _ h => h) (Or.inl ⟨by kernel_rfl, ?_⟩) (by assumption) ?_
    · intro w' hSw
      (try dsimp only at hSw)
      go_simp
    (try simp only [Act.put, List.getElem_toArray, List.getElem_cons_zero, List.getElem_cons_succ, List.setIfInBounds_toArray, List.set_cons_zero, List.set_cons_succ])
    refine wpAnyH_take (i := 2) (v := (.pointer (some ⟨T, 0, none⟩))) rfl (by kernel_rfl) (by kernel_rfl) (by kernel_rfl) (fun _ _ _ h => h) (Or.inl ⟨by kernel_rfl, ?_⟩) (by assumption) ?_
    · intro w' hSw
      (try dsimp only at hSw)
      go_simp
    (try simp only [Act.put, List.getElem_toArray, List.getElem_cons_zero, List.getElem_cons_succ, List.setIfInBounds_toArray, List.set_cons_zero, List.set_cons_succ])
    refine wpAnyH_take (i := 3) (v := (.pointer (some ⟨T, 13, none⟩))) rfl (by kernel_rfl) (by kernel_rfl) (by kernel_rfl) (fun _ _ _ h => h) (Or.inl ⟨by kernel_rfl, ?_⟩) (by assumption) ?_
    · intro w' hSw
      (try dsimp only at hSw)
      go_simp
    (try simp only [Act.put, List.getElem_toArray, List.getElem_cons_zero, List.getElem_cons_succ, List.setIfInBounds_toArray, List.set_cons_zero, List.set_cons_succ])
    refine wpAnyH_take (i := 5) (v := (.agg (mgV m))) rfl (by kernel_rfl) (by kernel_rfl) (by kernel_rfl) (fun _ _ _ h => h) (Or.inl ⟨by kernel_rfl, ?_⟩) (by assumption) ?_
    · intro w' hSw
      (try dsimp only at hSw)
      (exact exec_ldMg (.tmp 10) rfl rfl hSw)
    (try simp only [Act.put, List.getElem_toArray, List.getElem_cons_zero, List.getElem_cons_succ, List.setIfInBounds_toArray, List.set_cons_zero, List.set_cons_succ])
    have SAd := hide (SA.out.same ((Kp.refl Wa non).drew))
    have PAd := hide (PA.out.kp SA.out.bo ((Kp.refl Wa non).drew) (fun _ f => f.elim))
    obtain ⟨GB, hGB⟩ : ∃ GB, GB = Wa.drew.heap.size := ⟨_, rfl⟩
    obtain ⟨Wb, hWb⟩ : ∃ Wb, Wb = Wa.drew.alloc (.cells (mgV m) 36) := ⟨_, rfl⟩
    have kb : Kp Wa.drew Wb non := by rw [hWb]; exact (Kp.refl Wa.drew non).alloc _
    have GA : Hid (Wb.heap[GB]? = some (.cells (mgV m) 36)) := by rw [hWb, hGB]; exact heap_last _ _
    have SB := hide (SAd.out.same kb)
    have PB := hide (PAd.out.kp SAd.out.bo kb (fun _ f => f.elim))
    have OB : Hid (Wb.ownsRow N 36 11 ov ta.old.length (mgs ta.old)) := own_re SB.out.bo.tk.ov (fun k e => SB.out.ge k (Or.inr (Or.inr (Or.inl e))))
    have OLa : Hid (ta.old.length ≤ 1000000000000) := by rw [HTA.out.1]; show _ ≤ _; have := OL.out; omega
    have HGB := hide (And.intro hWb hGB)
    clear hWb hGB kb
    refine wpAnyH_ready (rs := [4, 6]) (by kernel_rfl) (by simp) ?_
    refine AllReadyH.cons rfl (fun K hK => ?_) (AllReadyH.cons rfl (fun K hK => ?_) AllReadyH.nil)
    · skip
      have cA : Wa.drew.cell? ⟨T, 13, none⟩ = some ov := (tk_c SAd.out.bo.tk.blk).2
      have cA2 : Wa.cell? ⟨T, 13, none⟩ = some ov := (tk_c SA.out.bo.tk.blk).2
      go_simp
      clear cA cA2
      refine hK.out _ _ (PAd.out.m) (fun hHeld => ?_)
      clear hK
      (try simp only [Act.put, List.setIfInBounds_toArray, List.set_cons_zero, List.set_cons_succ])
      refine wpAnyH_ready (rs := [6]) (by kernel_rfl) (by simp) ?_
      refine AllReadyH.cons rfl (fun K hK => ?_) AllReadyH.nil
      refine wp_bsM (.tmp 162) rfl m rfl ?_
      rw [← HGB.out.1, ← HGB.out.2]
      clear HGB
      refine hK.out _ _ (PB.out.m) (fun hHeld => ?_)
      clear hK
      (try simp only [Act.put, List.setIfInBounds_toArray, List.set_cons_zero, List.set_cons_succ])
      refine wpAnyH_ready (rs := [7]) (by kernel_rfl) (by simp) ?_
      refine AllReadyH.cons rfl (fun K hK => ?_) AllReadyH.nil
      refine ite_yes (by rfl) ?_
      refine wp_apM (.tmp 161) (.tmp 163) ?hBo21 N ov ta.old ?hBs21 OB.out GB m ?hBx21 GA.out OLa.out SB.out.le ?hBk21
      case hBo21 => rfl
      case hBs21 => kernel_rfl
      case hBx21 => kernel_rfl
      intro ov2 w4 o4 g4 n4
      obtain ⟨⟨f13, c13⟩, s4, p4⟩ := SB.out.olds PB.out o4 g4 n4
      have kg := Kp.of_grown g4
      have M4 : MgAt w4 M m := by
        have c := PB.out.m
        unfold MgAt at c ⊢
        exact (kg.block _ (blk_lt c) (fun e => PB.out.no.2.1 e.symm)).trans c
      have SC := hide s4
      have PC := hide p4
      have TM4 := hide M4
      obtain ⟨oa2, oc2, hov2⟩ := own_sl o4
      subst hov2
      obtain ⟨Wc, hWc⟩ : ∃ Wc, Wc = w4.setCell ⟨T, 13, none⟩ (.slice oa2 (ta.old.length + 1) oc2) := ⟨_, rfl⟩
      rw [← hWc] at SC PC
      have HWc := hide hWc
      clear o4 g4 n4 s4 p4 kg M4 hWc SAd PAd OB GA OLa
      refine hK.out _ _ (TM4.out) (fun hHeld => ?_)
      clear hK
      (try simp only [Act.put, List.setIfInBounds_toArray, List.set_cons_zero, List.set_cons_succ])
      refine wpAnyH_take (i := 8) (v := (.pointer (some ⟨T, 0, none⟩))) rfl (by kernel_rfl) (by kernel_rfl) (by kernel_rfl) (fun _ _ _ h => h) (Or.inl ⟨by kernel_rfl, ?_⟩) (by assumption) ?_
      · intro w' hSw
        (try dsimp only at hSw)
        go_simp
      (try simp only [Act.put, List.getElem_toArray, List.getElem_cons_zero, List.getElem_cons_succ, List.setIfInBounds_toArray, List.set_cons_zero, List.set_cons_succ])
      refine wpAnyH_take (i := 9) (v := (.pointer (some ⟨T, 13, none⟩))) rfl (by kernel_rfl) (by kernel_rfl) (by kernel_rfl) (fun _ _ _ h => h) (Or.inl ⟨by kernel_rfl, ?_⟩) (by assumption) ?_
      · intro w' hSw
        (try dsimp only at hSw)
        go_simp
      (try simp only [Act.put, List.getElem_toArray, List.getElem_cons_zero, List.getElem_cons_succ, List.setIfInBounds_toArray, List.set_cons_zero, List.set_cons_succ])
      refine wpAnyH_ready (rs := [10]) (by kernel_rfl) (by simp) ?_
      refine AllReadyH.cons rfl (fun K hK => ?_) AllReadyH.nil
      go_simp
      rw [← HWc.out]
      clear HWc f13 c13 TM4
      refine hK.out _ _ (PC.out.m) (fun hHeld => ?_)
      clear hK
      (try simp only [Act.put, List.setIfInBounds_toArray, List.set_cons_zero, List.set_cons_succ])
      refine wpAnyH_done (by kernel_rfl) ?_ _
      clear hHeld SA PA SB PB
      have LL : Hid ((takeL v1 m).length ≤ 1) := FR.out.len
      have SD := hide (SC.out.same ((Kp.refl Wc non).drew))
      have PD := hide (PC.out.kp SC.out.bo ((Kp.refl Wc non).drew) (fun _ f => f.elim))
      have TK := hide (Take_x SD.out.bo.ex J1.out.ok m SZ.out.1 SZ.out.2)
      go_upto_region 24 with fail
      refine wp_region_held_drew (S := fun Y => Y.heap[T]? = some (.cells (tkA X { ta with old := ta.old ++ [m] } (.slice oa2 (ta.old.length + 1) oc2) mv) 57) ∧ MgAt Y M m) (by kernel_rfl) ⟨SC.out.bo.tk.blk, PC.out.m⟩ (fun hHeld => ?_)
      refine wpAnyH_take (i := 0) (v := (.pointer (some ⟨T, 0, none⟩))) rfl (by kernel_rfl) (by kernel_rfl) (by kernel_rfl) (fun _ _ _ h => h) (Or.inl ⟨by kernel_rfl, ?_⟩) (by assumption) ?_
      · intro w' hSw
        (try dsimp only at hSw)
        go_simp
      (try simp only [Act.put, List.getElem_toArray, List.getElem_cons_zero, List.getElem_cons_succ, List.setIfInBounds_toArray, List.set_cons_zero, List.set_cons_succ])
      refine wpAnyH_take (i := 1) (v := (.pointer (some ⟨T, 0, none⟩))) rfl (by kernel_rfl) (by kernel_rfl) (by kernel_rfl) (fun _ _ _ h => h) (Or.inl ⟨by kernel_rfl, ?_⟩) (by assumption) ?_
      · intro w' hSw
        (try dsimp only at hSw)
        go_simp
      (try simp only [Act.put, List.getElem_toArray, List.getElem_cons_zero, List.getElem_cons_succ, List.setIfInBounds_toArray, List.set_cons_zero, List.set_cons_succ])
      refine wpAnyH_take (i := 2) (v := (.pointer (some ⟨T, 0, none⟩))) rfl (by kernel_rfl) (by kernel_rfl) (by kernel_rfl) (fun _ _ _ h => h) (Or.inl ⟨by kernel_rfl, ?_⟩) (by assumption) ?_
      · intro w' hSw
        (try dsimp only at hSw)
        go_simp
      (try simp only [Act.put, List.getElem_toArray, List.getElem_cons_zero, List.getElem_cons_succ, List.setIfInBounds_toArray, List.set_cons_zero, List.set_cons_succ])
      refine wpAnyH_take (i := 3) (v := (.pointer (some ⟨X, 0, none⟩))) rfl (by kernel_rfl) (by kernel_rfl) (by kernel_rfl) (fun _ _ _ h => h) (Or.inl ⟨by kernel_rfl, ?_⟩) (by assumption) ?_
      · intro w' hSw
        (try dsimp only at hSw)
        (have z := (tk_c hSw.1).1; go_simp)
      (try simp only [Act.put, List.getElem_toArray, List.getElem_cons_zero, List.getElem_cons_succ, List.setIfInBounds_toArray, List.set_cons_zero, List.set_cons_succ])
      refine wpAnyH_take (i := 4) (v := (.agg (mgV m))) rfl (by kernel_rfl) (by kernel_rfl) (by kernel_rfl) (fun _ _ _ h => h) (Or.inl ⟨by kernel_rfl, ?_⟩) (by assumption) ?_
      · intro w' hSw
        (try dsimp only at hSw)
        (exact exec_ldMg (.tmp 10) rfl rfl hSw.2)
      (try simp only [Act.put, List.getElem_toArray, List.getElem_cons_zero, List.getElem_cons_succ, List.setIfInBounds_toArray, List.set_cons_zero, List.set_cons_succ])
      refine wpAnyH_ready (rs := [5]) (by kernel_rfl) (by simp) ?_
      refine AllReadyH.cons rfl (fun K hK => ?_) AllReadyH.nil
      go_simp
      refine Calls.mono TK.out ?_
      rintro e We ⟨u, ZWe, rfl, o9, l9⟩
      have SE := hide (SD.out.lv l9)
      have PE := hide (PD.out.kp SD.out.bo l9.kp (fun _ e => Or.inl (Or.inl e)))
      obtain ⟨ln, hln⟩ : ∃ ln, ln = (takeL v1 m).length := ⟨_, rfl⟩
      obtain ⟨ua, uc, hu⟩ := own_sl o9
      rw [← hln] at hu
      subst hu
      have HE := hide (hear_t SE.out.bo.tk o9 LL.out)
      clear o9 l9 TK hln SD PD
      refine hK.out _ _ (⟨SE.out.bo.tk.blk, PE.out.m⟩) (fun hHeld => ?_)
      clear hK
      (try simp only [Act.put, List.setIfInBounds_toArray, List.set_cons_zero, List.set_cons_succ])
      refine wpAnyH_take (i := 6) (v := (.tuple #[.slice ua ln uc, .int .i64 0])) rfl (by kernel_rfl) (by kernel_rfl) (by kernel_rfl) (fun _ _ _ h => h) (Or.inl ⟨by kernel_rfl, ?_⟩) (by assumption) ?_
      · intro w' hSw
        (try dsimp only at hSw)
        go_simp
      (try simp only [Act.put, List.getElem_toArray, List.getElem_cons_zero, List.getElem_cons_succ, List.setIfInBounds_toArray, List.set_cons_zero, List.set_cons_succ])
      refine wpAnyH_take (i := 7) (v := (.slice ua ln uc)) rfl (by kernel_rfl) (by kernel_rfl) (by kernel_rfl) (fun _ _ _ h => h) (Or.inl ⟨by kernel_rfl, ?_⟩) (by assumption) ?_
      · intro w' hSw
        (try dsimp only at hSw)
        go_simp
      (try simp only [Act.put, List.getElem_toArray, List.getElem_cons_zero, List.getElem_cons_succ, List.setIfInBounds_toArray, List.set_cons_zero, List.set_cons_succ])
      refine wpAnyH_take (i := 8) (v := (.int .i64 0)) rfl (by kernel_rfl) (by kernel_rfl) (by kernel_rfl) (fun _ _ _ h => h) (Or.inl ⟨by kernel_rfl, ?_⟩) (by assumption) ?_
      · intro w' hSw
        (try dsimp only at hSw)
        go_simp
      (try simp only [Act.put, List.getElem_toArray, List.getElem_cons_zero, List.getElem_cons_succ, List.setIfInBounds_toArray, List.set_cons_zero, List.set_cons_succ])
      refine wpAnyH_ready (rs := [9]) (by kernel_rfl) (by simp) ?_
      refine AllReadyH.cons rfl (fun K hK => ?_) AllReadyH.nil
      go_simp
      refine hK.out _ _ (⟨SE.out.bo.tk.blk, PE.out.m⟩) (fun hHeld => ?_)
      clear hK
      (try simp only [Act.put, List.setIfInBounds_toArray, List.set_cons_zero, List.set_cons_succ])
      refine wpAnyH_ready (rs := [10]) (by kernel_rfl) (by simp) ?_
      refine AllReadyH.cons rfl (fun K hK => ?_) AllReadyH.nil
      go_simp
      refine hK.out _ _ (⟨SE.out.bo.tk.blk, PE.out.m⟩) (fun hHeld => ?_)
      clear hK
      (try simp only [Act.put, List.setIfInBounds_toArray, List.set_cons_zero, List.set_cons_succ])
      refine wpAnyH_done (by kernel_rfl) ?_ _
      clear hHeld
      have FIN : Hid (Ac tb ver R (n + KS) t (hearT { ta with old := ta.old ++ [m] } (takeL v1 m)) v (takeX v1 m)) := by
        obtain ⟨a1, a2, a3, a4, a5, a6⟩ := HTA.out
        have f := FR.out
        refine (Ac.of (t := t) (e := v1) (n' := n + KS) (t1 := { ta with old := ta.old ++ [m] }) (by show Fin tb ver R _ (ta.old ++ [m]) ta.ms v1 _ _ _; rw [a1, a2]; exact f) N1.out a3 a4 (take_rows _ _) (by show (ta.old ++ [m]).length ≤ _; rw [List.length_append, a1]; exact Nat.le_refl _) (fun y hy => ?_) a5 a6).move V1.out
        have hy : y ∈ ta.old ++ [m] := hy
        rw [a1] at hy
        rcases List.mem_append.1 hy with z | z
        · exact Or.inl z
        · exact Or.inr (by rw [List.mem_singleton.1 z]; exact HMA.out)
      go_wp2_with fail
      refine Calls.mono HE.out ?_
      rintro e Wf ⟨rfl, tf, kf⟩
      have SF := hide (SE.out.talk kf tf)
      have PF := hide (PE.out.kp SE.out.bo kf (fun _ e => Or.inr (Or.inl e)))
      have cw : Wf.cell? ⟨B + 1, 0, none⟩ = some (.int .i64 5) := by rw [← hw]; exact (act_c PF.out.ac).1
      clear tf kf HE
      go_wp2_with fail
      go_ret
      exact ⟨rfl, _, _, _, _, _, SF.out, FIN.out⟩
    · skip
      refine wp_bsM (.tmp 162) rfl m rfl ?_
      rw [← HGB.out.1, ← HGB.out.2]
      clear HGB
      refine hK.out _ _ (PB.out.m) (fun hHeld => ?_)
      clear hK
      (try simp only [Act.put, List.setIfInBounds_toArray, List.set_cons_zero, List.set_cons_succ])
      have cA : Wb.cell? ⟨T, 13, none⟩ = some ov := (tk_c SB.out.bo.tk.blk).2
      refine wpAnyH_ready (rs := [4]) (by kernel_rfl) (by simp) ?_
      refine AllReadyH.cons rfl (fun K hK => ?_) AllReadyH.nil
      go_simp
      clear cA
      refine hK.out _ _ (PB.out.m) (fun hHeld => ?_)
      clear hK
      (try simp only [Act.put, List.setIfInBounds_toArray, List.set_cons_zero, List.set_cons_succ])
      refine wpAnyH_ready (rs := [7]) (by kernel_rfl) (by simp) ?_
      refine AllReadyH.cons rfl (fun K hK => ?_) AllReadyH.nil
      refine ite_yes (by rfl) ?_
      refine wp_apM (.tmp 161) (.tmp 163) ?hBo22 N ov ta.old ?hBs22 OB.out GB m ?hBx22 GA.out OLa.out SB.out.le ?hBk22
      case hBo22 => rfl
      case hBs22 => kernel_rfl
      case hBx22 => kernel_rfl
      intro ov2 w4 o4 g4 n4
      obtain ⟨⟨f13, c13⟩, s4, p4⟩ := SB.out.olds PB.out o4 g4 n4
      have kg := Kp.of_grown g4
      have M4 : MgAt w4 M m := by
        have c := PB.out.m
        unfold MgAt at c ⊢
        exact (kg.block _ (blk_lt c) (fun e => PB.out.no.2.1 e.symm)).trans c
      have SC := hide s4
      have PC := hide p4
      have TM4 := hide M4
      obtain ⟨oa2, oc2, hov2⟩ := own_sl o4
      subst hov2
      obtain ⟨Wc, hWc⟩ : ∃ Wc, Wc = w4.setCell ⟨T, 13, none⟩ (.slice oa2 (ta.old.length + 1) oc2) := ⟨_, rfl⟩
      rw [← hWc] at SC PC
      have HWc := hide hWc
      clear o4 g4 n4 s4 p4 kg M4 hWc SAd PAd OB GA OLa
      refine hK.out _ _ (TM4.out) (fun hHeld => ?_)
      clear hK
      (try simp only [Act.put, List.setIfInBounds_toArray, List.set_cons_zero, List.set_cons_succ])
      refine wpAnyH_take (i := 8) (v := (.pointer (some ⟨T, 0, none⟩))) rfl (by kernel_rfl) (by kernel_rfl) (by kernel_rfl) (fun _ _ _ h => h) (Or.inl ⟨by kernel_rfl, ?_⟩) (by assumption) ?_
      · intro w' hSw
        (try dsimp only at hSw)
        go_simp
      (try simp only [Act.put, List.getElem_toArray, List.getElem_cons_zero, List.getElem_cons_succ, List.setIfInBounds_toArray, List.set_cons_zero, List.set_cons_succ])
      refine wpAnyH_take (i := 9) (v := (.pointer (some ⟨T, 13, none⟩))) rfl (by kernel_rfl) (by kernel_rfl) (by kernel_rfl) (fun _ _ _ h => h) (Or.inl ⟨by kernel_rfl, ?_⟩) (by assumption) ?_
      · intro w' hSw
        (try dsimp only at hSw)
        go_simp
      (try simp only [Act.put, List.getElem_toArray, List.getElem_cons_zero, List.getElem_cons_succ, List.setIfInBounds_toArray, List.set_cons_zero, List.set_cons_succ])
      refine wpAnyH_ready (rs := [10]) (by kernel_rfl) (by simp) ?_
      refine AllReadyH.cons rfl (fun K hK => ?_) AllReadyH.nil
      go_simp
      rw [← HWc.out]
      clear HWc f13 c13 TM4
      refine hK.out _ _ (PC.out.m) (fun hHeld => ?_)
      clear hK
      (try simp only [Act.put, List.setIfInBounds_toArray, List.set_cons_zero, List.set_cons_succ])
      refine wpAnyH_done (by kernel_rfl) ?_ _
      clear hHeld SA PA SB PB
      have LL : Hid ((takeL v1 m).length ≤ 1) := FR.out.len
      have SD := hide (SC.out.same ((Kp.refl Wc non).drew))
      have PD := hide (PC.out.kp SC.out.bo ((Kp.refl Wc non).drew) (fun _ f => f.elim))
      have TK := hide (Take_x SD.out.bo.ex J1.out.ok m SZ.out.1 SZ.out.2)
      go_upto_region 24 with fail
      refine wp_region_held_drew (S := fun Y => Y.heap[T]? = some (.cells (tkA X { ta with old := ta.old ++ [m] } (.slice oa2 (ta.old.length + 1) oc2) mv) 57) ∧ MgAt Y M m) (by kernel_rfl) ⟨SC.out.bo.tk.blk, PC.out.m⟩ (fun hHeld => ?_)
      refine wpAnyH_take (i := 0) (v := (.pointer (some ⟨T, 0, none⟩))) rfl (by kernel_rfl) (by kernel_rfl) (by kernel_rfl) (fun _ _ _ h => h) (Or.inl ⟨by kernel_rfl, ?_⟩) (by assumption) ?_
      · intro w' hSw
        (try dsimp only at hSw)
        go_simp
      (try simp only [Act.put, List.getElem_toArray, List.getElem_cons_zero, List.getElem_cons_succ, List.setIfInBounds_toArray, List.set_cons_zero, List.set_cons_succ])
      refine wpAnyH_take (i := 1) (v := (.pointer (some ⟨T, 0, none⟩))) rfl (by kernel_rfl) (by kernel_rfl) (by kernel_rfl) (fun _ _ _ h => h) (Or.inl ⟨by kernel_rfl, ?_⟩) (by assumption) ?_
      · intro w' hSw
        (try dsimp only at hSw)
        go_simp
      (try simp only [Act.put, List.getElem_toArray, List.getElem_cons_zero, List.getElem_cons_succ, List.setIfInBounds_toArray, List.set_cons_zero, List.set_cons_succ])
      refine wpAnyH_take (i := 2) (v := (.pointer (some ⟨T, 0, none⟩))) rfl (by kernel_rfl) (by kernel_rfl) (by kernel_rfl) (fun _ _ _ h => h) (Or.inl ⟨by kernel_rfl, ?_⟩) (by assumption) ?_
      · intro w' hSw
        (try dsimp only at hSw)
        go_simp
      (try simp only [Act.put, List.getElem_toArray, List.getElem_cons_zero, List.getElem_cons_succ, List.setIfInBounds_toArray, List.set_cons_zero, List.set_cons_succ])
      refine wpAnyH_take (i := 3) (v := (.pointer (some ⟨X, 0, none⟩))) rfl (by kernel_rfl) (by kernel_rfl) (by kernel_rfl) (fun _ _ _ h => h) (Or.inl ⟨by kernel_rfl, ?_⟩) (by assumption) ?_
      · intro w' hSw
        (try dsimp only at hSw)
        (have z := (tk_c hSw.1).1; go_simp)
      (try simp only [Act.put, List.getElem_toArray, List.getElem_cons_zero, List.getElem_cons_succ, List.setIfInBounds_toArray, List.set_cons_zero, List.set_cons_succ])
      refine wpAnyH_take (i := 4) (v := (.agg (mgV m))) rfl (by kernel_rfl) (by kernel_rfl) (by kernel_rfl) (fun _ _ _ h => h) (Or.inl ⟨by kernel_rfl, ?_⟩) (by assumption) ?_
      · intro w' hSw
        (try dsimp only at hSw)
        (exact exec_ldMg (.tmp 10) rfl rfl hSw.2)
      (try simp only [Act.put, List.getElem_toArray, List.getElem_cons_zero, List.getElem_cons_succ, List.setIfInBounds_toArray, List.set_cons_zero, List.set_cons_succ])
      refine wpAnyH_ready (rs := [5]) (by kernel_rfl) (by simp) ?_
      refine AllReadyH.cons rfl (fun K hK => ?_) AllReadyH.nil
      go_simp
      refine Calls.mono TK.out ?_
      rintro e We ⟨u, ZWe, rfl, o9, l9⟩
      have SE := hide (SD.out.lv l9)
      have PE := hide (PD.out.kp SD.out.bo l9.kp (fun _ e => Or.inl (Or.inl e)))
      obtain ⟨ln, hln⟩ : ∃ ln, ln = (takeL v1 m).length := ⟨_, rfl⟩
      obtain ⟨ua, uc, hu⟩ := own_sl o9
      rw [← hln] at hu
      subst hu
      have HE := hide (hear_t SE.out.bo.tk o9 LL.out)
      clear o9 l9 TK hln SD PD
      refine hK.out _ _ (⟨SE.out.bo.tk.blk, PE.out.m⟩) (fun hHeld => ?_)
      clear hK
      (try simp only [Act.put, List.setIfInBounds_toArray, List.set_cons_zero, List.set_cons_succ])
      refine wpAnyH_take (i := 6) (v := (.tuple #[.slice ua ln uc, .int .i64 0])) rfl (by kernel_rfl) (by kernel_rfl) (by kernel_rfl) (fun _ _ _ h => h) (Or.inl ⟨by kernel_rfl, ?_⟩) (by assumption) ?_
      · intro w' hSw
        (try dsimp only at hSw)
        go_simp
      (try simp only [Act.put, List.getElem_toArray, List.getElem_cons_zero, List.getElem_cons_succ, List.setIfInBounds_toArray, List.set_cons_zero, List.set_cons_succ])
      refine wpAnyH_take (i := 7) (v := (.slice ua ln uc)) rfl (by kernel_rfl) (by kernel_rfl) (by kernel_rfl) (fun _ _ _ h => h) (Or.inl ⟨by kernel_rfl, ?_⟩) (by assumption) ?_
      · intro w' hSw
        (try dsimp only at hSw)
        go_simp
      (try simp only [Act.put, List.getElem_toArray, List.getElem_cons_zero, List.getElem_cons_succ, List.setIfInBounds_toArray, List.set_cons_zero, List.set_cons_succ])
      refine wpAnyH_take (i := 8) (v := (.int .i64 0)) rfl (by kernel_rfl) (by kernel_rfl) (by kernel_rfl) (fun _ _ _ h => h) (Or.inl ⟨by kernel_rfl, ?_⟩) (by assumption) ?_
      · intro w' hSw
        (try dsimp only at hSw)
        go_simp
      (try simp only [Act.put, List.getElem_toArray, List.getElem_cons_zero, List.getElem_cons_succ, List.setIfInBounds_toArray, List.set_cons_zero, List.set_cons_succ])
      refine wpAnyH_ready (rs := [9]) (by kernel_rfl) (by simp) ?_
      refine AllReadyH.cons rfl (fun K hK => ?_) AllReadyH.nil
      go_simp
      refine hK.out _ _ (⟨SE.out.bo.tk.blk, PE.out.m⟩) (fun hHeld => ?_)
      clear hK
      (try simp only [Act.put, List.setIfInBounds_toArray, List.set_cons_zero, List.set_cons_succ])
      refine wpAnyH_ready (rs := [10]) (by kernel_rfl) (by simp) ?_
      refine AllReadyH.cons rfl (fun K hK => ?_) AllReadyH.nil
      go_simp
      refine hK.out _ _ (⟨SE.out.bo.tk.blk, PE.out.m⟩) (fun hHeld => ?_)
      clear hK
      (try simp only [Act.put, List.setIfInBounds_toArray, List.set_cons_zero, List.set_cons_succ])
      refine wpAnyH_done (by kernel_rfl) ?_ _
      clear hHeld
      have FIN : Hid (Ac tb ver R (n + KS) t (hearT { ta with old := ta.old ++ [m] } (takeL v1 m)) v (takeX v1 m)) := by
        obtain ⟨a1, a2, a3, a4, a5, a6⟩ := HTA.out
        have f := FR.out
        refine (Ac.of (t := t) (e := v1) (n' := n + KS) (t1 := { ta with old := ta.old ++ [m] }) (by show Fin tb ver R _ (ta.old ++ [m]) ta.ms v1 _ _ _; rw [a1, a2]; exact f) N1.out a3 a4 (take_rows _ _) (by show (ta.old ++ [m]).length ≤ _; rw [List.length_append, a1]; exact Nat.le_refl _) (fun y hy => ?_) a5 a6).move V1.out
        have hy : y ∈ ta.old ++ [m] := hy
        rw [a1] at hy
        rcases List.mem_append.1 hy with z | z
        · exact Or.inl z
        · exact Or.inr (by rw [List.mem_singleton.1 z]; exact HMA.out)
      go_wp2_with fail
      refine Calls.mono HE.out ?_
      rintro e Wf ⟨rfl, tf, kf⟩
      have SF := hide (SE.out.talk kf tf)
      have PF := hide (PE.out.kp SE.out.bo kf (fun _ e => Or.inr (Or.inl e)))
      have cw : Wf.cell? ⟨B + 1, 0, none⟩ = some (.int .i64 5) := by rw [← hw]; exact (act_c PF.out.ac).1
      clear tf kf HE
      go_wp2_with fail
      go_ret
      exact ⟨rfl, _, _, _, _, _, SF.out, FIN.out⟩
end Go.Proofs.Ytbmhllcbkeblfaa.Cn
