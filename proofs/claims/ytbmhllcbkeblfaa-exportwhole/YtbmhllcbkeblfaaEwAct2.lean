import Derived.Test.YtbmhllcbkeblfaaGEwMem
namespace Go.Proofs.Ytbmhllcbkeblfaa.Cn
open Go.RowKit
theorem St.ans {N : Nat} {w0 w w' : World} {T X : Nat} {v : Ex} {Z : Zz} {t : Tk} {ov mv : Value} {B M : Nat} {st : ByteArray} {x : Nat → Int} {nv : Value} {A : Array Value} {q m m' : Mg} (h : St N w0 w T X v Z t ov mv) (p : Pf w B M st x nv A q m ov) (hk : Kp w w' (fun k => k = M)) (hm : MgAt w' M m') (hMN : N ≤ M) (hMB : B + 2 < M) : St N w0 w' T X v Z t ov mv ∧ Pf w' B M st x nv A q m' ov := by
  have c := p.cl
  have d := p.q
  have f := p.m
  unfold ClAt at c
  unfold MgAt at d f
  have off : ¬ Wr T X Z mv M := h.bo.off f (by decide)
  refine ⟨⟨⟨h.bo.ex.kp hk (fun k e s => off (by rw [← s]; exact Or.inl e)), h.bo.tk.kp hk (fun k e s => ?_), h.bo.ap⟩, h.ge, h.bel.trans (kp_bel hk (fun k e => by rw [e]; exact hMN) h.le), Nat.le_trans h.le hk.size⟩, ⟨(hk.block _ (blk_lt c) (by omega)).trans c, (hk.block _ (blk_lt p.ac) (by omega)).trans p.ac, (hk.block _ (blk_lt d) (by omega)).trans d, hm, p.no⟩⟩
  rcases e with e | e | e
  · exact off (by rw [← s]; exact Or.inr (Or.inl e))
  · exact p.no.2.1 (by rw [← s]; exact e)
  · exact off (by rw [← s]; exact Or.inr (Or.inr e))
set_option maxHeartbeats 16000000 in
set_option maxRecDepth 100000 in
set_option linter.unusedSimpArgs false in
set_option linter.unusedVariables false in
theorem act_2 {N : Nat} {w : World} {T X : Nat} {v : Ex} {Z : Zz} {t : Tk} {ov mv : Value} (h : St N w w T X v Z t ov mv) {ao : Option Addr} {b o cap : Nat} {pv : Nat → Value} {tb : List (List Pr)} (tbl : TbAt N w ao b o pv tb) {ver : Int} {R n : Nat} (j : Tj tb ver R n v t.old t.ms) (st : ByteArray) (x : Nat → Int) (nv : Value) (a0 : ActP) (hq : t.q = askM v) (hlf : t.lf = (v.left : Int)) (hR : x 0 = (R : Int)) (hgw : x 17 = v.gw) (h0 : v.at_ = v.now) {KS : Nat} (hKS : v.gw + 1 ≤ (KS : Int)) (hn : n ≤ 10000000000) (hol : t.old.length ≤ 1000000) (hsz : ∀ m, m ∈ t.old ∨ m = rightM tb (askM v) → m.key.size ≤ 281474976710656 ∧ m.val.size ≤ 281474976710656) (hw : a0.wt = 2) :
    Calls Try.prog 19 #[.pointer (some ⟨T, 0, none⟩), .agg (clA st x nv), .slice ao tb.length cap, .agg (actA a0)] w fun e w' => e = .returned (.bool true) ∧ AcR N w w' T X t v tb ver R (n + KS) := by
  obtain ⟨B, hB⟩ : ∃ B, B = w.heap.size := ⟨_, rfl⟩
  obtain ⟨q, hqq⟩ : ∃ q, q = askM v := ⟨_, rfl⟩
  obtain ⟨m, hm⟩ : ∃ m, m = rightM tb q := ⟨_, rfl⟩
  obtain ⟨W0, hW0⟩ : ∃ W0, W0 = w.alloc (.cells (clA st x nv) 24) := ⟨_, rfl⟩
  obtain ⟨W1, hW1⟩ : ∃ W1, W1 = W0.alloc (.cells (actA a0) 61) := ⟨_, rfl⟩
  obtain ⟨W2, hW2⟩ : ∃ W2, W2 = W1.alloc (.cells (mgV q) 36) := ⟨_, rfl⟩
  obtain ⟨W3, hW3⟩ : ∃ W3, W3 = W2.setCell ⟨T, 12, none⟩ (.bool false) := ⟨_, rfl⟩
  have z0 : W0.heap.size = B + 1 := by rw [hW0, hB]; simp
  have z1 : W1.heap.size = B + 2 := by rw [hW1]; simp [z0]
  have z2 : W2.heap.size = B + 3 := by rw [hW2]; simp [z1]
  have k0 : Kp w W0 non := by rw [hW0]; exact (Kp.refl w non).alloc _
  have k1 : Kp W0 W1 non := by rw [hW1]; exact (Kp.refl W0 non).alloc _
  have k2 : Kp W1 W2 non := by rw [hW2]; exact (Kp.refl W1 non).alloc _
  have k3 : Kp W2 W3 (fun k => k = T) := by rw [hW3]; exact (Kp.refl W2 (fun k => k = T)).set (Or.inl rfl) _ _
  have s1 := (h.same k0).same k1
  have s2 := s1.same k2
  have tlt : T < B := by rw [hB]; exact blk_lt h.bo.tk.blk
  have olt : ∀ k, ov.ownBlock = some k → k < B := fun k e => by rw [hB]; exact own_lt h.bo.tk.ov e
  have cl2 : ClAt W2 B st x nv := by
    have c : ClAt W0 B st x nv := by rw [hW0, hB]; exact new_cl _ _ _ _
    unfold ClAt at c ⊢
    exact k2.blk0 (k1.blk0 c)
  have ac2 : W2.heap[B + 1]? = some (.cells (actA a0) 61) := by
    have c : W1.heap[B + 1]? = some (.cells (actA a0) 61) := by rw [hW1, ← z0]; exact heap_last _ _
    exact k2.blk0 c
  have q2 : MgAt W2 (B + 2) q := by rw [hW2, ← z1]; exact MgAt.new W1 q
  have b3 : W3.heap[T]? = some (.cells (tkA X { t with op := false } ov mv) 57) := by rw [hW3]; exact set_row s2.bo.tk.blk 12 _
  have s3 := s2.talk k3 (s2.bo.tk.setT k3 b3 rfl rfl)
  have nb : ∀ k, B ≤ k → k ≠ T := fun k e z => by omega
  have cl3 : ClAt W3 B st x nv := by
    have c := cl2
    unfold ClAt at c ⊢
    exact (k3.block _ (blk_lt c) (nb _ (Nat.le_refl _))).trans c
  have ac3 : W3.heap[B + 1]? = some (.cells (actA a0) 61) := (k3.block _ (blk_lt ac2) (nb _ (by omega))).trans ac2
  have q3 : MgAt W3 (B + 2) q := by
    have c := q2
    unfold MgAt at c ⊢
    exact (k3.block _ (blk_lt c) (nb _ (by omega))).trans c
  have z3 : B + 3 ≤ W3.heap.size := by rw [← z2]; exact k3.size
  have RG : Hid (W1.rangeAt T 1 (mgV q).toList) := by
    have hb := s1.bo.tk.blk
    intro i u hi
    have hl : i < 11 := by
      have := (List.getElem?_eq_some_iff.1 hi).1
      simpa [mgV] using this
    rw [cell_row hb]
    rw [hqq, ← hq] at hi
    match i, hl with
    | 0, _ | 1, _ | 2, _ | 3, _ | 4, _ | 5, _ | 6, _ | 7, _ | 8, _ | 9, _ | 10, _ => exact hi
  have jj := j.ok.job j.b
  have jp := jj.pt
  have p64 := j.ok.p1
  have j5 := jj.rl
  have hqs : 0 ≤ q.sq ∧ q.sq ≤ 1000000 := by rw [hqq]; show 0 ≤ (v.part : Int) ∧ (v.part : Int) ≤ _; omega
  have hqp : 0 ≤ q.prev ∧ q.prev ≤ 1000000 := by rw [hqq]; show 0 ≤ (v.rd.length : Int) ∧ (v.rd.length : Int) ≤ _; omega
  have RT := right_t (cap := cap) (tbl.below s3.bel) s3.le q hqs hqp
  rw [← hm] at RT
  have RT := hide RT
  have HS : Hid ((W1.alloc (.cells #[.int .i64 0, .int .i64 0, .int .i64 0, .int .i64 0, .int .i64 0, .int .i64 0, .int .i64 0, .int .i64 0, .int .i64 0, .string ⟨#[]⟩, .string ⟨#[]⟩] 36)).setRow (B + 2) (mgV q) = W2) := by
    rw [hW2, ← z1]
    exact World.setRow_alloc_new _ _ _ _
  have HL : Hid ((W1.alloc (.cells #[.int .i64 0, .int .i64 0, .int .i64 0, .int .i64 0, .int .i64 0, .int .i64 0, .int .i64 0, .int .i64 0, .int .i64 0, .string ⟨#[]⟩, .string ⟨#[]⟩] 36)).heap[B + 2]? = some (.cells #[.int .i64 0, .int .i64 0, .int .i64 0, .int .i64 0, .int .i64 0, .int .i64 0, .int .i64 0, .int .i64 0, .int .i64 0, .string ⟨#[]⟩, .string ⟨#[]⟩] 36)) := by
    rw [← z1]
    exact heap_last _ _
  have MI := hide mg_info
  have MO := hide (mg_one q)
  have MOm := hide (mg_one m)
  have HW0 := hide hW0
  have HW1 := hide hW1
  have HW3 := hide hW3
  have HB := hide hB
  have S3 := hide s3
  have C3 := hide (And.intro cl3 (And.intro ac3 q3))
  have Z3 := hide z3
  have c12 : W2.cell? ⟨T, 12, none⟩ = some (.bool t.op) := by rw [cell_row s2.bo.tk.blk]; rfl
  have f12 := fz_row s2.bo.tk.blk 12
  have CF := hide (And.intro c12 f12)
  have QQ := hide hqq
  have HM := hide hm
  have J := hide j
  have TL := hide tlt
  have OLT := hide olt
  have HY := hide (And.intro hlf (And.intro hR (And.intro hgw (And.intro h0 (And.intro hn (And.intro hol hsz))))))
  have KB : Hid (2 ≤ KS ∧ v.gw + 1 ≤ (KS : Int)) := ⟨by have := j.ok.gw; omega, hKS⟩
  have MQ : Hid (q.sq = (v.part : Int)) := by rw [hqq]; exact rfl
  clear hKS h tbl hW0 hW1 hW2 hW3 z0 z2 z3 k0 k1 k2 k3 s1 s2 s3 tlt cl2 ac2 q2 b3 nb cl3 ac3 q3 hB hq j jj jp p64 j5 hqs hqp c12 f12 hqq hm hlf hR hgw h0 hn hol hsz olt
  go_enter Try.func19, Try.ntmps19
  go_upto_region 1 with fail
  rw [← HW0.out, show W0.alloc (.cells (actA a0) 61) = W1 from HW1.out.symm, ← HB.out]
  go_upto_region 2 with (first | refine wpList_load_mid rfl 36 (.tmp 21) rfl T 1 rfl (mgV q).toList _ RG.out Try.underlying36 rfl MI.out ?_ | (refine wpList_stR rfl 36 (.tmp 9) (.tmp 22) rfl (B + 2) rfl (mgV q) #[.int .i64 0, .int .i64 0, .int .i64 0, .int .i64 0, .int .i64 0, .int .i64 0, .int .i64 0, .int .i64 0, .int .i64 0, .string ⟨#[]⟩, .string ⟨#[]⟩] rfl _ HL.out MI.out rfl MO.out ?_; rw [HS.out]))
  obtain ⟨c12, f12⟩ := CF.out
  go_upto_region 3 with fail
  rw [← HW3.out]
  clear c12 f12 RG HS HL CF
  go_wp2_with (refine wpList_ldM rfl (.tmp 9) rfl q (B + 2) rfl C3.out.2.2 ?_)
  refine Calls.mono RT.out ?_
  rintro e W4 ⟨rfl, k4⟩
  obtain ⟨M, hMM⟩ : ∃ M, M = W4.heap.size := ⟨_, rfl⟩
  obtain ⟨W5, hW5⟩ : ∃ W5, W5 = W4.alloc (.cells (mgV m) 36) := ⟨_, rfl⟩
  have k5 : Kp W4 W5 non := by rw [hW5]; exact (Kp.refl W4 non).alloc _
  have k35 : Kp W3 W5 non := k4.trans k5 (fun _ f => f.elim)
  have ST5 := hide (S3.out.same k35)
  have MB : Hid (B + 3 ≤ M) := by rw [hMM]; exact Nat.le_trans Z3.out k4.size
  have PF5 : Hid (Pf W5 B M st x nv (actA a0) q m ov) := by
    have c := C3.out.1
    unfold ClAt at c
    have d := C3.out.2.2
    unfold MgAt at d
    refine ⟨k35.blk0 c, k35.blk0 C3.out.2.1, k35.blk0 d, by rw [hW5, hMM]; exact MgAt.new W4 m, fun e => ?_, fun e => ?_, by have := MB.out; omega⟩
    · have := OLT.out _ e
      omega
    · have := OLT.out _ e
      have := MB.out
      omega
  have HS5 : Hid ((W4.alloc (.cells #[.int .i64 0, .int .i64 0, .int .i64 0, .int .i64 0, .int .i64 0, .int .i64 0, .int .i64 0, .int .i64 0, .int .i64 0, .string ⟨#[]⟩, .string ⟨#[]⟩] 36)).setRow M (mgV m) = W5) := by
    rw [hW5, hMM]
    exact World.setRow_alloc_new _ _ _ _
  have HL5 : Hid ((W4.alloc (.cells #[.int .i64 0, .int .i64 0, .int .i64 0, .int .i64 0, .int .i64 0, .int .i64 0, .int .i64 0, .int .i64 0, .int .i64 0, .string ⟨#[]⟩, .string ⟨#[]⟩] 36)).heap[M]? = some (.cells #[.int .i64 0, .int .i64 0, .int .i64 0, .int .i64 0, .int .i64 0, .int .i64 0, .int .i64 0, .int .i64 0, .int .i64 0, .string ⟨#[]⟩, .string ⟨#[]⟩] 36)) := by
    rw [hMM]
    exact heap_last _ _
  have HMM := hide hMM
  have MN : Hid (N ≤ M ∧ B + 2 < M) := ⟨by rw [hMM]; exact Nat.le_trans S3.out.le k4.size, by have := MB.out; omega⟩
  clear k4 k5 k35 hW5 hMM S3 C3 Z3 RT TL OLT MB
  go_upto_region 4 with (refine wpList_stR rfl 36 (.tmp 10) (.tmp 28) rfl M (by rw [HMM.out]; rfl) (mgV m) #[.int .i64 0, .int .i64 0, .int .i64 0, .int .i64 0, .int .i64 0, .int .i64 0, .int .i64 0, .int .i64 0, .int .i64 0, .string ⟨#[]⟩, .string ⟨#[]⟩] rfl _ HL5.out MI.out rfl MOm.out ?_; rw [HS5.out])
  rw [← HMM.out]
  have c0 : W5.cell? ⟨B + 1, 0, none⟩ = some (.int .i64 2) := by rw [← hw]; exact (act_c PF5.out.ac).1
  obtain ⟨cd, hcd⟩ : ∃ cd, cd = a0.cd := ⟨_, rfl⟩
  have c3 : W5.cell? ⟨B + 1, 3, none⟩ = some (.int .i64 cd) := by rw [hcd]; exact (act_c PF5.out.ac).2.2.2
  have HCD := hide hcd
  clear hcd
  have m8 : W5.cell? ⟨M, 8, none⟩ = some (.int .i64 m.code) := PF5.out.m.cells.2.2.2.2.2.2.2.2.1
  have f8 : W5.frozen? ⟨M, 8, none⟩ = false := by have c := PF5.out.m; unfold MgAt at c; exact fz_row c 8
  obtain ⟨W6, hW6⟩ : ∃ W6, W6 = W5.setCell ⟨M, 8, none⟩ (.int .i64 cd) := ⟨_, rfl⟩
  have k6 : Kp W5 W6 (fun k => k = M) := by rw [hW6]; exact (Kp.refl W5 (fun k => k = M)).set (Or.inl rfl) _ _
  obtain ⟨S6', P6'⟩ := ST5.out.ans PF5.out k6 (m' := { m with code := cd }) (by have c := PF5.out.m; unfold MgAt at c ⊢; rw [hW6]; exact set_row c 8 _) MN.out.1 MN.out.2
  have S6 := hide S6'
  have P6 := hide P6'
  have HW6 := hide hW6
  have NU := hide fun w n => num21 w n
  clear S6' P6' k6 hW6
  go_upto_region 9 with fail
  rw [← HW6.out]
  have c3' := (act_c P6.out.ac).2.2.2
  clear c3 c0 m8 f8 HW6 c3'
  have d3 : W6.cell? ⟨B + 1, 3, none⟩ = some (.int .i64 cd) := by rw [HCD.out]; exact (act_c P6.out.ac).2.2.2
  by_cases hc0 : cd = 0
  · subst hc0
    have d8 : W6.cell? ⟨M, 8, none⟩ = some (.int .i64 0) := P6.out.m.cells.2.2.2.2.2.2.2.2.1
    have f8 : W6.frozen? ⟨M, 8, none⟩ = false := by have c := P6.out.m; unfold MgAt at c; exact fz_row c 8
    obtain ⟨W7, hW7⟩ : ∃ W7, W7 = W6.setCell ⟨M, 8, none⟩ (.int .i64 123) := ⟨_, rfl⟩
    have k7 : Kp W6 W7 (fun k => k = M) := by rw [hW7]; exact (Kp.refl W6 (fun k => k = M)).set (Or.inl rfl) _ _
    obtain ⟨S7', P7'⟩ := S6.out.ans P6.out k7 (m' := { m with code := 123 }) (by have c := P6.out.m; unfold MgAt at c ⊢; rw [hW7]; exact set_row c 8 _) MN.out.1 MN.out.2
    obtain ⟨m2, hm2⟩ : ∃ m2, m2 = { m with code := 123 } := ⟨_, rfl⟩
    rw [← hm2] at P7'
    have S7 := hide S7'
    have P7 := hide P7'
    have HM2 : Hid (∃ c, m2 = { m with code := c }) := ⟨123, hm2⟩
    have CO : Hid (m2.code ≠ 0 ∧ m2.code ≠ 16) := by rw [hm2]; exact ⟨by show (123 : Int) ≠ 0; decide, by show (123 : Int) ≠ 16; decide⟩
    have HW7 := hide hW7
    clear S7' P7' k7 hW7 hm2
    go_upto_region 11 with (go_at_call 6; refine Calls.mono (NU.out _ _) ?_; rintro e w' ⟨rfl, rfl⟩)
    rw [← HW7.out]
    clear HW7 d3 d8 f8
    have AN : Hid (ansOf (askM v) m2) := by
      have z := right_ans tb (askM v)
      obtain ⟨c, hc⟩ := HM2.out
      rw [hc, HM.out, QQ.out]
      exact z
    have c5 : W7.cell? ⟨B + 2, 5, none⟩ = some (.int .i64 (v.part : Int)) := by rw [← MQ.out]; exact P7.out.q.cells.2.2.2.2.2.1
    have LE := hide (leaves_t S7.out.bo st x nv (v.part : Int) (by show 0 ≤ t.lf ∧ t.lf ≤ 1000; rw [HY.out.1]; have := (J.out.ok.job J.out.b).lf; have := J.out.ok.r1; omega) (by show t.ms.length ≤ 1000; rw [J.out.msq]; have := (J.out.ok.job J.out.b).ml; have := (J.out.ok.job J.out.b).pt; have := J.out.ok.p1; omega))
    go_wp2_with (refine wpList_loadCl rfl (.tmp 5) rfl B st x _ rfl P7.out.cl ?_)
    refine Calls.mono LE.out ?_
    rintro e W8 ⟨rfl, l8⟩
    obtain ⟨mv6, s8, k8⟩ := S7.out.lvt l8
    have P8 := hide (P7.out.kp S7.out.bo k8 (fun _ e => Or.inr e))
    have S8 := hide s8
    have S8d := hide (s8.same ((Kp.refl W8 non).drew))
    have P8d := hide (P8.out.kp s8.bo ((Kp.refl W8 non).drew) (fun _ f => f.elim))
    clear s8 k8 l8 LE c5
    obtain ⟨e1, e2, e3, e4, e5, e6⟩ := leaves_lf (t := { t with op := false }) (p := (v.part : Int)) (x := x 0) HY.out.1 HY.out.2.1
    have SZ := HY.out.2.2.2.2.2.2 m (Or.inr (by rw [HM.out, QQ.out]))
    have FE := fin_err J.out m2 AN.out CO.out.1 CO.out.2
    have LL : Hid ((takeL v m2).length ≤ 1) := FE.len
    have FIN : Hid (Ac tb ver R (n + KS) t (hearT (leavesT { t with op := false } (x 0) (v.part : Int)) (takeL v m2)) v (takeX v m2)) := Ac.of (n := n + 2) (by rw [e2, e3]; exact FE) (by have := KB.out; omega) e4 e5 (take_rows _ _) (by rw [e3]; exact Nat.le_succ _) (by rw [e3]; exact fun m hm => Or.inl hm) e6 e1
    have TK := hide (Take_x S8d.out.bo.ex J.out.ok m2 (by obtain ⟨c, hc⟩ := HM2.out; rw [hc]; exact SZ.1) (by obtain ⟨c, hc⟩ := HM2.out; rw [hc]; exact SZ.2))
    obtain ⟨TT, hTT⟩ : ∃ TT, TT = leavesT { t with op := false } (x 0) (v.part : Int) := ⟨_, rfl⟩
    rw [← hTT] at S8 S8d FIN
    clear e1 e2 e3 e4 e5 e6 SZ FE hTT
    go_upto_region 12 with fail
    refine wp_region_held_drew (S := fun Y => Y.heap[T]? = some (.cells (tkA X TT ov mv6) 57) ∧ MgAt Y M m2) (by kernel_rfl) ⟨S8.out.bo.tk.blk, P8.out.m⟩ (fun hHeld => ?_)
    refine wpAnyH_take (i := 0) (v := (.pointer (some ⟨T, 0, none⟩))) rfl (by kernel_rfl) (by kernel_rfl) (by kernel_rfl) (fun _ _ _ h => h) (Or.inl ⟨by kernel_rfl, ?_⟩) (by assumption) ?_
    · intro w' hSw
      (try dsimp only at hSw)
      go_simp
    (try simp only [Act.put, List.getElem_toArray, List.getElem_cons_zero, List.getElem_cons_succ, List.setIfInBounds_toArray, List.set_cons_zero, List.set_cons_succ])
    refine wpAnyH_take (i := 1) (v := (.pointer (some ⟨T, 0, none⟩))) rfl (by kernel_rfl) (by kernel_rfl) (by kernel_rfl) (fun _ _ _ h => h) (Or.inl ⟨by kernel_rfl, ?_⟩) (by assumption) ?_
    · intro w' hSw
      (try dsimp only at hSw)
      go_simp
    (try simp only [Act.put, List.getElem_toArray, List.getElem_cons_zero, List.getElem_cons_succ, List.setIfInBounds_toArray, List.set_cons_zero, List.set_cons_succ])
    refine wpAnyH_take (i := 2) (v := (.pointer (some ⟨T, 0, none⟩))) rfl (by kernel_rfl) (by kernel_rfl) (by kernel_rfl) (fun _ _ _ h => h) (Or.inl ⟨by kernel_rfl, ?_⟩) (by assumption) ?_
    · intro w' hSw
      (try dsimp only at hSw)
      go_simp
    (try simp only [Act.put, List.getElem_toArray, List.getElem_cons_zero, List.getElem_cons_succ, List.setIfInBounds_toArray, List.set_cons_zero, List.set_cons_succ])
    refine wpAnyH_take (i := 3) (v := (.pointer (some ⟨X, 0, none⟩))) rfl (by kernel_rfl) (by kernel_rfl) (by kernel_rfl) (fun _ _ _ h => h) (Or.inl ⟨by kernel_rfl, ?_⟩) (by assumption) ?_
    · intro w' hSw
      (try dsimp only at hSw)
      (have z := (tk_c hSw.1).1; go_simp)
    (try simp only [Act.put, List.getElem_toArray, List.getElem_cons_zero, List.getElem_cons_succ, List.setIfInBounds_toArray, List.set_cons_zero, List.set_cons_succ])
    refine wpAnyH_take (i := 4) (v := (.agg (mgV m2))) rfl (by kernel_rfl) (by kernel_rfl) (by kernel_rfl) (fun _ _ _ h => h) (Or.inl ⟨by kernel_rfl, ?_⟩) (by assumption) ?_
    · intro w' hSw
      (try dsimp only at hSw)
      (exact exec_ldMg (.tmp 10) rfl rfl hSw.2)
    (try simp only [Act.put, List.getElem_toArray, List.getElem_cons_zero, List.getElem_cons_succ, List.setIfInBounds_toArray, List.set_cons_zero, List.set_cons_succ])
    refine wpAnyH_ready (rs := [5]) (by kernel_rfl) (by simp) ?_
    refine AllReadyH.cons rfl (fun K hK => ?_) AllReadyH.nil
    go_simp
    refine Calls.mono TK.out ?_
    rintro e W9 ⟨u, Z9, rfl, o9, l9⟩
    have S9 := hide (S8d.out.lv l9)
    have P9 := hide (P8d.out.kp S8d.out.bo l9.kp (fun _ e => Or.inl (Or.inl e)))
    obtain ⟨ln, hln⟩ : ∃ ln, ln = (takeL v m2).length := ⟨_, rfl⟩
    obtain ⟨ua, uc, hu⟩ := own_sl o9
    rw [← hln] at hu
    subst hu
    have HE := hide (hear_t S9.out.bo.tk o9 LL.out)
    clear o9 l9 TK hln
    refine hK.out _ _ (⟨S9.out.bo.tk.blk, P9.out.m⟩) (fun hHeld => ?_)
    clear hK
    (try simp only [Act.put, List.setIfInBounds_toArray, List.set_cons_zero, List.set_cons_succ])
    refine wpAnyH_take (i := 6) (v := (.tuple #[.slice ua ln uc, .int .i64 0])) rfl (by kernel_rfl) (by kernel_rfl) (by kernel_rfl) (fun _ _ _ h => h) (Or.inl ⟨by kernel_rfl, ?_⟩) (by assumption) ?_
    · intro w' hSw
      (try dsimp only at hSw)
      go_simp
    (try simp only [Act.put, List.getElem_toArray, List.getElem_cons_zero, List.getElem_cons_succ, List.setIfInBounds_toArray, List.set_cons_zero, List.set_cons_succ])
    refine wpAnyH_take (i := 7) (v := (.slice ua ln uc)) rfl (by kernel_rfl) (by kernel_rfl) (by kernel_rfl) (fun _ _ _ h => h) (Or.inl ⟨by kernel_rfl, ?_⟩) (by assumption) ?_
    · intro w' hSw
      (try dsimp only at hSw)
      go_simp
    (try simp only [Act.put, List.getElem_toArray, List.getElem_cons_zero, List.getElem_cons_succ, List.setIfInBounds_toArray, List.set_cons_zero, List.set_cons_succ])
    refine wpAnyH_take (i := 8) (v := (.int .i64 0)) rfl (by kernel_rfl) (by kernel_rfl) (by kernel_rfl) (fun _ _ _ h => h) (Or.inl ⟨by kernel_rfl, ?_⟩) (by assumption) ?_
    · intro w' hSw
      (try dsimp only at hSw)
      go_simp
    (try simp only [Act.put, List.getElem_toArray, List.getElem_cons_zero, List.getElem_cons_succ, List.setIfInBounds_toArray, List.set_cons_zero, List.set_cons_succ])
    refine wpAnyH_ready (rs := [9]) (by kernel_rfl) (by simp) ?_
    refine AllReadyH.cons rfl (fun K hK => ?_) AllReadyH.nil
    go_simp
    refine hK.out _ _ (⟨S9.out.bo.tk.blk, P9.out.m⟩) (fun hHeld => ?_)
    clear hK
    (try simp only [Act.put, List.setIfInBounds_toArray, List.set_cons_zero, List.set_cons_succ])
    refine wpAnyH_ready (rs := [10]) (by kernel_rfl) (by simp) ?_
    refine AllReadyH.cons rfl (fun K hK => ?_) AllReadyH.nil
    go_simp
    refine hK.out _ _ (⟨S9.out.bo.tk.blk, P9.out.m⟩) (fun hHeld => ?_)
    clear hK
    (try simp only [Act.put, List.setIfInBounds_toArray, List.set_cons_zero, List.set_cons_succ])
    refine wpAnyH_done (by kernel_rfl) ?_ _
    clear hHeld
    go_wp2_with fail
    refine Calls.mono HE.out ?_
    rintro e WA ⟨rfl, tA, kA⟩
    have SA := hide (S9.out.talk kA tA)
    clear tA kA HE
    go_wp2_with fail
    go_ret
    exact ⟨rfl, _, _, _, _, _, SA.out, FIN.out⟩
  by_cases hc1 : cd = 16
  · subst hc1
    have d8 : W6.cell? ⟨M, 8, none⟩ = some (.int .i64 16) := P6.out.m.cells.2.2.2.2.2.2.2.2.1
    have f8 : W6.frozen? ⟨M, 8, none⟩ = false := by have c := P6.out.m; unfold MgAt at c; exact fz_row c 8
    obtain ⟨W7, hW7⟩ : ∃ W7, W7 = W6.setCell ⟨M, 8, none⟩ (.int .i64 123) := ⟨_, rfl⟩
    have k7 : Kp W6 W7 (fun k => k = M) := by rw [hW7]; exact (Kp.refl W6 (fun k => k = M)).set (Or.inl rfl) _ _
    obtain ⟨S7', P7'⟩ := S6.out.ans P6.out k7 (m' := { m with code := 123 }) (by have c := P6.out.m; unfold MgAt at c ⊢; rw [hW7]; exact set_row c 8 _) MN.out.1 MN.out.2
    obtain ⟨m2, hm2⟩ : ∃ m2, m2 = { m with code := 123 } := ⟨_, rfl⟩
    rw [← hm2] at P7'
    have S7 := hide S7'
    have P7 := hide P7'
    have HM2 : Hid (∃ c, m2 = { m with code := c }) := ⟨123, hm2⟩
    have CO : Hid (m2.code ≠ 0 ∧ m2.code ≠ 16) := by rw [hm2]; exact ⟨by show (123 : Int) ≠ 0; decide, by show (123 : Int) ≠ 16; decide⟩
    have HW7 := hide hW7
    clear S7' P7' k7 hW7 hm2
    go_upto_region 11 with (go_at_call 6; refine Calls.mono (NU.out _ _) ?_; rintro e w' ⟨rfl, rfl⟩)
    rw [← HW7.out]
    clear HW7 d3 d8 f8
    have AN : Hid (ansOf (askM v) m2) := by
      have z := right_ans tb (askM v)
      obtain ⟨c, hc⟩ := HM2.out
      rw [hc, HM.out, QQ.out]
      exact z
    have c5 : W7.cell? ⟨B + 2, 5, none⟩ = some (.int .i64 (v.part : Int)) := by rw [← MQ.out]; exact P7.out.q.cells.2.2.2.2.2.1
    have LE := hide (leaves_t S7.out.bo st x nv (v.part : Int) (by show 0 ≤ t.lf ∧ t.lf ≤ 1000; rw [HY.out.1]; have := (J.out.ok.job J.out.b).lf; have := J.out.ok.r1; omega) (by show t.ms.length ≤ 1000; rw [J.out.msq]; have := (J.out.ok.job J.out.b).ml; have := (J.out.ok.job J.out.b).pt; have := J.out.ok.p1; omega))
    go_wp2_with (refine wpList_loadCl rfl (.tmp 5) rfl B st x _ rfl P7.out.cl ?_)
    refine Calls.mono LE.out ?_
    rintro e W8 ⟨rfl, l8⟩
    obtain ⟨mv6, s8, k8⟩ := S7.out.lvt l8
    have P8 := hide (P7.out.kp S7.out.bo k8 (fun _ e => Or.inr e))
    have S8 := hide s8
    have S8d := hide (s8.same ((Kp.refl W8 non).drew))
    have P8d := hide (P8.out.kp s8.bo ((Kp.refl W8 non).drew) (fun _ f => f.elim))
    clear s8 k8 l8 LE c5
    obtain ⟨e1, e2, e3, e4, e5, e6⟩ := leaves_lf (t := { t with op := false }) (p := (v.part : Int)) (x := x 0) HY.out.1 HY.out.2.1
    have SZ := HY.out.2.2.2.2.2.2 m (Or.inr (by rw [HM.out, QQ.out]))
    have FE := fin_err J.out m2 AN.out CO.out.1 CO.out.2
    have LL : Hid ((takeL v m2).length ≤ 1) := FE.len
    have FIN : Hid (Ac tb ver R (n + KS) t (hearT (leavesT { t with op := false } (x 0) (v.part : Int)) (takeL v m2)) v (takeX v m2)) := Ac.of (n := n + 2) (by rw [e2, e3]; exact FE) (by have := KB.out; omega) e4 e5 (take_rows _ _) (by rw [e3]; exact Nat.le_succ _) (by rw [e3]; exact fun m hm => Or.inl hm) e6 e1
    have TK := hide (Take_x S8d.out.bo.ex J.out.ok m2 (by obtain ⟨c, hc⟩ := HM2.out; rw [hc]; exact SZ.1) (by obtain ⟨c, hc⟩ := HM2.out; rw [hc]; exact SZ.2))
    obtain ⟨TT, hTT⟩ : ∃ TT, TT = leavesT { t with op := false } (x 0) (v.part : Int) := ⟨_, rfl⟩
    rw [← hTT] at S8 S8d FIN
    clear e1 e2 e3 e4 e5 e6 SZ FE hTT
    go_upto_region 12 with fail
    refine wp_region_held_drew (S := fun Y => Y.heap[T]? = some (.cells (tkA X TT ov mv6) 57) ∧ MgAt Y M m2) (by kernel_rfl) ⟨S8.out.bo.tk.blk, P8.out.m⟩ (fun hHeld => ?_)
    refine wpAnyH_take (i := 0) (v := (.pointer (some ⟨T, 0, none⟩))) rfl (by kernel_rfl) (by kernel_rfl) (by kernel_rfl) (fun _ _ _ h => h) (Or.inl ⟨by kernel_rfl, ?_⟩) (by assumption) ?_
    · intro w' hSw
      (try dsimp only at hSw)
      go_simp
    (try simp only [Act.put, List.getElem_toArray, List.getElem_cons_zero, List.getElem_cons_succ, List.setIfInBounds_toArray, List.set_cons_zero, List.set_cons_succ])
    refine wpAnyH_take (i := 1) (v := (.pointer (some ⟨T, 0, none⟩))) rfl (by kernel_rfl) (by kernel_rfl) (by kernel_rfl) (fun _ _ _ h => h) (Or.inl ⟨by kernel_rfl, ?_⟩) (by assumption) ?_
    · intro w' hSw
      (try dsimp only at hSw)
      go_simp
    (try simp only [Act.put, List.getElem_toArray, List.getElem_cons_zero, List.getElem_cons_succ, List.setIfInBounds_toArray, List.set_cons_zero, List.set_cons_succ])
    refine wpAnyH_take (i := 2) (v := (.pointer (some ⟨T, 0, none⟩))) rfl (by kernel_rfl) (by kernel_rfl) (by kernel_rfl) (fun _ _ _ h => h) (Or.inl ⟨by kernel_rfl, ?_⟩) (by assumption) ?_
    · intro w' hSw
      (try dsimp only at hSw)
      go_simp
    (try simp only [Act.put, List.getElem_toArray, List.getElem_cons_zero, List.getElem_cons_succ, List.setIfInBounds_toArray, List.set_cons_zero, List.set_cons_succ])
    refine wpAnyH_take (i := 3) (v := (.pointer (some ⟨X, 0, none⟩))) rfl (by kernel_rfl) (by kernel_rfl) (by kernel_rfl) (fun _ _ _ h => h) (Or.inl ⟨by kernel_rfl, ?_⟩) (by assumption) ?_
    · intro w' hSw
      (try dsimp only at hSw)
      (have z := (tk_c hSw.1).1; go_simp)
    (try simp only [Act.put, List.getElem_toArray, List.getElem_cons_zero, List.getElem_cons_succ, List.setIfInBounds_toArray, List.set_cons_zero, List.set_cons_succ])
    refine wpAnyH_take (i := 4) (v := (.agg (mgV m2))) rfl (by kernel_rfl) (by kernel_rfl) (by kernel_rfl) (fun _ _ _ h => h) (Or.inl ⟨by kernel_rfl, ?_⟩) (by assumption) ?_
    · intro w' hSw
      (try dsimp only at hSw)
      (exact exec_ldMg (.tmp 10) rfl rfl hSw.2)
    (try simp only [Act.put, List.getElem_toArray, List.getElem_cons_zero, List.getElem_cons_succ, List.setIfInBounds_toArray, List.set_cons_zero, List.set_cons_succ])
    refine wpAnyH_ready (rs := [5]) (by kernel_rfl) (by simp) ?_
    refine AllReadyH.cons rfl (fun K hK => ?_) AllReadyH.nil
    go_simp
    refine Calls.mono TK.out ?_
    rintro e W9 ⟨u, Z9, rfl, o9, l9⟩
    have S9 := hide (S8d.out.lv l9)
    have P9 := hide (P8d.out.kp S8d.out.bo l9.kp (fun _ e => Or.inl (Or.inl e)))
    obtain ⟨ln, hln⟩ : ∃ ln, ln = (takeL v m2).length := ⟨_, rfl⟩
    obtain ⟨ua, uc, hu⟩ := own_sl o9
    rw [← hln] at hu
    subst hu
    have HE := hide (hear_t S9.out.bo.tk o9 LL.out)
    clear o9 l9 TK hln
    refine hK.out _ _ (⟨S9.out.bo.tk.blk, P9.out.m⟩) (fun hHeld => ?_)
    clear hK
    (try simp only [Act.put, List.setIfInBounds_toArray, List.set_cons_zero, List.set_cons_succ])
    refine wpAnyH_take (i := 6) (v := (.tuple #[.slice ua ln uc, .int .i64 0])) rfl (by kernel_rfl) (by kernel_rfl) (by kernel_rfl) (fun _ _ _ h => h) (Or.inl ⟨by kernel_rfl, ?_⟩) (by assumption) ?_
    · intro w' hSw
      (try dsimp only at hSw)
      go_simp
    (try simp only [Act.put, List.getElem_toArray, List.getElem_cons_zero, List.getElem_cons_succ, List.setIfInBounds_toArray, List.set_cons_zero, List.set_cons_succ])
    refine wpAnyH_take (i := 7) (v := (.slice ua ln uc)) rfl (by kernel_rfl) (by kernel_rfl) (by kernel_rfl) (fun _ _ _ h => h) (Or.inl ⟨by kernel_rfl, ?_⟩) (by assumption) ?_
    · intro w' hSw
      (try dsimp only at hSw)
      go_simp
    (try simp only [Act.put, List.getElem_toArray, List.getElem_cons_zero, List.getElem_cons_succ, List.setIfInBounds_toArray, List.set_cons_zero, List.set_cons_succ])
    refine wpAnyH_take (i := 8) (v := (.int .i64 0)) rfl (by kernel_rfl) (by kernel_rfl) (by kernel_rfl) (fun _ _ _ h => h) (Or.inl ⟨by kernel_rfl, ?_⟩) (by assumption) ?_
    · intro w' hSw
      (try dsimp only at hSw)
      go_simp
    (try simp only [Act.put, List.getElem_toArray, List.getElem_cons_zero, List.getElem_cons_succ, List.setIfInBounds_toArray, List.set_cons_zero, List.set_cons_succ])
    refine wpAnyH_ready (rs := [9]) (by kernel_rfl) (by simp) ?_
    refine AllReadyH.cons rfl (fun K hK => ?_) AllReadyH.nil
    go_simp
    refine hK.out _ _ (⟨S9.out.bo.tk.blk, P9.out.m⟩) (fun hHeld => ?_)
    clear hK
    (try simp only [Act.put, List.setIfInBounds_toArray, List.set_cons_zero, List.set_cons_succ])
    refine wpAnyH_ready (rs := [10]) (by kernel_rfl) (by simp) ?_
    refine AllReadyH.cons rfl (fun K hK => ?_) AllReadyH.nil
    go_simp
    refine hK.out _ _ (⟨S9.out.bo.tk.blk, P9.out.m⟩) (fun hHeld => ?_)
    clear hK
    (try simp only [Act.put, List.setIfInBounds_toArray, List.set_cons_zero, List.set_cons_succ])
    refine wpAnyH_done (by kernel_rfl) ?_ _
    clear hHeld
    go_wp2_with fail
    refine Calls.mono HE.out ?_
    rintro e WA ⟨rfl, tA, kA⟩
    have SA := hide (S9.out.talk kA tA)
    clear tA kA HE
    go_wp2_with fail
    go_ret
    exact ⟨rfl, _, _, _, _, _, SA.out, FIN.out⟩
  have q0 : (cd == 0) = false := by simp [hc0]
  have q1 : (cd == 16) = false := by simp [hc1]
  obtain ⟨W7, hW7⟩ : ∃ W7, W7 = W6 := ⟨_, rfl⟩
  obtain ⟨m2, hm2⟩ : ∃ m2, m2 = { m with code := cd } := ⟨_, rfl⟩
  rw [← hm2] at P6
  rw [← hW7] at P6 S6
  have S7 := hide S6.out
  have P7 := hide P6.out
  have HM2 : Hid (∃ c, m2 = { m with code := c }) := ⟨cd, hm2⟩
  have CO : Hid (m2.code ≠ 0 ∧ m2.code ≠ 16) := by rw [hm2]; exact ⟨hc0, hc1⟩
  have HW7 := hide hW7
  clear hW7 hm2
  go_upto_region 11 with (go_at_call 6; refine Calls.mono (NU.out _ _) ?_; rintro e w' ⟨rfl, rfl⟩)
  rw [← HW7.out]
  clear HW7 d3 q0 q1
  have AN : Hid (ansOf (askM v) m2) := by
    have z := right_ans tb (askM v)
    obtain ⟨c, hc⟩ := HM2.out
    rw [hc, HM.out, QQ.out]
    exact z
  have c5 : W7.cell? ⟨B + 2, 5, none⟩ = some (.int .i64 (v.part : Int)) := by rw [← MQ.out]; exact P7.out.q.cells.2.2.2.2.2.1
  have LE := hide (leaves_t S7.out.bo st x nv (v.part : Int) (by show 0 ≤ t.lf ∧ t.lf ≤ 1000; rw [HY.out.1]; have := (J.out.ok.job J.out.b).lf; have := J.out.ok.r1; omega) (by show t.ms.length ≤ 1000; rw [J.out.msq]; have := (J.out.ok.job J.out.b).ml; have := (J.out.ok.job J.out.b).pt; have := J.out.ok.p1; omega))
  go_wp2_with (refine wpList_loadCl rfl (.tmp 5) rfl B st x _ rfl P7.out.cl ?_)
  refine Calls.mono LE.out ?_
  rintro e W8 ⟨rfl, l8⟩
  obtain ⟨mv6, s8, k8⟩ := S7.out.lvt l8
  have P8 := hide (P7.out.kp S7.out.bo k8 (fun _ e => Or.inr e))
  have S8 := hide s8
  have S8d := hide (s8.same ((Kp.refl W8 non).drew))
  have P8d := hide (P8.out.kp s8.bo ((Kp.refl W8 non).drew) (fun _ f => f.elim))
  clear s8 k8 l8 LE c5
  obtain ⟨e1, e2, e3, e4, e5, e6⟩ := leaves_lf (t := { t with op := false }) (p := (v.part : Int)) (x := x 0) HY.out.1 HY.out.2.1
  have SZ := HY.out.2.2.2.2.2.2 m (Or.inr (by rw [HM.out, QQ.out]))
  have FE := fin_err J.out m2 AN.out CO.out.1 CO.out.2
  have LL : Hid ((takeL v m2).length ≤ 1) := FE.len
  have FIN : Hid (Ac tb ver R (n + KS) t (hearT (leavesT { t with op := false } (x 0) (v.part : Int)) (takeL v m2)) v (takeX v m2)) := Ac.of (n := n + 2) (by rw [e2, e3]; exact FE) (by have := KB.out; omega) e4 e5 (take_rows _ _) (by rw [e3]; exact Nat.le_succ _) (by rw [e3]; exact fun m hm => Or.inl hm) e6 e1
  have TK := hide (Take_x S8d.out.bo.ex J.out.ok m2 (by obtain ⟨c, hc⟩ := HM2.out; rw [hc]; exact SZ.1) (by obtain ⟨c, hc⟩ := HM2.out; rw [hc]; exact SZ.2))
  obtain ⟨TT, hTT⟩ : ∃ TT, TT = leavesT { t with op := false } (x 0) (v.part : Int) := ⟨_, rfl⟩
  rw [← hTT] at S8 S8d FIN
  clear e1 e2 e3 e4 e5 e6 SZ FE hTT
  go_upto_region 12 with fail
  refine wp_region_held_drew (S := fun Y => Y.heap[T]? = some (.cells (tkA X TT ov mv6) 57) ∧ MgAt Y M m2) (by kernel_rfl) ⟨S8.out.bo.tk.blk, P8.out.m⟩ (fun hHeld => ?_)
  refine wpAnyH_take (i := 0) (v := (.pointer (some ⟨T, 0, none⟩))) rfl (by kernel_rfl) (by kernel_rfl) (by kernel_rfl) (fun _ _ _ h => h) (Or.inl ⟨by kernel_rfl, ?_⟩) (by assumption) ?_
  · intro w' hSw
    (try dsimp only at hSw)
    go_simp
  (try simp only [Act.put, List.getElem_toArray, List.getElem_cons_zero, List.getElem_cons_succ, List.setIfInBounds_toArray, List.set_cons_zero, List.set_cons_succ])
  refine wpAnyH_take (i := 1) (v := (.pointer (some ⟨T, 0, none⟩))) rfl (by kernel_rfl) (by kernel_rfl) (by kernel_rfl) (fun _ _ _ h => h) (Or.inl ⟨by kernel_rfl, ?_⟩) (by assumption) ?_
  · intro w' hSw
    (try dsimp only at hSw)
    go_simp
  (try simp only [Act.put, List.getElem_toArray, List.getElem_cons_zero, List.getElem_cons_succ, List.setIfInBounds_toArray, List.set_cons_zero, List.set_cons_succ])
  refine wpAnyH_take (i := 2) (v := (.pointer (some ⟨T, 0, none⟩))) rfl (by kernel_rfl) (by kernel_rfl) (by kernel_rfl) (fun _ _ _ h => h) (Or.inl ⟨by kernel_rfl, ?_⟩) (by assumption) ?_
  · intro w' hSw
    (try dsimp only at hSw)
    go_simp
  (try simp only [Act.put, List.getElem_toArray, List.getElem_cons_zero, List.getElem_cons_succ, List.setIfInBounds_toArray, List.set_cons_zero, List.set_cons_succ])
  refine wpAnyH_take (i := 3) (v := (.pointer (some ⟨X, 0, none⟩))) rfl (by kernel_rfl) (by kernel_rfl) (by kernel_rfl) (fun _ _ _ h => h) (Or.inl ⟨by kernel_rfl, ?_⟩) (by assumption) ?_
  · intro w' hSw
    (try dsimp only at hSw)
    (have z := (tk_c hSw.1).1; go_simp)
  (try simp only [Act.put, List.getElem_toArray, List.getElem_cons_zero, List.getElem_cons_succ, List.setIfInBounds_toArray, List.set_cons_zero, List.set_cons_succ])
  refine wpAnyH_take (i := 4) (v := (.agg (mgV m2))) rfl (by kernel_rfl) (by kernel_rfl) (by kernel_rfl) (fun _ _ _ h => h) (Or.inl ⟨by kernel_rfl, ?_⟩) (by assumption) ?_
  · intro w' hSw
    (try dsimp only at hSw)
    (exact exec_ldMg (.tmp 10) rfl rfl hSw.2)
  (try simp only [Act.put, List.getElem_toArray, List.getElem_cons_zero, List.getElem_cons_succ, List.setIfInBounds_toArray, List.set_cons_zero, List.set_cons_succ])
  refine wpAnyH_ready (rs := [5]) (by kernel_rfl) (by simp) ?_
  refine AllReadyH.cons rfl (fun K hK => ?_) AllReadyH.nil
  go_simp
  refine Calls.mono TK.out ?_
  rintro e W9 ⟨u, Z9, rfl, o9, l9⟩
  have S9 := hide (S8d.out.lv l9)
  have P9 := hide (P8d.out.kp S8d.out.bo l9.kp (fun _ e => Or.inl (Or.inl e)))
  obtain ⟨ln, hln⟩ : ∃ ln, ln = (takeL v m2).length := ⟨_, rfl⟩
  obtain ⟨ua, uc, hu⟩ := own_sl o9
  rw [← hln] at hu
  subst hu
  have HE := hide (hear_t S9.out.bo.tk o9 LL.out)
  clear o9 l9 TK hln
  refine hK.out _ _ (⟨S9.out.bo.tk.blk, P9.out.m⟩) (fun hHeld => ?_)
  clear hK
  (try simp only [Act.put, List.setIfInBounds_toArray, List.set_cons_zero, List.set_cons_succ])
  refine wpAnyH_take (i := 6) (v := (.tuple #[.slice ua ln uc, .int .i64 0])) rfl (by kernel_rfl) (by kernel_rfl) (by kernel_rfl) (fun _ _ _ h => h) (Or.inl ⟨by kernel_rfl, ?_⟩) (by assumption) ?_
  · intro w' hSw
    (try dsimp only at hSw)
    go_simp
  (try simp only [Act.put, List.getElem_toArray, List.getElem_cons_zero, List.getElem_cons_succ, List.setIfInBounds_toArray, List.set_cons_zero, List.set_cons_succ])
  refine wpAnyH_take (i := 7) (v := (.slice ua ln uc)) rfl (by kernel_rfl) (by kernel_rfl) (by kernel_rfl) (fun _ _ _ h => h) (Or.inl ⟨by kernel_rfl, ?_⟩) (by assumption) ?_
  · intro w' hSw
    (try dsimp only at hSw)
    go_simp
  (try simp only [Act.put, List.getElem_toArray, List.getElem_cons_zero, List.getElem_cons_succ, List.setIfInBounds_toArray, List.set_cons_zero, List.set_cons_succ])
  refine wpAnyH_take (i := 8) (v := (.int .i64 0)) rfl (by kernel_rfl) (by kernel_rfl) (by kernel_rfl) (fun _ _ _ h => h) (Or.inl ⟨by kernel_rfl, ?_⟩) (by assumption) ?_
  · intro w' hSw
    (try dsimp only at hSw)
    go_simp
  (try simp only [Act.put, List.getElem_toArray, List.getElem_cons_zero, List.getElem_cons_succ, List.setIfInBounds_toArray, List.set_cons_zero, List.set_cons_succ])
  refine wpAnyH_ready (rs := [9]) (by kernel_rfl) (by simp) ?_
  refine AllReadyH.cons rfl (fun K hK => ?_) AllReadyH.nil
  go_simp
  refine hK.out _ _ (⟨S9.out.bo.tk.blk, P9.out.m⟩) (fun hHeld => ?_)
  clear hK
  (try simp only [Act.put, List.setIfInBounds_toArray, List.set_cons_zero, List.set_cons_succ])
  refine wpAnyH_ready (rs := [10]) (by kernel_rfl) (by simp) ?_
  refine AllReadyH.cons rfl (fun K hK => ?_) AllReadyH.nil
  go_simp
  refine hK.out _ _ (⟨S9.out.bo.tk.blk, P9.out.m⟩) (fun hHeld => ?_)
  clear hK
  (try simp only [Act.put, List.setIfInBounds_toArray, List.set_cons_zero, List.set_cons_succ])
  refine wpAnyH_done (by kernel_rfl) ?_ _
  clear hHeld
  go_wp2_with fail
  refine Calls.mono HE.out ?_
  rintro e WA ⟨rfl, tA, kA⟩
  have SA := hide (S9.out.talk kA tA)
  clear tA kA HE
  go_wp2_with fail
  go_ret
  exact ⟨rfl, _, _, _, _, _, SA.out, FIN.out⟩
end Go.Proofs.Ytbmhllcbkeblfaa.Cn
