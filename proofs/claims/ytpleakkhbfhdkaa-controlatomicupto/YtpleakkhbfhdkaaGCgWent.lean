import Derived.Test.YtpleakkhbfhdkaaGCgEnd2
namespace Go.Proofs.Ytpleakkhbfhdkaa.Cn
open Go.RowKit
theorem exec_mid {ρ : Operand → Value} {o : Oper} {w : World} {b k : Nat} {cs : List Value} (ty : TypeId) (x : Operand) (ho : o.op = .load ty x) (hx : ρ x = .pointer (some ⟨b, k, none⟩)) (hr : w.rangeAt b k cs) {fs} (hu : Try.prog.underlying ty = some (.struct fs)) (hi : (Try.prog.info? ty).map (·.size) = some cs.length) : (execOp ρ o).run Try.prog w = .ok (.value (.agg cs.toArray)) w := by
  have hl := run_loadAt_mid (P := Try.prog) w b k ty cs _ hr hu rfl hi
  unfold execOp
  simp only [ho, Sem.run_bind, Sem.run_pure, Result.andThen_ok, hx, hl]
theorem range_same {w X : World} {g o : Nat} {cs : List Value} (h : w.rangeAt g o cs) (e : X.heap[g]? = w.heap[g]?) : X.rangeAt g o cs := fun j u hj => by
  have := h j u hj
  unfold World.cell? at *
  rw [e]
  exact this
set_option maxHeartbeats 8000000 in
set_option maxRecDepth 100000 in
set_option linter.unusedSimpArgs false in
set_option linter.unusedVariables false in
theorem went_on {N : Nat} {w : World} {B C : Nat} {S : Nat → Prop} {nv lv fv bv av : Value} {p : Pl} (h : PlX N w B C S nv lv fv bv av p) {n : Nat} (hf : p.c.fine) (hnn : p.nd.length = n) (hnf : p.fe.length = n) (n16 : n ≤ 16) {v : Value} {L : List Mg} (hv : w.ownsRow N 44 11 v L.length (mgs L)) (hvl : ∀ k, v.ownBlock = some k → lv.ownBlock ≠ some k) (hL : L.length ≤ 16) (hlt : p.lt.length ≤ 1000000000) (hout : ∀ m ∈ L, OutI n p.job p.kind p.ver (bkL p.bk L) (feF p) m) (hph : p.c.ph.isSome = true) :
    Calls Try.prog 41 #[.pointer (some ⟨B, 0, none⟩), v, .int .i64 0, .bool true] w fun e w' => e = .returned (.bool true) ∧ ∃ lv', PlX N w' B C S nv lv' fv bv av { p with lt := p.lt ++ L, bk := bkL p.bk L } ∧ Below N w w' ∧ w'.ownsRow N 44 11 v L.length (mgs L) := by
  obtain ⟨va, vc, rfl⟩ := own_sl hv
  obtain ⟨nl, hnl⟩ : ∃ nl, nl = L.length := ⟨_, rfl⟩
  have HV : Hid (w.ownsRow N 44 11 (.slice va nl vc) L.length (mgs L)) := by rw [hnl]; exact hv
  have HVL : Hid (∀ k, (Value.slice va nl vc).ownBlock = some k → lv.ownBlock ≠ some k) := by rw [hnl]; exact hvl
  rw [← hnl] at hL ⊢
  have H := hide h
  have HF := hide hf
  have HNN := hide hnn
  have HNF := hide hnf
  have HOUT := hide hout
  have HLT := hide hlt
  have HNL := hide hnl
  have HPH := hide hph
  have NU := hide (num_any 0)
  clear h hf hnn hnf hv hvl hlt hout hnl hph
  go_enter Try.func41, Try.ntmps41
  go_wp2_with fail
  refine Calls.mono (NU.out _) ?_
  rintro e w9 ⟨rfl, rfl⟩
  go_wp2_with fail
  go_loopw [9] (fun vi wr => ∃ (i : Nat) (lvi : Value), i ≤ nl ∧ vi = .int .i64 (i : Int) ∧ Hid (PlX N wr B C S nv lvi fv bv av { p with lt := p.lt ++ L.take i, bk := bkL p.bk (L.take i) }) ∧ Hid (wr.ownsRow N 44 11 (.slice va nl vc) L.length (mgs L)) ∧ Hid (∀ k, (Value.slice va nl vc).ownBlock = some k → lvi.ownBlock ≠ some k) ∧ Hid (Below N w wr)) (fun vi _ => nl - (intOf vi).toNat)
  case atStart => exact ⟨0, lv, Nat.zero_le _, rfl, by rw [List.take_zero, List.append_nil]; show Hid (PlX N w B C S nv lv fv bv av { p with bk := p.bk || false }); rw [Bool.or_false]; exact H.out, HV.out, HVL.out, Below.refl _ _⟩
  case round =>
    obtain ⟨i, lvi, hi, rfl, HP, HR, HVi, HB⟩ := hrel
    by_cases hin : i < nl
    case neg =>
      obtain rfl : i = nl := by omega
      have eL : L.take i = L := by rw [HNL.out, List.take_length]
      rw [eL] at HP
      have BU := hide (busy_any HP.out.ct (by exact HF.out.n1))
      have x0 := HP.out.cells.1
      have HPH' : Hid (({ p with lt := p.lt ++ L, bk := bkL p.bk L } : Pl).c.ph.isSome = true) := HPH.out
      clear eL
      go_wp2_with fail
      refine Calls.mono BU.out ?_
      rintro e w9 ⟨rfl, rfl⟩
      rw [HPH'.out]
      go_wp2_with fail
      go_ret
      refine ⟨rfl, _, HP.out, HB.out, ?_⟩
      have hR := HR.out
      rw [← HNL.out] at hR
      exact hR
    case pos =>
      have hii : (i : Int) < (nl : Int) := by omega
      have hiL : i < L.length := by rw [← HNL.out]; exact hin
      obtain ⟨g, c9, hv9, hg, cl, rg⟩ := own_mg HR.out i hiL
      have e8 : va = some ⟨g, 0, none⟩ := by simp only [Value.slice.injEq] at hv9; exact hv9.1
      clear hv9
      subst e8
      obtain ⟨mi, hmi⟩ : ∃ mi, mi = L[i] := ⟨_, rfl⟩
      rw [← hmi] at cl rg
      have OU := HOUT.out _ (List.getElem_mem hiL)
      rw [← hmi] at OU
      have TS : Hid (p.lt ++ L.take (i + 1) = p.lt ++ L.take i ++ [mi]) := by rw [List.take_succ_eq_append_getElem hiL, hmi, List.append_assoc]; exact rfl
      have BS : Hid (bkL p.bk (L.take (i + 1)) = (bkL p.bk (L.take i) || (mi.kind == 7))) := by rw [hmi]; exact bkL_succ _ _ _ hiL
      have lq : Hid ((p.lt ++ L.take i).length ≤ 1000000000000) := by
        rw [List.length_append, List.length_take]
        have := HLT.out
        unfold Hid
        omega
      have RI := right_any HP.out (by show p.fe.length ≤ 16; rw [HNF.out]; exact n16) (by show p.nd.length ≤ 16; rw [HNN.out]; exact n16) mi (out_right OU HNN.out HNF.out _ (fun e => bkL_mono _ _ _ e) _)
      replace RI := hide RI
      have RG0 := hide rg
      have GB : Hid (g ≠ B) := fun e => row_type HR.out HP.out.ob (by decide) g rfl e
      have KD := cl.1
      have y0 := hide KD
      have hg' := hide hg
      clear cl rg OU hmi hiL KD hg
      go_upto_region 8 with (first | refine wpList_load_mid rfl 44 (.tmp 22) rfl g (i * 11) rfl (mgV mi).toList _ RG0.out Try.underlying44 rfl mg_info ?_ | (go_at_call 54; refine Calls.mono RI.out ?_; rintro e W1 ⟨rfl, b1⟩))
      have P1 := hide (HP.out.below b1)
      have R1 := hide (own_below HR.out b1)
      have B1 : Hid (Below N w W1) := HB.out.trans (b1.mono HP.out.gN)
      have RG1 : Hid (W1.rangeAt g (i * 11) (mgV mi).toList) := range_same RG0.out (b1.block g hg'.out)
      have y1 : W1.cell? ⟨g, i * 11, none⟩ = some (.int .i64 mi.kind) := by unfold World.cell?; rw [b1.block g hg'.out]; exact y0.out
      have g1 : Hid (g < W1.heap.size) := Nat.lt_of_lt_of_le hg'.out b1.size
      clear b1 RI HP HR HB RG0 y0 hg'
      by_cases k7 : mi.kind = 7
      case pos =>
        have q7 : (mi.kind == 7) = true := by simpa using k7
        have HK7 := hide q7
        have x8 : ∃ b, W1.cell? ⟨B, 8, none⟩ = some (.bool b) := ⟨_, P1.out.cells.2.2.2.2.2.2.2.2.1⟩
        obtain ⟨x8b, x8⟩ := x8
        have z8 : W1.frozen? ⟨B, 8, none⟩ = false := fz_row P1.out.ob 8
        obtain ⟨W2, hW2⟩ : ∃ X, X = W1.setCell ⟨B, 8, none⟩ (.bool true) := ⟨_, rfl⟩
        have kp2 : Kp W1 W2 (fun k => k = B) := by rw [hW2]; exact (Kp.refl W1 (fun k => k = B)).set (Or.inl rfl) _ _
        have P2x : Hid (PlX N W2 B C S nv lvi fv bv av { p with lt := p.lt ++ L.take i, bk := true }) := by
          rw [hW2]
          exact P1.out.set p.job p.kind p.ver true 8 (.bool true) rfl
        have RW : Hid (W2.ownsRow N 44 11 (.slice (some ⟨g, 0, none⟩) nl vc) L.length (mgs L)) := own_kp R1.out kp2 (fun k e f => GB.out (by have e' : g = k := (by simpa [Value.ownBlock] using e); rw [e']; exact f))
        have BW : Hid (Below N w W2) := B1.out.trans (kp2.toN P1.out.gN (fun k e => by rw [e]; exact P1.out.gB))
        have RG : Hid (W2.rangeAt g (i * 11) (mgV mi).toList) := range_same RG1.out (kp2.block g g1.out GB.out)
        have gW : Hid (g < W2.heap.size) := Nat.lt_of_lt_of_le g1.out kp2.size
        replace hW2 := hide hW2
        clear k7 kp2
        go_upto_region 10 with fail
        rw [← hW2.out]
        clear hW2 x8 z8 y1 P1 R1 B1 RG1 g1 q7
        obtain ⟨q, hq⟩ : ∃ q, q = ({ p with lt := p.lt ++ L.take i, bk := true } : Pl) := ⟨_, rfl⟩
        have HQ := hide hq
        have PW0 := P2x.out
        rw [← hq] at PW0
        have hlq : Hid (q.lt.length ≤ 1000000000000) := by rw [hq]; exact lq.out
        obtain ⟨la, lc, hlv⟩ := own_sl PW0.lt
        subst hlv
        have PW := hide PW0
        have x2 : W2.cell? ⟨B, 2, none⟩ = some (.slice la q.lt.length lc) := PW0.cells.2.2.1
        have VLq : Hid (∀ k, (Value.slice la q.lt.length lc).ownBlock = some k → k ≠ g) := fun k e f => HVi.out g rfl (by rw [← f]; exact e)
        have gB := GB
        clear hq PW0 lq
        refine wp_region_held_drew (S := fun X => X.heap[g]? = W2.heap[g]?) (by kernel_rfl) rfl (fun hHeld => ?_)
        refine wpAnyH_take (i := 0) (v := (.pointer (some ⟨B, 0, none⟩))) rfl (by kernel_rfl) (by kernel_rfl) (by kernel_rfl) (fun _ _ _ h => h) (Or.inl ⟨by kernel_rfl, ?_⟩) (by assumption) ?_
        · intro w' hSw
          (try dsimp only at hSw)
          go_simp
        (try simp only [Act.put, List.getElem_toArray, List.getElem_cons_zero, List.getElem_cons_succ, List.setIfInBounds_toArray, List.set_cons_zero, List.set_cons_succ])
        refine wpAnyH_take (i := 1) (v := (.pointer (some ⟨B, 0, none⟩))) rfl (by kernel_rfl) (by kernel_rfl) (by kernel_rfl) (fun _ _ _ h => h) (Or.inl ⟨by kernel_rfl, ?_⟩) (by assumption) ?_
        · intro w' hSw
          (try dsimp only at hSw)
          go_simp
        (try simp only [Act.put, List.getElem_toArray, List.getElem_cons_zero, List.getElem_cons_succ, List.setIfInBounds_toArray, List.set_cons_zero, List.set_cons_succ])
        refine wpAnyH_take (i := 2) (v := (.pointer (some ⟨B, 0, none⟩))) rfl (by kernel_rfl) (by kernel_rfl) (by kernel_rfl) (fun _ _ _ h => h) (Or.inl ⟨by kernel_rfl, ?_⟩) (by assumption) ?_
        · intro w' hSw
          (try dsimp only at hSw)
          go_simp
        (try simp only [Act.put, List.getElem_toArray, List.getElem_cons_zero, List.getElem_cons_succ, List.setIfInBounds_toArray, List.set_cons_zero, List.set_cons_succ])
        refine wpAnyH_take (i := 3) (v := (.pointer (some ⟨B, 2, none⟩))) rfl (by kernel_rfl) (by kernel_rfl) (by kernel_rfl) (fun _ _ _ h => h) (Or.inl ⟨by kernel_rfl, ?_⟩) (by assumption) ?_
        · intro w' hSw
          (try dsimp only at hSw)
          go_simp
        (try simp only [Act.put, List.getElem_toArray, List.getElem_cons_zero, List.getElem_cons_succ, List.setIfInBounds_toArray, List.set_cons_zero, List.set_cons_succ])
        refine wpAnyH_take (i := 5) (v := (.slice (some ⟨g, 0, none⟩) nl vc)) rfl (by kernel_rfl) (by kernel_rfl) (by kernel_rfl) (fun _ _ _ h => h) (Or.inl ⟨by kernel_rfl, ?_⟩) (by assumption) ?_
        · intro w' hSw
          (try dsimp only at hSw)
          go_simp
        (try simp only [Act.put, List.getElem_toArray, List.getElem_cons_zero, List.getElem_cons_succ, List.setIfInBounds_toArray, List.set_cons_zero, List.set_cons_succ])
        refine wpAnyH_take (i := 6) (v := (.int .i64 (i : Int))) rfl (by kernel_rfl) (by kernel_rfl) (by kernel_rfl) (fun _ _ _ h => h) (Or.inl ⟨by kernel_rfl, ?_⟩) (by assumption) ?_
        · intro w' hSw
          (try dsimp only at hSw)
          go_simp
        (try simp only [Act.put, List.getElem_toArray, List.getElem_cons_zero, List.getElem_cons_succ, List.setIfInBounds_toArray, List.set_cons_zero, List.set_cons_succ])
        refine wpAnyH_take (i := 7) (v := (.pointer (some ⟨g, i * 11, none⟩))) rfl (by kernel_rfl) (by kernel_rfl) (by kernel_rfl) (fun _ _ _ h => h) (Or.inl ⟨by kernel_rfl, ?_⟩) (by assumption) ?_
        · intro w' hSw
          (try dsimp only at hSw)
          go_simp
        (try simp only [Act.put, List.getElem_toArray, List.getElem_cons_zero, List.getElem_cons_succ, List.setIfInBounds_toArray, List.set_cons_zero, List.set_cons_succ])
        refine wpAnyH_take (i := 8) (v := (.agg (mgV mi))) rfl (by kernel_rfl) (by kernel_rfl) (by kernel_rfl) (fun _ _ _ h => h) (Or.inl ⟨by kernel_rfl, ?_⟩) (by assumption) ?_
        · intro w' hSw
          (try dsimp only at hSw)
          (exact exec_mid 44 (.tmp 42) rfl rfl (range_same RG.out hSw) Try.underlying44 mg_info)
        (try simp only [Act.put, List.getElem_toArray, List.getElem_cons_zero, List.getElem_cons_succ, List.setIfInBounds_toArray, List.set_cons_zero, List.set_cons_succ])
        obtain ⟨W9, hW9⟩ : ∃ X, X = W2.drew.alloc (.cells (mgV mi) 44) := ⟨_, rfl⟩
        obtain ⟨J9, hJ9⟩ : ∃ J, J = W2.drew.heap.size := ⟨_, rfl⟩
        have K9 : Hid (Kp W2 W9 non) := by rw [hW9]; exact ((Kp.refl W2 non).drew).alloc _
        have M9 : Hid (W9.heap[J9]? = some (.cells (mgV mi) 44)) := by rw [hW9, hJ9]; exact heap_last _ _
        have P9 := hide (PW.out.kp K9.out (fun _ f => f.elim))
        have G9 : Hid (W9.heap[g]? = W2.heap[g]?) := K9.out.block _ gW.out (fun f => f)
        refine wpAnyH_ready (rs := [4, 9]) (by kernel_rfl) (by simp) ?_
        refine AllReadyH.cons rfl (fun K hK => ?_) (AllReadyH.cons rfl (fun K hK => ?_) AllReadyH.nil)
        · skip
          go_simp
          refine hK.out _ _ (rfl) (fun hHeld => ?_)
          clear hK
          (try simp only [Act.put, List.setIfInBounds_toArray, List.set_cons_zero, List.set_cons_succ])
          refine wpAnyH_ready (rs := [9]) (by kernel_rfl) (by simp) ?_
          refine AllReadyH.cons rfl (fun K hK => ?_) AllReadyH.nil
          refine wp_bsM (.tmp 43) rfl mi rfl ?_
          rw [← hW9, ← hJ9]
          clear hW9 hJ9
          refine hK.out _ _ (G9.out) (fun hHeld => ?_)
          clear hK
          (try simp only [Act.put, List.setIfInBounds_toArray, List.set_cons_zero, List.set_cons_succ])
          clear x2
          refine wpAnyH_ready (rs := [10]) (by kernel_rfl) (by simp) ?_
          refine AllReadyH.cons rfl (fun K hK => ?_) AllReadyH.nil
          refine ite_yes (by rfl) ?_
          refine wp_apM (.tmp 39) (.tmp 44) ?hAW2o N (.slice la q.lt.length lc) q.lt ?hAW2s P9.out.lt J9 mi ?hAW2x M9.out hlq.out P9.out.gN ?hAW2k
          case hAW2o => rfl
          case hAW2s => kernel_rfl
          case hAW2x => kernel_rfl
          intro v2 w4 o4 g4 at4
          obtain ⟨hB4, hP4, hK4⟩ := P9.out.app o4 g4 at4
          obtain ⟨g2, cap2, hv2⟩ := own_g o4 (by omega)
          have VL5 : Hid (∀ k, v2.ownBlock = some k → k ≠ g) := fun k e f => by
            rcases at4 with z | z
            · exact VLq.out k (z.symm.trans e) f
            · rw [z] at e
              have := Nat.lt_of_lt_of_le gW.out K9.out.size
              simp at e
              omega
          have G4 : Hid (w4.heap[g]? = W2.heap[g]?) := (g4.block g (Nat.lt_of_lt_of_le gW.out K9.out.size) (fun e => VLq.out g e.symm rfl)).trans G9.out
          subst hv2
          have k3 : w4.cell? ⟨B, 2, none⟩ = some (.slice la q.lt.length lc) := by unfold World.cell?; rw [hB4, P9.out.ob]; rfl
          have z3 : w4.frozen? ⟨B, 2, none⟩ = false := by unfold World.frozen?; rw [hB4, P9.out.ob]; simp
          obtain ⟨W5, hW5⟩ : ∃ X, X = w4.setCell ⟨B, 2, none⟩ (.slice (some ⟨g2, 0, none⟩) (q.lt.length + 1) cap2) := ⟨_, rfl⟩
          rw [← hW5] at hP4 hK4
          have P5 := hide hP4
          have K5 : Hid (Kp W2 W5 (fun k => k = B ∨ (Value.slice la q.lt.length lc).ownBlock = some k)) := (K9.out.mono (fun _ f => f.elim)).trans hK4 (fun _ e => Or.inl e)
          replace hW5 := hide hW5
          clear hP4 hK4 hB4 o4 g4 at4
          refine hK.out _ _ (G4.out) (fun hHeld => ?_)
          clear hK
          (try simp only [Act.put, List.setIfInBounds_toArray, List.set_cons_zero, List.set_cons_succ])
          refine wpAnyH_take (i := 11) (v := (.pointer (some ⟨B, 0, none⟩))) rfl (by kernel_rfl) (by kernel_rfl) (by kernel_rfl) (fun _ _ _ h => h) (Or.inl ⟨by kernel_rfl, ?_⟩) (by assumption) ?_
          · intro w' hSw
            (try dsimp only at hSw)
            go_simp
          (try simp only [Act.put, List.getElem_toArray, List.getElem_cons_zero, List.getElem_cons_succ, List.setIfInBounds_toArray, List.set_cons_zero, List.set_cons_succ])
          refine wpAnyH_take (i := 12) (v := (.pointer (some ⟨B, 2, none⟩))) rfl (by kernel_rfl) (by kernel_rfl) (by kernel_rfl) (fun _ _ _ h => h) (Or.inl ⟨by kernel_rfl, ?_⟩) (by assumption) ?_
          · intro w' hSw
            (try dsimp only at hSw)
            go_simp
          (try simp only [Act.put, List.getElem_toArray, List.getElem_cons_zero, List.getElem_cons_succ, List.setIfInBounds_toArray, List.set_cons_zero, List.set_cons_succ])
          refine wpAnyH_ready (rs := [13]) (by kernel_rfl) (by simp) ?_
          refine AllReadyH.cons rfl (fun K hK => ?_) AllReadyH.nil
          go_simp
          rw [← hW5.out]
          clear hW5 k3 z3
          refine hK.out _ _ ((K5.out.block g gW.out (fun e => by rcases e with e | e; exact gB.out e; exact VLq.out g e rfl))) (fun hHeld => ?_)
          clear hK
          (try simp only [Act.put, List.setIfInBounds_toArray, List.set_cons_zero, List.set_cons_succ])
          refine wpAnyH_done (by kernel_rfl) ?_ _
          clear hHeld
          have EQ : { q with lt := q.lt ++ [mi] } = ({ p with lt := p.lt ++ L.take (i + 1), bk := bkL p.bk (L.take (i + 1)) } : Pl) := by rw [TS.out, BS.out, HK7.out, HQ.out]; first | rfl | rw [Bool.or_true] | rw [Bool.or_false]
          have P6 := P5.out
          rw [EQ] at P6
          have P7 := hide P6
          have R5 : Hid (W5.ownsRow N 44 11 (.slice (some ⟨g, 0, none⟩) nl vc) L.length (mgs L)) := own_kp RW.out K5.out (fun k e f => by
            have e' : g = k := by simpa [Value.ownBlock] using e
            rcases f with f | f
            · exact gB.out (e'.trans f)
            · exact VLq.out k f e'.symm)
          have B5 : Hid (Below N w W5) := BW.out.trans (K5.out.toN PW.out.gN (fun k e => by rcases e with e | e; rw [e]; exact PW.out.gB; exact own_ge PW.out.lt e))
          have V5 : Hid (∀ k, (Value.slice (some ⟨g, 0, none⟩) nl vc).ownBlock = some k → (Value.slice (some ⟨g2, 0, none⟩) (q.lt.length + 1) cap2).ownBlock ≠ some k) := fun k e f => by
            have e' : g = k := by simpa [Value.ownBlock] using e
            exact VL5.out k f e'.symm
          clear EQ P6 P5 K5
          go_wp2_with fail
          exact ⟨⟨i + 1, _, by omega, rfl, P7.out, R5.out, V5.out, B5.out⟩, by simp [intOf]; omega⟩
        · skip
          refine wp_bsM (.tmp 43) rfl mi rfl ?_
          rw [← hW9, ← hJ9]
          clear hW9 hJ9 x2
          refine hK.out _ _ (G9.out) (fun hHeld => ?_)
          clear hK
          (try simp only [Act.put, List.setIfInBounds_toArray, List.set_cons_zero, List.set_cons_succ])
          have x29 : W9.cell? ⟨B, 2, none⟩ = some (.slice la q.lt.length lc) := P9.out.cells.2.2.1
          refine wpAnyH_ready (rs := [4]) (by kernel_rfl) (by simp) ?_
          refine AllReadyH.cons rfl (fun K hK => ?_) AllReadyH.nil
          go_simp
          refine hK.out _ _ (G9.out) (fun hHeld => ?_)
          clear hK
          (try simp only [Act.put, List.setIfInBounds_toArray, List.set_cons_zero, List.set_cons_succ])
          clear x29
          refine wpAnyH_ready (rs := [10]) (by kernel_rfl) (by simp) ?_
          refine AllReadyH.cons rfl (fun K hK => ?_) AllReadyH.nil
          refine ite_yes (by rfl) ?_
          refine wp_apM (.tmp 39) (.tmp 44) ?hBW2o N (.slice la q.lt.length lc) q.lt ?hBW2s P9.out.lt J9 mi ?hBW2x M9.out hlq.out P9.out.gN ?hBW2k
          case hBW2o => rfl
          case hBW2s => kernel_rfl
          case hBW2x => kernel_rfl
          intro v2 w4 o4 g4 at4
          obtain ⟨hB4, hP4, hK4⟩ := P9.out.app o4 g4 at4
          obtain ⟨g2, cap2, hv2⟩ := own_g o4 (by omega)
          have VL5 : Hid (∀ k, v2.ownBlock = some k → k ≠ g) := fun k e f => by
            rcases at4 with z | z
            · exact VLq.out k (z.symm.trans e) f
            · rw [z] at e
              have := Nat.lt_of_lt_of_le gW.out K9.out.size
              simp at e
              omega
          have G4 : Hid (w4.heap[g]? = W2.heap[g]?) := (g4.block g (Nat.lt_of_lt_of_le gW.out K9.out.size) (fun e => VLq.out g e.symm rfl)).trans G9.out
          subst hv2
          have k3 : w4.cell? ⟨B, 2, none⟩ = some (.slice la q.lt.length lc) := by unfold World.cell?; rw [hB4, P9.out.ob]; rfl
          have z3 : w4.frozen? ⟨B, 2, none⟩ = false := by unfold World.frozen?; rw [hB4, P9.out.ob]; simp
          obtain ⟨W5, hW5⟩ : ∃ X, X = w4.setCell ⟨B, 2, none⟩ (.slice (some ⟨g2, 0, none⟩) (q.lt.length + 1) cap2) := ⟨_, rfl⟩
          rw [← hW5] at hP4 hK4
          have P5 := hide hP4
          have K5 : Hid (Kp W2 W5 (fun k => k = B ∨ (Value.slice la q.lt.length lc).ownBlock = some k)) := (K9.out.mono (fun _ f => f.elim)).trans hK4 (fun _ e => Or.inl e)
          replace hW5 := hide hW5
          clear hP4 hK4 hB4 o4 g4 at4
          refine hK.out _ _ (G4.out) (fun hHeld => ?_)
          clear hK
          (try simp only [Act.put, List.setIfInBounds_toArray, List.set_cons_zero, List.set_cons_succ])
          refine wpAnyH_take (i := 11) (v := (.pointer (some ⟨B, 0, none⟩))) rfl (by kernel_rfl) (by kernel_rfl) (by kernel_rfl) (fun _ _ _ h => h) (Or.inl ⟨by kernel_rfl, ?_⟩) (by assumption) ?_
          · intro w' hSw
            (try dsimp only at hSw)
            go_simp
          (try simp only [Act.put, List.getElem_toArray, List.getElem_cons_zero, List.getElem_cons_succ, List.setIfInBounds_toArray, List.set_cons_zero, List.set_cons_succ])
          refine wpAnyH_take (i := 12) (v := (.pointer (some ⟨B, 2, none⟩))) rfl (by kernel_rfl) (by kernel_rfl) (by kernel_rfl) (fun _ _ _ h => h) (Or.inl ⟨by kernel_rfl, ?_⟩) (by assumption) ?_
          · intro w' hSw
            (try dsimp only at hSw)
            go_simp
          (try simp only [Act.put, List.getElem_toArray, List.getElem_cons_zero, List.getElem_cons_succ, List.setIfInBounds_toArray, List.set_cons_zero, List.set_cons_succ])
          refine wpAnyH_ready (rs := [13]) (by kernel_rfl) (by simp) ?_
          refine AllReadyH.cons rfl (fun K hK => ?_) AllReadyH.nil
          go_simp
          rw [← hW5.out]
          clear hW5 k3 z3
          refine hK.out _ _ ((K5.out.block g gW.out (fun e => by rcases e with e | e; exact gB.out e; exact VLq.out g e rfl))) (fun hHeld => ?_)
          clear hK
          (try simp only [Act.put, List.setIfInBounds_toArray, List.set_cons_zero, List.set_cons_succ])
          refine wpAnyH_done (by kernel_rfl) ?_ _
          clear hHeld
          have EQ : { q with lt := q.lt ++ [mi] } = ({ p with lt := p.lt ++ L.take (i + 1), bk := bkL p.bk (L.take (i + 1)) } : Pl) := by rw [TS.out, BS.out, HK7.out, HQ.out]; first | rfl | rw [Bool.or_true] | rw [Bool.or_false]
          have P6 := P5.out
          rw [EQ] at P6
          have P7 := hide P6
          have R5 : Hid (W5.ownsRow N 44 11 (.slice (some ⟨g, 0, none⟩) nl vc) L.length (mgs L)) := own_kp RW.out K5.out (fun k e f => by
            have e' : g = k := by simpa [Value.ownBlock] using e
            rcases f with f | f
            · exact gB.out (e'.trans f)
            · exact VLq.out k f e'.symm)
          have B5 : Hid (Below N w W5) := BW.out.trans (K5.out.toN PW.out.gN (fun k e => by rcases e with e | e; rw [e]; exact PW.out.gB; exact own_ge PW.out.lt e))
          have V5 : Hid (∀ k, (Value.slice (some ⟨g, 0, none⟩) nl vc).ownBlock = some k → (Value.slice (some ⟨g2, 0, none⟩) (q.lt.length + 1) cap2).ownBlock ≠ some k) := fun k e f => by
            have e' : g = k := by simpa [Value.ownBlock] using e
            exact VL5.out k f e'.symm
          clear EQ P6 P5 K5
          go_wp2_with fail
          exact ⟨⟨i + 1, _, by omega, rfl, P7.out, R5.out, V5.out, B5.out⟩, by simp [intOf]; omega⟩
      case neg =>
        have q7 : (mi.kind == 7) = false := by simpa using k7
        have HK7 := hide q7
        have P1x := P1
        have RW := R1
        have BW := B1
        have RG := RG1
        have gW := g1
        clear k7
        go_upto_region 10 with fail
        clear y1 P1 R1 B1 RG1 g1 q7
        obtain ⟨q, hq⟩ : ∃ q, q = ({ p with lt := p.lt ++ L.take i, bk := bkL p.bk (L.take i) } : Pl) := ⟨_, rfl⟩
        have HQ := hide hq
        have PW0 := P1x.out
        rw [← hq] at PW0
        have hlq : Hid (q.lt.length ≤ 1000000000000) := by rw [hq]; exact lq.out
        obtain ⟨la, lc, hlv⟩ := own_sl PW0.lt
        subst hlv
        have PW := hide PW0
        have x2 : W1.cell? ⟨B, 2, none⟩ = some (.slice la q.lt.length lc) := PW0.cells.2.2.1
        have VLq : Hid (∀ k, (Value.slice la q.lt.length lc).ownBlock = some k → k ≠ g) := fun k e f => HVi.out g rfl (by rw [← f]; exact e)
        have gB := GB
        clear hq PW0 lq
        refine wp_region_held_drew (S := fun X => X.heap[g]? = W1.heap[g]?) (by kernel_rfl) rfl (fun hHeld => ?_)
        refine wpAnyH_take (i := 0) (v := (.pointer (some ⟨B, 0, none⟩))) rfl (by kernel_rfl) (by kernel_rfl) (by kernel_rfl) (fun _ _ _ h => h) (Or.inl ⟨by kernel_rfl, ?_⟩) (by assumption) ?_
        · intro w' hSw
          (try dsimp only at hSw)
          go_simp
        (try simp only [Act.put, List.getElem_toArray, List.getElem_cons_zero, List.getElem_cons_succ, List.setIfInBounds_toArray, List.set_cons_zero, List.set_cons_succ])
        refine wpAnyH_take (i := 1) (v := (.pointer (some ⟨B, 0, none⟩))) rfl (by kernel_rfl) (by kernel_rfl) (by kernel_rfl) (fun _ _ _ h => h) (Or.inl ⟨by kernel_rfl, ?_⟩) (by assumption) ?_
        · intro w' hSw
          (try dsimp only at hSw)
          go_simp
        (try simp only [Act.put, List.getElem_toArray, List.getElem_cons_zero, List.getElem_cons_succ, List.setIfInBounds_toArray, List.set_cons_zero, List.set_cons_succ])
        refine wpAnyH_take (i := 2) (v := (.pointer (some ⟨B, 0, none⟩))) rfl (by kernel_rfl) (by kernel_rfl) (by kernel_rfl) (fun _ _ _ h => h) (Or.inl ⟨by kernel_rfl, ?_⟩) (by assumption) ?_
        · intro w' hSw
          (try dsimp only at hSw)
          go_simp
        (try simp only [Act.put, List.getElem_toArray, List.getElem_cons_zero, List.getElem_cons_succ, List.setIfInBounds_toArray, List.set_cons_zero, List.set_cons_succ])
        refine wpAnyH_take (i := 3) (v := (.pointer (some ⟨B, 2, none⟩))) rfl (by kernel_rfl) (by kernel_rfl) (by kernel_rfl) (fun _ _ _ h => h) (Or.inl ⟨by kernel_rfl, ?_⟩) (by assumption) ?_
        · intro w' hSw
          (try dsimp only at hSw)
          go_simp
        (try simp only [Act.put, List.getElem_toArray, List.getElem_cons_zero, List.getElem_cons_succ, List.setIfInBounds_toArray, List.set_cons_zero, List.set_cons_succ])
        refine wpAnyH_take (i := 5) (v := (.slice (some ⟨g, 0, none⟩) nl vc)) rfl (by kernel_rfl) (by kernel_rfl) (by kernel_rfl) (fun _ _ _ h => h) (Or.inl ⟨by kernel_rfl, ?_⟩) (by assumption) ?_
        · intro w' hSw
          (try dsimp only at hSw)
          go_simp
        (try simp only [Act.put, List.getElem_toArray, List.getElem_cons_zero, List.getElem_cons_succ, List.setIfInBounds_toArray, List.set_cons_zero, List.set_cons_succ])
        refine wpAnyH_take (i := 6) (v := (.int .i64 (i : Int))) rfl (by kernel_rfl) (by kernel_rfl) (by kernel_rfl) (fun _ _ _ h => h) (Or.inl ⟨by kernel_rfl, ?_⟩) (by assumption) ?_
        · intro w' hSw
          (try dsimp only at hSw)
          go_simp
        (try simp only [Act.put, List.getElem_toArray, List.getElem_cons_zero, List.getElem_cons_succ, List.setIfInBounds_toArray, List.set_cons_zero, List.set_cons_succ])
        refine wpAnyH_take (i := 7) (v := (.pointer (some ⟨g, i * 11, none⟩))) rfl (by kernel_rfl) (by kernel_rfl) (by kernel_rfl) (fun _ _ _ h => h) (Or.inl ⟨by kernel_rfl, ?_⟩) (by assumption) ?_
        · intro w' hSw
          (try dsimp only at hSw)
          go_simp
        (try simp only [Act.put, List.getElem_toArray, List.getElem_cons_zero, List.getElem_cons_succ, List.setIfInBounds_toArray, List.set_cons_zero, List.set_cons_succ])
        refine wpAnyH_take (i := 8) (v := (.agg (mgV mi))) rfl (by kernel_rfl) (by kernel_rfl) (by kernel_rfl) (fun _ _ _ h => h) (Or.inl ⟨by kernel_rfl, ?_⟩) (by assumption) ?_
        · intro w' hSw
          (try dsimp only at hSw)
          (exact exec_mid 44 (.tmp 42) rfl rfl (range_same RG.out hSw) Try.underlying44 mg_info)
        (try simp only [Act.put, List.getElem_toArray, List.getElem_cons_zero, List.getElem_cons_succ, List.setIfInBounds_toArray, List.set_cons_zero, List.set_cons_succ])
        obtain ⟨W9, hW9⟩ : ∃ X, X = W1.drew.alloc (.cells (mgV mi) 44) := ⟨_, rfl⟩
        obtain ⟨J9, hJ9⟩ : ∃ J, J = W1.drew.heap.size := ⟨_, rfl⟩
        have K9 : Hid (Kp W1 W9 non) := by rw [hW9]; exact ((Kp.refl W1 non).drew).alloc _
        have M9 : Hid (W9.heap[J9]? = some (.cells (mgV mi) 44)) := by rw [hW9, hJ9]; exact heap_last _ _
        have P9 := hide (PW.out.kp K9.out (fun _ f => f.elim))
        have G9 : Hid (W9.heap[g]? = W1.heap[g]?) := K9.out.block _ gW.out (fun f => f)
        refine wpAnyH_ready (rs := [4, 9]) (by kernel_rfl) (by simp) ?_
        refine AllReadyH.cons rfl (fun K hK => ?_) (AllReadyH.cons rfl (fun K hK => ?_) AllReadyH.nil)
        · skip
          go_simp
          refine hK.out _ _ (rfl) (fun hHeld => ?_)
          clear hK
          (try simp only [Act.put, List.setIfInBounds_toArray, List.set_cons_zero, List.set_cons_succ])
          refine wpAnyH_ready (rs := [9]) (by kernel_rfl) (by simp) ?_
          refine AllReadyH.cons rfl (fun K hK => ?_) AllReadyH.nil
          refine wp_bsM (.tmp 43) rfl mi rfl ?_
          rw [← hW9, ← hJ9]
          clear hW9 hJ9
          refine hK.out _ _ (G9.out) (fun hHeld => ?_)
          clear hK
          (try simp only [Act.put, List.setIfInBounds_toArray, List.set_cons_zero, List.set_cons_succ])
          clear x2
          refine wpAnyH_ready (rs := [10]) (by kernel_rfl) (by simp) ?_
          refine AllReadyH.cons rfl (fun K hK => ?_) AllReadyH.nil
          refine ite_yes (by rfl) ?_
          refine wp_apM (.tmp 39) (.tmp 44) ?hAW1o N (.slice la q.lt.length lc) q.lt ?hAW1s P9.out.lt J9 mi ?hAW1x M9.out hlq.out P9.out.gN ?hAW1k
          case hAW1o => rfl
          case hAW1s => kernel_rfl
          case hAW1x => kernel_rfl
          intro v2 w4 o4 g4 at4
          obtain ⟨hB4, hP4, hK4⟩ := P9.out.app o4 g4 at4
          obtain ⟨g2, cap2, hv2⟩ := own_g o4 (by omega)
          have VL5 : Hid (∀ k, v2.ownBlock = some k → k ≠ g) := fun k e f => by
            rcases at4 with z | z
            · exact VLq.out k (z.symm.trans e) f
            · rw [z] at e
              have := Nat.lt_of_lt_of_le gW.out K9.out.size
              simp at e
              omega
          have G4 : Hid (w4.heap[g]? = W1.heap[g]?) := (g4.block g (Nat.lt_of_lt_of_le gW.out K9.out.size) (fun e => VLq.out g e.symm rfl)).trans G9.out
          subst hv2
          have k3 : w4.cell? ⟨B, 2, none⟩ = some (.slice la q.lt.length lc) := by unfold World.cell?; rw [hB4, P9.out.ob]; rfl
          have z3 : w4.frozen? ⟨B, 2, none⟩ = false := by unfold World.frozen?; rw [hB4, P9.out.ob]; simp
          obtain ⟨W5, hW5⟩ : ∃ X, X = w4.setCell ⟨B, 2, none⟩ (.slice (some ⟨g2, 0, none⟩) (q.lt.length + 1) cap2) := ⟨_, rfl⟩
          rw [← hW5] at hP4 hK4
          have P5 := hide hP4
          have K5 : Hid (Kp W1 W5 (fun k => k = B ∨ (Value.slice la q.lt.length lc).ownBlock = some k)) := (K9.out.mono (fun _ f => f.elim)).trans hK4 (fun _ e => Or.inl e)
          replace hW5 := hide hW5
          clear hP4 hK4 hB4 o4 g4 at4
          refine hK.out _ _ (G4.out) (fun hHeld => ?_)
          clear hK
          (try simp only [Act.put, List.setIfInBounds_toArray, List.set_cons_zero, List.set_cons_succ])
          refine wpAnyH_take (i := 11) (v := (.pointer (some ⟨B, 0, none⟩))) rfl (by kernel_rfl) (by kernel_rfl) (by kernel_rfl) (fun _ _ _ h => h) (Or.inl ⟨by kernel_rfl, ?_⟩) (by assumption) ?_
          · intro w' hSw
            (try dsimp only at hSw)
            go_simp
          (try simp only [Act.put, List.getElem_toArray, List.getElem_cons_zero, List.getElem_cons_succ, List.setIfInBounds_toArray, List.set_cons_zero, List.set_cons_succ])
          refine wpAnyH_take (i := 12) (v := (.pointer (some ⟨B, 2, none⟩))) rfl (by kernel_rfl) (by kernel_rfl) (by kernel_rfl) (fun _ _ _ h => h) (Or.inl ⟨by kernel_rfl, ?_⟩) (by assumption) ?_
          · intro w' hSw
            (try dsimp only at hSw)
            go_simp
          (try simp only [Act.put, List.getElem_toArray, List.getElem_cons_zero, List.getElem_cons_succ, List.setIfInBounds_toArray, List.set_cons_zero, List.set_cons_succ])
          refine wpAnyH_ready (rs := [13]) (by kernel_rfl) (by simp) ?_
          refine AllReadyH.cons rfl (fun K hK => ?_) AllReadyH.nil
          go_simp
          rw [← hW5.out]
          clear hW5 k3 z3
          refine hK.out _ _ ((K5.out.block g gW.out (fun e => by rcases e with e | e; exact gB.out e; exact VLq.out g e rfl))) (fun hHeld => ?_)
          clear hK
          (try simp only [Act.put, List.setIfInBounds_toArray, List.set_cons_zero, List.set_cons_succ])
          refine wpAnyH_done (by kernel_rfl) ?_ _
          clear hHeld
          have EQ : { q with lt := q.lt ++ [mi] } = ({ p with lt := p.lt ++ L.take (i + 1), bk := bkL p.bk (L.take (i + 1)) } : Pl) := by rw [TS.out, BS.out, HK7.out, HQ.out]; first | rfl | rw [Bool.or_true] | rw [Bool.or_false]
          have P6 := P5.out
          rw [EQ] at P6
          have P7 := hide P6
          have R5 : Hid (W5.ownsRow N 44 11 (.slice (some ⟨g, 0, none⟩) nl vc) L.length (mgs L)) := own_kp RW.out K5.out (fun k e f => by
            have e' : g = k := by simpa [Value.ownBlock] using e
            rcases f with f | f
            · exact gB.out (e'.trans f)
            · exact VLq.out k f e'.symm)
          have B5 : Hid (Below N w W5) := BW.out.trans (K5.out.toN PW.out.gN (fun k e => by rcases e with e | e; rw [e]; exact PW.out.gB; exact own_ge PW.out.lt e))
          have V5 : Hid (∀ k, (Value.slice (some ⟨g, 0, none⟩) nl vc).ownBlock = some k → (Value.slice (some ⟨g2, 0, none⟩) (q.lt.length + 1) cap2).ownBlock ≠ some k) := fun k e f => by
            have e' : g = k := by simpa [Value.ownBlock] using e
            exact VL5.out k f e'.symm
          clear EQ P6 P5 K5
          go_wp2_with fail
          exact ⟨⟨i + 1, _, by omega, rfl, P7.out, R5.out, V5.out, B5.out⟩, by simp [intOf]; omega⟩
        · skip
          refine wp_bsM (.tmp 43) rfl mi rfl ?_
          rw [← hW9, ← hJ9]
          clear hW9 hJ9 x2
          refine hK.out _ _ (G9.out) (fun hHeld => ?_)
          clear hK
          (try simp only [Act.put, List.setIfInBounds_toArray, List.set_cons_zero, List.set_cons_succ])
          have x29 : W9.cell? ⟨B, 2, none⟩ = some (.slice la q.lt.length lc) := P9.out.cells.2.2.1
          refine wpAnyH_ready (rs := [4]) (by kernel_rfl) (by simp) ?_
          refine AllReadyH.cons rfl (fun K hK => ?_) AllReadyH.nil
          go_simp
          refine hK.out _ _ (G9.out) (fun hHeld => ?_)
          clear hK
          (try simp only [Act.put, List.setIfInBounds_toArray, List.set_cons_zero, List.set_cons_succ])
          clear x29
          refine wpAnyH_ready (rs := [10]) (by kernel_rfl) (by simp) ?_
          refine AllReadyH.cons rfl (fun K hK => ?_) AllReadyH.nil
          refine ite_yes (by rfl) ?_
          refine wp_apM (.tmp 39) (.tmp 44) ?hBW1o N (.slice la q.lt.length lc) q.lt ?hBW1s P9.out.lt J9 mi ?hBW1x M9.out hlq.out P9.out.gN ?hBW1k
          case hBW1o => rfl
          case hBW1s => kernel_rfl
          case hBW1x => kernel_rfl
          intro v2 w4 o4 g4 at4
          obtain ⟨hB4, hP4, hK4⟩ := P9.out.app o4 g4 at4
          obtain ⟨g2, cap2, hv2⟩ := own_g o4 (by omega)
          have VL5 : Hid (∀ k, v2.ownBlock = some k → k ≠ g) := fun k e f => by
            rcases at4 with z | z
            · exact VLq.out k (z.symm.trans e) f
            · rw [z] at e
              have := Nat.lt_of_lt_of_le gW.out K9.out.size
              simp at e
              omega
          have G4 : Hid (w4.heap[g]? = W1.heap[g]?) := (g4.block g (Nat.lt_of_lt_of_le gW.out K9.out.size) (fun e => VLq.out g e.symm rfl)).trans G9.out
          subst hv2
          have k3 : w4.cell? ⟨B, 2, none⟩ = some (.slice la q.lt.length lc) := by unfold World.cell?; rw [hB4, P9.out.ob]; rfl
          have z3 : w4.frozen? ⟨B, 2, none⟩ = false := by unfold World.frozen?; rw [hB4, P9.out.ob]; simp
          obtain ⟨W5, hW5⟩ : ∃ X, X = w4.setCell ⟨B, 2, none⟩ (.slice (some ⟨g2, 0, none⟩) (q.lt.length + 1) cap2) := ⟨_, rfl⟩
          rw [← hW5] at hP4 hK4
          have P5 := hide hP4
          have K5 : Hid (Kp W1 W5 (fun k => k = B ∨ (Value.slice la q.lt.length lc).ownBlock = some k)) := (K9.out.mono (fun _ f => f.elim)).trans hK4 (fun _ e => Or.inl e)
          replace hW5 := hide hW5
          clear hP4 hK4 hB4 o4 g4 at4
          refine hK.out _ _ (G4.out) (fun hHeld => ?_)
          clear hK
          (try simp only [Act.put, List.setIfInBounds_toArray, List.set_cons_zero, List.set_cons_succ])
          refine wpAnyH_take (i := 11) (v := (.pointer (some ⟨B, 0, none⟩))) rfl (by kernel_rfl) (by kernel_rfl) (by kernel_rfl) (fun _ _ _ h => h) (Or.inl ⟨by kernel_rfl, ?_⟩) (by assumption) ?_
          · intro w' hSw
            (try dsimp only at hSw)
            go_simp
          (try simp only [Act.put, List.getElem_toArray, List.getElem_cons_zero, List.getElem_cons_succ, List.setIfInBounds_toArray, List.set_cons_zero, List.set_cons_succ])
          refine wpAnyH_take (i := 12) (v := (.pointer (some ⟨B, 2, none⟩))) rfl (by kernel_rfl) (by kernel_rfl) (by kernel_rfl) (fun _ _ _ h => h) (Or.inl ⟨by kernel_rfl, ?_⟩) (by assumption) ?_
          · intro w' hSw
            (try dsimp only at hSw)
            go_simp
          (try simp only [Act.put, List.getElem_toArray, List.getElem_cons_zero, List.getElem_cons_succ, List.setIfInBounds_toArray, List.set_cons_zero, List.set_cons_succ])
          refine wpAnyH_ready (rs := [13]) (by kernel_rfl) (by simp) ?_
          refine AllReadyH.cons rfl (fun K hK => ?_) AllReadyH.nil
          go_simp
          rw [← hW5.out]
          clear hW5 k3 z3
          refine hK.out _ _ ((K5.out.block g gW.out (fun e => by rcases e with e | e; exact gB.out e; exact VLq.out g e rfl))) (fun hHeld => ?_)
          clear hK
          (try simp only [Act.put, List.setIfInBounds_toArray, List.set_cons_zero, List.set_cons_succ])
          refine wpAnyH_done (by kernel_rfl) ?_ _
          clear hHeld
          have EQ : { q with lt := q.lt ++ [mi] } = ({ p with lt := p.lt ++ L.take (i + 1), bk := bkL p.bk (L.take (i + 1)) } : Pl) := by rw [TS.out, BS.out, HK7.out, HQ.out]; first | rfl | rw [Bool.or_true] | rw [Bool.or_false]
          have P6 := P5.out
          rw [EQ] at P6
          have P7 := hide P6
          have R5 : Hid (W5.ownsRow N 44 11 (.slice (some ⟨g, 0, none⟩) nl vc) L.length (mgs L)) := own_kp RW.out K5.out (fun k e f => by
            have e' : g = k := by simpa [Value.ownBlock] using e
            rcases f with f | f
            · exact gB.out (e'.trans f)
            · exact VLq.out k f e'.symm)
          have B5 : Hid (Below N w W5) := BW.out.trans (K5.out.toN PW.out.gN (fun k e => by rcases e with e | e; rw [e]; exact PW.out.gB; exact own_ge PW.out.lt e))
          have V5 : Hid (∀ k, (Value.slice (some ⟨g, 0, none⟩) nl vc).ownBlock = some k → (Value.slice (some ⟨g2, 0, none⟩) (q.lt.length + 1) cap2).ownBlock ≠ some k) := fun k e f => by
            have e' : g = k := by simpa [Value.ownBlock] using e
            exact VL5.out k f e'.symm
          clear EQ P6 P5 K5
          go_wp2_with fail
          exact ⟨⟨i + 1, _, by omega, rfl, P7.out, R5.out, V5.out, B5.out⟩, by simp [intOf]; omega⟩
end Go.Proofs.Ytpleakkhbfhdkaa.Cn
namespace Go.Proofs.Ytpleakkhbfhdkaa.Cn
open Go.RowKit
set_option maxHeartbeats 8000000 in
set_option maxRecDepth 100000 in
set_option linter.unusedSimpArgs false in
set_option linter.unusedVariables false in
theorem went_end {N : Nat} {w : World} {B C : Nat} {S : Nat → Prop} {nv lv fv bv av : Value} {p : Pl} (h : PlX N w B C S nv lv fv bv av p) {n : Nat} (hf : p.c.fine) (hj0 : p.job ≠ 0) (hnn : p.nd.length = n) (hna : p.at'.length = n) (hnb : p.ba.length = n) (n1 : 1 ≤ n) (n16 : n ≤ 16) {va : Option Addr} {vc : Nat} (he : EndI n p.job p.kind p.ver p.bk (baF p) (ndF p) p.c.last) (hph : p.c.ph.isSome = false) :
    Calls Try.prog 41 #[.pointer (some ⟨B, 0, none⟩), .slice va 0 vc, .int .i64 0, .bool true] w fun e w' => e = .returned (.bool true) ∧ ∃ at2, at2.length = n ∧ PlX N w' B C S nv lv fv bv av { p with at' := at2 } ∧ Below N w w' ∧ AtI n p.job p.bk (ndF p) (atF at2) := by
  have EN := hide (ended_any h hf hj0 hnn hna hnb n1 n16 he)
  have BU := busy_any h.ct hf.n1
  rw [hph] at BU
  replace BU := hide BU
  have NU := hide (num_any 0)
  have x0 := h.cells.1
  have H := hide h
  clear h hf hj0 hnn hna hnb he hph
  go_enter Try.func41, Try.ntmps41
  go_wp2_with fail
  refine Calls.mono (NU.out _) ?_
  rintro e w9 ⟨rfl, rfl⟩
  go_wp2_with fail
  go_loopw [9] (fun vi wr => vi = .int .i64 0 ∧ w = wr) (fun vi _ => 0)
  case atStart => exact ⟨rfl, rfl⟩
  case round =>
    obtain ⟨rfl, rfl⟩ := hrel
    go_wp2_with fail
    refine Calls.mono BU.out ?_
    rintro e w9 ⟨rfl, rfl⟩
    go_wp2_with fail
    refine Calls.mono EN.out ?_
    rintro e W2 ⟨rfl, at2, q1, q2, q3, q4⟩
    have Q := hide (And.intro q1 (And.intro q2 (And.intro q3 q4)))
    clear q1 q2 q3 q4
    go_wp2_with fail
    go_ret
    exact ⟨rfl, at2, Q.out⟩
set_option maxHeartbeats 8000000 in
set_option maxRecDepth 100000 in
set_option linter.unusedSimpArgs false in
set_option linter.unusedVariables false in
theorem went_none {w : World} {B : Nat} {va : Option Addr} {vc : Nat} :
    Calls Try.prog 41 #[.pointer (some ⟨B, 0, none⟩), .slice va 0 vc, .int .i64 0, .bool false] w fun e w' => e = .returned (.bool true) ∧ w = w' := by
  have NU := hide (num_any 0)
  go_enter Try.func41, Try.ntmps41
  go_wp2_with fail
  refine Calls.mono (NU.out _) ?_
  rintro e w9 ⟨rfl, rfl⟩
  go_wp2_with fail
  go_loopw [9] (fun vi wr => vi = .int .i64 0 ∧ w = wr) (fun vi _ => 0)
  case atStart => exact ⟨rfl, rfl⟩
  case round =>
    obtain ⟨rfl, rfl⟩ := hrel
    go_wp2_with fail
    go_ret
    exact ⟨rfl, rfl⟩
end Go.Proofs.Ytpleakkhbfhdkaa.Cn
