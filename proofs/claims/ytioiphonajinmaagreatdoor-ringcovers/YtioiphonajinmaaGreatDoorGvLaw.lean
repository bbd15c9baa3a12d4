import Derived.Test.YtioiphonajinmaaGreatDoorGvCov
namespace Go.Proofs.YtioiphonajinmaaGreatDoor
open Go.RowKit
/-- keys, as they lie there -/
structure KsAt (N : Nat) (w : World) (ao : Option Addr) (b o : Nat) (L : List ByteArray) : Prop where
  at0 : 0 < L.length → ao = some ⟨b, o, none⟩
  lt : 0 < L.length → b < N
  c : ∀ (q : Nat) (h : q < L.length), w.cell? ⟨b, o + q, none⟩ = some (.string L[q])
  len : L.length ≤ 17592186043904
  sz : ∀ (q : Nat) (h : q < L.length), L[q].size ≤ 9223372036854775807
theorem KsAt.below {N : Nat} {w w' : World} {ao : Option Addr} {b o : Nat} {L : List ByteArray} (h : KsAt N w ao b o L) (hb : Below N w w') : KsAt N w' ao b o L :=
  ⟨h.at0, h.lt, fun q hq => (hb.cell (h.lt (by omega))).trans (h.c q hq), h.len, h.sz⟩
/-- what kept says -/
def KeptOk (W0 : World) (st : ByteArray) (x : Nat → Int) (ns : List ND) : Prop := ∀ (Y : World) (ao : Option Addr) (b cap : Nat) (pv : Nat → Value) (N : Nat) (key : ByteArray), Below W0.heap.size W0 Y → NsAt N Y ao b 0 pv ns → N ≤ Y.heap.size → key.size ≤ 9223372036854775807 → Calls Tryz.prog 15 #[.agg (clA st x (.slice ao ns.length cap)), .string key] Y fun e w' => e = .returned (.bool true) ∧ Below Y.heap.size Y w'
theorem num_same (n : Int) (w : World) : Calls Tryz.prog 5 #[.int .i64 n] w fun e w' => e = .returned (.int .i64 n) ∧ w = w' := num_any n w
set_option maxHeartbeats 16000000 in
set_option maxRecDepth 100000 in
set_option linter.unusedSimpArgs false in
set_option linter.unusedVariables false in
theorem covers_any (N : Nat) (w : World) (a b c d : Int) (H Z M : List Int) (aH : Option Addr) (bH oH cH : Nat) (aZ : Option Addr) (bZ oZ cZ : Nat) (aM : Option Addr) (bM oM cM : Nat) (aK : Option Addr) (bK oK cK : Nat) (KY : List ByteArray) (hH : PsAt N w aH bH oH H) (hZ : PsAt N w aZ bZ oZ Z) (hM : PsAt N w aM bM oM M) (hN : N ≤ w.heap.size) (hK : KsAt N w aK bK oK KY) (hE : NEnv w) (hkept : ∀ st x ns W, Below w.heap.size w W → errP st x ns = 0 → st.size ≤ 40 → KeptOk W st x ns) :
    Calls Tryz.prog 3 #[.agg #[.int .i64 a, .int .i64 b, .int .i64 c, .int .i64 d, .slice aH H.length cH, .slice aZ Z.length cZ, .slice aM M.length cM], .slice aK KY.length cK] w fun e w' => e = .returned (.bool true) ∧ Below w.heap.size w w' := by
  obtain ⟨W0, hW0⟩ : ∃ W0, W0 = w.alloc (.cells #[.int .i64 a, .int .i64 b, .int .i64 c, .int .i64 d, .slice aH H.length cH, .slice aZ Z.length cZ, .slice aM M.length cM] 24) := ⟨_, rfl⟩
  have B0 : Hid (Below w.heap.size w W0) := by rw [hW0]; exact (Below.refl _ _).alloc (Nat.le_refl _) _
  have hb : W0.heap[w.heap.size]? = some (.cells #[.int .i64 a, .int .i64 b, .int .i64 c, .int .i64 d, .slice aH H.length cH, .slice aZ Z.length cZ, .slice aM M.length cM] 24) := by rw [hW0]; exact heap_last _ _
  have bn := B0.out.mono hN
  have MA := hide (made_any N W0 a b c d H Z M aH bH oH cH aZ bZ oZ cZ aM bM oM cM (hH.below bn) (hZ.below bn) (hM.below bn) (Nat.le_trans hN B0.out.size))
  have z0 : W0.cell? ⟨w.heap.size, 0, none⟩ = some (.int .i64 a) := by unfold World.cell?; rw [hb]; rfl
  have z1 : W0.cell? ⟨w.heap.size, 1, none⟩ = some (.int .i64 b) := by unfold World.cell?; rw [hb]; rfl
  have z2 : W0.cell? ⟨w.heap.size, 2, none⟩ = some (.int .i64 c) := by unfold World.cell?; rw [hb]; rfl
  have z3 : W0.cell? ⟨w.heap.size, 3, none⟩ = some (.int .i64 d) := by unfold World.cell?; rw [hb]; rfl
  have z4 : W0.cell? ⟨w.heap.size, 4, none⟩ = some (.slice aH H.length cH) := by unfold World.cell?; rw [hb]; rfl
  have z5 : W0.cell? ⟨w.heap.size, 5, none⟩ = some (.slice aZ Z.length cZ) := by unfold World.cell?; rw [hb]; rfl
  have z6 : W0.cell? ⟨w.heap.size, 6, none⟩ = some (.slice aM M.length cM) := by unfold World.cell?; rw [hb]; rfl
  have HK := hide hK
  have HE := hide hE
  have HKO := hide hkept
  have hKl := hK.len
  clear hb bn hH hZ hM hK hE hkept
  go_enter Tryz.func3, Tryz.ntmps3
  go_upto_region 1 with fail
  rw [← hW0]
  clear hW0
  go_wp2_with fail
  refine Calls.mono MA.out ?_
  rintro e W1 ⟨st, x, ns, vl, zs, rfl, hz, hT, hEr, hs, hb⟩
  have VD := vd_of hEr hs
  obtain ⟨R, hR⟩ : ∃ R, R = (x 0).toNat := ⟨_, rfl⟩
  obtain ⟨ch, hch⟩ : ∃ ch, ch = (x 2).toNat := ⟨_, rfl⟩
  obtain ⟨P, hP⟩ : ∃ P, P = ptN ns := ⟨_, rfl⟩
  rw [← hR, ← hch, ← hP] at VD
  clear hR hch
  obtain ⟨ao, nb, cap, pv, hvl, hns⟩ := tw_read hT hz VD.n2 (by rw [← hP]; exact VD.p2)
  subst hvl
  have B1 := hide (B0.out.trans (hb.mono B0.out.size))
  have NS := hide hns
  have r1 := VD.r1
  have r2 := VD.r2
  have c1 := VD.c1
  have c2 := VD.c2
  have p1 := VD.p1
  have p2 := VD.p2
  have n1 := VD.n1
  have n2 := VD.n2
  have VV := hide VD
  clear hb MA hT hEr hns z0 z1 z2 z3 z4 z5 z6 B0 hz hP VD
  obtain ⟨W2, hW2⟩ : ∃ W2, W2 = W1.alloc (.cells (clA st x (.slice ao ns.length cap)) 28) := ⟨_, rfl⟩
  have C2 : Hid (ClAt W2 W1.heap.size st x (.slice ao ns.length cap)) := by rw [hW2]; exact new_cl _ _ _ _
  have B2 : Hid (Below W1.heap.size W1 W2) := by rw [hW2]; exact (Below.refl _ _).alloc (Nat.le_refl _) _
  go_upto_region 2 with (refine wpList_storeCl (w0 := W1) rfl (.tmp 5) (.tmp 21) rfl W1.heap.size (by kernel_rfl) rfl st x (.slice ao ns.length cap) rfl (by kernel_rfl) _ rfl rfl ?_)
  rw [← hW2]
  clear hW2
  have T2 : Hid (Cv st x ns W1.heap.size W2) := ⟨ao, nb, cap, pv, W1.heap.size, C2.out, NS.out.below B2.out, B2.out.size⟩
  have BW2 : Hid (Below w.heap.size w W2) := B1.out.trans (B2.out.mono B1.out.size)
  have N2 := hide (NS.out.below B2.out)
  have TW := hide (twin_any W1.heap.size W2 st x ao nb 0 cap pv ns N2.out B2.out.size)
  clear NS B1
  go_wp2_with (refine wpList_loadCl rfl (.tmp 5) rfl W1.heap.size st x _ (by kernel_rfl) C2.out ?_)
  refine Calls.mono TW.out ?_
  rintro e W3 ⟨vl2, zs2, rfl, hz2, hT2, hb⟩
  obtain ⟨ao2, nb2, cap2, pv2, hvl, hns2⟩ := tw_read hT2 hz2 n2 (by rw [← VV.out.hP]; exact p2)
  subst hvl
  have CK := check_any W3.heap.size W3 st x ao2 nb2 0 cap2 pv2 ns hns2 (Nat.le_refl _) (by have := VV.out.s; omega)
  rw [VV.out.he] at CK
  replace CK := hide CK
  have B3 : Hid (Below W2.heap.size W2 W3) := hb
  clear hb hT2 hns2 TW C2 N2 hz2 B2
  generalize W1.heap.size = cB at *
  go_wp2_with fail
  refine Calls.mono CK.out ?_
  rintro e W4 ⟨rfl, hb⟩
  have B4 : Hid (Below W2.heap.size W2 W4) := B3.out.trans (hb.mono B3.out.size)
  clear hb B3 CK
  go_wp2_with fail
  refine Calls.mono (num_any _ _) ?_
  rintro e W5 ⟨rfl, rfl⟩
  have KE := hide (HKO.out st x ns W2 BW2.out VV.out.he VV.out.s)
  clear HKO
  go_wp2_with fail
  go_loopw [6, 7] (fun vs vi wr => ∃ (n : Nat), n ≤ ns.length ∧ vi = .int .i64 (n : Int) ∧ vs = .int .i64 (sumN (fun m => (hdL x ns (m : Int) P).length) n : Int) ∧ Hid (Below W2.heap.size W2 wr)) (fun _ vi _ => ns.length - (intOf vi).toNat)
  case atStart => exact ⟨0, Nat.zero_le _, rfl, rfl, B4⟩
  case round =>
    clear B4
    obtain ⟨n, hn, rfl, rfl, HB⟩ := hrel
    have T3 := hide (T2.out.below HB.out)
    obtain ⟨ao, nb, cap, pv, N6, c6, n6, l6⟩ := T3.out.c
    have nvw := c6.nv
    have C6 := hide c6
    have NN := hide (show _ ∧ _ from ⟨n6, l6⟩)
    clear c6 n6 l6
    by_cases hnl : n < ns.length
    case neg =>
      obtain rfl : n = ns.length := by omega
      have hsum := hdL_sum (x := x) VV.out.dl (by rw [← VV.out.hR]; omega) VV.out.kp P (by rw [← VV.out.hP]; exact Nat.le_refl _)
      rw [show (x 0).toNat = R by have := VV.out.hR; omega] at hsum
      have HSm := hide hsum
      clear hsum
      generalize sumN (fun m => (hdL x ns (m : Int) P).length) ns.length = sn at *
      have HSI : Hid ((P : Int) * (R : Int) = (sn : Int)) := by
        show _ = _
        rw [HSm.out, Int.natCast_mul]
      have hsnb : sn ≤ 1024 := by
        rw [HSm.out]
        have := Nat.mul_le_mul p2 r2
        omega
      have PA := lparts_any N6 wr.drew st x ao nb 0 cap pv ns (NN.out.1.below ((Below.refl _ _).drew)) NN.out.2 n2
      rw [← VV.out.hP] at PA
      replace PA := hide PA
      go_upto_region 30 with fail
      clear nvw
      refine wp_region_held_drew (S := fun Y => ClAt Y cB st x (.slice ao ns.length cap)) (by kernel_rfl) C6.out (fun hHeld => ?_)
      refine wpAnyH_take (i := 0) (v := (.int .i64 (sn : Int))) rfl (by kernel_rfl) (by kernel_rfl) (by kernel_rfl) (fun _ _ _ h => h) (Or.inl ⟨by rfl, ?_⟩) (by assumption) ?_
      · intro w' hSw
        (try dsimp only at hSw)
        exact exec_move (.tmp 6) rfl (by kernel_rfl)
      (try simp only [Act.put, List.getElem_toArray, List.getElem_cons_zero, List.getElem_cons_succ, List.setIfInBounds_toArray, List.set_cons_zero, List.set_cons_succ])
      refine wpAnyH_take (i := 1) (v := (.agg (clA st x (.slice ao ns.length cap)))) rfl (by kernel_rfl) (by kernel_rfl) (by kernel_rfl) (fun _ _ _ h => h) (Or.inl ⟨by rfl, ?_⟩) (by assumption) ?_
      · intro w' hSw
        (try dsimp only at hSw)
        exact exec_loadCl (.tmp 5) rfl (by kernel_rfl) hSw
      (try simp only [Act.put, List.getElem_toArray, List.getElem_cons_zero, List.getElem_cons_succ, List.setIfInBounds_toArray, List.set_cons_zero, List.set_cons_succ])
      refine wpAnyH_take (i := 3) (v := (.pointer (some ⟨cB, 1, none⟩))) rfl (by kernel_rfl) (by kernel_rfl) (by kernel_rfl) (fun _ _ _ h => h) (Or.inl ⟨by rfl, ?_⟩) (by assumption) ?_
      · intro w' hSw
        (try dsimp only at hSw)
        go_simp
      (try simp only [Act.put, List.getElem_toArray, List.getElem_cons_zero, List.getElem_cons_succ, List.setIfInBounds_toArray, List.set_cons_zero, List.set_cons_succ])
      refine wpAnyH_take (i := 4) (v := (.int .i64 (R : Int))) rfl (by kernel_rfl) (by kernel_rfl) (by kernel_rfl) (fun _ _ _ h => h) (Or.inl ⟨by rfl, ?_⟩) (by assumption) ?_
      · intro w' hSw
        (try dsimp only at hSw)
        (have q := ClAt.x0 hSw; rw [← VV.out.hR] at q; exact exec_ldi (.tmp 163) rfl (by kernel_rfl) q)
      (try simp only [Act.put, List.getElem_toArray, List.getElem_cons_zero, List.getElem_cons_succ, List.setIfInBounds_toArray, List.set_cons_zero, List.set_cons_succ])
      refine wpAnyH_ready (rs := [2]) (by kernel_rfl) (by simp) ?_
      refine AllReadyH.cons rfl (fun K hK => ?_) AllReadyH.nil
      go_simp
      refine Calls.mono PA.out ?_
      rintro e W20 ⟨rfl, hb⟩
      have b20 : Below wr.heap.size wr W20 := (Below.refl _ wr).drew.trans hb
      have C20 := hide (C6.out.below b20)
      have B20 : Hid (Below W2.heap.size W2 W20) := HB.out.trans (b20.mono HB.out.size)
      clear hb b20 PA
      refine hK.out _ _ (C20.out) (fun hHeld => ?_)
      clear hK
      (try simp only [Act.put, List.setIfInBounds_toArray, List.set_cons_zero, List.set_cons_succ])
      refine wpAnyH_take (i := 5) (v := (.int .i64 (sn : Int))) rfl (by kernel_rfl) (by kernel_rfl) (by kernel_rfl) (fun _ _ _ h => h) (Or.inl ⟨by rfl, ?_⟩) (by assumption) ?_
      · intro w' hSw
        (try dsimp only at hSw)
        (rw [← HSI.out]; exact exec_muli (.tmp 162) (.tmp 164) rfl (by kernel_rfl) (by kernel_rfl) (by rw [HSI.out]; omega) (by rw [HSI.out]; omega))
      (try simp only [Act.put, List.getElem_toArray, List.getElem_cons_zero, List.getElem_cons_succ, List.setIfInBounds_toArray, List.set_cons_zero, List.set_cons_succ])
      refine wpAnyH_take (i := 6) (v := (.bool false)) rfl (by kernel_rfl) (by kernel_rfl) (by kernel_rfl) (fun _ _ _ h => h) (Or.inl ⟨by rfl, ?_⟩) (by assumption) ?_
      · intro w' hSw
        (try dsimp only at hSw)
        exact exec_neqi (n := (sn : Int)) (.tmp 160) (.tmp 165) rfl (by kernel_rfl) (by kernel_rfl)
      (try simp only [Act.put, List.getElem_toArray, List.getElem_cons_zero, List.getElem_cons_succ, List.setIfInBounds_toArray, List.set_cons_zero, List.set_cons_succ])
      refine wpAnyH_done (by kernel_rfl) ?_ _
      clear hHeld C6 NN HB T3 C20
      go_wp2_with fail
      go_loopw [19] (fun vi wq => ∃ (i : Nat), i ≤ KY.length ∧ vi = .int .i64 (i : Int) ∧ Hid (Below W2.heap.size W2 wq)) (fun vi _ => KY.length - (intOf vi).toNat)
      case atStart => exact ⟨0, Nat.zero_le _, rfl, B20⟩
      case round =>
        clear B20
        obtain ⟨i, hi, rfl, HQ⟩ := hrel
        by_cases hil : i < KY.length
        case neg =>
          obtain rfl : i = KY.length := by omega
          go_wp2_with fail
          go_ret
          exact ⟨rfl, BW2.out.trans (HQ.out.mono BW2.out.size)⟩
        case pos =>
          have hii : (i : Int) < (KY.length : Int) := by omega
          have hka := HK.out.at0 (by omega)
          subst hka
          have KC : Hid (∀ Y, Below W2.heap.size W2 Y → Y.cell? ⟨bK, oK + i, none⟩ = some (.string KY[i])) := fun Y hY => (HK.out.below ((BW2.out.trans (hY.mono BW2.out.size)).mono hN)).c i hil
          have hkz := HK.out.sz i hil
          obtain ⟨ao, nb, cap, pv, N6, c6, n6, l6⟩ := (T2.out.below HQ.out).c
          have C6 := hide c6
          have KP := hide (KE.out wr.drew ao nb cap pv N6 KY[i] HQ.out.drew (n6.below ((Below.refl _ _).drew)) l6 hkz)
          have S0 : Hid (ClAt wr cB st x (.slice ao ns.length cap) ∧ wr.cell? ⟨bK, oK + i, none⟩ = some (.string KY[i])) := ⟨c6, KC.out _ HQ.out⟩
          clear c6 n6 l6
          generalize KY[i] = key at *
          go_upto_region 35 with fail
          refine wp_region_held_drew (S := fun Y => ClAt Y cB st x (.slice ao ns.length cap) ∧ Y.cell? ⟨bK, oK + i, none⟩ = some (.string key)) (by kernel_rfl) S0.out (fun hHeld => ?_)
          refine wpAnyH_take (i := 0) (v := (.agg (clA st x (.slice ao ns.length cap)))) rfl (by kernel_rfl) (by kernel_rfl) (by kernel_rfl) (fun _ _ _ h => h) (Or.inl ⟨by rfl, ?_⟩) (by assumption) ?_
          · intro w' hSw
            (try dsimp only at hSw)
            exact exec_loadCl (.tmp 5) rfl (by kernel_rfl) hSw.1
          (try simp only [Act.put, List.getElem_toArray, List.getElem_cons_zero, List.getElem_cons_succ, List.setIfInBounds_toArray, List.set_cons_zero, List.set_cons_succ])
          refine wpAnyH_take (i := 1) (v := (.slice (some ⟨bK, oK, none⟩) KY.length cK)) rfl (by kernel_rfl) (by kernel_rfl) (by kernel_rfl) (fun _ _ _ h => h) (Or.inl ⟨by rfl, ?_⟩) (by assumption) ?_
          · intro w' hSw
            (try dsimp only at hSw)
            exact exec_move (.tmp 1) rfl (by kernel_rfl)
          (try simp only [Act.put, List.getElem_toArray, List.getElem_cons_zero, List.getElem_cons_succ, List.setIfInBounds_toArray, List.set_cons_zero, List.set_cons_succ])
          refine wpAnyH_take (i := 2) (v := (.int .i64 (i : Int))) rfl (by kernel_rfl) (by kernel_rfl) (by kernel_rfl) (fun _ _ _ h => h) (Or.inl ⟨by rfl, ?_⟩) (by assumption) ?_
          · intro w' hSw
            (try dsimp only at hSw)
            exact exec_move (.tmp 19) rfl (by kernel_rfl)
          (try simp only [Act.put, List.getElem_toArray, List.getElem_cons_zero, List.getElem_cons_succ, List.setIfInBounds_toArray, List.set_cons_zero, List.set_cons_succ])
          refine wpAnyH_take (i := 3) (v := (.pointer (some ⟨bK, oK + i, none⟩))) rfl (by kernel_rfl) (by kernel_rfl) (by kernel_rfl) (fun _ _ _ h => h) (Or.inl ⟨by rfl, ?_⟩) (by assumption) ?_
          · intro w' hSw
            (try dsimp only at hSw)
            exact exec_ixT (n := KY.length) (c := cK) (.tmp 174) (.tmp 175) rfl (by kernel_rfl) (by kernel_rfl) hil
          (try simp only [Act.put, List.getElem_toArray, List.getElem_cons_zero, List.getElem_cons_succ, List.setIfInBounds_toArray, List.set_cons_zero, List.set_cons_succ])
          refine wpAnyH_take (i := 4) (v := (.string key)) rfl (by kernel_rfl) (by kernel_rfl) (by kernel_rfl) (fun _ _ _ h => h) (Or.inl ⟨by rfl, ?_⟩) (by assumption) ?_
          · intro w' hSw
            (try dsimp only at hSw)
            exact exec_ldSv (.tmp 176) rfl (by kernel_rfl) hSw.2
          (try simp only [Act.put, List.getElem_toArray, List.getElem_cons_zero, List.getElem_cons_succ, List.setIfInBounds_toArray, List.set_cons_zero, List.set_cons_succ])
          refine wpAnyH_ready (rs := [5]) (by kernel_rfl) (by simp) ?_
          refine AllReadyH.cons rfl (fun K hK => ?_) AllReadyH.nil
          go_simp
          refine Calls.mono KP.out ?_
          rintro e W21 ⟨rfl, hb⟩
          have b21 : Below wr.heap.size wr W21 := (Below.refl _ wr).drew.trans hb
          have B21 : Hid (Below W2.heap.size W2 W21) := HQ.out.trans (b21.mono HQ.out.size)
          have S21 : Hid (ClAt W21 cB st x (.slice ao ns.length cap) ∧ W21.cell? ⟨bK, oK + i, none⟩ = some (.string key)) := ⟨S0.out.1.below b21, KC.out _ B21.out⟩
          clear hb b21 KP
          refine hK.out _ _ (S21.out) (fun hHeld => ?_)
          clear hK
          (try simp only [Act.put, List.setIfInBounds_toArray, List.set_cons_zero, List.set_cons_succ])
          refine wpAnyH_take (i := 6) (v := (.bool false)) rfl (by kernel_rfl) (by kernel_rfl) (by kernel_rfl) (fun _ _ _ h => h) (Or.inl ⟨by rfl, ?_⟩) (by assumption) ?_
          · intro w' hSw
            (try dsimp only at hSw)
            exact exec_not (.tmp 178) 4 rfl (by kernel_rfl)
          (try simp only [Act.put, List.getElem_toArray, List.getElem_cons_zero, List.getElem_cons_succ, List.setIfInBounds_toArray, List.set_cons_zero, List.set_cons_succ])
          refine wpAnyH_done (by kernel_rfl) ?_ _
          clear hHeld
          go_wp2_with fail
          go_roundw
          case rel => exact ⟨i + 1, by omega, by go_num, B21⟩
          case measure => simp [intOf]; omega
    case pos =>
      have hni : (n : Int) < (ns.length : Int) := by omega
      obtain ⟨hd1, hd2, hd3⟩ := VV.out.hd hnl
      have HD1 := hide hd1
      have HD2 := hide hd2
      have HD3 := hide hd3
      have TW := hide (twin_any N6 wr st x ao nb 0 cap pv ns NN.out.1 NN.out.2)
      clear hd1 hd2 hd3
      go_wp2_with (refine wpList_loadCl rfl (.tmp 5) rfl cB st x _ (by kernel_rfl) C6.out ?_)
      clear nvw
      refine Calls.mono TW.out ?_
      rintro e W6 ⟨vl8, zs8, rfl, hz8, hT8, hb⟩
      obtain ⟨ao8, nb8, cap8, pv8, hvl, hns8⟩ := tw_read hT8 hz8 n2 (by rw [← VV.out.hP]; exact p2)
      subst hvl
      have HO := holds_any W6.heap.size W6 st x ao8 nb8 0 cap8 pv8 ns (n : Int) hns8 (Nat.le_refl _) (by have := VV.out.s; omega)
      rw [HD1.out, HD2.out] at HO
      replace HO := hide HO
      have B6 : Hid (Below W2.heap.size W2 W6) := HB.out.trans (hb.mono HB.out.size)
      clear hb hT8 hns8 TW hz8 C6 NN HB T3
      go_wp2_with fail
      refine Calls.mono HO.out ?_
      rintro e W7 ⟨vl, rfl, ol, hb⟩
      obtain ⟨la, lc, hvl, _⟩ := own_sl ol
      subst hvl
      have L7 := hide ol
      have B7 : Hid (Below W2.heap.size W2 W7) := B6.out.trans (hb.mono B6.out.size)
      clear hb ol HO B6
      -- Files
      have T3 := hide (T2.out.below B7.out)
      obtain ⟨ao, nb, cap, pv, N6, c6, n6, l6⟩ := T3.out.c
      have C6 := hide c6
      have TW := hide (twin_any N6 W7 st x ao nb 0 cap pv ns n6 l6)
      clear c6 n6 l6
      go_wp2_with (refine wpList_loadCl rfl (.tmp 5) rfl cB st x _ (by kernel_rfl) C6.out ?_)
      refine Calls.mono TW.out ?_
      rintro e W8 ⟨vl8, zs8, rfl, hz8, hT8, hb⟩
      obtain ⟨ao8, nb8, cap8, pv8, hvl, hns8⟩ := tw_read hT8 hz8 n2 (by rw [← VV.out.hP]; exact p2)
      subst hvl
      have FI := files_any W8.heap.size W8 st x ao8 nb8 0 cap8 pv8 ns (n : Int) hns8 (Nat.le_refl _) (by have := VV.out.s; omega)
      rw [HD1.out, HD3.out] at FI
      replace FI := hide FI
      have B8 : Hid (Below W7.heap.size W7 W8) := hb
      clear hb hT8 hns8 TW hz8 C6 T3
      go_wp2_with fail
      refine Calls.mono FI.out ?_
      rintro e W9 ⟨vf, rfl, of, hb⟩
      obtain ⟨fa, fc, hvf, _⟩ := own_sl of
      subst hvf
      have F9 := hide of
      have b79 : Below W7.heap.size W7 W9 := B8.out.trans (hb.mono B8.out.size)
      have B9 : Hid (Below W2.heap.size W2 W9) := B7.out.trans (b79.mono B7.out.size)
      have L9 : Hid (W9.ownsRow W6.heap.size 60 2 (.slice la (hdL x ns (n : Int) P).length lc) (hdL x ns (n : Int) P).length (slc (hdL x ns (n : Int) P))) := own_keep L7.out fun i hi => b79.block i (own_lt L7.out hi).2
      clear hb of FI B8 b79 L7 B7
      have hlL : (hdL x ns (n : Int) P).length ≤ 64 := by have := hdL_len x ns (n : Int) P; omega
      have hfL : (insA (flL (hdL x ns (n : Int) P) ch)).length = (hdL x ns (n : Int) P).length * (2 * ch) := by rw [insA_len, flL_len]
      have HSum : Hid (∀ m, m ≤ ns.length → sumN (fun m => (hdL x ns (m : Int) P).length) m ≤ 64 * m) := fun m hm => by
        induction m with
        | zero => exact Nat.le_refl _
        | succ m ih =>
          have h1 := ih (by omega)
          have h2 := hdL_len x ns (m : Int) P
          simp only [sumN]
          omega
      have hS2 := HSum.out n hn
      have HStep : Hid (sumN (fun m => (hdL x ns (m : Int) P).length) (n + 1) = sumN (fun m => (hdL x ns (m : Int) P).length) n + (hdL x ns (n : Int) P).length) := rfl
      have HIff : Hid (∀ p k (hp : p < P) (hk : k < (owL ns (wk x ns (p : Int))).length), (p, k) ∈ hdL x ns (n : Int) P ↔ (owL ns (wk x ns (p : Int)))[k] = (n : Int)) := fun p k hp hk => hdL_iff hp hk
      have HMem := hide (VV.out.mem (n : Int))
      have HNd := hide (flL_nodup (k := ch) c2 _ HMem.out (hdL_pair x ns (n : Int) P))
      have HRise : Hid (∀ i a b, (insA (flL (hdL x ns (n : Int) P) ch))[i]? = some a → (insA (flL (hdL x ns (n : Int) P) ch))[i + 1]? = some b → a < b) := fun i a b ha hb => by
        obtain ⟨h1, e1⟩ := List.getElem?_eq_some_iff.1 ha
        obtain ⟨h2, e2⟩ := List.getElem?_eq_some_iff.1 hb
        rw [← e1, ← e2]
        exact insA_rise HNd.out h2
      have HFm : Hid (∀ a ∈ insA (flL (hdL x ns (n : Int) P) ch), ∃ s ∈ hdL x ns (n : Int) P, ∃ c d, c < ch ∧ a = fnL (s.1, s.2, c, d)) := fun a ha => flL_mem.1 (insA_mem.1 ha)
      clear HSum HNd HD2 HD3
      generalize insA (flL (hdL x ns (n : Int) P) ch) = F at *
      generalize hdL x ns (n : Int) P = l at *
      generalize sumN (fun m => (hdL x ns (m : Int) P).length) n = sn at *
      have hnl2 : F.length ≤ 2048 := by
        rw [hfL]
        have := Nat.mul_le_mul hlL (show 2 * ch ≤ 32 by omega)
        omega
      have hx2 := ((T2.out.below B9.out).c)
      obtain ⟨ao, nb, cap, pv, N6, c6, n6, l6⟩ := hx2
      have x2c := c6.x2
      rw [← VV.out.hch] at x2c
      obtain ⟨m1, hm1⟩ : ∃ m1 : Int, 2 * (ch : Int) = m1 := ⟨_, rfl⟩
      have HM1 := hide hm1
      have HM2 : Hid (m1 * (l.length : Int) = (F.length : Int)) := by
        show _ = _
        rw [← hm1, hfL, Int.natCast_mul, Int.natCast_mul, Int.mul_comm]
        rfl
      have m10 : 0 ≤ m1 ∧ m1 ≤ 32 := by omega
      clear hm1
      clear hfL c6 n6 l6
      go_upto_region 12 with (first | (go_at_call 5; refine Calls.mono (num_any _ _) ?_; rintro e w' ⟨rfl, rfl⟩) | refine wpList_muliG (.const (.int .i64 2)) (.tmp 60) rfl (by kernel_rfl) 2 (ch : Int) m1 (by kernel_rfl) (by kernel_rfl) HM1.out (by omega) (by omega) ?_ | refine wpList_muliG (.tmp 61) (.tmp 63) rfl (by kernel_rfl) m1 (l.length : Int) (F.length : Int) (by kernel_rfl) (by kernel_rfl) HM2.out (by omega) (by omega) ?_)
      clear x2c
      have hsn : sn + l.length ≤ 100000 := by omega
      have HAS : Hid (∀ Y p k, Below W9.heap.size W9 Y → Calls Tryz.prog 13 #[.slice la l.length lc, .int .i64 ((p : Nat) : Int), .int .i64 ((k : Nat) : Int)] Y fun e w' => e = .returned (.bool (decide ((p, k) ∈ l))) ∧ Y = w') := fun Y p k hY => (has_any Y W6.heap.size _ l p k (own_keep L9.out fun i hi => hY.block i (own_lt L9.out hi).2) (by omega)).mono fun e w' ⟨h1, h2⟩ => ⟨h1, h2.symm⟩
      have FC : Hid (∀ Y i a, Below W9.heap.size W9 Y → F[i]? = some a → ∃ fg, fa = some ⟨fg, 0, none⟩ ∧ Y.cell? ⟨fg, 0 + i, none⟩ = some (.string (strOf a))) := fun Y i a hY ha => by
        obtain ⟨hi, e⟩ := List.getElem?_eq_some_iff.1 ha
        obtain ⟨fg, fk, ev⟩ := own_some F9.out (by omega)
        injection ev with e1
        subst e1
        refine ⟨fg, rfl, ?_⟩
        have ow := own_keep (X' := Y) F9.out fun g hg => hY.block g (own_lt F9.out hg).2
        rw [Nat.zero_add, ow.cellAt i (by omega), nmc_at F i hi, e]
      have CV9 : Hid (∀ Y, Below W9.heap.size W9 Y → Cv st x ns cB Y) := fun Y hY => T2.out.below (B9.out.trans (hY.mono B9.out.size))
      have EN9 : Hid (∀ Y, Below W9.heap.size W9 Y → NEnv Y) := fun Y hY => HE.out.below (BW2.out.trans ((B9.out.trans (hY.mono B9.out.size)).mono BW2.out.size))
      clear L9 F9
      go_wp2_with fail
      go_loopw [12] (fun vp wq => ∃ (p : Nat), p ≤ P ∧ vp = .int .i64 (p : Int) ∧ Hid (Below W9.heap.size W9 wq)) (fun vp _ => P - (intOf vp).toNat)
      case atStart => exact ⟨0, Nat.zero_le _, rfl, Below.refl _ _⟩
      case round =>
        obtain ⟨p, hp, rfl, HQ⟩ := hrel
        obtain ⟨ao, nb, cap, pv, N6, c6, n6, l6⟩ := (CV9.out _ HQ.out).c
        have C6 := hide c6
        have PA := lparts_any N6 wr st x ao nb 0 cap pv ns n6 l6 n2
        rw [← VV.out.hP] at PA
        replace PA := hide PA
        clear c6 n6 l6
        go_wp2_with (refine wpList_loadCl rfl (.tmp 5) rfl cB st x _ (by kernel_rfl) C6.out ?_)
        refine Calls.mono PA.out ?_
        rintro e W10 ⟨rfl, hb⟩
        have B10 : Hid (Below W9.heap.size W9 W10) := HQ.out.trans (hb.mono HQ.out.size)
        clear hb PA C6 HQ
        by_cases hpl : p < P
        case pos =>
          have hpi : (p : Int) < (P : Int) := by omega
          obtain ⟨ow1, ow2⟩ := VV.out.ow hpl
          obtain ⟨O, hOe⟩ : ∃ O, O = owL ns (wk x ns (p : Int)) := ⟨_, rfl⟩
          have hOl : O.length = R := by rw [hOe]; exact VV.out.len hpl
          have HOf : Hid (∀ h : 0 < O.length, O[0] = hm ns p) := by subst hOe; exact fun h => VV.out.first hpl h
          have HOo : Hid (∀ i (hi : i < O.length), ∃ j, ∃ hj : j < ns.length, O[i] = (j : Int) ∧ 0 < ns[j].ps.length) := by subst hOe; exact VV.out.own
          have HOd : Hid (O.Pairwise (· ≠ ·)) := by subst hOe; exact wk_diff x ns (p : Int)
          have HOI : Hid (∀ k (hk : k < O.length), (p, k) ∈ l ↔ O[k] = (n : Int)) := by subst hOe; exact fun k hk => HIff.out p k hpl hk
          have HOe := hide hOe
          have HOl := hide hOl
          have hO1 : 1 ≤ O.length ∧ O.length ≤ 16 := by omega
          clear hOe hOl
          obtain ⟨ao, nb, cap, pv, N6, c6, n6, l6⟩ := (CV9.out _ B10.out).c
          have C6 := hide c6
          have TW := hide (twin_any N6 W10 st x ao nb 0 cap pv ns n6 l6)
          have HW1 := hide ow1
          have HW2 := hide ow2
          clear c6 n6 l6 ow1 ow2
          go_wp2_with (refine wpList_loadCl rfl (.tmp 5) rfl cB st x _ (by kernel_rfl) C6.out ?_)
          refine Calls.mono TW.out ?_
          rintro e W11 ⟨vl8, zs8, rfl, hz8, hT8, hb⟩
          obtain ⟨ao8, nb8, cap8, pv8, hvl, hns8⟩ := tw_read hT8 hz8 n2 (by rw [← VV.out.hP]; exact p2)
          subst hvl
          have OW := Owners_any W11.heap.size W11 st x ao8 nb8 0 cap8 pv8 ns (p : Int) hns8 (Nat.le_refl _) (by have := VV.out.s; omega)
          rw [HW1.out, HW2.out, ← owL_len ns, ← HOe.out] at OW
          clear HOe
          replace OW := hide OW
          have B11 : Hid (Below W9.heap.size W9 W11) := B10.out.trans (hb.mono B10.out.size)
          clear hb hT8 hns8 TW hz8 C6 B10
          go_wp2_with fail
          refine Calls.mono OW.out ?_
          rintro e W12 ⟨vo, rfl, oo, hb⟩
          obtain ⟨go, co, hvo⟩ := own_some oo (by omega)
          subst hvo
          have O12 := hide oo
          have B12 : Hid (Below W9.heap.size W9 W12) := B11.out.trans (hb.mono B11.out.size)
          clear hb oo OW B11
          obtain ⟨ao, nb, cap, pv, N6, c6, n6, l6⟩ := (CV9.out _ B12.out).c
          have C6 := hide c6
          have OD := hide (owned_any N6 W12 st x ao nb 0 cap pv ns p W11.heap.size (.slice (some ⟨go, 0, none⟩) O.length co) O n6 l6 O12.out (by rw [HOl.out]; exact VV.out.hR) (by omega) (by omega) (HOf.out (by omega)) HOd.out HOo.out)
          clear c6 n6 l6
          go_wp2_with fail
          refine Calls.mono (num_any _ _) ?_
          rintro e w' ⟨rfl, rfl⟩
          go_wp2_with (refine wpList_loadClV (.tmp 5) rfl (by kernel_rfl) cB st x _ (by kernel_rfl) C6.out ?_)
          refine Calls.mono OD.out ?_
          rintro e W13 ⟨rfl, hb⟩
          have B13 : Hid (Below W9.heap.size W9 W13) := B12.out.trans (hb.mono B12.out.size)
          have OC : Hid (∀ Y, Below W13.heap.size W13 Y → ∀ k (hk : k < O.length), Y.cell? ⟨go, 0 + k, none⟩ = some (.int .i64 O[k])) := fun Y hY k hk => by
            have hb2 := hb.trans (hY.mono hb.size)
            rw [Nat.zero_add, hb2.cell (p := ⟨go, k, none⟩) (own_lt O12.out rfl).2, own_cell O12.out rfl hk]
          clear hb OD B12 C6 O12 HOf HOo HOd HW1 HW2
          go_wp2_with fail
          go_loopw [15] (fun vk wq => ∃ (k : Nat), k ≤ O.length ∧ vk = .int .i64 (k : Int) ∧ Hid (Below W13.heap.size W13 wq)) (fun vk _ => O.length - (intOf vk).toNat)
          case atStart => exact ⟨0, Nat.zero_le _, rfl, Below.refl _ _⟩
          case round =>
            obtain ⟨k, hk, rfl, HQ⟩ := hrel
            by_cases hkl : k < O.length
            case neg =>
              obtain rfl : k = O.length := by omega
              go_wp2_with fail
              go_roundw
              case rel => exact ⟨p + 1, by omega, by go_num, B13.out.trans (HQ.out.mono B13.out.size)⟩
              case measure => simp [intOf]; omega
            case pos =>
              have hki : (k : Int) < (O.length : Int) := by omega
              have HI := hide (HOI.out k hkl)
              have OCk : Hid (∀ Y, Below W13.heap.size W13 Y → Y.cell? ⟨go, 0 + k, none⟩ = some (.int .i64 O[k])) := fun Y hY => OC.out Y hY k hkl
              have HEq : Hid (decide ((p, k) ∈ l) = decide (O[k] = (n : Int))) := decide_eq_decide.2 HI.out
              generalize O[k] = ok at *
              go_upto_region 22 with fail
              refine wp_region_held_drew (S := fun Y => Below W13.heap.size W13 Y) (by kernel_rfl) HQ.out.drew (fun hHeld => ?_)
              refine wpAnyH_take (i := 0) (v := (.slice la l.length lc)) rfl (by kernel_rfl) (by kernel_rfl) (by kernel_rfl) (fun _ _ _ h => h) (Or.inl ⟨by rfl, ?_⟩) (by assumption) ?_
              · intro w' hSw
                (try dsimp only at hSw)
                exact exec_move (.tmp 8) rfl (by kernel_rfl)
              (try simp only [Act.put, List.getElem_toArray, List.getElem_cons_zero, List.getElem_cons_succ, List.setIfInBounds_toArray, List.set_cons_zero, List.set_cons_succ])
              refine wpAnyH_take (i := 1) (v := (.int .i64 (p : Int))) rfl (by kernel_rfl) (by kernel_rfl) (by kernel_rfl) (fun _ _ _ h => h) (Or.inl ⟨by rfl, ?_⟩) (by assumption) ?_
              · intro w' hSw
                (try dsimp only at hSw)
                exact exec_move (.tmp 12) rfl (by kernel_rfl)
              (try simp only [Act.put, List.getElem_toArray, List.getElem_cons_zero, List.getElem_cons_succ, List.setIfInBounds_toArray, List.set_cons_zero, List.set_cons_succ])
              refine wpAnyH_take (i := 2) (v := (.int .i64 (k : Int))) rfl (by kernel_rfl) (by kernel_rfl) (by kernel_rfl) (fun _ _ _ h => h) (Or.inl ⟨by rfl, ?_⟩) (by assumption) ?_
              · intro w' hSw
                (try dsimp only at hSw)
                exact exec_move (.tmp 15) rfl (by kernel_rfl)
              (try simp only [Act.put, List.getElem_toArray, List.getElem_cons_zero, List.getElem_cons_succ, List.setIfInBounds_toArray, List.set_cons_zero, List.set_cons_succ])
              refine wpAnyH_take (i := 4) (v := (.slice (some ⟨go, 0, none⟩) O.length co)) rfl (by kernel_rfl) (by kernel_rfl) (by kernel_rfl) (fun _ _ _ h => h) (Or.inl ⟨by rfl, ?_⟩) (by assumption) ?_
              · intro w' hSw
                (try dsimp only at hSw)
                exact exec_move (.tmp 13) rfl (by kernel_rfl)
              (try simp only [Act.put, List.getElem_toArray, List.getElem_cons_zero, List.getElem_cons_succ, List.setIfInBounds_toArray, List.set_cons_zero, List.set_cons_succ])
              refine wpAnyH_take (i := 5) (v := (.int .i64 (k : Int))) rfl (by kernel_rfl) (by kernel_rfl) (by kernel_rfl) (fun _ _ _ h => h) (Or.inl ⟨by rfl, ?_⟩) (by assumption) ?_
              · intro w' hSw
                (try dsimp only at hSw)
                exact exec_move (.tmp 15) rfl (by kernel_rfl)
              (try simp only [Act.put, List.getElem_toArray, List.getElem_cons_zero, List.getElem_cons_succ, List.setIfInBounds_toArray, List.set_cons_zero, List.set_cons_succ])
              refine wpAnyH_take (i := 6) (v := (.pointer (some ⟨go, 0 + k, none⟩))) rfl (by kernel_rfl) (by kernel_rfl) (by kernel_rfl) (fun _ _ _ h => h) (Or.inl ⟨by rfl, ?_⟩) (by assumption) ?_
              · intro w' hSw
                (try dsimp only at hSw)
                exact exec_ixI (n := O.length) (c := co) (.tmp 104) (.tmp 105) rfl (by kernel_rfl) (by kernel_rfl) hkl
              (try simp only [Act.put, List.getElem_toArray, List.getElem_cons_zero, List.getElem_cons_succ, List.setIfInBounds_toArray, List.set_cons_zero, List.set_cons_succ])
              refine wpAnyH_take (i := 7) (v := (.int .i64 ok)) rfl (by kernel_rfl) (by kernel_rfl) (by kernel_rfl) (fun _ _ _ h => h) (Or.inl ⟨by rfl, ?_⟩) (by assumption) ?_
              · intro w' hSw
                (try dsimp only at hSw)
                exact exec_ldi (.tmp 106) rfl (by kernel_rfl) (OCk.out _ hSw)
              (try simp only [Act.put, List.getElem_toArray, List.getElem_cons_zero, List.getElem_cons_succ, List.setIfInBounds_toArray, List.set_cons_zero, List.set_cons_succ])
              refine wpAnyH_take (i := 8) (v := (.int .i64 (n : Int))) rfl (by kernel_rfl) (by kernel_rfl) (by kernel_rfl) (fun _ _ _ h => h) (Or.inl ⟨by rfl, ?_⟩) (by assumption) ?_
              · intro w' hSw
                (try dsimp only at hSw)
                exact exec_move (.tmp 7) rfl (by kernel_rfl)
              (try simp only [Act.put, List.getElem_toArray, List.getElem_cons_zero, List.getElem_cons_succ, List.setIfInBounds_toArray, List.set_cons_zero, List.set_cons_succ])
              refine wpAnyH_take (i := 9) (v := (.bool (decide (ok = (n : Int))))) rfl (by kernel_rfl) (by kernel_rfl) (by kernel_rfl) (fun _ _ _ h => h) (Or.inl ⟨by rfl, ?_⟩) (by assumption) ?_
              · intro w' hSw
                (try dsimp only at hSw)
                exact exec_eqI (.tmp 107) (.tmp 108) rfl (by kernel_rfl) (by kernel_rfl)
              (try simp only [Act.put, List.getElem_toArray, List.getElem_cons_zero, List.getElem_cons_succ, List.setIfInBounds_toArray, List.set_cons_zero, List.set_cons_succ])
              refine wpAnyH_callTake (i := 3) (v := (.bool (decide ((p, k) ∈ l)))) rfl (by kernel_rfl) (by kernel_rfl) (by kernel_rfl) (fun _ _ _ h => h) (by kernel_rfl) 13 #[.slice la l.length lc, .int .i64 (p : Int), .int .i64 (k : Int)] (fun w' => by kernel_rfl) (fun w' hSw => HAS.out w' p k (B13.out.trans (Below.mono hSw B13.out.size))) (by assumption) ?_
              (try simp only [Act.put, List.getElem_toArray, List.getElem_cons_zero, List.getElem_cons_succ, List.setIfInBounds_toArray, List.set_cons_zero, List.set_cons_succ])
              refine wpAnyH_take (i := 10) (v := (.bool false)) rfl (by kernel_rfl) (by kernel_rfl) (by kernel_rfl) (fun _ _ _ h => h) (Or.inl ⟨by rfl, ?_⟩) (by assumption) ?_
              · intro w' hSw
                (try dsimp only at hSw)
                exact exec_neqB (a := decide ((p, k) ∈ l)) (b := decide (ok = (n : Int))) (.tmp 103) (.tmp 109) rfl (by kernel_rfl) (by kernel_rfl) HEq.out
              (try simp only [Act.put, List.getElem_toArray, List.getElem_cons_zero, List.getElem_cons_succ, List.setIfInBounds_toArray, List.set_cons_zero, List.set_cons_succ])
              refine wpAnyH_done (by kernel_rfl) ?_ _
              clear hHeld
              have HQ2 : Hid (Below W13.heap.size W13 wr.drew) := HQ.out.drew
              go_wp2_with fail
              go_roundw
              case rel => exact ⟨k + 1, by omega, by go_num, HQ2⟩
              case measure => simp [intOf]; omega
        case neg =>
          obtain rfl : p = P := by omega
          go_wp2_with fail
          go_loopw [16] (fun vi wq => ∃ (i : Nat), i ≤ F.length ∧ vi = .int .i64 (i : Int) ∧ Hid (Below W9.heap.size W9 wq)) (fun vi _ => F.length - (intOf vi).toNat)
          case atStart => exact ⟨0, Nat.zero_le _, rfl, B10⟩
          case round =>
            clear B10
            obtain ⟨i, hi, rfl, HQ⟩ := hrel
            by_cases hil : i < F.length
            case neg =>
              obtain rfl : i = F.length := by omega
              go_wp2_with fail
              go_roundw
              case rel => exact ⟨n + 1, by omega, by go_num, by rw [HStep.out]; push_cast; rfl, B9.out.trans (HQ.out.mono B9.out.size)⟩
              case measure => simp [intOf]; omega
            case pos =>
              have hii : (i : Int) < (F.length : Int) := by omega
              obtain ⟨fi, hfi⟩ : ∃ fi, F[i]? = some fi := ⟨_, List.getElem?_eq_getElem hil⟩
              obtain ⟨sl, hsl, cc, dd0, hcc, hfe⟩ := HFm.out fi (List.mem_of_getElem? hfi)
              obtain ⟨s1, s2⟩ := sl
              dsimp only at hfe
              have hsm := HMem.out _ hsl
              dsimp only at hsm
              have HVal : Hid (Val (s1, s2, cc, dd0)) := ⟨hsm.1, hsm.2, by show cc < 16; omega⟩
              obtain ⟨fg, hfg, fcell⟩ := FC.out _ i fi HQ.out hfi
              subst hfg
              rw [Nat.zero_add] at fcell
              have RN := readName_fn (s1, s2, cc, dd0) HVal.out wr (EN9.out _ HQ.out)
              rw [← hfe] at RN
              unfold fvVal at RN
              dsimp only at RN
              replace RN := hide RN
              have HFI := hide hfi
              have HSL := hide hsl
              clear hfe hsm hfi hsl
              go_wp2_with fail
              refine Calls.mono RN.out ?_
              rintro e W14 ⟨rfl, hb⟩
              obtain ⟨W15, hW15⟩ : ∃ W15, W15 = W14.alloc (.cells #[.int .i64 (s1 : Int), .int .i64 (s2 : Int), .int .i64 (cc : Int), .bool dd0] 45) := ⟨_, rfl⟩
              have b15 : Below W14.heap.size W14 W15 := by rw [hW15]; exact (Below.refl _ _).alloc (Nat.le_refl _) _
              have B15 : Hid (Below W9.heap.size W9 W15) := HQ.out.trans ((hb.trans (b15.mono hb.size)).mono HQ.out.size)
              have X15 : Hid (W15.heap[W14.heap.size]? = some (.cells #[.int .i64 (s1 : Int), .int .i64 (s2 : Int), .int .i64 (cc : Int), .bool dd0] 45)) := by rw [hW15]; exact heap_last _ _
              clear fcell RN HQ b15 hb
              go_upto_region 28 with fail
              rw [← hW15]
              clear hW15
              generalize W14.heap.size = xB at *
              have XC : Hid (∀ Y, Below W15.heap.size W15 Y → Y.cell? ⟨xB, 0, none⟩ = some (.int .i64 (s1 : Int)) ∧ Y.cell? ⟨xB, 1, none⟩ = some (.int .i64 (s2 : Int)) ∧ Y.cell? ⟨xB, 2, none⟩ = some (.int .i64 (cc : Int))) := fun Y hY => by
                have e := (hY.block _ (blk_lt X15.out)).trans X15.out
                refine ⟨?_, ?_, ?_⟩ <;> (unfold World.cell?; rw [e]; rfl)
              have CHC : Hid (∀ Y, Below W15.heap.size W15 Y → Y.cell? ⟨cB, 3, none⟩ = some (.int .i64 (ch : Int))) := fun Y hY => by
                obtain ⟨_, _, _, _, _, c6, _, _⟩ := (CV9.out _ (B15.out.trans (hY.mono B15.out.size))).c
                rw [VV.out.hch]
                exact c6.x2
              have HAS1 : Hid (∀ Y, Below W15.heap.size W15 Y → Calls Tryz.prog 13 #[.slice la l.length lc, .int .i64 (s1 : Int), .int .i64 (s2 : Int)] Y fun e w' => e = .returned (.bool true) ∧ Y = w') := fun Y hY => by
                have := HAS.out Y s1 s2 (B15.out.trans (hY.mono B15.out.size))
                rw [decide_eq_true HSL.out] at this
                exact this
              have FI : Hid (∀ Y, Below W15.heap.size W15 Y → Y.cell? ⟨fg, 0 + i, none⟩ = some (.string (strOf fi))) := fun Y hY => by
                obtain ⟨fg', e, hc⟩ := FC.out Y i fi (B15.out.trans (hY.mono B15.out.size)) HFI.out
                injection e with e
                injection e with e
                subst e
                exact hc
              have BD := hide ((Below.refl W15.heap.size W15).drew)
              cases i with
              | zero =>
                refine wp_region_held_drew (S := fun Y => Below W15.heap.size W15 Y) (by kernel_rfl) BD.out (fun hHeld => ?_)
                refine wpAnyH_take (i := 0) (v := (.int .i64 0)) rfl (by kernel_rfl) (by kernel_rfl) (by kernel_rfl) (fun _ _ _ h => h) (Or.inl ⟨by kernel_rfl, ?_⟩) (by assumption) ?_
                · intro w' hSw
                  (try dsimp only at hSw)
                  exact exec_move (.tmp 18) rfl (by kernel_rfl)
                (try simp only [Act.put, List.getElem_toArray, List.getElem_cons_zero, List.getElem_cons_succ, List.setIfInBounds_toArray, List.set_cons_zero, List.set_cons_succ])
                refine wpAnyH_callTake (i := 1) (v := (.int .i64 0)) rfl (by kernel_rfl) (by kernel_rfl) (by kernel_rfl) (fun _ _ _ h => h) (by kernel_rfl) 5 #[.int .i64 0] (fun w' => by kernel_rfl) (fun w' hSw => num_same 0 w') (by assumption) ?_
                (try simp only [Act.put, List.getElem_toArray, List.getElem_cons_zero, List.getElem_cons_succ, List.setIfInBounds_toArray, List.set_cons_zero, List.set_cons_succ])
                refine wpAnyH_take (i := 2) (v := (.bool false)) rfl (by kernel_rfl) (by kernel_rfl) (by kernel_rfl) (fun _ _ _ h => h) (Or.inl ⟨by kernel_rfl, ?_⟩) (by assumption) ?_
                · intro w' hSw
                  (try dsimp only at hSw)
                  exact exec_neqi (n := 0) (.tmp 126) (.const (.int .i64 0)) rfl (by kernel_rfl) (by kernel_rfl)
                (try simp only [Act.put, List.getElem_toArray, List.getElem_cons_zero, List.getElem_cons_succ, List.setIfInBounds_toArray, List.set_cons_zero, List.set_cons_succ])
                refine wpAnyH_take (i := 3) (v := (.bool false)) rfl (by kernel_rfl) (by kernel_rfl) (by kernel_rfl) (fun _ _ _ h => h) (Or.inl ⟨by kernel_rfl, ?_⟩) (by assumption) ?_
                · intro w' hSw
                  (try dsimp only at hSw)
                  exact exec_move (.tmp 127) rfl (by kernel_rfl)
                (try simp only [Act.put, List.getElem_toArray, List.getElem_cons_zero, List.getElem_cons_succ, List.setIfInBounds_toArray, List.set_cons_zero, List.set_cons_succ])
                refine wpAnyH_take (i := 4) (v := (.pointer (some ⟨xB, 2, none⟩))) rfl (by kernel_rfl) (by kernel_rfl) (by kernel_rfl) (fun _ _ _ h => h) (Or.inl ⟨by kernel_rfl, ?_⟩) (by assumption) ?_
                · intro w' hSw
                  (try dsimp only at hSw)
                  go_simp
                (try simp only [Act.put, List.getElem_toArray, List.getElem_cons_zero, List.getElem_cons_succ, List.setIfInBounds_toArray, List.set_cons_zero, List.set_cons_succ])
                refine wpAnyH_take (i := 5) (v := (.int .i64 (cc : Int))) rfl (by kernel_rfl) (by kernel_rfl) (by kernel_rfl) (fun _ _ _ h => h) (Or.inl ⟨by kernel_rfl, ?_⟩) (by assumption) ?_
                · intro w' hSw
                  (try dsimp only at hSw)
                  exact exec_ldi (.tmp 129) rfl (by kernel_rfl) (XC.out _ hSw).2.2
                (try simp only [Act.put, List.getElem_toArray, List.getElem_cons_zero, List.getElem_cons_succ, List.setIfInBounds_toArray, List.set_cons_zero, List.set_cons_succ])
                refine wpAnyH_take (i := 6) (v := (.pointer (some ⟨cB, 3, none⟩))) rfl (by kernel_rfl) (by kernel_rfl) (by kernel_rfl) (fun _ _ _ h => h) (Or.inl ⟨by kernel_rfl, ?_⟩) (by assumption) ?_
                · intro w' hSw
                  (try dsimp only at hSw)
                  go_simp
                (try simp only [Act.put, List.getElem_toArray, List.getElem_cons_zero, List.getElem_cons_succ, List.setIfInBounds_toArray, List.set_cons_zero, List.set_cons_succ])
                refine wpAnyH_take (i := 7) (v := (.int .i64 (ch : Int))) rfl (by kernel_rfl) (by kernel_rfl) (by kernel_rfl) (fun _ _ _ h => h) (Or.inl ⟨by kernel_rfl, ?_⟩) (by assumption) ?_
                · intro w' hSw
                  (try dsimp only at hSw)
                  exact exec_ldi (.tmp 131) rfl (by kernel_rfl) (CHC.out _ hSw)
                (try simp only [Act.put, List.getElem_toArray, List.getElem_cons_zero, List.getElem_cons_succ, List.setIfInBounds_toArray, List.set_cons_zero, List.set_cons_succ])
                refine wpAnyH_take (i := 8) (v := (.bool false)) rfl (by kernel_rfl) (by kernel_rfl) (by kernel_rfl) (fun _ _ _ h => h) (Or.inl ⟨by kernel_rfl, ?_⟩) (by assumption) ?_
                · intro w' hSw
                  (try dsimp only at hSw)
                  exact exec_geqF (a := (cc : Int)) (b := (ch : Int)) (.tmp 130) (.tmp 132) rfl (by kernel_rfl) (by kernel_rfl) (by omega)
                (try simp only [Act.put, List.getElem_toArray, List.getElem_cons_zero, List.getElem_cons_succ, List.setIfInBounds_toArray, List.set_cons_zero, List.set_cons_succ])
                refine wpAnyH_take (i := 9) (v := (.bool false)) rfl (by kernel_rfl) (by kernel_rfl) (by kernel_rfl) (fun _ _ _ h => h) (Or.inl ⟨by kernel_rfl, ?_⟩) (by assumption) ?_
                · intro w' hSw
                  (try dsimp only at hSw)
                  exact exec_pickf (.tmp 128) (.const (.bool true)) (.tmp 133) rfl (by kernel_rfl) (by kernel_rfl)
                (try simp only [Act.put, List.getElem_toArray, List.getElem_cons_zero, List.getElem_cons_succ, List.setIfInBounds_toArray, List.set_cons_zero, List.set_cons_succ])
                refine wpAnyH_take (i := 10) (v := (.bool false)) rfl (by kernel_rfl) (by kernel_rfl) (by kernel_rfl) (fun _ _ _ h => h) (Or.inl ⟨by kernel_rfl, ?_⟩) (by assumption) ?_
                · intro w' hSw
                  (try dsimp only at hSw)
                  exact exec_move (.tmp 134) rfl (by kernel_rfl)
                (try simp only [Act.put, List.getElem_toArray, List.getElem_cons_zero, List.getElem_cons_succ, List.setIfInBounds_toArray, List.set_cons_zero, List.set_cons_succ])
                refine wpAnyH_take (i := 11) (v := (.slice la l.length lc)) rfl (by kernel_rfl) (by kernel_rfl) (by kernel_rfl) (fun _ _ _ h => h) (Or.inl ⟨by kernel_rfl, ?_⟩) (by assumption) ?_
                · intro w' hSw
                  (try dsimp only at hSw)
                  exact exec_move (.tmp 8) rfl (by kernel_rfl)
                (try simp only [Act.put, List.getElem_toArray, List.getElem_cons_zero, List.getElem_cons_succ, List.setIfInBounds_toArray, List.set_cons_zero, List.set_cons_succ])
                refine wpAnyH_take (i := 12) (v := (.pointer (some ⟨xB, 0, none⟩))) rfl (by kernel_rfl) (by kernel_rfl) (by kernel_rfl) (fun _ _ _ h => h) (Or.inl ⟨by kernel_rfl, ?_⟩) (by assumption) ?_
                · intro w' hSw
                  (try dsimp only at hSw)
                  go_simp
                (try simp only [Act.put, List.getElem_toArray, List.getElem_cons_zero, List.getElem_cons_succ, List.setIfInBounds_toArray, List.set_cons_zero, List.set_cons_succ])
                refine wpAnyH_take (i := 13) (v := (.int .i64 (s1 : Int))) rfl (by kernel_rfl) (by kernel_rfl) (by kernel_rfl) (fun _ _ _ h => h) (Or.inl ⟨by kernel_rfl, ?_⟩) (by assumption) ?_
                · intro w' hSw
                  (try dsimp only at hSw)
                  exact exec_ldi (.tmp 137) rfl (by kernel_rfl) (XC.out _ hSw).1
                (try simp only [Act.put, List.getElem_toArray, List.getElem_cons_zero, List.getElem_cons_succ, List.setIfInBounds_toArray, List.set_cons_zero, List.set_cons_succ])
                refine wpAnyH_take (i := 14) (v := (.pointer (some ⟨xB, 1, none⟩))) rfl (by kernel_rfl) (by kernel_rfl) (by kernel_rfl) (fun _ _ _ h => h) (Or.inl ⟨by kernel_rfl, ?_⟩) (by assumption) ?_
                · intro w' hSw
                  (try dsimp only at hSw)
                  go_simp
                (try simp only [Act.put, List.getElem_toArray, List.getElem_cons_zero, List.getElem_cons_succ, List.setIfInBounds_toArray, List.set_cons_zero, List.set_cons_succ])
                refine wpAnyH_take (i := 15) (v := (.int .i64 (s2 : Int))) rfl (by kernel_rfl) (by kernel_rfl) (by kernel_rfl) (fun _ _ _ h => h) (Or.inl ⟨by kernel_rfl, ?_⟩) (by assumption) ?_
                · intro w' hSw
                  (try dsimp only at hSw)
                  exact exec_ldi (.tmp 139) rfl (by kernel_rfl) (XC.out _ hSw).2.1
                (try simp only [Act.put, List.getElem_toArray, List.getElem_cons_zero, List.getElem_cons_succ, List.setIfInBounds_toArray, List.set_cons_zero, List.set_cons_succ])
                refine wpAnyH_callTake (i := 16) (v := (.bool true)) rfl (by kernel_rfl) (by kernel_rfl) (by kernel_rfl) (fun _ _ _ h => h) (by kernel_rfl) 13 #[.slice la l.length lc, .int .i64 (s1 : Int), .int .i64 (s2 : Int)] (fun w' => by kernel_rfl) (fun w' hSw => HAS1.out w' hSw) (by assumption) ?_
                (try simp only [Act.put, List.getElem_toArray, List.getElem_cons_zero, List.getElem_cons_succ, List.setIfInBounds_toArray, List.set_cons_zero, List.set_cons_succ])
                refine wpAnyH_take (i := 17) (v := (.bool false)) rfl (by kernel_rfl) (by kernel_rfl) (by kernel_rfl) (fun _ _ _ h => h) (Or.inl ⟨by kernel_rfl, ?_⟩) (by assumption) ?_
                · intro w' hSw
                  (try dsimp only at hSw)
                  exact exec_not (.tmp 141) 4 rfl (by kernel_rfl)
                (try simp only [Act.put, List.getElem_toArray, List.getElem_cons_zero, List.getElem_cons_succ, List.setIfInBounds_toArray, List.set_cons_zero, List.set_cons_succ])
                refine wpAnyH_take (i := 18) (v := (.bool false)) rfl (by kernel_rfl) (by kernel_rfl) (by kernel_rfl) (fun _ _ _ h => h) (Or.inl ⟨by kernel_rfl, ?_⟩) (by assumption) ?_
                · intro w' hSw
                  (try dsimp only at hSw)
                  exact exec_pickf (.tmp 135) (.const (.bool true)) (.tmp 142) rfl (by kernel_rfl) (by kernel_rfl)
                (try simp only [Act.put, List.getElem_toArray, List.getElem_cons_zero, List.getElem_cons_succ, List.setIfInBounds_toArray, List.set_cons_zero, List.set_cons_succ])
                refine wpAnyH_take (i := 19) (v := (.bool false)) rfl (by kernel_rfl) (by kernel_rfl) (by kernel_rfl) (fun _ _ _ h => h) (Or.inl ⟨by kernel_rfl, ?_⟩) (by assumption) ?_
                · intro w' hSw
                  (try dsimp only at hSw)
                  exact exec_move (.tmp 143) rfl (by kernel_rfl)
                (try simp only [Act.put, List.getElem_toArray, List.getElem_cons_zero, List.getElem_cons_succ, List.setIfInBounds_toArray, List.set_cons_zero, List.set_cons_succ])
                refine wpAnyH_take (i := 20) (v := (.int .i64 0)) rfl (by kernel_rfl) (by kernel_rfl) (by kernel_rfl) (fun _ _ _ h => h) (Or.inl ⟨by kernel_rfl, ?_⟩) (by assumption) ?_
                · intro w' hSw
                  (try dsimp only at hSw)
                  exact exec_move (.tmp 16) rfl (by kernel_rfl)
                (try simp only [Act.put, List.getElem_toArray, List.getElem_cons_zero, List.getElem_cons_succ, List.setIfInBounds_toArray, List.set_cons_zero, List.set_cons_succ])
                refine wpAnyH_take (i := 21) (v := (.bool false)) rfl (by kernel_rfl) (by kernel_rfl) (by kernel_rfl) (fun _ _ _ h => h) (Or.inl ⟨by kernel_rfl, ?_⟩) (by assumption) ?_
                · intro w' hSw
                  (try dsimp only at hSw)
                  exact exec_gtrF (a := 0) (b := 0) (.tmp 145) (.const (.int .i64 0)) rfl (by kernel_rfl) (by kernel_rfl) (by omega)
                (try simp only [Act.put, List.getElem_toArray, List.getElem_cons_zero, List.getElem_cons_succ, List.setIfInBounds_toArray, List.set_cons_zero, List.set_cons_succ])
                refine wpAnyH_take (i := 22) (v := (.bool false)) rfl (by kernel_rfl) (by kernel_rfl) (by kernel_rfl) (fun _ _ _ h => h) (Or.inl ⟨by kernel_rfl, ?_⟩) (by assumption) ?_
                · intro w' hSw
                  (try dsimp only at hSw)
                  exact exec_move (.tmp 146) rfl (by kernel_rfl)
                (try simp only [Act.put, List.getElem_toArray, List.getElem_cons_zero, List.getElem_cons_succ, List.setIfInBounds_toArray, List.set_cons_zero, List.set_cons_succ])
                refine wpAnyH_take (i := 23) (v := undef) rfl (by kernel_rfl) (by kernel_rfl) (by kernel_rfl) (fun _ _ _ h => h) (Or.inr ⟨by kernel_rfl, rfl⟩) (by assumption) ?_
                (try simp only [Act.put, List.setIfInBounds_toArray, List.set_cons_zero, List.set_cons_succ])
                refine wpAnyH_take (i := 24) (v := undef) rfl (by kernel_rfl) (by kernel_rfl) (by kernel_rfl) (fun _ _ _ h => h) (Or.inr ⟨by kernel_rfl, rfl⟩) (by assumption) ?_
                (try simp only [Act.put, List.setIfInBounds_toArray, List.set_cons_zero, List.set_cons_succ])
                refine wpAnyH_take (i := 25) (v := undef) rfl (by kernel_rfl) (by kernel_rfl) (by kernel_rfl) (fun _ _ _ h => h) (Or.inr ⟨by kernel_rfl, rfl⟩) (by assumption) ?_
                (try simp only [Act.put, List.setIfInBounds_toArray, List.set_cons_zero, List.set_cons_succ])
                refine wpAnyH_take (i := 26) (v := undef) rfl (by kernel_rfl) (by kernel_rfl) (by kernel_rfl) (fun _ _ _ h => h) (Or.inr ⟨by kernel_rfl, rfl⟩) (by assumption) ?_
                (try simp only [Act.put, List.setIfInBounds_toArray, List.set_cons_zero, List.set_cons_succ])
                refine wpAnyH_take (i := 27) (v := undef) rfl (by kernel_rfl) (by kernel_rfl) (by kernel_rfl) (fun _ _ _ h => h) (Or.inr ⟨by kernel_rfl, rfl⟩) (by assumption) ?_
                (try simp only [Act.put, List.setIfInBounds_toArray, List.set_cons_zero, List.set_cons_succ])
                refine wpAnyH_take (i := 28) (v := undef) rfl (by kernel_rfl) (by kernel_rfl) (by kernel_rfl) (fun _ _ _ h => h) (Or.inr ⟨by kernel_rfl, rfl⟩) (by assumption) ?_
                (try simp only [Act.put, List.setIfInBounds_toArray, List.set_cons_zero, List.set_cons_succ])
                refine wpAnyH_take (i := 29) (v := undef) rfl (by kernel_rfl) (by kernel_rfl) (by kernel_rfl) (fun _ _ _ h => h) (Or.inr ⟨by kernel_rfl, rfl⟩) (by assumption) ?_
                (try simp only [Act.put, List.setIfInBounds_toArray, List.set_cons_zero, List.set_cons_succ])
                refine wpAnyH_take (i := 30) (v := undef) rfl (by kernel_rfl) (by kernel_rfl) (by kernel_rfl) (fun _ _ _ h => h) (Or.inr ⟨by kernel_rfl, rfl⟩) (by assumption) ?_
                (try simp only [Act.put, List.setIfInBounds_toArray, List.set_cons_zero, List.set_cons_succ])
                refine wpAnyH_take (i := 31) (v := undef) rfl (by kernel_rfl) (by kernel_rfl) (by kernel_rfl) (fun _ _ _ h => h) (Or.inr ⟨by kernel_rfl, rfl⟩) (by assumption) ?_
                (try simp only [Act.put, List.setIfInBounds_toArray, List.set_cons_zero, List.set_cons_succ])
                refine wpAnyH_take (i := 32) (v := undef) rfl (by kernel_rfl) (by kernel_rfl) (by kernel_rfl) (fun _ _ _ h => h) (Or.inr ⟨by kernel_rfl, rfl⟩) (by assumption) ?_
                (try simp only [Act.put, List.setIfInBounds_toArray, List.set_cons_zero, List.set_cons_succ])
                refine wpAnyH_take (i := 33) (v := (.bool false)) rfl (by kernel_rfl) (by kernel_rfl) (by kernel_rfl) (fun _ _ _ h => h) (Or.inl ⟨by kernel_rfl, ?_⟩) (by assumption) ?_
                · intro w' hSw
                  (try dsimp only at hSw)
                  exact exec_pickf (.tmp 147) (.tmp 157) (.const (.bool false)) rfl (by kernel_rfl) (by kernel_rfl)
                (try simp only [Act.put, List.getElem_toArray, List.getElem_cons_zero, List.getElem_cons_succ, List.setIfInBounds_toArray, List.set_cons_zero, List.set_cons_succ])
                refine wpAnyH_take (i := 34) (v := (.bool false)) rfl (by kernel_rfl) (by kernel_rfl) (by kernel_rfl) (fun _ _ _ h => h) (Or.inl ⟨by kernel_rfl, ?_⟩) (by assumption) ?_
                · intro w' hSw
                  (try dsimp only at hSw)
                  exact exec_pickf (.tmp 144) (.const (.bool true)) (.tmp 158) rfl (by kernel_rfl) (by kernel_rfl)
                (try simp only [Act.put, List.getElem_toArray, List.getElem_cons_zero, List.getElem_cons_succ, List.setIfInBounds_toArray, List.set_cons_zero, List.set_cons_succ])
                refine wpAnyH_done (by kernel_rfl) ?_ _
                clear hHeld
                have HQ2 : Hid (Below W9.heap.size W9 W15.drew) := B15.out.drew
                go_wp2_with fail
                go_roundw
                case rel => exact ⟨0 + 1, by omega, by go_num, HQ2⟩
                case measure => simp [intOf]; omega
              | succ i =>
                obtain ⟨fj, hfj⟩ : ∃ fj, F[i]? = some fj := ⟨_, List.getElem?_eq_getElem (by omega)⟩
                have HLt := hide (HRise.out i fj fi hfj HFI.out)
                have FJ : Hid (∀ Y, Below W15.heap.size W15 Y → Y.cell? ⟨fg, 0 + i, none⟩ = some (.string (strOf fj))) := fun Y hY => by
                  obtain ⟨fg', e, hc⟩ := FC.out Y i fj (B15.out.trans (hY.mono B15.out.size)) hfj
                  injection e with e
                  injection e with e
                  subst e
                  exact hc
                clear hfj
                refine wp_region_held_drew (S := fun Y => Below W15.heap.size W15 Y) (by kernel_rfl) BD.out (fun hHeld => ?_)
                refine wpAnyH_take (i := 0) (v := (.int .i64 0)) rfl (by kernel_rfl) (by kernel_rfl) (by kernel_rfl) (fun _ _ _ h => h) (Or.inl ⟨by kernel_rfl, ?_⟩) (by assumption) ?_
                · intro w' hSw
                  (try dsimp only at hSw)
                  exact exec_move (.tmp 18) rfl (by kernel_rfl)
                (try simp only [Act.put, List.getElem_toArray, List.getElem_cons_zero, List.getElem_cons_succ, List.setIfInBounds_toArray, List.set_cons_zero, List.set_cons_succ])
                refine wpAnyH_callTake (i := 1) (v := (.int .i64 0)) rfl (by kernel_rfl) (by kernel_rfl) (by kernel_rfl) (fun _ _ _ h => h) (by kernel_rfl) 5 #[.int .i64 0] (fun w' => by kernel_rfl) (fun w' hSw => num_same 0 w') (by assumption) ?_
                (try simp only [Act.put, List.getElem_toArray, List.getElem_cons_zero, List.getElem_cons_succ, List.setIfInBounds_toArray, List.set_cons_zero, List.set_cons_succ])
                refine wpAnyH_take (i := 2) (v := (.bool false)) rfl (by kernel_rfl) (by kernel_rfl) (by kernel_rfl) (fun _ _ _ h => h) (Or.inl ⟨by kernel_rfl, ?_⟩) (by assumption) ?_
                · intro w' hSw
                  (try dsimp only at hSw)
                  exact exec_neqi (n := 0) (.tmp 126) (.const (.int .i64 0)) rfl (by kernel_rfl) (by kernel_rfl)
                (try simp only [Act.put, List.getElem_toArray, List.getElem_cons_zero, List.getElem_cons_succ, List.setIfInBounds_toArray, List.set_cons_zero, List.set_cons_succ])
                refine wpAnyH_take (i := 3) (v := (.bool false)) rfl (by kernel_rfl) (by kernel_rfl) (by kernel_rfl) (fun _ _ _ h => h) (Or.inl ⟨by kernel_rfl, ?_⟩) (by assumption) ?_
                · intro w' hSw
                  (try dsimp only at hSw)
                  exact exec_move (.tmp 127) rfl (by kernel_rfl)
                (try simp only [Act.put, List.getElem_toArray, List.getElem_cons_zero, List.getElem_cons_succ, List.setIfInBounds_toArray, List.set_cons_zero, List.set_cons_succ])
                refine wpAnyH_take (i := 4) (v := (.pointer (some ⟨xB, 2, none⟩))) rfl (by kernel_rfl) (by kernel_rfl) (by kernel_rfl) (fun _ _ _ h => h) (Or.inl ⟨by kernel_rfl, ?_⟩) (by assumption) ?_
                · intro w' hSw
                  (try dsimp only at hSw)
                  go_simp
                (try simp only [Act.put, List.getElem_toArray, List.getElem_cons_zero, List.getElem_cons_succ, List.setIfInBounds_toArray, List.set_cons_zero, List.set_cons_succ])
                refine wpAnyH_take (i := 5) (v := (.int .i64 (cc : Int))) rfl (by kernel_rfl) (by kernel_rfl) (by kernel_rfl) (fun _ _ _ h => h) (Or.inl ⟨by kernel_rfl, ?_⟩) (by assumption) ?_
                · intro w' hSw
                  (try dsimp only at hSw)
                  exact exec_ldi (.tmp 129) rfl (by kernel_rfl) (XC.out _ hSw).2.2
                (try simp only [Act.put, List.getElem_toArray, List.getElem_cons_zero, List.getElem_cons_succ, List.setIfInBounds_toArray, List.set_cons_zero, List.set_cons_succ])
                refine wpAnyH_take (i := 6) (v := (.pointer (some ⟨cB, 3, none⟩))) rfl (by kernel_rfl) (by kernel_rfl) (by kernel_rfl) (fun _ _ _ h => h) (Or.inl ⟨by kernel_rfl, ?_⟩) (by assumption) ?_
                · intro w' hSw
                  (try dsimp only at hSw)
                  go_simp
                (try simp only [Act.put, List.getElem_toArray, List.getElem_cons_zero, List.getElem_cons_succ, List.setIfInBounds_toArray, List.set_cons_zero, List.set_cons_succ])
                refine wpAnyH_take (i := 7) (v := (.int .i64 (ch : Int))) rfl (by kernel_rfl) (by kernel_rfl) (by kernel_rfl) (fun _ _ _ h => h) (Or.inl ⟨by kernel_rfl, ?_⟩) (by assumption) ?_
                · intro w' hSw
                  (try dsimp only at hSw)
                  exact exec_ldi (.tmp 131) rfl (by kernel_rfl) (CHC.out _ hSw)
                (try simp only [Act.put, List.getElem_toArray, List.getElem_cons_zero, List.getElem_cons_succ, List.setIfInBounds_toArray, List.set_cons_zero, List.set_cons_succ])
                refine wpAnyH_take (i := 8) (v := (.bool false)) rfl (by kernel_rfl) (by kernel_rfl) (by kernel_rfl) (fun _ _ _ h => h) (Or.inl ⟨by kernel_rfl, ?_⟩) (by assumption) ?_
                · intro w' hSw
                  (try dsimp only at hSw)
                  exact exec_geqF (a := (cc : Int)) (b := (ch : Int)) (.tmp 130) (.tmp 132) rfl (by kernel_rfl) (by kernel_rfl) (by omega)
                (try simp only [Act.put, List.getElem_toArray, List.getElem_cons_zero, List.getElem_cons_succ, List.setIfInBounds_toArray, List.set_cons_zero, List.set_cons_succ])
                refine wpAnyH_take (i := 9) (v := (.bool false)) rfl (by kernel_rfl) (by kernel_rfl) (by kernel_rfl) (fun _ _ _ h => h) (Or.inl ⟨by kernel_rfl, ?_⟩) (by assumption) ?_
                · intro w' hSw
                  (try dsimp only at hSw)
                  exact exec_pickf (.tmp 128) (.const (.bool true)) (.tmp 133) rfl (by kernel_rfl) (by kernel_rfl)
                (try simp only [Act.put, List.getElem_toArray, List.getElem_cons_zero, List.getElem_cons_succ, List.setIfInBounds_toArray, List.set_cons_zero, List.set_cons_succ])
                refine wpAnyH_take (i := 10) (v := (.bool false)) rfl (by kernel_rfl) (by kernel_rfl) (by kernel_rfl) (fun _ _ _ h => h) (Or.inl ⟨by kernel_rfl, ?_⟩) (by assumption) ?_
                · intro w' hSw
                  (try dsimp only at hSw)
                  exact exec_move (.tmp 134) rfl (by kernel_rfl)
                (try simp only [Act.put, List.getElem_toArray, List.getElem_cons_zero, List.getElem_cons_succ, List.setIfInBounds_toArray, List.set_cons_zero, List.set_cons_succ])
                refine wpAnyH_take (i := 11) (v := (.slice la l.length lc)) rfl (by kernel_rfl) (by kernel_rfl) (by kernel_rfl) (fun _ _ _ h => h) (Or.inl ⟨by kernel_rfl, ?_⟩) (by assumption) ?_
                · intro w' hSw
                  (try dsimp only at hSw)
                  exact exec_move (.tmp 8) rfl (by kernel_rfl)
                (try simp only [Act.put, List.getElem_toArray, List.getElem_cons_zero, List.getElem_cons_succ, List.setIfInBounds_toArray, List.set_cons_zero, List.set_cons_succ])
                refine wpAnyH_take (i := 12) (v := (.pointer (some ⟨xB, 0, none⟩))) rfl (by kernel_rfl) (by kernel_rfl) (by kernel_rfl) (fun _ _ _ h => h) (Or.inl ⟨by kernel_rfl, ?_⟩) (by assumption) ?_
                · intro w' hSw
                  (try dsimp only at hSw)
                  go_simp
                (try simp only [Act.put, List.getElem_toArray, List.getElem_cons_zero, List.getElem_cons_succ, List.setIfInBounds_toArray, List.set_cons_zero, List.set_cons_succ])
                refine wpAnyH_take (i := 13) (v := (.int .i64 (s1 : Int))) rfl (by kernel_rfl) (by kernel_rfl) (by kernel_rfl) (fun _ _ _ h => h) (Or.inl ⟨by kernel_rfl, ?_⟩) (by assumption) ?_
                · intro w' hSw
                  (try dsimp only at hSw)
                  exact exec_ldi (.tmp 137) rfl (by kernel_rfl) (XC.out _ hSw).1
                (try simp only [Act.put, List.getElem_toArray, List.getElem_cons_zero, List.getElem_cons_succ, List.setIfInBounds_toArray, List.set_cons_zero, List.set_cons_succ])
                refine wpAnyH_take (i := 14) (v := (.pointer (some ⟨xB, 1, none⟩))) rfl (by kernel_rfl) (by kernel_rfl) (by kernel_rfl) (fun _ _ _ h => h) (Or.inl ⟨by kernel_rfl, ?_⟩) (by assumption) ?_
                · intro w' hSw
                  (try dsimp only at hSw)
                  go_simp
                (try simp only [Act.put, List.getElem_toArray, List.getElem_cons_zero, List.getElem_cons_succ, List.setIfInBounds_toArray, List.set_cons_zero, List.set_cons_succ])
                refine wpAnyH_take (i := 15) (v := (.int .i64 (s2 : Int))) rfl (by kernel_rfl) (by kernel_rfl) (by kernel_rfl) (fun _ _ _ h => h) (Or.inl ⟨by kernel_rfl, ?_⟩) (by assumption) ?_
                · intro w' hSw
                  (try dsimp only at hSw)
                  exact exec_ldi (.tmp 139) rfl (by kernel_rfl) (XC.out _ hSw).2.1
                (try simp only [Act.put, List.getElem_toArray, List.getElem_cons_zero, List.getElem_cons_succ, List.setIfInBounds_toArray, List.set_cons_zero, List.set_cons_succ])
                refine wpAnyH_callTake (i := 16) (v := (.bool true)) rfl (by kernel_rfl) (by kernel_rfl) (by kernel_rfl) (fun _ _ _ h => h) (by kernel_rfl) 13 #[.slice la l.length lc, .int .i64 (s1 : Int), .int .i64 (s2 : Int)] (fun w' => by kernel_rfl) (fun w' hSw => HAS1.out w' hSw) (by assumption) ?_
                (try simp only [Act.put, List.getElem_toArray, List.getElem_cons_zero, List.getElem_cons_succ, List.setIfInBounds_toArray, List.set_cons_zero, List.set_cons_succ])
                refine wpAnyH_take (i := 17) (v := (.bool false)) rfl (by kernel_rfl) (by kernel_rfl) (by kernel_rfl) (fun _ _ _ h => h) (Or.inl ⟨by kernel_rfl, ?_⟩) (by assumption) ?_
                · intro w' hSw
                  (try dsimp only at hSw)
                  exact exec_not (.tmp 141) 4 rfl (by kernel_rfl)
                (try simp only [Act.put, List.getElem_toArray, List.getElem_cons_zero, List.getElem_cons_succ, List.setIfInBounds_toArray, List.set_cons_zero, List.set_cons_succ])
                refine wpAnyH_take (i := 18) (v := (.bool false)) rfl (by kernel_rfl) (by kernel_rfl) (by kernel_rfl) (fun _ _ _ h => h) (Or.inl ⟨by kernel_rfl, ?_⟩) (by assumption) ?_
                · intro w' hSw
                  (try dsimp only at hSw)
                  exact exec_pickf (.tmp 135) (.const (.bool true)) (.tmp 142) rfl (by kernel_rfl) (by kernel_rfl)
                (try simp only [Act.put, List.getElem_toArray, List.getElem_cons_zero, List.getElem_cons_succ, List.setIfInBounds_toArray, List.set_cons_zero, List.set_cons_succ])
                refine wpAnyH_take (i := 19) (v := (.bool false)) rfl (by kernel_rfl) (by kernel_rfl) (by kernel_rfl) (fun _ _ _ h => h) (Or.inl ⟨by kernel_rfl, ?_⟩) (by assumption) ?_
                · intro w' hSw
                  (try dsimp only at hSw)
                  exact exec_move (.tmp 143) rfl (by kernel_rfl)
                (try simp only [Act.put, List.getElem_toArray, List.getElem_cons_zero, List.getElem_cons_succ, List.setIfInBounds_toArray, List.set_cons_zero, List.set_cons_succ])
                refine wpAnyH_take (i := 20) (v := (.int .i64 ((i + 1 : Nat) : Int))) rfl (by kernel_rfl) (by kernel_rfl) (by kernel_rfl) (fun _ _ _ h => h) (Or.inl ⟨by kernel_rfl, ?_⟩) (by assumption) ?_
                · intro w' hSw
                  (try dsimp only at hSw)
                  exact exec_move (.tmp 16) rfl (by kernel_rfl)
                (try simp only [Act.put, List.getElem_toArray, List.getElem_cons_zero, List.getElem_cons_succ, List.setIfInBounds_toArray, List.set_cons_zero, List.set_cons_succ])
                refine wpAnyH_take (i := 21) (v := (.bool true)) rfl (by kernel_rfl) (by kernel_rfl) (by kernel_rfl) (fun _ _ _ h => h) (Or.inl ⟨by kernel_rfl, ?_⟩) (by assumption) ?_
                · intro w' hSw
                  (try dsimp only at hSw)
                  exact exec_gtrT (a := ((i + 1 : Nat) : Int)) (b := 0) (.tmp 145) (.const (.int .i64 0)) rfl (by kernel_rfl) (by kernel_rfl) (by omega)
                (try simp only [Act.put, List.getElem_toArray, List.getElem_cons_zero, List.getElem_cons_succ, List.setIfInBounds_toArray, List.set_cons_zero, List.set_cons_succ])
                refine wpAnyH_take (i := 22) (v := (.bool true)) rfl (by kernel_rfl) (by kernel_rfl) (by kernel_rfl) (fun _ _ _ h => h) (Or.inl ⟨by kernel_rfl, ?_⟩) (by assumption) ?_
                · intro w' hSw
                  (try dsimp only at hSw)
                  exact exec_move (.tmp 146) rfl (by kernel_rfl)
                (try simp only [Act.put, List.getElem_toArray, List.getElem_cons_zero, List.getElem_cons_succ, List.setIfInBounds_toArray, List.set_cons_zero, List.set_cons_succ])
                refine wpAnyH_take (i := 23) (v := (.slice (some ⟨fg, 0, none⟩) F.length fc)) rfl (by kernel_rfl) (by kernel_rfl) (by kernel_rfl) (fun _ _ _ h => h) (Or.inl ⟨by kernel_rfl, ?_⟩) (by assumption) ?_
                · intro w' hSw
                  (try dsimp only at hSw)
                  exact exec_move (.tmp 10) rfl (by kernel_rfl)
                (try simp only [Act.put, List.getElem_toArray, List.getElem_cons_zero, List.getElem_cons_succ, List.setIfInBounds_toArray, List.set_cons_zero, List.set_cons_succ])
                refine wpAnyH_take (i := 24) (v := (.int .i64 ((i + 1 : Nat) : Int))) rfl (by kernel_rfl) (by kernel_rfl) (by kernel_rfl) (fun _ _ _ h => h) (Or.inl ⟨by kernel_rfl, ?_⟩) (by assumption) ?_
                · intro w' hSw
                  (try dsimp only at hSw)
                  exact exec_move (.tmp 16) rfl (by kernel_rfl)
                (try simp only [Act.put, List.getElem_toArray, List.getElem_cons_zero, List.getElem_cons_succ, List.setIfInBounds_toArray, List.set_cons_zero, List.set_cons_succ])
                refine wpAnyH_take (i := 25) (v := (.pointer (some ⟨fg, 0 + (i + 1), none⟩))) rfl (by kernel_rfl) (by kernel_rfl) (by kernel_rfl) (fun _ _ _ h => h) (Or.inl ⟨by kernel_rfl, ?_⟩) (by assumption) ?_
                · intro w' hSw
                  (try dsimp only at hSw)
                  exact exec_ixT (n := F.length) (c := fc) (q := i + 1) (.tmp 148) (.tmp 149) rfl (by kernel_rfl) (by kernel_rfl) hil
                (try simp only [Act.put, List.getElem_toArray, List.getElem_cons_zero, List.getElem_cons_succ, List.setIfInBounds_toArray, List.set_cons_zero, List.set_cons_succ])
                refine wpAnyH_take (i := 26) (v := (.string (strOf fi))) rfl (by kernel_rfl) (by kernel_rfl) (by kernel_rfl) (fun _ _ _ h => h) (Or.inl ⟨by kernel_rfl, ?_⟩) (by assumption) ?_
                · intro w' hSw
                  (try dsimp only at hSw)
                  exact exec_ldSv (.tmp 150) rfl (by kernel_rfl) (FI.out _ hSw)
                (try simp only [Act.put, List.getElem_toArray, List.getElem_cons_zero, List.getElem_cons_succ, List.setIfInBounds_toArray, List.set_cons_zero, List.set_cons_succ])
                refine wpAnyH_take (i := 27) (v := (.slice (some ⟨fg, 0, none⟩) F.length fc)) rfl (by kernel_rfl) (by kernel_rfl) (by kernel_rfl) (fun _ _ _ h => h) (Or.inl ⟨by kernel_rfl, ?_⟩) (by assumption) ?_
                · intro w' hSw
                  (try dsimp only at hSw)
                  exact exec_move (.tmp 10) rfl (by kernel_rfl)
                (try simp only [Act.put, List.getElem_toArray, List.getElem_cons_zero, List.getElem_cons_succ, List.setIfInBounds_toArray, List.set_cons_zero, List.set_cons_succ])
                refine wpAnyH_take (i := 28) (v := (.int .i64 ((i + 1 : Nat) : Int))) rfl (by kernel_rfl) (by kernel_rfl) (by kernel_rfl) (fun _ _ _ h => h) (Or.inl ⟨by kernel_rfl, ?_⟩) (by assumption) ?_
                · intro w' hSw
                  (try dsimp only at hSw)
                  exact exec_move (.tmp 16) rfl (by kernel_rfl)
                (try simp only [Act.put, List.getElem_toArray, List.getElem_cons_zero, List.getElem_cons_succ, List.setIfInBounds_toArray, List.set_cons_zero, List.set_cons_succ])
                refine wpAnyH_take (i := 29) (v := (.int .i64 (i : Int))) rfl (by kernel_rfl) (by kernel_rfl) (by kernel_rfl) (fun _ _ _ h => h) (Or.inl ⟨by kernel_rfl, ?_⟩) (by assumption) ?_
                · intro w' hSw
                  (try dsimp only at hSw)
                  exact exec_sub1 (.tmp 153) (.const (.int .i64 1)) rfl (by kernel_rfl) (by kernel_rfl) (by omega)
                (try simp only [Act.put, List.getElem_toArray, List.getElem_cons_zero, List.getElem_cons_succ, List.setIfInBounds_toArray, List.set_cons_zero, List.set_cons_succ])
                refine wpAnyH_take (i := 30) (v := (.pointer (some ⟨fg, 0 + i, none⟩))) rfl (by kernel_rfl) (by kernel_rfl) (by kernel_rfl) (fun _ _ _ h => h) (Or.inl ⟨by kernel_rfl, ?_⟩) (by assumption) ?_
                · intro w' hSw
                  (try dsimp only at hSw)
                  exact exec_ixT (n := F.length) (c := fc) (q := i) (.tmp 152) (.tmp 154) rfl (by kernel_rfl) (by kernel_rfl) (by omega)
                (try simp only [Act.put, List.getElem_toArray, List.getElem_cons_zero, List.getElem_cons_succ, List.setIfInBounds_toArray, List.set_cons_zero, List.set_cons_succ])
                refine wpAnyH_take (i := 31) (v := (.string (strOf fj))) rfl (by kernel_rfl) (by kernel_rfl) (by kernel_rfl) (fun _ _ _ h => h) (Or.inl ⟨by kernel_rfl, ?_⟩) (by assumption) ?_
                · intro w' hSw
                  (try dsimp only at hSw)
                  exact exec_ldSv (.tmp 155) rfl (by kernel_rfl) (FJ.out _ hSw)
                (try simp only [Act.put, List.getElem_toArray, List.getElem_cons_zero, List.getElem_cons_succ, List.setIfInBounds_toArray, List.set_cons_zero, List.set_cons_succ])
                refine wpAnyH_take (i := 32) (v := (.bool false)) rfl (by kernel_rfl) (by kernel_rfl) (by kernel_rfl) (fun _ _ _ h => h) (Or.inl ⟨by kernel_rfl, ?_⟩) (by assumption) ?_
                · intro w' hSw
                  (try dsimp only at hSw)
                  exact exec_leqSF (.tmp 151) (.tmp 156) rfl (by kernel_rfl) (by kernel_rfl) HLt.out
                (try simp only [Act.put, List.getElem_toArray, List.getElem_cons_zero, List.getElem_cons_succ, List.setIfInBounds_toArray, List.set_cons_zero, List.set_cons_succ])
                refine wpAnyH_take (i := 33) (v := (.bool false)) rfl (by kernel_rfl) (by kernel_rfl) (by kernel_rfl) (fun _ _ _ h => h) (Or.inl ⟨by kernel_rfl, ?_⟩) (by assumption) ?_
                · intro w' hSw
                  (try dsimp only at hSw)
                  exact exec_pickTF (.tmp 147) (.tmp 157) (.const (.bool false)) rfl (by kernel_rfl) (by kernel_rfl)
                (try simp only [Act.put, List.getElem_toArray, List.getElem_cons_zero, List.getElem_cons_succ, List.setIfInBounds_toArray, List.set_cons_zero, List.set_cons_succ])
                refine wpAnyH_take (i := 34) (v := (.bool false)) rfl (by kernel_rfl) (by kernel_rfl) (by kernel_rfl) (fun _ _ _ h => h) (Or.inl ⟨by kernel_rfl, ?_⟩) (by assumption) ?_
                · intro w' hSw
                  (try dsimp only at hSw)
                  exact exec_pickf (.tmp 144) (.const (.bool true)) (.tmp 158) rfl (by kernel_rfl) (by kernel_rfl)
                (try simp only [Act.put, List.getElem_toArray, List.getElem_cons_zero, List.getElem_cons_succ, List.setIfInBounds_toArray, List.set_cons_zero, List.set_cons_succ])
                refine wpAnyH_done (by kernel_rfl) ?_ _
                clear hHeld
                have HQ2 : Hid (Below W9.heap.size W9 W15.drew) := B15.out.drew
                go_wp2_with fail
                go_roundw
                case rel => exact ⟨i + 1 + 1, by omega, by go_num, HQ2⟩
                case measure => simp [intOf]; omega
end Go.Proofs.YtioiphonajinmaaGreatDoor
