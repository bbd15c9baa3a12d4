import Derived.Test.YtpoegknmkbnjlaaDoorGEtOver
namespace Go.Proofs.YtpoegknmkbnjlaaDoor.Cn
open Go.RowKit
set_option maxHeartbeats 16000000 in
set_option maxRecDepth 100000 in
set_option linter.unusedSimpArgs false in
set_option linter.unusedVariables false in
theorem reports_any (N : Nat) (w : World) (st : ByteArray) (x : Nat → Int) (ao : Option Addr) (b o cap : Nat) (pv : Nat → Value) (ns : List ND) (h : NsAt N w ao b o pv ns) (hN : N ≤ w.heap.size) (hs : st.size ≤ 9223372036854775807) (hT : YtpoegknmkbnjlaaDoor.TabG w) (ao2 : Option Addr) (bb oo cap2 : Nat) (L : List Sp) (hL : RwAt 14 spV w.heap.size w ao2 bb oo L) (hfit : ∀ s ∈ L, MgFit s.m) (hLl : L.length ≤ 100000000000000) :
    Calls Tryd.prog 4 #[.agg (clA st x (.slice ao ns.length cap)), .slice ao2 L.length cap2] w fun e w' => e = .returned (.bool true) ∧ Below w.heap.size w w' := by
  obtain ⟨W0, hW0, hX⟩ := boxed st x cap h hN
  have HX := hide (hX.stand hN)
  have B0 := hide hX.bel
  have T0 := hide (hT.below hX.bel)
  have TLT := hide hT.lt
  clear hX h hT
  have HLL := hide hL
  have HFT := hide hfit
  have HS := hide hs
  obtain ⟨n, hn⟩ : ∃ n, n = L.length := ⟨_, rfl⟩
  have HN := hide hn
  have BY := hide (fun Y => beyond21 Y n (by omega))
  rw [← hn] at hLl ⊢
  have HNN : Hid (N ≤ w.heap.size) := hN
  have hat : 0 < n → ao2 = some ⟨bb, oo, none⟩ := fun z => hL.at0 (by omega)
  clear hL hfit hn hs
  go_enter Tryd.func4, Tryd.ntmps4
  go_upto_region 1 with fail
  rw [← hW0]
  clear hW0
  go_wp2_with fail
  refine Calls.mono (BY.out _) ?_
  rintro e w' ⟨rfl, rfl⟩
  clear BY
  by_cases hbe : 2147483647 < n
  case pos =>
    have qd : decide (2147483647 < n) = true := decide_eq_true hbe
    rw [qd]
    clear qd
    go_wp2_with fail
    go_ret
    exact ⟨rfl, B0.out⟩
  case neg =>
    have qd : decide (2147483647 < n) = false := decide_eq_false hbe
    rw [qd]
    clear qd
    have hnb : n ≤ 2147483647 := by omega
    obtain ⟨D, hD⟩ : ∃ D, D = W0.heap.size := ⟨_, rfl⟩
    obtain ⟨W1, hW1⟩ : ∃ W1, W1 = W0.alloc (.cells zA 32) := ⟨_, rfl⟩
    have b1 : Below W0.heap.size W0 W1 := by rw [hW1]; exact (Below.refl _ W0).alloc (Nat.le_refl _) _
    have D1 : Hid (W1.heap[D]? = some (.cells zA 32)) := by rw [hW1, hD]; exact heap_last _ _
    have X1 : Hid (Stand N w.heap.size W1 st x ao b o cap pv ns) := HX.out.below b1
    have T1 : Hid (YtpoegknmkbnjlaaDoor.TabG W1) := T0.out.below b1
    have GD : Hid (D ≠ 0) := by
      have h1 := TLT.out
      have h2 := B0.out.size
      show D ≠ _
      omega
    have BG := hide (begins_t N W1 st x ao b o cap pv ns X1.out.nd X1.out.le HS.out T1.out D1.out rfl (Or.inl rfl) GD.out)
    have B01 : Hid (Below w.heap.size w W1) := B0.out.trans (b1.mono B0.out.size)
    have DG : Hid (w.heap.size ≤ D ∧ w.heap.size ≤ W1.heap.size) := by
      have h1 := B0.out.size
      have h2 := b1.size
      exact ⟨by omega, by omega⟩
    have HW1 : Hid (W1 = W0.alloc (.cells #[.pointer none, .pointer none, .slice none 0 0, .slice none 0 0, .pointer none, .pointer none, .slice none 0 0, .slice none 0 0] 32)) := hW1
    have HD := hide hD
    have hDC : D ≠ w.heap.size := by
      have := blk_lt HX.out.cl
      omega
    have HDC := hide hDC
    clear hW1 hD b1 hbe HX T0 hDC B0
    go_upto_region 4 with fail
    rw [← HW1.out, ← HD.out]
    clear HW1 HD
    go_wp2_with (refine wpList_loadCl rfl (.tmp 2) rfl w.heap.size st x _ rfl X1.out.cl ?_)
    refine Calls.mono BG.out ?_
    rintro e W2 ⟨rfl, p, q, BB, A1, bg1⟩
    have BG1 := hide bg1
    have X2 : Hid (Stand N w.heap.size W2 st x ao b o cap pv ns) := ⟨(bg1.kp.block _ (blk_lt X1.out.cl) (fun e => HDC.out e.symm)).trans X1.out.cl, X1.out.nd.below (below_of (bg1.kp) (Nat.le_trans X1.out.le (Nat.le_refl _)) (fun k e => by have := DG.out; have := HNN.out; omega)), Nat.le_trans X1.out.le bg1.kp.size⟩
    have T2 : Hid (YtpoegknmkbnjlaaDoor.TabG W2) := fun j hj => (bg1.kp.cell T1.out.lt (fun e => GD.out e.symm)).trans (T1.out j hj)
    have BH := hide (begins_t N W2 st x ao b o cap pv ns X2.out.nd X2.out.le HS.out T2.out bg1.blk bg1.sz (Or.inr rfl) GD.out)
    clear bg1 BG T1 D1 X1
    go_wp2_with (refine wpList_loadCl rfl (.tmp 2) rfl w.heap.size st x _ rfl X2.out.cl ?_)
    refine Calls.mono BH.out ?_
    rintro e W3 ⟨rfl, p', q', BB', A2, bg2⟩
    have DE3 : Hid (De W3 D w.heap.size 0) := de_start BG1.out bg2 DG.out.2 DG.out.1
    have B3 : Hid (Below w.heap.size w W3) := (B01.out.trans (below_of BG1.out.kp DG.out.2 (fun k e => by have := DG.out; omega))).trans (below_of bg2.kp (Nat.le_trans DG.out.2 BG1.out.kp.size) (fun k e => by have := DG.out; omega))
    clear bg2 BG1 BH X2 T2 B01 GD TLT HS
    go_wp2_with fail
    go_loopw [8] (fun vi wr => ∃ i : Nat, i ≤ n ∧ vi = .int .i64 (i : Int) ∧ Hid (De wr D w.heap.size (3 * i)) ∧ Hid (Below w.heap.size w wr)) (fun vi _ => n - (intOf vi).toNat)
    case atStart => exact ⟨0, Nat.zero_le _, rfl, DE3.out, B3.out⟩
    case round =>
      clear DE3 B3
      obtain ⟨i, hi, rfl, DE, BW⟩ := hrel
      by_cases hin : i < n
      case pos =>
        have hii : (i : Int) < (n : Int) := by omega
        have hiL : i < L.length := by rw [← HN.out]; exact hin
        obtain rfl := hat (by omega)
        obtain ⟨s, hsi⟩ : ∃ s, s = L[i] := ⟨_, rfl⟩
        have MF : Hid (MgFit s.m) := by rw [hsi]; exact HFT.out _ (List.getElem_mem hiL)
        have RG : Hid (∀ X, Kp wr X (fun k => w.heap.size ≤ k) → X.rangeAt bb (oo + i * 14) (spV s).toList) := fun X hX j u hj => by
          have hw : RwAt 14 spV w.heap.size X (some ⟨bb, oo, none⟩) bb oo L := (HLL.out.below BW.out).below ⟨hX.os, hX.tape, hX.output, hX.size, fun k hk => hX.block k (Nat.lt_of_lt_of_le hk BW.out.size) (fun e => by omega)⟩
          rw [hsi] at hj
          exact hw.c i hiL j u (by simpa using hj)
        have RK : Hid (∀ X, Kp wr X (fun k => w.heap.size ≤ k) → X.cell? ⟨bb, oo + i * 14, none⟩ = some (.int .i64 s.k) ∧ X.cell? ⟨bb, oo + i * 14 + 1, none⟩ = some (.int .i64 s.n)) := fun X hX => by
          have z := RG.out X hX
          exact ⟨z 0 _ rfl, z 1 _ rfl⟩
        obtain ⟨pl, hpl, hpc⟩ := place_all s.n
        have PL : Hid (∀ X : World, Calls Tryd.prog 8 #[.int .i64 s.n] X fun e w' => e = .returned (.int .i64 (pl : Int)) ∧ X = w') := hpc
        have hpl2 : (pl : Int) < 2 := by omega
        have hnb2 : n ≤ 2147483647 := hnb
        have DPL := hide fun X (hX : De X D w.heap.size (3 * i)) => hX.plays (by omega) pl hpl s MF.out
        obtain ⟨sk, hsk⟩ : ∃ sk, sk = s.k := ⟨_, rfl⟩
        obtain ⟨sn, hsn⟩ : ∃ sn, sn = s.n := ⟨_, rfl⟩
        rw [← hsk, ← hsn] at RK
        rw [← hsn] at PL
        obtain ⟨r0, r1⟩ := RK.out wr (Kp.refl _ _)
        have ew := wrap_in (x := (i : Int) + 1) (by omega) (by omega)
        have HI := hide (And.intro hi hiL)
        clear hsi hpc hsk hsn hi hiL r1
        go_upto_region 12 with fail
        clear r0
        refine wp_region_held_drew (S := fun X => Kp wr X (fun k => w.heap.size ≤ k)) (by kernel_rfl) ((Kp.refl wr _).drew) (fun hHeld => ?_)
        refine wTk (i := 0) (v := (.slice (some ⟨bb, oo, none⟩) n cap2)) rfl ?_ ?_
        · intro w' hSw
          (try dsimp only at hSw)
          go_simp
        (try simp only [Act.put, List.getElem_toArray, List.getElem_cons_zero, List.getElem_cons_succ, List.setIfInBounds_toArray, List.set_cons_zero, List.set_cons_succ])
        refine wTk (i := 1) (v := (.int .i64 (i : Int))) rfl ?_ ?_
        · intro w' hSw
          (try dsimp only at hSw)
          go_simp
        (try simp only [Act.put, List.getElem_toArray, List.getElem_cons_zero, List.getElem_cons_succ, List.setIfInBounds_toArray, List.set_cons_zero, List.set_cons_succ])
        refine wTk (i := 2) (v := (.pointer (some ⟨bb, oo + i * 14, none⟩))) rfl ?_ ?_
        · intro w' hSw
          (try dsimp only at hSw)
          go_simp
        (try simp only [Act.put, List.getElem_toArray, List.getElem_cons_zero, List.getElem_cons_succ, List.setIfInBounds_toArray, List.set_cons_zero, List.set_cons_succ])
        refine wTk (i := 3) (v := (.pointer (some ⟨bb, oo + i * 14 + 1, none⟩))) rfl ?_ ?_
        · intro w' hSw
          (try dsimp only at hSw)
          go_simp
        (try simp only [Act.put, List.getElem_toArray, List.getElem_cons_zero, List.getElem_cons_succ, List.setIfInBounds_toArray, List.set_cons_zero, List.set_cons_succ])
        refine wTk (i := 4) (v := (.int .i64 sn)) rfl ?_ ?_
        · intro w' hSw
          (try dsimp only at hSw)
          (have z := (RK.out _ hSw).2; go_simp)
        (try simp only [Act.put, List.getElem_toArray, List.getElem_cons_zero, List.getElem_cons_succ, List.setIfInBounds_toArray, List.set_cons_zero, List.set_cons_succ])
        refine wpAnyH_callTake (i := 5) (v := (.int .i64 (pl : Int))) rfl (by kernel_rfl) (by kernel_rfl) (by kernel_rfl) (fun _ _ _ h => h) (by kernel_rfl) 8 #[.int .i64 sn] (fun w' => by kernel_rfl) (fun w' hSw => PL.out w') (by assumption) ?_
        (try simp only [Act.put, List.getElem_toArray, List.getElem_cons_zero, List.getElem_cons_succ, List.setIfInBounds_toArray, List.set_cons_zero, List.set_cons_succ])
        refine wTk (i := 6) (v := (.pointer (some ⟨D, pl * 4, none⟩))) rfl ?_ ?_
        · intro w' hSw
          (try dsimp only at hSw)
          go_simp
        (try simp only [Act.put, List.getElem_toArray, List.getElem_cons_zero, List.getElem_cons_succ, List.setIfInBounds_toArray, List.set_cons_zero, List.set_cons_succ])
        refine wTk (i := 7) (v := (.slice (some ⟨bb, oo, none⟩) n cap2)) rfl ?_ ?_
        · intro w' hSw
          (try dsimp only at hSw)
          go_simp
        (try simp only [Act.put, List.getElem_toArray, List.getElem_cons_zero, List.getElem_cons_succ, List.setIfInBounds_toArray, List.set_cons_zero, List.set_cons_succ])
        refine wTk (i := 8) (v := (.int .i64 (i : Int))) rfl ?_ ?_
        · intro w' hSw
          (try dsimp only at hSw)
          go_simp
        (try simp only [Act.put, List.getElem_toArray, List.getElem_cons_zero, List.getElem_cons_succ, List.setIfInBounds_toArray, List.set_cons_zero, List.set_cons_succ])
        refine wTk (i := 9) (v := (.pointer (some ⟨bb, oo + i * 14, none⟩))) rfl ?_ ?_
        · intro w' hSw
          (try dsimp only at hSw)
          go_simp
        (try simp only [Act.put, List.getElem_toArray, List.getElem_cons_zero, List.getElem_cons_succ, List.setIfInBounds_toArray, List.set_cons_zero, List.set_cons_succ])
        refine wTk (i := 10) (v := (.agg (spV s))) rfl ?_ ?_
        · intro w' hSw
          (try dsimp only at hSw)
          (exact exec_ldSm (.tmp 45) rfl rfl (RG.out _ hSw))
        (try simp only [Act.put, List.getElem_toArray, List.getElem_cons_zero, List.getElem_cons_succ, List.setIfInBounds_toArray, List.set_cons_zero, List.set_cons_succ])
        refine wpAnyH_ready (rs := [11]) (by kernel_rfl) (by simp) ?_
        refine AllReadyH.cons rfl (fun K hK => ?_) AllReadyH.nil
        go_simp
        refine Calls.mono (DPL.out wr.drew (DE.out.kp0 ((Kp.refl wr non).drew))) ?_
        rintro e W5 ⟨rfl, de5, b5⟩
        have DE5 := hide de5
        have K5 : Hid (Kp wr W5 (fun k => w.heap.size ≤ k)) := ⟨b5.os, b5.tape, b5.output, b5.size, fun k hk hq => b5.block k (Nat.lt_of_not_le hq)⟩
        have B5 : Hid (Below w.heap.size w W5) := BW.out.trans ⟨b5.os, b5.tape, b5.output, b5.size, b5.block⟩
        clear de5 b5 RG RK PL DPL DE BW
        refine hK.out _ _ (K5.out) (fun hHeld => ?_)
        clear hK
        (try simp only [Act.put, List.setIfInBounds_toArray, List.set_cons_zero, List.set_cons_succ])
        refine wpAnyH_ready (rs := [12]) (by kernel_rfl) (by simp) ?_
        refine AllReadyH.cons rfl (fun K hK => ?_) AllReadyH.nil
        go_simp
        refine hK.out _ _ (K5.out) (fun hHeld => ?_)
        clear hK
        (try simp only [Act.put, List.setIfInBounds_toArray, List.set_cons_zero, List.set_cons_succ])
        refine wpAnyH_done (by kernel_rfl) ?_ _
        clear hHeld K5
        go_wp2_with fail
        go_roundw
        case rel => exact ⟨i + 1, by omega, by go_num, DE5.out, B5.out⟩
        case measure => simp [intOf]; omega
      case neg =>
        obtain rfl : i = n := by omega
        clear hat HLL HFT hin hi
        have MV0 := hide (DE.out.plays (by omega) 0 (by omega) ⟨4, 0, 0, mg0⟩ ⟨by decide, by decide⟩)
        go_wp2_with (first | refine wpList_blR rfl 38 _ rfl (spV ⟨4, 0, 0, mg0⟩) (by kernel_rfl) ?_ | refine wpList_blRGt 38 _ rfl rfl (spV ⟨4, 0, 0, mg0⟩) (by kernel_rfl) ?_)
        refine Calls.mono MV0.out ?_
        rintro e V0 ⟨rfl, d0, bq0⟩
        have DE1a := hide d0
        have BW1a : Hid (Below w.heap.size w V0) := BW.out.trans bq0
        clear d0 bq0 MV0
        have MV1 := hide (DE1a.out.plays (by omega) 0 (by omega) ⟨5, 0, 0, mg0⟩ ⟨by decide, by decide⟩)
        go_wp2_with (first | refine wpList_blR rfl 38 _ rfl (spV ⟨5, 0, 0, mg0⟩) (by kernel_rfl) ?_ | refine wpList_blRGt 38 _ rfl rfl (spV ⟨5, 0, 0, mg0⟩) (by kernel_rfl) ?_)
        refine Calls.mono MV1.out ?_
        rintro e V1 ⟨rfl, d1, bq1⟩
        have DE2a := hide d1
        have BW2a : Hid (Below w.heap.size w V1) := BW1a.out.trans bq1
        clear d1 bq1 MV1
        go_wp2_with fail
        go_ret
        exact ⟨rfl, BW2a.out⟩
end Go.Proofs.YtpoegknmkbnjlaaDoor.Cn
