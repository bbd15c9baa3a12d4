import Derived.Test.YtgdjfocnaapooaaDoorFdRefR
import Derived.Test.YtgdjfocnaapooaaDoorGFbProp
import Derived.Test.YtgdjfocnaapooaaDoorFeRef5
import Derived.Test.YtgdjfocnaapooaaDoorGFdDec2
namespace Go.Proofs.YtgdjfocnaapooaaDoor
open Go.RowKit
theorem decV_err {s : ByteArray} {c : Int} (h : chkE s = c) (hc : c ≠ 0) : decV s = .tuple #[.agg (msgV (mm0 0)), .int .i64 c] := by
  unfold decV decM decE
  rw [if_neg (by rw [h]; exact hc), if_neg (by rw [h]; exact hc), h]
  rfl
theorem decV_body {s : ByteArray} (h : chkE s = 0) (hd : decM s = none) : decV s = .tuple #[.agg (msgV (mm0 0)), .int .i64 56] := by
  unfold decV
  rw [hd]
  unfold decM at hd
  rw [if_pos h] at hd
  unfold decE
  rw [if_pos h, hd]
  rfl
theorem decV_good {s : ByteArray} {m : MM} (h : chkE s = 0) (hd : decM s = some m) : decV s = .tuple #[.agg (msgV m), .int .i64 0] := by
  unfold decV
  rw [hd]
  unfold decM at hd
  rw [if_pos h] at hd
  unfold decE
  rw [if_pos h, hd]
  rfl
def byA (s : ByteArray) (i : Nat) : Nat := (s.data.toList.getD i 0).toNat
theorem byA_at (s : ByteArray) (i : Nat) (h : i < s.size) : (s[i]'h).toNat = byA s i := by
  unfold byA
  rw [List.getD_eq_getElem?_getD, List.getElem?_eq_getElem (by rw [size_data]; exact h)]
  rfl
theorem mag_iff (s : ByteArray) (h : 3 ≤ s.size) : s.extract 0 3 = magF ↔ byA s 0 = 71 ∧ byA s 1 = 82 ∧ byA s 2 = 1 := by
  have e : s.extract 0 3 = strOf (s.data.toList.take 3) := by rw [← strOf_toList (s.extract 0 3), slice_str, List.drop_zero]
  have l : 3 ≤ s.data.toList.length := by rw [size_data]; exact h
  rw [e]
  unfold byA
  match hl : s.data.toList, l with
  | a :: b :: c :: r, _ =>
    constructor
    · intro hm
      have := congrArg (fun x : ByteArray => x.data.toList) hm
      simp only [strOf_data, List.take_succ_cons, List.take_zero] at this
      have h2 : [a, b, c] = [71, 82, 1] := this
      simp only [List.cons.injEq, and_true] at h2
      obtain ⟨rfl, rfl, rfl⟩ := h2
      exact ⟨rfl, rfl, rfl⟩
    · rintro ⟨h1, h2, h3⟩
      have a1 : a = 71 := UInt8.toNat_inj.1 h1
      have b1 : b = 82 := UInt8.toNat_inj.1 h2
      have c1 : c = 1 := UInt8.toNat_inj.1 h3
      rw [a1, b1, c1]
      rfl
theorem numD_bsz (s : ByteArray) : numD s 16 4 = (bszF s : Int) := by
  have := bszF_lt s
  unfold numD
  rw [show val (numB s 16 4) = bszF s from rfl, if_neg (by omega)]
/-- what the document's Decode reads is the message, if it is one -/
theorem enc_same {s : ByteArray} {m' : MM} (hE : encE m' = 0) (hS : encS m' = s) : decM s = some m' := by
  by_cases hk : 1 ≤ m'.kind ∧ m'.kind ≤ 16
  · by_cases hf : fitM m' = true
    · obtain ⟨k, he⟩ : ∃ k : Nat, m'.kind = (k : Int) := ⟨_, (Int.toNat_of_nonneg (by omega)).symm⟩
      rw [← hS]
      exact (dec_fwd m' k (by omega) (by omega) he hf).1
    · unfold encE at hE; rw [if_pos hk, if_neg hf] at hE; omega
  · unfold encE at hE; rw [if_neg hk] at hE; omega
theorem fitAll_of {m : MM} {s : ByteArray} (hk : 1 ≤ m.kind ∧ m.kind ≤ 16) (hf : fitM m = true) (he : encS m = s) : FitAll m (kndF s) := by
  obtain ⟨k, e⟩ : ∃ k : Nat, m.kind = (k : Int) := ⟨_, (Int.toNat_of_nonneg (by omega)).symm⟩
  have hF : FitAll m k := ⟨e, fitM_all (by unfold fitM at hf; rw [e] at hf; exact hf)⟩
  have := knd_enc (by omega) (by omega) hF
  rw [he] at this
  rw [this]
  exact hF
theorem same_of {s : ByteArray} {m' n : MM} (hd : decM s = some n) (h : ∀ m, FitAll m (kndF s) → encS m = s → m' = m) : m' = n := by
  obtain ⟨q1, q2, q3⟩ := dec_back hd
  exact h n (fitAll_of q1 q2 q3) q3
set_option maxHeartbeats 16000000 in
set_option maxRecDepth 100000 in
set_option linter.unusedSimpArgs false in
/-- the document's Decode -/
theorem rdecode_any (s : ByteArray) (w : World) (hT : TabR w) :
    Calls Tryd.prog 60 #[.string s] w fun e w' => e = .returned (decV s) ∧ Below w.heap.size w w' := by
  obtain ⟨W0, hW0⟩ : ∃ W0, W0 = w.alloc (.cells #[.int .i64 0, .int .i64 0, .int .i64 0, .int .i64 0, .int .i64 0, .int .i64 0, .int .i64 0, .int .i64 0, .int .i64 0, .string ⟨#[]⟩, .string ⟨#[]⟩] 27) := ⟨_, rfl⟩
  have b0 : Below w.heap.size w W0 := by rw [hW0]; exact (Below.refl _ w).alloc (Nat.le_refl _) _
  have hM0 : W0.heap[w.heap.size]? = some (.cells (msgV (mm0 0)) 27) := by rw [hW0]; exact heap_last w _
  obtain ⟨WX, eX, hX, bX1, bX⟩ := laid_new b0 (mm0 0)
  have hR := blk_keep hM0 bX1
  have hN := hX
  have KC : Hid (∀ w', Below WX.heap.size WX w' → w'.heap[w.heap.size]? = some (.cells (msgV (mm0 0)) 27) ∧ w'.heap[W0.heap.size]? = some (.cells (msgV (mm0 0)) 27) ∧ Below w.heap.size w w' ∧ TabR w') := fun w' hb => ⟨blk_keep hR hb, blk_keep hX hb, bX.trans (hb.mono bX.size), hT.below (bX.trans (hb.mono bX.size))⟩
  have BX := hide bX
  clear hM0 b0 hX bX1 bX hT
  go_enter Tryd.func60, Tryd.ntmps60
  go_upto_region 1 with fail
  rw [← hW0]
  clear hW0
  go_upto_region 2 with (first | (refine wpList_build0 rfl rfl ?_) | (refine wpList_storeMsg rfl (.tmp 4) (.tmp 9) rfl W0.heap.size rfl (mm0 0) (mm0 0) rfl (heap_last _ _) ?_))
  rw [← eX]
  clear eX
  by_cases hs : s.size < 24
  case pos =>
    have E := hide (decV_err (chk_short hs) (by decide))
    have g : (s.size : Int) < 24 := by omega
    go_wp2_with (first | (refine wpList_loadMsg rfl (.tmp 4) rfl (mm0 0) W0.heap.size rfl hN ?_) | (refine wpList_storeMsg rfl (.tmp 2) (.tmp 13) rfl w.heap.size rfl (mm0 0) (mm0 0) rfl hR ?_))
    refine bodyPost_ret (v := .tuple #[.agg (msgV (mm0 0)), .int .i64 51]) (res_msg2 Tryd.results60 _ (mm0 0) _ w.heap.size rfl _ rfl (setRow_heap _ _ _ _ _ _ hR)) rfl ⟨by rw [E.out], ?_⟩
    exact below_row BX.out (Nat.le_refl _) _
  case neg =>
    have g : ¬ (s.size : Int) < 24 := by omega
    have K0 := byA_at s 0 (by omega)
    have K1 := byA_at s 1 (by omega)
    have K2 := byA_at s 2 (by omega)
    have MI := hide (mag_iff s (by omega))
    have EM : Hid (¬ (byA s 0 = 71 ∧ byA s 1 = 82 ∧ byA s 2 = 1) → decV s = .tuple #[.agg (msgV (mm0 0)), .int .i64 52]) := fun hx => decV_err (chk_magic hs (fun e => hx (MI.out.1 e))) (by decide)
    by_cases m0 : byA s 0 = 71
    case neg =>
      have E := hide (EM.out (fun x => m0 x.1))
      generalize byA s 0 = B0 at *
      have m0' : ((B0 : Int) != 71) = true := by simp; omega
      go_wp2_with (first | (refine wpList_loadMsg rfl (.tmp 4) rfl (mm0 0) W0.heap.size rfl hN ?_) | (refine wpList_storeMsg rfl (.tmp 2) (.tmp 27) rfl w.heap.size rfl (mm0 0) (mm0 0) rfl hR ?_))
      refine bodyPost_ret (v := .tuple #[.agg (msgV (mm0 0)), .int .i64 52]) (res_msg2 Tryd.results60 _ (mm0 0) _ w.heap.size rfl _ rfl (setRow_heap _ _ _ _ _ _ hR)) rfl ⟨by rw [E.out], ?_⟩
      exact below_row BX.out (Nat.le_refl _) _
    case pos =>
    by_cases m1 : byA s 1 = 82
    case neg =>
      have E := hide (EM.out (fun x => m1 x.2.1))
      rw [m0] at K0
      generalize byA s 1 = B1 at *
      have m1' : ((B1 : Int) != 82) = true := by simp; omega
      clear m0 K2 MI EM
      go_wp2_with (first | (refine wpList_loadMsg rfl (.tmp 4) rfl (mm0 0) W0.heap.size rfl hN ?_) | (refine wpList_storeMsg rfl (.tmp 2) (.tmp 27) rfl w.heap.size rfl (mm0 0) (mm0 0) rfl hR ?_))
      refine bodyPost_ret (v := .tuple #[.agg (msgV (mm0 0)), .int .i64 52]) (res_msg2 Tryd.results60 _ (mm0 0) _ w.heap.size rfl _ rfl (setRow_heap _ _ _ _ _ _ hR)) rfl ⟨by rw [E.out], ?_⟩
      exact below_row BX.out (Nat.le_refl _) _
    case pos =>
    by_cases m2 : byA s 2 = 1
    case neg =>
      have E := hide (EM.out (fun x => m2 x.2.2))
      rw [m0] at K0
      rw [m1] at K1
      generalize byA s 2 = B2 at *
      have m2' : ((B2 : Int) != 1) = true := by simp; omega
      clear m0 m1 MI EM
      go_wp2_with (first | (refine wpList_loadMsg rfl (.tmp 4) rfl (mm0 0) W0.heap.size rfl hN ?_) | (refine wpList_storeMsg rfl (.tmp 2) (.tmp 27) rfl w.heap.size rfl (mm0 0) (mm0 0) rfl hR ?_))
      refine bodyPost_ret (v := .tuple #[.agg (msgV (mm0 0)), .int .i64 52]) (res_msg2 Tryd.results60 _ (mm0 0) _ w.heap.size rfl _ rfl (setRow_heap _ _ _ _ _ _ hR)) rfl ⟨by rw [E.out], ?_⟩
      exact below_row BX.out (Nat.le_refl _) _
    case pos =>
    have hmg := MI.out.2 ⟨m0, m1, m2⟩
    rw [m0] at K0
    rw [m1] at K1
    rw [m2] at K2
    have HMG := hide hmg
    clear m0 m1 m2 hmg MI EM
    have K3 := knd_at s (by omega)
    have hkb : kndF s < 256 := by rw [← K3]; exact UInt8.toNat_lt _
    have EK : Hid (¬ (1 ≤ kndF s ∧ kndF s ≤ 16) → decV s = .tuple #[.agg (msgV (mm0 0)), .int .i64 53]) := fun hx => decV_err (chk_kind hs HMG.out hx) (by decide)
    by_cases k1 : kndF s < 1
    case pos =>
      have E := hide (EK.out (fun x => by omega))
      have k1' : (kndF s : Int) < 1 := by omega
      clear EK
      go_wp2_with (first | (refine wpList_loadMsg rfl (.tmp 4) rfl (mm0 0) W0.heap.size rfl hN ?_) | (refine wpList_storeMsg rfl (.tmp 2) (.tmp 36) rfl w.heap.size rfl (mm0 0) (mm0 0) rfl hR ?_))
      refine bodyPost_ret (v := .tuple #[.agg (msgV (mm0 0)), .int .i64 53]) (res_msg2 Tryd.results60 _ (mm0 0) _ w.heap.size rfl _ rfl (setRow_heap _ _ _ _ _ _ hR)) rfl ⟨by rw [E.out], ?_⟩
      exact below_row BX.out (Nat.le_refl _) _
    case neg =>
    by_cases k2 : 16 < kndF s
    case pos =>
      have E := hide (EK.out (fun x => by omega))
      have k1' : ¬ (kndF s : Int) < 1 := by omega
      have k2' : (16 : Int) < (kndF s : Int) := by omega
      clear EK
      go_wp2_with (first | (refine wpList_loadMsg rfl (.tmp 4) rfl (mm0 0) W0.heap.size rfl hN ?_) | (refine wpList_storeMsg rfl (.tmp 2) (.tmp 36) rfl w.heap.size rfl (mm0 0) (mm0 0) rfl hR ?_))
      refine bodyPost_ret (v := .tuple #[.agg (msgV (mm0 0)), .int .i64 53]) (res_msg2 Tryd.results60 _ (mm0 0) _ w.heap.size rfl _ rfl (setRow_heap _ _ _ _ _ _ hR)) rfl ⟨by rw [E.out], ?_⟩
      exact below_row BX.out (Nat.le_refl _) _
    case neg =>
    have k1' : ¬ (kndF s : Int) < 1 := by omega
    have k2' : ¬ (16 : Int) < (kndF s : Int) := by omega
    have HK : Hid (1 ≤ kndF s ∧ kndF s ≤ 16) := ⟨by omega, by omega⟩
    clear EK
    have NB := hide (fun w' => number_any s 16 4 (by omega) (by omega) w')
    rw [numD_bsz] at NB
    have EL : Hid ((bszF s > 4383 ∨ s.size ≠ 24 + bszF s) → decV s = .tuple #[.agg (msgV (mm0 0)), .int .i64 54]) := fun hx => decV_err (chk_len hs HMG.out HK.out hx) (by decide)
    by_cases l1 : bszF s > 4383
    case pos =>
      have E := hide (EL.out (.inl l1))
      have l1' : (4383 : Int) < (bszF s : Int) := by omega
      clear EL
      go_wp2_with fail
      refine Calls.mono (NB.out _) ?_
      rintro e wx ⟨rfl, rfl⟩
      go_wp2_with (first | (refine wpList_loadMsg rfl (.tmp 4) rfl (mm0 0) W0.heap.size rfl hN ?_) | (refine wpList_storeMsg rfl (.tmp 2) (.tmp 48) rfl w.heap.size rfl (mm0 0) (mm0 0) rfl hR ?_))
      refine bodyPost_ret (v := .tuple #[.agg (msgV (mm0 0)), .int .i64 54]) (res_msg2 Tryd.results60 _ (mm0 0) _ w.heap.size rfl _ rfl (setRow_heap _ _ _ _ _ _ hR)) rfl ⟨by rw [E.out], ?_⟩
      exact below_row BX.out (Nat.le_refl _) _
    case neg =>
    have l1' : ¬ (4383 : Int) < (bszF s : Int) := by omega
    by_cases l2 : s.size = 24 + bszF s
    case neg =>
      have E := hide (EL.out (.inr l2))
      have l2' : ((s.size : Int) != 24 + (bszF s : Int)) = true := by simp; omega
      clear EL
      go_wp2_with fail
      refine Calls.mono (NB.out _) ?_
      rintro e wx ⟨rfl, rfl⟩
      go_wp2_with (first | (refine wpList_loadMsg rfl (.tmp 4) rfl (mm0 0) W0.heap.size rfl hN ?_) | (refine wpList_storeMsg rfl (.tmp 2) (.tmp 48) rfl w.heap.size rfl (mm0 0) (mm0 0) rfl hR ?_))
      refine bodyPost_ret (v := .tuple #[.agg (msgV (mm0 0)), .int .i64 54]) (res_msg2 Tryd.results60 _ (mm0 0) _ w.heap.size rfl _ rfl (setRow_heap _ _ _ _ _ _ hR)) rfl ⟨by rw [E.out], ?_⟩
      exact below_row BX.out (Nat.le_refl _) _
    case pos =>
    have l2' : ((s.size : Int) != 24 + (bszF s : Int)) = false := by simp; omega
    have ES : Hid (sumOk s = false → decV s = .tuple #[.agg (msgV (mm0 0)), .int .i64 55]) := fun hx => decV_err (chk_sum hs HMG.out HK.out (by omega) hx) (by decide)
    have EO : Hid (sumOk s = true → chkE s = 0) := fun hx => chk_ok hs HMG.out HK.out (by omega) hx
    have SU := hide (fun w' => rsum_any (s.extract 0 (s.size - 4)) (by rw [ByteArray.size_extract]; omega) w')
    have SB : Hid (sumOk s = ((strOf (le4 (crcN 0 (s.extract 0 (s.size - 4)).data.toList))).toList == (s.extract (s.size - 4) s.size).toList)) := by
      show sumOk s = _
      rw [eq_beq]
      unfold sumOk
      exact decide_eq_decide.2 ⟨fun x => x.symm, fun x => x.symm⟩
    have RR := hide (fun w' hT' => rread_any s (kndF s) HK.out.1 HK.out.2 rfl (by omega) (by omega) w' hT')
    have hl2 : 20 + (bszF s : Int) = ((s.size - 4 : Nat) : Int) := by omega
    have s54 : s.size ≤ 5000 := by omega
    have s24 : 24 ≤ s.size := by omega
    have HL2 := hide hl2
    clear EL l1 l2 hl2 k1 k2
    go_wp2_with fail
    refine Calls.mono (NB.out _) ?_
    rintro e wx ⟨rfl, rfl⟩
    go_upto_region 11 with fail
    clear K0 K1 K2 K3 k1' k2' l1' l2' NB g
    have hl2 := HL2.out
    generalize strOf (le4 (crcN 0 (s.extract 0 (s.size - 4)).data.toList)) = Z at *
    refine wp_region_held_drew (S := fun _ => True) (by kernel_rfl) trivial (fun hHeld => ?_)
    refine wpAnyH_take (i := 0) (v := (.string s)) rfl (by kernel_rfl) (by kernel_rfl) (by kernel_rfl) (fun _ _ _ h => h) (Or.inl ⟨by rfl, ?_⟩) (by assumption) ?_
    · intro w' hSw
      (try dsimp only at hSw)
      go_simp <;> first | exact i64_in (by omega) (by omega) | exact u32_in (by omega) (by omega) | exact u32_add _ _ | (rw [Int.tmod_eq_emod_of_nonneg (by omega)]; omega) | (rw [Int.tdiv_eq_ediv_of_nonneg (by omega)]; omega) | omega
    (try simp only [Act.put, List.setIfInBounds_toArray, List.set_cons_zero, List.set_cons_succ])
    refine wpAnyH_take (i := 1) (v := (.int .i64 (bszF s : Int))) rfl (by kernel_rfl) (by kernel_rfl) (by kernel_rfl) (fun _ _ _ h => h) (Or.inl ⟨by rfl, ?_⟩) (by assumption) ?_
    · intro w' hSw
      (try dsimp only at hSw)
      go_simp <;> first | exact i64_in (by omega) (by omega) | exact u32_in (by omega) (by omega) | exact u32_add _ _ | (rw [Int.tmod_eq_emod_of_nonneg (by omega)]; omega) | (rw [Int.tdiv_eq_ediv_of_nonneg (by omega)]; omega) | omega
    (try simp only [Act.put, List.setIfInBounds_toArray, List.set_cons_zero, List.set_cons_succ])
    refine wpAnyH_take (i := 2) (v := (.int .i64 ((s.size - 4 : Nat) : Int))) rfl (by kernel_rfl) (by kernel_rfl) (by kernel_rfl) (fun _ _ _ h => h) (Or.inl ⟨by rfl, ?_⟩) (by assumption) ?_
    · intro w' hSw
      (try dsimp only at hSw)
      (go_simp; first | done | exact i64_in (by omega) (by omega))
    (try simp only [Act.put, List.setIfInBounds_toArray, List.set_cons_zero, List.set_cons_succ])
    refine wpAnyH_take (i := 3) (v := (.string (s.extract 0 (s.size - 4)))) rfl (by kernel_rfl) (by kernel_rfl) (by kernel_rfl) (fun _ _ _ h => h) (Or.inl ⟨by rfl, ?_⟩) (by assumption) ?_
    · intro w' hSw
      (try dsimp only at hSw)
      (go_simp; (try (intro hq; exfalso; omega)); (repeat rw [if_pos (by first | omega | exact ⟨by omega, by omega⟩)]); (try rw [Int.toNat_natCast]); (try rfl))
    (try simp only [Act.put, List.setIfInBounds_toArray, List.set_cons_zero, List.set_cons_succ])
    refine wpAnyH_take (i := 5) (v := (.string s)) rfl (by kernel_rfl) (by kernel_rfl) (by kernel_rfl) (fun _ _ _ h => h) (Or.inl ⟨by rfl, ?_⟩) (by assumption) ?_
    · intro w' hSw
      (try dsimp only at hSw)
      go_simp <;> first | exact i64_in (by omega) (by omega) | exact u32_in (by omega) (by omega) | exact u32_add _ _ | (rw [Int.tmod_eq_emod_of_nonneg (by omega)]; omega) | (rw [Int.tdiv_eq_ediv_of_nonneg (by omega)]; omega) | omega
    (try simp only [Act.put, List.setIfInBounds_toArray, List.set_cons_zero, List.set_cons_succ])
    refine wpAnyH_take (i := 6) (v := (.int .i64 (bszF s : Int))) rfl (by kernel_rfl) (by kernel_rfl) (by kernel_rfl) (fun _ _ _ h => h) (Or.inl ⟨by rfl, ?_⟩) (by assumption) ?_
    · intro w' hSw
      (try dsimp only at hSw)
      go_simp <;> first | exact i64_in (by omega) (by omega) | exact u32_in (by omega) (by omega) | exact u32_add _ _ | (rw [Int.tmod_eq_emod_of_nonneg (by omega)]; omega) | (rw [Int.tdiv_eq_ediv_of_nonneg (by omega)]; omega) | omega
    (try simp only [Act.put, List.setIfInBounds_toArray, List.set_cons_zero, List.set_cons_succ])
    refine wpAnyH_take (i := 7) (v := (.int .i64 ((s.size - 4 : Nat) : Int))) rfl (by kernel_rfl) (by kernel_rfl) (by kernel_rfl) (fun _ _ _ h => h) (Or.inl ⟨by rfl, ?_⟩) (by assumption) ?_
    · intro w' hSw
      (try dsimp only at hSw)
      (go_simp; first | done | exact i64_in (by omega) (by omega))
    (try simp only [Act.put, List.setIfInBounds_toArray, List.set_cons_zero, List.set_cons_succ])
    refine wpAnyH_take (i := 8) (v := (.string (s.extract (s.size - 4) s.size))) rfl (by kernel_rfl) (by kernel_rfl) (by kernel_rfl) (fun _ _ _ h => h) (Or.inl ⟨by rfl, ?_⟩) (by assumption) ?_
    · intro w' hSw
      (try dsimp only at hSw)
      (go_simp; (try (intro hq; exfalso; omega)); (repeat rw [if_pos (by first | omega | exact ⟨by omega, by omega⟩)]); (try rw [Int.toNat_natCast]); (try rfl))
    (try simp only [Act.put, List.setIfInBounds_toArray, List.set_cons_zero, List.set_cons_succ])
    refine wpAnyH_ready (rs := [4]) (by kernel_rfl) (by simp) ?_
    refine AllReadyH.cons rfl (fun K hK => ?_) AllReadyH.nil
    go_simp
    refine Calls.mono (SU.out _) ?_
    rintro x w1 ⟨rfl, b1⟩
    refine hK.out _ _ (trivial) (fun hHeld => ?_)
    clear hK
    (try simp only [Act.put, List.setIfInBounds_toArray, List.set_cons_zero, List.set_cons_succ])
    generalize s.extract (s.size - 4) s.size = Y at *
    generalize s.extract 0 (s.size - 4) = X at *
    refine wpAnyH_ready (rs := [9]) (by kernel_rfl) (by simp) ?_
    refine AllReadyH.cons rfl (fun K hK => ?_) AllReadyH.nil
    go_simp
    refine hK.out _ _ (trivial) (fun hHeld => ?_)
    clear hK
    (try simp only [Act.put, List.setIfInBounds_toArray, List.set_cons_zero, List.set_cons_succ])
    refine wpAnyH_done (by kernel_rfl) ?_ _
    clear hHeld
    have B1 : Hid (Below WX.heap.size WX w1) := ((Below.refl _ WX).drew).trans b1
    obtain ⟨hR1, hN1, hB1, hT1⟩ := KC.out _ B1.out
    have HB1 := hide hB1
    have HT1 := hide hT1
    clear hB1 hT1 b1 hR hN SU
    cases hsm : sumOk s with
    | false =>
      have E := hide (ES.out hsm)
      have hz : (Z.toList == Y.toList) = false := by rw [← SB.out]; exact hsm
      rw [hz]
      clear ES EO SB hsm
      go_wp2_with (first | (refine wpList_loadMsg rfl (.tmp 4) rfl (mm0 0) W0.heap.size rfl hN1 ?_) | (refine wpList_storeMsg rfl (.tmp 2) (.tmp 59) rfl w.heap.size rfl (mm0 0) (mm0 0) rfl hR1 ?_))
      refine bodyPost_ret (v := .tuple #[.agg (msgV (mm0 0)), .int .i64 55]) (res_msg2 Tryd.results60 _ (mm0 0) _ w.heap.size rfl _ rfl (setRow_heap _ _ _ _ _ _ hR1)) rfl ⟨by rw [E.out], ?_⟩
      exact below_row HB1.out (Nat.le_refl _) _
    | true =>
      have hC := EO.out hsm
      have hz : (Z.toList == Y.toList) = true := by rw [← SB.out]; exact hsm
      rw [hz]
      have HC := hide hC
      have R1 := hide (RR.out _ HT1.out)
      clear ES EO SB hsm hC
      go_wp2_with fail
      refine Calls.mono R1.out ?_
      rintro e w2 ⟨m', hm', rfl, b2⟩
      have hR2 := blk_keep hR1 b2
      have hN2 := blk_keep hN1 b2
      obtain ⟨WY, eY, hY, bY1, bY⟩ := laid_new (HB1.out.trans (b2.mono HB1.out.size)) m'
      have hRY := blk_keep hR2 bY1
      have hNY := blk_keep hN2 bY1
      have BY := hide bY
      have B1Y := hide (B1.out.trans ((b2.trans (bY1.mono b2.size)).mono B1.out.size))
      have EN := hide (rencode_any m' WY (KC.out _ B1Y.out).2.2.2)
      have HM := hide hm'
      clear R1 RR b2 bY1 bY hR2 hN2 hR1 hN1 hm'
      go_upto_region 14 with (refine wpList_storeMsg rfl (.tmp 6) (.tmp 61) rfl w2.heap.size rfl m' (mm0 0) rfl (heap_last _ _) ?_)
      rw [← eY]
      clear eY
      go_wp2_with (refine wpList_loadMsg rfl (.tmp 6) rfl m' w2.heap.size rfl hY ?_)
      refine Calls.mono EN.out ?_
      rintro e w3 ⟨rfl, b3⟩
      have hR3 := blk_keep hRY b3
      have hN3 := blk_keep hNY b3
      have hY3 := blk_keep hY b3
      have B3 := hide (BY.out.trans (b3.mono BY.out.size))
      clear b3 EN hRY hNY hY
      by_cases e0 : encE m' = 0
      case neg =>
        have hd : decM s = none := by
          cases hd : decM s with
          | none => rfl
          | some n =>
            obtain ⟨q1, q2, q3⟩ := dec_back hd
            exact absurd (encE_ok (m := m') (by rw [same_of hd HM.out]; exact q1) (by rw [same_of hd HM.out]; exact q2)) e0
        have E := hide (decV_body HC.out hd)
        have e0' : (encE m' != 0) = true := by simpa using e0
        generalize encE m' = EE at *
        generalize encS m' = SS at *
        go_wp2_with (first | (refine wpList_loadMsg rfl (.tmp 4) rfl (mm0 0) W0.heap.size rfl hN3 ?_) | (refine wpList_storeMsg rfl (.tmp 2) (.tmp 74) rfl w.heap.size rfl (mm0 0) (mm0 0) rfl hR3 ?_))
        refine bodyPost_ret (v := .tuple #[.agg (msgV (mm0 0)), .int .i64 56]) (res_msg2 Tryd.results60 _ (mm0 0) _ w.heap.size rfl _ rfl (setRow_heap _ _ _ _ _ _ hR3)) rfl ⟨by rw [E.out], ?_⟩
        exact below_row B3.out (Nat.le_refl _) _
      case pos =>
        by_cases e1 : encS m' = s
        case neg =>
          have hd : decM s = none := by
            cases hd : decM s with
            | none => rfl
            | some n => exact absurd (by rw [same_of hd HM.out]; exact (dec_back hd).2.2) e1
          have E := hide (decV_body HC.out hd)
          have e1' : ((encS m').toList == s.toList) = false := by rw [eq_beq]; exact decide_eq_false e1
          rw [e0]
          generalize encS m' = SS at *
          go_wp2_with (first | (refine wpList_loadMsg rfl (.tmp 4) rfl (mm0 0) W0.heap.size rfl hN3 ?_) | (refine wpList_storeMsg rfl (.tmp 2) (.tmp 74) rfl w.heap.size rfl (mm0 0) (mm0 0) rfl hR3 ?_))
          refine bodyPost_ret (v := .tuple #[.agg (msgV (mm0 0)), .int .i64 56]) (res_msg2 Tryd.results60 _ (mm0 0) _ w.heap.size rfl _ rfl (setRow_heap _ _ _ _ _ _ hR3)) rfl ⟨by rw [E.out], ?_⟩
          exact below_row B3.out (Nat.le_refl _) _
        case pos =>
          have E := hide (decV_good HC.out (enc_same e0 e1))
          rw [e0, e1]
          have e1' : (s.toList == s.toList) = true := by rw [eq_beq]; exact decide_eq_true rfl
          go_wp2_with (first | (refine wpList_loadMsg rfl (.tmp 6) rfl m' w2.heap.size rfl hY3 ?_) | (refine wpList_storeMsg rfl (.tmp 2) (.tmp 75) rfl w.heap.size rfl m' (mm0 0) rfl hR3 ?_))
          refine bodyPost_ret (v := .tuple #[.agg (msgV m'), .int .i64 0]) (res_msg2 Tryd.results60 _ m' _ w.heap.size rfl _ rfl (setRow_heap _ _ _ _ _ _ hR3)) rfl ⟨by rw [E.out], ?_⟩
          exact below_row B3.out (Nat.le_refl _) _
end Go.Proofs.YtgdjfocnaapooaaDoor
namespace Go.Proofs.YtgdjfocnaapooaaDoor
open Go.RowKit
theorem ext_ext (s : ByteArray) (i n : Nat) (h : i + n ≤ s.size) : (s.extract i s.size).extract 0 n = s.extract i (i + n) := by
  rw [ByteArray.extract_extract, Nat.add_zero, Nat.min_eq_left h]
theorem ext_list (s : ByteArray) (i : Nat) (_h : i ≤ s.size) : (s.extract i s.size).data.toList = s.data.toList.drop i := by
  rw [slice_str, List.take_of_length_le (by rw [List.length_drop, size_data]; omega)]
theorem bsz_ext (s : ByteArray) (i : Nat) (h : i ≤ s.size) : (bszF (s.extract i s.size) : Nat) = val (numB s (i + 16) 4) := by
  unfold bszF numB
  rw [ext_list s i h, List.drop_drop]
theorem byA_ext (s : ByteArray) (i n : Nat) (_h : i + n ≤ s.size) (hn : 0 < n) : byA (s.extract i (i + n)) 0 = byA s i := by
  unfold byA
  rw [slice_str, List.getD_eq_getElem?_getD, List.getD_eq_getElem?_getD, List.getElem?_take_of_lt (by omega), List.getElem?_drop, Nat.add_zero]
theorem bsz_take (t : ByteArray) (n : Nat) (h : 20 ≤ n) : bszF (t.extract 0 n) = bszF t := by
  unfold bszF
  rw [slice_str, List.drop_zero, Nat.sub_zero, List.drop_take, List.take_take, Nat.min_eq_left (by omega)]
theorem next_far {s : ByteArray} {i : Nat} (hi : i ≤ s.size) (h : s.size < i + 24) : nextP s i = none := by
  unfold nextP firstP
  rw [if_pos (Or.inl (by rw [ByteArray.size_extract]; omega))]
theorem next_magic {s : ByteArray} {i : Nat} (h : i + 24 ≤ s.size) (hb : byA s i ≠ 71) : nextP s i = none := by
  unfold nextP firstP
  split
  · rfl
  · rename_i hs
    rw [ByteArray.size_extract] at hs
    have hd : decM ((s.extract i s.size).extract 0 (24 + bszF (s.extract i s.size))) = none := by
      rw [ext_ext s i _ (by omega)]
      have hc : chkE (s.extract i (i + (24 + bszF (s.extract i s.size)))) = 52 := by
        refine chk_magic (by rw [ByteArray.size_extract]; omega) (fun e => hb ?_)
        have := (mag_iff _ (by rw [ByteArray.size_extract]; omega)).1 e
        rw [← byA_ext s i (24 + bszF (s.extract i s.size)) (by omega) (by omega)]
        exact this.1
      unfold decM
      rw [if_neg (by rw [hc]; decide)]
    rw [hd]
theorem next_long {s : ByteArray} {i : Nat} (hi : i + 24 ≤ s.size) (h : val (numB s (i + 16) 4) > 4383 ∨ s.size < i + (24 + val (numB s (i + 16) 4))) : nextP s i = none := by
  unfold nextP firstP
  split
  · rfl
  · rename_i hs
    rw [ByteArray.size_extract, bsz_ext s i (by omega)] at hs
    have hL : val (numB s (i + 16) 4) > 4383 := by omega
    have hd : decM ((s.extract i s.size).extract 0 (24 + bszF (s.extract i s.size))) = none := by
      have hb : bszF ((s.extract i s.size).extract 0 (24 + bszF (s.extract i s.size))) > 4383 := by rw [bsz_take _ _ (by omega), bsz_ext s i (by omega)]; exact hL
      unfold decM
      rw [if_neg]
      intro hc
      have := (chk_lt hc).2.2.2.1
      omega
    rw [hd]
theorem next_some {s : ByteArray} {i : Nat} (hi : i + 24 ≤ s.size) (h : s.size ≥ i + (24 + val (numB s (i + 16) 4))) : nextP s i = (decM (s.extract i (i + (24 + val (numB s (i + 16) 4))))).map fun m => (24 + val (numB s (i + 16) 4), m) := by
  unfold nextP firstP
  rw [if_neg (by rw [ByteArray.size_extract, bsz_ext s i (by omega)]; omega), bsz_ext s i (by omega), ext_ext s i _ (by omega)]
  cases decM (s.extract i (i + (24 + val (numB s (i + 16) 4)))) <;> rfl
theorem numB4 (s : ByteArray) (a : Nat) : val (numB s a 4) < 4294967296 := by
  refine Nat.lt_of_lt_of_le (val_lt _) ?_
  refine Nat.le_trans (Nat.pow_le_pow_right (by omega) (show _ ≤ 4 from ?_)) (by decide)
  unfold numB
  rw [List.length_take]
  exact Nat.min_le_left _ _
theorem numD4 (s : ByteArray) (a : Nat) : numD s a 4 = (val (numB s a 4) : Int) := by
  have := numB4 s a
  unfold numD
  rw [if_neg (by omega)]
end Go.Proofs.YtgdjfocnaapooaaDoor
