import Derived.Test.YtioiphonajinmaaDoorGlLoc
import Derived.Test.YtioiphonajinmaaDoorGGcDoc
import Derived.Test.YtioiphonajinmaaDoorDrMd5
import Derived.Test.YtioiphonajinmaaDoorGGcLaw
import Derived.Test.YtioiphonajinmaaDoorRows
import Derived.Lib.LaidTab
import Derived.Lib.LaidU8
namespace Go.Proofs.YtioiphonajinmaaDoor
open Go.RowKit
theorem errP_dl2 {st : ByteArray} {x : Nat → Int} {ns : List ND} (h : errP st x ns = 0) : Dealt ns := by
  apply Classical.byContradiction
  intro hn
  unfold errP at h
  rw [dlB_false hn] at h
  split at h <;> (try split at h) <;> (try split at h) <;> simp at h
theorem errP_nf {st : ByteArray} {x : Nat → Int} {ns : List ND} (h : errP st x ns = 0) : nfP ns = true := by
  unfold errP at h
  cases e : nfP ns with
  | true => rfl
  | false => rw [e] at h; split at h <;> (try split at h) <;> simp at h
set_option maxHeartbeats 8000000 in
set_option maxRecDepth 100000 in
set_option linter.unusedSimpArgs false in
set_option linter.unusedVariables false in
/-- the document's Locate -/
theorem rlocate_any (N : Nat) (w : World) (st : ByteArray) (x : Nat → Int) (ao : Option Addr) (b o cap : Nat) (pv : Nat → Value) (ns : List ND) (key : ByteArray) (h : NsAt N w ao b o pv ns) (hN : N ≤ w.heap.size) (hs : st.size ≤ 9223372036854775807) (hks : key.size ≤ 9223372036854775807) (hD : RTabs w) (hG : TabG w) :
    Calls Tryd.prog 17 #[.agg (clA st x (.slice ao ns.length cap)), .string key] w fun e w' => e = .returned (.tuple #[.agg (lcV st x ns key), .int .i64 (lcE st x ns key)]) ∧ Below w.heap.size w w' := by
  obtain ⟨W0, hW0⟩ : ∃ W0, W0 = (w.alloc (.cells (clA st x (.slice ao ns.length cap)) 27)).alloc (.cells (plA 0 0 ⟨#[]⟩) 30) := ⟨_, rfl⟩
  have B0 : Hid (Below w.heap.size w W0) := by rw [hW0]; exact ((Below.refl _ _).alloc (Nat.le_refl _) _).alloc (by simp) _
  have C0 : Hid (ClAt W0 w.heap.size st x (.slice ao ns.length cap)) := by rw [hW0]; exact (new_cl _ _ _ _).below ((Below.refl _ _).alloc (Nat.le_refl _) _)
  have R0 : Hid (PlAt W0 (w.heap.size + 1) 0 0 ⟨#[]⟩) := by
    rw [hW0]
    have := heap_last (w.alloc (.cells (clA st x (.slice ao ns.length cap)) 27)) (.cells (plA 0 0 ⟨#[]⟩) 30)
    simp only [World.size_alloc] at this
    exact this
  have T0 := hide (hD.below B0.out rfl)
  have G0 := hide (hG.below B0.out)
  have S0 : Hid (NsAt N W0 ao b o pv ns ∧ N ≤ W0.heap.size) := ⟨h.below (B0.out.mono hN), Nat.le_trans hN B0.out.size⟩
  have ND := hide (rcheck_any N W0 st x ao b o cap pv ns S0.out.1 S0.out.2 hs G0.out)
  clear h hD hG
  obtain ⟨E, hE⟩ : ∃ E, E = lcE st x ns key := ⟨_, rfl⟩
  obtain ⟨V, hV⟩ : ∃ V, V = lcV st x ns key := ⟨_, rfl⟩
  rw [← hE, ← hV]
  have HE := hide hE
  have HV := hide hV
  clear hE hV
  go_enter Tryd.func17, Tryd.ntmps17
  go_upto_region 1 with fail
  rw [show (w.alloc (.cells (clA st x (.slice ao ns.length cap)) 27)).alloc (.cells #[.int .i64 0, .int .i64 0, .string ⟨#[]⟩] 30) = W0 from hW0.symm]
  clear hW0
  go_wp2_with (refine wpList_loadCl rfl (.tmp 2) rfl w.heap.size st x _ rfl C0.out ?_)
  refine Calls.mono ND.out ?_
  rintro e W1 ⟨rfl, hb⟩
  have C1 := hide (C0.out.below hb)
  have R1 : Hid (PlAt W1 (w.heap.size + 1) 0 0 ⟨#[]⟩) := (hb.block _ (blk_lt R0.out)).trans R0.out
  have T1 := hide (T0.out.below hb rfl)
  have S1 : Hid (NsAt N W1 ao b o pv ns ∧ N ≤ W1.heap.size) := ⟨S0.out.1.below (hb.mono S0.out.2), Nat.le_trans S0.out.2 hb.size⟩
  have B1 := hide (B0.out.trans (hb.mono B0.out.size))
  clear hb C0 R0 T0 B0 ND S0 G0
  have fin : Hid (∀ (X : World) (p c : Int) (s : ByteArray), Below w.heap.size w X → PlAt X (w.heap.size + 1) 0 0 ⟨#[]⟩ → PlAt (X.setRow (w.heap.size + 1) (plA p c s)) (w.heap.size + 1) p c s ∧ Below w.heap.size w (X.setRow (w.heap.size + 1) (plA p c s))) := fun X p c s hb hR => ⟨setRow_heap X (w.heap.size + 1) _ _ 30 _ hR, below_setRow hb (by omega) _⟩
  by_cases he : errP st x ns = 0
  case neg =>
    have hE2 : E = errP st x ns := HE.out.trans (lcE_bad he)
    have hV2 : V = plA 0 0 ⟨#[]⟩ := HV.out.trans (lcV_bad (by rw [lcE_bad he]; exact he))
    rw [← hE2] at he ⊢
    have HV2 := hide hV2
    have hne : ¬ E = 0 := he
    clear hE2 hV2 he HE HV
    go_wp2_with (refine wpList_store_row rfl 30 (.tmp 4) (.tmp 12) rfl (w.heap.size + 1) (plA 0 0 ⟨#[]⟩) rfl rfl 30 _ R1.out infoPl3 rfl (plA_one _ _ _) ?_)
    obtain ⟨f1, f2⟩ := fin.out _ 0 0 ⟨#[]⟩ B1.out R1.out
    refine bodyPost_ret (v := .tuple #[.agg (plA 0 0 ⟨#[]⟩), .int .i64 E]) (res_pl Tryd.results17 _ 0 0 ⟨#[]⟩ _ (w.heap.size + 1) rfl f1 _ rfl) rfl ⟨by rw [HV2.out], f2⟩
  case pos =>
    have hd := errP_dl2 he
    have h16 := nfP_len (errP_nf he)
    have d1 : 1 ≤ ptN ns := hd.p1
    have d2 : ptN ns ≤ 64 := hd.p2
    have hsf := (errP_ok2 he)
    have L1 : 1 ≤ x 1 ∧ x 1 ≤ 16 := sfP_lim hsf 1 (by omega)
    have L2 : 1 ≤ x 2 ∧ x 2 ≤ 16 := sfP_lim hsf 2 (by omega)
    have KB := hide (fun hk => lcE_key (k := key) he hk)
    have KO := hide (fun hk => lcE_ok (k := key) he hk)
    rw [he]
    clear hd he hsf
    by_cases hk0 : key.size = 0
    · have hE2 : E = 32 := HE.out.trans (KB.out (Or.inl hk0))
      have HV2 : Hid (V = plA 0 0 ⟨#[]⟩) := HV.out.trans (lcV_bad (by rw [KB.out (Or.inl hk0)]; omega))
      subst hE2
      have hke : key = ⟨#[]⟩ := ByteArray.ext (Array.toList_inj.1 (by rw [List.length_eq_zero_iff.1 (show key.data.toList.length = 0 by rw [size_data]; exact hk0)]))
      subst hke
      clear HE HV KB KO
      go_wp2_with (refine wpList_store_row rfl 30 (.tmp 4) (.tmp 21) rfl (w.heap.size + 1) (plA 0 0 ⟨#[]⟩) rfl rfl 30 _ R1.out infoPl3 rfl (plA_one _ _ _) ?_)
      obtain ⟨f1, f2⟩ := fin.out _ 0 0 ⟨#[]⟩ B1.out R1.out
      refine bodyPost_ret (v := .tuple #[.agg (plA 0 0 ⟨#[]⟩), .int .i64 32]) (res_pl Tryd.results17 _ 0 0 ⟨#[]⟩ _ (w.heap.size + 1) rfl f1 _ rfl) rfl ⟨by rw [HV2.out], f2⟩
    have hne : key.toList.isEmpty = false := by
      rw [toList_data]
      cases hd : key.data.toList with
      | nil => exact absurd (by rw [← size_data, hd]; rfl) hk0
      | cons a b => rfl
    by_cases hk1 : 255 < key.size
    · have hE2 : E = 32 := HE.out.trans (KB.out (Or.inr hk1))
      have HV2 : Hid (V = plA 0 0 ⟨#[]⟩) := HV.out.trans (lcV_bad (by rw [KB.out (Or.inr hk1)]; omega))
      subst hE2
      have hk1' : (255 : Int) < (key.size : Int) := by omega
      clear HE HV KB KO
      go_wp2_with (refine wpList_store_row rfl 30 (.tmp 4) (.tmp 21) rfl (w.heap.size + 1) (plA 0 0 ⟨#[]⟩) rfl rfl 30 _ R1.out infoPl3 rfl (plA_one _ _ _) ?_)
      obtain ⟨f1, f2⟩ := fin.out _ 0 0 ⟨#[]⟩ B1.out R1.out
      refine bodyPost_ret (v := .tuple #[.agg (plA 0 0 ⟨#[]⟩), .int .i64 32]) (res_pl Tryd.results17 _ 0 0 ⟨#[]⟩ _ (w.heap.size + 1) rfl f1 _ rfl) rfl ⟨by rw [HV2.out], f2⟩
    have hk1' : ¬ (255 : Int) < (key.size : Int) := by omega
    have hz := KO.out (by omega)
    have hE2 : E = 0 := HE.out.trans hz
    have HV2 : Hid (V = plA (lcP ns key) (lcC x key) (lcH x key)) := HV.out.trans (lcV_ok hz)
    subst hE2
    clear HE HV KB KO hz
    have MD := hide (rmd5_any key (by omega) W1 T1.out)
    go_wp2_with fail
    refine Calls.mono MD.out ?_
    rintro e W3 ⟨rfl, hb3⟩
    have C3 := hide (C1.out.below hb3)
    have R3 : Hid (PlAt W3 (w.heap.size + 1) 0 0 ⟨#[]⟩) := (hb3.block _ (blk_lt R1.out)).trans R1.out
    have S3 : Hid (NsAt N W3 ao b o pv ns ∧ N ≤ W3.heap.size) := ⟨S1.out.1.below (hb3.mono S1.out.2), Nat.le_trans S1.out.2 hb3.size⟩
    have B3 := hide (B1.out.trans (hb3.mono B1.out.size))
    clear hb3 C1 R1 B1 T1 MD S1
    have hsz := md5L_size key.data.toList
    obtain ⟨wd, hwd⟩ : ∃ wd : Nat, (wd : Int) = x 1 := ⟨(x 1).toNat, by omega⟩
    obtain ⟨ch, hch⟩ : ∃ ch : Nat, (ch : Int) = x 2 := ⟨(x 2).toNat, by omega⟩
    have HP : Hid (lcP ns key = ((hiF ((strOf (md5L key.data.toList)).extract 0 4).data.toList % ptN ns : Nat) : Int)) := by
      show _ = _
      unfold lcP
      rw [show (4 : Nat) = 0 + 4 from rfl, cut4, strOf_data]
      simp
    have HC : Hid (lcC x key = ((hiF ((strOf (md5L key.data.toList)).extract 4 8).data.toList % ch : Nat) : Int)) := by
      show _ = _
      unfold lcC
      rw [show (8 : Nat) = 4 + 4 from rfl, cut4, strOf_data, show (x 2).toNat = ch by omega]
    have HH : Hid (lcH x key = (strOf (md5L key.data.toList)).extract (16 - wd) 16) := by
      show _ = _
      unfold lcH
      rw [show (x 1).toNat = wd by omega]
    generalize strOf (md5L key.data.toList) = md at *
    go_upto_region 7 with fail
    have H1 := hide (fun w' => qfour_any (md.extract 0 4) (by rw [ByteArray.size_extract]; omega) w')
    have H2 := hide (fun w' => qfour_any (md.extract 4 8) (by rw [ByteArray.size_extract]; omega) w')
    have HWD := hide hwd
    have HCH := hide hch
    have w1 : 1 ≤ wd ∧ wd ≤ 16 := by omega
    have c1 : 1 ≤ ch ∧ ch ≤ 16 := by omega
    have HSZ := hide hsz
    clear hwd hch hsz L1 L2
    generalize hiF (md.extract 0 4).data.toList = f1 at *
    generalize hiF (md.extract 4 8).data.toList = f2 at *
    obtain ⟨u1, hu1⟩ : ∃ u, f1 % ptN ns = u := ⟨_, rfl⟩
    obtain ⟨u2, hu2⟩ : ∃ u, f2 % ch = u := ⟨_, rfl⟩
    rw [hu1] at HP
    rw [hu2] at HC
    have HU1 := hide hu1
    have HU2 := hide hu2
    clear hu1 hu2
    obtain ⟨hh, hhe⟩ : ∃ hh, md.extract (16 - wd) 16 = hh := ⟨_, rfl⟩
    have HHE := hide hhe
    rw [hhe] at HH
    clear hhe
    refine wp_region_held_drew (S := fun Y => ClAt Y w.heap.size st x (.slice ao ns.length cap)) (by kernel_rfl) C3.out (fun hHeld => ?_)
    refine wpAnyH_take (i := 0) (v := (.string md)) rfl (by kernel_rfl) (by kernel_rfl) (by kernel_rfl) (fun _ _ _ h => h) (Or.inl ⟨by rfl, ?_⟩) (by assumption) ?_
    · intro w' hSw
      (try dsimp only at hSw)
      exact exec_move (.tmp 7) rfl (by kernel_rfl)
    (try simp only [Act.put, List.getElem_toArray, List.getElem_cons_zero, List.getElem_cons_succ, List.setIfInBounds_toArray, List.set_cons_zero, List.set_cons_succ])
    refine wpAnyH_take (i := 1) (v := (.string (md.extract 0 4))) rfl (by kernel_rfl) (by kernel_rfl) (by kernel_rfl) (fun _ _ _ h => h) (Or.inl ⟨by rfl, ?_⟩) (by assumption) ?_
    · intro w' hSw
      (try dsimp only at hSw)
      exact exec_cutS (by omega) (by rw [HSZ.out]; omega) (by rw [HSZ.out]; omega) (.tmp 24) (.const (.int .i64 0)) (.const (.int .i64 4)) rfl (by kernel_rfl) (by kernel_rfl) (by kernel_rfl)
    (try simp only [Act.put, List.getElem_toArray, List.getElem_cons_zero, List.getElem_cons_succ, List.setIfInBounds_toArray, List.set_cons_zero, List.set_cons_succ])
    refine wpAnyH_take (i := 3) (v := (.agg (clA st x (.slice ao ns.length cap)))) rfl (by kernel_rfl) (by kernel_rfl) (by kernel_rfl) (fun _ _ _ h => h) (Or.inl ⟨by rfl, ?_⟩) (by assumption) ?_
    · intro w' hSw
      (try dsimp only at hSw)
      exact exec_loadCl (.tmp 2) rfl (by kernel_rfl) hSw
    (try simp only [Act.put, List.getElem_toArray, List.getElem_cons_zero, List.getElem_cons_succ, List.setIfInBounds_toArray, List.set_cons_zero, List.set_cons_succ])
    refine wpAnyH_take (i := 6) (v := (.string md)) rfl (by kernel_rfl) (by kernel_rfl) (by kernel_rfl) (fun _ _ _ h => h) (Or.inl ⟨by rfl, ?_⟩) (by assumption) ?_
    · intro w' hSw
      (try dsimp only at hSw)
      exact exec_move (.tmp 7) rfl (by kernel_rfl)
    (try simp only [Act.put, List.getElem_toArray, List.getElem_cons_zero, List.getElem_cons_succ, List.setIfInBounds_toArray, List.set_cons_zero, List.set_cons_succ])
    refine wpAnyH_take (i := 7) (v := (.string (md.extract 4 8))) rfl (by kernel_rfl) (by kernel_rfl) (by kernel_rfl) (fun _ _ _ h => h) (Or.inl ⟨by rfl, ?_⟩) (by assumption) ?_
    · intro w' hSw
      (try dsimp only at hSw)
      exact exec_cutS (by omega) (by rw [HSZ.out]; omega) (by rw [HSZ.out]; omega) (.tmp 30) (.const (.int .i64 4)) (.const (.int .i64 8)) rfl (by kernel_rfl) (by kernel_rfl) (by kernel_rfl)
    (try simp only [Act.put, List.getElem_toArray, List.getElem_cons_zero, List.getElem_cons_succ, List.setIfInBounds_toArray, List.set_cons_zero, List.set_cons_succ])
    refine wpAnyH_take (i := 9) (v := (.pointer (some ⟨w.heap.size, 3, none⟩))) rfl (by kernel_rfl) (by kernel_rfl) (by kernel_rfl) (fun _ _ _ h => h) (Or.inl ⟨by rfl, ?_⟩) (by assumption) ?_
    · intro w' hSw
      (try dsimp only at hSw)
      go_simp
    (try simp only [Act.put, List.getElem_toArray, List.getElem_cons_zero, List.getElem_cons_succ, List.setIfInBounds_toArray, List.set_cons_zero, List.set_cons_succ])
    refine wpAnyH_take (i := 10) (v := (.int .i64 (ch : Int))) rfl (by kernel_rfl) (by kernel_rfl) (by kernel_rfl) (fun _ _ _ h => h) (Or.inl ⟨by rfl, ?_⟩) (by assumption) ?_
    · intro w' hSw
      (try dsimp only at hSw)
      (rw [HCH.out]; exact exec_ld (.tmp 33) rfl (Or.inl rfl) (by kernel_rfl) hSw.x2)
    (try simp only [Act.put, List.getElem_toArray, List.getElem_cons_zero, List.getElem_cons_succ, List.setIfInBounds_toArray, List.set_cons_zero, List.set_cons_succ])
    refine wpAnyH_take (i := 12) (v := (.string md)) rfl (by kernel_rfl) (by kernel_rfl) (by kernel_rfl) (fun _ _ _ h => h) (Or.inl ⟨by rfl, ?_⟩) (by assumption) ?_
    · intro w' hSw
      (try dsimp only at hSw)
      exact exec_move (.tmp 7) rfl (by kernel_rfl)
    (try simp only [Act.put, List.getElem_toArray, List.getElem_cons_zero, List.getElem_cons_succ, List.setIfInBounds_toArray, List.set_cons_zero, List.set_cons_succ])
    refine wpAnyH_take (i := 13) (v := (.pointer (some ⟨w.heap.size, 2, none⟩))) rfl (by kernel_rfl) (by kernel_rfl) (by kernel_rfl) (fun _ _ _ h => h) (Or.inl ⟨by rfl, ?_⟩) (by assumption) ?_
    · intro w' hSw
      (try dsimp only at hSw)
      go_simp
    (try simp only [Act.put, List.getElem_toArray, List.getElem_cons_zero, List.getElem_cons_succ, List.setIfInBounds_toArray, List.set_cons_zero, List.set_cons_succ])
    refine wpAnyH_take (i := 14) (v := (.int .i64 (wd : Int))) rfl (by kernel_rfl) (by kernel_rfl) (by kernel_rfl) (fun _ _ _ h => h) (Or.inl ⟨by rfl, ?_⟩) (by assumption) ?_
    · intro w' hSw
      (try dsimp only at hSw)
      (have q := ClAt.x1 hSw; rw [← HWD.out] at q; exact exec_ld (.tmp 37) rfl (Or.inl rfl) (by kernel_rfl) q)
    (try simp only [Act.put, List.getElem_toArray, List.getElem_cons_zero, List.getElem_cons_succ, List.setIfInBounds_toArray, List.set_cons_zero, List.set_cons_succ])
    refine wpAnyH_take (i := 15) (v := (.int .i64 ((16 - wd : Nat) : Int))) rfl (by kernel_rfl) (by kernel_rfl) (by kernel_rfl) (fun _ _ _ h => h) (Or.inl ⟨by rfl, ?_⟩) (by assumption) ?_
    · intro w' hSw
      (try dsimp only at hSw)
      exact exec_subM (a := 16) (.const (.int .i64 16)) (.tmp 38) rfl (by kernel_rfl) (by kernel_rfl) (by omega) (by omega)
    (try simp only [Act.put, List.getElem_toArray, List.getElem_cons_zero, List.getElem_cons_succ, List.setIfInBounds_toArray, List.set_cons_zero, List.set_cons_succ])
    refine wpAnyH_take (i := 16) (v := (.string hh)) rfl (by kernel_rfl) (by kernel_rfl) (by kernel_rfl) (fun _ _ _ h => h) (Or.inl ⟨by rfl, ?_⟩) (by assumption) ?_
    · intro w' hSw
      (try dsimp only at hSw)
      (rw [← HHE.out]; exact exec_cutN HSZ.out (by omega) (by omega) (.tmp 36) (.tmp 39) rfl (by kernel_rfl) (by kernel_rfl))
    (try simp only [Act.put, List.getElem_toArray, List.getElem_cons_zero, List.getElem_cons_succ, List.setIfInBounds_toArray, List.set_cons_zero, List.set_cons_succ])
    refine wpAnyH_ready (rs := [2]) (by kernel_rfl) (by simp) ?_
    refine AllReadyH.cons rfl (fun K hK => ?_) AllReadyH.nil
    go_simp
    refine Calls.mono (H1.out _) ?_
    rintro e W4 ⟨rfl, hb⟩
    have b4 : Below W3.heap.size W3 W4 := ⟨hb.os, hb.tape, hb.output, hb.size, hb.block⟩
    have C4 := hide (C3.out.below b4)
    have B4 := hide b4
    clear hb b4
    refine hK.out _ _ (C4.out) (fun hHeld => ?_)
    clear hK
    (try simp only [Act.put, List.setIfInBounds_toArray, List.set_cons_zero, List.set_cons_succ])
    have PA := hide (parts_any N W4 st x ao b o cap pv ns (S3.out.1.below (B4.out.mono S3.out.2)) (Nat.le_trans S3.out.2 B4.out.size) h16.2)
    refine wpAnyH_ready (rs := [4]) (by kernel_rfl) (by simp) ?_
    refine AllReadyH.cons rfl (fun K hK => ?_) AllReadyH.nil
    go_simp
    refine Calls.mono PA.out ?_
    rintro e W5 ⟨rfl, hb⟩
    have B5 := hide (B4.out.trans (hb.mono B4.out.size))
    have C5 := hide (C3.out.below B5.out)
    clear hb PA C4 B4
    refine hK.out _ _ (C5.out) (fun hHeld => ?_)
    clear hK
    (try simp only [Act.put, List.setIfInBounds_toArray, List.set_cons_zero, List.set_cons_succ])
    refine wpAnyH_take (i := 5) (v := (.int .i64 (u1 : Int))) rfl (by kernel_rfl) (by kernel_rfl) (by kernel_rfl) (fun _ _ _ h => h) (Or.inl ⟨by rfl, ?_⟩) (by assumption) ?_
    · intro w' hSw
      (try dsimp only at hSw)
      (rw [← HU1.out]; exact exec_remN (.tmp 26) (.tmp 28) rfl (by kernel_rfl) (by kernel_rfl) (by omega) (by omega))
    (try simp only [Act.put, List.getElem_toArray, List.getElem_cons_zero, List.getElem_cons_succ, List.setIfInBounds_toArray, List.set_cons_zero, List.set_cons_succ])
    refine wpAnyH_ready (rs := [8]) (by kernel_rfl) (by simp) ?_
    refine AllReadyH.cons rfl (fun K hK => ?_) AllReadyH.nil
    go_simp
    refine Calls.mono (H2.out _) ?_
    rintro e W6 ⟨rfl, hb⟩
    have B6 := hide (B5.out.trans (hb.mono B5.out.size))
    have C6 := hide (C3.out.below B6.out)
    have R6 : Hid (PlAt W6 (w.heap.size + 1) 0 0 ⟨#[]⟩) := (B6.out.block _ (blk_lt R3.out)).trans R3.out
    have D6 := hide (B3.out.trans (B6.out.mono B3.out.size))
    clear hb C5 B5
    refine hK.out _ _ (C6.out) (fun hHeld => ?_)
    clear hK
    (try simp only [Act.put, List.setIfInBounds_toArray, List.set_cons_zero, List.set_cons_succ])
    refine wpAnyH_take (i := 11) (v := (.int .i64 (u2 : Int))) rfl (by kernel_rfl) (by kernel_rfl) (by kernel_rfl) (fun _ _ _ h => h) (Or.inl ⟨by rfl, ?_⟩) (by assumption) ?_
    · intro w' hSw
      (try dsimp only at hSw)
      (rw [← HU2.out]; exact exec_remN (.tmp 32) (.tmp 34) rfl (by kernel_rfl) (by kernel_rfl) (by omega) (by omega))
    (try simp only [Act.put, List.getElem_toArray, List.getElem_cons_zero, List.getElem_cons_succ, List.setIfInBounds_toArray, List.set_cons_zero, List.set_cons_succ])
    refine wpAnyH_take (i := 17) (v := (.agg (plA (u1 : Int) (u2 : Int) hh))) rfl (by kernel_rfl) (by kernel_rfl) (by kernel_rfl) (fun _ _ _ h => h) (Or.inl ⟨by rfl, ?_⟩) (by assumption) ?_
    · intro w' hSw
      (try dsimp only at hSw)
      exact exec_buildPl (.tmp 29) (.tmp 35) (.tmp 40) rfl (by kernel_rfl) (by kernel_rfl) (by kernel_rfl)
    (try simp only [Act.put, List.getElem_toArray, List.getElem_cons_zero, List.getElem_cons_succ, List.setIfInBounds_toArray, List.set_cons_zero, List.set_cons_succ])
    refine wpAnyH_ready (rs := [18]) (by kernel_rfl) (by simp) ?_
    refine AllReadyH.cons rfl (fun K hK => ?_) AllReadyH.nil
    rw [if_pos (by kernel_rfl)]
    refine wp_store_row 30 (.tmp 4) (.tmp 41) rfl (w.heap.size + 1) (plA (u1 : Int) (u2 : Int) hh) (by kernel_rfl) (by kernel_rfl) 30 _ R6.out infoPl3 rfl (plA_one _ _ _) ?_
    obtain ⟨g1, g2⟩ := fin.out W6 (u1 : Int) (u2 : Int) hh D6.out R6.out
    have G1 := hide g1
    have G2 := hide g2
    have C7 : Hid (ClAt (W6.setRow (w.heap.size + 1) (plA (u1 : Int) (u2 : Int) hh)) w.heap.size st x (.slice ao ns.length cap)) := (setRow_other W6 (w.heap.size + 1) w.heap.size _ (by omega)).trans C6.out
    clear g1 g2
    refine hK.out _ _ (C7.out) (fun hHeld => ?_)
    clear hK
    (try simp only [Act.put, List.setIfInBounds_toArray, List.set_cons_zero, List.set_cons_succ])
    refine wpAnyH_ready (rs := [19]) (by kernel_rfl) (by simp) ?_
    refine AllReadyH.cons rfl (fun K hK => ?_) AllReadyH.nil
    go_simp
    refine hK.out _ _ (C7.out) (fun hHeld => ?_)
    clear hK
    (try simp only [Act.put, List.setIfInBounds_toArray, List.set_cons_zero, List.set_cons_succ])
    refine wpAnyH_done (by kernel_rfl) ?_ _
    clear hHeld
    go_wp2_with fail
    refine bodyPost_ret (v := .tuple #[.agg (plA (u1 : Int) (u2 : Int) hh), .int .i64 0]) (res_pl Tryd.results17 _ _ _ _ _ (w.heap.size + 1) rfl G1.out _ rfl) rfl ⟨by rw [HV2.out, HP.out, HC.out, HH.out], G2.out⟩
end Go.Proofs.YtioiphonajinmaaDoor
namespace Go.Proofs.YtioiphonajinmaaDoor
open Go.RowKit
theorem lcV_some (st : ByteArray) (x : Nat → Int) (ns : List ND) (k : ByteArray) : ∃ p c h, lcV st x ns k = plA p c h := by
  unfold lcV
  split
  · exact ⟨_, _, _, rfl⟩
  · exact ⟨_, _, _, rfl⟩
theorem PlAt.c0 {w : World} {b : Nat} {p c : Int} {h : ByteArray} (hP : PlAt w b p c h) : w.cell? ⟨b, 0, none⟩ = some (.int .i64 p) := by unfold World.cell?; rw [show w.heap[b]? = _ from hP]; rfl
theorem PlAt.c1 {w : World} {b : Nat} {p c : Int} {h : ByteArray} (hP : PlAt w b p c h) : w.cell? ⟨b, 1, none⟩ = some (.int .i64 c) := by unfold World.cell?; rw [show w.heap[b]? = _ from hP]; rfl
theorem PlAt.c2 {w : World} {b : Nat} {p c : Int} {h : ByteArray} (hP : PlAt w b p c h) : w.cell? ⟨b, 2, none⟩ = some (.string h) := by unfold World.cell?; rw [show w.heap[b]? = _ from hP]; rfl
theorem PlAt.below {w w' : World} {b : Nat} {p c : Int} {h : ByteArray} (hP : PlAt w b p c h) (hb : Below w.heap.size w w') : PlAt w' b p c h := (hb.block _ (blk_lt hP)).trans hP
set_option maxHeartbeats 8000000 in
set_option maxRecDepth 100000 in
set_option linter.unusedSimpArgs false in
set_option linter.unusedVariables false in
/-- the law: it says yes -/
theorem locates_any (N : Nat) (w : World) (st : ByteArray) (x : Nat → Int) (ao : Option Addr) (b o cap : Nat) (pv : Nat → Value) (ns : List ND) (key : ByteArray) (h : NsAt N w ao b o pv ns) (hN : N ≤ w.heap.size) (hs : st.size ≤ 9223372036854775807) (hks : key.size ≤ 9223372036854775807) (hT : TabG w) (hD : TabD w) (hR : RTabs w) :
    Calls Tryd.prog 5 #[.agg (clA st x (.slice ao ns.length cap)), .string key] w fun e w' => e = .returned (.bool true) ∧ Below w.heap.size w w' := by
  obtain ⟨W0, hW0, hX⟩ := boxed st x cap h hN
  have hlen := h.len
  have HPS : Hid (∀ (q : Nat) (h : q < ns.length), ns[q].ps.length ≤ 17592186043904) := fun q hq => by
    obtain ⟨_, _, _, _, _, hp⟩ := h.ps q hq
    exact hp.len
  have HX := hide (hX.stand hN)
  have B0 := hide hX.bel
  have T0 := hide (show TabG W0 ∧ TabD W0 ∧ RTabs W0 from ⟨hT.below hX.bel, hD.below hX.bel, hR.below hX.bel rfl⟩)
  clear hX h hT hD hR
  have HA := hide (hand_any N W0 st x ao b o cap pv ns HX.out.nd HX.out.le)
  go_enter Tryd.func5, Tryd.ntmps5
  go_upto_region 1 with fail
  rw [← hW0]
  clear hW0
  go_upto_region 2 with (first | refine wpList_loadCl rfl (.tmp 2) rfl w.heap.size st x _ rfl HX.out.cl ?_ | (go_at_call 13; refine Calls.mono HA.out ?_; rintro e W1 ⟨H, vl, vp, gn, cn, zs, ls, zt, rfl, hH, hzt, hT, hge, hb⟩))
  have X1 := hide (HX.out.below hb)
  have T1 := hide (show TabG W1 ∧ TabD W1 ∧ RTabs W1 from ⟨T0.out.1.below hb, T0.out.2.1.below hb, T0.out.2.2.below hb rfl⟩)
  have B1 := hide (B0.out.trans (hb.mono B0.out.size))
  have HH := hide hH
  have TT := hide hT
  have RC := hide (hd_rc hH.hd)
  have C1 := locate_any W1.heap.size W1 st x (some ⟨gn, 0, none⟩) gn 0 cn (pvZ zs) ns key (hH.nodes hlen HPS.out) (Nat.le_refl _) hs hks T1.out.2.1
  obtain ⟨p, c, hh, hV⟩ := lcV_some st x ns key
  have HV := hide hV
  obtain ⟨k, hk⟩ : ∃ k, k = lcE st x ns key := ⟨_, rfl⟩
  have HK := hide hk
  rw [HV.out, ← HK.out] at C1
  replace C1 := hide C1
  clear hH hT hb HA HX T0 B0 hV hk
  go_wp2_with (refine wpList_mid rfl (.tmp 15) rfl H 0 st x _ rfl RC.out ?_)
  refine Calls.mono C1.out ?_
  rintro e W2 ⟨rfl, hb⟩
  obtain ⟨W3, hW3⟩ : ∃ W3, W3 = (W2.alloc (.cells (plA 0 0 ⟨#[]⟩) 30)).setRow W2.heap.size (plA p c hh) := ⟨_, rfl⟩
  have z2 : Hid ((W2.alloc (.cells (plA 0 0 ⟨#[]⟩) 30)).heap[W2.heap.size]? = some (.cells (plA 0 0 ⟨#[]⟩) 30)) := heap_last _ _
  have P3 : Hid (PlAt W3 W2.heap.size p c hh) := by rw [hW3]; exact setRow_heap _ _ _ _ _ _ z2.out
  have b3 : Below W2.heap.size W2 W3 := by rw [hW3]; exact below_setRow ((Below.refl _ _).alloc (Nat.le_refl _) _) (Nat.le_refl _) _
  have b13 := hb.trans (b3.mono hb.size)
  have X3 := hide (X1.out.below b13)
  have T3 := hide (show TabG W3 ∧ TabD W3 ∧ RTabs W3 from ⟨T1.out.1.below b13, T1.out.2.1.below b13, T1.out.2.2.below b13 rfl⟩)
  have B3 := hide (B1.out.trans (b13.mono B1.out.size))
  have H3 := hide (HH.out.keep b13)
  have K3 := hide (TT.out.keep b13)
  clear hb b3 b13 X1 T1 B1 HH TT RC C1
  go_upto_region 3 with (refine wpList_store_row rfl 30 (.tmp 6) (.tmp 19) rfl W2.heap.size (plA p c hh) rfl rfl 30 _ z2.out infoPl3 rfl (plA_one _ _ _) ?_)
  rw [show (W2.alloc (.cells #[.int .i64 0, .int .i64 0, .string ⟨#[]⟩] 30)).setRow W2.heap.size (plA p c hh) = W3 from hW3.symm]
  clear hW3 z2
  have C2 := rlocate_any N W3 st x ao b o cap pv ns key X3.out.nd X3.out.le hs hks T3.out.2.2 T3.out.1
  rw [HV.out, ← HK.out] at C2
  replace C2 := hide C2
  go_wp2_with (refine wpList_loadCl rfl (.tmp 2) rfl w.heap.size st x _ rfl X3.out.cl ?_)
  refine Calls.mono C2.out ?_
  rintro e W4 ⟨rfl, hb⟩
  obtain ⟨W5, hW5⟩ : ∃ W5, W5 = (W4.alloc (.cells (plA 0 0 ⟨#[]⟩) 30)).setRow W4.heap.size (plA p c hh) := ⟨_, rfl⟩
  have z4 : Hid ((W4.alloc (.cells (plA 0 0 ⟨#[]⟩) 30)).heap[W4.heap.size]? = some (.cells (plA 0 0 ⟨#[]⟩) 30)) := heap_last _ _
  have P5 : Hid (PlAt W5 W4.heap.size p c hh) := by rw [hW5]; exact setRow_heap _ _ _ _ _ _ z4.out
  have b5 : Below W4.heap.size W4 W5 := by rw [hW5]; exact below_setRow ((Below.refl _ _).alloc (Nat.le_refl _) _) (Nat.le_refl _) _
  have b35 := hb.trans (b5.mono hb.size)
  have Q5 := hide (P3.out.below b35)
  have B5 := hide (B3.out.trans (b35.mono B3.out.size))
  have H5 := hide (H3.out.keep b35)
  have K5 := hide (K3.out.keep b35)
  clear hb b5 b35 X3 T3 B3 H3 K3 C2 P3 HV HK
  go_upto_region 4 with (refine wpList_store_row rfl 30 (.tmp 8) (.tmp 25) rfl W4.heap.size (plA p c hh) rfl rfl 30 _ z4.out infoPl3 rfl (plA_one _ _ _) ?_)
  rw [show (W4.alloc (.cells #[.int .i64 0, .int .i64 0, .string ⟨#[]⟩] 30)).setRow W4.heap.size (plA p c hh) = W5 from hW5.symm]
  clear hW5 z4
  have c0 := Q5.out.c0
  have c1 := Q5.out.c1
  have c2 := Q5.out.c2
  have d0 := P5.out.c0
  have d1 := P5.out.c1
  have d2 := P5.out.c2
  have LL := hide (left_any (H + 1) H W5 st x ns vl vp gn cn zs ls zt H5.out hzt K5.out hlen HPS.out)
  clear H5 K5 P5 Q5
  go_wp2_with fail
  refine Calls.mono (num_any _ _) ?_
  rintro e W6 ⟨rfl, rfl⟩
  go_wp2_with fail
  refine Calls.mono LL.out ?_
  rintro e W7 ⟨rfl, hb⟩
  have B7 := hide (B5.out.trans (hb.mono B5.out.size))
  clear hb LL B5 c0 c1 c2 d0 d1 d2
  go_wp2_with fail
  go_ret
  exact ⟨rfl, B7.out⟩
end Go.Proofs.YtioiphonajinmaaDoor
namespace Go.Proofs.YtioiphonajinmaaDoor
open Go.RowKit Go.Lib
theorem gName1 : Tryd.prog.globalNamed Rows.ringLocatesRow.laid[4].1 = some 1 := by kernel_rfl
theorem gName2 : Tryd.prog.globalNamed Rows.ringLocatesRow.laid[5].1 = some 2 := by kernel_rfl
theorem gType1 : (Tryd.prog.globals[1]?).map (·.type) = some 145 := by kernel_rfl
theorem gType2 : (Tryd.prog.globals[2]?).map (·.type) = some 148 := by kernel_rfl
theorem cells48 : Tryd.prog.cellsOf 74 = 1 := by kernel_rfl
theorem cells64 : Tryd.prog.cellsOf 145 = 64 := by kernel_rfl
theorem cells3 : Tryd.prog.cellsOf 3 = 1 := by kernel_rfl
theorem cells4 : Tryd.prog.cellsOf 147 = 4 := by kernel_rfl
theorem cells44 : Tryd.prog.cellsOf 148 = 16 := by kernel_rfl
theorem tab_of {W : World} {name : String} {d : DataW Unit} {k : IntKind} {zs : List Int} {g : Nat} {t e : TypeId} {n : Nat} (h : VarReads Tryd.prog W name d) (hd : d = tabData k zs)
    (hg : Tryd.prog.globalNamed name = some g) (hty : (Tryd.prog.globals[g]?).map (·.type) = some t) (ht : Tryd.prog.underlying t = some (.array n e)) (he : Tryd.prog.underlying e = some (.int k)) (hce : Tryd.prog.cellsOf e = 1) (hct : Tryd.prog.cellsOf t = n) : TabIs Tryd.prog W name k zs := by
  obtain ⟨g', t', cs, fuel, p, hg', ht', hvar, hdd⟩ := h
  obtain rfl := Option.some.inj (hg.symm.trans hg')
  obtain rfl := Option.some.inj (hty.symm.trans ht')
  subst hd
  unfold TabIs
  rw [hvar, ← cells_of_tab ht he hce hct hdd]
def turnRows : List (List Int) := [[7, 12, 17, 22], [5, 9, 14, 20], [4, 11, 16, 23], [6, 10, 15, 21]]
theorem turns_cells {W : World} {fuel : Nat} {cs : List Value} {p : List MemPlace} {sp : Nat → Bool} (h : DataW.trod (fun _ => ()) Tryd.prog W 0 sp false fuel 148 cs = some (.agg (turnRows.map fun r => tabData .i64 r), p)) :
    ∀ j, j < 16 → cs[j]? = some (.int .i64 (trn j : Int)) := by
  cases fuel with
  | zero => simp [DataW.trod] at h
  | succ fuel =>
    simp only [DataW.trod, Tryd.underlying148, cells4, cells44] at h
    split at h
    · obtain ⟨xs, hm, hx⟩ := Option.map_eq_some_iff.1 h
      have hxs : xs.map (·.1) = turnRows.map fun r => (tabData .i64 r : DataW Unit) := by
        have := congrArg Prod.fst hx
        simpa using this
      have row : ∀ i, i < 4 → ∀ r, turnRows[i]? = some r → (cs.drop (i * 4)).take 4 = r.map fun z => Value.int .i64 z := by
        intro i hi r hr
        obtain ⟨b, hb, hf⟩ := mapM_at hm i i (by simp [hi])
        have h2 : (xs.map (·.1))[i]? = some b.1 := by simp [hb]
        rw [hxs, List.getElem?_map, hr] at h2
        have h3 : b.1 = tabData .i64 r := (Option.some.inj h2).symm
        obtain ⟨b1, b2⟩ := b
        subst h3
        exact cells_of_tab Tryd.underlying147 Tryd.underlying3 cells3 cells4 hf
      intro j hj
      have hq := row (j / 4) (by omega)
      have hcell : cs[j]? = ((cs.drop (j / 4 * 4)).take 4)[j % 4]? := by
        rw [List.getElem?_take_of_lt (by omega), List.getElem?_drop]
        congr 1
        omega
      have key : ∃ r, turnRows[j / 4]? = some r ∧ (r.map fun z => Value.int .i64 z)[j % 4]? = some (.int .i64 (trn j : Int)) := by
        clear hq hcell
        rcases (show j = 0 ∨ j = 1 ∨ j = 2 ∨ j = 3 ∨ j = 4 ∨ j = 5 ∨ j = 6 ∨ j = 7 ∨ j = 8 ∨ j = 9 ∨ j = 10 ∨ j = 11 ∨ j = 12 ∨ j = 13 ∨ j = 14 ∨ j = 15 by omega) with rfl | rfl | rfl | rfl | rfl | rfl | rfl | rfl | rfl | rfl | rfl | rfl | rfl | rfl | rfl | rfl <;> exact ⟨_, rfl, rfl⟩
      obtain ⟨r, hr1, hr2⟩ := key
      rw [hcell, hq r hr1]
      exact hr2
    · cases h
theorem tabd_of {W : World} (h : laidMet Tryd.prog Rows.ringLocatesRow.laid W) (h4 : 4 ≤ W.heap.size) : TabD W := by
  have h1 : VarReads Tryd.prog W Rows.ringLocatesRow.laid[4].1 Rows.ringLocatesRow.laid[4].2 := laidMet.reads h (List.getElem_mem _)
  have h2 : VarReads Tryd.prog W Rows.ringLocatesRow.laid[5].1 Rows.ringLocatesRow.laid[5].2 := laidMet.reads h (List.getElem_mem _)
  have t1 := tab_of (zs := SN) h1 rfl gName1 gType1 Tryd.underlying145 Tryd.underlying74 cells48 cells64
  have t2 : TabT 2 W := fun j hj => by
    obtain ⟨g', t', cs, fuel, p, hg', ht', hvar, hdd⟩ := h2
    obtain rfl := Option.some.inj (gName2.symm.trans hg')
    obtain rfl := Option.some.inj (gType2.symm.trans ht')
    have := turns_cells hdd j hj
    rw [World.var?_cell gName2 hvar j]
    simpa using this
  refine ⟨h4, fun j hj => ?_, t2⟩
  · rw [t1.cell gName1 j (by exact hj)]
    have : ∀ m : Fin 64, SN.getD m.1 0 = (sin m.1 : Int) := by decide +kernel
    rw [this ⟨j, hj⟩]
def PW : List Int := [1, 2, 4, 8, 16, 32, 64, 128, 256, 512, 1024, 2048, 4096, 8192, 16384, 32768, 65536, 131072, 262144, 524288, 1048576, 2097152, 4194304, 8388608, 16777216, 33554432, 67108864, 134217728, 268435456, 536870912, 1073741824, 2147483648]
theorem hName0 : Tryd.prog.globalNamed Rows.ringLocatesRow.laid[0].1 = some 4 := by kernel_rfl
theorem hName1 : Tryd.prog.globalNamed Rows.ringLocatesRow.laid[1].1 = some 5 := by kernel_rfl
theorem hName2 : Tryd.prog.globalNamed Rows.ringLocatesRow.laid[2].1 = some 8 := by kernel_rfl
theorem hType0 : (Tryd.prog.globals[4]?).map (·.type) = some 181 := by kernel_rfl
theorem hType1 : (Tryd.prog.globals[5]?).map (·.type) = some 182 := by kernel_rfl
theorem hType2 : (Tryd.prog.globals[8]?).map (·.type) = some 192 := by kernel_rfl
theorem cellsA : Tryd.prog.cellsOf 181 = 64 := by kernel_rfl
theorem cellsB : Tryd.prog.cellsOf 182 = 16 := by kernel_rfl
theorem cellsC : Tryd.prog.cellsOf 192 = 32 := by kernel_rfl
theorem rtabs_of {W : World} (h : laidMet Tryd.prog Rows.ringLocatesRow.laid W) : RTabs W := by
  have h0 : VarReads Tryd.prog W Rows.ringLocatesRow.laid[0].1 Rows.ringLocatesRow.laid[0].2 := laidMet.reads h (List.getElem_mem _)
  have h1 : VarReads Tryd.prog W Rows.ringLocatesRow.laid[1].1 Rows.ringLocatesRow.laid[1].2 := laidMet.reads h (List.getElem_mem _)
  have h2 : VarReads Tryd.prog W Rows.ringLocatesRow.laid[2].1 Rows.ringLocatesRow.laid[2].2 := laidMet.reads h (List.getElem_mem _)
  have t0 := tab_of (zs := SN) h0 rfl hName0 hType0 Tryd.underlying181 Tryd.underlying3 cells3 cellsA
  have t1 := tab_of (zs := TN) h1 rfl hName1 hType1 Tryd.underlying182 Tryd.underlying3 cells3 cellsB
  have t2 := tab_of (zs := PW) h2 rfl hName2 hType2 Tryd.underlying192 Tryd.underlying3 cells3 cellsC
  have eS : ∀ m : Fin 64, SN.getD m.1 0 = (sin m.1 : Int) := by decide +kernel
  have eT : ∀ m : Fin 16, TN.getD m.1 0 = (trn m.1 : Int) := by decide +kernel
  have eP : ∀ m : Fin 32, PW.getD m.1 0 = ((2 ^ m.1 : Nat) : Int) := by decide +kernel
  have a0 : TabRS 4 W := fun j hj => by rw [t0.cell hName0 j (by exact hj), eS ⟨j, hj⟩]
  have a1 : TabT 5 W := fun j hj => by rw [t1.cell hName1 j (by exact hj), eT ⟨j, hj⟩]
  have a2 : TabRP 8 W := fun j hj => by rw [t2.cell hName2 j (by exact hj), eP ⟨j, hj⟩]
  exact ⟨a0, a1, a2, World.block_lt_of_cell? W _ (a0 0 (by omega)), World.block_lt_of_cell? W _ (a1 0 (by omega)), World.block_lt_of_cell? W _ (a2 0 (by omega))⟩
theorem wName : Tryd.prog.globalNamed Rows.ringLocatesRow.laid[3].1 = some 3 := by kernel_rfl
theorem wType : (Tryd.prog.globals[3]?).map (·.type) = some 69 := by kernel_rfl
theorem cellsV21 : Tryd.prog.cellsOf 69 = 21 := by kernel_rfl
def TG : List Int := [16, 16, 16, 8, 4096, 65536, 1024, 65536, 64, 1024, 1024, 1073741824, 1073741824, 1073741824, 1024, 64, 65536, 1024, 64, 1024, 7]
theorem hiS_at (j : Nat) : TG.getD j 0 = hiS j := rfl
theorem tabg_of {W : World} (h : laidMet Tryd.prog Rows.ringLocatesRow.laid W) : TabG W := by
  have h0 : VarReads Tryd.prog W Rows.ringLocatesRow.laid[3].1 Rows.ringLocatesRow.laid[3].2 := laidMet.reads h (List.getElem_mem _)
  have t0 := tab_of (zs := TG) h0 rfl wName wType Tryd.underlying69 Tryd.underlying3 cells3 cellsV21
  intro j hj
  rw [t0.cell wName j (by exact hj)]
  exact congrArg (fun z => some (Value.int .i64 z)) (hiS_at j)
theorem four_of {W : World} (h : TabG W) : 4 ≤ W.heap.size := by
  have := World.block_lt_of_cell? W _ (h 0 (by omega))
  exact this
end Go.Proofs.YtioiphonajinmaaDoor
