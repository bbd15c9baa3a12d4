import Derived.Test.YtioiphonajinmaaGreatDoorGvCov
import Derived.Test.YtioiphonajinmaaGreatDoorGlLoc
import Derived.Test.YtioiphonajinmaaGreatDoorGGhFiles
namespace Go.Proofs.YtioiphonajinmaaGreatDoor
open Go.RowKit
theorem num_sameK (n : Int) (w : World) : Calls Tryz.prog 5 #[.int .i64 n] w fun e w' => e = .returned (.int .i64 n) ∧ w = w' := num_any n w
theorem PlAt.c0 {w : World} {b : Nat} {p c : Int} {h : ByteArray} (hP : PlAt w b p c h) : w.cell? ⟨b, 0, none⟩ = some (.int .i64 p) := by unfold World.cell?; rw [show w.heap[b]? = _ from hP]; rfl
theorem PlAt.c1 {w : World} {b : Nat} {p c : Int} {h : ByteArray} (hP : PlAt w b p c h) : w.cell? ⟨b, 1, none⟩ = some (.int .i64 c) := by unfold World.cell?; rw [show w.heap[b]? = _ from hP]; rfl
theorem PlAt.c2 {w : World} {b : Nat} {p c : Int} {h : ByteArray} (hP : PlAt w b p c h) : w.cell? ⟨b, 2, none⟩ = some (.string h) := by unfold World.cell?; rw [show w.heap[b]? = _ from hP]; rfl
theorem PlAt.below {w w' : World} {b : Nat} {p c : Int} {h : ByteArray} (hP : PlAt w b p c h) (hb : Below w.heap.size w w') : PlAt w' b p c h := (hb.block _ (blk_lt hP)).trans hP
theorem lc_place {st : ByteArray} {x : Nat → Int} {ns : List ND} {R ch P : Nat} (h : Vd st x ns R ch P) (key : ByteArray) (hk : ¬ (key.size = 0 ∨ 255 < key.size)) : lcE st x ns key = 0 ∧ ∃ pn pc hh, lcV st x ns key = plA ((pn : Nat) : Int) ((pc : Nat) : Int) hh ∧ pn < P ∧ pc < ch ∧ (hh.size : Int) = x 1 := by
  have e := lcE_ok h.he hk
  refine ⟨e, hiF ((md5L key.data.toList).take 4) % ptN ns, hiF (((md5L key.data.toList).drop 4).take 4) % (x 2).toNat, lcH x key, lcV_ok e, ?_, ?_, ?_⟩
  · rw [← h.hP]; exact Nat.mod_lt _ h.p1
  · have : (x 2).toNat = ch := by have := h.hch; omega
    rw [this]
    exact Nat.mod_lt _ h.c1
  · have l1 : 1 ≤ x 1 ∧ x 1 ≤ 16 := sfP_lim (errP_ok h.he).1 1 (by omega)
    unfold lcH
    rw [ByteArray.size_extract, md5L_size]
    omega
/-- a file lies with a node just where that node is the owner of its place -/
theorem lies_iff {st : ByteArray} {x : Nat → Int} {ns : List ND} {R ch P : Nat} (h : Vd st x ns R ch P) {n pn pc k : Nat} {d : Bool} (hp : pn < P) (hc : pc < ch) (hk : k < (owL ns (wk x ns (pn : Int))).length) (hk16 : k < 16) : fnL (pn, k, pc, d) ∈ insA (flL (hdL x ns (n : Int) P) ch) ↔ (owL ns (wk x ns (pn : Int)))[k] = (n : Int) := by
  rw [insA_mem, flL_mem, ← hdL_iff hp hk]
  have hp2 := h.p2
  have hc2 := h.c2
  constructor
  · rintro ⟨s, hs, c, d', hc', e⟩
    have hs2 := h.mem _ s hs
    have := fnL_inj (f := (pn, k, pc, d)) (g := (s.1, s.2, c, d')) ⟨by show pn < 64; omega, hk16, by show pc < 16; omega⟩ ⟨hs2.1, hs2.2, by show c < 16; omega⟩ e
    injection this with e1 this
    injection this with e2 _
    rw [e1, e2]
    exact hs
  · intro hs
    exact ⟨(pn, k), hs, pc, d, hc, rfl⟩
set_option maxHeartbeats 16000000 in
set_option maxRecDepth 100000 in
set_option linter.unusedSimpArgs false in
set_option linter.unusedVariables false in
theorem kept_any (N : Nat) (w : World) (st : ByteArray) (x : Nat → Int) (ao : Option Addr) (b cap : Nat) (pv : Nat → Value) (ns : List ND) (R ch P : Nat) (key : ByteArray) (h : NsAt N w ao b 0 pv ns) (hN : N ≤ w.heap.size) (hV : Vd st x ns R ch P) (hks : key.size ≤ 9223372036854775807) (hD : TabD w) :
    Calls Tryz.prog 15 #[.agg (clA st x (.slice ao ns.length cap)), .string key] w fun e w' => e = .returned (.bool true) ∧ Below w.heap.size w w' := by
  obtain ⟨W0, hW0, hX⟩ := boxed st x cap h hN
  have HX := hide (hX.stand hN)
  have B0 := hide hX.bel
  have D0 := hide (hD.below hX.bel)
  have VV := hide hV
  have r1 := hV.r1
  have r2 := hV.r2
  have c1 := hV.c1
  have c2 := hV.c2
  have p1 := hV.p1
  have p2 := hV.p2
  have n1 := hV.n1
  have n2 := hV.n2
  clear hX h hD hV
  have NA : Hid (∀ Y, Below W0.heap.size W0 Y → ClAt Y w.heap.size st x (.slice ao ns.length cap) ∧ NsAt N Y ao b 0 pv ns ∧ N ≤ Y.heap.size) := fun Y hY => ⟨HX.out.cl.below hY, HX.out.nd.below (hY.mono HX.out.le), Nat.le_trans HX.out.le hY.size⟩
  have TW := hide (twin_any N W0 st x ao b 0 cap pv ns HX.out.nd HX.out.le)
  go_enter Tryz.func15, Tryz.ntmps15
  go_upto_region 1 with fail
  rw [← hW0]
  clear hW0
  go_wp2_with (refine wpList_loadCl rfl (.tmp 2) rfl w.heap.size st x _ rfl HX.out.cl ?_)
  refine Calls.mono TW.out ?_
  rintro e W1 ⟨vl2, zs2, rfl, hz2, hT2, hb⟩
  obtain ⟨ao2, nb2, cap2, pv2, hvl, hns2⟩ := tw_read hT2 hz2 n2 (by rw [← VV.out.hP]; exact p2)
  subst hvl
  have B1 : Hid (Below W0.heap.size W0 W1) := hb
  have LO := locate_any W1.heap.size W1 st x ao2 nb2 0 cap2 pv2 ns key hns2 (Nat.le_refl _) (by have := VV.out.s; omega) hks (D0.out.below hb)
  clear hb hT2 hns2 TW hz2
  by_cases hkk : key.size = 0 ∨ 255 < key.size
  case pos =>
    have hE2 : lcE st x ns key = 32 := lcE_key VV.out.he hkk
    have hV2 : lcV st x ns key = plA 0 0 ⟨#[]⟩ := lcV_bad (by rw [hE2]; omega)
    rw [hE2, hV2] at LO
    replace LO := hide LO
    go_wp2_with fail
    refine Calls.mono LO.out ?_
    rintro e W2 ⟨rfl, hb⟩
    obtain ⟨W3, hW3⟩ : ∃ W3, W3 = (W2.alloc (.cells (plA 0 0 ⟨#[]⟩) 73)).setRow W2.heap.size (plA 0 0 ⟨#[]⟩) := ⟨_, rfl⟩
    have z2 : Hid ((W2.alloc (.cells (plA 0 0 ⟨#[]⟩) 73)).heap[W2.heap.size]? = some (.cells (plA 0 0 ⟨#[]⟩) 73)) := heap_last _ _
    have b3 : Below W2.heap.size W2 W3 := by rw [hW3]; exact below_setRow ((Below.refl _ _).alloc (Nat.le_refl _) _) (Nat.le_refl _) _
    have B3 : Hid (Below w.heap.size w W3) := B0.out.trans ((B1.out.trans ((hb.trans (b3.mono hb.size)).mono B1.out.size)).mono B0.out.size)
    clear hb b3 LO
    go_upto_region 2 with (refine wpList_store_row rfl 73 (.tmp 5) (.tmp 22) rfl W2.heap.size (plA 0 0 ⟨#[]⟩) rfl rfl 73 _ z2.out infoPl3 rfl (plA_one _ _ _) ?_)
    rw [show (W2.alloc (.cells #[.int .i64 0, .int .i64 0, .string ⟨#[]⟩] 73)).setRow W2.heap.size (plA 0 0 ⟨#[]⟩) = W3 from hW3.symm]
    clear hW3 z2
    by_cases hk0 : key.size = 0
    · have hke : key = ⟨#[]⟩ := ByteArray.ext (Array.toList_inj.1 (by rw [List.length_eq_zero_iff.1 (show key.data.toList.length = 0 by rw [size_data]; exact hk0)]))
      subst hke
      go_wp2_with (go_at_call 5; refine Calls.mono (num_any _ _) ?_; rintro e w' ⟨rfl, rfl⟩)
      go_ret
      exact ⟨rfl, B3.out⟩
    · have hne : key.toList.isEmpty = false := by
        rw [toList_data]
        cases hd : key.data.toList with
        | nil => exact absurd (by rw [← size_data, hd]; rfl) hk0
        | cons a b => rfl
      have hk1' : (255 : Int) < (key.size : Int) := by omega
      go_wp2_with (go_at_call 5; refine Calls.mono (num_any _ _) ?_; rintro e w' ⟨rfl, rfl⟩)
      go_ret
      exact ⟨rfl, B3.out⟩
  case neg =>
    obtain ⟨hE2, pn, pc, hh, hV2, hpn, hpc, hwd⟩ := lc_place VV.out key hkk
    have HWd := hide hwd
    rw [hE2, hV2] at LO
    replace LO := hide LO
    have hne : key.toList.isEmpty = false := by
      rw [toList_data]
      cases hd : key.data.toList with
      | nil => exact absurd (by rw [← size_data, hd]; rfl) (fun e => hkk (Or.inl e))
      | cons a b => rfl
    have hk1' : ¬ (255 : Int) < (key.size : Int) := by omega
    clear hE2 hV2 hwd
    go_wp2_with fail
    refine Calls.mono LO.out ?_
    rintro e W2 ⟨rfl, hb⟩
    obtain ⟨W3, hW3⟩ : ∃ W3, W3 = (W2.alloc (.cells (plA 0 0 ⟨#[]⟩) 73)).setRow W2.heap.size (plA (pn : Int) (pc : Int) hh) := ⟨_, rfl⟩
    have z2 : Hid ((W2.alloc (.cells (plA 0 0 ⟨#[]⟩) 73)).heap[W2.heap.size]? = some (.cells (plA 0 0 ⟨#[]⟩) 73)) := heap_last _ _
    have P3 : Hid (PlAt W3 W2.heap.size (pn : Int) (pc : Int) hh) := by rw [hW3]; exact setRow_heap _ _ _ _ _ _ z2.out
    have b3 : Below W2.heap.size W2 W3 := by rw [hW3]; exact below_setRow ((Below.refl _ _).alloc (Nat.le_refl _) _) (Nat.le_refl _) _
    have B3 : Hid (Below W0.heap.size W0 W3) := B1.out.trans ((hb.trans (b3.mono hb.size)).mono B1.out.size)
    clear hb b3 LO B1
    go_upto_region 2 with (refine wpList_store_row rfl 73 (.tmp 5) (.tmp 22) rfl W2.heap.size (plA (pn : Int) (pc : Int) hh) rfl rfl 73 _ z2.out infoPl3 rfl (plA_one _ _ _) ?_)
    rw [show (W2.alloc (.cells #[.int .i64 0, .int .i64 0, .string ⟨#[]⟩] 73)).setRow W2.heap.size (plA (pn : Int) (pc : Int) hh) = W3 from hW3.symm]
    clear hW3 z2
    generalize W2.heap.size = pB at *
    go_upto_region 4 with fail
    clear hne hk1'
    have PA : Hid (∀ Y, Below W0.heap.size W0 Y → Calls Tryz.prog 10 #[.agg (clA st x (.slice ao ns.length cap))] Y fun e w' => e = .returned (.int .i64 (P : Int)) ∧ Below Y.heap.size Y w') := fun Y hY => by
      have := lparts_any N Y st x ao b 0 cap pv ns (NA.out Y hY).2.1 (NA.out Y hY).2.2 n2
      rw [← VV.out.hP] at this
      exact this
    have S3 : Hid (ClAt W3 w.heap.size st x (.slice ao ns.length cap) ∧ PlAt W3 pB (pn : Int) (pc : Int) hh) := ⟨(NA.out _ B3.out).1, P3.out⟩
    refine wp_region_held_drew (S := fun Y => ClAt Y w.heap.size st x (.slice ao ns.length cap) ∧ PlAt Y pB (pn : Int) (pc : Int) hh) (by kernel_rfl) S3.out (fun hHeld => ?_)
    refine wpAnyH_take (i := 0) (v := (.int .i64 0)) rfl (by kernel_rfl) (by kernel_rfl) (by kernel_rfl) (fun _ _ _ h => h) (Or.inl ⟨by kernel_rfl, ?_⟩) (by assumption) ?_
    · intro w' hSw
      (try dsimp only at hSw)
      exact exec_move (.tmp 6) rfl (by kernel_rfl)
    (try simp only [Act.put, List.getElem_toArray, List.getElem_cons_zero, List.getElem_cons_succ, List.setIfInBounds_toArray, List.set_cons_zero, List.set_cons_succ])
    refine wpAnyH_callTake (i := 1) (v := (.int .i64 0)) rfl (by kernel_rfl) (by kernel_rfl) (by kernel_rfl) (fun _ _ _ h => h) (by kernel_rfl) 5 #[.int .i64 0] (fun w' => by kernel_rfl) (fun w' hSw => num_sameK 0 w') (by assumption) ?_
    (try simp only [Act.put, List.getElem_toArray, List.getElem_cons_zero, List.getElem_cons_succ, List.setIfInBounds_toArray, List.set_cons_zero, List.set_cons_succ])
    refine wpAnyH_take (i := 2) (v := (.bool false)) rfl (by kernel_rfl) (by kernel_rfl) (by kernel_rfl) (fun _ _ _ h => h) (Or.inl ⟨by kernel_rfl, ?_⟩) (by assumption) ?_
    · intro w' hSw
      (try dsimp only at hSw)
      exact exec_neqi (n := 0) (.tmp 35) (.const (.int .i64 0)) rfl (by kernel_rfl) (by kernel_rfl)
    (try simp only [Act.put, List.getElem_toArray, List.getElem_cons_zero, List.getElem_cons_succ, List.setIfInBounds_toArray, List.set_cons_zero, List.set_cons_succ])
    refine wpAnyH_take (i := 3) (v := (.bool false)) rfl (by kernel_rfl) (by kernel_rfl) (by kernel_rfl) (fun _ _ _ h => h) (Or.inl ⟨by kernel_rfl, ?_⟩) (by assumption) ?_
    · intro w' hSw
      (try dsimp only at hSw)
      exact exec_move (.tmp 36) rfl (by kernel_rfl)
    (try simp only [Act.put, List.getElem_toArray, List.getElem_cons_zero, List.getElem_cons_succ, List.setIfInBounds_toArray, List.set_cons_zero, List.set_cons_succ])
    refine wpAnyH_take (i := 4) (v := (.pointer (some ⟨pB, 0, none⟩))) rfl (by kernel_rfl) (by kernel_rfl) (by kernel_rfl) (fun _ _ _ h => h) (Or.inl ⟨by kernel_rfl, ?_⟩) (by assumption) ?_
    · intro w' hSw
      (try dsimp only at hSw)
      go_simp
    (try simp only [Act.put, List.getElem_toArray, List.getElem_cons_zero, List.getElem_cons_succ, List.setIfInBounds_toArray, List.set_cons_zero, List.set_cons_succ])
    refine wpAnyH_take (i := 5) (v := (.int .i64 (pn : Int))) rfl (by kernel_rfl) (by kernel_rfl) (by kernel_rfl) (fun _ _ _ h => h) (Or.inl ⟨by kernel_rfl, ?_⟩) (by assumption) ?_
    · intro w' hSw
      (try dsimp only at hSw)
      exact exec_ldi (.tmp 38) rfl (by kernel_rfl) hSw.2.c0
    (try simp only [Act.put, List.getElem_toArray, List.getElem_cons_zero, List.getElem_cons_succ, List.setIfInBounds_toArray, List.set_cons_zero, List.set_cons_succ])
    refine wpAnyH_take (i := 6) (v := (.bool false)) rfl (by kernel_rfl) (by kernel_rfl) (by kernel_rfl) (fun _ _ _ h => h) (Or.inl ⟨by kernel_rfl, ?_⟩) (by assumption) ?_
    · intro w' hSw
      (try dsimp only at hSw)
      exact exec_lssF (a := (pn : Int)) (b := 0) (.tmp 39) (.const (.int .i64 0)) rfl (by kernel_rfl) (by kernel_rfl) (by omega)
    (try simp only [Act.put, List.getElem_toArray, List.getElem_cons_zero, List.getElem_cons_succ, List.setIfInBounds_toArray, List.set_cons_zero, List.set_cons_succ])
    refine wpAnyH_take (i := 7) (v := (.bool false)) rfl (by kernel_rfl) (by kernel_rfl) (by kernel_rfl) (fun _ _ _ h => h) (Or.inl ⟨by kernel_rfl, ?_⟩) (by assumption) ?_
    · intro w' hSw
      (try dsimp only at hSw)
      exact exec_pickf (.tmp 37) (.const (.bool true)) (.tmp 40) rfl (by kernel_rfl) (by kernel_rfl)
    (try simp only [Act.put, List.getElem_toArray, List.getElem_cons_zero, List.getElem_cons_succ, List.setIfInBounds_toArray, List.set_cons_zero, List.set_cons_succ])
    refine wpAnyH_take (i := 8) (v := (.bool false)) rfl (by kernel_rfl) (by kernel_rfl) (by kernel_rfl) (fun _ _ _ h => h) (Or.inl ⟨by kernel_rfl, ?_⟩) (by assumption) ?_
    · intro w' hSw
      (try dsimp only at hSw)
      exact exec_move (.tmp 41) rfl (by kernel_rfl)
    (try simp only [Act.put, List.getElem_toArray, List.getElem_cons_zero, List.getElem_cons_succ, List.setIfInBounds_toArray, List.set_cons_zero, List.set_cons_succ])
    refine wpAnyH_take (i := 9) (v := (.pointer (some ⟨pB, 0, none⟩))) rfl (by kernel_rfl) (by kernel_rfl) (by kernel_rfl) (fun _ _ _ h => h) (Or.inl ⟨by kernel_rfl, ?_⟩) (by assumption) ?_
    · intro w' hSw
      (try dsimp only at hSw)
      go_simp
    (try simp only [Act.put, List.getElem_toArray, List.getElem_cons_zero, List.getElem_cons_succ, List.setIfInBounds_toArray, List.set_cons_zero, List.set_cons_succ])
    refine wpAnyH_take (i := 10) (v := (.int .i64 (pn : Int))) rfl (by kernel_rfl) (by kernel_rfl) (by kernel_rfl) (fun _ _ _ h => h) (Or.inl ⟨by kernel_rfl, ?_⟩) (by assumption) ?_
    · intro w' hSw
      (try dsimp only at hSw)
      exact exec_ldi (.tmp 43) rfl (by kernel_rfl) hSw.2.c0
    (try simp only [Act.put, List.getElem_toArray, List.getElem_cons_zero, List.getElem_cons_succ, List.setIfInBounds_toArray, List.set_cons_zero, List.set_cons_succ])
    refine wpAnyH_take (i := 11) (v := (.agg (clA st x (.slice ao ns.length cap)))) rfl (by kernel_rfl) (by kernel_rfl) (by kernel_rfl) (fun _ _ _ h => h) (Or.inl ⟨by kernel_rfl, ?_⟩) (by assumption) ?_
    · intro w' hSw
      (try dsimp only at hSw)
      exact exec_loadCl (.tmp 2) rfl (by kernel_rfl) hSw.1
    (try simp only [Act.put, List.getElem_toArray, List.getElem_cons_zero, List.getElem_cons_succ, List.setIfInBounds_toArray, List.set_cons_zero, List.set_cons_succ])
    refine wpAnyH_ready (rs := [12]) (by kernel_rfl) (by simp) ?_
    refine AllReadyH.cons rfl (fun K hK => ?_) AllReadyH.nil
    go_simp
    refine Calls.mono (PA.out _ B3.out.drew) ?_
    rintro e W4 ⟨rfl, hb⟩
    have b4 : Below W3.heap.size W3 W4 := (Below.refl _ W3).drew.trans hb
    have B4 : Hid (Below W0.heap.size W0 W4) := B3.out.trans (b4.mono B3.out.size)
    have S4 : Hid (ClAt W4 w.heap.size st x (.slice ao ns.length cap) ∧ PlAt W4 pB (pn : Int) (pc : Int) hh) := ⟨S3.out.1.below b4, S3.out.2.below b4⟩
    clear hb b4 S3 P3 B3
    refine hK.out _ _ (S4.out) (fun hHeld => ?_)
    clear hK
    (try simp only [Act.put, List.setIfInBounds_toArray, List.set_cons_zero, List.set_cons_succ])
    refine wpAnyH_take (i := 13) (v := (.bool false)) rfl (by kernel_rfl) (by kernel_rfl) (by kernel_rfl) (fun _ _ _ h => h) (Or.inl ⟨by kernel_rfl, ?_⟩) (by assumption) ?_
    · intro w' hSw
      (try dsimp only at hSw)
      exact exec_geqF (a := (pn : Int)) (b := (P : Int)) (.tmp 44) (.tmp 46) rfl (by kernel_rfl) (by kernel_rfl) (by omega)
    (try simp only [Act.put, List.getElem_toArray, List.getElem_cons_zero, List.getElem_cons_succ, List.setIfInBounds_toArray, List.set_cons_zero, List.set_cons_succ])
    refine wpAnyH_take (i := 14) (v := (.bool false)) rfl (by kernel_rfl) (by kernel_rfl) (by kernel_rfl) (fun _ _ _ h => h) (Or.inl ⟨by kernel_rfl, ?_⟩) (by assumption) ?_
    · intro w' hSw
      (try dsimp only at hSw)
      exact exec_pickf (.tmp 42) (.const (.bool true)) (.tmp 47) rfl (by kernel_rfl) (by kernel_rfl)
    (try simp only [Act.put, List.getElem_toArray, List.getElem_cons_zero, List.getElem_cons_succ, List.setIfInBounds_toArray, List.set_cons_zero, List.set_cons_succ])
    refine wpAnyH_take (i := 15) (v := (.bool false)) rfl (by kernel_rfl) (by kernel_rfl) (by kernel_rfl) (fun _ _ _ h => h) (Or.inl ⟨by kernel_rfl, ?_⟩) (by assumption) ?_
    · intro w' hSw
      (try dsimp only at hSw)
      exact exec_move (.tmp 48) rfl (by kernel_rfl)
    (try simp only [Act.put, List.getElem_toArray, List.getElem_cons_zero, List.getElem_cons_succ, List.setIfInBounds_toArray, List.set_cons_zero, List.set_cons_succ])
    refine wpAnyH_take (i := 16) (v := (.pointer (some ⟨pB, 1, none⟩))) rfl (by kernel_rfl) (by kernel_rfl) (by kernel_rfl) (fun _ _ _ h => h) (Or.inl ⟨by kernel_rfl, ?_⟩) (by assumption) ?_
    · intro w' hSw
      (try dsimp only at hSw)
      go_simp
    (try simp only [Act.put, List.getElem_toArray, List.getElem_cons_zero, List.getElem_cons_succ, List.setIfInBounds_toArray, List.set_cons_zero, List.set_cons_succ])
    refine wpAnyH_take (i := 17) (v := (.int .i64 (pc : Int))) rfl (by kernel_rfl) (by kernel_rfl) (by kernel_rfl) (fun _ _ _ h => h) (Or.inl ⟨by kernel_rfl, ?_⟩) (by assumption) ?_
    · intro w' hSw
      (try dsimp only at hSw)
      exact exec_ldi (.tmp 50) rfl (by kernel_rfl) hSw.2.c1
    (try simp only [Act.put, List.getElem_toArray, List.getElem_cons_zero, List.getElem_cons_succ, List.setIfInBounds_toArray, List.set_cons_zero, List.set_cons_succ])
    refine wpAnyH_take (i := 18) (v := (.bool false)) rfl (by kernel_rfl) (by kernel_rfl) (by kernel_rfl) (fun _ _ _ h => h) (Or.inl ⟨by kernel_rfl, ?_⟩) (by assumption) ?_
    · intro w' hSw
      (try dsimp only at hSw)
      exact exec_lssF (a := (pc : Int)) (b := 0) (.tmp 51) (.const (.int .i64 0)) rfl (by kernel_rfl) (by kernel_rfl) (by omega)
    (try simp only [Act.put, List.getElem_toArray, List.getElem_cons_zero, List.getElem_cons_succ, List.setIfInBounds_toArray, List.set_cons_zero, List.set_cons_succ])
    refine wpAnyH_take (i := 19) (v := (.bool false)) rfl (by kernel_rfl) (by kernel_rfl) (by kernel_rfl) (fun _ _ _ h => h) (Or.inl ⟨by kernel_rfl, ?_⟩) (by assumption) ?_
    · intro w' hSw
      (try dsimp only at hSw)
      exact exec_pickf (.tmp 49) (.const (.bool true)) (.tmp 52) rfl (by kernel_rfl) (by kernel_rfl)
    (try simp only [Act.put, List.getElem_toArray, List.getElem_cons_zero, List.getElem_cons_succ, List.setIfInBounds_toArray, List.set_cons_zero, List.set_cons_succ])
    refine wpAnyH_take (i := 20) (v := (.bool false)) rfl (by kernel_rfl) (by kernel_rfl) (by kernel_rfl) (fun _ _ _ h => h) (Or.inl ⟨by kernel_rfl, ?_⟩) (by assumption) ?_
    · intro w' hSw
      (try dsimp only at hSw)
      exact exec_move (.tmp 53) rfl (by kernel_rfl)
    (try simp only [Act.put, List.getElem_toArray, List.getElem_cons_zero, List.getElem_cons_succ, List.setIfInBounds_toArray, List.set_cons_zero, List.set_cons_succ])
    refine wpAnyH_take (i := 21) (v := (.pointer (some ⟨pB, 1, none⟩))) rfl (by kernel_rfl) (by kernel_rfl) (by kernel_rfl) (fun _ _ _ h => h) (Or.inl ⟨by kernel_rfl, ?_⟩) (by assumption) ?_
    · intro w' hSw
      (try dsimp only at hSw)
      go_simp
    (try simp only [Act.put, List.getElem_toArray, List.getElem_cons_zero, List.getElem_cons_succ, List.setIfInBounds_toArray, List.set_cons_zero, List.set_cons_succ])
    refine wpAnyH_take (i := 22) (v := (.int .i64 (pc : Int))) rfl (by kernel_rfl) (by kernel_rfl) (by kernel_rfl) (fun _ _ _ h => h) (Or.inl ⟨by kernel_rfl, ?_⟩) (by assumption) ?_
    · intro w' hSw
      (try dsimp only at hSw)
      exact exec_ldi (.tmp 55) rfl (by kernel_rfl) hSw.2.c1
    (try simp only [Act.put, List.getElem_toArray, List.getElem_cons_zero, List.getElem_cons_succ, List.setIfInBounds_toArray, List.set_cons_zero, List.set_cons_succ])
    refine wpAnyH_take (i := 23) (v := (.pointer (some ⟨w.heap.size, 3, none⟩))) rfl (by kernel_rfl) (by kernel_rfl) (by kernel_rfl) (fun _ _ _ h => h) (Or.inl ⟨by kernel_rfl, ?_⟩) (by assumption) ?_
    · intro w' hSw
      (try dsimp only at hSw)
      go_simp
    (try simp only [Act.put, List.getElem_toArray, List.getElem_cons_zero, List.getElem_cons_succ, List.setIfInBounds_toArray, List.set_cons_zero, List.set_cons_succ])
    refine wpAnyH_take (i := 24) (v := (.int .i64 (ch : Int))) rfl (by kernel_rfl) (by kernel_rfl) (by kernel_rfl) (fun _ _ _ h => h) (Or.inl ⟨by kernel_rfl, ?_⟩) (by assumption) ?_
    · intro w' hSw
      (try dsimp only at hSw)
      (have q := ClAt.x2 hSw.1; rw [← VV.out.hch] at q; exact exec_ldi (.tmp 57) rfl (by kernel_rfl) q)
    (try simp only [Act.put, List.getElem_toArray, List.getElem_cons_zero, List.getElem_cons_succ, List.setIfInBounds_toArray, List.set_cons_zero, List.set_cons_succ])
    refine wpAnyH_take (i := 25) (v := (.bool false)) rfl (by kernel_rfl) (by kernel_rfl) (by kernel_rfl) (fun _ _ _ h => h) (Or.inl ⟨by kernel_rfl, ?_⟩) (by assumption) ?_
    · intro w' hSw
      (try dsimp only at hSw)
      exact exec_geqF (a := (pc : Int)) (b := (ch : Int)) (.tmp 56) (.tmp 58) rfl (by kernel_rfl) (by kernel_rfl) (by omega)
    (try simp only [Act.put, List.getElem_toArray, List.getElem_cons_zero, List.getElem_cons_succ, List.setIfInBounds_toArray, List.set_cons_zero, List.set_cons_succ])
    refine wpAnyH_take (i := 26) (v := (.bool false)) rfl (by kernel_rfl) (by kernel_rfl) (by kernel_rfl) (fun _ _ _ h => h) (Or.inl ⟨by kernel_rfl, ?_⟩) (by assumption) ?_
    · intro w' hSw
      (try dsimp only at hSw)
      exact exec_pickf (.tmp 54) (.const (.bool true)) (.tmp 59) rfl (by kernel_rfl) (by kernel_rfl)
    (try simp only [Act.put, List.getElem_toArray, List.getElem_cons_zero, List.getElem_cons_succ, List.setIfInBounds_toArray, List.set_cons_zero, List.set_cons_succ])
    refine wpAnyH_take (i := 27) (v := (.bool false)) rfl (by kernel_rfl) (by kernel_rfl) (by kernel_rfl) (fun _ _ _ h => h) (Or.inl ⟨by kernel_rfl, ?_⟩) (by assumption) ?_
    · intro w' hSw
      (try dsimp only at hSw)
      exact exec_move (.tmp 60) rfl (by kernel_rfl)
    (try simp only [Act.put, List.getElem_toArray, List.getElem_cons_zero, List.getElem_cons_succ, List.setIfInBounds_toArray, List.set_cons_zero, List.set_cons_succ])
    refine wpAnyH_take (i := 28) (v := (.pointer (some ⟨pB, 2, none⟩))) rfl (by kernel_rfl) (by kernel_rfl) (by kernel_rfl) (fun _ _ _ h => h) (Or.inl ⟨by kernel_rfl, ?_⟩) (by assumption) ?_
    · intro w' hSw
      (try dsimp only at hSw)
      go_simp
    (try simp only [Act.put, List.getElem_toArray, List.getElem_cons_zero, List.getElem_cons_succ, List.setIfInBounds_toArray, List.set_cons_zero, List.set_cons_succ])
    refine wpAnyH_take (i := 29) (v := (.string hh)) rfl (by kernel_rfl) (by kernel_rfl) (by kernel_rfl) (fun _ _ _ h => h) (Or.inl ⟨by kernel_rfl, ?_⟩) (by assumption) ?_
    · intro w' hSw
      (try dsimp only at hSw)
      exact exec_ldSv (.tmp 62) rfl (by kernel_rfl) hSw.2.c2
    (try simp only [Act.put, List.getElem_toArray, List.getElem_cons_zero, List.getElem_cons_succ, List.setIfInBounds_toArray, List.set_cons_zero, List.set_cons_succ])
    refine wpAnyH_take (i := 30) (v := (.int .i64 (hh.size : Int))) rfl (by kernel_rfl) (by kernel_rfl) (by kernel_rfl) (fun _ _ _ h => h) (Or.inl ⟨by kernel_rfl, ?_⟩) (by assumption) ?_
    · intro w' hSw
      (try dsimp only at hSw)
      exact exec_lenS rfl (.tmp 63) rfl (by kernel_rfl)
    (try simp only [Act.put, List.getElem_toArray, List.getElem_cons_zero, List.getElem_cons_succ, List.setIfInBounds_toArray, List.set_cons_zero, List.set_cons_succ])
    refine wpAnyH_take (i := 31) (v := (.pointer (some ⟨w.heap.size, 2, none⟩))) rfl (by kernel_rfl) (by kernel_rfl) (by kernel_rfl) (fun _ _ _ h => h) (Or.inl ⟨by kernel_rfl, ?_⟩) (by assumption) ?_
    · intro w' hSw
      (try dsimp only at hSw)
      go_simp
    (try simp only [Act.put, List.getElem_toArray, List.getElem_cons_zero, List.getElem_cons_succ, List.setIfInBounds_toArray, List.set_cons_zero, List.set_cons_succ])
    refine wpAnyH_take (i := 32) (v := (.int .i64 (hh.size : Int))) rfl (by kernel_rfl) (by kernel_rfl) (by kernel_rfl) (fun _ _ _ h => h) (Or.inl ⟨by kernel_rfl, ?_⟩) (by assumption) ?_
    · intro w' hSw
      (try dsimp only at hSw)
      (have q := ClAt.x1 hSw.1; rw [← HWd.out] at q; exact exec_ldi (.tmp 65) rfl (by kernel_rfl) q)
    (try simp only [Act.put, List.getElem_toArray, List.getElem_cons_zero, List.getElem_cons_succ, List.setIfInBounds_toArray, List.set_cons_zero, List.set_cons_succ])
    refine wpAnyH_take (i := 33) (v := (.bool false)) rfl (by kernel_rfl) (by kernel_rfl) (by kernel_rfl) (fun _ _ _ h => h) (Or.inl ⟨by kernel_rfl, ?_⟩) (by assumption) ?_
    · intro w' hSw
      (try dsimp only at hSw)
      exact exec_neqi (n := (hh.size : Int)) (.tmp 64) (.tmp 66) rfl (by kernel_rfl) (by kernel_rfl)
    (try simp only [Act.put, List.getElem_toArray, List.getElem_cons_zero, List.getElem_cons_succ, List.setIfInBounds_toArray, List.set_cons_zero, List.set_cons_succ])
    refine wpAnyH_take (i := 34) (v := (.bool false)) rfl (by kernel_rfl) (by kernel_rfl) (by kernel_rfl) (fun _ _ _ h => h) (Or.inl ⟨by kernel_rfl, ?_⟩) (by assumption) ?_
    · intro w' hSw
      (try dsimp only at hSw)
      exact exec_pickf (.tmp 61) (.const (.bool true)) (.tmp 67) rfl (by kernel_rfl) (by kernel_rfl)
    (try simp only [Act.put, List.getElem_toArray, List.getElem_cons_zero, List.getElem_cons_succ, List.setIfInBounds_toArray, List.set_cons_zero, List.set_cons_succ])
    refine wpAnyH_done (by kernel_rfl) ?_ _
    clear hHeld PA
    go_upto_region 6 with fail
    obtain ⟨O, hOe⟩ : ∃ O, O = owL ns (wk x ns (pn : Int)) := ⟨_, rfl⟩
    have hOl : O.length = R := by rw [hOe]; exact VV.out.len hpn
    have HOf : Hid (∀ h : 0 < O.length, O[0] = hm ns pn) := by subst hOe; exact fun h => VV.out.first hpn h
    have HOo : Hid (∀ i (hi : i < O.length), ∃ j, ∃ hj : j < ns.length, O[i] = (j : Int) ∧ 0 < ns[j].ps.length) := by subst hOe; exact VV.out.own
    have HOd : Hid (O.Pairwise (· ≠ ·)) := by subst hOe; exact wk_diff x ns (pn : Int)
    have HOI : Hid (∀ n k d (hk : k < O.length), k < 16 → (fnL (pn, k, pc, d) ∈ insA (flL (hdL x ns ((n : Nat) : Int) P) ch) ↔ O[k] = ((n : Nat) : Int))) := by subst hOe; exact fun n k d hk hk2 => lies_iff VV.out hpn hpc hk hk2
    have HOe := hide hOe
    have HOl := hide hOl
    have hO1 : 1 ≤ O.length ∧ O.length ≤ 16 := by omega
    obtain ⟨ow1, ow2⟩ := VV.out.ow hpn
    have HW1 := hide ow1
    have HW2 := hide ow2
    clear hOe hOl ow1 ow2
    have TW : Hid (∀ Y, Below W0.heap.size W0 Y → Calls Tryz.prog 7 #[.agg (clA st x (.slice ao ns.length cap))] Y fun e w' => ∃ ao8 nb8 cap8 pv8, e = .returned (.agg (clA st x (.slice ao8 ns.length cap8))) ∧ NsAt w'.heap.size w' ao8 nb8 0 pv8 ns ∧ Below Y.heap.size Y w') := fun Y hY => (twin_any N Y st x ao b 0 cap pv ns (NA.out Y hY).2.1 (NA.out Y hY).2.2).mono fun e w' ⟨vl, zs, h1, h2, h3, h4⟩ => by
      obtain ⟨ao8, nb8, cap8, pv8, hvl, hns8⟩ := tw_read h3 h2 n2 (by rw [← VV.out.hP]; exact p2)
      exact ⟨ao8, nb8, cap8, pv8, by rw [h1, hvl], hns8, h4⟩
    refine wp_region_held_drew (S := fun Y => ClAt Y w.heap.size st x (.slice ao ns.length cap) ∧ PlAt Y pB (pn : Int) (pc : Int) hh) (by kernel_rfl) S4.out (fun hHeld => ?_)
    refine wpAnyH_take (i := 0) (v := (.agg (clA st x (.slice ao ns.length cap)))) rfl (by kernel_rfl) (by kernel_rfl) (by kernel_rfl) (fun _ _ _ h => h) (Or.inl ⟨by rfl, ?_⟩) (by assumption) ?_
    · intro w' hSw
      (try dsimp only at hSw)
      exact exec_loadCl (.tmp 2) rfl (by kernel_rfl) hSw.1
    (try simp only [Act.put, List.getElem_toArray, List.getElem_cons_zero, List.getElem_cons_succ, List.setIfInBounds_toArray, List.set_cons_zero, List.set_cons_succ])
    refine wpAnyH_take (i := 2) (v := (.pointer (some ⟨pB, 0, none⟩))) rfl (by kernel_rfl) (by kernel_rfl) (by kernel_rfl) (fun _ _ _ h => h) (Or.inl ⟨by rfl, ?_⟩) (by assumption) ?_
    · intro w' hSw
      (try dsimp only at hSw)
      go_simp
    (try simp only [Act.put, List.getElem_toArray, List.getElem_cons_zero, List.getElem_cons_succ, List.setIfInBounds_toArray, List.set_cons_zero, List.set_cons_succ])
    refine wpAnyH_take (i := 3) (v := (.int .i64 (pn : Int))) rfl (by kernel_rfl) (by kernel_rfl) (by kernel_rfl) (fun _ _ _ h => h) (Or.inl ⟨by rfl, ?_⟩) (by assumption) ?_
    · intro w' hSw
      (try dsimp only at hSw)
      exact exec_ldi (.tmp 72) rfl (by kernel_rfl) hSw.2.c0
    (try simp only [Act.put, List.getElem_toArray, List.getElem_cons_zero, List.getElem_cons_succ, List.setIfInBounds_toArray, List.set_cons_zero, List.set_cons_succ])
    refine wpAnyH_ready (rs := [1]) (by kernel_rfl) (by simp) ?_
    refine AllReadyH.cons rfl (fun K hK => ?_) AllReadyH.nil
    go_simp
    refine Calls.mono (TW.out _ B4.out.drew) ?_
    rintro e W5 ⟨ao8, nb8, cap8, pv8, rfl, hns8, hb⟩
    have b5 : Below W4.heap.size W4 W5 := (Below.refl _ W4).drew.trans hb
    have B5 : Hid (Below W0.heap.size W0 W5) := B4.out.trans (b5.mono B4.out.size)
    have S5 : Hid (ClAt W5 w.heap.size st x (.slice ao ns.length cap) ∧ PlAt W5 pB (pn : Int) (pc : Int) hh) := ⟨S4.out.1.below b5, S4.out.2.below b5⟩
    have OW := Owners_any W5.heap.size W5 st x ao8 nb8 0 cap8 pv8 ns (pn : Int) hns8 (Nat.le_refl _) (by have := VV.out.s; omega)
    rw [HW1.out, HW2.out, ← owL_len ns, ← HOe.out] at OW
    replace OW := hide OW
    clear hb b5 hns8 S4 B4 HOe HW1 HW2
    refine hK.out _ _ (S5.out) (fun hHeld => ?_)
    clear hK
    (try simp only [Act.put, List.setIfInBounds_toArray, List.set_cons_zero, List.set_cons_succ])
    refine wpAnyH_ready (rs := [4]) (by kernel_rfl) (by simp) ?_
    refine AllReadyH.cons rfl (fun K hK => ?_) AllReadyH.nil
    go_simp
    refine Calls.mono OW.out ?_
    rintro e W6 ⟨vo, rfl, oo, hb⟩
    obtain ⟨go, co, hvo⟩ := own_some oo (by omega)
    subst hvo
    have O6 := hide oo
    have B6 : Hid (Below W0.heap.size W0 W6) := B5.out.trans (hb.mono B5.out.size)
    have S6 : Hid (ClAt W6 w.heap.size st x (.slice ao ns.length cap) ∧ PlAt W6 pB (pn : Int) (pc : Int) hh) := ⟨S5.out.1.below hb, S5.out.2.below hb⟩
    clear hb oo OW S5 B5
    refine hK.out _ _ (S6.out) (fun hHeld => ?_)
    clear hK
    (try simp only [Act.put, List.setIfInBounds_toArray, List.set_cons_zero, List.set_cons_succ])
    refine wpAnyH_take (i := 5) (v := (.tuple #[.slice (some ⟨go, 0, none⟩) O.length co, .int .i64 0])) rfl (by kernel_rfl) (by kernel_rfl) (by kernel_rfl) (fun _ _ _ h => h) (Or.inl ⟨by rfl, ?_⟩) (by assumption) ?_
    · intro w' hSw
      (try dsimp only at hSw)
      exact exec_move (.tmp 74) rfl (by kernel_rfl)
    (try simp only [Act.put, List.getElem_toArray, List.getElem_cons_zero, List.getElem_cons_succ, List.setIfInBounds_toArray, List.set_cons_zero, List.set_cons_succ])
    refine wpAnyH_take (i := 6) (v := (.slice (some ⟨go, 0, none⟩) O.length co)) rfl (by kernel_rfl) (by kernel_rfl) (by kernel_rfl) (fun _ _ _ h => h) (Or.inl ⟨by rfl, ?_⟩) (by assumption) ?_
    · intro w' hSw
      (try dsimp only at hSw)
      go_simp
    (try simp only [Act.put, List.getElem_toArray, List.getElem_cons_zero, List.getElem_cons_succ, List.setIfInBounds_toArray, List.set_cons_zero, List.set_cons_succ])
    refine wpAnyH_take (i := 7) (v := (.int .i64 0)) rfl (by kernel_rfl) (by kernel_rfl) (by kernel_rfl) (fun _ _ _ h => h) (Or.inl ⟨by rfl, ?_⟩) (by assumption) ?_
    · intro w' hSw
      (try dsimp only at hSw)
      go_simp
    (try simp only [Act.put, List.getElem_toArray, List.getElem_cons_zero, List.getElem_cons_succ, List.setIfInBounds_toArray, List.set_cons_zero, List.set_cons_succ])
    refine wpAnyH_ready (rs := [8]) (by kernel_rfl) (by simp) ?_
    refine AllReadyH.cons rfl (fun K hK => ?_) AllReadyH.nil
    go_simp
    refine hK.out _ _ (S6.out) (fun hHeld => ?_)
    clear hK
    (try simp only [Act.put, List.setIfInBounds_toArray, List.set_cons_zero, List.set_cons_succ])
    refine wpAnyH_ready (rs := [9]) (by kernel_rfl) (by simp) ?_
    refine AllReadyH.cons rfl (fun K hK => ?_) AllReadyH.nil
    go_simp
    refine hK.out _ _ (S6.out) (fun hHeld => ?_)
    clear hK
    (try simp only [Act.put, List.setIfInBounds_toArray, List.set_cons_zero, List.set_cons_succ])
    refine wpAnyH_done (by kernel_rfl) ?_ _
    clear hHeld
    have OD := hide (owned_any N W6 st x ao b 0 cap pv ns pn W5.heap.size (.slice (some ⟨go, 0, none⟩) O.length co) O (NA.out _ B6.out).2.1 (NA.out _ B6.out).2.2 O6.out (by rw [HOl.out]; exact VV.out.hR) (by omega) (by omega) (HOf.out (by omega)) HOd.out HOo.out)
    have p0 := S6.out.2.c0
    go_wp2_with fail
    refine Calls.mono (num_any _ _) ?_
    rintro e w' ⟨rfl, rfl⟩
    go_wp2_with (refine wpList_loadClV (.tmp 2) rfl (by kernel_rfl) w.heap.size st x _ (by kernel_rfl) S6.out.1 ?_)
    refine Calls.mono OD.out ?_
    rintro e W7 ⟨rfl, hb⟩
    have B7 : Hid (Below W0.heap.size W0 W7) := B6.out.trans (hb.mono B6.out.size)
    have OC : Hid (∀ Y, Below W7.heap.size W7 Y → ∀ k (hk : k < O.length), Y.cell? ⟨go, 0 + k, none⟩ = some (.int .i64 O[k])) := fun Y hY k hk => by
      have hb2 := hb.trans (hY.mono hb.size)
      rw [Nat.zero_add, hb2.cell (p := ⟨go, k, none⟩) (own_lt O6.out rfl).2, own_cell O6.out rfl hk]
    have S7 : Hid (∀ Y, Below W7.heap.size W7 Y → ClAt Y w.heap.size st x (.slice ao ns.length cap) ∧ PlAt Y pB (pn : Int) (pc : Int) hh) := fun Y hY => ⟨(S6.out.1.below hb).below hY, (S6.out.2.below hb).below hY⟩
    clear hb OD B6 O6 S6 HOf HOo HOd p0
    go_wp2_with fail
    go_loopw [9] (fun vn wq => ∃ (n : Nat), n ≤ ns.length ∧ vn = .int .i64 (n : Int) ∧ Hid (Below W7.heap.size W7 wq)) (fun vn _ => ns.length - (intOf vn).toNat)
    case atStart => exact ⟨0, Nat.zero_le _, rfl, Below.refl _ _⟩
    case round =>
      obtain ⟨n, hn, rfl, HQ⟩ := hrel
      have nvw := (S7.out _ HQ.out).1.nv
      by_cases hnl : n < ns.length
      case neg =>
        obtain rfl : n = ns.length := by omega
        go_wp2_with fail
        go_ret
        exact ⟨rfl, B0.out.trans ((B7.out.trans (HQ.out.mono B7.out.size)).mono B0.out.size)⟩
      case pos =>
        have hni : (n : Int) < (ns.length : Int) := by omega
        obtain ⟨hd1, _, hd3⟩ := VV.out.hd hnl
        have HD1 := hide hd1
        have HD3 := hide hd3
        have C6 := hide (S7.out _ HQ.out).1
        have HOn : Hid (∀ k d (hk : k < O.length), k < 16 → (fnL (pn, k, pc, d) ∈ insA (flL (hdL x ns (n : Int) P) ch) ↔ O[k] = (n : Int))) := fun k d hk hk2 => HOI.out n k d hk hk2
        clear hd1 hd3
        go_wp2_with (refine wpList_loadCl rfl (.tmp 2) rfl w.heap.size st x _ (by kernel_rfl) C6.out ?_)
        clear nvw
        refine Calls.mono (TW.out _ (B7.out.trans (HQ.out.mono B7.out.size))) ?_
        rintro e W8 ⟨ao8, nb8, cap8, pv8, rfl, hns8, hb⟩
        have B8 : Hid (Below W7.heap.size W7 W8) := HQ.out.trans (hb.mono HQ.out.size)
        have FI := files_any W8.heap.size W8 st x ao8 nb8 0 cap8 pv8 ns (n : Int) hns8 (Nat.le_refl _) (by have := VV.out.s; omega)
        rw [HD1.out, HD3.out] at FI
        have hfL : (insA (flL (hdL x ns (n : Int) P) ch)).length ≤ 2048 := by
          rw [insA_len, flL_len]
          have := Nat.mul_le_mul (show (hdL x ns (n : Int) P).length ≤ 64 by have := hdL_len x ns (n : Int) P; omega) (show 2 * ch ≤ 32 by omega)
          omega
        generalize insA (flL (hdL x ns (n : Int) P) ch) = F at *
        replace FI := hide FI
        clear hb hns8 C6 HQ HD1 HD3
        go_wp2_with fail
        refine Calls.mono FI.out ?_
        rintro e W9 ⟨vf, rfl, of, hb⟩
        obtain ⟨fa, fc, hvf, _⟩ := own_sl of
        subst hvf
        have F9 := hide of
        have B9 : Hid (Below W7.heap.size W7 W9) := B8.out.trans (hb.mono B8.out.size)
        have LI : Hid (∀ Y a, Below W9.heap.size W9 Y → Calls Tryz.prog 33 #[.slice fa F.length fc, .string (strOf a)] Y fun e w' => e = .returned (.bool (decide (a ∈ F))) ∧ Y = w') := fun Y a hY => (lies_any Y W8.heap.size _ F a (own_keep F9.out fun i hi => hY.block i (own_lt F9.out hi).2) (by omega)).mono fun e w' ⟨h1, h2⟩ => ⟨h1, h2.symm⟩
        clear hb of FI B8 F9
        go_wp2_with fail
        refine Calls.mono (num_any _ _) ?_
        rintro e w' ⟨rfl, rfl⟩
        go_wp2_with fail
        go_loopw [12] (fun vk wq => ∃ (k : Nat), k ≤ O.length ∧ vk = .int .i64 (k : Int) ∧ Hid (Below W9.heap.size W9 wq)) (fun vk _ => O.length - (intOf vk).toNat)
        case atStart => exact ⟨0, Nat.zero_le _, rfl, Below.refl _ _⟩
        case round =>
          obtain ⟨k, hk, rfl, HQ⟩ := hrel
          by_cases hkl : k < O.length
          case neg =>
            obtain rfl : k = O.length := by omega
            go_wp2_with fail
            go_roundw
            case rel => exact ⟨n + 1, by omega, by go_num, B9.out.trans (HQ.out.mono B9.out.size)⟩
            case measure => simp [intOf]; omega
          case pos =>
            have hki : (k : Int) < (O.length : Int) := by omega
            have PL : Hid (∀ Y, Below W9.heap.size W9 Y → PlAt Y pB (pn : Int) (pc : Int) hh) := fun Y hY => (S7.out _ (B9.out.trans (hY.mono B9.out.size))).2
            have F1 := hide (fun Y => fileName_ok pn k pc false Y ⟨by show pn < 64; omega, by show k < 16; omega, by show pc < 16; omega⟩)
            have F2 := hide (fun Y => fileName_ok pn k pc true Y ⟨by show pn < 64; omega, by show k < 16; omega, by show pc < 16; omega⟩)
            have HI1 := hide (HOn.out k false hkl (by omega))
            have HI2 := hide (HOn.out k true hkl (by omega))
            have OCk : Hid (∀ Y, Below W9.heap.size W9 Y → Y.cell? ⟨go, 0 + k, none⟩ = some (.int .i64 O[k])) := fun Y hY => OC.out Y (B9.out.trans (hY.mono B9.out.size)) k hkl
            generalize O[k] = ok at *
            generalize fnL (pn, k, pc, false) = n1' at *
            generalize fnL (pn, k, pc, true) = n2' at *
            have q0 := (PL.out _ HQ.out).c0
            have q1 := (PL.out _ HQ.out).c1
            go_wp2_with fail
            refine Calls.mono (F1.out _) ?_
            rintro e W10 ⟨rfl, hb⟩
            have B10 : Hid (Below W9.heap.size W9 W10) := HQ.out.trans (hb.mono HQ.out.size)
            clear hb q0 q1 HQ
            have q0 := (PL.out _ B10.out).c0
            have q1 := (PL.out _ B10.out).c1
            go_wp2_with fail
            refine Calls.mono (F2.out _) ?_
            rintro e W11 ⟨rfl, hb⟩
            have B11 : Hid (Below W9.heap.size W9 W11) := B10.out.trans (hb.mono B10.out.size)
            clear hb q0 q1 B10 F1 F2
            go_upto_region 20 with fail
            have Ln1' : Hid (∀ Y, Below W9.heap.size W9 Y → Calls Tryz.prog 33 #[.slice fa F.length fc, .string (strOf n1')] Y fun e w' => e = .returned (.bool (decide (ok = (n : Int)))) ∧ Y = w') := fun Y hY => by
              have := LI.out Y n1' hY
              rw [decide_eq_decide.2 HI1.out] at this
              exact this
            have Ln2' : Hid (∀ Y, Below W9.heap.size W9 Y → Calls Tryz.prog 33 #[.slice fa F.length fc, .string (strOf n2')] Y fun e w' => e = .returned (.bool (decide (ok = (n : Int)))) ∧ Y = w') := fun Y hY => by
              have := LI.out Y n2' hY
              rw [decide_eq_decide.2 HI2.out] at this
              exact this
            refine wp_region_held_drew (S := fun Y => Below W9.heap.size W9 Y) (by kernel_rfl) B11.out.drew (fun hHeld => ?_)
            refine wpAnyH_take (i := 0) (v := (.int .i64 0)) rfl (by kernel_rfl) (by kernel_rfl) (by kernel_rfl) (fun _ _ _ h => h) (Or.inl ⟨by kernel_rfl, ?_⟩) (by assumption) ?_
            · intro w' hSw
              (try dsimp only at hSw)
              exact exec_move (.tmp 14) rfl (by kernel_rfl)
            (try simp only [Act.put, List.getElem_toArray, List.getElem_cons_zero, List.getElem_cons_succ, List.setIfInBounds_toArray, List.set_cons_zero, List.set_cons_succ])
            refine wpAnyH_callTake (i := 1) (v := (.int .i64 0)) rfl (by kernel_rfl) (by kernel_rfl) (by kernel_rfl) (fun _ _ _ h => h) (by kernel_rfl) 5 #[.int .i64 0] (fun w' => by kernel_rfl) (fun w' hSw => num_sameK 0 w') (by assumption) ?_
            (try simp only [Act.put, List.getElem_toArray, List.getElem_cons_zero, List.getElem_cons_succ, List.setIfInBounds_toArray, List.set_cons_zero, List.set_cons_succ])
            refine wpAnyH_take (i := 2) (v := (.bool false)) rfl (by kernel_rfl) (by kernel_rfl) (by kernel_rfl) (fun _ _ _ h => h) (Or.inl ⟨by kernel_rfl, ?_⟩) (by assumption) ?_
            · intro w' hSw
              (try dsimp only at hSw)
              exact exec_neqi (n := 0) (.tmp 132) (.const (.int .i64 0)) rfl (by kernel_rfl) (by kernel_rfl)
            (try simp only [Act.put, List.getElem_toArray, List.getElem_cons_zero, List.getElem_cons_succ, List.setIfInBounds_toArray, List.set_cons_zero, List.set_cons_succ])
            refine wpAnyH_take (i := 3) (v := (.bool false)) rfl (by kernel_rfl) (by kernel_rfl) (by kernel_rfl) (fun _ _ _ h => h) (Or.inl ⟨by kernel_rfl, ?_⟩) (by assumption) ?_
            · intro w' hSw
              (try dsimp only at hSw)
              exact exec_move (.tmp 133) rfl (by kernel_rfl)
            (try simp only [Act.put, List.getElem_toArray, List.getElem_cons_zero, List.getElem_cons_succ, List.setIfInBounds_toArray, List.set_cons_zero, List.set_cons_succ])
            refine wpAnyH_take (i := 4) (v := (.int .i64 0)) rfl (by kernel_rfl) (by kernel_rfl) (by kernel_rfl) (fun _ _ _ h => h) (Or.inl ⟨by kernel_rfl, ?_⟩) (by assumption) ?_
            · intro w' hSw
              (try dsimp only at hSw)
              exact exec_move (.tmp 16) rfl (by kernel_rfl)
            (try simp only [Act.put, List.getElem_toArray, List.getElem_cons_zero, List.getElem_cons_succ, List.setIfInBounds_toArray, List.set_cons_zero, List.set_cons_succ])
            refine wpAnyH_callTake (i := 5) (v := (.int .i64 0)) rfl (by kernel_rfl) (by kernel_rfl) (by kernel_rfl) (fun _ _ _ h => h) (by kernel_rfl) 5 #[.int .i64 0] (fun w' => by kernel_rfl) (fun w' hSw => num_sameK 0 w') (by assumption) ?_
            (try simp only [Act.put, List.getElem_toArray, List.getElem_cons_zero, List.getElem_cons_succ, List.setIfInBounds_toArray, List.set_cons_zero, List.set_cons_succ])
            refine wpAnyH_take (i := 6) (v := (.bool false)) rfl (by kernel_rfl) (by kernel_rfl) (by kernel_rfl) (fun _ _ _ h => h) (Or.inl ⟨by kernel_rfl, ?_⟩) (by assumption) ?_
            · intro w' hSw
              (try dsimp only at hSw)
              exact exec_neqi (n := 0) (.tmp 136) (.const (.int .i64 0)) rfl (by kernel_rfl) (by kernel_rfl)
            (try simp only [Act.put, List.getElem_toArray, List.getElem_cons_zero, List.getElem_cons_succ, List.setIfInBounds_toArray, List.set_cons_zero, List.set_cons_succ])
            refine wpAnyH_take (i := 7) (v := (.bool false)) rfl (by kernel_rfl) (by kernel_rfl) (by kernel_rfl) (fun _ _ _ h => h) (Or.inl ⟨by kernel_rfl, ?_⟩) (by assumption) ?_
            · intro w' hSw
              (try dsimp only at hSw)
              exact exec_pickf (.tmp 134) (.const (.bool true)) (.tmp 137) rfl (by kernel_rfl) (by kernel_rfl)
            (try simp only [Act.put, List.getElem_toArray, List.getElem_cons_zero, List.getElem_cons_succ, List.setIfInBounds_toArray, List.set_cons_zero, List.set_cons_succ])
            refine wpAnyH_take (i := 8) (v := (.bool false)) rfl (by kernel_rfl) (by kernel_rfl) (by kernel_rfl) (fun _ _ _ h => h) (Or.inl ⟨by kernel_rfl, ?_⟩) (by assumption) ?_
            · intro w' hSw
              (try dsimp only at hSw)
              exact exec_move (.tmp 138) rfl (by kernel_rfl)
            (try simp only [Act.put, List.getElem_toArray, List.getElem_cons_zero, List.getElem_cons_succ, List.setIfInBounds_toArray, List.set_cons_zero, List.set_cons_succ])
            refine wpAnyH_take (i := 9) (v := (.slice fa F.length fc)) rfl (by kernel_rfl) (by kernel_rfl) (by kernel_rfl) (fun _ _ _ h => h) (Or.inl ⟨by kernel_rfl, ?_⟩) (by assumption) ?_
            · intro w' hSw
              (try dsimp only at hSw)
              exact exec_move (.tmp 10) rfl (by kernel_rfl)
            (try simp only [Act.put, List.getElem_toArray, List.getElem_cons_zero, List.getElem_cons_succ, List.setIfInBounds_toArray, List.set_cons_zero, List.set_cons_succ])
            refine wpAnyH_take (i := 10) (v := (.string (strOf n1'))) rfl (by kernel_rfl) (by kernel_rfl) (by kernel_rfl) (fun _ _ _ h => h) (Or.inl ⟨by kernel_rfl, ?_⟩) (by assumption) ?_
            · intro w' hSw
              (try dsimp only at hSw)
              exact exec_move (.tmp 13) rfl (by kernel_rfl)
            (try simp only [Act.put, List.getElem_toArray, List.getElem_cons_zero, List.getElem_cons_succ, List.setIfInBounds_toArray, List.set_cons_zero, List.set_cons_succ])
            refine wpAnyH_callTake (i := 11) (v := (.bool (decide (ok = (n : Int))))) rfl (by kernel_rfl) (by kernel_rfl) (by kernel_rfl) (fun _ _ _ h => h) (by kernel_rfl) 33 #[.slice fa F.length fc, .string (strOf n1')] (fun w' => by kernel_rfl) (fun w' hSw => Ln1'.out w' hSw) (by assumption) ?_
            (try simp only [Act.put, List.getElem_toArray, List.getElem_cons_zero, List.getElem_cons_succ, List.setIfInBounds_toArray, List.set_cons_zero, List.set_cons_succ])
            refine wpAnyH_take (i := 12) (v := (.slice (some ⟨go, 0, none⟩) O.length co)) rfl (by kernel_rfl) (by kernel_rfl) (by kernel_rfl) (fun _ _ _ h => h) (Or.inl ⟨by kernel_rfl, ?_⟩) (by assumption) ?_
            · intro w' hSw
              (try dsimp only at hSw)
              exact exec_move (.tmp 7) rfl (by kernel_rfl)
            (try simp only [Act.put, List.getElem_toArray, List.getElem_cons_zero, List.getElem_cons_succ, List.setIfInBounds_toArray, List.set_cons_zero, List.set_cons_succ])
            refine wpAnyH_take (i := 13) (v := (.int .i64 (k : Int))) rfl (by kernel_rfl) (by kernel_rfl) (by kernel_rfl) (fun _ _ _ h => h) (Or.inl ⟨by kernel_rfl, ?_⟩) (by assumption) ?_
            · intro w' hSw
              (try dsimp only at hSw)
              exact exec_move (.tmp 12) rfl (by kernel_rfl)
            (try simp only [Act.put, List.getElem_toArray, List.getElem_cons_zero, List.getElem_cons_succ, List.setIfInBounds_toArray, List.set_cons_zero, List.set_cons_succ])
            refine wpAnyH_take (i := 14) (v := (.pointer (some ⟨go, 0 + k, none⟩))) rfl (by kernel_rfl) (by kernel_rfl) (by kernel_rfl) (fun _ _ _ h => h) (Or.inl ⟨by kernel_rfl, ?_⟩) (by assumption) ?_
            · intro w' hSw
              (try dsimp only at hSw)
              exact exec_ixI (n := O.length) (c := co) (.tmp 143) (.tmp 144) rfl (by kernel_rfl) (by kernel_rfl) hkl
            (try simp only [Act.put, List.getElem_toArray, List.getElem_cons_zero, List.getElem_cons_succ, List.setIfInBounds_toArray, List.set_cons_zero, List.set_cons_succ])
            refine wpAnyH_take (i := 15) (v := (.int .i64 ok)) rfl (by kernel_rfl) (by kernel_rfl) (by kernel_rfl) (fun _ _ _ h => h) (Or.inl ⟨by kernel_rfl, ?_⟩) (by assumption) ?_
            · intro w' hSw
              (try dsimp only at hSw)
              exact exec_ldi (.tmp 145) rfl (by kernel_rfl) (OCk.out _ hSw)
            (try simp only [Act.put, List.getElem_toArray, List.getElem_cons_zero, List.getElem_cons_succ, List.setIfInBounds_toArray, List.set_cons_zero, List.set_cons_succ])
            refine wpAnyH_take (i := 16) (v := (.int .i64 (n : Int))) rfl (by kernel_rfl) (by kernel_rfl) (by kernel_rfl) (fun _ _ _ h => h) (Or.inl ⟨by kernel_rfl, ?_⟩) (by assumption) ?_
            · intro w' hSw
              (try dsimp only at hSw)
              exact exec_move (.tmp 9) rfl (by kernel_rfl)
            (try simp only [Act.put, List.getElem_toArray, List.getElem_cons_zero, List.getElem_cons_succ, List.setIfInBounds_toArray, List.set_cons_zero, List.set_cons_succ])
            refine wpAnyH_take (i := 17) (v := (.bool (decide (ok = (n : Int))))) rfl (by kernel_rfl) (by kernel_rfl) (by kernel_rfl) (fun _ _ _ h => h) (Or.inl ⟨by kernel_rfl, ?_⟩) (by assumption) ?_
            · intro w' hSw
              (try dsimp only at hSw)
              exact exec_eqI (.tmp 146) (.tmp 147) rfl (by kernel_rfl) (by kernel_rfl)
            (try simp only [Act.put, List.getElem_toArray, List.getElem_cons_zero, List.getElem_cons_succ, List.setIfInBounds_toArray, List.set_cons_zero, List.set_cons_succ])
            refine wpAnyH_take (i := 18) (v := (.bool false)) rfl (by kernel_rfl) (by kernel_rfl) (by kernel_rfl) (fun _ _ _ h => h) (Or.inl ⟨by kernel_rfl, ?_⟩) (by assumption) ?_
            · intro w' hSw
              (try dsimp only at hSw)
              exact exec_neqB (a := decide (ok = (n : Int))) (b := decide (ok = (n : Int))) (.tmp 142) (.tmp 148) rfl (by kernel_rfl) (by kernel_rfl) rfl
            (try simp only [Act.put, List.getElem_toArray, List.getElem_cons_zero, List.getElem_cons_succ, List.setIfInBounds_toArray, List.set_cons_zero, List.set_cons_succ])
            refine wpAnyH_take (i := 19) (v := (.bool false)) rfl (by kernel_rfl) (by kernel_rfl) (by kernel_rfl) (fun _ _ _ h => h) (Or.inl ⟨by kernel_rfl, ?_⟩) (by assumption) ?_
            · intro w' hSw
              (try dsimp only at hSw)
              exact exec_pickf (.tmp 139) (.const (.bool true)) (.tmp 149) rfl (by kernel_rfl) (by kernel_rfl)
            (try simp only [Act.put, List.getElem_toArray, List.getElem_cons_zero, List.getElem_cons_succ, List.setIfInBounds_toArray, List.set_cons_zero, List.set_cons_succ])
            refine wpAnyH_take (i := 20) (v := (.bool false)) rfl (by kernel_rfl) (by kernel_rfl) (by kernel_rfl) (fun _ _ _ h => h) (Or.inl ⟨by kernel_rfl, ?_⟩) (by assumption) ?_
            · intro w' hSw
              (try dsimp only at hSw)
              exact exec_move (.tmp 150) rfl (by kernel_rfl)
            (try simp only [Act.put, List.getElem_toArray, List.getElem_cons_zero, List.getElem_cons_succ, List.setIfInBounds_toArray, List.set_cons_zero, List.set_cons_succ])
            refine wpAnyH_take (i := 21) (v := (.slice fa F.length fc)) rfl (by kernel_rfl) (by kernel_rfl) (by kernel_rfl) (fun _ _ _ h => h) (Or.inl ⟨by kernel_rfl, ?_⟩) (by assumption) ?_
            · intro w' hSw
              (try dsimp only at hSw)
              exact exec_move (.tmp 10) rfl (by kernel_rfl)
            (try simp only [Act.put, List.getElem_toArray, List.getElem_cons_zero, List.getElem_cons_succ, List.setIfInBounds_toArray, List.set_cons_zero, List.set_cons_succ])
            refine wpAnyH_take (i := 22) (v := (.string (strOf n2'))) rfl (by kernel_rfl) (by kernel_rfl) (by kernel_rfl) (fun _ _ _ h => h) (Or.inl ⟨by kernel_rfl, ?_⟩) (by assumption) ?_
            · intro w' hSw
              (try dsimp only at hSw)
              exact exec_move (.tmp 15) rfl (by kernel_rfl)
            (try simp only [Act.put, List.getElem_toArray, List.getElem_cons_zero, List.getElem_cons_succ, List.setIfInBounds_toArray, List.set_cons_zero, List.set_cons_succ])
            refine wpAnyH_callTake (i := 23) (v := (.bool (decide (ok = (n : Int))))) rfl (by kernel_rfl) (by kernel_rfl) (by kernel_rfl) (fun _ _ _ h => h) (by kernel_rfl) 33 #[.slice fa F.length fc, .string (strOf n2')] (fun w' => by kernel_rfl) (fun w' hSw => Ln2'.out w' hSw) (by assumption) ?_
            (try simp only [Act.put, List.getElem_toArray, List.getElem_cons_zero, List.getElem_cons_succ, List.setIfInBounds_toArray, List.set_cons_zero, List.set_cons_succ])
            refine wpAnyH_take (i := 24) (v := (.slice (some ⟨go, 0, none⟩) O.length co)) rfl (by kernel_rfl) (by kernel_rfl) (by kernel_rfl) (fun _ _ _ h => h) (Or.inl ⟨by kernel_rfl, ?_⟩) (by assumption) ?_
            · intro w' hSw
              (try dsimp only at hSw)
              exact exec_move (.tmp 7) rfl (by kernel_rfl)
            (try simp only [Act.put, List.getElem_toArray, List.getElem_cons_zero, List.getElem_cons_succ, List.setIfInBounds_toArray, List.set_cons_zero, List.set_cons_succ])
            refine wpAnyH_take (i := 25) (v := (.int .i64 (k : Int))) rfl (by kernel_rfl) (by kernel_rfl) (by kernel_rfl) (fun _ _ _ h => h) (Or.inl ⟨by kernel_rfl, ?_⟩) (by assumption) ?_
            · intro w' hSw
              (try dsimp only at hSw)
              exact exec_move (.tmp 12) rfl (by kernel_rfl)
            (try simp only [Act.put, List.getElem_toArray, List.getElem_cons_zero, List.getElem_cons_succ, List.setIfInBounds_toArray, List.set_cons_zero, List.set_cons_succ])
            refine wpAnyH_take (i := 26) (v := (.pointer (some ⟨go, 0 + k, none⟩))) rfl (by kernel_rfl) (by kernel_rfl) (by kernel_rfl) (fun _ _ _ h => h) (Or.inl ⟨by kernel_rfl, ?_⟩) (by assumption) ?_
            · intro w' hSw
              (try dsimp only at hSw)
              exact exec_ixI (n := O.length) (c := co) (.tmp 155) (.tmp 156) rfl (by kernel_rfl) (by kernel_rfl) hkl
            (try simp only [Act.put, List.getElem_toArray, List.getElem_cons_zero, List.getElem_cons_succ, List.setIfInBounds_toArray, List.set_cons_zero, List.set_cons_succ])
            refine wpAnyH_take (i := 27) (v := (.int .i64 ok)) rfl (by kernel_rfl) (by kernel_rfl) (by kernel_rfl) (fun _ _ _ h => h) (Or.inl ⟨by kernel_rfl, ?_⟩) (by assumption) ?_
            · intro w' hSw
              (try dsimp only at hSw)
              exact exec_ldi (.tmp 157) rfl (by kernel_rfl) (OCk.out _ hSw)
            (try simp only [Act.put, List.getElem_toArray, List.getElem_cons_zero, List.getElem_cons_succ, List.setIfInBounds_toArray, List.set_cons_zero, List.set_cons_succ])
            refine wpAnyH_take (i := 28) (v := (.int .i64 (n : Int))) rfl (by kernel_rfl) (by kernel_rfl) (by kernel_rfl) (fun _ _ _ h => h) (Or.inl ⟨by kernel_rfl, ?_⟩) (by assumption) ?_
            · intro w' hSw
              (try dsimp only at hSw)
              exact exec_move (.tmp 9) rfl (by kernel_rfl)
            (try simp only [Act.put, List.getElem_toArray, List.getElem_cons_zero, List.getElem_cons_succ, List.setIfInBounds_toArray, List.set_cons_zero, List.set_cons_succ])
            refine wpAnyH_take (i := 29) (v := (.bool (decide (ok = (n : Int))))) rfl (by kernel_rfl) (by kernel_rfl) (by kernel_rfl) (fun _ _ _ h => h) (Or.inl ⟨by kernel_rfl, ?_⟩) (by assumption) ?_
            · intro w' hSw
              (try dsimp only at hSw)
              exact exec_eqI (.tmp 158) (.tmp 159) rfl (by kernel_rfl) (by kernel_rfl)
            (try simp only [Act.put, List.getElem_toArray, List.getElem_cons_zero, List.getElem_cons_succ, List.setIfInBounds_toArray, List.set_cons_zero, List.set_cons_succ])
            refine wpAnyH_take (i := 30) (v := (.bool false)) rfl (by kernel_rfl) (by kernel_rfl) (by kernel_rfl) (fun _ _ _ h => h) (Or.inl ⟨by kernel_rfl, ?_⟩) (by assumption) ?_
            · intro w' hSw
              (try dsimp only at hSw)
              exact exec_neqB (a := decide (ok = (n : Int))) (b := decide (ok = (n : Int))) (.tmp 154) (.tmp 160) rfl (by kernel_rfl) (by kernel_rfl) rfl
            (try simp only [Act.put, List.getElem_toArray, List.getElem_cons_zero, List.getElem_cons_succ, List.setIfInBounds_toArray, List.set_cons_zero, List.set_cons_succ])
            refine wpAnyH_take (i := 31) (v := (.bool false)) rfl (by kernel_rfl) (by kernel_rfl) (by kernel_rfl) (fun _ _ _ h => h) (Or.inl ⟨by kernel_rfl, ?_⟩) (by assumption) ?_
            · intro w' hSw
              (try dsimp only at hSw)
              exact exec_pickf (.tmp 151) (.const (.bool true)) (.tmp 161) rfl (by kernel_rfl) (by kernel_rfl)
            (try simp only [Act.put, List.getElem_toArray, List.getElem_cons_zero, List.getElem_cons_succ, List.setIfInBounds_toArray, List.set_cons_zero, List.set_cons_succ])
            refine wpAnyH_done (by kernel_rfl) ?_ _
            clear hHeld
            have HQ2 : Hid (Below W9.heap.size W9 W11.drew) := B11.out.drew
            go_wp2_with fail
            go_roundw
            case rel => exact ⟨k + 1, by omega, by go_num, HQ2⟩
            case measure => simp [intOf]; omega
end Go.Proofs.YtioiphonajinmaaGreatDoor
