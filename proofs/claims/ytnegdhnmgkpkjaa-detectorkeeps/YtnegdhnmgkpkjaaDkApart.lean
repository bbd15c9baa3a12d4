import Derived.Test.YtnegdhnmgkpkjaaGDkBook
namespace Go.Proofs.Ytnegdhnmgkpkjaa
open Go.RowKit
theorem itYU {c : Prop} [Decidable c] {P Q : Prop} (hc : c) (h : P) : if c then P else Q := by rw [if_pos hc]; exact h
def LsX (n : Nat) (en : Nat → En) (k : Nat) : Prop := ∃ j, j < n ∧ (en j).la = some ⟨k, 0, none⟩
theorem Ap.lsLt {w : World} {vh : Value} {n : Nat} {en : Nat → En} {cx : Nat → List Int} (h : Ap w vh n en cx) {k : Nat} (hk : LsX n en k) : k < w.heap.size := by
  obtain ⟨j, hj, e⟩ := hk
  rcases h.lz j hj with ⟨q, _⟩ | ⟨g, q, hr⟩
  · rw [q] at e; cases e
  · rw [q] at e
    injection e with e
    injection e with e
    subst e
    exact blk_lt hr
theorem Ap.kp2 {w w' : World} {vh : Value} {n : Nat} {en : Nat → En} {cx : Nat → List Int} (h : Ap w vh n en cx) {X : Nat → Prop} (hk : Kp w w' X) (h1 : ∀ k, vh.ownBlock = some k → ¬ X k) (h2 : ∀ k, LsX n en k → ¬ X k) : Ap w' vh n en cx :=
  ⟨own_kp h.row hk h1, fun j hj => (h.lz j hj).kp hk (fun g e => h2 g ⟨j, hj, e⟩), h.le, h.d1, h.sm⟩
set_option maxHeartbeats 16000000 in
set_option maxRecDepth 100000 in
set_option linter.unusedSimpArgs false in
set_option linter.unusedVariables false in
theorem apart0_any {w : World} {vh : Value} {n : Nat} {en : Nat → En} (h : Bk w vh n en) (hn : n ≤ 1000) :
    Calls Try.prog 27 #[vh] w fun e w' => e = .returned (.bool true) ∧ Kp w w' (LsX n en) := by
  have HA0 := hide h.ap
  obtain ⟨bh, ch, rfl⟩ := own_sl h.row
  have HLS0 : Hid (∀ k, LsX n en k → k < w.heap.size) := fun k hk => h.ap.lsLt hk
  have HVL : Hid (∀ k, (Value.slice bh n ch).ownBlock = some k → k < w.heap.size) := fun k e => own_lt h.row e
  clear h
  go_enter Try.func27, Try.ntmps27
  go_wp2_with fail
  go_loopw [3, 4] (fun vi vj wr => ∃ (i : Nat) (cx : Nat → List Int), i ≤ n ∧ vi = .int .i64 (i : Int) ∧ Hid (Ap wr (.slice bh n ch) n en cx) ∧ Hid (∀ k, k < i → cx k = fullL en k) ∧ Hid (Kp w wr (LsX n en))) (fun vi _ _ => n - (intOf vi).toNat)
  case atStart => exact ⟨0, _, Nat.zero_le _, rfl, HA0.out, fun k hk => by omega, Kp.refl _ _⟩
  case round =>
    clear HA0
    obtain ⟨i, cx, hi, rfl, HA, HF, HK⟩ := hrel
    by_cases h1 : i < n
    · have r1 : (i : Int) < (n : Int) := by omega
      obtain ⟨H, caph, eh, _, _, _⟩ := HA.out.cells h1
      injection eh with eh1 eh2 eh3
      subst eh1 eh3
      have hsm := HA.out.sm i h1
      go_wp2_with fail
      go_loopw [4] (fun vj wr => ∃ (j : Nat) (cx : Nat → List Int), j ≤ (en i).xs.length ∧ vj = .int .i64 (j : Int) ∧ Hid (Ap wr (.slice (some ⟨H, 0, none⟩) n ch) n en cx) ∧ Hid (∀ k, k < i → cx k = fullL en k) ∧ Hid (∀ t, t < j → atL (cx i) t = 1000 + (i : Int)) ∧ Hid (Kp w wr (LsX n en))) (fun vj _ => (en i).xs.length - (intOf vj).toNat)
      case atStart => exact ⟨0, cx, Nat.zero_le _, rfl, HA.out, HF.out, fun t ht => by omega, HK.out⟩
      case round =>
        clear HA HF HK
        obtain ⟨j, cy, hj, rfl, HA, HF, HT, HK⟩ := hrel
        obtain ⟨H', caph', eh, c0, c2, _⟩ := HA.out.cells h1
        injection eh with eh1 eh2 eh3
        injection eh1 with eh1
        injection eh1 with eh1
        subst eh1 eh3
        by_cases hjm : j < (en i).xs.length
        · have hle := HA.out.le i h1
          obtain ⟨g, eg, hr⟩ : ∃ g, (en i).la = some ⟨g, 0, none⟩ ∧ Rw wr g (cy i) := by
            rcases HA.out.lz i h1 with ⟨_, q⟩ | q
            · rw [q] at hle; simp at hle; omega
            · exact q
          have cl := hr.cell (i := j) (by omega)
          have fl := hr.fz j
          have HZ := hide ((HA.out.set h1 eg j (1000 + (i : Int))).kp2 ((Kp.refl _ non).drew) (fun _ _ f => f) (fun _ _ f => f))
          have HF2 : Hid (∀ k, k < i → (updN cy i ((cy i).set j (1000 + (i : Int)))) k = fullL en k) := fun k hk => by rw [updN_other (by omega)]; exact HF.out k hk
          have HT2 : Hid (∀ t, t < j + 1 → atL ((updN cy i ((cy i).set j (1000 + (i : Int)))) i) t = 1000 + (i : Int)) := fun t ht => by
            rw [updN_same, atL_set _ _ _ _ (by omega)]
            split
            · rfl
            · exact HT.out t (by omega)
          have HK2 : Hid (Kp w (wr.setCell ⟨g, j, none⟩ (.int .i64 (1000 + (i : Int)))).drew (LsX n en)) := (HK.out.set (Or.inl ⟨i, h1, eg⟩) _ _).drew
          rw [eg] at c0
          generalize updN cy i ((cy i).set j (1000 + (i : Int))) = cz at *
          generalize atL (cy i) j = yv at *
          generalize hm : (en i).xs.length = m at *
          have HMM := hide hm
          have hjz : (j : Int) < (m : Int) := by omega
          clear hr eg hle hm
          go_wp2_with fail
          go_big_region
          all_goals go_wp2_with fail
          exact ⟨⟨j + 1, cz, by omega, by go_num, HZ, HF2, HT2, HK2⟩, by simp [intOf]; omega⟩
        · have hjz : ¬ (j : Int) < ((en i).xs.length : Int) := by omega
          have HF2 : Hid (∀ k, k < i + 1 → cy k = fullL en k) := fun k hk => by
            by_cases e : k = i
            · subst e
              exact full_of (HA.out.le k h1) (fun t ht => HT.out t (by omega))
            · exact HF.out k (by omega)
          generalize (en i).xs.length = m at *
          go_wp2_with fail
          go_roundw
          case rel => exact ⟨i + 1, cy, by omega, by go_num, HA, HF2, HK⟩
          case measure => simp [intOf]; omega
    · have r1 : ¬ (i : Int) < (n : Int) := by omega
      obtain rfl : i = n := by omega
      have HAF : Hid (Ap wr (.slice bh i ch) i en (fullL en)) := ⟨HA.out.row, fun j hj => by rw [← HF.out j hj]; exact HA.out.lz j hj, fun j hj => by simp [fullL], HA.out.d1, HA.out.sm⟩
      clear HA HF
      go_wp2_with fail
      have HLS : Hid (∀ k, LsX i en k → k < w.heap.size) := HLS0.out
      go_loopw [5, 6, 7, 8] (fun vm vi vl vq wr => ∃ (k : Nat) (lv : Nat → Value), k ≤ i ∧ vi = .int .i64 (k : Int) ∧ Hid (Ap wr (.slice bh i ch) i en (fullL en)) ∧ Hid (Mr wr vm k en lv) ∧ Hid (∀ b, vm.ownBlock = some b → w.heap.size ≤ b) ∧ Hid (Kp w wr (LsX i en))) (fun _ vi _ _ _ => i - (intOf vi).toNat)
      case atStart => exact ⟨0, fun _ => .slice none 0 0, Nat.zero_le _, rfl, HAF.out, ⟨World.ownsRow_nil _ _ _ _, fun j hj => by omega⟩, fun b hb => by simp [Value.ownBlock] at hb, HK.out⟩
      case round =>
        clear HAF HK
        obtain ⟨k, lv, hk, rfl, HA, HM, HV, HK⟩ := hrel
        obtain ⟨wo, rfl⟩ : ∃ wo : World, wo = wr := ⟨_, rfl⟩
        by_cases h2 : k < i
        · have r2 : (k : Int) < (i : Int) := by omega
          obtain ⟨H, caph, eh, c0, c2, _⟩ := HA.out.cells h2
          injection eh with eh1 eh2 eh3
          subst eh1 eh3
          have hsm := HA.out.sm k h2
          have HLZ : Hid (Lzi (wo.drew.alloc (.cells #[.int .i64 (1500 + (k : Int))] 3)) (en k).la (fullL en k)) := (HA.out.lz k h2).kp ((Kp.refl wo non).drew.alloc _) (fun _ _ f => f)
          have HFLn : Hid ((fullL en k).length = (en k).xs.length) := by show _ = _; simp [fullL]
          have gg : (wo.drew.alloc (.cells #[.int .i64 (1500 + (k : Int))] 3)).heap[wo.drew.heap.size]? = some (.cells #[.int .i64 (1500 + (k : Int))] 3) := heap_last _ _
          have HGG := hide gg
          have k1 : Kp wo (wo.drew.alloc (.cells #[.int .i64 (1500 + (k : Int))] 3)) non := (Kp.refl wo non).drew.alloc _
          have d0 := cell_kp c0 k1 (fun f => f)
          have d2 := cell_kp c2 k1 (fun f => f)
          have HK1 := hide k1
          have HMS := hide fun q => moreL_succ en k q
          have HML := hide fun q => moreL_len en k q
          have HM1 : Hid (moreL en k 1 = fullL en k ++ [1500 + (k : Int)]) := rfl
          have HC : Hid (∀ W, Kp wo W non → W.cell? ⟨H, k * 3 + 2, none⟩ = some (.int .i64 (1000 + (k : Int)))) := fun W hW => cell_kp c2 hW (fun f => f)
          generalize hm : (en k).xs.length = m at *
          have HMM := hide hm
          generalize hla : (en k).la = la at *
          have em : (1000 : Int) + (k : Int) + 500 = 1500 + (k : Int) := by omega
          have emw := wrap_in (x := 1000 + (k : Int) + 500) (by omega) (by omega)
          clear gg k1 hm hla
          go_wp2_with fail
          have c0' : wo.drew.cell? ⟨H, k * 3, none⟩ = some (.slice la m m) := c0
          have c2' : wo.drew.cell? ⟨H, k * 3 + 2, none⟩ = some (.int .i64 (1000 + (k : Int))) := c2
          refine wp_region_held_drew (S := fun Z => Z.cell? ⟨H, k * 3, none⟩ = some (.slice la m m) ∧ Z.cell? ⟨H, k * 3 + 2, none⟩ = some (.int .i64 (1000 + (k : Int)))) (by kernel_rfl) ⟨c0', c2'⟩ (fun hHeld => ?_)
          refine wpAnyH_take (i := 0) (v := (.slice (some ⟨H, 0, none⟩) i ch)) rfl (by kernel_rfl) (by kernel_rfl) (by kernel_rfl) (fun _ _ _ h => h) (Or.inl ⟨by rfl, ?_⟩) (by assumption) ?_
          · intro w' hSw
            (try dsimp only at hSw)
            go_simp
          (try simp only [Act.put, List.getElem_toArray, List.getElem_cons_zero, List.getElem_cons_succ, List.setIfInBounds_toArray, List.set_cons_zero, List.set_cons_succ])
          refine wpAnyH_take (i := 1) (v := (.int .i64 (k : Int))) rfl (by kernel_rfl) (by kernel_rfl) (by kernel_rfl) (fun _ _ _ h => h) (Or.inl ⟨by rfl, ?_⟩) (by assumption) ?_
          · intro w' hSw
            (try dsimp only at hSw)
            go_simp
          (try simp only [Act.put, List.getElem_toArray, List.getElem_cons_zero, List.getElem_cons_succ, List.setIfInBounds_toArray, List.set_cons_zero, List.set_cons_succ])
          refine wpAnyH_take (i := 2) (v := (.pointer (some ⟨H, k * 3, none⟩))) rfl (by kernel_rfl) (by kernel_rfl) (by kernel_rfl) (fun _ _ _ h => h) (Or.inl ⟨by rfl, ?_⟩) (by assumption) ?_
          · intro w' hSw
            (try dsimp only at hSw)
            go_simp
          (try simp only [Act.put, List.getElem_toArray, List.getElem_cons_zero, List.getElem_cons_succ, List.setIfInBounds_toArray, List.set_cons_zero, List.set_cons_succ])
          refine wpAnyH_take (i := 3) (v := (.pointer (some ⟨H, k * 3, none⟩))) rfl (by kernel_rfl) (by kernel_rfl) (by kernel_rfl) (fun _ _ _ h => h) (Or.inl ⟨by rfl, ?_⟩) (by assumption) ?_
          · intro w' hSw
            (try dsimp only at hSw)
            go_simp
          (try simp only [Act.put, List.getElem_toArray, List.getElem_cons_zero, List.getElem_cons_succ, List.setIfInBounds_toArray, List.set_cons_zero, List.set_cons_succ])
          refine wpAnyH_take (i := 4) (v := (.slice la m m)) rfl (by kernel_rfl) (by kernel_rfl) (by kernel_rfl) (fun _ _ _ h => h) (Or.inl ⟨by rfl, ?_⟩) (by assumption) ?_
          · intro w' hSw
            (try dsimp only at hSw)
            (have y := hSw.1; go_simp)
          (try simp only [Act.put, List.getElem_toArray, List.getElem_cons_zero, List.getElem_cons_succ, List.setIfInBounds_toArray, List.set_cons_zero, List.set_cons_succ])
          refine wpAnyH_take (i := 5) (v := (.slice (some ⟨H, 0, none⟩) i ch)) rfl (by kernel_rfl) (by kernel_rfl) (by kernel_rfl) (fun _ _ _ h => h) (Or.inl ⟨by rfl, ?_⟩) (by assumption) ?_
          · intro w' hSw
            (try dsimp only at hSw)
            go_simp
          (try simp only [Act.put, List.getElem_toArray, List.getElem_cons_zero, List.getElem_cons_succ, List.setIfInBounds_toArray, List.set_cons_zero, List.set_cons_succ])
          refine wpAnyH_take (i := 6) (v := (.int .i64 (k : Int))) rfl (by kernel_rfl) (by kernel_rfl) (by kernel_rfl) (fun _ _ _ h => h) (Or.inl ⟨by rfl, ?_⟩) (by assumption) ?_
          · intro w' hSw
            (try dsimp only at hSw)
            go_simp
          (try simp only [Act.put, List.getElem_toArray, List.getElem_cons_zero, List.getElem_cons_succ, List.setIfInBounds_toArray, List.set_cons_zero, List.set_cons_succ])
          refine wpAnyH_take (i := 7) (v := (.pointer (some ⟨H, k * 3, none⟩))) rfl (by kernel_rfl) (by kernel_rfl) (by kernel_rfl) (fun _ _ _ h => h) (Or.inl ⟨by rfl, ?_⟩) (by assumption) ?_
          · intro w' hSw
            (try dsimp only at hSw)
            go_simp
          (try simp only [Act.put, List.getElem_toArray, List.getElem_cons_zero, List.getElem_cons_succ, List.setIfInBounds_toArray, List.set_cons_zero, List.set_cons_succ])
          refine wpAnyH_take (i := 8) (v := (.pointer (some ⟨H, k * 3 + 2, none⟩))) rfl (by kernel_rfl) (by kernel_rfl) (by kernel_rfl) (fun _ _ _ h => h) (Or.inl ⟨by rfl, ?_⟩) (by assumption) ?_
          · intro w' hSw
            (try dsimp only at hSw)
            go_simp
          (try simp only [Act.put, List.getElem_toArray, List.getElem_cons_zero, List.getElem_cons_succ, List.setIfInBounds_toArray, List.set_cons_zero, List.set_cons_succ])
          refine wpAnyH_take (i := 9) (v := (.int .i64 (1000 + (k : Int)))) rfl (by kernel_rfl) (by kernel_rfl) (by kernel_rfl) (fun _ _ _ h => h) (Or.inl ⟨by rfl, ?_⟩) (by assumption) ?_
          · intro w' hSw
            (try dsimp only at hSw)
            (have y := hSw.2; go_simp)
          (try simp only [Act.put, List.getElem_toArray, List.getElem_cons_zero, List.getElem_cons_succ, List.setIfInBounds_toArray, List.set_cons_zero, List.set_cons_succ])
          refine wpAnyH_take (i := 10) (v := (.int .i64 (1500 + (k : Int)))) rfl (by kernel_rfl) (by kernel_rfl) (by kernel_rfl) (fun _ _ _ h => h) (Or.inl ⟨by rfl, ?_⟩) (by assumption) ?_
          · intro w' hSw
            (try dsimp only at hSw)
            (go_simp; first | done | exact i64_in (by omega) (by omega) | (rw [i64_in (by omega) (by omega)]; omega) | omega)
          (try simp only [Act.put, List.getElem_toArray, List.getElem_cons_zero, List.getElem_cons_succ, List.setIfInBounds_toArray, List.set_cons_zero, List.set_cons_succ])
          refine wpAnyH_ready (rs := [11]) (by kernel_rfl) (by simp) ?_
          refine AllReadyH.cons rfl (fun K hK => ?_) AllReadyH.nil
          go_simp
          refine hK.out _ _ (⟨d0, d2⟩) (fun hHeld => ?_)
          clear hK
          (try simp only [Act.put, List.setIfInBounds_toArray, List.set_cons_zero, List.set_cons_succ])
          refine wpAnyH_ready (rs := [12]) (by kernel_rfl) (by simp) ?_
          refine AllReadyH.cons rfl (fun K hK => ?_) AllReadyH.nil
          refine itYU (by rfl) ?_
          refine wp_appF (.tmp 49) (.tmp 56) ?hFo la (fullL en k) HLZ.out ?hFs wo.drew.heap.size (1500 + (k : Int)) ?hFx HGG.out (by rw [HFLn.out]; omega) ?hFk
          case hFo => rfl
          case hFs => rw [HFLn.out]; kernel_rfl
          case hFx => kernel_rfl
          intro v1 w4 o4 b4
          have K4 : Hid (Kp wo w4 non) := HK1.out.trans (Kp.of_below b4 non) (fun _ f => f.elim)
          have O4 : Hid (w4.ownsRow wo.heap.size 3 1 v1 (moreL en k 1).length (ints (moreL en k 1))) := by
            rw [HM1.out, List.length_append, HFLn.out]
            have := own_base o4 (base' := wo.heap.size) HK1.out.size
            rw [HFLn.out] at this
            exact this
          have e0 := cell_kp c0 K4.out (fun f => f)
          have e2 := cell_kp c2 K4.out (fun f => f)
          clear o4 b4
          refine hK.out _ _ (⟨e0, e2⟩) (fun hHeld => ?_)
          clear hK
          (try simp only [Act.put, List.setIfInBounds_toArray, List.set_cons_zero, List.set_cons_succ])
          refine wpAnyH_ready (rs := [13]) (by kernel_rfl) (by simp) ?_
          refine AllReadyH.cons rfl (fun K hK => ?_) AllReadyH.nil
          go_simp
          refine hK.out _ _ (⟨e0, e2⟩) (fun hHeld => ?_)
          clear hK
          (try simp only [Act.put, List.setIfInBounds_toArray, List.set_cons_zero, List.set_cons_succ])
          refine wpAnyH_done (by kernel_rfl) ?_ _
          clear hHeld c0 c2 c0' c2' d0 d2 e0 e2 HLZ HGG HK1
          go_wp2_with fail
          go_loopw [7, 8] (fun vl vq wq => ∃ (q : Nat), q ≤ 64 ∧ vq = .int .i64 (q : Int) ∧ Hid (wq.ownsRow wo.heap.size 3 1 vl (moreL en k (q + 1)).length (ints (moreL en k (q + 1)))) ∧ Hid (Kp wo wq non)) (fun _ vq _ => 64 - (intOf vq).toNat)
          case atStart => exact ⟨0, by omega, rfl, O4.out, K4.out⟩
          case round =>
            clear O4 K4
            obtain ⟨q, hq, rfl, HO, HKq⟩ := hrel
            by_cases h3 : q < 64
            · have r3 : (q : Int) < 64 := by omega
              have c2 := HC.out _ HKq.out
              have HS2 := hide (HMS.out (q + 1))
              have HL2 : Hid ((moreL en k (q + 1)).length ≤ 1000) := by show _ ≤ _; rw [HML.out]; omega
              generalize moreL en k (q + 1) = fi at *
              obtain ⟨W4, hW4⟩ : ∃ W4, W4 = wr.alloc (.cells #[.int .i64 (1500 + (k : Int))] 3) := ⟨_, rfl⟩
              have hb4 : Below wr.heap.size wr W4 := by rw [hW4]; exact (Below.refl _ _).alloc (Nat.le_refl _) _
              have gg : W4.heap[wr.heap.size]? = some (.cells #[.int .i64 (1500 + (k : Int))] 3) := by rw [hW4]; exact heap_last _ _
              have HO4 := hide (own_kp HO.out (Kp.of_below hb4 non) (fun _ _ f => f))
              have HGG := hide gg
              have hsz : wo.heap.size ≤ W4.heap.size := Nat.le_trans HKq.out.size hb4.size
              have K4 := hide (HKq.out.trans (Kp.of_below hb4 non) (fun _ f => f.elim))
              clear gg hb4
              go_wp2_with (at_builtin; rw [← hW4]; refine wpList_apI rfl (.tmp 62) (.tmp 69) rfl wo.heap.size _ fi.length fi rfl HO4.out wr.heap.size (1500 + (k : Int)) rfl HGG.out (by have := HL2.out; omega) hsz ?_; intro v' w' o2 g2 _; have HO5 := hide o2; have K5 : Hid (Kp wo w' non) := (K4.out.trans (Kp.of_grown g2) (fun k hk => Or.inr (own_ge HO4.out hk.symm))); clear o2 g2)
              go_roundw
              case rel => exact ⟨q + 1, by omega, by go_num, by rw [HS2.out, List.length_append]; exact HO5, K5⟩
              case measure => simp [intOf]; omega
            · obtain rfl : q = 64 := by omega
              have hol := HO.out
              obtain ⟨bl, cl, rfl⟩ := own_sl hol
              obtain ⟨X4, hX4⟩ : ∃ X4, X4 = wr.alloc (.cells #[.slice bl (moreL en k (64 + 1)).length cl] 38) := ⟨_, rfl⟩
              have hb4 : Below wr.heap.size wr X4 := by rw [hX4]; exact (Below.refl _ _).alloc (Nat.le_refl _) _
              have gg : X4.heap[wr.heap.size]? = some (.cells #[.slice bl (moreL en k (64 + 1)).length cl] 38) := by rw [hX4]; exact heap_last _ _
              have HGG := hide gg
              have K4 : Hid (Kp wo X4 non) := HKq.out.trans (Kp.of_below hb4 non) (fun _ f => f.elim)
              have HMr := hide (own_kp HM.out.row K4.out (fun _ _ f => f))
              have HOL := hide (own_kp (own_base hol (Nat.zero_le _)) (Kp.of_below hb4 non) (fun _ _ f => f))
              have HFIN : Hid (∀ (w4 : World) (vm' : Value), w4.ownsRow 0 38 1 vm' (k + 1) ((List.range k).map lv ++ [.slice bl (moreL en k (64 + 1)).length cl]) → X4.grownBy w4 u5.ownBlock → (vm'.ownBlock = u5.ownBlock ∨ vm'.ownBlock = some X4.heap.size) → Ap w4 (.slice (some ⟨H, 0, none⟩) i ch) i en (fullL en) ∧ Mr w4 vm' (k + 1) en (updN lv k (.slice bl (moreL en k (64 + 1)).length cl)) ∧ (∀ b, vm'.ownBlock = some b → w.heap.size ≤ b) ∧ Kp w w4 (LsX i en)) := fun w4 vm' o4 g4 at4 => by
                have kG : Kp X4 w4 (fun b => u5.ownBlock = some b) := (Kp.of_grown g4).mono (fun b e => e.symm)
                have kW : Kp wo w4 (fun b => u5.ownBlock = some b) := (K4.out.mono (fun _ f => f.elim)).trans kG (fun _ e => Or.inl e)
                refine ⟨HA.out.kp2 kW (fun b e1 e2 => ?_) (fun b e1 e2 => ?_), HM.out.push K4.out HOL.out o4 g4, fun b hb => ?_, HK.out.trans kW (fun b e => Or.inr (HV.out b e))⟩
                · have := HVL.out b e1
                  have := HV.out b e2
                  omega
                · have := HLS.out b e1
                  have := HV.out b e2
                  omega
                · rcases at4 with r | r
                  · rw [r] at hb; exact HV.out b hb
                  · rw [r] at hb
                    cases hb
                    exact Nat.le_trans HK.out.size K4.out.size
              clear gg hb4 hol
              generalize (moreL en k (64 + 1)).length = ml at *
              go_wp2_with (at_builtin; rw [← hX4]; refine wpList_apM rfl (.tmp 71) (.tmp 73) rfl _ k ((List.range k).map lv) rfl HMr.out wr.heap.size (.slice bl ml cl) rfl rfl HGG.out (by omega) ?_; intro v' X5 o5 g5 at5; have HF5 := hide (HFIN.out X5 v' o5 g5 at5); clear o5 g5 at5)
              go_roundw
              case rel => exact ⟨k + 1, _, by omega, by go_num, HF5.out.1, HF5.out.2.1, HF5.out.2.2.1, HF5.out.2.2.2⟩
              case measure => simp [intOf]; omega
        · obtain rfl : k = i := by omega
          have r2 : ¬ (k : Int) < (k : Int) := by omega
          go_wp2_with fail
          go_loopw [9, 10] (fun vi vn wr => ∃ (t : Nat), t ≤ k ∧ vi = .int .i64 (t : Int) ∧ Hid (Kp wo wr non)) (fun vi _ _ => k - (intOf vi).toNat)
          case atStart => exact ⟨0, Nat.zero_le _, rfl, Kp.refl _ _⟩
          case round =>
            obtain ⟨t, ht, rfl, HKt⟩ := hrel
            by_cases h4 : t < k
            · have r4 : (t : Int) < (k : Int) := by omega
              have hAt := HA.out.kp2 HKt.out (fun _ _ f => f) (fun _ _ f => f)
              have hMt := HM.out.kp HKt.out
              obtain ⟨H, caph, eh, c0, c2, _⟩ := hAt.cells h4
              injection eh with eh1 eh2 eh3
              subst eh1 eh3
              have hsm := hAt.sm t h4
              obtain ⟨V, capm, em⟩ := own_g hMt.row (by omega)
              have cm : wr.cell? ⟨V, t, none⟩ = some (lv t) := by
                obtain ⟨g', c', e', q1, _⟩ := own_at hMt.row (j := t) (u := lv t) (by simp [h4])
                rw [em] at e'
                injection e' with a
                injection a with a
                injection a with a
                subst a
                exact q1
              have hlr := hMt.ms t h4
              obtain ⟨G, capl, el⟩ := own_g hlr (by rw [moreL_len]; omega)
              obtain ⟨f1, al, bl, cl', el2, hIl, f2⟩ := own_is hlr (by rw [moreL_len]; omega)
              have hIG : IsAt wr (some ⟨G, 0, none⟩) G 0 (moreL en t 65) := by
                have e4 : bl = G := (f2 G (by rw [el]; rfl)).symm
                rw [el] at el2
                injection el2 with a1 a2 a3
                rw [← a1, e4] at hIl
                exact hIl
              have hcl : (en t).xs.length + 65 ≤ capl := by
                rcases hlr.2 with ⟨hv, _⟩ | ⟨g', cap', cur, hv, h1, h2, h3, _⟩
                · rw [el] at hv; cases hv
                · rw [el] at hv
                  injection hv with _ _ e3
                  rw [moreL_len] at h3
                  omega
              rw [moreL_len] at el
              obtain ⟨bx, hIx⟩ := (hAt.lz t h4).is (by simp [fullL]; omega)
              have HCT : Hid (∀ (q : Nat) (v : Value) (x c : Int), ((v = .slice (en t).la (en t).xs.length (en t).xs.length ∧ x = 1000 + (t : Int) ∧ c = ((en t).xs.length : Int)) ∨ (v = .slice (some ⟨G, 0, none⟩) (en t).xs.length capl ∧ x = 1000 + (t : Int) ∧ c = ((en t).xs.length : Int)) ∨ (v = .slice (some ⟨G, (en t).xs.length, none⟩) 65 (capl - (en t).xs.length) ∧ x = 1500 + (t : Int) ∧ c = 65)) → Calls Try.prog 37 #[v, .int .i64 x] (wr.drewN q) fun e w' => e = .returned (.int .i64 c) ∧ w' = wr.drewN q) := fun q v x c hv => by
                have kq := (Kp.refl wr non).drewN q
                rcases hv with ⟨rfl, rfl, rfl⟩ | ⟨rfl, rfl, rfl⟩ | ⟨rfl, rfl, rfl⟩
                · have := count_any (w := wr.drewN q) _ bx 0 (en t).xs.length (fullL en t) (hIx.kp kq (fun _ f => f)) (1000 + (t : Int))
                  rw [show (fullL en t).length = (en t).xs.length by simp [fullL], show (fullL en t).count (1000 + (t : Int)) = (en t).xs.length from count_rep _ _] at this
                  exact Calls.mono this (by rintro e W ⟨rfl, rfl⟩; exact ⟨rfl, rfl⟩)
                · have := count_any (w := wr.drewN q) _ G 0 capl ((moreL en t 65).take (en t).xs.length) ((hIG.take _).kp kq (fun _ f => f)) (1000 + (t : Int))
                  rw [show (moreL en t 65).take (en t).xs.length = fullL en t by unfold moreL; rw [List.take_append_of_le_length (by simp [fullL]), List.take_of_length_le (by simp [fullL])], show (fullL en t).length = (en t).xs.length by simp [fullL], show (fullL en t).count (1000 + (t : Int)) = (en t).xs.length from count_rep _ _] at this
                  exact Calls.mono this (by rintro e W ⟨rfl, rfl⟩; exact ⟨rfl, rfl⟩)
                · have hd : (moreL en t 65).drop (en t).xs.length = List.replicate 65 (1500 + (t : Int)) := by
                    unfold moreL
                    rw [List.drop_append_of_le_length (by simp [fullL]), List.drop_of_length_le (by simp [fullL]), List.nil_append]
                  have hI3 : IsAt (wr.drewN q) (some ⟨G, (en t).xs.length, none⟩) G (en t).xs.length (List.replicate 65 (1500 + (t : Int))) := by
                    refine ⟨fun _ => rfl, fun j hj => ?_, by simp⟩
                    have := hIG.cell ((en t).xs.length + j) (by rw [moreL_len]; simp at hj; omega)
                    rw [Nat.zero_add] at this
                    rw [show (wr.drewN q).cell? ⟨G, (en t).xs.length + j, none⟩ = wr.cell? ⟨G, (en t).xs.length + j, none⟩ from rfl, this]
                    have e5 : (moreL en t 65)[(en t).xs.length + j]'(by rw [moreL_len]; simp at hj; omega) = ((moreL en t 65).drop (en t).xs.length)[j]'(by rw [hd]; exact hj) := by rw [List.getElem_drop]
                    rw [e5]
                    simp only [hd]
                  have := count_any (w := wr.drewN q) _ G (en t).xs.length (capl - (en t).xs.length) _ hI3 (1500 + (t : Int))
                  rw [List.length_replicate, count_rep] at this
                  exact Calls.mono this (by rintro e W ⟨rfl, rfl⟩; exact ⟨rfl, rfl⟩)
              rw [el] at cm
              have emw : (1000 : Int) + (t : Int) + 500 = 1500 + (t : Int) := by omega
              subst em
              generalize (en t).xs.length = m at *
              generalize (en t).la = la at *
              have hmz : (m : Int) ≤ (capl : Int) := by omega
              have hmz2 : (m : Int) ≤ (m : Int) + 65 := by omega
              clear hAt hMt hlr hIl hIG f1 f2 el2 hIx el
              go_upto_region 22 with fail
              go_quiet (first | (go_at_call 37; refine Calls.quiet_of_same (HCT.out _ _ _ _ (by first | exact Or.inl ⟨rfl, rfl, rfl⟩ | exact Or.inr (Or.inl ⟨rfl, rfl, rfl⟩) | exact Or.inr (Or.inr ⟨rfl, rfl, rfl⟩)))))
              have HKq := hide (HKt.out.drewN nq)
              clear c0 c2 cm HCT HKt
              generalize wr.drewN nq = wq at *
              go_wp2_with fail
              go_roundw
              case rel => exact ⟨t + 1, by omega, by go_num, HKq⟩
              case measure => simp [intOf]; omega
            · have r4 : ¬ (t : Int) < (k : Int) := by omega
              go_wp2_with fail
              go_ret
              exact ⟨rfl, HK.out.trans HKt.out (fun _ f => f.elim)⟩
end Go.Proofs.Ytnegdhnmgkpkjaa
