import Derived.Test.YtjibhdcnibgegaaRxDec
namespace Go.Proofs.Ytjibhdcnibgegaa
open Go.RowKit
set_option maxHeartbeats 2000000 in
set_option maxRecDepth 100000 in
/-- Decode -/
theorem decode_any (m : Int) (x d : ByteArray) (hx : x.size ≤ 1099511627776) (hd : d.size ≤ 1099511627776) (w : World) :
    Calls Try.prog 24 #[.int .i64 m, .agg #[.string x, .string d]] w fun e w' => ∃ v, e = .returned (.tuple #[v, .int .i64 (dcE m x d)]) ∧ GroupsAt w' w.heap.size v (dcG m x d) ∧ Below w.heap.size w w' := by
  obtain ⟨W0, hW0⟩ : ∃ W0, W0 = w.alloc (.cells #[.string x, .string d] 52) := ⟨_, rfl⟩
  have s0 : W0.heap.size = w.heap.size + 1 := by rw [hW0]; simp
  have b0 : Below w.heap.size w W0 := by rw [hW0]; exact (Below.refl _ w).alloc (Nat.le_refl _) _
  have k0 : W0.cell? ⟨w.heap.size, 0, none⟩ = some (.string x) := by rw [hW0]; simp
  have k1 : W0.cell? ⟨w.heap.size, 1, none⟩ = some (.string d) := by rw [hW0]; simp
  have CC : Hid (∀ w', Below W0.heap.size W0 w' → w'.cell? ⟨w.heap.size, 0, none⟩ = some (.string x) ∧ w'.cell? ⟨w.heap.size, 1, none⟩ = some (.string d)) := fun w' hw => by
    rw [hw.cell (by rw [s0]; exact Nat.lt_succ_self _), hw.cell (by rw [s0]; exact Nat.lt_succ_self _)]; exact ⟨k0, k1⟩
  have HB0 := hide b0
  have RI := hide (readIndex_any m x hx W0)
  clear b0
  go_enter Try.func24, Try.ntmps24
  go_wp2_with fail
  rw [← hW0]
  refine Calls.mono RI.out ?_
  rintro e w1 ⟨v1, rfl, o1, hb1⟩
  obtain ⟨c10, c11⟩ := CC.out w1 hb1
  have O1 := hide o1
  have HB1 := hide hb1
  have s1 := hb1.size
  clear o1 hb1 k0 k1
  by_cases hri : riE m x = 0
  · by_cases hbig : 65536 < d.size
    · obtain ⟨e1, e2⟩ := dc_no hri (ok_big hbig)
      have HE1 := hide e1
      have HE2 := hide e2
      have hbi : (65536 : Int) < (d.size : Int) := by omega
      clear e1 e2
      rw [hri]
      go_wp2_with fail
      go_ret2
      exact ⟨_, by rw [HE1.out]; rfl, by rw [HE2.out]; exact GroupsAt.nil _ _, HB0.out.trans (HB1.out.mono (by omega))⟩
    · have hbi : (d.size : Int) ≤ 65536 := by omega
      rw [hri]
      obtain ⟨hm, hdm, hau, hrl⟩ := ri_inv hri
      obtain ⟨k, rfl⟩ : ∃ k : Nat, m = (k : Int) := ⟨m.toNat, by omega⟩
      rw [Int.toNat_natCast] at hdm hau hrl
      have hdv : x.size / (k + 4) ≤ x.size := Nat.div_le_self _ _
      obtain ⟨N, hN⟩ : ∃ N, N = x.size / (k + 4) := ⟨_, rfl⟩
      rw [← hN] at hrl hdv
      have o1 := O1.out
      rw [hrl, ents_len] at o1
      obtain ⟨ao, g1, cap1, rfl, h11, h12, h13⟩ := own_ents (ents_len k x N) o1
      have HRI := hide hri
      have HN := hide hN
      have HL1 := hide h13
      clear o1 h13 hrl hau hdm hri hN O1
      obtain ⟨i0, hi, hz0, hz1, hz2⟩ := info_parts infoG
      have hd2 : d.size ≤ 65536 := by omega
      have RR := hide (fun q w' => readRecord_any d q (by omega) w')
      go_wp2_with fail
      go_loopw [8, 9, 31] (fun v at' i wr => ∃ (j : Nat) (l : List GR) (q : Nat), j ≤ N ∧ i = .int .i64 (j : Int) ∧ at' = .int .i64 (q : Int) ∧ decAt k x d j = some (l, q) ∧ GroupsAt wr w1.heap.size v l ∧ Below w1.heap.size w1 wr)
        (fun _ _ i _ => N - (intOf i).toNat)
      case atStart => exact ⟨0, [], 0, by omega, rfl, rfl, rfl, GroupsAt.nil _ _, Below.refl _ _⟩
      case round =>
        obtain ⟨j, l, q, hj, rfl, rfl, hda, hgr, hnx⟩ := hrel
        obtain ⟨hq, hll⟩ := dec_le j l q hda
        have hsz := hnx.size
        have HDA := hide hda
        have HGR := hide hgr
        have HNX := hide hnx
        have HW : Hid (∀ w', Below wr.heap.size wr w' → Below W0.heap.size W0 w') := fun w' hw => (HB1.out.trans (hnx.mono s1)).trans (hw.mono (Nat.le_trans s1 hsz))
        clear hda hgr hnx
        by_cases hlt : j < N
        · obtain rfl := h11 (by omega)
          have lt1 := h12 (by omega)
          have hji : (j : Int) < (N : Int) := by omega
          obtain ⟨g0, g01⟩ := HL1.out.below lt1 HNX.out j (by rw [ents_len]; exact hlt)
          rw [ents_at k x N j hlt, Nat.zero_add] at g0 g01
          have HST := hide (dec_step (m := k) (x := x) HDA.out)
          have HSP := hide (dec_stop (m := k) (x := x) HDA.out)
          simp only at g0 g01
          generalize rdeH k x j = XH at *
          generalize rdeO k x j = XO at *
          obtain ⟨WA, hWA⟩ : ∃ WA, WA = wr.alloc (.cells #[.string XH, .int .i64 (XO : Int)] 75) := ⟨_, rfl⟩
          have sA : WA.heap.size = wr.heap.size + 1 := by rw [hWA]; simp
          have bA : Below wr.heap.size wr WA := by rw [hWA]; exact (Below.refl _ wr).alloc (Nat.le_refl _) _
          have p0 : WA.cell? ⟨wr.heap.size, 0, none⟩ = some (.string XH) := by rw [hWA]; simp
          have p1 : WA.cell? ⟨wr.heap.size, 1, none⟩ = some (.int .i64 (XO : Int)) := by rw [hWA]; simp
          obtain ⟨ca0, ca1⟩ := CC.out WA (HW.out WA bA)
          rw [hWA] at ca1
          have R2 := hide (RR.out (q : Int) WA)
          have BA := hide bA
          have P0 := hide p0
          have P1 := hide p1
          clear bA p0 p1 ca0
          have hin : 0 ≤ (q : Int) ∧ (q : Int) ≤ (d.size : Int) := by omega
          by_cases he : errL (spL d q) = 0
          · obtain ⟨r1, r2, r3⟩ := rr_good hin (by rwa [Int.toNat_natCast])
            rw [r1, r2, r3, Int.toNat_natCast] at R2
            clear r1 r2 r3
            have hsl := spL_len d q
            by_cases ho : XO = q
            · have HS2 := hide (HST.out he ho)
              have hoi : ((XO : Int) != (q : Int)) = false := by rw [ho]; simp
              clear HST HSP
              have HO := hide ho
              clear ho he
              generalize spL d q = L at *
              generalize spN d q = NN at *
              go_wp2_with fail
              rw [← hWA]
              refine Calls.mono R2.out ?_
              rintro e w2 ⟨v2, rfl, o2, hb2⟩
              have c20 : w2.cell? ⟨wr.heap.size, 0, none⟩ = some (.string XH) := (hb2.cell (by rw [sA]; exact Nat.lt_succ_self _)).trans P0.out
              have c21 : w2.cell? ⟨wr.heap.size, 1, none⟩ = some (.int .i64 (XO : Int)) := (hb2.cell (by rw [sA]; exact Nat.lt_succ_self _)).trans P1.out
              have B2 := BA.out.trans (hb2.mono (by rw [sA]; exact Nat.le_succ _))
              have s2 := B2.size
              obtain ⟨ts, t1, t2, t3⟩ := HGR.out.below B2
              obtain ⟨a2, g2, cap2, rfl, _⟩ := own_pairs o2
              have O2 := hide o2
              have T2 := hide t2
              have T3 := hide t3
              have HB2 := hide B2
              have hts : ts.length = j := by rw [← hll, ← t1, List.length_map]
              obtain ⟨hm1, hm2⟩ : ts.length + 1 ≤ maxLen ∧ (ts.length + 1) * 40 ≤ 140737488355328 := by rw [hts]; unfold maxLen; omega
              have CG := hide (cell_grp w2 XH L (.slice a2 L.length cap2))
              have s12 : w1.heap.size ≤ w2.heap.size := Nat.le_trans hsz s2
              clear o2 hb2 t2 t3 B2
              go_wp2_with (at_builtin; refine wpList_append_own _ rfl _ _ 53 rfl w1.heap.size 88 i0 (.agg #[.string ⟨#[]⟩, .slice none 0 0]) 2 40 Try.underlying53 hi hz0 hz1 hz2 rfl (by decide) _ _ _ rfl (T2.out.alloc _) ⟨w2.heap.size, 0, none⟩ 1 1 (gcell [((XH, L), .slice a2 L.length cap2)]) rfl (g_one_len _ _ _) CG.out (g_one _ _ _ rfl) hm1 hm2 (le_alloc s12) ?_; intro v3 w3 o3 g3 n3; clear n3; have O3 := hide o3; have G3 := hide g3; clear o3 g3)
              go_roundw
              case rel =>
                refine ⟨j + 1, _, _, by omega, by go_num, rfl, HS2.out, ⟨ts ++ [((XH, L), .slice a2 L.length cap2)], by rw [List.map_append, t1]; rfl, ?_, fun t ht => ?_⟩, ?_⟩
                · rw [gcell_append, List.length_append]
                  exact O3.out
                · rcases List.mem_append.1 ht with ht | ht
                  · exact row_type ((T3.out t ht).alloc _) (T2.out.alloc _) (by decide) G3.out
                  · obtain rfl : t = ((XH, L), .slice a2 L.length cap2) := by simpa using ht
                    exact row_type ((own_base O2.out (by rw [sA]; omega)).alloc _) (T2.out.alloc _) (by decide) G3.out
                · exact ((HNX.out.trans (HB2.out.mono hsz)).alloc s12 _).grown G3.out (le_alloc s12) (fun t ht => (T2.out.lt t ht).1)
              case measure => simp [intOf]; omega
            · have hns := HSP.out (fun h => ho h.2)
              have hnn : decAt k x d N = none := by rw [show N = j + 1 + (N - (j + 1)) by omega]; exact dec_none hns _
              have HE := hide (dc_no (d := d) HRI.out (ok_none (by rw [Int.toNat_natCast, ← HN.out]; exact hnn)))
              have hoi : ((XO : Int) != (q : Int)) = true := by simp; omega
              clear hns hnn HST HSP ho he
              generalize spL d q = L at *
              generalize spN d q = NN at *
              go_wp2_with fail
              rw [← hWA]
              refine Calls.mono R2.out ?_
              rintro e w2 ⟨v2, rfl, o2, hb2⟩
              have c21 : w2.cell? ⟨wr.heap.size, 1, none⟩ = some (.int .i64 (XO : Int)) := (hb2.cell (by rw [sA]; exact Nat.lt_succ_self _)).trans P1.out
              have B2 := hide (HB0.out.trans ((HW.out w2 (BA.out.trans (hb2.mono (by rw [sA]; exact Nat.le_succ _)))).mono (by rw [s0]; exact Nat.le_succ _)))
              clear o2 hb2
              go_wp2_with fail
              go_ret2
              exact ⟨_, by rw [HE.out.1]; rfl, by rw [HE.out.2]; exact GroupsAt.nil _ _, B2.out⟩
          · obtain ⟨r1, r2, r3⟩ := rr_bad hin (by rwa [Int.toNat_natCast])
            rw [r1, r2, r3] at R2
            have hns := HSP.out (fun h => he h.1)
            have hnn : decAt k x d N = none := by rw [show N = j + 1 + (N - (j + 1)) by omega]; exact dec_none hns _
            have HE := hide (dc_no (d := d) HRI.out (ok_none (by rw [Int.toNat_natCast, ← HN.out]; exact hnn)))
            clear r1 r2 r3 hns hnn HST HSP he
            go_wp2_with fail
            rw [← hWA]
            refine Calls.mono R2.out ?_
            rintro e w2 ⟨v2, rfl, o2, hb2⟩
            have B2 := hide (HB0.out.trans ((HW.out w2 (BA.out.trans (hb2.mono (by rw [sA]; exact Nat.le_succ _)))).mono (by rw [s0]; exact Nat.le_succ _)))
            clear o2 hb2
            go_wp2_with fail
            go_ret2
            exact ⟨_, by rw [HE.out.1]; rfl, by rw [HE.out.2]; exact GroupsAt.nil _ _, B2.out⟩
        · obtain rfl : j = N := by omega
          obtain ⟨cr0, cr1⟩ := CC.out wr (HW.out wr (Below.refl _ _))
          have HBR := hide (HB0.out.trans ((HW.out wr (Below.refl _ _)).mono (by rw [s0]; exact Nat.le_succ _)))
          by_cases hqd : q = d.size
          · subst hqd
            have HE := hide (dc_yes (d := d) HRI.out (ok_yes (by rw [Int.toNat_natCast, ← HN.out]; exact HDA.out) hd2))
            have HG := hide (HGR.out.base (b2 := w.heap.size) (by omega))
            go_wp2_with fail
            go_ret2
            exact ⟨_, by rw [HE.out.1]; rfl, by rw [HE.out.2]; exact HG.out, HBR.out⟩
          · have HE := hide (dc_no (d := d) HRI.out (ok_end (by rw [Int.toNat_natCast, ← HN.out]; exact HDA.out) hqd))
            have hqi : ((q : Int) != (d.size : Int)) = true := by simp; omega
            go_wp2_with fail
            go_ret2
            exact ⟨_, by rw [HE.out.1]; rfl, by rw [HE.out.2]; exact GroupsAt.nil _ _, HBR.out⟩
  · obtain ⟨e1, e2⟩ := dc_index (d := d) hri
    have HE1 := hide e1
    have HE2 := hide e2
    have hne : (riE m x != 0) = true := by simpa using hri
    clear e1 e2 hri
    generalize riE m x = RE at *
    go_wp2_with fail
    go_ret2
    exact ⟨_, by rw [HE1.out]; rfl, by rw [HE2.out]; exact GroupsAt.nil _ _, HB0.out.trans (HB1.out.mono (by omega))⟩
end Go.Proofs.Ytjibhdcnibgegaa
