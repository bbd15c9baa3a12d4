import Derived.Test.YtjibhdcnibgegaaRyRises
import Derived.Test.YtjibhdcnibgegaaRyEnc
namespace Go.Proofs.Ytjibhdcnibgegaa
open Go.RowKit
theorem allUp_at {k : Nat} {x : ByteArray} (h : allUp k x = true) {i : Nat} (hi : i + 1 < x.size / (k + 4)) : (Op.bytesLess (rdeH k x (i + 1)).toList (rdeH k x i).toList || (rdeH k x (i + 1)).toList == (rdeH k x i).toList) = false := by
  unfold allUp at h
  rw [List.all_eq_true] at h
  have := h (i + 1) (List.mem_range.2 hi)
  unfold upB at this
  rw [decide_eq_false (by omega : ¬ i + 1 = 0), Bool.false_or, show i + 1 - 1 = i by omega] at this
  rw [eq_beq]
  unfold lessS at this
  rw [Bool.or_comm]
  simpa using this
set_option maxHeartbeats 2000000 in
set_option maxRecDepth 100000 in
/-- the document's Decode -/
theorem rdecode_any (m : Int) (x d : ByteArray) (hx : x.size ≤ 1048576) (hd : d.size ≤ 1048576) (w : World) :
    Calls Try.prog 25 #[.int .i64 m, .agg #[.string x, .string d]] w fun e w' => ∃ v, e = .returned (.tuple #[v, .int .i64 (dcE m x d)]) ∧ GroupsAt w' w.heap.size v (dcG m x d) ∧ Below w.heap.size w w' := by
  obtain ⟨W0, hW0⟩ : ∃ W0, W0 = w.alloc (.cells #[.string x, .string d] 52) := ⟨_, rfl⟩
  have s0 : W0.heap.size = w.heap.size + 1 := by rw [hW0]; simp
  have b0 : Below w.heap.size w W0 := by rw [hW0]; exact (Below.refl _ w).alloc (Nat.le_refl _) _
  have k0 : W0.cell? ⟨w.heap.size, 0, none⟩ = some (.string x) := by rw [hW0]; simp
  have k1 : W0.cell? ⟨w.heap.size, 1, none⟩ = some (.string d) := by rw [hW0]; simp
  have CC : Hid (∀ w', Below W0.heap.size W0 w' → w'.cell? ⟨w.heap.size, 0, none⟩ = some (.string x) ∧ w'.cell? ⟨w.heap.size, 1, none⟩ = some (.string d)) := fun w' hw => by
    rw [hw.cell (by rw [s0]; exact Nat.lt_succ_self _), hw.cell (by rw [s0]; exact Nat.lt_succ_self _)]; exact ⟨k0, k1⟩
  have HB0 := hide b0
  clear b0
  by_cases hm : 1 ≤ m ∧ m ≤ 16
  · obtain ⟨k, rfl⟩ : ∃ k : Nat, m = (k : Int) := ⟨m.toNat, by omega⟩
    by_cases hq : x.size % (k + 4) = 0
    · have h1 := mod_eq hq
      rw [show ((k + 4 : Nat) : Int) = (k : Int) + 4 by omega] at h1
      have RS := hide (fun w' => rises_any k x (by omega) (by omega) w')
      cases hau : allUp k x with
      | false =>
        rw [hau] at RS
        have hri := ri_no (m := (k : Int)) (x := x) hm (fun h => by rw [Int.toNat_natCast, hau] at h; exact Bool.noConfusion h.2)
        obtain ⟨e1, e2⟩ := dc_index (d := d) (m := (k : Int)) (x := x) (by rw [hri.1]; omega)
        rw [hri.1] at e1
        have HE1 := hide e1
        have HE2 := hide e2
        clear e1 e2 hri hau hq
        go_enter Try.func25, Try.ntmps25
        go_wp2_with fail
        rw [← hW0]
        refine Calls.mono (RS.out _) ?_
        rintro e w1 ⟨rfl, hb1⟩
        have B1 := hide (HB0.out.trans (hb1.mono (by omega)))
        clear hb1
        go_wp2_with fail
        go_ret2
        exact ⟨_, by rw [HE1.out]; rfl, by rw [HE2.out]; exact GroupsAt.nil _ _, B1.out⟩
      | true =>
        rw [hau] at RS
        have hri := ri_yes (m := (k : Int)) (x := x) hm ⟨by rw [Int.toNat_natCast]; exact hq, by rw [Int.toNat_natCast]; exact hau⟩
        have HRI := hide hri.1
        have HAU := hide hau
        have HQ := hide hq
        clear hri hau hq
        have h2 : (x.size : Int) / ((k : Int) + 4) = ((x.size / (k + 4) : Nat) : Int) := by push_cast; rfl
        have hdv : x.size / (k + 4) ≤ x.size := Nat.div_le_self _ _
        obtain ⟨N, hN⟩ : ∃ N, N = x.size / (k + 4) := ⟨_, rfl⟩
        rw [← hN] at h2 hdv
        have HN := hide hN
        clear hN
        by_cases hbig : 65536 < d.size
        · obtain ⟨e1, e2⟩ := dc_no (m := (k : Int)) (x := x) HRI.out (ok_big hbig)
          have HE1 := hide e1
          have HE2 := hide e2
          have hbi : (65536 : Int) < (d.size : Int) := by omega
          clear e1 e2 hbig
          go_enter Try.func25, Try.ntmps25
          go_wp2_with fail
          rw [← hW0]
          refine Calls.mono (RS.out _) ?_
          rintro e w1 ⟨rfl, hb1⟩
          obtain ⟨c10, c11⟩ := CC.out w1 hb1
          have B1 := hide (HB0.out.trans (hb1.mono (by omega)))
          clear hb1 hW0
          go_wp2_with fail
          go_ret2
          exact ⟨_, by rw [HE1.out]; rfl, by rw [HE2.out]; exact GroupsAt.nil _ _, B1.out⟩
        · have hbi : (d.size : Int) ≤ 65536 := by omega
          have hd2 : d.size ≤ 65536 := by omega
          obtain ⟨i0, hi, hz0, hz1, hz2⟩ := info_parts infoG
          have RR := hide (fun q w' => rreadRecord_any d q (by omega) w')
          go_enter Try.func25, Try.ntmps25
          go_wp2_with fail
          rw [← hW0]
          refine Calls.mono (RS.out _) ?_
          rintro e w1 ⟨rfl, hb1⟩
          obtain ⟨c10, c11⟩ := CC.out w1 hb1
          have HB1 := hide hb1
          clear hb1 hW0 k0 k1
          go_wp2_with fail
          go_loopw [7, 8, 9] (fun v at' i wr => ∃ (j : Nat) (l : List GR) (q : Nat), j ≤ N ∧ i = .int .i64 (j : Int) ∧ at' = .int .i64 (q : Int) ∧ chAt k x d j = some (l, q) ∧ GroupsAt wr W0.heap.size v l ∧ Below W0.heap.size W0 wr)
            (fun _ _ i _ => N - (intOf i).toNat)
          case atStart => exact ⟨0, [], 0, by omega, rfl, rfl, rfl, GroupsAt.nil _ _, HB1.out⟩
          case round =>
            obtain ⟨j, l, q, hj, rfl, rfl, hch, hgr, hnx⟩ := hrel
            obtain ⟨hq, hll, hed, hfa⟩ := ch_facts j l q (by rw [← HN.out]; exact hj) hch
            have hsz := hnx.size
            obtain ⟨cr0, cr1⟩ := CC.out wr hnx
            have HCH := hide hch
            have HGR := hide hgr
            have HNX := hide hnx
            have HED := hide hed
            have HFA := hide hfa
            clear hch hgr hnx hed hfa c10 c11
            by_cases hlt : j < N
            · have hji : (j : Int) < (N : Int) := by omega
              have R2 := hide (RR.out (q : Int) wr)
              have hin : 0 ≤ (q : Int) ∧ (q : Int) ≤ (d.size : Int) := by omega
              by_cases he : errL (spL d q) = 0
              · obtain ⟨r1, r2, r3⟩ := rr_good hin (by rwa [Int.toNat_natCast])
                rw [r1, r2, r3, Int.toNat_natCast] at R2
                clear r1 r2 r3
                have HST := hide (ch_step (m := k) (x := x) HCH.out he)
                have hin3 := in_index (x := x) (m := k) (i := j) (by rw [← HN.out]; exact hlt)
                obtain ⟨p, hp⟩ : ∃ p, p = j * (k + 4) := ⟨_, rfl⟩
                have e1 : (j : Int) * ((k : Int) + 4) = (p : Int) := by rw [hp]; push_cast; rfl
                have hA : x.extract p (p + k) = rdeH k x j := by rw [hp]; rfl
                rw [← hp] at hin3
                have HA := hide hA
                clear hp hA he
                generalize rdeH k x j = XH at *
                generalize spL d q = L at *
                generalize spN d q = NN at *
                have hw1 : IntKind.i64.wrap (p : Int) = (p : Int) := i64_in (by omega) (by omega)
                have hw3 : IntKind.i64.wrap ((p : Int) + (k : Int)) = (p : Int) + (k : Int) := i64_in (by omega) (by omega)
                go_wp2_with fail
                refine Calls.mono R2.out ?_
                rintro e w2 ⟨v2, rfl, o2, hb2⟩
                obtain ⟨c20, c21⟩ := CC.out w2 (HNX.out.trans (hb2.mono hsz))
                have s2 := hb2.size
                obtain ⟨ts, t1, t2, t3⟩ := HGR.out.below hb2
                obtain ⟨a2, g2, cap2, rfl, _⟩ := own_pairs o2
                have O2 := hide o2
                have T2 := hide t2
                have T3 := hide t3
                have HB2 := hide (HNX.out.trans (hb2.mono hsz))
                have hts : ts.length = j := by rw [← hll, ← t1, List.length_map]
                obtain ⟨hm1, hm2⟩ : ts.length + 1 ≤ maxLen ∧ (ts.length + 1) * 40 ≤ 140737488355328 := by rw [hts]; unfold maxLen; omega
                have s12 : W0.heap.size ≤ w2.heap.size := Nat.le_trans hsz s2
                have CG := hide (cell_grp w2 (x.extract p (p + k)) L (.slice a2 L.length cap2))
                clear o2 hb2 t2 t3
                go_wp2_with (at_builtin; refine wpList_append_own _ rfl _ _ 53 rfl W0.heap.size 88 i0 (.agg #[.string ⟨#[]⟩, .slice none 0 0]) 2 40 Try.underlying53 hi hz0 hz1 hz2 rfl (by decide) _ _ _ rfl (T2.out.alloc _) ⟨w2.heap.size, 0, none⟩ 1 1 (gcell [((x.extract p (p + k), L), .slice a2 L.length cap2)]) rfl (g_one_len _ _ _) CG.out (g_one _ _ _ rfl) hm1 hm2 (le_alloc s12) ?_; intro v3 w3 o3 g3 n3; clear n3; have O3 := hide o3; have G3 := hide g3; clear o3 g3)
                go_roundw
                case rel =>
                  refine ⟨j + 1, _, _, by omega, by go_num, rfl, HST.out, ⟨ts ++ [((XH, L), .slice a2 L.length cap2)], by rw [List.map_append, t1]; rfl, ?_, fun t ht => ?_⟩, ?_⟩
                  · have := O3.out
                    rw [HA.out] at this
                    rw [gcell_append, List.length_append]
                    exact this
                  · rcases List.mem_append.1 ht with ht | ht
                    · exact row_type ((T3.out t ht).alloc _) (T2.out.alloc _) (by decide) G3.out
                    · obtain rfl : t = ((XH, L), .slice a2 L.length cap2) := by simpa using ht
                      exact row_type ((own_base O2.out hsz).alloc _) (T2.out.alloc _) (by decide) G3.out
                  · exact (HB2.out.alloc s12 _).grown G3.out (le_alloc s12) (fun t ht => (T2.out.lt t ht).1)
                case measure => simp [intOf]; omega
              · obtain ⟨r1, r2, r3⟩ := rr_bad hin (by rwa [Int.toNat_natCast])
                rw [r1, r2, r3] at R2
                have hnn : chAt k x d (x.size / (k + 4)) = none := by
                  rw [← HN.out, show N = j + 1 + (N - (j + 1)) by omega]
                  exact ch_none (ch_stop HCH.out he) _
                have HE := hide (dc_no (d := d) HRI.out (dc_ref_none hnn))
                clear r1 r2 r3 hnn he
                go_wp2_with fail
                refine Calls.mono R2.out ?_
                rintro e w2 ⟨v2, rfl, o2, hb2⟩
                have B2 := hide (HB0.out.trans ((HNX.out.trans (hb2.mono hsz)).mono (by omega)))
                clear o2 hb2
                go_wp2_with fail
                go_ret2
                exact ⟨_, by rw [HE.out.1]; rfl, by rw [HE.out.2]; exact GroupsAt.nil _ _, B2.out⟩
            · obtain rfl : j = N := by omega
              have RF := hide (dc_ref (d := d) HQ.out hd2 (by rw [← HN.out]; exact HCH.out))
              have hH : ∀ i (h : i < l.length), l[i].1.size = k ∧ errL l[i].2 = 0 := fun i hi => by
                obtain ⟨f1, f2⟩ := HFA.out i hi
                exact ⟨by rw [f1]; exact rdeH_size (by rw [← HN.out]; omega), f2⟩
              have hU : ∀ i (h : i + 1 < l.length), (Op.bytesLess l[i + 1].1.toList l[i].1.toList || l[i + 1].1.toList == l[i].1.toList) = false := fun i hi => by
                rw [(HFA.out (i + 1) hi).1, (HFA.out i (by omega)).1]
                exact allUp_at HAU.out (by rw [← HN.out]; omega)
              have EN := hide (rencode_any k (by omega) l u7 W0.heap.size wr HGR.out hH hU (by omega) (by rw [HED.out, List.length_take]; omega))
              clear hH hU
              generalize strOf (encN l l.length) = XI at *
              generalize strOf (encD l) = XD at *
              have hji : (j : Int) ≤ (j : Int) := by omega
              go_wp2_with fail
              refine Calls.mono EN.out ?_
              rintro e w2 ⟨rfl, hb2⟩
              obtain ⟨c20, c21⟩ := CC.out w2 (HNX.out.trans (hb2.mono hsz))
              have HG2 := hide (HGR.out.below hb2)
              have B2 := hide (HNX.out.trans (hb2.mono hsz))
              have s2 := Nat.le_trans hsz hb2.size
              clear hb2
              have wz : w.heap.size < w2.heap.size := by omega
              have c30 : (w2.alloc (.cells #[.string XI, .string XD] 52)).cell? ⟨w.heap.size, 0, none⟩ = some (.string x) := by rw [((Below.refl w2.heap.size w2).alloc (Nat.le_refl _) _).cell (by exact wz)]; exact c20
              have c31 : (w2.alloc (.cells #[.string XI, .string XD] 52)).cell? ⟨w.heap.size, 1, none⟩ = some (.string d) := by rw [((Below.refl w2.heap.size w2).alloc (Nat.le_refl _) _).cell (by exact wz)]; exact c21
              have B3 := hide ((HB0.out.trans (B2.out.mono (by omega))).alloc (by omega) (.cells #[.string XI, .string XD] 52))
              have HG3 := hide ((HG2.out.below ((Below.refl w2.heap.size w2).alloc (Nat.le_refl _) (.cells #[.string XI, .string XD] 52))).base (b2 := w.heap.size) (by omega))
              clear c20 c21 cr0 cr1
              by_cases hI : XI = x
              · have hIe : (XI.toList == x.toList) = true := by rw [eq_beq]; exact decide_eq_true hI
                have hIn : (XI.toList != x.toList) = false := by rw [bne, hIe]; rfl
                by_cases hD : XD = d
                · have hDe : (XD.toList == d.toList) = true := by rw [eq_beq]; exact decide_eq_true hD
                  have hDn : (XD.toList != d.toList) = false := by rw [bne, hDe]; rfl
                  have HE := hide (dc_yes HRI.out (RF.out.trans (if_pos ⟨hI, hD⟩)))
                  clear hI hD
                  go_wp2_with fail
                  go_ret2
                  exact ⟨_, by rw [HE.out.1]; rfl, by rw [HE.out.2]; exact HG3.out, B3.out⟩
                · have hDe : (XD.toList == d.toList) = false := by rw [eq_beq]; exact decide_eq_false hD
                  have hDn : (XD.toList != d.toList) = true := by rw [bne, hDe]; rfl
                  have HE := hide (dc_no HRI.out (RF.out.trans (if_neg (fun h => hD h.2))))
                  clear hI hD
                  go_wp2_with fail
                  go_ret2
                  exact ⟨_, by rw [HE.out.1]; rfl, by rw [HE.out.2]; exact GroupsAt.nil _ _, B3.out⟩
              · have hIe : (XI.toList == x.toList) = false := by rw [eq_beq]; exact decide_eq_false hI
                have hIn : (XI.toList != x.toList) = true := by rw [bne, hIe]; rfl
                have HE := hide (dc_no HRI.out (RF.out.trans (if_neg (fun h => hI h.1))))
                clear hI
                go_wp2_with fail
                go_ret2
                exact ⟨_, by rw [HE.out.1]; rfl, by rw [HE.out.2]; exact GroupsAt.nil _ _, B3.out⟩
    · have h1 := mod_ne hq
      rw [show ((k + 4 : Nat) : Int) = (k : Int) + 4 by omega] at h1
      have hri := ri_no (m := (k : Int)) (x := x) hm (fun h => by rw [Int.toNat_natCast] at h; exact hq h.1)
      obtain ⟨e1, e2⟩ := dc_index (d := d) (m := (k : Int)) (x := x) (by rw [hri.1]; omega)
      rw [hri.1] at e1
      have HE1 := hide e1
      have HE2 := hide e2
      clear e1 e2 hri hq
      go_enter Try.func25, Try.ntmps25
      go_wp2_with fail
      go_ret2
      exact ⟨_, by rw [HE1.out]; rfl, by rw [HE2.out]; exact GroupsAt.nil _ _, by rw [← hW0]; exact HB0.out⟩
  · have hri := ri_width (x := x) hm
    obtain ⟨e1, e2⟩ := dc_index (d := d) (m := m) (x := x) (by rw [hri.1]; omega)
    rw [hri.1] at e1
    have HE1 := hide e1
    have HE2 := hide e2
    clear e1 e2 hri
    by_cases hneg : m < 1
    · go_enter Try.func25, Try.ntmps25
      go_wp2_with fail
      go_ret2
      exact ⟨_, by rw [HE1.out]; rfl, by rw [HE2.out]; exact GroupsAt.nil _ _, by rw [← hW0]; exact HB0.out⟩
    · have hgt : 16 < m := by omega
      clear hm
      go_enter Try.func25, Try.ntmps25
      go_wp2_with fail
      go_ret2
      exact ⟨_, by rw [HE1.out]; rfl, by rw [HE2.out]; exact GroupsAt.nil _ _, by rw [← hW0]; exact HB0.out⟩
end Go.Proofs.Ytjibhdcnibgegaa
