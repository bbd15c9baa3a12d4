import Derived.Test.YthihmgdefbahpaaPart6
import Derived.Test.YthihmgdefbahpaaPart2
import Derived.Laws.ResultCell
namespace Go.Proofs.Ythihmgdefbahpaa
open Go.RowKit
theorem allUp_at {k : Nat} {x : ByteArray} (h : allUp k x = true) {i : Nat} (hi : i + 1 < x.size / (k + 4)) : (Op.bytesLess (rdeH k x (i + 1)).toList (rdeH k x i).toList || (rdeH k x (i + 1)).toList == (rdeH k x i).toList) = false := by
  unfold allUp at h
  rw [List.all_eq_true] at h
  have := h (i + 1) (List.mem_range.2 hi)
  unfold upB at this
  rw [decide_eq_false (by omega : ¬ i + 1 = 0), Bool.false_or, show i + 1 - 1 = i by omega] at this
  rw [eq_beq]
  unfold lessS at this
  rw [Bool.or_comm]
  simpa using this
set_option maxHeartbeats 2000000 in
set_option maxRecDepth 100000 in
/-- the document's Decode -/
theorem rdecode_any (m : Int) (x d : ByteArray) (hx : x.size ≤ 1048576) (hd : d.size ≤ 1048576) (w : World) :
    Calls Try.prog 39 #[.int .i64 m, .agg #[.string x, .string d]] w fun e w' => ∃ v, e = .returned (.tuple #[v, .int .i64 (dcE m x d)]) ∧ GroupsAt w' w.heap.size v (dcG m x d) ∧ Below w.heap.size w w' := by
  obtain ⟨W0, hW0⟩ : ∃ W0, W0 = w.alloc (.cells #[.string x, .string d] 23) := ⟨_, rfl⟩
  have s0 : W0.heap.size = w.heap.size + 1 := by rw [hW0]; simp
  have b0 : Below w.heap.size w W0 := by rw [hW0]; exact (Below.refl _ w).alloc (Nat.le_refl _) _
  have k0 : W0.cell? ⟨w.heap.size, 0, none⟩ = some (.string x) := by rw [hW0]; simp
  have k1 : W0.cell? ⟨w.heap.size, 1, none⟩ = some (.string d) := by rw [hW0]; simp
  have CC : Hid (∀ w', Below W0.heap.size W0 w' → w'.cell? ⟨w.heap.size, 0, none⟩ = some (.string x) ∧ w'.cell? ⟨w.heap.size, 1, none⟩ = some (.string d)) := fun w' hw => by
    rw [hw.cell (by rw [s0]; exact Nat.lt_succ_self _), hw.cell (by rw [s0]; exact Nat.lt_succ_self _)]; exact ⟨k0, k1⟩
  have HB0 := hide b0
  clear b0
  by_cases hm : 1 ≤ m ∧ m ≤ 16
  · obtain ⟨k, rfl⟩ : ∃ k : Nat, m = (k : Int) := ⟨m.toNat, by omega⟩
    by_cases hq : x.size % (k + 4) = 0
    · have h1 := mod_eq hq
      rw [show ((k + 4 : Nat) : Int) = (k : Int) + 4 by omega] at h1
      have RS := hide (fun w' => rises_any k x (by omega) (by omega) w')
      cases hau : allUp k x with
      | false =>
        rw [hau] at RS
        have hri := ri_no (m := (k : Int)) (x := x) hm (fun h => by rw [Int.toNat_natCast, hau] at h; exact Bool.noConfusion h.2)
        obtain ⟨e1, e2⟩ := dc_index (d := d) (m := (k : Int)) (x := x) (by rw [hri.1]; omega)
        rw [hri.1] at e1
        have HE1 := hide e1
        have HE2 := hide e2
        clear e1 e2 hri hau hq
        go_enter Try.func39, Try.ntmps39
        go_wp2_with fail
        rw [← hW0]
        refine Calls.mono (RS.out _) ?_
        rintro e w1 ⟨rfl, hb1⟩
        have B1 := hide (HB0.out.trans (hb1.mono (by omega)))
        clear hb1
        go_wp2_with fail
        go_ret2
        exact ⟨_, by rw [HE1.out]; rfl, by rw [HE2.out]; exact GroupsAt.nil _ _, B1.out⟩
      | true =>
        rw [hau] at RS
        have hri := ri_yes (m := (k : Int)) (x := x) hm ⟨by rw [Int.toNat_natCast]; exact hq, by rw [Int.toNat_natCast]; exact hau⟩
        have HRI := hide hri.1
        have HAU := hide hau
        have HQ := hide hq
        clear hri hau hq
        have h2 : (x.size : Int) / ((k : Int) + 4) = ((x.size / (k + 4) : Nat) : Int) := by push_cast; rfl
        have hdv : x.size / (k + 4) ≤ x.size := Nat.div_le_self _ _
        obtain ⟨N, hN⟩ : ∃ N, N = x.size / (k + 4) := ⟨_, rfl⟩
        rw [← hN] at h2 hdv
        have HN := hide hN
        clear hN
        by_cases hbig : 65536 < d.size
        · obtain ⟨e1, e2⟩ := dc_no (m := (k : Int)) (x := x) HRI.out (ok_big hbig)
          have HE1 := hide e1
          have HE2 := hide e2
          have hbi : (65536 : Int) < (d.size : Int) := by omega
          clear e1 e2 hbig
          go_enter Try.func39, Try.ntmps39
          go_wp2_with fail
          rw [← hW0]
          refine Calls.mono (RS.out _) ?_
          rintro e w1 ⟨rfl, hb1⟩
          obtain ⟨c10, c11⟩ := CC.out w1 hb1
          have B1 := hide (HB0.out.trans (hb1.mono (by omega)))
          clear hb1 hW0
          go_wp2_with fail
          go_ret2
          exact ⟨_, by rw [HE1.out]; rfl, by rw [HE2.out]; exact GroupsAt.nil _ _, B1.out⟩
        · have hbi : (d.size : Int) ≤ 65536 := by omega
          have hd2 : d.size ≤ 65536 := by omega
          obtain ⟨i0, hi, hz0, hz1, hz2⟩ := info_parts infoG
          have RR := hide (fun q w' => rreadRecord_any d q (by omega) w')
          go_enter Try.func39, Try.ntmps39
          go_wp2_with fail
          rw [← hW0]
          refine Calls.mono (RS.out _) ?_
          rintro e w1 ⟨rfl, hb1⟩
          obtain ⟨c10, c11⟩ := CC.out w1 hb1
          have HB1 := hide hb1
          clear hb1 hW0 k0 k1
          go_wp2_with fail
          go_loopw [7, 8, 9] (fun v at' i wr => ∃ (j : Nat) (l : List GR) (q : Nat), j ≤ N ∧ i = .int .i64 (j : Int) ∧ at' = .int .i64 (q : Int) ∧ chAt k x d j = some (l, q) ∧ GroupsAt wr W0.heap.size v l ∧ Below W0.heap.size W0 wr)
            (fun _ _ i _ => N - (intOf i).toNat)
          case atStart => exact ⟨0, [], 0, by omega, rfl, rfl, rfl, GroupsAt.nil _ _, HB1.out⟩
          case round =>
            obtain ⟨j, l, q, hj, rfl, rfl, hch, hgr, hnx⟩ := hrel
            obtain ⟨hq, hll, hed, hfa⟩ := ch_facts j l q (by rw [← HN.out]; exact hj) hch
            have hsz := hnx.size
            obtain ⟨cr0, cr1⟩ := CC.out wr hnx
            have HCH := hide hch
            have HGR := hide hgr
            have HNX := hide hnx
            have HED := hide hed
            have HFA := hide hfa
            clear hch hgr hnx hed hfa c10 c11
            by_cases hlt : j < N
            · have hji : (j : Int) < (N : Int) := by omega
              have R2 := hide (RR.out (q : Int) wr)
              have hin : 0 ≤ (q : Int) ∧ (q : Int) ≤ (d.size : Int) := by omega
              by_cases he : errL (spL d q) = 0
              · obtain ⟨r1, r2, r3⟩ := rr_good hin (by rwa [Int.toNat_natCast])
                rw [r1, r2, r3, Int.toNat_natCast] at R2
                clear r1 r2 r3
                have HST := hide (ch_step (m := k) (x := x) HCH.out he)
                have hin3 := in_index (x := x) (m := k) (i := j) (by rw [← HN.out]; exact hlt)
                obtain ⟨p, hp⟩ : ∃ p, p = j * (k + 4) := ⟨_, rfl⟩
                have e1 : (j : Int) * ((k : Int) + 4) = (p : Int) := by rw [hp]; push_cast; rfl
                have hA : x.extract p (p + k) = rdeH k x j := by rw [hp]; rfl
                rw [← hp] at hin3
                have HA := hide hA
                clear hp hA he
                generalize rdeH k x j = XH at *
                generalize spL d q = L at *
                generalize spN d q = NN at *
                have hw1 : IntKind.i64.wrap (p : Int) = (p : Int) := i64_in (by omega) (by omega)
                have hw3 : IntKind.i64.wrap ((p : Int) + (k : Int)) = (p : Int) + (k : Int) := i64_in (by omega) (by omega)
                go_wp2_with fail
                refine Calls.mono R2.out ?_
                rintro e w2 ⟨v2, rfl, o2, hb2⟩
                obtain ⟨c20, c21⟩ := CC.out w2 (HNX.out.trans (hb2.mono hsz))
                have s2 := hb2.size
                obtain ⟨ts, t1, t2, t3⟩ := HGR.out.below hb2
                obtain ⟨a2, g2, cap2, rfl, _⟩ := own_pairs o2
                have O2 := hide o2
                have T2 := hide t2
                have T3 := hide t3
                have HB2 := hide (HNX.out.trans (hb2.mono hsz))
                have hts : ts.length = j := by rw [← hll, ← t1, List.length_map]
                obtain ⟨hm1, hm2⟩ : ts.length + 1 ≤ maxLen ∧ (ts.length + 1) * 40 ≤ 140737488355328 := by rw [hts]; unfold maxLen; omega
                have s12 : W0.heap.size ≤ w2.heap.size := Nat.le_trans hsz s2
                have CG := hide (cell_grp w2 (x.extract p (p + k)) L (.slice a2 L.length cap2))
                clear o2 hb2 t2 t3
                go_wp2_with (at_builtin; refine wpList_append_own _ rfl _ _ 31 rfl W0.heap.size 49 i0 (.agg #[.string ⟨#[]⟩, .slice none 0 0]) 2 40 Try.underlying31 hi hz0 hz1 hz2 rfl (by decide) _ _ _ rfl (T2.out.alloc _) ⟨w2.heap.size, 0, none⟩ 1 1 (gcell [((x.extract p (p + k), L), .slice a2 L.length cap2)]) rfl (g_one_len _ _ _) CG.out (g_one _ _ _ rfl) hm1 hm2 (le_alloc s12) ?_; intro v3 w3 o3 g3 n3; clear n3; have O3 := hide o3; have G3 := hide g3; clear o3 g3)
                go_roundw
                case rel =>
                  refine ⟨j + 1, _, _, by omega, by go_num, rfl, HST.out, ⟨ts ++ [((XH, L), .slice a2 L.length cap2)], by rw [List.map_append, t1]; rfl, ?_, fun t ht => ?_⟩, ?_⟩
                  · have := O3.out
                    rw [HA.out] at this
                    rw [gcell_append, List.length_append]
                    exact this
                  · rcases List.mem_append.1 ht with ht | ht
                    · exact row_type ((T3.out t ht).alloc _) (T2.out.alloc _) (by decide) G3.out
                    · obtain rfl : t = ((XH, L), .slice a2 L.length cap2) := by simpa using ht
                      exact row_type ((own_base O2.out hsz).alloc _) (T2.out.alloc _) (by decide) G3.out
                  · exact (HB2.out.alloc s12 _).grown G3.out (le_alloc s12) (fun t ht => (T2.out.lt t ht).1)
                case measure => simp [intOf]; omega
              · obtain ⟨r1, r2, r3⟩ := rr_bad hin (by rwa [Int.toNat_natCast])
                rw [r1, r2, r3] at R2
                have hnn : chAt k x d (x.size / (k + 4)) = none := by
                  rw [← HN.out, show N = j + 1 + (N - (j + 1)) by omega]
                  exact ch_none (ch_stop HCH.out he) _
                have HE := hide (dc_no (d := d) HRI.out (dc_ref_none hnn))
                clear r1 r2 r3 hnn he
                go_wp2_with fail
                refine Calls.mono R2.out ?_
                rintro e w2 ⟨v2, rfl, o2, hb2⟩
                have B2 := hide (HB0.out.trans ((HNX.out.trans (hb2.mono hsz)).mono (by omega)))
                clear o2 hb2
                go_wp2_with fail
                go_ret2
                exact ⟨_, by rw [HE.out.1]; rfl, by rw [HE.out.2]; exact GroupsAt.nil _ _, B2.out⟩
            · obtain rfl : j = N := by omega
              have RF := hide (dc_ref (d := d) HQ.out hd2 (by rw [← HN.out]; exact HCH.out))
              have hH : ∀ i (h : i < l.length), l[i].1.size = k ∧ errL l[i].2 = 0 := fun i hi => by
                obtain ⟨f1, f2⟩ := HFA.out i hi
                exact ⟨by rw [f1]; exact rdeH_size (by rw [← HN.out]; omega), f2⟩
              have hU : ∀ i (h : i + 1 < l.length), (Op.bytesLess l[i + 1].1.toList l[i].1.toList || l[i + 1].1.toList == l[i].1.toList) = false := fun i hi => by
                rw [(HFA.out (i + 1) hi).1, (HFA.out i (by omega)).1]
                exact allUp_at HAU.out (by rw [← HN.out]; omega)
              have EN := hide (rencode_any k (by omega) l u7 W0.heap.size wr HGR.out hH hU (by omega) (by rw [HED.out, List.length_take]; omega))
              clear hH hU
              generalize strOf (encN l l.length) = XI at *
              generalize strOf (encD l) = XD at *
              have hji : (j : Int) ≤ (j : Int) := by omega
              go_wp2_with fail
              refine Calls.mono EN.out ?_
              rintro e w2 ⟨rfl, hb2⟩
              obtain ⟨c20, c21⟩ := CC.out w2 (HNX.out.trans (hb2.mono hsz))
              have HG2 := hide (HGR.out.below hb2)
              have B2 := hide (HNX.out.trans (hb2.mono hsz))
              have s2 := Nat.le_trans hsz hb2.size
              clear hb2
              have wz : w.heap.size < w2.heap.size := by omega
              have c30 : (w2.alloc (.cells #[.string XI, .string XD] 23)).cell? ⟨w.heap.size, 0, none⟩ = some (.string x) := by rw [((Below.refl w2.heap.size w2).alloc (Nat.le_refl _) _).cell (by exact wz)]; exact c20
              have c31 : (w2.alloc (.cells #[.string XI, .string XD] 23)).cell? ⟨w.heap.size, 1, none⟩ = some (.string d) := by rw [((Below.refl w2.heap.size w2).alloc (Nat.le_refl _) _).cell (by exact wz)]; exact c21
              have B3 := hide ((HB0.out.trans (B2.out.mono (by omega))).alloc (by omega) (.cells #[.string XI, .string XD] 23))
              have HG3 := hide ((HG2.out.below ((Below.refl w2.heap.size w2).alloc (Nat.le_refl _) (.cells #[.string XI, .string XD] 23))).base (b2 := w.heap.size) (by omega))
              clear c20 c21 cr0 cr1
              by_cases hI : XI = x
              · have hIe : (XI.toList == x.toList) = true := by rw [eq_beq]; exact decide_eq_true hI
                have hIn : (XI.toList != x.toList) = false := by rw [bne, hIe]; rfl
                by_cases hD : XD = d
                · have hDe : (XD.toList == d.toList) = true := by rw [eq_beq]; exact decide_eq_true hD
                  have hDn : (XD.toList != d.toList) = false := by rw [bne, hDe]; rfl
                  have HE := hide (dc_yes HRI.out (RF.out.trans (if_pos ⟨hI, hD⟩)))
                  clear hI hD
                  go_wp2_with fail
                  go_ret2
                  exact ⟨_, by rw [HE.out.1]; rfl, by rw [HE.out.2]; exact HG3.out, B3.out⟩
                · have hDe : (XD.toList == d.toList) = false := by rw [eq_beq]; exact decide_eq_false hD
                  have hDn : (XD.toList != d.toList) = true := by rw [bne, hDe]; rfl
                  have HE := hide (dc_no HRI.out (RF.out.trans (if_neg (fun h => hD h.2))))
                  clear hI hD
                  go_wp2_with fail
                  go_ret2
                  exact ⟨_, by rw [HE.out.1]; rfl, by rw [HE.out.2]; exact GroupsAt.nil _ _, B3.out⟩
              · have hIe : (XI.toList == x.toList) = false := by rw [eq_beq]; exact decide_eq_false hI
                have hIn : (XI.toList != x.toList) = true := by rw [bne, hIe]; rfl
                have HE := hide (dc_no HRI.out (RF.out.trans (if_neg (fun h => hI h.1))))
                clear hI
                go_wp2_with fail
                go_ret2
                exact ⟨_, by rw [HE.out.1]; rfl, by rw [HE.out.2]; exact GroupsAt.nil _ _, B3.out⟩
    · have h1 := mod_ne hq
      rw [show ((k + 4 : Nat) : Int) = (k : Int) + 4 by omega] at h1
      have hri := ri_no (m := (k : Int)) (x := x) hm (fun h => by rw [Int.toNat_natCast] at h; exact hq h.1)
      obtain ⟨e1, e2⟩ := dc_index (d := d) (m := (k : Int)) (x := x) (by rw [hri.1]; omega)
      rw [hri.1] at e1
      have HE1 := hide e1
      have HE2 := hide e2
      clear e1 e2 hri hq
      go_enter Try.func39, Try.ntmps39
      go_wp2_with fail
      go_ret2
      exact ⟨_, by rw [HE1.out]; rfl, by rw [HE2.out]; exact GroupsAt.nil _ _, by rw [← hW0]; exact HB0.out⟩
  · have hri := ri_width (x := x) hm
    obtain ⟨e1, e2⟩ := dc_index (d := d) (m := m) (x := x) (by rw [hri.1]; omega)
    rw [hri.1] at e1
    have HE1 := hide e1
    have HE2 := hide e2
    clear e1 e2 hri
    by_cases hneg : m < 1
    · go_enter Try.func39, Try.ntmps39
      go_wp2_with fail
      go_ret2
      exact ⟨_, by rw [HE1.out]; rfl, by rw [HE2.out]; exact GroupsAt.nil _ _, by rw [← hW0]; exact HB0.out⟩
    · have hgt : 16 < m := by omega
      clear hm
      go_enter Try.func39, Try.ntmps39
      go_wp2_with fail
      go_ret2
      exact ⟨_, by rw [HE1.out]; rfl, by rw [HE2.out]; exact GroupsAt.nil _ _, by rw [← hW0]; exact HB0.out⟩
end Go.Proofs.Ythihmgdefbahpaa
namespace Go.Proofs.Ythihmgdefbahpaa
open Go.RowKit
/-- a slice's three parts -/
abbrev SQ := Option Addr × Nat × Nat
/-- a group in memory: its hash, and the slice of its pairs -/
abbrev GQ := ByteArray × SQ
def LiesG (b off : Nat) (w : World) (ps : List GQ) : Prop := ∀ i (h : i < ps.length), w.cell? ⟨b, off + i * 2, none⟩ = some (.string ps[i].1) ∧ w.cell? ⟨b, off + i * 2 + 1, none⟩ = some (.slice ps[i].2.1 ps[i].2.2.1 ps[i].2.2.2)
theorem LiesG.below {b off : Nat} {w w' : World} {ps : List GQ} (h : LiesG b off w ps) (hb : b < w.heap.size) (hw : Below w.heap.size w w') : LiesG b off w' ps := fun i hi => by
  rw [hw.cell (by exact hb), hw.cell (by exact hb)]; exact h i hi
set_option maxHeartbeats 1000000 in
set_option maxRecDepth 100000 in
theorem groupHash_any (k : ByteArray) (v : SQ) (w : World) : Calls Try.prog 36 #[.agg #[.string k, .slice v.1 v.2.1 v.2.2]] w fun e w' => e = .returned (.string k) ∧ Below w.heap.size w w' := by
  go_enter Try.func36, Try.ntmps36
  go_wp2
  go_ret
  refine ⟨rfl, ?_⟩
  first | exact Below.refl _ _ | exact (Below.refl _ w).alloc (Nat.le_refl _) _
theorem gq_at {ps : List GQ} {i : Nat} (h : i < ps.length) : ps.getD i default = ps[i] := by simp [List.getD, h]
set_option maxHeartbeats 1000000 in
set_option maxRecDepth 100000 in
set_option linter.unusedSimpArgs false in
/-- the closure of find, of groups -/
theorem cmpG_any (k : ByteArray) (v : SQ) (x : ByteArray) (T : Nat) (w : World) (hT : w.cell? ⟨T, 0, none⟩ = some (.func (.func 36) #[] #[])) (hlt : T < w.heap.size) :
    Calls Try.prog 56 #[.agg #[.string k, .slice v.1 v.2.1 v.2.2], .string x, .pointer (some ⟨T, 0, none⟩)] w fun e w' => e = .returned (.int .i64 (cmpI k x)) ∧ Below w.heap.size w w' := by
  have CM : Hid (∀ w', Calls Try.prog 57 #[.string k, .string x] w' fun e w'' => e = .returned (.int .i64 (cmpI k x)) ∧ w' = w'') := fun w' => compare_any k x w'
  generalize cmpI k x = Z at *
  go_enter Try.func56, Try.ntmps56
  go_wp2_with fail
  refine Calls.mono (groupHash_any _ _ _) ?_
  rintro e w1 ⟨rfl, hb1⟩
  have B1 := hide (((Below.refl w.heap.size w).alloc (Nat.le_refl _) (.cells #[.string k, .slice v.1 v.2.1 v.2.2] 49)).trans (hb1.mono (by simp)))
  clear hb1
  go_wp2_with fail
  refine Calls.mono (CM.out _) ?_
  rintro e w2 ⟨rfl, rfl⟩
  go_wp2
  go_ret
  exact ⟨rfl, B1.out⟩
set_option maxHeartbeats 2000000 in
set_option maxRecDepth 100000 in
set_option linter.unusedSimpArgs false in
/-- slices.BinarySearchFunc, of groups by their keys -/
theorem bsG_any (ao : Option Addr) (b off cap : Nat) (ps : List GQ) (x : ByteArray) (T : Nat) (w : World) (hao : 0 < ps.length → ao = some ⟨b, off, none⟩) (hb : 0 < ps.length → b < w.heap.size) (hl : LiesG b off w ps) (hlen : ps.length ≤ 1048576) (hr : Rises ps.length (fun i => (ps.getD i default).1))
    (hT : w.cell? ⟨T, 0, none⟩ = some (.func (.func 36) #[] #[])) (hlt : T < w.heap.size) :
    Calls Try.prog 55 #[.slice ao ps.length cap, .string x, .func (.func 56) #[] #[.pointer (some ⟨T, 0, none⟩)]] w
      fun e w' => BsSays ps.length (fun t => (ps.getD t default).1) x e ∧ Below w.heap.size w w' := by
  have HL := hide hl
  have HR := hide hr
  have CMP : Hid (∀ t, t < ps.length → ∀ w', Below w.heap.size w w' → Calls Try.prog 56 #[.agg #[.string (ps.getD t default).1, .slice (ps.getD t default).2.1 (ps.getD t default).2.2.1 (ps.getD t default).2.2.2], .string x, .pointer (some ⟨T, 0, none⟩)] w' fun e w'' => e = .returned (.int .i64 (cmpI (ps.getD t default).1 x)) ∧ Below w'.heap.size w' w'') := fun t _ w' hw => cmpG_any _ _ _ T w' (by rw [hw.cell (by exact hlt)]; exact hT) (Nat.lt_of_lt_of_le hlt hw.size)
  clear hl hr hT
  go_enter Try.func55, Try.ntmps55
  go_wp2_with fail
  go_loopw [9, 10] (fun i j wr => ∃ lo hi : Nat, i = .int .i64 (lo : Int) ∧ j = .int .i64 (hi : Int) ∧ lo ≤ hi ∧ hi ≤ ps.length ∧ (∀ t, t < lo → lessS (ps.getD t default).1 x = true) ∧ (∀ t, hi ≤ t → t < ps.length → lessS (ps.getD t default).1 x = false) ∧ Below w.heap.size w wr)
    (fun i j _ => (intOf j - intOf i).toNat)
  case atStart => exact ⟨0, ps.length, rfl, rfl, Nat.zero_le _, Nat.le_refl _, fun t ht => by omega, fun t h1 h2 => by omega, Below.refl _ _⟩
  case round =>
    obtain ⟨lo, hi, rfl, rfl, h1, h2, hlo, hhi, hnx⟩ := hrel
    have HLO := hide hlo
    have HHI := hide hhi
    have HNX := hide hnx
    clear hlo hhi
    by_cases hc : lo < hi
    · obtain ⟨m, hm⟩ : ∃ m, m = (lo + hi) / 2 := ⟨_, rfl⟩
      have hm1 : lo ≤ m := by omega
      have hm2 : m < hi := by omega
      have hml : m < ps.length := by omega
      obtain rfl := hao (by omega)
      have hb' := hb (by omega)
      obtain ⟨g0, g1⟩ := HL.out.below hb' hnx m hml
      rw [← gq_at hml] at g0 g1
      have hu : IntKind.u64.wrap ((lo : Int) + (hi : Int)) = (lo : Int) + (hi : Int) := by simp [IntKind.wrap, IntKind.signed, IntKind.bits]; omega
      have hh : ((lo : Int) + (hi : Int)) / 2 = (m : Int) := by omega
      have hmi : (m : Int) < (ps.length : Int) := by omega
      have C1 := hide (CMP.out m hml wr hnx)
      have UP := hide (search_up HR.out (x := x) hml)
      have DN := hide (search_down HR.out (x := x) (m := m))
      have HM := hide hm
      have hcl : (lo : Int) < (hi : Int) := by omega
      clear hm hnx
      generalize hK : (ps.getD m default).1 = K1 at *
      generalize (ps.getD m default).2 = V1 at *
      have HK := hide hK
      clear hK
      have hsz := HNX.out.size
      go_wp2_with fail
      refine Calls.mono C1.out ?_
      rintro e w1 ⟨rfl, hb1⟩
      have B1 := hide (HNX.out.trans (hb1.mono hsz))
      clear hb1
      by_cases hz : cmpI K1 x < 0
      · have hls := cmpI_neg.1 hz
        have HUP : Hid (∀ t, t ≤ m → lessS (ps.getD t default).1 x = true) := UP.out hls
        clear hls
        go_wp2_with fail
        go_roundw
        case rel =>
          refine ⟨m + 1, hi, by go_num, rfl, by omega, h2, fun t ht => HUP.out t (by omega), HHI.out, B1.out⟩
        case measure => simp [intOf]; omega
      · have hls : lessS K1 x = false := by
          cases hq : lessS K1 x with
          | false => rfl
          | true => exact absurd (cmpI_neg.2 hq) hz
        have HDN : Hid (∀ t, m ≤ t → t < ps.length → lessS (ps.getD t default).1 x = false) := DN.out hls
        clear hls
        go_wp2_with fail
        go_roundw
        case rel =>
          refine ⟨lo, m, rfl, rfl, hm1, by omega, HLO.out, HDN.out, B1.out⟩
        case measure => simp [intOf]; omega
    · obtain rfl : lo = hi := by omega
      have END := hide (fun j (hj : j < ps.length) (e : (ps.getD j default).1 = x) => search_end HR.out h2 HLO.out HHI.out hj e)
      have hcl : ¬ (lo : Int) < (lo : Int) := by omega
      by_cases hn : lo < ps.length
      · obtain rfl := hao (by omega)
        have hb' := hb (by omega)
        obtain ⟨g0, g1⟩ := HL.out.below hb' hnx lo hn
        rw [← gq_at hn] at g0 g1
        have C1 := hide (CMP.out lo hn wr hnx)
        have hni : (lo : Int) < (ps.length : Int) := by omega
        have hsz := hnx.size
        clear hnx
        generalize hK : (ps.getD lo default).1 = K1 at *
        generalize (ps.getD lo default).2 = V1 at *
        have HK := hide hK
        clear hK
        go_wp2_with fail
        refine Calls.mono C1.out ?_
        rintro e w1 ⟨rfl, hb1⟩
        have B1 := hide (HNX.out.trans (hb1.mono hsz))
        clear hb1
        by_cases hz : cmpI K1 x = 0
        · have HF : Hid (FoundAt ps.length (fun t => (ps.getD t default).1) x lo true) := found_yes hn (HK.out.trans (cmpI_zero.1 hz))
          have hzb : (cmpI K1 x == 0) = true := by rw [hz]; rfl
          clear hz
          go_wp2_with fail
          go_ret2
          exact ⟨⟨_, true, rfl, HF.out⟩, B1.out⟩
        · have HF : Hid (FoundAt ps.length (fun t => (ps.getD t default).1) x lo false) := by
            refine found_no (fun t ht e => ?_)
            have e2 := END.out t ht e
            rw [e2] at e
            exact hz (cmpI_zero.2 (HK.out.symm.trans e))
          have hzb : (cmpI K1 x == 0) = false := by simpa using hz
          clear hz
          go_wp2_with fail
          go_ret2
          exact ⟨⟨_, false, rfl, HF.out⟩, B1.out⟩
      · have HF : Hid (FoundAt ps.length (fun t => (ps.getD t default).1) x lo false) := by
          refine found_no (fun t ht e => ?_)
          have e2 := END.out t ht e
          omega
        have hni : ¬ (lo : Int) < (ps.length : Int) := by omega
        clear hnx
        go_wp2_with fail
        go_ret2
        exact ⟨⟨_, false, rfl, HF.out⟩, HNX.out⟩
end Go.Proofs.Ythihmgdefbahpaa
namespace Go.Proofs.Ythihmgdefbahpaa
open Go.RowKit
/-- the group of a hash, or none -/
def grpFor (ps : List GQ) (x : ByteArray) : Option GQ := ps.find? (fun p => decide (p.1 = x))
theorem grpFor_some {ps : List GQ} {x : ByteArray} {i : Nat} (hr : Rises ps.length (fun t => (ps.getD t default).1)) (hi : i < ps.length) (e : (ps.getD i default).1 = x) : grpFor ps x = some ps[i] := by
  unfold grpFor
  rw [List.find?_eq_some_iff_getElem]
  rw [gq_at hi] at e
  refine ⟨by simpa using e, i, hi, rfl, fun j hj => ?_⟩
  simp only [Bool.not_eq_true', decide_eq_false_iff_not]
  intro e2
  have := hr.inj (i := j) (j := i) (by omega) hi (by show (ps.getD j default).1 = (ps.getD i default).1; rw [gq_at (by omega), gq_at hi, e2, e])
  omega
theorem grpFor_none {ps : List GQ} {x : ByteArray} (h : ∀ t, t < ps.length → (ps.getD t default).1 ≠ x) : grpFor ps x = none := by
  unfold grpFor
  rw [List.find?_eq_none]
  intro p hp
  obtain ⟨i, hi, rfl⟩ := List.getElem_of_mem hp
  have := h i hi
  rw [gq_at hi] at this
  simpa using this
def grpForV (ps : List GQ) (x : ByteArray) : Value := match grpFor ps x with | some p => .agg #[.string p.1, .slice p.2.1 p.2.2.1 p.2.2.2] | none => .agg #[.string ⟨#[]⟩, .slice none 0 0]
def grpForB (ps : List GQ) (x : ByteArray) : Bool := (grpFor ps x).isSome
set_option maxHeartbeats 1000000 in
set_option maxRecDepth 100000 in
set_option linter.unusedSimpArgs false in
/-- find of groups -/
theorem findG_any (ao : Option Addr) (b off cap : Nat) (ps : List GQ) (x : ByteArray) (w : World) (hao : 0 < ps.length → ao = some ⟨b, off, none⟩) (hb : 0 < ps.length → b < w.heap.size) (hl : LiesG b off w ps) (hlen : ps.length ≤ 1048576) (hr : Rises ps.length (fun i => (ps.getD i default).1)) :
    Calls Try.prog 35 #[.slice ao ps.length cap, .string x, .func (.func 36) #[] #[]] w fun e w' => e = .returned (.tuple #[grpForV ps x, .bool (grpForB ps x)]) ∧ Below w.heap.size w w' := by
  go_enter Try.func35, Try.ntmps35
  obtain ⟨W2, hW2⟩ : ∃ W2, W2 = (w.alloc (.cells #[.func (.func 36) #[] #[]] 82)).alloc (.cells #[.string ⟨#[]⟩, .slice none 0 0] 49) := ⟨_, rfl⟩
  have s2 : W2.heap.size = w.heap.size + 2 := by rw [hW2]; simp
  have b2 : Below w.heap.size w W2 := by rw [hW2]; exact ((Below.refl _ w).alloc (Nat.le_refl _) _).alloc (by simp) _
  have kt : W2.cell? ⟨w.heap.size, 0, none⟩ = some (.func (.func 36) #[] #[]) := by rw [hW2]; simp
  have k0 : W2.cell? ⟨w.heap.size + 1, 0, none⟩ = some (.string ⟨#[]⟩) := by rw [hW2]; simp
  have k1 : W2.cell? ⟨w.heap.size + 1, 1, none⟩ = some (.slice none 0 0) := by rw [hW2]; simp
  have f0 : W2.frozen? ⟨w.heap.size + 1, 0, none⟩ = false := by rw [hW2]; simp
  have f1 : W2.frozen? ⟨w.heap.size + 1, 1, none⟩ = false := by rw [hW2]; simp
  have HL := hide (fun w' (hb' : Below w.heap.size w w') (h : 0 < ps.length) => hl.below (hb h) hb')
  have BS := hide (bsG_any ao b off cap ps x w.heap.size W2 hao (fun h => Nat.lt_of_lt_of_le (hb h) b2.size) (fun i hi => HL.out W2 b2 (by omega) i hi) hlen hr kt (by omega))
  have HB2 := hide b2
  have KK : Hid (∀ w', Below W2.heap.size W2 w' → (World.cell? w' ⟨w.heap.size + 1, 0, none⟩ = some (.string ⟨#[]⟩) ∧ World.cell? w' ⟨w.heap.size + 1, 1, none⟩ = some (.slice none 0 0)) ∧ World.frozen? w' ⟨w.heap.size + 1, 0, none⟩ = false ∧ World.frozen? w' ⟨w.heap.size + 1, 1, none⟩ = false) := fun w' hw => by
    have hl2 : w.heap.size + 1 < W2.heap.size := by omega
    rw [hw.cell (by exact hl2), hw.cell (by exact hl2), hw.frozen (by exact hl2), hw.frozen (by exact hl2)]
    exact ⟨⟨k0, k1⟩, f0, f1⟩
  have HR := hide hr
  clear b2 kt k0 k1 f0 f1 hl hr
  go_wp2_with fail
  rw [← hW2]
  refine Calls.mono BS.out ?_
  rintro e w3 ⟨⟨i, f, rfl, hf⟩, hb3⟩
  obtain ⟨⟨q0, q1⟩, q2, q3⟩ := KK.out w3 hb3
  have B3 := hide (HB2.out.trans (hb3.mono (by omega)))
  have s3 := hb3.size
  clear hb3 hW2
  cases f with
  | true =>
    obtain ⟨hi, e1⟩ := hf.1 rfl
    obtain rfl := hao (by omega)
    have hb' := hb (by omega)
    obtain ⟨g0, g1⟩ := HL.out w3 B3.out (by omega) i hi
    have hp := grpFor_some HR.out hi e1
    have HV : Hid (grpForV ps x = .agg #[.string ps[i].1, .slice ps[i].2.1 ps[i].2.2.1 ps[i].2.2.2]) := by
      have e : grpForV ps x = .agg #[.string ps[i].1, .slice ps[i].2.1 ps[i].2.2.1 ps[i].2.2.2] := by unfold grpForV; rw [hp]
      exact e
    have HF : Hid (grpForB ps x = true) := by
      have e : grpForB ps x = true := by unfold grpForB; rw [hp]; rfl
      exact e
    have hii : (i : Int) < (ps.length : Int) := by omega
    clear hf e1 hp
    generalize ps[i].1 = K1 at *
    generalize ps[i].2 = V1 at *
    go_wp2_with fail
    refine bodyPost_ret (v := .tuple #[.agg #[.string K1, .slice V1.1 V1.2.1 V1.2.2], .bool true]) ?_ rfl ⟨by rw [HV.out, HF.out], ?_⟩
    · rw [results_cell_tmp rfl]
      go_simp
    · first
        | exact (B3.out.setCell (by simp) _).setCell (by simp) _
        | exact ((B3.out.drew).setCell (by simp) _).setCell (by simp) _
  | false =>
    have hp := grpFor_none (hf.2 rfl)
    have HV : Hid (grpForV ps x = .agg #[.string ⟨#[]⟩, .slice none 0 0]) := by
      have e : grpForV ps x = .agg #[.string ⟨#[]⟩, .slice none 0 0] := by unfold grpForV; rw [hp]
      exact e
    have HF : Hid (grpForB ps x = false) := by
      have e : grpForB ps x = false := by unfold grpForB; rw [hp]; rfl
      exact e
    clear hf hp
    have hz : w.heap.size + 1 < w3.heap.size := by omega
    have BN : Below w3.heap.size w3 (w3.alloc (.cells #[.string ⟨#[]⟩, .slice none 0 0] 49)) := (Below.refl _ w3).alloc (Nat.le_refl _) _
    have n0 : (w3.alloc (.cells #[.string ⟨#[]⟩, .slice none 0 0] 49)).cell? ⟨w.heap.size + 1, 0, none⟩ = some (.string ⟨#[]⟩) := by rw [BN.cell (by exact hz)]; exact q0
    have n1 : (w3.alloc (.cells #[.string ⟨#[]⟩, .slice none 0 0] 49)).cell? ⟨w.heap.size + 1, 1, none⟩ = some (.slice none 0 0) := by rw [BN.cell (by exact hz)]; exact q1
    have n2 : (w3.alloc (.cells #[.string ⟨#[]⟩, .slice none 0 0] 49)).frozen? ⟨w.heap.size + 1, 0, none⟩ = false := by rw [BN.frozen (by exact hz)]; exact q2
    have n3 : (w3.alloc (.cells #[.string ⟨#[]⟩, .slice none 0 0] 49)).frozen? ⟨w.heap.size + 1, 1, none⟩ = false := by rw [BN.frozen (by exact hz)]; exact q3
    have B4 := hide (B3.out.trans (BN.mono (by omega)))
    have hz1 : ¬ (w.heap.size + 1 = w3.heap.size) := by omega
    have hz2 : ¬ (w3.heap.size = w.heap.size + 1) := by omega
    clear BN
    go_wp2_with fail
    refine bodyPost_ret (v := .tuple #[.agg #[.string ⟨#[]⟩, .slice none 0 0], .bool false]) ?_ rfl ⟨by rw [HV.out, HF.out], ?_⟩
    · rw [results_cell_tmp rfl]
      go_simp
    · first
        | exact ((B3.out.setCell (by simp) _).setCell (by simp) _).alloc (by simp; omega) _
        | exact (((B3.out.setCell (by simp) _).alloc (by simp; omega) _).setCell (by simp) _)
        | exact (B4.out.setCell (by simp) _).setCell (by simp) _
        | trace_state
end Go.Proofs.Ythihmgdefbahpaa
namespace Go.Proofs.Ythihmgdefbahpaa
open Go.RowKit
theorem dcG_small (m : Int) (x d : ByteArray) : (dcG m x d).length ≤ x.size ∧ ∀ g ∈ dcG m x d, g.2.length ≤ 512 := by
  unfold dcG
  by_cases h : riE m x = 0
  · rw [if_pos h]
    cases hk : dcOk m x d with
    | none => exact ⟨Nat.zero_le _, fun g hg => by cases hg⟩
    | some l =>
      unfold dcOk at hk
      split at hk
      · rename_i l' q h'
        split at hk
        · simp only [Option.some.injEq] at hk
          subst hk
          obtain ⟨_, f2, _, f4⟩ := ch_facts _ _ _ (Nat.le_refl _) (dec_ch _ _ h')
          refine ⟨by rw [Option.getD_some, f2]; exact Nat.div_le_self _ _, fun g hg => ?_⟩
          rw [Option.getD_some] at hg
          obtain ⟨i, hi, rfl⟩ := List.getElem_of_mem hg
          exact (fine (f4 i hi).2).1
        · cases hk
      · cases hk
  · rw [if_neg h]
    exact ⟨Nat.zero_le _, fun g hg => by cases hg⟩
end Go.Proofs.Ythihmgdefbahpaa
namespace Go.Proofs.Ythihmgdefbahpaa
open Go.RowKit
/-- the hashes of a chunk's groups rise, and each group's pairs fit -/
theorem dcG_rise {m : Int} {x d : ByteArray} (h : dcE m x d = 0) : Rises (dcG m x d).length (fun i => ((dcG m x d).getD i default).1) ∧ ∀ g ∈ dcG m x d, errL g.2 = 0 := by
  by_cases hr : riE m x = 0
  · cases hk : dcOk m x d with
    | none => rw [(dc_no hr hk).1] at h; omega
    | some l =>
      rw [(dc_yes hr hk).2]
      obtain ⟨hm, hq, hau, _⟩ := ri_inv hr
      unfold dcOk at hk
      split at hk
      · rename_i l' q h'
        split at hk
        · simp only [Option.some.injEq] at hk
          subst hk
          obtain ⟨_, f2, _, f4⟩ := ch_facts _ _ _ (Nat.le_refl _) (dec_ch _ _ h')
          constructor
          · intro i hi
            have hi0 : i < l'.length := by omega
            have hu := allUp_at hau (i := i) (by omega)
            rw [Bool.or_eq_false_iff] at hu
            have e1 : (l'.getD i default).1 = rdeH m.toNat x i := by rw [List.getD_eq_getElem?_getD, List.getElem?_eq_getElem hi0]; exact (f4 i hi0).1
            have e2 : (l'.getD (i + 1) default).1 = rdeH m.toNat x (i + 1) := by rw [List.getD_eq_getElem?_getD, List.getElem?_eq_getElem hi]; exact (f4 (i + 1) hi).1
            show lessS (l'.getD i default).1 (l'.getD (i + 1) default).1 = true
            rw [e1, e2]
            rcases lessS_total (rdeH m.toNat x i) (rdeH m.toNat x (i + 1)) with e | e | e
            · rw [e, eq_beq] at hu; simp at hu
            · exact e
            · have := hu.1
              unfold lessS at e
              rw [e] at this; cases this
          · intro g hg
            obtain ⟨i, hi, rfl⟩ := List.getElem_of_mem hg
            exact (f4 i hi).2
        · cases hk
      · cases hk
  · rw [(dc_index hr).1] at h; exact absurd h hr
def slOf : Value → SQ
  | .slice a n c => (a, n, c)
  | _ => (none, 0, 0)
/-- groups in memory, as a list of hashes and slices -/
theorem GroupsAt.quads {w : World} {base : Nat} {v : Value} {gs : List GR} (h : GroupsAt w base v gs) : ∃ (qs : List GQ) (ao : Option Addr) (g cap : Nat), qs.length = gs.length ∧ v = .slice ao qs.length cap ∧ (0 < qs.length → ao = some ⟨g, 0, none⟩) ∧ (0 < qs.length → g < w.heap.size) ∧ LiesG g 0 w qs ∧
    ∀ i (hi : i < gs.length) (hq : i < qs.length), qs[i].1 = gs[i].1 ∧ w.ownsRow base 65 2 (.slice qs[i].2.1 qs[i].2.2.1 qs[i].2.2.2) gs[i].2.length (pc gs[i].2) := by
  obtain ⟨ts, rfl, h2, h3⟩ := h
  have hsl : ∀ t ∈ ts, t.2 = .slice (slOf t.2).1 (slOf t.2).2.1 (slOf t.2).2.2 := fun t ht => by
    obtain ⟨a, g, c, e, _⟩ := own_pairs (h3 t ht)
    rw [e]; rfl
  refine ⟨ts.map (fun t => (t.1.1, slOf t.2)), ?_⟩
  simp only [List.length_map]
  have hown : ∀ i (hi : i < (ts.map Prod.fst).length) (hq : i < (ts.map (fun t => (t.1.1, slOf t.2))).length), (ts.map (fun t => (t.1.1, slOf t.2)))[i].1 = (ts.map Prod.fst)[i].1 ∧ w.ownsRow base 65 2 (.slice (ts.map (fun t => (t.1.1, slOf t.2)))[i].2.1 (ts.map (fun t => (t.1.1, slOf t.2)))[i].2.2.1 (ts.map (fun t => (t.1.1, slOf t.2)))[i].2.2.2) (ts.map Prod.fst)[i].2.length (pc (ts.map Prod.fst)[i].2) := by
    intro i hi hq
    have hi' : i < ts.length := by simpa using hi
    rw [List.getElem_map, List.getElem_map]
    exact ⟨rfl, by rw [← hsl _ (List.getElem_mem hi')]; exact h3 _ (List.getElem_mem hi')⟩
  rcases h2.2 with ⟨rfl, h0⟩ | ⟨g, cap, cur, rfl, hg, hblk, _⟩
  · obtain rfl := List.length_eq_zero_iff.1 h0
    exact ⟨none, 0, 0, trivial, rfl, fun k => by simp at k, fun k => by simp at k, fun i hi => by simp at hi, fun i hi => by simp at hi⟩
  · refine ⟨some ⟨g, 0, none⟩, g, cap, trivial, rfl, fun _ => rfl, fun _ => row_lt h2, fun i hi => ?_, fun i hi hq => hown i (by simpa using hi) (by simpa using hq)⟩
    have hi' : i < ts.length := by simpa using hi
    rw [Nat.zero_add, List.getElem_map]
    refine ⟨?_, ?_⟩
    · rw [h2.cellAt (i * 2) (by omega), (gcell_at ts i hi').1]
    · rw [h2.cellAt (i * 2 + 1) (by omega), (gcell_at ts i hi').2, ← hsl _ (List.getElem_mem hi')]
/-- the value of a key under a hash -/
def lkV (gs : List GR) (h k : ByteArray) : Option ByteArray := match gs.find? (fun g => decide (g.1 = h)) with
  | some g => (pairFor g.2 k).map Prod.snd
  | none => none
theorem lk_some {gs : List GR} {h k : ByteArray} {i : Nat} (hr : Rises gs.length (fun t => (gs.getD t default).1)) (hi : i < gs.length) (e : gs[i].1 = h) : lkV gs h k = (pairFor gs[i].2 k).map Prod.snd := by
  have hf : gs.find? (fun g => decide (g.1 = h)) = some gs[i] := by
    rw [List.find?_eq_some_iff_getElem]
    refine ⟨by simpa using e, i, hi, rfl, fun j hj => ?_⟩
    simp only [Bool.not_eq_true', decide_eq_false_iff_not]
    intro e2
    have hj' : j < gs.length := by omega
    have := hr.inj (i := j) (j := i) hj' hi (by
      show (gs.getD j default).1 = (gs.getD i default).1
      rw [List.getD_eq_getElem?_getD, List.getElem?_eq_getElem hj', List.getD_eq_getElem?_getD, List.getElem?_eq_getElem hi, Option.getD_some, Option.getD_some, e2, e])
    omega
  unfold lkV; rw [hf]
theorem lk_none {gs : List GR} {h k : ByteArray} (hn : ∀ i (hi : i < gs.length), gs[i].1 ≠ h) : lkV gs h k = none := by
  have hf : gs.find? (fun g => decide (g.1 = h)) = none := by
    rw [List.find?_eq_none]
    intro p hp
    obtain ⟨i, hi, rfl⟩ := List.getElem_of_mem hp
    simpa using hn i hi
  unfold lkV; rw [hf]
/-- the group that find finds, or none -/
theorem found_group {w : World} {base : Nat} {gs : List GR} {qs : List GQ} {h k : ByteArray} (hr : Rises gs.length (fun t => (gs.getD t default).1)) (he : ∀ g ∈ gs, errL g.2 = 0) (hl : qs.length = gs.length)
    (hq : ∀ i (hi : i < gs.length) (hq : i < qs.length), qs[i].1 = gs[i].1 ∧ w.ownsRow base 65 2 (.slice qs[i].2.1 qs[i].2.2.1 qs[i].2.2.2) gs[i].2.length (pc gs[i].2)) :
    Rises qs.length (fun t => (qs.getD t default).1) ∧ ∃ (X : ByteArray) (ps : List KV) (ao : Option Addr) (b cap : Nat), grpForV qs h = .agg #[.string X, .slice ao ps.length cap] ∧ (0 < ps.length → ao = some ⟨b, 0, none⟩) ∧ (0 < ps.length → b < w.heap.size) ∧ LiesP b 0 w ps ∧ ps.length ≤ 512 ∧ Rises ps.length (fun i => (ps.getD i default).1) ∧ lkV gs h k = (pairFor ps k).map Prod.snd := by
  have hks : ∀ i, i < gs.length → (qs.getD i default).1 = (gs.getD i default).1 := fun i hi => by
    rw [gq_at (by omega), List.getD_eq_getElem?_getD, List.getElem?_eq_getElem hi, Option.getD_some]
    exact (hq i hi (by omega)).1
  have hrq : Rises qs.length (fun t => (qs.getD t default).1) := fun i hi => by
    have := hr i (by omega)
    simp only at this ⊢
    rw [hks i (by omega), hks (i + 1) (by omega)]; exact this
  refine ⟨hrq, ?_⟩
  by_cases hx : ∃ i, ∃ (hi : i < gs.length), gs[i].1 = h
  · obtain ⟨i, hi, e⟩ := hx
    have hiq : i < qs.length := by omega
    obtain ⟨q1, q2⟩ := hq i hi hiq
    obtain ⟨ao, g, cap, e2, a1, a2, a3⟩ := own_pairs q2
    have hf := fine (he _ (List.getElem_mem hi))
    refine ⟨qs[i].1, gs[i].2, ao, g, cap, ?_, a1, a2, a3, hf.1, keys_rise (he _ (List.getElem_mem hi)), lk_some hr hi e⟩
    unfold grpForV
    rw [grpFor_some hrq hiq (by rw [gq_at hiq, q1, e])]
    simp only
    rw [e2]
  · refine ⟨⟨#[]⟩, [], none, 0, 0, ?_, fun k => by simp at k, fun k => by simp at k, fun i hi => by simp at hi, by simp, fun i hi => by simp at hi, ?_⟩
    · unfold grpForV
      rw [grpFor_none (fun t ht e => hx ⟨t, by omega, by rw [gq_at ht, (hq t (by omega) ht).1] at e; exact e⟩)]
      rfl
    · rw [lk_none (fun i hi e => hx ⟨i, hi, e⟩)]; rfl
/-- what both Lookups answer -/
def lkE (m : Int) (x d h k : ByteArray) : Int := if dcE m x d = 0 then if (h.size : Int) = m then if 1 ≤ k.size ∧ k.size ≤ 255 then 0 else 32 else 34 else dcE m x d
def lkO (m : Int) (x d h k : ByteArray) : Option ByteArray := if lkE m x d h k = 0 then lkV (dcG m x d) h k else none
def lkA (m : Int) (x d h k : ByteArray) : Value := .tuple #[.string ((lkO m x d h k).getD ⟨#[]⟩), .bool (lkO m x d h k).isSome, .int .i64 (lkE m x d h k)]
theorem lk_err {m : Int} {x d h k : ByteArray} {E : Int} (e : lkE m x d h k = E) (hE : E ≠ 0) : lkA m x d h k = .tuple #[.string ⟨#[]⟩, .bool false, .int .i64 E] := by
  unfold lkA lkO; rw [e, if_neg hE]; rfl
theorem lk_ok {m : Int} {x d h k : ByteArray} (e : lkE m x d h k = 0) : lkA m x d h k = .tuple #[.string ((lkV (dcG m x d) h k).getD ⟨#[]⟩), .bool (lkV (dcG m x d) h k).isSome, .int .i64 0] := by
  unfold lkA lkO; rw [e, if_pos rfl]
end Go.Proofs.Ythihmgdefbahpaa
namespace Go.Proofs.Ythihmgdefbahpaa
open Go.RowKit
/-- pairs that can be read behind a slice -/
def PLies (w : World) (s : SQ) (ps : List KV) : Prop := ∃ b off, s.2.1 = ps.length ∧ (0 < ps.length → s.1 = some ⟨b, off, none⟩) ∧ (0 < ps.length → b < w.heap.size) ∧ LiesP b off w ps
/-- groups that can be read behind a slice -/
def GLies (w : World) (v : Value) (gs : List GR) : Prop := ∃ (qs : List GQ) (ao : Option Addr) (g off cap : Nat), qs.length = gs.length ∧ v = .slice ao qs.length cap ∧ (0 < qs.length → ao = some ⟨g, off, none⟩) ∧ (0 < qs.length → g < w.heap.size) ∧ LiesG g off w qs ∧
    ∀ i (hi : i < gs.length) (hq : i < qs.length), qs[i].1 = gs[i].1 ∧ PLies w qs[i].2 gs[i].2
theorem PLies.below {w w' : World} {s : SQ} {ps : List KV} (h : PLies w s ps) (hb : Below w.heap.size w w') : PLies w' s ps := by
  obtain ⟨b, off, h1, h2, h3, h4⟩ := h
  refine ⟨b, off, h1, h2, fun z => Nat.lt_of_lt_of_le (h3 z) hb.size, fun i hi => ?_⟩
  exact h4.below (h3 (by omega)) hb i hi
theorem GLies.below {w w' : World} {v : Value} {gs : List GR} (h : GLies w v gs) (hb : Below w.heap.size w w') : GLies w' v gs := by
  obtain ⟨qs, ao, g, off, cap, h1, h2, h3, h4, h5, h6⟩ := h
  refine ⟨qs, ao, g, off, cap, h1, h2, h3, fun z => Nat.lt_of_lt_of_le (h4 z) hb.size, fun i hi => h5.below (h4 (by omega)) hb i hi, fun i hi hq => ⟨(h6 i hi hq).1, (h6 i hi hq).2.below hb⟩⟩
theorem own_plies {w : World} {base : Nat} {s : SQ} {ps : List KV} (h : w.ownsRow base 65 2 (.slice s.1 s.2.1 s.2.2) ps.length (pc ps)) : PLies w s ps := by
  obtain ⟨ao, g, cap, e, h1, h2, h3⟩ := own_pairs h
  simp only [Value.slice.injEq] at e
  exact ⟨g, 0, e.2.1, fun z => e.1.trans (h1 z), h2, h3⟩
theorem GroupsAt.lies {w : World} {base : Nat} {v : Value} {gs : List GR} (h : GroupsAt w base v gs) : GLies w v gs := by
  obtain ⟨qs, ao, g, cap, h1, h2, h3, h4, h5, h6⟩ := h.quads
  exact ⟨qs, ao, g, 0, cap, h1, h2, h3, h4, h5, fun i hi hq => ⟨(h6 i hi hq).1, own_plies (h6 i hi hq).2⟩⟩
set_option maxHeartbeats 1000000 in
set_option maxRecDepth 100000 in
set_option linter.unusedSimpArgs false in
/-- rise of groups -/
theorem riseG_any (ao : Option Addr) (b off cap : Nat) (ps : List GQ) (i : Nat) (w : World) (hi : i < ps.length) (hlen : ps.length ≤ 1099511627776000) (hao : ao = some ⟨b, off, none⟩) (hb : b < w.heap.size) (hl : LiesG b off w ps) :
    Calls Try.prog 63 #[.slice ao ps.length cap, .int .i64 (i : Int), .func (.func 36) #[] #[]] w fun e w' => e = .returned (.int .i64 (if i = 0 then 1 else if ps[i].1 = (ps.getD (i - 1) default).1 then 0 else if lessS ps[i].1 (ps.getD (i - 1) default).1 then -1 else 1)) ∧ Below w.heap.size w w' := by
  subst hao
  by_cases h0 : i = 0
  · subst h0
    go_enter Try.func63, Try.ntmps63
    go_wp2
    go_ret
    exact ⟨rfl, Below.refl _ _⟩
  · obtain ⟨j, rfl⟩ : ∃ j, i = j + 1 := ⟨i - 1, by omega⟩
    have hj : j < ps.length := by omega
    obtain ⟨g0, g1⟩ := hl (j + 1) hi
    obtain ⟨g2, g3⟩ := hl j hj
    rw [if_neg h0, show j + 1 - 1 = j by omega, List.getD_eq_getElem?_getD, List.getElem?_eq_getElem hj, Option.getD_some]
    have HS : Hid (∀ w', Below w.heap.size w w' → w'.cell? ⟨b, off + (j + 1) * 2, none⟩ = some (.string ps[j + 1].1) ∧ w'.cell? ⟨b, off + (j + 1) * 2 + 1, none⟩ = some (.slice ps[j + 1].2.1 ps[j + 1].2.2.1 ps[j + 1].2.2.2) ∧ w'.cell? ⟨b, off + j * 2, none⟩ = some (.string ps[j].1) ∧ w'.cell? ⟨b, off + j * 2 + 1, none⟩ = some (.slice ps[j].2.1 ps[j].2.2.1 ps[j].2.2.2)) := fun w' hw => by
      rw [hw.cell (by exact hb), hw.cell (by exact hb), hw.cell (by exact hb), hw.cell (by exact hb)]
      exact ⟨g0, g1, g2, g3⟩
    clear g0 g1 g2 g3 hl
    generalize ps[j + 1].1 = K1 at *
    generalize ps[j + 1].2 = V1 at *
    generalize ps[j].1 = K0 at *
    generalize ps[j].2 = V0 at *
    have hil : ((j + 1 : Nat) : Int) < (ps.length : Int) := by omega
    generalize ps.length = N at *
    clear h0
    have CM := hide (fun w' => compare_any K1 K0 w')
    generalize (if K1 = K0 then (0 : Int) else if lessS K1 K0 = true then -1 else 1) = Z at *
    have hz : (((j + 1 : Nat) : Int) == 0) = false := by simp; omega
    go_enter Try.func63, Try.ntmps63
    go_wp2
    refine wp_region_held_drew (S := fun w' => w'.cell? ⟨b, off + (j + 1) * 2, none⟩ = some (.string K1) ∧ w'.cell? ⟨b, off + (j + 1) * 2 + 1, none⟩ = some (.slice V1.1 V1.2.1 V1.2.2) ∧ w'.cell? ⟨b, off + j * 2, none⟩ = some (.string K0) ∧ w'.cell? ⟨b, off + j * 2 + 1, none⟩ = some (.slice V0.1 V0.2.1 V0.2.2)) (by kernel_rfl) (HS.out _ (Below.refl _ _).drew) (fun hHeld => ?_)
    refine wpAnyH_take (i := 0) (v := (.func (.func 36) #[] #[])) rfl (by kernel_rfl) (by kernel_rfl) (by kernel_rfl) (fun _ _ _ h => h) (Or.inl ⟨by rfl, ?_⟩) (by assumption) ?_
    · intro w' hSw
      (try dsimp only at hSw)
      go_simp <;> first | exact i64_in (by omega) (by omega) | exact u32_in (by omega) (by omega) | exact u32_add _ _ | (rw [Int.tmod_eq_emod_of_nonneg (by omega)]; omega) | (rw [Int.tdiv_eq_ediv_of_nonneg (by omega)]; omega) | omega
    (try simp only [Act.put, List.setIfInBounds_toArray, List.set_cons_zero, List.set_cons_succ])
    refine wpAnyH_take (i := 1) (v := (.slice (some ⟨b, off, none⟩) N cap)) rfl (by kernel_rfl) (by kernel_rfl) (by kernel_rfl) (fun _ _ _ h => h) (Or.inl ⟨by rfl, ?_⟩) (by assumption) ?_
    · intro w' hSw
      (try dsimp only at hSw)
      go_simp <;> first | exact i64_in (by omega) (by omega) | exact u32_in (by omega) (by omega) | exact u32_add _ _ | (rw [Int.tmod_eq_emod_of_nonneg (by omega)]; omega) | (rw [Int.tdiv_eq_ediv_of_nonneg (by omega)]; omega) | omega
    (try simp only [Act.put, List.setIfInBounds_toArray, List.set_cons_zero, List.set_cons_succ])
    refine wpAnyH_take (i := 2) (v := (.int .i64 ((j + 1 : Nat) : Int))) rfl (by kernel_rfl) (by kernel_rfl) (by kernel_rfl) (fun _ _ _ h => h) (Or.inl ⟨by rfl, ?_⟩) (by assumption) ?_
    · intro w' hSw
      (try dsimp only at hSw)
      go_simp <;> first | exact i64_in (by omega) (by omega) | exact u32_in (by omega) (by omega) | exact u32_add _ _ | (rw [Int.tmod_eq_emod_of_nonneg (by omega)]; omega) | (rw [Int.tdiv_eq_ediv_of_nonneg (by omega)]; omega) | omega
    (try simp only [Act.put, List.setIfInBounds_toArray, List.set_cons_zero, List.set_cons_succ])
    refine wpAnyH_take (i := 3) (v := (.pointer (some ⟨b, off + (j + 1) * 2, none⟩))) rfl (by kernel_rfl) (by kernel_rfl) (by kernel_rfl) (fun _ _ _ h => h) (Or.inl ⟨by rfl, ?_⟩) (by assumption) ?_
    · intro w' hSw
      (try dsimp only at hSw)
      go_simp <;> first | exact i64_in (by omega) (by omega) | exact u32_in (by omega) (by omega) | exact u32_add _ _ | (rw [Int.tmod_eq_emod_of_nonneg (by omega)]; omega) | (rw [Int.tdiv_eq_ediv_of_nonneg (by omega)]; omega) | omega
    (try simp only [Act.put, List.setIfInBounds_toArray, List.set_cons_zero, List.set_cons_succ])
    refine wpAnyH_take (i := 4) (v := (.agg #[.string K1, .slice V1.1 V1.2.1 V1.2.2])) rfl (by kernel_rfl) (by kernel_rfl) (by kernel_rfl) (fun _ _ _ h => h) (Or.inl ⟨by rfl, ?_⟩) (by assumption) ?_
    · intro w' hSw
      (try dsimp only at hSw)
      (obtain ⟨hS1, hS2, hS3, hS4⟩ := hSw; go_simp)
    (try simp only [Act.put, List.setIfInBounds_toArray, List.set_cons_zero, List.set_cons_succ])
    refine wpAnyH_take (i := 6) (v := (.func (.func 36) #[] #[])) rfl (by kernel_rfl) (by kernel_rfl) (by kernel_rfl) (fun _ _ _ h => h) (Or.inl ⟨by rfl, ?_⟩) (by assumption) ?_
    · intro w' hSw
      (try dsimp only at hSw)
      go_simp <;> first | exact i64_in (by omega) (by omega) | exact u32_in (by omega) (by omega) | exact u32_add _ _ | (rw [Int.tmod_eq_emod_of_nonneg (by omega)]; omega) | (rw [Int.tdiv_eq_ediv_of_nonneg (by omega)]; omega) | omega
    (try simp only [Act.put, List.setIfInBounds_toArray, List.set_cons_zero, List.set_cons_succ])
    refine wpAnyH_take (i := 7) (v := (.slice (some ⟨b, off, none⟩) N cap)) rfl (by kernel_rfl) (by kernel_rfl) (by kernel_rfl) (fun _ _ _ h => h) (Or.inl ⟨by rfl, ?_⟩) (by assumption) ?_
    · intro w' hSw
      (try dsimp only at hSw)
      go_simp <;> first | exact i64_in (by omega) (by omega) | exact u32_in (by omega) (by omega) | exact u32_add _ _ | (rw [Int.tmod_eq_emod_of_nonneg (by omega)]; omega) | (rw [Int.tdiv_eq_ediv_of_nonneg (by omega)]; omega) | omega
    (try simp only [Act.put, List.setIfInBounds_toArray, List.set_cons_zero, List.set_cons_succ])
    refine wpAnyH_take (i := 8) (v := (.int .i64 ((j + 1 : Nat) : Int))) rfl (by kernel_rfl) (by kernel_rfl) (by kernel_rfl) (fun _ _ _ h => h) (Or.inl ⟨by rfl, ?_⟩) (by assumption) ?_
    · intro w' hSw
      (try dsimp only at hSw)
      go_simp <;> first | exact i64_in (by omega) (by omega) | exact u32_in (by omega) (by omega) | exact u32_add _ _ | (rw [Int.tmod_eq_emod_of_nonneg (by omega)]; omega) | (rw [Int.tdiv_eq_ediv_of_nonneg (by omega)]; omega) | omega
    (try simp only [Act.put, List.setIfInBounds_toArray, List.set_cons_zero, List.set_cons_succ])
    refine wpAnyH_take (i := 9) (v := (.int .i64 (j : Int))) rfl (by kernel_rfl) (by kernel_rfl) (by kernel_rfl) (fun _ _ _ h => h) (Or.inl ⟨by rfl, ?_⟩) (by assumption) ?_
    · intro w' hSw
      (try dsimp only at hSw)
      go_simp <;> first | exact i64_in (by omega) (by omega) | exact u32_in (by omega) (by omega) | exact u32_add _ _ | (rw [Int.tmod_eq_emod_of_nonneg (by omega)]; omega) | (rw [Int.tdiv_eq_ediv_of_nonneg (by omega)]; omega) | omega
    (try simp only [Act.put, List.setIfInBounds_toArray, List.set_cons_zero, List.set_cons_succ])
    refine wpAnyH_take (i := 10) (v := (.pointer (some ⟨b, off + j * 2, none⟩))) rfl (by kernel_rfl) (by kernel_rfl) (by kernel_rfl) (fun _ _ _ h => h) (Or.inl ⟨by rfl, ?_⟩) (by assumption) ?_
    · intro w' hSw
      (try dsimp only at hSw)
      go_simp <;> first | exact i64_in (by omega) (by omega) | exact u32_in (by omega) (by omega) | exact u32_add _ _ | (rw [Int.tmod_eq_emod_of_nonneg (by omega)]; omega) | (rw [Int.tdiv_eq_ediv_of_nonneg (by omega)]; omega) | omega
    (try simp only [Act.put, List.setIfInBounds_toArray, List.set_cons_zero, List.set_cons_succ])
    refine wpAnyH_take (i := 11) (v := (.agg #[.string K0, .slice V0.1 V0.2.1 V0.2.2])) rfl (by kernel_rfl) (by kernel_rfl) (by kernel_rfl) (fun _ _ _ h => h) (Or.inl ⟨by rfl, ?_⟩) (by assumption) ?_
    · intro w' hSw
      (try dsimp only at hSw)
      (obtain ⟨hS1, hS2, hS3, hS4⟩ := hSw; go_simp)
    (try simp only [Act.put, List.setIfInBounds_toArray, List.set_cons_zero, List.set_cons_succ])
    refine wpAnyH_ready (rs := [5]) (by kernel_rfl) (by simp) ?_
    refine AllReadyH.cons rfl (fun K hK => ?_) AllReadyH.nil
    go_simp
    refine Calls.mono (groupHash_any _ _ _) ?_
    rintro e w1 ⟨rfl, hb1⟩
    have B1 := (Below.refl w.heap.size w).drew.trans hb1
    refine hK.out _ _ (HS.out _ B1) (fun hHeld => ?_)
    clear hK K
    (try simp only [Act.put, List.setIfInBounds_toArray, List.set_cons_zero, List.set_cons_succ])
    refine wpAnyH_ready (rs := [12]) (by kernel_rfl) (by simp) ?_
    refine AllReadyH.cons rfl (fun K hK => ?_) AllReadyH.nil
    go_simp
    refine Calls.mono (groupHash_any _ _ _) ?_
    rintro e w2 ⟨rfl, hb2⟩
    have B2 := B1.trans (hb2.mono B1.size)
    refine hK.out _ _ (HS.out _ B2) (fun hHeld => ?_)
    clear hK K
    (try simp only [Act.put, List.setIfInBounds_toArray, List.set_cons_zero, List.set_cons_succ])
    refine wpAnyH_ready (rs := [13]) (by kernel_rfl) (by simp) ?_
    refine AllReadyH.cons rfl (fun K hK => ?_) AllReadyH.nil
    go_simp
    refine Calls.mono (CM.out _) ?_
    rintro e w3 ⟨rfl, rfl⟩
    refine hK.out _ _ (HS.out _ B2) (fun hHeld => ?_)
    clear hK K
    (try simp only [Act.put, List.setIfInBounds_toArray, List.set_cons_zero, List.set_cons_succ])
    refine wpAnyH_ready (rs := [14]) (by kernel_rfl) (by simp) ?_
    refine AllReadyH.cons rfl (fun K hK => ?_) AllReadyH.nil
    go_simp
    refine hK.out _ _ hHeld (fun hHeld => ?_)
    clear hK K
    (try simp only [Act.put, List.setIfInBounds_toArray, List.set_cons_zero, List.set_cons_succ])
    refine wpAnyH_done (by kernel_rfl) ?_ _
    go_wp2
    go_ret
    exact ⟨rfl, B2⟩
end Go.Proofs.Ythihmgdefbahpaa
