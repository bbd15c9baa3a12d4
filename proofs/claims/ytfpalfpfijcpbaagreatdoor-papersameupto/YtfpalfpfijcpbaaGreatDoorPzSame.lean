import Derived.Test.YtfpalfpfijcpbaaGreatDoorGPyExt
namespace Go.Proofs.YtfpalfpfijcpbaaGreatDoor
open Go.RowKit Go.Shelf
theorem rdN_i64 (sh : Int) (l : List UInt8) : 0 ≤ rdN sh l ∧ rdN sh l ≤ 9999999999999999 := by
  unfold rdN
  split
  · have := numV_lt l; omega
  · split
    · have h2 : sumV l < 4294967296 := by
        unfold sumV
        by_cases h : l.length = 2 * 4
        · have h1 : (hexV l 4).data.toList.length ≤ 4 := by
            unfold hexV unS
            rw [if_pos h, strOf_data]
            cases hu : unhexL l with
            | none => simp
            | some t => have := unhex_len hu; simp only [Option.getD_some]; omega
          generalize (hexV l 4).data.toList = t at *
          unfold beV
          match t, h1 with
          | [], _ => decide
          | [a], _ => have := a.toNat_lt; simp only [List.foldl_cons, List.foldl_nil]; omega
          | [a, b], _ => have := a.toNat_lt; have := b.toNat_lt; simp only [List.foldl_cons, List.foldl_nil]; omega
          | [a, b, c], _ => have := a.toNat_lt; have := b.toNat_lt; have := c.toNat_lt; simp only [List.foldl_cons, List.foldl_nil]; omega
          | [a, b, c, d], _ => have := a.toNat_lt; have := b.toNat_lt; have := c.toNat_lt; have := d.toNat_lt; simp only [List.foldl_cons, List.foldl_nil]; omega
          | _ :: _ :: _ :: _ :: _ :: _, h => simp at h
        · unfold hexV; rw [if_neg h]; decide
      omega
    · omega
theorem tabVs_i64 : ∀ (ts : List FD) (l : List UInt8), ∀ v ∈ tabVs ts l, 0 ≤ v.1 ∧ v.1 ≤ 9999999999999999
  | [], _, v, h => by cases h
  | f :: r, l, v, h => by
    rcases List.mem_cons.1 h with rfl | h
    · exact rdN_i64 _ _
    · exact tabVs_i64 r _ v h
theorem vN_i64 (ts : List FD) (l : List UInt8) (i : Nat) : I64 (vN (tabVs ts l) i) := by
  unfold vN I64
  cases h : (tabVs ts l)[i]? with
  | none => simp
  | some v =>
    have := tabVs_i64 ts l v (List.mem_of_getElem? h)
    simp only [Option.map_some, Option.getD_some]
    omega
theorem metaPV_i64 (tx : ByteArray) (i : Nat) : I64 (metaPV tx i) := by
  unfold metaPV
  split
  · exact vN_i64 _ _ i
  · unfold I64; omega
theorem ptrPV_i64 (tx : ByteArray) (i : Nat) : I64 (ptrPV tx i) := by
  unfold ptrPV
  split
  · exact vN_i64 _ _ i
  · unfold I64; omega
theorem metaPT_size (tx : ByteArray) : (metaPT tx).size ≤ 9223372036854775807 := by
  by_cases hm : metaPE tx = 0
  · have := (meta_back hm).1
    have h2 := (metaOk_st this).2.1
    omega
  · unfold metaPT; rw [if_neg hm]; decide
theorem mf_small {m : MF} (h : mfE m = 0) : m.st.size ≤ 9223372036854775807 ∧ (∀ r ∈ m.rs, r.1.size ≤ 9223372036854775807) ∧ m.rs.length ≤ 1000000000000 := by
  unfold mfE at h
  split at h
  · rename_i hf
    unfold mfFit at hf
    simp only [Bool.and_eq_true] at hf
    obtain ⟨⟨h1, h2⟩, h3⟩ := hf
    have hrow := rowsOk_all h3
    unfold headOk stOk inR MF.hv at h1
    simp only [Bool.and_eq_true, decide_eq_true_eq] at h1
    refine ⟨by omega, fun r hr => ?_, by omega⟩
    have := hrow r hr
    unfold rowOk nmOk inR at this
    simp only [Bool.and_eq_true, decide_eq_true_eq] at this
    omega
  · exact absurd h (by decide)
theorem nvs_len (l : List NV) (k : Nat) (h : k < l.length) : nvsL (l.take (k + 1)) = nvsL (l.take k) ++ nvS l[k] := by
  rw [List.take_succ_eq_append_getElem h, nvsL_snoc]
theorem nvOk_i64 {n : NV} (h : nvOk n = true) : I64 n.1 ∧ I64 n.2.1 ∧ I64 n.2.2.1 := by
  unfold nvOk noteOk inR at h
  simp only [Bool.and_eq_true, decide_eq_true_eq] at h
  unfold I64
  omega
theorem nvs_le (l : List NV) (k : Nat) : (nvsL (l.take k)).length ≤ (nvsL l).length := by
  have : nvsL l = nvsL (l.take k) ++ nvsL (l.drop k) := by
    unfold nvsL
    rw [← List.flatMap_append, List.take_append_drop]
  rw [this, List.length_append]; omega
set_option maxHeartbeats 16000000 in
set_option maxRecDepth 100000 in
set_option linter.unusedSimpArgs false in
theorem same_any (tx : ByteArray) (w : World) (htx : tx.size ≤ 1000000000000) (hT4 : Tab4 0 w) (hP : Pow w) :
    Calls Tryz.prog 5 #[.string tx] w fun x w' => x = .returned (.bool true) ∧ Below w.heap.size w w' := by
  have T4 : Hid (∀ w', Below w.heap.size w w' → Tab4 0 w') := fun w' h => hT4.below h hT4.lt
  have PW : Hid (∀ w', Below w.heap.size w w' → Pow w') := fun w' h => hP.below h
  have FI := hide (fun w' (h : Below w.heap.size w w') => first_any w' (T4.out _ h) (PW.out _ h))
  have PN := hide (fun (n : NV) (hn : nvOk n = true) w' (h : Below w.heap.size w w') => printNote_any n.1 n.2.1 n.2.2.1 n.2.2.2 (nvOk_i64 hn).1 (nvOk_i64 hn).2.1 (nvOk_i64 hn).2.2 w' (PW.out _ h) (T4.out _ h))
  have QM := hide (fun w' (h : Below w.heap.size w w') => parseMeta_any tx w' (by omega) (T4.out _ h))
  have QP := hide (fun w' (h : Below w.heap.size w w') => parsePointer_any tx w' (by omega) (T4.out _ h))
  have QF := hide (fun w' (h : Below w.heap.size w w') => parseManifest_any tx w' htx (T4.out _ h))
  have QN := hide (fun w' (h : Below w.heap.size w w') => parseNotes_any tx w' htx (T4.out _ h))
  have RM : Hid (metaPE tx = 0 → ∀ w', Below w.heap.size w w' → Calls Tryz.prog 10 #[.agg (metaCells (metaPT tx) (metaPV tx))] w' fun x w'' => x = .returned (.tuple #[.string tx, .int .i64 0]) ∧ Below w'.heap.size w' w'') := fun h w' hb => by
    have := printMeta_any (metaPT tx) (metaPV tx) (metaPT_size tx) (metaPV_i64 tx) w' (PW.out _ hb) (T4.out _ hb)
    rw [(meta_back h).2, show metaE (metaPT tx) (metaPV tx) = 0 by unfold metaE; rw [if_pos (meta_back h).1]] at this
    exact this
  have RP : Hid (ptrPE tx = 0 → ∀ w', Below w.heap.size w w' → Calls Tryz.prog 14 #[.agg #[.int .i64 (ptrPV tx 0), .int .i64 (ptrPV tx 1), .int .i64 (ptrPV tx 2), .int .i64 (ptrPV tx 3)]] w' fun x w'' => x = .returned (.tuple #[.string tx, .int .i64 0]) ∧ Below w'.heap.size w' w'') := fun h w' hb => by
    have := printPointer_any _ _ _ _ (ptrPV_i64 tx 0) (ptrPV_i64 tx 1) (ptrPV_i64 tx 2) (ptrPV_i64 tx 3) w' (PW.out _ hb) (T4.out _ hb)
    rw [(ptr_back h).2, show ptrE (ptrPV tx 0) (ptrPV tx 1) (ptrPV tx 2) (ptrPV tx 3) = 0 by unfold ptrE; rw [if_pos (ptr_back h).1]] at this
    exact this
  have RF : Hid (pmE tx = 0 → ∀ ao g cp w', (0 < (pmM tx).rs.length → ao = some ⟨g, 0, none⟩) → LiesR g 0 w' (pmM tx).rs → Below w.heap.size w w' → Calls Tryz.prog 23 #[.agg #[.string (pmM tx).st, .int .i64 (pmM tx).ver, .int .i64 (pmM tx).nod, .slice ao (pmM tx).rs.length cp, .int .i64 (pmM tx).tot, .int .i64 (pmM tx).whl]] w' fun x w'' => x = .returned (.tuple #[.string tx, .int .i64 0]) ∧ Below w'.heap.size w' w'') := fun h ao g cp w' hao hl hb => by
    obtain ⟨m1, m2⟩ := man_back h
    obtain ⟨s1, s2, s3⟩ := mf_small m1
    have := printManifest_any (pmM tx) ao g 0 cp w' hao hl s1 s2 s3 (PW.out _ hb) (T4.out _ hb)
    rw [m1, m2] at this
    exact this
  have KND := hide (And.intro (not_meta_man (tx := tx)) (And.intro (not_meta_ptr (tx := tx)) (not_man_ptr (tx := tx))))
  unfold metaCells at QM RM
  generalize metaPE tx = EM at *
  generalize metaPT tx = A0 at *
  generalize metaPV tx 1 = A1 at *
  generalize metaPV tx 2 = A2 at *
  generalize metaPV tx 3 = A3 at *
  generalize metaPV tx 4 = A4 at *
  generalize metaPV tx 5 = A5 at *
  generalize metaPV tx 6 = A6 at *
  generalize metaPV tx 7 = A7 at *
  generalize ptrPE tx = EP at *
  generalize ptrPV tx 0 = P0 at *
  generalize ptrPV tx 1 = P1 at *
  generalize ptrPV tx 2 = P2 at *
  generalize ptrPV tx 3 = P3 at *
  generalize (pmM tx).st = F0 at *
  generalize (pmM tx).ver = F1 at *
  generalize (pmM tx).nod = F2 at *
  generalize (pmM tx).tot = F4 at *
  generalize (pmM tx).whl = F5 at *
  generalize (pmM tx).rs = RS at *
  clear hT4 hP
  have B0 := hide (Below.refl w.heap.size w)
  by_cases hm : EM = 0
  · have hn : ¬ pmE tx = 0 := fun h => KND.out.1 hm h
    have hp : ¬ EP = 0 := fun h => KND.out.2.1 hm h
    have hp' : (EP == 0) = false := beq_eq_false_iff_ne.2 hp
    have hn' : (pmE tx == 0) = false := beq_eq_false_iff_ne.2 hn
    subst hm
    clear KND RP
    go_enter Tryz.func5, Tryz.ntmps5
    go_wp2_with fail
    refine Calls.mono (QM.out w B0.out) ?_
    rintro x w1 ⟨rfl, b1⟩
    have B1 := hide ((B0.out.trans (b1.mono B0.out.size)).alloc (B0.out.trans (b1.mono B0.out.size)).size (.cells #[.string A0, .int .i64 A1, .int .i64 A2, .int .i64 A3, .int .i64 A4, .int .i64 A5, .int .i64 A6, .int .i64 A7] 23))
    clear b1 QM
    go_wp2_with (go_at_call 12; refine Calls.mono (pnum_any _ _) ?_; rintro e w' ⟨rfl, rfl⟩)
    refine Calls.mono (RM.out (by trivial) _ B1.out) ?_
    rintro x w2 ⟨rfl, b2⟩
    have B2 := hide (B1.out.trans (b2.mono B1.out.size))
    clear b2 B1
    go_wp2_with (go_at_call 12; refine Calls.mono (pnum_any _ _) ?_; rintro e w' ⟨rfl, rfl⟩)
    refine Calls.mono (QF.out _ B2.out) ?_
    rintro x w3 ⟨c1, c2, b3⟩
    have B3 := hide (B2.out.trans (b3.mono B2.out.size))
    obtain rfl := c2 hn
    clear c1 c2 b3 B2 QF RF
    have B5 := hide (B3.out.alloc B3.out.size (.cells #[.string ⟨#[]⟩, .int .i64 0, .int .i64 0, .slice none 0 0, .int .i64 0, .int .i64 0] 52))
    clear B3
    go_wp2_with (go_at_call 12; refine Calls.mono (pnum_any _ _) ?_; rintro e w' ⟨rfl, rfl⟩)
    refine Calls.mono (QP.out _ B5.out) ?_
    rintro x w5 ⟨rfl, b5⟩
    have B6 := hide ((B5.out.trans (b5.mono B5.out.size)).alloc (B5.out.trans (b5.mono B5.out.size)).size (.cells #[.int .i64 P0, .int .i64 P1, .int .i64 P2, .int .i64 P3] 25))
    clear b5 B5 QP
    go_wp2_with (go_at_call 12; refine Calls.mono (pnum_any _ _) ?_; rintro e w' ⟨rfl, rfl⟩)
    have B7 := B6
    clear B6
    refine Calls.mono (QN.out _ B7.out) ?_
    rintro x w7 ⟨v, k0, l, q, rfl, n1, z1, o1, b7⟩
    obtain ⟨ao, g, cp, rfl, h1, h2, h3⟩ := own_notes o1
    have B8 := hide (B7.out.trans (b7.mono B7.out.size))
    obtain ⟨y1, y2⟩ := notes_back _ _ _ n1
    obtain ⟨y3, y4, y5⟩ := notesAt_le _ _ _ n1
    have hql : (nvsL l).length = q := by rw [← y1, List.length_take, size_data]; omega
    have HEX : Hid (tx.extract 0 q = strOf (nvsL l)) := by show _ = _; rw [← y1, ← strOf_toList (tx.extract 0 q), Lib.extract_data]; rfl
    have HOK := hide y2
    have LW : Hid (∀ w', Below w7.heap.size w7 w' → 0 < l.length → LiesN g w' l ∧ g < w'.heap.size) := fun w' h z => ⟨h3.below (h2 z) h, Nat.lt_of_lt_of_le (h2 z) h.size⟩
    have HAO := hide h1
    have hll : l.length ≤ q := by omega
    have hqs : q ≤ tx.size := y4
    have BW := hide (Below.refl w7.heap.size w7)
    clear h1 h2 h3 o1 b7 n1 z1 y1 y2 y3 y4 y5 B7 QN
    go_wp2_with fail
    go_loopw [16, 17] (fun s i wr => ∃ k : Nat, k ≤ l.length ∧ i = .int .i64 k ∧ s = .string (strOf (nvsL (l.take k))) ∧ Below w7.heap.size w7 wr) (fun _ i _ => l.length - (intOf i).toNat)
    case atStart => exact ⟨0, Nat.zero_le _, rfl, rfl, BW.out⟩
    case round =>
      obtain ⟨k, hk, rfl, rfl, hnx⟩ := hrel
      by_cases hlt : k < l.length
      · have hlt' : (k : Int) < (l.length : Int) := by omega
        obtain rfl := HAO.out (by omega)
        have hnok := HOK.out l[k] (List.getElem_mem hlt)
        obtain ⟨d1, d2, d3, d4⟩ := (LW.out wr hnx (by omega)).1 k hlt
        have hb1 := (LW.out wr hnx (by omega)).2
        have BK := hide (B8.out.trans (hnx.mono B8.out.size))
        have PK := hide (PN.out l[k] hnok wr BK.out)
        have SN := hide (nvs_len l k hlt)
        have hle1 := nvs_le l (k + 1)
        have HNX := hide hnx
        have hE : noteE l[k].1 l[k].2.1 l[k].2.2.1 l[k].2.2.2 = 0 := by unfold noteE; rw [if_pos (show noteOk _ _ _ _ = true from hnok)]
        rw [hE] at PK
        have HT : Hid ((noteS l[k].1 l[k].2.1 l[k].2.2.1 l[k].2.2.2).data.toList = nvS l[k]) := rfl
        clear hnx hnok hE
        generalize l[k] = n at *
        obtain ⟨c, p, e, s⟩ := n
        dsimp only at d1 d2 d3 d4 PK HT
        generalize noteS c p e s = T at *
        have HSZ : Hid (strOf (nvsL (l.take k)) ++ T = strOf (nvsL (l.take (k + 1)))) := by show _ = _; rw [SN.out, strOf_append, ← HT.out, strOf_toList]
        have hs1 : (strOf (nvsL (l.take k))).size + T.size = (nvsL (l.take (k + 1))).length := by rw [← ByteArray.size_append, HSZ.out, strOf_size]
        have hcat : (strOf (nvsL (l.take k))).size + T.size ≤ 140737488355328 := by omega
        clear SN HT
        go_wp2_with fail
        refine Calls.mono PK.out ?_
        rintro x w9 ⟨rfl, b9⟩
        have B9 := hide (HNX.out.trans (b9.mono HNX.out.size))
        clear b9 PK d1 d2 d3 d4
        go_wp2_with (go_at_call 12; refine Calls.mono (pnum_any _ _) ?_; rintro e w' ⟨rfl, rfl⟩)
        go_roundw
        case rel => exact ⟨k + 1, by omega, by go_num, by rw [HSZ.out], B9.out⟩
        case measure => simp [intOf]; omega
      · obtain rfl : k = l.length := by omega
        have BK := hide (B8.out.trans (hnx.mono B8.out.size))
        have eT : l.take l.length = l := List.take_length
        rw [eT]
        have hSs : (strOf (nvsL l)).size = q := by rw [strOf_size]; exact hql
        have HEX2 := HEX.out
        generalize strOf (nvsL l) = S at *
        clear hlt hnx hk eT hql HOK LW HAO HEX
        have hq0 : (0 : Int) ≤ (q : Int) := by omega
        have hq1 : (q : Int) ≤ (tx.size : Int) := by omega
        go_wp2_with fail
        refine Calls.mono (FI.out _ BK.out) ?_
        rintro x w10 ⟨rfl, b10⟩
        have BE := hide (BK.out.trans (b10.mono BK.out.size))
        clear b10
        go_wp2_with fail
        go_ret
        exact ⟨rfl, BE.out⟩
  have hm' : (EM == 0) = false := beq_eq_false_iff_ne.2 hm
  by_cases hp : EP = 0
  · have hn : ¬ pmE tx = 0 := fun h => KND.out.2.2 h hp
    have hn' : (pmE tx == 0) = false := beq_eq_false_iff_ne.2 hn
    subst hp
    clear KND RM
    go_enter Tryz.func5, Tryz.ntmps5
    go_wp2_with fail
    refine Calls.mono (QM.out w B0.out) ?_
    rintro x w1 ⟨rfl, b1⟩
    have B1 := hide ((B0.out.trans (b1.mono B0.out.size)).alloc (B0.out.trans (b1.mono B0.out.size)).size (.cells #[.string A0, .int .i64 A1, .int .i64 A2, .int .i64 A3, .int .i64 A4, .int .i64 A5, .int .i64 A6, .int .i64 A7] 23))
    clear b1 QM
    go_wp2_with (go_at_call 12; refine Calls.mono (pnum_any _ _) ?_; rintro e w' ⟨rfl, rfl⟩)
    have B2 := B1
    clear B1
    refine Calls.mono (QF.out _ B2.out) ?_
    rintro x w3 ⟨c1, c2, b3⟩
    have B3 := hide (B2.out.trans (b3.mono B2.out.size))
    obtain rfl := c2 hn
    clear c1 c2 b3 B2 QF RF
    have B5 := hide (B3.out.alloc B3.out.size (.cells #[.string ⟨#[]⟩, .int .i64 0, .int .i64 0, .slice none 0 0, .int .i64 0, .int .i64 0] 52))
    clear B3
    go_wp2_with (go_at_call 12; refine Calls.mono (pnum_any _ _) ?_; rintro e w' ⟨rfl, rfl⟩)
    refine Calls.mono (QP.out _ B5.out) ?_
    rintro x w5 ⟨rfl, b5⟩
    have B6 := hide ((B5.out.trans (b5.mono B5.out.size)).alloc (B5.out.trans (b5.mono B5.out.size)).size (.cells #[.int .i64 P0, .int .i64 P1, .int .i64 P2, .int .i64 P3] 25))
    clear b5 B5 QP
    go_wp2_with (go_at_call 12; refine Calls.mono (pnum_any _ _) ?_; rintro e w' ⟨rfl, rfl⟩)
    refine Calls.mono (RP.out (by trivial) _ B6.out) ?_
    rintro x w6 ⟨rfl, b6⟩
    have B7 := hide (B6.out.trans (b6.mono B6.out.size))
    clear b6 B6
    go_wp2_with (go_at_call 12; refine Calls.mono (pnum_any _ _) ?_; rintro e w' ⟨rfl, rfl⟩)
    refine Calls.mono (QN.out _ B7.out) ?_
    rintro x w7 ⟨v, k0, l, q, rfl, n1, z1, o1, b7⟩
    obtain ⟨ao, g, cp, rfl, h1, h2, h3⟩ := own_notes o1
    have B8 := hide (B7.out.trans (b7.mono B7.out.size))
    obtain ⟨y1, y2⟩ := notes_back _ _ _ n1
    obtain ⟨y3, y4, y5⟩ := notesAt_le _ _ _ n1
    have hql : (nvsL l).length = q := by rw [← y1, List.length_take, size_data]; omega
    have HEX : Hid (tx.extract 0 q = strOf (nvsL l)) := by show _ = _; rw [← y1, ← strOf_toList (tx.extract 0 q), Lib.extract_data]; rfl
    have HOK := hide y2
    have LW : Hid (∀ w', Below w7.heap.size w7 w' → 0 < l.length → LiesN g w' l ∧ g < w'.heap.size) := fun w' h z => ⟨h3.below (h2 z) h, Nat.lt_of_lt_of_le (h2 z) h.size⟩
    have HAO := hide h1
    have hll : l.length ≤ q := by omega
    have hqs : q ≤ tx.size := y4
    have BW := hide (Below.refl w7.heap.size w7)
    clear h1 h2 h3 o1 b7 n1 z1 y1 y2 y3 y4 y5 B7 QN
    go_wp2_with fail
    go_loopw [16, 17] (fun s i wr => ∃ k : Nat, k ≤ l.length ∧ i = .int .i64 k ∧ s = .string (strOf (nvsL (l.take k))) ∧ Below w7.heap.size w7 wr) (fun _ i _ => l.length - (intOf i).toNat)
    case atStart => exact ⟨0, Nat.zero_le _, rfl, rfl, BW.out⟩
    case round =>
      obtain ⟨k, hk, rfl, rfl, hnx⟩ := hrel
      by_cases hlt : k < l.length
      · have hlt' : (k : Int) < (l.length : Int) := by omega
        obtain rfl := HAO.out (by omega)
        have hnok := HOK.out l[k] (List.getElem_mem hlt)
        obtain ⟨d1, d2, d3, d4⟩ := (LW.out wr hnx (by omega)).1 k hlt
        have hb1 := (LW.out wr hnx (by omega)).2
        have BK := hide (B8.out.trans (hnx.mono B8.out.size))
        have PK := hide (PN.out l[k] hnok wr BK.out)
        have SN := hide (nvs_len l k hlt)
        have hle1 := nvs_le l (k + 1)
        have HNX := hide hnx
        have hE : noteE l[k].1 l[k].2.1 l[k].2.2.1 l[k].2.2.2 = 0 := by unfold noteE; rw [if_pos (show noteOk _ _ _ _ = true from hnok)]
        rw [hE] at PK
        have HT : Hid ((noteS l[k].1 l[k].2.1 l[k].2.2.1 l[k].2.2.2).data.toList = nvS l[k]) := rfl
        clear hnx hnok hE
        generalize l[k] = n at *
        obtain ⟨c, p, e, s⟩ := n
        dsimp only at d1 d2 d3 d4 PK HT
        generalize noteS c p e s = T at *
        have HSZ : Hid (strOf (nvsL (l.take k)) ++ T = strOf (nvsL (l.take (k + 1)))) := by show _ = _; rw [SN.out, strOf_append, ← HT.out, strOf_toList]
        have hs1 : (strOf (nvsL (l.take k))).size + T.size = (nvsL (l.take (k + 1))).length := by rw [← ByteArray.size_append, HSZ.out, strOf_size]
        have hcat : (strOf (nvsL (l.take k))).size + T.size ≤ 140737488355328 := by omega
        clear SN HT
        go_wp2_with fail
        refine Calls.mono PK.out ?_
        rintro x w9 ⟨rfl, b9⟩
        have B9 := hide (HNX.out.trans (b9.mono HNX.out.size))
        clear b9 PK d1 d2 d3 d4
        go_wp2_with (go_at_call 12; refine Calls.mono (pnum_any _ _) ?_; rintro e w' ⟨rfl, rfl⟩)
        go_roundw
        case rel => exact ⟨k + 1, by omega, by go_num, by rw [HSZ.out], B9.out⟩
        case measure => simp [intOf]; omega
      · obtain rfl : k = l.length := by omega
        have BK := hide (B8.out.trans (hnx.mono B8.out.size))
        have eT : l.take l.length = l := List.take_length
        rw [eT]
        have hSs : (strOf (nvsL l)).size = q := by rw [strOf_size]; exact hql
        have HEX2 := HEX.out
        generalize strOf (nvsL l) = S at *
        clear hlt hnx hk eT hql HOK LW HAO HEX
        have hq0 : (0 : Int) ≤ (q : Int) := by omega
        have hq1 : (q : Int) ≤ (tx.size : Int) := by omega
        go_wp2_with fail
        refine Calls.mono (FI.out _ BK.out) ?_
        rintro x w10 ⟨rfl, b10⟩
        have BE := hide (BK.out.trans (b10.mono BK.out.size))
        clear b10
        go_wp2_with fail
        go_ret
        exact ⟨rfl, BE.out⟩
  have hp' : (EP == 0) = false := beq_eq_false_iff_ne.2 hp
  clear KND RM RP
  by_cases hn : pmE tx = 0
  · go_enter Tryz.func5, Tryz.ntmps5
    go_wp2_with fail
    refine Calls.mono (QM.out w B0.out) ?_
    rintro x w1 ⟨rfl, b1⟩
    have B1 := hide ((B0.out.trans (b1.mono B0.out.size)).alloc (B0.out.trans (b1.mono B0.out.size)).size (.cells #[.string A0, .int .i64 A1, .int .i64 A2, .int .i64 A3, .int .i64 A4, .int .i64 A5, .int .i64 A6, .int .i64 A7] 23))
    clear b1 QM
    go_wp2_with (go_at_call 12; refine Calls.mono (pnum_any _ _) ?_; rintro e w' ⟨rfl, rfl⟩)
    have B2 := B1
    clear B1
    refine Calls.mono (QF.out _ B2.out) ?_
    rintro x w3 ⟨c1, c2, b3⟩
    have B3 := hide (B2.out.trans (b3.mono B2.out.size))
    obtain ⟨v, rfl, o⟩ := c1 hn
    obtain ⟨ao, g, cp, rfl, hcp, hao, hl⟩ := own_rows o
    clear c1 c2 b3 B2 QF o
    have B4 := hide (B3.out.alloc B3.out.size (.cells #[.string F0, .int .i64 F1, .int .i64 F2, .slice ao RS.length cp, .int .i64 F4, .int .i64 F5] 52))
    have LR := hide (hl.below (w' := w3.alloc (.cells #[.string F0, .int .i64 F1, .int .i64 F2, .slice ao RS.length cp, .int .i64 F4, .int .i64 F5] 52)) ((Below.refl _ _).alloc (Nat.le_refl _) _))
    have HAO := hide hao
    clear hl hao B3
    go_wp2_with (go_at_call 12; refine Calls.mono (pnum_any _ _) ?_; rintro e w' ⟨rfl, rfl⟩)
    refine Calls.mono (RF.out hn ao g cp _ HAO.out LR.out B4.out) ?_
    rintro x w4 ⟨rfl, b4⟩
    have B5 := hide (B4.out.trans (b4.mono B4.out.size))
    clear b4 B4 LR HAO hcp RF
    go_wp2_with (go_at_call 12; refine Calls.mono (pnum_any _ _) ?_; rintro e w' ⟨rfl, rfl⟩)
    refine Calls.mono (QP.out _ B5.out) ?_
    rintro x w5 ⟨rfl, b5⟩
    have B6 := hide ((B5.out.trans (b5.mono B5.out.size)).alloc (B5.out.trans (b5.mono B5.out.size)).size (.cells #[.int .i64 P0, .int .i64 P1, .int .i64 P2, .int .i64 P3] 25))
    clear b5 B5 QP
    go_wp2_with (go_at_call 12; refine Calls.mono (pnum_any _ _) ?_; rintro e w' ⟨rfl, rfl⟩)
    have B7 := B6
    clear B6
    refine Calls.mono (QN.out _ B7.out) ?_
    rintro x w7 ⟨v, k0, l, q, rfl, n1, z1, o1, b7⟩
    obtain ⟨ao, g, cp, rfl, h1, h2, h3⟩ := own_notes o1
    have B8 := hide (B7.out.trans (b7.mono B7.out.size))
    obtain ⟨y1, y2⟩ := notes_back _ _ _ n1
    obtain ⟨y3, y4, y5⟩ := notesAt_le _ _ _ n1
    have hql : (nvsL l).length = q := by rw [← y1, List.length_take, size_data]; omega
    have HEX : Hid (tx.extract 0 q = strOf (nvsL l)) := by show _ = _; rw [← y1, ← strOf_toList (tx.extract 0 q), Lib.extract_data]; rfl
    have HOK := hide y2
    have LW : Hid (∀ w', Below w7.heap.size w7 w' → 0 < l.length → LiesN g w' l ∧ g < w'.heap.size) := fun w' h z => ⟨h3.below (h2 z) h, Nat.lt_of_lt_of_le (h2 z) h.size⟩
    have HAO := hide h1
    have hll : l.length ≤ q := by omega
    have hqs : q ≤ tx.size := y4
    have BW := hide (Below.refl w7.heap.size w7)
    clear h1 h2 h3 o1 b7 n1 z1 y1 y2 y3 y4 y5 B7 QN
    go_wp2_with fail
    go_loopw [16, 17] (fun s i wr => ∃ k : Nat, k ≤ l.length ∧ i = .int .i64 k ∧ s = .string (strOf (nvsL (l.take k))) ∧ Below w7.heap.size w7 wr) (fun _ i _ => l.length - (intOf i).toNat)
    case atStart => exact ⟨0, Nat.zero_le _, rfl, rfl, BW.out⟩
    case round =>
      obtain ⟨k, hk, rfl, rfl, hnx⟩ := hrel
      by_cases hlt : k < l.length
      · have hlt' : (k : Int) < (l.length : Int) := by omega
        obtain rfl := HAO.out (by omega)
        have hnok := HOK.out l[k] (List.getElem_mem hlt)
        obtain ⟨d1, d2, d3, d4⟩ := (LW.out wr hnx (by omega)).1 k hlt
        have hb1 := (LW.out wr hnx (by omega)).2
        have BK := hide (B8.out.trans (hnx.mono B8.out.size))
        have PK := hide (PN.out l[k] hnok wr BK.out)
        have SN := hide (nvs_len l k hlt)
        have hle1 := nvs_le l (k + 1)
        have HNX := hide hnx
        have hE : noteE l[k].1 l[k].2.1 l[k].2.2.1 l[k].2.2.2 = 0 := by unfold noteE; rw [if_pos (show noteOk _ _ _ _ = true from hnok)]
        rw [hE] at PK
        have HT : Hid ((noteS l[k].1 l[k].2.1 l[k].2.2.1 l[k].2.2.2).data.toList = nvS l[k]) := rfl
        clear hnx hnok hE
        generalize l[k] = n at *
        obtain ⟨c, p, e, s⟩ := n
        dsimp only at d1 d2 d3 d4 PK HT
        generalize noteS c p e s = T at *
        have HSZ : Hid (strOf (nvsL (l.take k)) ++ T = strOf (nvsL (l.take (k + 1)))) := by show _ = _; rw [SN.out, strOf_append, ← HT.out, strOf_toList]
        have hs1 : (strOf (nvsL (l.take k))).size + T.size = (nvsL (l.take (k + 1))).length := by rw [← ByteArray.size_append, HSZ.out, strOf_size]
        have hcat : (strOf (nvsL (l.take k))).size + T.size ≤ 140737488355328 := by omega
        clear SN HT
        go_wp2_with fail
        refine Calls.mono PK.out ?_
        rintro x w9 ⟨rfl, b9⟩
        have B9 := hide (HNX.out.trans (b9.mono HNX.out.size))
        clear b9 PK d1 d2 d3 d4
        go_wp2_with (go_at_call 12; refine Calls.mono (pnum_any _ _) ?_; rintro e w' ⟨rfl, rfl⟩)
        go_roundw
        case rel => exact ⟨k + 1, by omega, by go_num, by rw [HSZ.out], B9.out⟩
        case measure => simp [intOf]; omega
      · obtain rfl : k = l.length := by omega
        have BK := hide (B8.out.trans (hnx.mono B8.out.size))
        have eT : l.take l.length = l := List.take_length
        rw [eT]
        have hSs : (strOf (nvsL l)).size = q := by rw [strOf_size]; exact hql
        have HEX2 := HEX.out
        generalize strOf (nvsL l) = S at *
        clear hlt hnx hk eT hql HOK LW HAO HEX
        have hq0 : (0 : Int) ≤ (q : Int) := by omega
        have hq1 : (q : Int) ≤ (tx.size : Int) := by omega
        go_wp2_with fail
        refine Calls.mono (FI.out _ BK.out) ?_
        rintro x w10 ⟨rfl, b10⟩
        have BE := hide (BK.out.trans (b10.mono BK.out.size))
        clear b10
        go_wp2_with fail
        go_ret
        exact ⟨rfl, BE.out⟩
  · have hn' : (pmE tx == 0) = false := beq_eq_false_iff_ne.2 hn
    go_enter Tryz.func5, Tryz.ntmps5
    go_wp2_with fail
    refine Calls.mono (QM.out w B0.out) ?_
    rintro x w1 ⟨rfl, b1⟩
    have B1 := hide ((B0.out.trans (b1.mono B0.out.size)).alloc (B0.out.trans (b1.mono B0.out.size)).size (.cells #[.string A0, .int .i64 A1, .int .i64 A2, .int .i64 A3, .int .i64 A4, .int .i64 A5, .int .i64 A6, .int .i64 A7] 23))
    clear b1 QM
    go_wp2_with (go_at_call 12; refine Calls.mono (pnum_any _ _) ?_; rintro e w' ⟨rfl, rfl⟩)
    have B2 := B1
    clear B1
    refine Calls.mono (QF.out _ B2.out) ?_
    rintro x w3 ⟨c1, c2, b3⟩
    have B3 := hide (B2.out.trans (b3.mono B2.out.size))
    obtain rfl := c2 hn
    clear c1 c2 b3 B2 QF RF
    have B5 := hide (B3.out.alloc B3.out.size (.cells #[.string ⟨#[]⟩, .int .i64 0, .int .i64 0, .slice none 0 0, .int .i64 0, .int .i64 0] 52))
    clear B3
    go_wp2_with (go_at_call 12; refine Calls.mono (pnum_any _ _) ?_; rintro e w' ⟨rfl, rfl⟩)
    refine Calls.mono (QP.out _ B5.out) ?_
    rintro x w5 ⟨rfl, b5⟩
    have B6 := hide ((B5.out.trans (b5.mono B5.out.size)).alloc (B5.out.trans (b5.mono B5.out.size)).size (.cells #[.int .i64 P0, .int .i64 P1, .int .i64 P2, .int .i64 P3] 25))
    clear b5 B5 QP
    go_wp2_with (go_at_call 12; refine Calls.mono (pnum_any _ _) ?_; rintro e w' ⟨rfl, rfl⟩)
    have B7 := B6
    clear B6
    refine Calls.mono (QN.out _ B7.out) ?_
    rintro x w7 ⟨v, k0, l, q, rfl, n1, z1, o1, b7⟩
    obtain ⟨ao, g, cp, rfl, h1, h2, h3⟩ := own_notes o1
    have B8 := hide (B7.out.trans (b7.mono B7.out.size))
    obtain ⟨y1, y2⟩ := notes_back _ _ _ n1
    obtain ⟨y3, y4, y5⟩ := notesAt_le _ _ _ n1
    have hql : (nvsL l).length = q := by rw [← y1, List.length_take, size_data]; omega
    have HEX : Hid (tx.extract 0 q = strOf (nvsL l)) := by show _ = _; rw [← y1, ← strOf_toList (tx.extract 0 q), Lib.extract_data]; rfl
    have HOK := hide y2
    have LW : Hid (∀ w', Below w7.heap.size w7 w' → 0 < l.length → LiesN g w' l ∧ g < w'.heap.size) := fun w' h z => ⟨h3.below (h2 z) h, Nat.lt_of_lt_of_le (h2 z) h.size⟩
    have HAO := hide h1
    have hll : l.length ≤ q := by omega
    have hqs : q ≤ tx.size := y4
    have BW := hide (Below.refl w7.heap.size w7)
    clear h1 h2 h3 o1 b7 n1 z1 y1 y2 y3 y4 y5 B7 QN
    go_wp2_with fail
    go_loopw [16, 17] (fun s i wr => ∃ k : Nat, k ≤ l.length ∧ i = .int .i64 k ∧ s = .string (strOf (nvsL (l.take k))) ∧ Below w7.heap.size w7 wr) (fun _ i _ => l.length - (intOf i).toNat)
    case atStart => exact ⟨0, Nat.zero_le _, rfl, rfl, BW.out⟩
    case round =>
      obtain ⟨k, hk, rfl, rfl, hnx⟩ := hrel
      by_cases hlt : k < l.length
      · have hlt' : (k : Int) < (l.length : Int) := by omega
        obtain rfl := HAO.out (by omega)
        have hnok := HOK.out l[k] (List.getElem_mem hlt)
        obtain ⟨d1, d2, d3, d4⟩ := (LW.out wr hnx (by omega)).1 k hlt
        have hb1 := (LW.out wr hnx (by omega)).2
        have BK := hide (B8.out.trans (hnx.mono B8.out.size))
        have PK := hide (PN.out l[k] hnok wr BK.out)
        have SN := hide (nvs_len l k hlt)
        have hle1 := nvs_le l (k + 1)
        have HNX := hide hnx
        have hE : noteE l[k].1 l[k].2.1 l[k].2.2.1 l[k].2.2.2 = 0 := by unfold noteE; rw [if_pos (show noteOk _ _ _ _ = true from hnok)]
        rw [hE] at PK
        have HT : Hid ((noteS l[k].1 l[k].2.1 l[k].2.2.1 l[k].2.2.2).data.toList = nvS l[k]) := rfl
        clear hnx hnok hE
        generalize l[k] = n at *
        obtain ⟨c, p, e, s⟩ := n
        dsimp only at d1 d2 d3 d4 PK HT
        generalize noteS c p e s = T at *
        have HSZ : Hid (strOf (nvsL (l.take k)) ++ T = strOf (nvsL (l.take (k + 1)))) := by show _ = _; rw [SN.out, strOf_append, ← HT.out, strOf_toList]
        have hs1 : (strOf (nvsL (l.take k))).size + T.size = (nvsL (l.take (k + 1))).length := by rw [← ByteArray.size_append, HSZ.out, strOf_size]
        have hcat : (strOf (nvsL (l.take k))).size + T.size ≤ 140737488355328 := by omega
        clear SN HT
        go_wp2_with fail
        refine Calls.mono PK.out ?_
        rintro x w9 ⟨rfl, b9⟩
        have B9 := hide (HNX.out.trans (b9.mono HNX.out.size))
        clear b9 PK d1 d2 d3 d4
        go_wp2_with (go_at_call 12; refine Calls.mono (pnum_any _ _) ?_; rintro e w' ⟨rfl, rfl⟩)
        go_roundw
        case rel => exact ⟨k + 1, by omega, by go_num, by rw [HSZ.out], B9.out⟩
        case measure => simp [intOf]; omega
      · obtain rfl : k = l.length := by omega
        have BK := hide (B8.out.trans (hnx.mono B8.out.size))
        have eT : l.take l.length = l := List.take_length
        rw [eT]
        have hSs : (strOf (nvsL l)).size = q := by rw [strOf_size]; exact hql
        have HEX2 := HEX.out
        generalize strOf (nvsL l) = S at *
        clear hlt hnx hk eT hql HOK LW HAO HEX
        have hq0 : (0 : Int) ≤ (q : Int) := by omega
        have hq1 : (q : Int) ≤ (tx.size : Int) := by omega
        go_wp2_with fail
        refine Calls.mono (FI.out _ BK.out) ?_
        rintro x w10 ⟨rfl, b10⟩
        have BE := hide (BK.out.trans (b10.mono BK.out.size))
        clear b10
        go_wp2_with fail
        go_ret
        exact ⟨rfl, BE.out⟩
end Go.Proofs.YtfpalfpfijcpbaaGreatDoor
