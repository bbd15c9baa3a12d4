import Derived.Test.YtjibhdcnibgegaaRySame
import Derived.Laws.ResultCell
namespace Go.Proofs.Ytjibhdcnibgegaa
open Go.RowKit
theorem run_appAny (w : World) (base n : Nat) (v : Value) (xs : List Value) (ty : TypeId) (s : ByteArray) (hown : w.ownsRow base 5 1 v n xs) (hbytes : n + s.size ≤ 140737488355328) (hbase : base ≤ w.heap.size) :
    ∃ v' w', (Builtin.append_ #[66, 9] ty #[v, .string s]).run Try.prog w = .ok v' w' ∧ w'.ownsRow base 5 1 v' (n + s.size) (xs ++ s.data.toList.map ub) ∧ Grew w w' v v' := by
  rcases hown.2 with ⟨rfl, rfl⟩ | ⟨g, cap, cur, rfl, _⟩
  · obtain ⟨i0, hi, hz0, hz1, hz2⟩ := info_parts info5
    obtain ⟨v', w', hr, ho, hg, hn⟩ := Lib.run_append_own_string (P := Try.prog) w base 66 9 ty 5 i0 Try.underlying66 Try.underlying9 hi hz0 hz1 hz2 _ 0 xs hown s (by unfold maxLen; omega) hbytes hbase
    refine ⟨v', w', hr, ho, hg, ?_⟩
    by_cases hs : s.size = 0
    · rw [hn.2 ⟨rfl, hs⟩]; exact .inl rfl
    · have h2 := run_append_nil_string (P := Try.prog) w 66 9 ty 5 i0 (.int .u8 0) Try.underlying66 Try.underlying9 hi hz0 s (by omega) (by omega) (by rw [hz2]; omega)
      rw [hr] at h2
      injection h2 with h2 h3
      exact .inr ⟨w.heap.size, by rw [h2]; rfl, Nat.le_refl _⟩
  · exact run_appStr w base g n cap xs ty s hown hbytes hbase
theorem wpList_appAny {w : World} {ops : Array Oper} {rest : List Oper} {o : Oper} {a : Act} {Q : Exit → Act → World → Prop} (hgd : o.guard = none) (sl x : Operand)
    (ho : o.op = .call { callee := .builtin .append, args := #[sl, x], argTypes := #[66, 9] })
    (base n : Nat) (v : Value) (xs : List Value) (s : ByteArray) (hs : a.eval sl = v) (hx : a.eval x = .string s) (hown : w.ownsRow base 5 1 v n xs) (hbytes : n + s.size ≤ 140737488355328) (hbase : base ≤ w.heap.size)
    (h : ∀ v' w', w'.ownsRow base 5 1 v' (n + s.size) (xs ++ s.data.toList.map ub) → Grew w w' v v' → wpList Try.prog ops Q rest (a.put o.dst v') w') : wpList Try.prog ops Q (o :: rest) a w := by
  refine wpList_plain hgd fun K hK => ?_
  obtain ⟨v', w', hr, h2, h3⟩ := run_appAny w base n v xs o.type s hown hbytes hbase
  unfold Oper.wp execOp
  simp only [ho, resolve, invoke, builtin, Sem.run_bind, Sem.run_pure, Result.andThen_ok, List.map_toArray, List.map_cons, List.map_nil, hs, hx, hr]
  exact hK _ _ (h v' w' h2 h3)
/-- two rows apart -/
def Apart (a b : Value) : Prop := a.ownBlock = none ∨ a.ownBlock ≠ b.ownBlock
theorem Apart.symm {a b : Value} (h : Apart a b) : Apart b a := by
  unfold Apart at *
  rcases h with h | h
  · cases hb : b.ownBlock with
    | none => exact .inl rfl
    | some x => right; rw [h]; simp
  · exact .inr (Ne.symm h)
theorem Apart.grew {w w' : World} {a b b' : Value} {base e s n : Nat} {x : List Value} (h : Apart a b) (ho : w.ownsRow base e s a n x) (hg : Grew w w' b b') : Apart a b' ∧ w'.ownsRow base e s a n x := by
  refine ⟨?_, ho.kept hg.by' h⟩
  unfold Apart at *
  rcases h with h | h
  · exact .inl h
  · right
    rcases hg.at' with e | ⟨k, e, hk⟩
    · rw [e]; exact h
    · rw [e]
      intro he
      have := (ho.lt k he).2
      omega
theorem own_shape {w : World} {base e s n : Nat} {v : Value} {x : List Value} (h : w.ownsRow base e s v n x) : ∃ a c, v = .slice a n c := by
  rcases h.2 with ⟨rfl, rfl⟩ | ⟨g, cap, cur, rfl, _⟩
  · exact ⟨_, _, rfl⟩
  · exact ⟨_, _, rfl⟩
theorem encD_take (gs : List GR) (j : Nat) (h : j < gs.length) : encD (gs.take (j + 1)) = encD (gs.take j) ++ recL gs[j].2 := by
  rw [List.take_succ_eq_append_getElem h, encD_snoc]
theorem encN_step (gs : List GR) (j : Nat) (h : j < gs.length) : encN gs (j + 1) = encN gs j ++ gs[j].1.data.toList ++ dig 4 (encD (gs.take j)).length := by
  rw [encN, List.getD_eq_getElem?_getD, List.getElem?_eq_getElem h, Option.getD_some]
theorem encD_le (gs : List GR) (j : Nat) : (encD (gs.take j)).length ≤ (encD gs).length := by
  have : encD gs = encD (gs.take j) ++ encD (gs.drop j) := by unfold encD; rw [← List.flatMap_append, List.take_append_drop]
  rw [this, List.length_append]; omega
set_option maxHeartbeats 3000000 in
set_option maxRecDepth 100000 in
/-- the document's Encode, of groups that are right -/
theorem rencode_any (k : Nat) (hk : 1 ≤ k ∧ k ≤ 16) (gs : List GR) (v : Value) (b0 : Nat) (w : World) (hg : GroupsAt w b0 v gs) (hH : ∀ i (h : i < gs.length), gs[i].1.size = k ∧ errL gs[i].2 = 0)
    (hup : ∀ i (h : i + 1 < gs.length), (Op.bytesLess gs[i + 1].1.toList gs[i].1.toList || gs[i + 1].1.toList == gs[i].1.toList) = false) (hlen : gs.length ≤ 1048576) (hD : (encD gs).length ≤ 65536) :
    Calls Try.prog 46 #[.int .i64 (k : Int), v] w fun e w' => e = .returned (.tuple #[.agg #[.string (strOf (encN gs gs.length)), .string (strOf (encD gs))], .int .i64 0]) ∧ Below w.heap.size w w' := by
  obtain ⟨ao, g, cap, rfl, hao, hb, hcell⟩ := hg.split
  have HCELL := hide hcell
  have HH := hide hH
  have HUP := hide hup
  clear hcell hH hup hg
  go_enter Try.func46, Try.ntmps46
  obtain ⟨W0, hW0⟩ : ∃ W0, W0 = w.alloc (.cells #[.string ⟨#[]⟩, .string ⟨#[]⟩] 52) := ⟨_, rfl⟩
  have s0 : W0.heap.size = w.heap.size + 1 := by rw [hW0]; simp
  have b0w : Below w.heap.size w W0 := by rw [hW0]; exact (Below.refl _ w).alloc (Nat.le_refl _) _
  have HB0 := hide b0w
  have KC : Hid (W0.cell? ⟨w.heap.size, 0, none⟩ = some (.string ⟨#[]⟩) ∧ W0.cell? ⟨w.heap.size, 1, none⟩ = some (.string ⟨#[]⟩) ∧ W0.frozen? ⟨w.heap.size, 0, none⟩ = false ∧ W0.frozen? ⟨w.heap.size, 1, none⟩ = false) := by
    rw [hW0]
    exact ⟨by simp, by simp, by simp, by simp⟩
  clear b0w
  go_wp2_with fail
  rw [← hW0]
  go_loopw [6, 7, 8] (fun vi vd i wr => ∃ j : Nat, j ≤ gs.length ∧ i = .int .i64 (j : Int) ∧ (encN gs j).length = j * (k + 4) ∧ wr.ownsRow W0.heap.size 5 1 vi (encN gs j).length ((encN gs j).map ub) ∧ wr.ownsRow W0.heap.size 5 1 vd (encD (gs.take j)).length ((encD (gs.take j)).map ub) ∧ Apart vd vi ∧ Below W0.heap.size W0 wr)
    (fun _ _ i _ => gs.length - (intOf i).toNat)
  case atStart => exact ⟨0, by omega, rfl, by simp [encN], World.ownsRow_nil _ _ _ _, World.ownsRow_nil _ _ _ _, .inl rfl, Below.refl _ _⟩
  case round =>
    obtain ⟨j, hj, rfl, hln, hoi, hod, hap, hnx⟩ := hrel
    have hsz := hnx.size
    have hlD := encD_le gs j
    have hlnb : (encN gs j).length ≤ 20971520 := by
      rw [hln]
      exact Nat.mul_le_mul (show j ≤ 1048576 by omega) (show k + 4 ≤ 20 by omega)
    have HLN := hide hln
    clear hln
    have kc0 : wr.cell? ⟨w.heap.size, 0, none⟩ = some (.string ⟨#[]⟩) := by rw [hnx.cell (by rw [s0]; exact Nat.lt_succ_self _)]; exact KC.out.1
    have kc1 : wr.cell? ⟨w.heap.size, 1, none⟩ = some (.string ⟨#[]⟩) := by rw [hnx.cell (by rw [s0]; exact Nat.lt_succ_self _)]; exact KC.out.2.1
    have kf0 : wr.frozen? ⟨w.heap.size, 0, none⟩ = false := by rw [hnx.frozen (by rw [s0]; exact Nat.lt_succ_self _)]; exact KC.out.2.2.1
    have kf1 : wr.frozen? ⟨w.heap.size, 1, none⟩ = false := by rw [hnx.frozen (by rw [s0]; exact Nat.lt_succ_self _)]; exact KC.out.2.2.2
    have HOI := hide hoi
    have HOD := hide hod
    have HAP := hide hap
    have HNX := hide hnx
    obtain ⟨ad, cd, rfl⟩ := own_shape hod
    have bw : Below w.heap.size w wr := HB0.out.trans (hnx.mono (by omega))
    have BW := hide bw
    clear hoi hod hap hnx
    by_cases hlt : j < gs.length
    · clear kc0 kc1 kf0 kf1
      obtain rfl := hao (by omega)
      have lt0 := hb (by omega)
      obtain ⟨pv, c0, c1, opv⟩ := HCELL.out j hlt
      obtain ⟨hz, herr⟩ := HH.out j hlt
      have opw := own_below opv bw
      obtain ⟨q1, r1, u1, rfl, x11, x12, x13⟩ := own_pairs opw
      obtain ⟨fl, fp, fz, fs⟩ := fine herr
      clear fs fp
      have RC := hide (fun w' (hb : Below wr.heap.size wr w') => rrecord_any q1 r1 0 u1 gs[j].2 w' x11 (fun h => Nat.lt_of_lt_of_le (x12 h) hb.size) (by omega) (fun i hi => by have := x12 (by omega); exact x13.below this hb i hi))
      rw [herr, recS_ok herr] at RC
      have HED := hide (encD_take gs j hlt)
      have HEN := hide (encN_step gs j hlt)
      have hrl := recL_len gs[j].2
      have hle2 := encD_le gs (j + 1)
      rw [HED.out, List.length_append] at hle2
      have rt1 : Hid ((strOf (recL gs[j].2)).data.toList = recL gs[j].2) := rfl
      have rt2 : (strOf (recL gs[j].2)).size = (recL gs[j].2).length := strOf_size _
      have hprev : ∀ i, j = i + 1 → ∃ H0, wr.cell? ⟨g, i * 2, none⟩ = some (.string H0) ∧ (Op.bytesLess gs[j].1.toList H0.toList || gs[j].1.toList == H0.toList) = false := fun i hi => by
        subst hi
        obtain ⟨_, e0, _, _⟩ := HCELL.out i (by omega)
        exact ⟨gs[i].1, by rw [BW.out.cell (by exact lt0)]; exact e0, HUP.out i hlt⟩
      have HPREV := hide hprev
      rw [← bw.cell (by exact lt0)] at c0 c1
      have hji : (j : Int) < (gs.length : Int) := by omega
      clear opv opw x11 x12 x13 bw hprev herr
      generalize gs[j].1 = H at *
      generalize hYL : gs[j].2.length = YL at *
      clear hYL
      generalize strOf (recL gs[j].2) = RT at *
      generalize recL gs[j].2 = RL at *
      have hne : ((H.size : Int) != (k : Int)) = false := by rw [hz]; simp
      obtain ⟨WA, hWA⟩ : ∃ WA, WA = wr.alloc (.cells #[.string H, .slice q1 YL u1] 88) := ⟨_, rfl⟩
      have sA : WA.heap.size = wr.heap.size + 1 := by rw [hWA]; simp
      have bA : Below wr.heap.size wr WA := by rw [hWA]; exact (Below.refl _ wr).alloc (Nat.le_refl _) _
      have p0 : WA.cell? ⟨wr.heap.size, 0, none⟩ = some (.string H) := by rw [hWA]; simp
      have p1 : WA.cell? ⟨wr.heap.size, 1, none⟩ = some (.slice q1 YL u1) := by rw [hWA]; simp
      have BA := hide bA
      have D4 := hide (fun w' => digits_any (encD (gs.take j)).length 4 (by omega) (by omega) w')
      have z4 : (strOf (dig 4 (encD (gs.take j)).length)).size = 4 := by rw [strOf_size, dig_len]
      have d4 : Hid ((strOf (dig 4 (encD (gs.take j)).length)).data.toList = dig 4 (encD (gs.take j)).length) := rfl
      generalize strOf (dig 4 (encD (gs.take j)).length) = E4 at *
      have KEY : ∀ nq, ∀ w2, Below (WA.drewN nq).heap.size (WA.drewN nq) w2 → Below wr.heap.size wr w2 ∧ w2.cell? ⟨wr.heap.size, 0, none⟩ = some (.string H) := fun nq w2 hb => by
        have hb' : Below WA.heap.size WA w2 := (below_drewN (Below.refl _ WA) nq).trans hb
        exact ⟨BA.out.trans (hb'.mono (by omega)), (hb'.cell (by rw [sA]; exact Nat.lt_succ_self _)).trans p0⟩
      have HKEY := hide KEY
      clear KEY bA
      have HP0 := hide p0
      by_cases hj0 : j = 0
      · subst hj0
        rw [Nat.zero_mul] at c0 c1
        go_wp2_with fail
        rw [← hWA]
        clear hWA
        go_quiet (fail)
        go_wp2_with fail
        refine Calls.mono (RC.out _ (below_drewN BA.out _)) ?_
        rintro e w2 ⟨rfl, hb2⟩
        obtain ⟨B2, c20⟩ := HKEY.out _ w2 hb2
        have s2 := B2.size
        have N2 := hide (HNX.out.trans (B2.mono hsz))
        have OI2 := hide (own_below HOI.out B2)
        have OD2 := hide (own_below HOD.out B2)
        have s02 : W0.heap.size ≤ w2.heap.size := Nat.le_trans hsz s2
        clear hb2 B2
        go_wp2_with (at_builtin; refine wpList_appAny rfl _ _ rfl W0.heap.size _ _ _ H rfl rfl OI2.out (by omega) s02 ?_; intro v3 w3 o3 G3; have s3 := G3.size; have s03 := Nat.le_trans s02 s3; have O3 := hide o3; have AD3 := hide (HAP.out.grew OD2.out G3); have N3 := hide (N2.out.trans (G3.below s02 (fun t ht => (OI2.out.lt t ht).1))); clear o3 G3)
        refine Calls.mono (D4.out _) ?_
        rintro e w4 ⟨rfl, hb4⟩
        have s4 := hb4.size
        have s04 := Nat.le_trans s03 s4
        have O4 := hide (own_below O3.out hb4)
        have OD4 := hide (own_below AD3.out.2 hb4)
        have N4 := hide (N3.out.trans (hb4.mono s03))
        clear hb4
        go_wp2_with (first
          | (at_builtin; refine wpList_appAny rfl _ _ rfl W0.heap.size _ _ _ RT rfl rfl AD5.out.2 (by omega) s05 ?_; intro v6 w6 o6 G6; have O6 := hide o6; have AD6 := hide (AD5.out.1.symm.grew O5.out G6); have N6 := hide (N5.out.trans (G6.below s05 (fun t ht => (AD5.out.2.lt t ht).1))); clear o6 G6)
          | (at_builtin; refine wpList_appAny rfl _ _ rfl W0.heap.size _ _ _ E4 rfl rfl O4.out (by omega) s04 ?_; intro v5 w5 o5 G5; have s5 := G5.size; have s05 := Nat.le_trans s04 s5; have O5 := hide o5; have AD5 := hide (AD3.out.1.grew OD4.out G5); have N5 := hide (N4.out.trans (G5.below s04 (fun t ht => (O4.out.lt t ht).1))); clear o5 G5))
        go_roundw
        case rel =>
          refine ⟨1, by omega, by go_num, ?_, ?_, ?_, AD6.out.1.symm, N6.out⟩
          · rw [HEN.out]; simp only [List.length_append, dig_len, HLN.out, size_data]; rw [hz]; first | omega | (rw [Nat.add_mul]; omega)
          · have := AD6.out.2
            rw [d4.out] at this
            rw [HEN.out]
            simp only [List.map_append, List.length_append, dig_len, size_data] at this ⊢
            rw [z4] at this
            exact this
          · have := O6.out
            rw [rt1.out] at this
            rw [HED.out]
            simp only [List.map_append, List.length_append] at this ⊢
            rw [rt2] at this
            exact this
        case measure => simp [intOf]; omega
      · obtain ⟨i, hi⟩ : ∃ i, j = i + 1 := ⟨j - 1, by omega⟩
        obtain ⟨H0, cp, hle⟩ := HPREV.out i hi
        have pA : WA.cell? ⟨g, i * 2, none⟩ = some (.string H0) := by rw [BA.out.cell (by exact Nat.lt_of_lt_of_le lt0 BW.out.size)]; exact cp
        have hk3 : decide (0 < j) = true := decide_eq_true (by omega)
        have hk4 : (j : Int) - 1 = (i : Int) := by omega
        have hi2 : (i : Int) < (gs.length : Int) := by omega
        have HI := hide hi
        clear hi cp hj0
        go_wp2_with fail
        rw [← hWA]
        clear hWA
        go_quiet (fail)
        go_wp2_with fail
        refine Calls.mono (RC.out _ (below_drewN BA.out _)) ?_
        rintro e w2 ⟨rfl, hb2⟩
        obtain ⟨B2, c20⟩ := HKEY.out _ w2 hb2
        have s2 := B2.size
        have N2 := hide (HNX.out.trans (B2.mono hsz))
        have OI2 := hide (own_below HOI.out B2)
        have OD2 := hide (own_below HOD.out B2)
        have s02 : W0.heap.size ≤ w2.heap.size := Nat.le_trans hsz s2
        clear hb2 B2
        go_wp2_with (at_builtin; refine wpList_appAny rfl _ _ rfl W0.heap.size _ _ _ H rfl rfl OI2.out (by omega) s02 ?_; intro v3 w3 o3 G3; have s3 := G3.size; have s03 := Nat.le_trans s02 s3; have O3 := hide o3; have AD3 := hide (HAP.out.grew OD2.out G3); have N3 := hide (N2.out.trans (G3.below s02 (fun t ht => (OI2.out.lt t ht).1))); clear o3 G3)
        refine Calls.mono (D4.out _) ?_
        rintro e w4 ⟨rfl, hb4⟩
        have s4 := hb4.size
        have s04 := Nat.le_trans s03 s4
        have O4 := hide (own_below O3.out hb4)
        have OD4 := hide (own_below AD3.out.2 hb4)
        have N4 := hide (N3.out.trans (hb4.mono s03))
        clear hb4
        go_wp2_with (first
          | (at_builtin; refine wpList_appAny rfl _ _ rfl W0.heap.size _ _ _ RT rfl rfl AD5.out.2 (by omega) s05 ?_; intro v6 w6 o6 G6; have O6 := hide o6; have AD6 := hide (AD5.out.1.symm.grew O5.out G6); have N6 := hide (N5.out.trans (G6.below s05 (fun t ht => (AD5.out.2.lt t ht).1))); clear o6 G6)
          | (at_builtin; refine wpList_appAny rfl _ _ rfl W0.heap.size _ _ _ E4 rfl rfl O4.out (by omega) s04 ?_; intro v5 w5 o5 G5; have s5 := G5.size; have s05 := Nat.le_trans s04 s5; have O5 := hide o5; have AD5 := hide (AD3.out.1.grew OD4.out G5); have N5 := hide (N4.out.trans (G5.below s04 (fun t ht => (O4.out.lt t ht).1))); clear o5 G5))
        go_roundw
        case rel =>
          refine ⟨j + 1, by omega, by go_num, ?_, ?_, ?_, AD6.out.1.symm, N6.out⟩
          · rw [HEN.out]; simp only [List.length_append, dig_len, HLN.out, size_data]; rw [hz]; first | omega | (rw [Nat.add_mul]; omega)
          · have := AD6.out.2
            rw [d4.out] at this
            rw [HEN.out]
            simp only [List.map_append, List.length_append, dig_len, size_data] at this ⊢
            rw [z4] at this
            exact this
          · have := O6.out
            rw [rt1.out] at this
            rw [HED.out]
            simp only [List.map_append, List.length_append] at this ⊢
            rw [rt2] at this
            exact this
        case measure => simp [intOf]; omega
    · obtain rfl : j = gs.length := by omega
      rw [List.take_length] at HOD hlD
      have hci := own_conv (P := Try.prog) (src := 66) (dst := 9) (l := encN gs gs.length) HOI.out rfl Try.underlying66 Try.underlying5 Try.underlying9
      have hcd := own_conv (P := Try.prog) (src := 66) (dst := 9) (l := encD gs) HOD.out rfl Try.underlying66 Try.underlying5 Try.underlying9
      rw [List.take_length]
      have hbi : ((encD gs).length : Int) ≤ 65536 := by omega
      have HNB := hide (HB0.out.trans (HNX.out.mono (by omega)))
      go_wp2_with fail
      refine bodyPost_ret (v := .tuple #[.agg #[.string (strOf (encN gs gs.length)), .string (strOf (encD gs))], .int .i64 0]) ?_ rfl ⟨rfl, ?_⟩
      · rw [results_cell_tmp rfl]
        go_simp
      · exact (HNB.out.setCell (Nat.le_refl _) _).setCell (Nat.le_refl _) _
end Go.Proofs.Ytjibhdcnibgegaa
