import Derived.Test.YtndfhpfhgdamgaaGreatDoorGRbBoth
namespace Go.Proofs.YtndfhpfhgdamgaaGreatDoor.Cn
open Go.RowKit
theorem op_info2 : (Tryz.prog.info? 60).map (·.size) = some 15 := by kernel_rfl
theorem op_one2 (o : Op2) {a : Option Addr} {n cp : Nat} (h : o.l = .slice a n cp) : (opV o).all (·.oneCell') = true := by simp [opV, h, Value.oneCell']
def OpOk (w : World) (o : Op2) : Prop := (∃ ia lb lo lcap ks, o.l = .slice ia ks.length lcap ∧ KsAt w ia lb lo ks ∧ ks.length ≤ 8796093022200 ∧ lb < w.heap.size) ∧ o.s.size ≤ 9223372036854775807 ∧ tkOk o.n ∧ tkOk o.m.id
theorem nm_size2 {t : ByteArray} (h : nmP t = true) : t.size ≤ 40 := by
  unfold nmP at h
  rw [Bool.and_eq_true] at h
  exact of_decide_eq_true h.1
set_option maxHeartbeats 16000000 in
set_option maxRecDepth 100000 in
set_option linter.unusedSimpArgs false in
set_option linter.unusedVariables false in
theorem beyond_any2 (w : World) (n : Int) : Calls Tryz.prog 7 #[.int .i64 n] w fun e w' => e = .returned (.bool (decide ((2147483647 : Int) < n))) ∧ w = w' := by
  go_enter Tryz.func7, Tryz.ntmps7
  go_wp2_with fail
  go_ret
  exact ⟨rfl, rfl⟩
theorem two_start {W1 W2 W3 : World} {Sa Ta Sb Tb : Nat → Prop} {Ra Rb Ba Bb : Nat} {c : Cl} {Pa Pb : List Gp} (ra : RtAt W2 Sa Ra c Pa (v1 c)) (ga : Pa.map (·.g) = [gtF c]) (da : DkAt W2 W1.heap.size Ta Ba Ra (kF c)) (ba : Below W1.heap.size W1 W2) (sa : ∀ j, Sa j → W1.heap.size ≤ j) (rb : RtAt W3 Sb Rb c Pb (v1 c)) (gb : Pb.map (·.g) = [gtF c]) (db : DkAt W3 W2.heap.size Tb Bb Rb (kF c)) (bb : Below W2.heap.size W2 W3) (sb : ∀ j, Sb j → W2.heap.size ≤ j) : Z0 W1 Ra Rb Ba Bb c W3 := by
  have k := Kp.of_below bb non
  obtain ⟨vw, vk, vd, hx, hT⟩ := da.kp k (fun _ _ f => f)
  obtain ⟨vw', vk', vd', hx', hT'⟩ := db
  have hz := ba.size
  have h2 := hx'.ge
  have h1 : Ba < W2.heap.size := by
    obtain ⟨_, _, _, hx0, _⟩ := da
    exact blk_lt hx0.blk
  refine ⟨Sa, Sb, Pa, Pb, vw, (kF c).went, ⟨ra.kp k (fun _ _ f => f), rb, sa, fun j q => by have := sb j q; omega, fun j q q2 => by have := ra.lt q; have := sb j q2; omega, ⟨vk, vd, hx.blk⟩, ⟨vw', vk', vd', hx'.blk⟩, by omega, hx.ge, by omega, hx.fw, ba.trans (bb.mono ba.size)⟩, ga, gb⟩
set_option maxHeartbeats 16000000 in
set_option maxRecDepth 100000 in
set_option linter.unusedSimpArgs false in
set_option linter.unusedVariables false in
theorem batch_any (N : Nat) (w : World) (st : ByteArray) (x : Nat → Int) (ao : Option Addr) (b o cap : Nat) (pv : Nat → Value) (ns : List ND) (h : NsAt N w ao b o pv ns) (hN : N ≤ w.heap.size) (hs : st.size ≤ 9223372036854775807) (hT : TabD w) (h3 : 3 ≤ w.heap.size) (ko : Option Addr) (kb kko kcap : Nat) (ks : List ByteArray) (hK : KsAt w ko kb kko ks) (hkl : ks.length ≤ 8796093022200) (hkb : kb < w.heap.size) (ao2 : Option Addr) (bb oo cap2 : Nat) (L : List Op2) (hL : RwAt 15 opV w.heap.size w ao2 bb oo L) (hO : ∀ i (hi : i < L.length), OpOk w L[i]) :
    Calls Tryz.prog 6 #[.agg (clA st x (.slice ao ns.length cap)), .slice ko ks.length kcap, .slice ao2 L.length cap2] w fun e w' => e = .returned (.bool true) ∧ Below w.heap.size w w' := by
  obtain ⟨W0, hW0, hX⟩ := boxed st x cap h hN
  have HX := hide (hX.stand hN)
  have B0 := hide hX.bel
  clear hX h
  have BY := hide fun w n => beyond_any2 w n
  have NU := hide fun w n => num_r w n
  have CK := hide (YtndfhpfhgdamgaaGreatDoor.check_any N W0 st x ao b o cap pv ns HX.out.nd HX.out.le hs)
  have HT := hide hT
  have HLL := hide hL
  have HOO := hide hO
  have HKS := hide hK
  obtain ⟨n, hn⟩ : ∃ n, n = L.length := ⟨_, rfl⟩
  have HN := hide hn
  have hlen := hL.len
  rw [← hn] at hlen ⊢
  clear hL hn hT hO hK
  go_enter Tryz.func6, Tryz.ntmps6
  go_upto_region 1 with fail
  rw [← hW0]
  clear hW0
  go_wp2_with fail
  refine Calls.mono (BY.out _ _) ?_
  rintro e w' ⟨rfl, rfl⟩
  by_cases hbe : (2147483647 : Int) < (n : Int)
  case pos =>
    have q0 : decide ((2147483647 : Int) < (n : Int)) = true := decide_eq_true hbe
    go_wp2_with fail
    go_ret
    exact ⟨rfl, B0.out⟩
  case neg =>
  have q0 : decide ((2147483647 : Int) < (n : Int)) = false := decide_eq_false hbe
  go_wp2_with (refine wpList_loadCl rfl (.tmp 3) rfl w.heap.size st x _ rfl HX.out.cl ?_)
  refine Calls.mono CK.out ?_
  rintro e W1 ⟨rfl, hb⟩
  have X1 := hide (HX.out.below hb)
  have B1 := hide (B0.out.trans (hb.mono B0.out.size))
  clear hb HX CK
  by_cases he : errP st x ns = 0
  case neg =>
    have RF := hide (refused_any N W1 st x ao b o cap pv ns X1.out.nd X1.out.le hs he)
    generalize errP st x ns = er at *
    have q1 : (er != 0) = true := by simp [he]
    go_wp2_with (first | (go_at_call 8; refine Calls.mono (NU.out _ _) ?_; rintro e w' ⟨rfl, rfl⟩) | (refine wpList_loadCl rfl (.tmp 3) rfl w.heap.size st x _ rfl X1.out.cl ?_) | (go_at_call 10; refine Calls.mono RF.out ?_; rintro e W2 ⟨rfl, hb2⟩; have B2 := hide (B1.out.trans (hb2.mono B1.out.size)); clear hb2))
    go_ret
    exact ⟨rfl, B2.out⟩
  case pos =>
  obtain ⟨a1, a2, a3, a4, a5, a6⟩ := errP_all he
  have hss : st.size ≤ 281474976710656 := by have := nm_size2 a1; omega
  obtain ⟨c, hc⟩ : ∃ c : Cl, c = ⟨st, x, ns⟩ := ⟨_, rfl⟩
  have SEAT : Hid (∀ W, Below w.heap.size w W → Stand N w.heap.size W st x ao b o cap pv ns → Calls Tryz.prog 18 #[.agg (clA st x (.slice ao ns.length cap))] W fun e w' => ∃ S T R B P, e = .returned (.tuple #[.pointer (some ⟨B, 0, none⟩), .bool true]) ∧ RtAt w' S R c P (v1 c) ∧ P.map (·.g) = [gtF c] ∧ DkAt w' W.heap.size T B R (kF c) ∧ Below W.heap.size W w' ∧ ∀ j, S j → W.heap.size ≤ j) := fun W bW hW => by
    rw [hc]
    exact seat_any N W st x ao b o cap pv ns hW.nd hW.le hss he (tab_kp HT.out (Kp.of_below bW non) (fun _ f => f.elim)) (Nat.le_trans h3 bW.size)
  have HE : Hid (errP c.st c.x c.ns = 0) := by rw [hc]; exact he
  have HSZ : Hid (c.st.size ≤ 9223372036854775807) := by rw [hc]; exact hs
  have q1 : (errP st x ns != 0) = false := by simp [he]
  rw [he]
  have SE1 := hide (SEAT.out W1 B1.out X1.out)
  clear a1 a2 a3 a4 a5 a6 hss he hc
  go_wp2_with (first | (go_at_call 8; refine Calls.mono (NU.out _ _) ?_; rintro e w' ⟨rfl, rfl⟩) | (refine wpList_loadCl rfl (.tmp 3) rfl w.heap.size st x _ rfl X1.out.cl ?_))
  refine Calls.mono SE1.out ?_
  rintro e W2 ⟨Sa, Ta, Ra, Ba, Pa, rfl, ra, ga, da, ba, sa⟩
  have X2 := hide (X1.out.below ba)
  have B2 := hide (B1.out.trans (ba.mono B1.out.size))
  have SE2 := hide (SEAT.out W2 B2.out X2.out)
  have QA : Hid (RtAt W2 Sa Ra c Pa (v1 c) ∧ Pa.map (·.g) = [gtF c] ∧ DkAt W2 W1.heap.size Ta Ba Ra (kF c) ∧ Below W1.heap.size W1 W2 ∧ ∀ j, Sa j → W1.heap.size ≤ j) := ⟨ra, ga, da, ba, sa⟩
  clear ra ga da ba sa SE1 SEAT
  go_wp2_with (refine wpList_loadCl rfl (.tmp 3) rfl w.heap.size st x _ rfl X2.out.cl ?_)
  refine Calls.mono SE2.out ?_
  rintro e W3 ⟨Sb, Tb, Rb, Bb, Pb, rfl, rb, gb, db, bb3, sb⟩
  have ZZ : Hid (Z0 W1 Ra Rb Ba Bb c W3) := two_start QA.out.1 QA.out.2.1 QA.out.2.2.1 QA.out.2.2.2.1 QA.out.2.2.2.2 rb gb db bb3 sb
  have B3 := hide (B2.out.trans (bb3.mono B2.out.size))
  clear rb gb db bb3 sb SE2 QA X1 X2
  have K3 : Hid (KsAt W3 ko kb kko ks) := HKS.out.kp (Kp.of_below B3.out non) (fun _ f => f)
  have TX := hide (texts_any ko kb kko kcap ks K3.out hkl)
  have T1 : Hid (TabD W1) := tab_kp HT.out (Kp.of_below B1.out non) (fun _ f => f.elim)
  have H31 : Hid (3 ≤ W1.heap.size) := Nat.le_trans h3 B1.out.size
  have BW : Hid (∀ X, Below W1.heap.size W1 X → Below w.heap.size w X) := fun X hX => B1.out.trans (hX.mono B1.out.size)
  go_wp2_with fail
  refine Calls.mono TX.out ?_
  rintro e W4 ⟨vl, rfl, ol, b4⟩
  obtain ⟨la, lcp, hvl⟩ := own_sl ol
  subst hvl
  obtain ⟨lb, lo, KL, KT⟩ := ks_own ol HKS.out.sz (by have := HKS.out.len; omega)
  have Z4 := hide (ZZ.out.kp (Kp.of_below b4 non))
  have K4 : Hid (KsAt W4 ko kb kko ks) := K3.out.kp (Kp.of_below b4 non) (fun _ f => f)
  have KL4 := hide KL
  have KT4 := hide KT
  have T4 : Hid (TabD W4) := tab_kp T1.out (Kp.of_below Z4.out.below non) (fun _ f => f.elim)
  have cA := Z4.out.cells
  clear ol b4 KL KT ZZ TX K3
  have hksl : (ks.length : Int) ≤ 8796093022200 := by omega
  by_cases hmay : mayE 1 ks = 0
  case neg =>
    have GN := hide (Z4.out.no la lb lo lcp KL4.out hmay)
    have ST := hide (texts_same (c1 := lcp) (c2 := kcap) KL4.out K4.out HKS.out.len)
    have hcs : (mayE 1 ks = 32) ∨ (mayE 1 ks = 170 ∧ 64 ≤ ks.length) := by
      unfold mayE at hmay ⊢
      by_cases z1 : ks.any badK = true
      · exact Or.inl (by rw [if_pos z1])
      · rw [if_neg z1] at hmay ⊢
        by_cases z2 : 64 < 1 + ks.length
        · exact Or.inr ⟨by rw [if_pos z2], by omega⟩
        · rw [if_neg z2] at hmay
          exact absurd rfl hmay
    go_wp2_with fail
    refine Calls.mono GN.out ?_
    rintro e w' ⟨rfl, rfl⟩
    go_wp2_with fail
    refine Calls.mono ST.out ?_
    rintro e W5 ⟨rfl, k5⟩
    have Z5 := hide (Z4.out.kp k5)
    have cA5 := Z5.out.cells
    have OP := hide Z5.out.open1
    have B5 := hide (BW.out W5 Z5.out.below)
    clear k5 cA GN ST hmay
    rcases hcs with hcs | ⟨hcs, hge⟩
    · rw [hcs]
      by_cases hge : (64 : Int) ≤ (ks.length : Int)
      · go_wp2_with (first | (go_at_call 8; refine Calls.mono (NU.out _ _) ?_; rintro e w' ⟨rfl, rfl⟩) | (go_at_call 17; refine Calls.mono OP.out ?_; rintro e w' ⟨rfl, rfl⟩))
        go_ret
        exact ⟨rfl, B5.out⟩
      · go_wp2_with (first | (go_at_call 8; refine Calls.mono (NU.out _ _) ?_; rintro e w' ⟨rfl, rfl⟩) | (go_at_call 17; refine Calls.mono OP.out ?_; rintro e w' ⟨rfl, rfl⟩))
        go_ret
        exact ⟨rfl, B5.out⟩
    · rw [hcs]
      have hge2 : (64 : Int) ≤ (ks.length : Int) := by omega
      go_wp2_with (first | (go_at_call 8; refine Calls.mono (NU.out _ _) ?_; rintro e w' ⟨rfl, rfl⟩) | (go_at_call 17; refine Calls.mono OP.out ?_; rintro e w' ⟨rfl, rfl⟩))
      go_ret
      exact ⟨rfl, B5.out⟩
  case pos =>
  have GA := hide (Z4.out.all HE.out HSZ.out T4.out H31.out la lb lo lcp KL4.out (fun hp S R P v hr q => by
    obtain ⟨A, hA⟩ := KT4.out hp
    exact hr.not hA (by decide) q) hmay)
  have KK : Hid (∀ X, Below W1.heap.size W1 X → KsAt X ko kb kko ks) := fun X hX => HKS.out.kp (Kp.of_below (BW.out X hX) non) (fun _ f => f)
  have LKB : Hid (∀ w', Below W4.heap.size W4 w' → True) := fun _ _ => trivial
  have h64 : ks.length ≤ 63 := by
    unfold mayE at hmay
    split at hmay
    · simp at hmay
    · split at hmay
      · simp at hmay
      · omega
  have HMAY := hide hmay
  have LNOT : Hid (∀ S R P v, RtAt W4 S R c P v → 0 < ks.length → ¬ S lb) := fun S R P v hr hp q => by
    obtain ⟨A, hA⟩ := KT4.out hp
    exact hr.not hA (by decide) q
  clear hmay
  go_wp2_with fail
  refine Calls.mono GA.out ?_
  rintro e W5 ⟨t, vo, b1, rfl, ht, ho, hb1, bs0, kl5⟩
  have ST : Hid (Calls Tryz.prog 24 #[.slice la ks.length lcp, .slice ko ks.length kcap] W5 fun e w' => e = .returned (.bool true) ∧ Kp W5 w' non) := texts_same kl5 (KK.out W5 bs0.below) HKS.out.len
  have BS0 := hide bs0
  have HO := hide (And.intro ho hb1)
  have HTT := hide ht
  clear bs0 ho hb1 kl5 ht GA cA
  go_wp2_with fail
  refine Calls.mono ST.out ?_
  rintro e W6 ⟨rfl, k6⟩
  have BS6 := hide (BS0.out.kp k6)
  have HO6 : Hid (W6.ownsRow b1 58 11 vo ((opG c (v1 c) ks (1 + 1)).map getMg).length (mgs ((opG c (v1 c) ks (1 + 1)).map getMg)) ∧ W1.heap.size ≤ b1) := ⟨own_kp HO.out.1 k6 (fun _ _ f => f), HO.out.2⟩
  clear k6 ST BS0 HO
  go_wp2_with (go_at_call 8; refine Calls.mono (NU.out _ _) ?_; rintro e w' ⟨rfl, rfl⟩)
  go_loopw [15, 16] (fun v15 vi wr => ∃ i : Nat, i ≤ ks.length ∧ vi = .int .i64 (i : Int) ∧ ∃ a15 c15, v15 = .slice a15 ((opG c (v1 c) (ks.take i) (1 + 1)).map getMg).length c15 ∧ Hid (∃ b15, wr.ownsRow b15 58 11 v15 ((opG c (v1 c) (ks.take i) (1 + 1)).map getMg).length (mgs ((opG c (v1 c) (ks.take i) (1 + 1)).map getMg))) ∧ Hid (Bs W1 Ra Rb Ba Bb c ks i wr) ∧ Hid (wr.ownsRow b1 58 11 vo ((opG c (v1 c) ks (1 + 1)).map getMg).length (mgs ((opG c (v1 c) ks (1 + 1)).map getMg)))) (fun _ vi _ => ks.length - (intOf vi).toNat)
  case atStart => exact ⟨0, Nat.zero_le _, rfl, none, 0, rfl, ⟨0, World.ownsRow_nil _ _ _ _⟩, BS6.out, HO6.out.1⟩
  case round =>
    obtain ⟨i, hi, rfl, a15, c15, rfl, HON, HBS, HOO2⟩ := hrel
    by_cases hin : i < ks.length
    case pos =>
      have hii : (i : Int) < (ks.length : Int) := by omega
      have kx := KK.out wr HBS.out.below
      have ck := kx.cell i hin
      have hks := kx.sz ks[i] (List.getElem_mem hin)
      obtain rfl := kx.at0 (by omega)
      obtain rfl := HTT.out (by omega)
      have GT := hide (HBS.out.get HE.out HSZ.out T1.out H31.out hin HMAY.out hks)
      have C0 : Hid (wr.cell? ⟨Bb, 0, none⟩ = some (.pointer (some ⟨Rb, 0, none⟩)) ∧ wr.cell? ⟨kb, kko + i, none⟩ = some (.string ks[i])) := ⟨HBS.out.cells.1, ck⟩
      have KBL : Hid (kb < w.heap.size) := hkb
      have LEN : Hid (((opG c (v1 c) (ks.take i) (1 + 1)).map getMg).length = i) := by
        show _ = _
        rw [List.length_map, opG_len, List.length_take]
        omega
      have HB1 := hide (B1.out.size)
      have BLW : Hid (Below W1.heap.size W1 wr) := HBS.out.below
      clear kx ck hks
      obtain ⟨ln, hln⟩ : ∃ ln, ln = ((opG c (v1 c) (ks.take i) (1 + 1)).map getMg).length := ⟨_, rfl⟩
      rw [← hln] at HON LEN ⊢
      have HLN := hide hln
      clear hln
      generalize ks[i] = key at *
      go_upto_region 19 with fail
      refine wp_region_held_drew (S := fun X => X.cell? ⟨Bb, 0, none⟩ = some (.pointer (some ⟨Rb, 0, none⟩)) ∧ X.cell? ⟨kb, kko + i, none⟩ = some (.string key)) (by kernel_rfl) C0.out (fun hHeld => ?_)
      refine wpAnyH_take (i := 0) (v := (.pointer (some ⟨Bb, 0, none⟩))) rfl (by kernel_rfl) (by kernel_rfl) (by kernel_rfl) (fun _ _ _ h => h) (Or.inl ⟨by rfl, ?_⟩) (by assumption) ?_
      · intro w' hSw
        (try dsimp only at hSw)
        go_simp
      (try simp only [Act.put, List.getElem_toArray, List.getElem_cons_zero, List.getElem_cons_succ, List.setIfInBounds_toArray, List.set_cons_zero, List.set_cons_succ])
      refine wpAnyH_take (i := 1) (v := (.pointer (some ⟨Bb, 0, none⟩))) rfl (by kernel_rfl) (by kernel_rfl) (by kernel_rfl) (fun _ _ _ h => h) (Or.inl ⟨by rfl, ?_⟩) (by assumption) ?_
      · intro w' hSw
        (try dsimp only at hSw)
        go_simp
      (try simp only [Act.put, List.getElem_toArray, List.getElem_cons_zero, List.getElem_cons_succ, List.setIfInBounds_toArray, List.set_cons_zero, List.set_cons_succ])
      refine wpAnyH_take (i := 2) (v := (.pointer (some ⟨Bb, 0, none⟩))) rfl (by kernel_rfl) (by kernel_rfl) (by kernel_rfl) (fun _ _ _ h => h) (Or.inl ⟨by rfl, ?_⟩) (by assumption) ?_
      · intro w' hSw
        (try dsimp only at hSw)
        go_simp
      (try simp only [Act.put, List.getElem_toArray, List.getElem_cons_zero, List.getElem_cons_succ, List.setIfInBounds_toArray, List.set_cons_zero, List.set_cons_succ])
      refine wpAnyH_take (i := 3) (v := (.pointer (some ⟨Rb, 0, none⟩))) rfl (by kernel_rfl) (by kernel_rfl) (by kernel_rfl) (fun _ _ _ h => h) (Or.inl ⟨by rfl, ?_⟩) (by assumption) ?_
      · intro w' hSw
        (try dsimp only at hSw)
        (have hs1 := hSw.1; go_simp)
      (try simp only [Act.put, List.getElem_toArray, List.getElem_cons_zero, List.getElem_cons_succ, List.setIfInBounds_toArray, List.set_cons_zero, List.set_cons_succ])
      refine wpAnyH_take (i := 4) (v := (.slice (some ⟨kb, kko, none⟩) ks.length kcap)) rfl (by kernel_rfl) (by kernel_rfl) (by kernel_rfl) (fun _ _ _ h => h) (Or.inl ⟨by rfl, ?_⟩) (by assumption) ?_
      · intro w' hSw
        (try dsimp only at hSw)
        go_simp
      (try simp only [Act.put, List.getElem_toArray, List.getElem_cons_zero, List.getElem_cons_succ, List.setIfInBounds_toArray, List.set_cons_zero, List.set_cons_succ])
      refine wpAnyH_take (i := 5) (v := (.int .i64 (i : Int))) rfl (by kernel_rfl) (by kernel_rfl) (by kernel_rfl) (fun _ _ _ h => h) (Or.inl ⟨by rfl, ?_⟩) (by assumption) ?_
      · intro w' hSw
        (try dsimp only at hSw)
        go_simp
      (try simp only [Act.put, List.getElem_toArray, List.getElem_cons_zero, List.getElem_cons_succ, List.setIfInBounds_toArray, List.set_cons_zero, List.set_cons_succ])
      refine wpAnyH_take (i := 6) (v := (.pointer (some ⟨kb, kko + i, none⟩))) rfl (by kernel_rfl) (by kernel_rfl) (by kernel_rfl) (fun _ _ _ h => h) (Or.inl ⟨by rfl, ?_⟩) (by assumption) ?_
      · intro w' hSw
        (try dsimp only at hSw)
        go_simp
      (try simp only [Act.put, List.getElem_toArray, List.getElem_cons_zero, List.getElem_cons_succ, List.setIfInBounds_toArray, List.set_cons_zero, List.set_cons_succ])
      refine wpAnyH_take (i := 7) (v := (.string key)) rfl (by kernel_rfl) (by kernel_rfl) (by kernel_rfl) (fun _ _ _ h => h) (Or.inl ⟨by rfl, ?_⟩) (by assumption) ?_
      · intro w' hSw
        (try dsimp only at hSw)
        (have hs1 := hSw.2; go_simp)
      (try simp only [Act.put, List.getElem_toArray, List.getElem_cons_zero, List.getElem_cons_succ, List.setIfInBounds_toArray, List.set_cons_zero, List.set_cons_succ])
      refine wpAnyH_ready (rs := [8]) (by kernel_rfl) (by simp) ?_
      refine AllReadyH.cons rfl (fun K hK => ?_) AllReadyH.nil
      go_simp
      refine Calls.mono (GT.out wr.drew ((Kp.refl wr non).drew)) ?_
      rintro e W7 ⟨vo7, mm7, b7, rfl, o7, op7, bs7, k7⟩
      have ON7 : Hid (∃ b15, W7.ownsRow b15 58 11 (.slice a15 ln c15) ln (mgs ((opG c (v1 c) (ks.take i) (1 + 1)).map getMg))) := by
        obtain ⟨b15, h15⟩ := HON.out
        exact ⟨b15, own_kp (own_kp h15 ((Kp.refl wr non).drew) (fun _ _ f => f)) k7 (fun j ej q => by
          obtain ⟨cur, hcu⟩ := own_typ h15 ej
          obtain ⟨ob, e1, e2⟩ := q
          exact kind_no (t := 58) (by decide) (hcu.symm.trans e1) e2)⟩
      have OO7 : Hid (W7.ownsRow b1 58 11 vo ((opG c (v1 c) ks (1 + 1)).map getMg).length (mgs ((opG c (v1 c) ks (1 + 1)).map getMg))) := own_kp (own_kp HOO2.out ((Kp.refl wr non).drew) (fun _ _ f => f)) k7 (fun j ej q => by
          obtain ⟨cur, hcu⟩ := own_typ HOO2.out ej
          obtain ⟨ob, e1, e2⟩ := q
          exact kind_no (t := 58) (by decide) (hcu.symm.trans e1) e2)
      have C7 : Hid (W7.cell? ⟨Bb, 0, none⟩ = some (.pointer (some ⟨Rb, 0, none⟩)) ∧ W7.cell? ⟨kb, kko + i, none⟩ = some (.string key)) := ⟨bs7.cells.1, by
        rw [← C0.out.2]
        have z1 := bs7.below.block kb (Nat.lt_of_lt_of_le KBL.out HB1.out)
        have z2 := BLW.out.block kb (Nat.lt_of_lt_of_le KBL.out HB1.out)
        unfold World.cell?
        dsimp only
        rw [z1, z2]⟩
      have BS7 := hide bs7
      have O7 := hide o7
      have OP7 := hide op7
      clear o7 op7 bs7 k7 HON HBS HOO2
      refine hK.out _ _ (C7.out) (fun hHeld => ?_)
      clear hK
      (try simp only [Act.put, List.setIfInBounds_toArray, List.set_cons_zero, List.set_cons_succ])
      refine wpAnyH_take (i := 9) (v := (.tuple #[.int .i64 (2 + (i : Int)), vo7, .int .i64 0])) rfl (by kernel_rfl) (by kernel_rfl) (by kernel_rfl) (fun _ _ _ h => h) (Or.inl ⟨by rfl, ?_⟩) (by assumption) ?_
      · intro w' hSw
        (try dsimp only at hSw)
        go_simp
      (try simp only [Act.put, List.getElem_toArray, List.getElem_cons_zero, List.getElem_cons_succ, List.setIfInBounds_toArray, List.set_cons_zero, List.set_cons_succ])
      refine wpAnyH_take (i := 10) (v := (.int .i64 (2 + (i : Int)))) rfl (by kernel_rfl) (by kernel_rfl) (by kernel_rfl) (fun _ _ _ h => h) (Or.inl ⟨by rfl, ?_⟩) (by assumption) ?_
      · intro w' hSw
        (try dsimp only at hSw)
        go_simp
      (try simp only [Act.put, List.getElem_toArray, List.getElem_cons_zero, List.getElem_cons_succ, List.setIfInBounds_toArray, List.set_cons_zero, List.set_cons_succ])
      refine wpAnyH_take (i := 11) (v := vo7) rfl (by kernel_rfl) (by kernel_rfl) (by kernel_rfl) (fun _ _ _ h => h) (Or.inl ⟨by rfl, ?_⟩) (by assumption) ?_
      · intro w' hSw
        (try dsimp only at hSw)
        go_simp
      (try simp only [Act.put, List.getElem_toArray, List.getElem_cons_zero, List.getElem_cons_succ, List.setIfInBounds_toArray, List.set_cons_zero, List.set_cons_succ])
      refine wpAnyH_take (i := 12) (v := (.int .i64 0)) rfl (by kernel_rfl) (by kernel_rfl) (by kernel_rfl) (fun _ _ _ h => h) (Or.inl ⟨by rfl, ?_⟩) (by assumption) ?_
      · intro w' hSw
        (try dsimp only at hSw)
        go_simp
      (try simp only [Act.put, List.getElem_toArray, List.getElem_cons_zero, List.getElem_cons_succ, List.setIfInBounds_toArray, List.set_cons_zero, List.set_cons_succ])
      refine wpAnyH_ready (rs := [13]) (by kernel_rfl) (by simp) ?_
      refine AllReadyH.cons rfl (fun K hK => ?_) AllReadyH.nil
      go_simp
      refine hK.out _ _ (C7.out) (fun hHeld => ?_)
      clear hK
      (try simp only [Act.put, List.setIfInBounds_toArray, List.set_cons_zero, List.set_cons_succ])
      refine wpAnyH_ready (rs := [14]) (by kernel_rfl) (by simp) ?_
      refine AllReadyH.cons rfl (fun K hK => ?_) AllReadyH.nil
      go_simp
      refine hK.out _ _ (C7.out) (fun hHeld => ?_)
      clear hK
      (try simp only [Act.put, List.setIfInBounds_toArray, List.set_cons_zero, List.set_cons_succ])
      refine wpAnyH_ready (rs := [15]) (by kernel_rfl) (by simp) ?_
      refine AllReadyH.cons rfl (fun K hK => ?_) AllReadyH.nil
      go_simp
      refine hK.out _ _ (C7.out) (fun hHeld => ?_)
      clear hK
      (try simp only [Act.put, List.setIfInBounds_toArray, List.set_cons_zero, List.set_cons_succ])
      refine wpAnyH_done (by kernel_rfl) ?_ _
      clear C7 C0 hHeld GT
      have JO : Hid (∀ b15, W7.ownsRow b15 58 11 (.slice a15 ln c15) ln (mgs ((opG c (v1 c) (ks.take i) (1 + 1)).map getMg)) → Calls Tryz.prog 25 #[.slice a15 ln c15, vo7] W7 fun e w' => ∃ v', e = .returned v' ∧ w'.ownsRow W7.heap.size 58 11 v' ((opG c (v1 c) (ks.take (i + 1)) (1 + 1)).map getMg).length (mgs ((opG c (v1 c) (ks.take (i + 1)) (1 + 1)).map getMg)) ∧ Below W7.heap.size W7 w') := fun b15 h15 => by
        rw [OP7.out]
        rw [HLN.out] at h15 ⊢
        exact joined_any h15 O7.out (by rw [← HLN.out, LEN.out]; simp; omega)
      have qq : ((2 : Int) + (i : Int) != 2 + (i : Int)) = false := by simp
      go_upto_region 22 with (go_at_call 8; refine Calls.mono (NU.out _ _) ?_; rintro e w' ⟨rfl, rfl⟩)
      obtain ⟨b15, h15⟩ := ON7.out
      have J15 := hide (JO.out b15 h15)
      clear h15 JO ON7
      go_wp2_with fail
      refine Calls.mono J15.out ?_
      rintro e W8 ⟨v8, rfl, o8, b8⟩
      obtain ⟨a8, c8, hv8⟩ := own_sl o8
      obtain ⟨l8, hl8⟩ : ∃ l8, l8 = ((opG c (v1 c) (ks.take (i + 1)) (1 + 1)).map getMg).length := ⟨_, rfl⟩
      rw [← hl8] at hv8
      subst hv8
      have HL8 := hide hl8
      clear hl8
      have O8 := hide o8
      have BS8 := hide (BS7.out.kp (Kp.of_below b8 non))
      have OO8 : Hid (W8.ownsRow b1 58 11 vo ((opG c (v1 c) ks (1 + 1)).map getMg).length (mgs ((opG c (v1 c) ks (1 + 1)).map getMg))) := own_kp OO7.out (Kp.of_below b8 non) (fun _ _ f => f)
      clear o8 b8 J15
      go_wp2_with fail
      go_roundw
      case rel => exact ⟨i + 1, by omega, by go_num, a8, c8, by rw [HL8.out], ⟨_, O8.out⟩, BS8.out, OO8.out⟩
      case measure => simp [intOf]; omega
    case neg =>
      obtain rfl : i = ks.length := by omega
      rw [List.take_length] at *
      obtain ⟨b15, h15⟩ := HON.out
      have SM := hide (Mg_same HOO2.out h15 (by rw [List.length_map, opG_len]; omega))
      obtain ⟨oa, ocp, hvo⟩ := own_sl HOO2.out
      subst hvo
      have MID : Hid (∀ X, Kp wr X non → Bs W1 Ra Rb Ba Bb c ks ks.length X ∧ Al W1 Ra Rb Ba Bb c 0 [] (X.setCell ⟨Ba, 1, none⟩ (.slice oa ((opG c (v1 c) ks (1 + 1)).map getMg).length ocp))) := fun X k => ⟨HBS.out.kp k, (HBS.out.kp k).al HE.out HSZ.out HMAY.out (own_kp HOO2.out k (fun _ _ f => f)) HO6.out.2⟩
      clear h15 HON HBS HOO2 HO6
      generalize ((opG c (v1 c) ks (1 + 1)).map getMg).length = ln at *
      go_wp2_with fail
      refine Calls.mono SM.out ?_
      rintro e W7 ⟨rfl, k7⟩
      obtain ⟨bs7, al7⟩ := MID.out W7 k7
      obtain ⟨_, f7, vw7, c7⟩ := bs7.cells
      have AL7 := hide al7
      clear bs7 al7 k7 MID SM
      obtain ⟨W8, hW8⟩ : ∃ W8, W8 = W7.setCell ⟨Ba, 1, none⟩ (.slice oa ln ocp) := ⟨_, rfl⟩
      rw [← hW8] at AL7
      go_upto_region 26 with fail
      rw [← hW8]
      clear hW8 f7 c7
      go_wp2_with fail
      go_loopw [20] (fun vi wr => ∃ i : Nat, i ≤ n ∧ vi = .int .i64 (i : Int) ∧ Hid (Al W1 Ra Rb Ba Bb c i [] wr)) (fun vi _ => n - (intOf vi).toNat)
      case atStart => exact ⟨0, Nat.zero_le _, rfl, AL7.out⟩
      case round =>
        obtain ⟨i, hi, rfl, HA⟩ := hrel
        by_cases hin : i < n
        case neg =>
          have hii : ¬ (i : Int) < (n : Int) := by omega
          obtain ⟨m, op1, op2⟩ := HA.out.opens
          have OP1 := hide op1
          have OP2 := hide op2
          have C0 : Hid (wr.cell? ⟨Ba, 0, none⟩ = some (.pointer (some ⟨Ra, 0, none⟩)) ∧ wr.cell? ⟨Bb, 0, none⟩ = some (.pointer (some ⟨Rb, 0, none⟩))) := ⟨HA.out.cells.1, HA.out.cells.2.1⟩
          have BE : Hid (Below w.heap.size w wr.drew) := (BW.out wr HA.out.below).drew
          clear op1 op2
          go_upto_region 44 with fail
          refine wp_region_held_drew (S := fun X => X.cell? ⟨Ba, 0, none⟩ = some (.pointer (some ⟨Ra, 0, none⟩)) ∧ X.cell? ⟨Bb, 0, none⟩ = some (.pointer (some ⟨Rb, 0, none⟩))) (by kernel_rfl) C0.out (fun hHeld => ?_)
          refine wpAnyH_take (i := 0) (v := (.pointer (some ⟨Ba, 0, none⟩))) rfl (by kernel_rfl) (by kernel_rfl) (by kernel_rfl) (fun _ _ _ h => h) (Or.inl ⟨by rfl, ?_⟩) (by assumption) ?_
          · intro w' hSw
            (try dsimp only at hSw)
            go_simp
          (try simp only [Act.put, List.getElem_toArray, List.getElem_cons_zero, List.getElem_cons_succ, List.setIfInBounds_toArray, List.set_cons_zero, List.set_cons_succ])
          refine wpAnyH_take (i := 1) (v := (.pointer (some ⟨Ba, 0, none⟩))) rfl (by kernel_rfl) (by kernel_rfl) (by kernel_rfl) (fun _ _ _ h => h) (Or.inl ⟨by rfl, ?_⟩) (by assumption) ?_
          · intro w' hSw
            (try dsimp only at hSw)
            go_simp
          (try simp only [Act.put, List.getElem_toArray, List.getElem_cons_zero, List.getElem_cons_succ, List.setIfInBounds_toArray, List.set_cons_zero, List.set_cons_succ])
          refine wpAnyH_take (i := 2) (v := (.pointer (some ⟨Ba, 0, none⟩))) rfl (by kernel_rfl) (by kernel_rfl) (by kernel_rfl) (fun _ _ _ h => h) (Or.inl ⟨by rfl, ?_⟩) (by assumption) ?_
          · intro w' hSw
            (try dsimp only at hSw)
            go_simp
          (try simp only [Act.put, List.getElem_toArray, List.getElem_cons_zero, List.getElem_cons_succ, List.setIfInBounds_toArray, List.set_cons_zero, List.set_cons_succ])
          refine wpAnyH_take (i := 3) (v := (.pointer (some ⟨Ra, 0, none⟩))) rfl (by kernel_rfl) (by kernel_rfl) (by kernel_rfl) (fun _ _ _ h => h) (Or.inl ⟨by rfl, ?_⟩) (by assumption) ?_
          · intro w' hSw
            (try dsimp only at hSw)
            (have hs1 := hSw.1; go_simp)
          (try simp only [Act.put, List.getElem_toArray, List.getElem_cons_zero, List.getElem_cons_succ, List.setIfInBounds_toArray, List.set_cons_zero, List.set_cons_succ])
          refine wpAnyH_take (i := 5) (v := (.pointer (some ⟨Bb, 0, none⟩))) rfl (by kernel_rfl) (by kernel_rfl) (by kernel_rfl) (fun _ _ _ h => h) (Or.inl ⟨by rfl, ?_⟩) (by assumption) ?_
          · intro w' hSw
            (try dsimp only at hSw)
            go_simp
          (try simp only [Act.put, List.getElem_toArray, List.getElem_cons_zero, List.getElem_cons_succ, List.setIfInBounds_toArray, List.set_cons_zero, List.set_cons_succ])
          refine wpAnyH_take (i := 6) (v := (.pointer (some ⟨Bb, 0, none⟩))) rfl (by kernel_rfl) (by kernel_rfl) (by kernel_rfl) (fun _ _ _ h => h) (Or.inl ⟨by rfl, ?_⟩) (by assumption) ?_
          · intro w' hSw
            (try dsimp only at hSw)
            go_simp
          (try simp only [Act.put, List.getElem_toArray, List.getElem_cons_zero, List.getElem_cons_succ, List.setIfInBounds_toArray, List.set_cons_zero, List.set_cons_succ])
          refine wpAnyH_take (i := 7) (v := (.pointer (some ⟨Bb, 0, none⟩))) rfl (by kernel_rfl) (by kernel_rfl) (by kernel_rfl) (fun _ _ _ h => h) (Or.inl ⟨by rfl, ?_⟩) (by assumption) ?_
          · intro w' hSw
            (try dsimp only at hSw)
            go_simp
          (try simp only [Act.put, List.getElem_toArray, List.getElem_cons_zero, List.getElem_cons_succ, List.setIfInBounds_toArray, List.set_cons_zero, List.set_cons_succ])
          refine wpAnyH_take (i := 8) (v := (.pointer (some ⟨Rb, 0, none⟩))) rfl (by kernel_rfl) (by kernel_rfl) (by kernel_rfl) (fun _ _ _ h => h) (Or.inl ⟨by rfl, ?_⟩) (by assumption) ?_
          · intro w' hSw
            (try dsimp only at hSw)
            (have hs1 := hSw.2; go_simp)
          (try simp only [Act.put, List.getElem_toArray, List.getElem_cons_zero, List.getElem_cons_succ, List.setIfInBounds_toArray, List.set_cons_zero, List.set_cons_succ])
          refine wpAnyH_ready (rs := [4]) (by kernel_rfl) (by simp) ?_
          refine AllReadyH.cons rfl (fun K hK => ?_) AllReadyH.nil
          go_simp
          refine Calls.mono (OP1.out wr.drew ((Kp.refl wr non).drew)) ?_
          rintro e w' ⟨rfl, rfl⟩
          refine hK.out _ _ (C0.out) (fun hHeld => ?_)
          clear hK
          (try simp only [Act.put, List.setIfInBounds_toArray, List.set_cons_zero, List.set_cons_succ])
          refine wpAnyH_ready (rs := [9]) (by kernel_rfl) (by simp) ?_
          refine AllReadyH.cons rfl (fun K hK => ?_) AllReadyH.nil
          go_simp
          refine Calls.mono (OP2.out wr.drew ((Kp.refl wr non).drew)) ?_
          rintro e w' ⟨rfl, rfl⟩
          refine hK.out _ _ (C0.out) (fun hHeld => ?_)
          clear hK
          (try simp only [Act.put, List.setIfInBounds_toArray, List.set_cons_zero, List.set_cons_succ])
          refine wpAnyH_take (i := 10) (v := (.bool true)) rfl (by kernel_rfl) (by kernel_rfl) (by kernel_rfl) (fun _ _ _ h => h) (Or.inl ⟨by rfl, ?_⟩) (by assumption) ?_
          · intro w' hSw
            (try dsimp only at hSw)
            go_simp
          (try simp only [Act.put, List.getElem_toArray, List.getElem_cons_zero, List.getElem_cons_succ, List.setIfInBounds_toArray, List.set_cons_zero, List.set_cons_succ])
          refine wpAnyH_ready (rs := [11]) (by kernel_rfl) (by simp) ?_
          refine AllReadyH.cons rfl (fun K hK => ?_) AllReadyH.nil
          go_simp
          refine hK.out _ _ (C0.out) (fun hHeld => ?_)
          clear hK
          (try simp only [Act.put, List.setIfInBounds_toArray, List.set_cons_zero, List.set_cons_succ])
          refine wpAnyH_done (by kernel_rfl) ?_ _
          go_wp2_with fail
          go_ret
          exact ⟨rfl, BE.out⟩
        case pos =>
          have hii : (i : Int) < (n : Int) := by omega
          have hiL : i < L.length := by rw [← HN.out]; exact hin
          have BR : Hid (Below w.heap.size w wr) := BW.out wr HA.out.below
          have e8 := HLL.out.at0 (by omega)
          have LB := HLL.out.below BR.out
          have RG : Hid (wr.rangeAt bb (oo + i * 15) (opV L[i]).toList) := fun j u' hj => LB.c i hiL j u' (by simpa using hj)
          have OK := hide (HOO.out i hiL)
          obtain ⟨ev, hev⟩ : ∃ ev, ev = L[i] := ⟨_, rfl⟩
          rw [← hev] at RG OK
          clear hev LB hiL
          subst e8
          have one : Hid ((opV ev).all (·.oneCell') = true) := by
            obtain ⟨⟨ia, lb', lo', lcap', ks', e1, _⟩, _⟩ := OK.out
            exact op_one2 ev e1
          obtain ⟨OB, hOB⟩ : ∃ OB, OB = wr.heap.size := ⟨_, rfl⟩
          obtain ⟨WO, hWO⟩ : ∃ WO, WO = wr.alloc (.cells (opV ev) 60) := ⟨_, rfl⟩
          have kO : Kp wr WO non := by rw [hWO]; exact (Kp.refl wr non).alloc _
          have O1 : WO.heap[OB]? = some (.cells (opV ev) 60) := by rw [hWO, hOB]; exact heap_last _ _
          obtain ⟨MB, hMB⟩ : ∃ MB, MB = WO.heap.size := ⟨_, rfl⟩
          obtain ⟨WM, hWM⟩ : ∃ WM, WM = WO.alloc (.cells (mgV mg0) 58) := ⟨_, rfl⟩
          have kM : Kp WO WM non := by rw [hWM]; exact (Kp.refl WO non).alloc _
          have M1 : Hid (WM.heap[MB]? = some (.cells (mgV mg0) 58)) := by rw [hWM, hMB]; exact heap_last _ _
          have O2 : Hid (WM.heap[OB]? = some (.cells (opV ev) 60)) := (kM.block _ (blk_lt O1) (fun f => f)).trans O1
          have AM := hide ((HA.out.kp kO).kp kM)
          have ek : WM.cell? ⟨OB, 0, none⟩ = some (.int .i64 ev.kd) := by rw [cell_row O2.out]; rfl
          have MNO : Hid (∀ vw', WM.cell? ⟨Ba, 1, none⟩ = some vw' → vw'.ownBlock ≠ some MB) := fun vw' hv' => by
            obtain ⟨vw0, hc0, _⟩ := (HA.out.kp kO).joined (L := []) (x := .slice none 0 0) (b0 := 0) (World.ownsRow_nil _ _ _ _) (by omega)
            have hlt := (HA.out.kp kO).wentlt hc0
            have e0 : WM.cell? ⟨Ba, 1, none⟩ = some vw0 := (kM.cell (b := Ba) (World.block_lt_of_cell? WO _ hc0) (fun f => f)).trans hc0
            rw [e0] at hv'
            obtain rfl := Option.some.inj hv'
            intro e
            have := hlt _ e
            omega
          have MGE : Hid (W1.heap.size ≤ MB) := by rw [hMB]; exact (HA.out.kp kO).below.size
          have HOB := hide hOB
          have HMB := hide hMB
          clear kO kM O1 hOB hMB HA
          go_upto_region 30 with (first
            | refine wpList_load_mid rfl 60 (.tmp 152) rfl bb (oo + i * 15) rfl (opV ev).toList _ RG.out Tryz.underlying60 rfl op_info2 ?_
            | refine wpList_stR rfl 60 (.tmp 21) (.tmp 153) rfl wr.heap.size rfl (opV ev) _ rfl _ (heap_last wr _) op_info2 rfl one.out ?_)
          rw [World.setRow_alloc_new, ← hWO, ← HOB.out]
          clear hWO RG
          go_upto_region 31 with fail
          change Code.wp _ _ _ _ (WO.alloc (.cells (mgV mg0) 58))
          rw [← hWM, ← HMB.out]
          clear hWM
          by_cases hk4 : ev.kd = 4
          case pos =>
            rw [hk4] at ek
            obtain ⟨cA, cB, _⟩ := AM.out.cells
            have TK := hide (AM.out.ticks (by omega))
            go_upto_region 32 with fail
            clear ek
            go_wp2_with fail
            refine Calls.mono TK.out ?_
            rintro e W8a ⟨xv, yv, rfl, cB8, tk2⟩
            have TK2 := hide tk2
            clear tk2 TK cA cB
            go_wp2_with fail
            refine Calls.mono TK2.out ?_
            rintro e W9 ⟨uv, zv, LL, EE, b1', b2', b3', b4', rfl, ox, ou, oy, oz, hL1, hE1, al9⟩
            have AL9 := hide al9
            have OX9 := hide ox
            have SM := hide (Mg_same ox ou (by omega))
            have SEE : Hid (∀ X, Kp W9 X non → Calls Tryz.prog 28 #[yv, zv] X fun e w' => e = .returned (.bool true) ∧ Kp X w' non) := fun X k => Oc_same (own_kp oy k (fun _ _ f => f)) (own_kp oz k (fun _ _ f => f)) (by omega)
            clear ox ou oy oz al9 TK2 cB8
            go_upto_region 36 with (first | (go_at_call 26; refine Calls.mono SM.out ?_; rintro e XA ⟨rfl, kA⟩; have SE1 := hide (SEE.out XA kA); have KA := hide kA; clear kA) | (go_at_call 28; refine Calls.mono SE1.out ?_; rintro e XB ⟨rfl, kB⟩; have KB : Hid (Kp W9 XB non) := KA.out.trans kB (fun _ f => f.elim); clear kB))
            clear SM SEE SE1 KA
            obtain ⟨vwJ, cvJ, jn⟩ := (AL9.out.kp KB.out).joined (own_kp OX9.out KB.out (fun _ _ f => f)) (by omega)
            have JN := hide jn
            clear jn OX9 KB AL9
            go_wp2_with fail
            refine Calls.mono JN.out ?_
            rintro e WJ ⟨aJ, lJ, cpJ, rfl, cJ, fJ, pJ, alJ⟩
            have ALJ := hide alJ
            clear alJ JN cvJ
            go_wp2_with fail
            go_roundw
            case rel => exact ⟨i + 1, by omega, by go_num, ALJ.out⟩
            case measure => simp [intOf]; omega
          case neg =>
            have q4 : (ev.kd == 4) = false := by simp [hk4]
            obtain ⟨vw, cvw, mm, okb, han, htk⟩ := ans_two AM.out ev OK.out.2.2.1 (by omega)
            have C0 : Hid (WM.cell? ⟨Ba, 1, none⟩ = some vw ∧ WM.heap[OB]? = some (.cells (opV ev) 60)) := ⟨cvw, O2.out⟩
            have AN := hide han
            have HTK := hide htk
            have BAL : Hid (Ba < WM.heap.size) := World.block_lt_of_cell? WM _ cvw
            have BM : Hid (Ba ≠ MB) := fun e => by
              obtain ⟨A, h1⟩ := AM.out.desk
              rw [e, M1.out] at h1
              simp at h1
            have OM : Hid (OB ≠ MB) := fun e => by
              have h1 := O2.out
              rw [e, M1.out] at h1
              simp at h1
            have OBL : Hid (OB < WM.heap.size) := blk_lt O2.out
            have MBL : Hid (MB < WM.heap.size) := blk_lt M1.out
            clear cvw han htk
            go_upto_region 37 with fail
            clear ek
            refine wp_region_held_drew (S := fun X => X.cell? ⟨Ba, 1, none⟩ = some vw ∧ X.heap[OB]? = some (.cells (opV ev) 60)) (by kernel_rfl) C0.out (fun hHeld => ?_)
            refine wpAnyH_take (i := 0) (v := (.pointer (some ⟨Ba, 0, none⟩))) rfl (by kernel_rfl) (by kernel_rfl) (by kernel_rfl) (fun _ _ _ h => h) (Or.inl ⟨by rfl, ?_⟩) (by assumption) ?_
            · intro w' hSw
              (try dsimp only at hSw)
              go_simp
            (try simp only [Act.put, List.getElem_toArray, List.getElem_cons_zero, List.getElem_cons_succ, List.setIfInBounds_toArray, List.set_cons_zero, List.set_cons_succ])
            refine wpAnyH_take (i := 1) (v := (.pointer (some ⟨Ba, 0, none⟩))) rfl (by kernel_rfl) (by kernel_rfl) (by kernel_rfl) (fun _ _ _ h => h) (Or.inl ⟨by rfl, ?_⟩) (by assumption) ?_
            · intro w' hSw
              (try dsimp only at hSw)
              go_simp
            (try simp only [Act.put, List.getElem_toArray, List.getElem_cons_zero, List.getElem_cons_succ, List.setIfInBounds_toArray, List.set_cons_zero, List.set_cons_succ])
            refine wpAnyH_take (i := 2) (v := (.pointer (some ⟨Ba, 1, none⟩))) rfl (by kernel_rfl) (by kernel_rfl) (by kernel_rfl) (fun _ _ _ h => h) (Or.inl ⟨by rfl, ?_⟩) (by assumption) ?_
            · intro w' hSw
              (try dsimp only at hSw)
              go_simp
            (try simp only [Act.put, List.getElem_toArray, List.getElem_cons_zero, List.getElem_cons_succ, List.setIfInBounds_toArray, List.set_cons_zero, List.set_cons_succ])
            refine wpAnyH_take (i := 3) (v := (vw)) rfl (by kernel_rfl) (by kernel_rfl) (by kernel_rfl) (fun _ _ _ h => h) (Or.inl ⟨by rfl, ?_⟩) (by assumption) ?_
            · intro w' hSw
              (try dsimp only at hSw)
              (have hs1 := hSw.1; go_simp)
            (try simp only [Act.put, List.getElem_toArray, List.getElem_cons_zero, List.getElem_cons_succ, List.setIfInBounds_toArray, List.set_cons_zero, List.set_cons_succ])
            refine wpAnyH_take (i := 4) (v := (.agg (opV ev))) rfl (by kernel_rfl) (by kernel_rfl) (by kernel_rfl) (fun _ _ _ h => h) (Or.inl ⟨by rfl, ?_⟩) (by assumption) ?_
            · intro w' hSw
              (try dsimp only at hSw)
              (exact exec_ldR 60 (.tmp 21) rfl rfl _ hSw.2 Tryz.underlying60 op_info2)
            (try simp only [Act.put, List.getElem_toArray, List.getElem_cons_zero, List.getElem_cons_succ, List.setIfInBounds_toArray, List.set_cons_zero, List.set_cons_succ])
            refine wpAnyH_ready (rs := [5]) (by kernel_rfl) (by simp) ?_
            refine AllReadyH.cons rfl (fun K hK => ?_) AllReadyH.nil
            go_simp
            refine Calls.mono AN.out ?_
            rintro e W5a ⟨rfl, k5⟩
            have KW5 : Hid (Kp WM W5a non) := ((Kp.refl WM non).drew).trans k5 (fun _ f => f.elim)
            have C5 : Hid (W5a.cell? ⟨Ba, 1, none⟩ = some vw ∧ W5a.heap[OB]? = some (.cells (opV ev) 60)) := ⟨(KW5.out.cell (b := Ba) BAL.out (fun f => f)).trans C0.out.1, (KW5.out.block _ OBL.out (fun f => f)).trans C0.out.2⟩
            have M5 : Hid (W5a.heap[MB]? = some (.cells (mgV mg0) 58)) := (KW5.out.block _ MBL.out (fun f => f)).trans M1.out
            clear k5 AN
            refine hK.out _ _ (C5.out) (fun hHeld => ?_)
            clear hK
            (try simp only [Act.put, List.setIfInBounds_toArray, List.set_cons_zero, List.set_cons_succ])
            refine wpAnyH_take (i := 6) (v := (.tuple #[.agg (mgV mm), .bool okb])) rfl (by kernel_rfl) (by kernel_rfl) (by kernel_rfl) (fun _ _ _ h => h) (Or.inl ⟨by rfl, ?_⟩) (by assumption) ?_
            · intro w' hSw
              (try dsimp only at hSw)
              go_simp
            (try simp only [Act.put, List.getElem_toArray, List.getElem_cons_zero, List.getElem_cons_succ, List.setIfInBounds_toArray, List.set_cons_zero, List.set_cons_succ])
            refine wpAnyH_take (i := 7) (v := (.agg (mgV mm))) rfl (by kernel_rfl) (by kernel_rfl) (by kernel_rfl) (fun _ _ _ h => h) (Or.inl ⟨by rfl, ?_⟩) (by assumption) ?_
            · intro w' hSw
              (try dsimp only at hSw)
              go_simp
            (try simp only [Act.put, List.getElem_toArray, List.getElem_cons_zero, List.getElem_cons_succ, List.setIfInBounds_toArray, List.set_cons_zero, List.set_cons_succ])
            refine wpAnyH_take (i := 8) (v := (.bool okb)) rfl (by kernel_rfl) (by kernel_rfl) (by kernel_rfl) (fun _ _ _ h => h) (Or.inl ⟨by rfl, ?_⟩) (by assumption) ?_
            · intro w' hSw
              (try dsimp only at hSw)
              go_simp
            (try simp only [Act.put, List.getElem_toArray, List.getElem_cons_zero, List.getElem_cons_succ, List.setIfInBounds_toArray, List.set_cons_zero, List.set_cons_succ])
            refine wpAnyH_ready (rs := [9]) (by kernel_rfl) (by simp) ?_
            refine AllReadyH.cons rfl (fun K hK => ?_) AllReadyH.nil
            refine wp_store_row 58 (.tmp 22) (.tmp 206) rfl MB (mgV mm) (by kernel_rfl) (by kernel_rfl) 58 _ M5.out mg_info rfl (mg_one _) ?_
            obtain ⟨W6a, hW6⟩ : ∃ W6a, W6a = W5a.setRow MB (mgV mm) := ⟨_, rfl⟩
            have k6 : Kp W5a W6a (fun j => j = MB) := by rw [hW6]; exact kp_setRow3 _ _ _
            have M6 : Hid (W6a.heap[MB]? = some (.cells (mgV mm) 58)) := by rw [hW6]; exact setRow_heap _ _ _ _ _ _ M5.out
            have C6 : Hid (W6a.cell? ⟨Ba, 1, none⟩ = some vw ∧ W6a.heap[OB]? = some (.cells (opV ev) 60)) := ⟨(k6.cell (b := Ba) (World.block_lt_of_cell? W5a _ C5.out.1) BM.out).trans C5.out.1, (k6.block _ (blk_lt C5.out.2) OM.out).trans C5.out.2⟩
            have A6 : Hid (Al W1 Ra Rb Ba Bb c i [] W6a) := (AM.out.kp KW5.out).ownrow k6 M5.out (fun vw' hv' e => MNO.out vw' (by rw [← hv']; exact (KW5.out.cell (b := Ba) BAL.out (fun f => f)).symm) e) MGE.out
            rw [← hW6]
            clear hW6 k6 M5 C5 KW5
            refine hK.out _ _ (C6.out) (fun hHeld => ?_)
            clear hK
            (try simp only [Act.put, List.setIfInBounds_toArray, List.set_cons_zero, List.set_cons_succ])
            refine wpAnyH_ready (rs := [10]) (by kernel_rfl) (by simp) ?_
            refine AllReadyH.cons rfl (fun K hK => ?_) AllReadyH.nil
            go_simp
            refine hK.out _ _ (C6.out) (fun hHeld => ?_)
            clear hK
            (try simp only [Act.put, List.setIfInBounds_toArray, List.set_cons_zero, List.set_cons_succ])
            refine wpAnyH_done (by kernel_rfl) ?_ _
            clear C6 C0 hHeld
            cases okb
            case false =>
              go_wp2_with fail
              go_roundw
              case rel => exact ⟨i + 1, by omega, by go_num, A6.out.later⟩
              case measure => simp [intOf]; omega
            case true =>
              obtain ⟨LL, EE, er, hL1, hE1, tk1⟩ := A6.out.takes (by omega) mm HTK.out
              have TK1 := hide tk1
              have D0 : Hid (W6a.cell? ⟨Ba, 0, none⟩ = some (.pointer (some ⟨Ra, 0, none⟩)) ∧ W6a.heap[MB]? = some (.cells (mgV mm) 58)) := ⟨A6.out.cells.1, M6.out⟩
              have E0 := hide A6.out.desk
              have E1 := hide A6.out.desk2
              have E2 := hide A6.out.cells.2.1
              clear tk1
              go_upto_region 39 with fail
              refine wp_region_held_drew (S := fun X => X.cell? ⟨Ba, 0, none⟩ = some (.pointer (some ⟨Ra, 0, none⟩)) ∧ X.heap[MB]? = some (.cells (mgV mm) 58)) (by kernel_rfl) D0.out (fun hHeld => ?_)
              refine wpAnyH_take (i := 0) (v := (.pointer (some ⟨Ba, 0, none⟩))) rfl (by kernel_rfl) (by kernel_rfl) (by kernel_rfl) (fun _ _ _ h => h) (Or.inl ⟨by rfl, ?_⟩) (by assumption) ?_
              · intro w' hSw
                (try dsimp only at hSw)
                go_simp
              (try simp only [Act.put, List.getElem_toArray, List.getElem_cons_zero, List.getElem_cons_succ, List.setIfInBounds_toArray, List.set_cons_zero, List.set_cons_succ])
              refine wpAnyH_take (i := 1) (v := (.pointer (some ⟨Ba, 0, none⟩))) rfl (by kernel_rfl) (by kernel_rfl) (by kernel_rfl) (fun _ _ _ h => h) (Or.inl ⟨by rfl, ?_⟩) (by assumption) ?_
              · intro w' hSw
                (try dsimp only at hSw)
                go_simp
              (try simp only [Act.put, List.getElem_toArray, List.getElem_cons_zero, List.getElem_cons_succ, List.setIfInBounds_toArray, List.set_cons_zero, List.set_cons_succ])
              refine wpAnyH_take (i := 2) (v := (.pointer (some ⟨Ba, 0, none⟩))) rfl (by kernel_rfl) (by kernel_rfl) (by kernel_rfl) (fun _ _ _ h => h) (Or.inl ⟨by rfl, ?_⟩) (by assumption) ?_
              · intro w' hSw
                (try dsimp only at hSw)
                go_simp
              (try simp only [Act.put, List.getElem_toArray, List.getElem_cons_zero, List.getElem_cons_succ, List.setIfInBounds_toArray, List.set_cons_zero, List.set_cons_succ])
              refine wpAnyH_take (i := 3) (v := (.pointer (some ⟨Ra, 0, none⟩))) rfl (by kernel_rfl) (by kernel_rfl) (by kernel_rfl) (fun _ _ _ h => h) (Or.inl ⟨by rfl, ?_⟩) (by assumption) ?_
              · intro w' hSw
                (try dsimp only at hSw)
                (have hs1 := hSw.1; go_simp)
              (try simp only [Act.put, List.getElem_toArray, List.getElem_cons_zero, List.getElem_cons_succ, List.setIfInBounds_toArray, List.set_cons_zero, List.set_cons_succ])
              refine wpAnyH_take (i := 4) (v := (.agg (mgV mm))) rfl (by kernel_rfl) (by kernel_rfl) (by kernel_rfl) (fun _ _ _ h => h) (Or.inl ⟨by rfl, ?_⟩) (by assumption) ?_
              · intro w' hSw
                (try dsimp only at hSw)
                (exact exec_ldR 58 (.tmp 22) rfl rfl _ hSw.2 Tryz.underlying58 mg_info)
              (try simp only [Act.put, List.getElem_toArray, List.getElem_cons_zero, List.getElem_cons_succ, List.setIfInBounds_toArray, List.set_cons_zero, List.set_cons_succ])
              refine wpAnyH_ready (rs := [5]) (by kernel_rfl) (by simp) ?_
              refine AllReadyH.cons rfl (fun K hK => ?_) AllReadyH.nil
              go_simp
              refine Calls.mono (TK1.out W6a.drew ((Kp.refl W6a non).drew)) ?_
              rintro e W7a ⟨xv, yv, rfl, k7, tk2⟩
              have D7 : Hid (W7a.cell? ⟨Ba, 0, none⟩ = some (.pointer (some ⟨Ra, 0, none⟩)) ∧ W7a.heap[MB]? = some (.cells (mgV mm) 58)) := by
                obtain ⟨A, hA⟩ := E0.out
                have hA2 : W6a.drew.heap[Ba]? = some (.cells A 63) := hA
                refine ⟨?_, keep_by k7 D0.out.2 (by decide)⟩
                have z := keep_by k7 hA2 (by decide)
                rw [cell_row z, ← cell_row hA]
                exact D0.out.1
              have D7b : Hid (W7a.cell? ⟨Bb, 0, none⟩ = some (.pointer (some ⟨Rb, 0, none⟩)) ∧ W7a.heap[MB]? = some (.cells (mgV mm) 58)) := by
                obtain ⟨A, hA⟩ := E1.out
                have hA2 : W6a.drew.heap[Bb]? = some (.cells A 63) := hA
                refine ⟨?_, D7.out.2⟩
                have z := keep_by k7 hA2 (by decide)
                rw [cell_row z, ← cell_row hA]
                exact E2.out
              have TK2 := hide tk2
              clear k7 tk2 TK1
              refine hK.out _ _ (D7.out) (fun hHeld => ?_)
              clear hK
              (try simp only [Act.put, List.setIfInBounds_toArray, List.set_cons_zero, List.set_cons_succ])
              refine wpAnyH_take (i := 6) (v := (.tuple #[xv, yv, .int .i64 er])) rfl (by kernel_rfl) (by kernel_rfl) (by kernel_rfl) (fun _ _ _ h => h) (Or.inl ⟨by rfl, ?_⟩) (by assumption) ?_
              · intro w' hSw
                (try dsimp only at hSw)
                go_simp
              (try simp only [Act.put, List.getElem_toArray, List.getElem_cons_zero, List.getElem_cons_succ, List.setIfInBounds_toArray, List.set_cons_zero, List.set_cons_succ])
              refine wpAnyH_take (i := 7) (v := xv) rfl (by kernel_rfl) (by kernel_rfl) (by kernel_rfl) (fun _ _ _ h => h) (Or.inl ⟨by rfl, ?_⟩) (by assumption) ?_
              · intro w' hSw
                (try dsimp only at hSw)
                go_simp
              (try simp only [Act.put, List.getElem_toArray, List.getElem_cons_zero, List.getElem_cons_succ, List.setIfInBounds_toArray, List.set_cons_zero, List.set_cons_succ])
              refine wpAnyH_take (i := 8) (v := yv) rfl (by kernel_rfl) (by kernel_rfl) (by kernel_rfl) (fun _ _ _ h => h) (Or.inl ⟨by rfl, ?_⟩) (by assumption) ?_
              · intro w' hSw
                (try dsimp only at hSw)
                go_simp
              (try simp only [Act.put, List.getElem_toArray, List.getElem_cons_zero, List.getElem_cons_succ, List.setIfInBounds_toArray, List.set_cons_zero, List.set_cons_succ])
              refine wpAnyH_take (i := 9) (v := (.int .i64 er)) rfl (by kernel_rfl) (by kernel_rfl) (by kernel_rfl) (fun _ _ _ h => h) (Or.inl ⟨by rfl, ?_⟩) (by assumption) ?_
              · intro w' hSw
                (try dsimp only at hSw)
                go_simp
              (try simp only [Act.put, List.getElem_toArray, List.getElem_cons_zero, List.getElem_cons_succ, List.setIfInBounds_toArray, List.set_cons_zero, List.set_cons_succ])
              refine wpAnyH_ready (rs := [10]) (by kernel_rfl) (by simp) ?_
              refine AllReadyH.cons rfl (fun K hK => ?_) AllReadyH.nil
              go_simp
              refine hK.out _ _ (D7.out) (fun hHeld => ?_)
              clear hK
              (try simp only [Act.put, List.setIfInBounds_toArray, List.set_cons_zero, List.set_cons_succ])
              refine wpAnyH_ready (rs := [11]) (by kernel_rfl) (by simp) ?_
              refine AllReadyH.cons rfl (fun K hK => ?_) AllReadyH.nil
              go_simp
              refine hK.out _ _ (D7.out) (fun hHeld => ?_)
              clear hK
              (try simp only [Act.put, List.setIfInBounds_toArray, List.set_cons_zero, List.set_cons_succ])
              refine wpAnyH_ready (rs := [12]) (by kernel_rfl) (by simp) ?_
              refine AllReadyH.cons rfl (fun K hK => ?_) AllReadyH.nil
              go_simp
              refine hK.out _ _ (D7.out) (fun hHeld => ?_)
              clear hK
              (try simp only [Act.put, List.setIfInBounds_toArray, List.set_cons_zero, List.set_cons_succ])
              refine wpAnyH_done (by kernel_rfl) ?_ _
              clear D7 D0 hHeld E0 E2
              go_upto_region 40 with fail
              refine wp_region_held_drew (S := fun X => X.cell? ⟨Bb, 0, none⟩ = some (.pointer (some ⟨Rb, 0, none⟩)) ∧ X.heap[MB]? = some (.cells (mgV mm) 58)) (by kernel_rfl) D7b.out (fun hHeld => ?_)
              refine wpAnyH_take (i := 0) (v := (.pointer (some ⟨Bb, 0, none⟩))) rfl (by kernel_rfl) (by kernel_rfl) (by kernel_rfl) (fun _ _ _ h => h) (Or.inl ⟨by rfl, ?_⟩) (by assumption) ?_
              · intro w' hSw
                (try dsimp only at hSw)
                go_simp
              (try simp only [Act.put, List.getElem_toArray, List.getElem_cons_zero, List.getElem_cons_succ, List.setIfInBounds_toArray, List.set_cons_zero, List.set_cons_succ])
              refine wpAnyH_take (i := 1) (v := (.pointer (some ⟨Bb, 0, none⟩))) rfl (by kernel_rfl) (by kernel_rfl) (by kernel_rfl) (fun _ _ _ h => h) (Or.inl ⟨by rfl, ?_⟩) (by assumption) ?_
              · intro w' hSw
                (try dsimp only at hSw)
                go_simp
              (try simp only [Act.put, List.getElem_toArray, List.getElem_cons_zero, List.getElem_cons_succ, List.setIfInBounds_toArray, List.set_cons_zero, List.set_cons_succ])
              refine wpAnyH_take (i := 2) (v := (.pointer (some ⟨Bb, 0, none⟩))) rfl (by kernel_rfl) (by kernel_rfl) (by kernel_rfl) (fun _ _ _ h => h) (Or.inl ⟨by rfl, ?_⟩) (by assumption) ?_
              · intro w' hSw
                (try dsimp only at hSw)
                go_simp
              (try simp only [Act.put, List.getElem_toArray, List.getElem_cons_zero, List.getElem_cons_succ, List.setIfInBounds_toArray, List.set_cons_zero, List.set_cons_succ])
              refine wpAnyH_take (i := 3) (v := (.pointer (some ⟨Rb, 0, none⟩))) rfl (by kernel_rfl) (by kernel_rfl) (by kernel_rfl) (fun _ _ _ h => h) (Or.inl ⟨by rfl, ?_⟩) (by assumption) ?_
              · intro w' hSw
                (try dsimp only at hSw)
                (have hs1 := hSw.1; go_simp)
              (try simp only [Act.put, List.getElem_toArray, List.getElem_cons_zero, List.getElem_cons_succ, List.setIfInBounds_toArray, List.set_cons_zero, List.set_cons_succ])
              refine wpAnyH_take (i := 4) (v := (.agg (mgV mm))) rfl (by kernel_rfl) (by kernel_rfl) (by kernel_rfl) (fun _ _ _ h => h) (Or.inl ⟨by rfl, ?_⟩) (by assumption) ?_
              · intro w' hSw
                (try dsimp only at hSw)
                (exact exec_ldR 58 (.tmp 22) rfl rfl _ hSw.2 Tryz.underlying58 mg_info)
              (try simp only [Act.put, List.getElem_toArray, List.getElem_cons_zero, List.getElem_cons_succ, List.setIfInBounds_toArray, List.set_cons_zero, List.set_cons_succ])
              refine wpAnyH_ready (rs := [5]) (by kernel_rfl) (by simp) ?_
              refine AllReadyH.cons rfl (fun K hK => ?_) AllReadyH.nil
              go_simp
              refine Calls.mono (TK2.out W7a.drew ((Kp.refl W7a non).drew)) ?_
              rintro e W9 ⟨uv, zv, b1', b2', b3', b4', rfl, ox, ou, oy, oz, al9, k9⟩
              have D9 : Hid (W9.cell? ⟨Bb, 0, none⟩ = some (.pointer (some ⟨Rb, 0, none⟩)) ∧ W9.heap[MB]? = some (.cells (mgV mm) 58)) := ⟨al9.cells.2.1, keep_by (W := W7a.drew) k9 D7b.out.2 (by decide)⟩
              have AL9 := hide al9
              have OX9 := hide ox
              have SM := hide (Mg_same ox ou (by omega))
              have SEE : Hid (∀ X, Kp W9 X non → Calls Tryz.prog 28 #[yv, zv] X fun e w' => e = .returned (.bool true) ∧ Kp X w' non) := fun X k => Oc_same (own_kp oy k (fun _ _ f => f)) (own_kp oz k (fun _ _ f => f)) (by omega)
              clear ox ou oy oz al9 k9 TK2
              refine hK.out _ _ (D9.out) (fun hHeld => ?_)
              clear hK
              (try simp only [Act.put, List.setIfInBounds_toArray, List.set_cons_zero, List.set_cons_succ])
              refine wpAnyH_take (i := 6) (v := (.tuple #[uv, zv, .int .i64 er])) rfl (by kernel_rfl) (by kernel_rfl) (by kernel_rfl) (fun _ _ _ h => h) (Or.inl ⟨by rfl, ?_⟩) (by assumption) ?_
              · intro w' hSw
                (try dsimp only at hSw)
                go_simp
              (try simp only [Act.put, List.getElem_toArray, List.getElem_cons_zero, List.getElem_cons_succ, List.setIfInBounds_toArray, List.set_cons_zero, List.set_cons_succ])
              refine wpAnyH_take (i := 7) (v := uv) rfl (by kernel_rfl) (by kernel_rfl) (by kernel_rfl) (fun _ _ _ h => h) (Or.inl ⟨by rfl, ?_⟩) (by assumption) ?_
              · intro w' hSw
                (try dsimp only at hSw)
                go_simp
              (try simp only [Act.put, List.getElem_toArray, List.getElem_cons_zero, List.getElem_cons_succ, List.setIfInBounds_toArray, List.set_cons_zero, List.set_cons_succ])
              refine wpAnyH_take (i := 8) (v := zv) rfl (by kernel_rfl) (by kernel_rfl) (by kernel_rfl) (fun _ _ _ h => h) (Or.inl ⟨by rfl, ?_⟩) (by assumption) ?_
              · intro w' hSw
                (try dsimp only at hSw)
                go_simp
              (try simp only [Act.put, List.getElem_toArray, List.getElem_cons_zero, List.getElem_cons_succ, List.setIfInBounds_toArray, List.set_cons_zero, List.set_cons_succ])
              refine wpAnyH_take (i := 9) (v := (.int .i64 er)) rfl (by kernel_rfl) (by kernel_rfl) (by kernel_rfl) (fun _ _ _ h => h) (Or.inl ⟨by rfl, ?_⟩) (by assumption) ?_
              · intro w' hSw
                (try dsimp only at hSw)
                go_simp
              (try simp only [Act.put, List.getElem_toArray, List.getElem_cons_zero, List.getElem_cons_succ, List.setIfInBounds_toArray, List.set_cons_zero, List.set_cons_succ])
              refine wpAnyH_ready (rs := [10]) (by kernel_rfl) (by simp) ?_
              refine AllReadyH.cons rfl (fun K hK => ?_) AllReadyH.nil
              go_simp
              refine hK.out _ _ (D9.out) (fun hHeld => ?_)
              clear hK
              (try simp only [Act.put, List.setIfInBounds_toArray, List.set_cons_zero, List.set_cons_succ])
              refine wpAnyH_ready (rs := [11]) (by kernel_rfl) (by simp) ?_
              refine AllReadyH.cons rfl (fun K hK => ?_) AllReadyH.nil
              go_simp
              refine hK.out _ _ (D9.out) (fun hHeld => ?_)
              clear hK
              (try simp only [Act.put, List.setIfInBounds_toArray, List.set_cons_zero, List.set_cons_succ])
              refine wpAnyH_ready (rs := [12]) (by kernel_rfl) (by simp) ?_
              refine AllReadyH.cons rfl (fun K hK => ?_) AllReadyH.nil
              go_simp
              refine hK.out _ _ (D9.out) (fun hHeld => ?_)
              clear hK
              (try simp only [Act.put, List.setIfInBounds_toArray, List.set_cons_zero, List.set_cons_succ])
              refine wpAnyH_done (by kernel_rfl) ?_ _
              clear D9 D7b hHeld E1
              go_upto_region 43 with (first | (go_at_call 26; refine Calls.mono SM.out ?_; rintro e XA ⟨rfl, kA⟩; have SE1 := hide (SEE.out XA kA); have KA := hide kA; clear kA) | (go_at_call 28; refine Calls.mono SE1.out ?_; rintro e XB ⟨rfl, kB⟩; have KB : Hid (Kp W9 XB non) := KA.out.trans kB (fun _ f => f.elim); clear kB))
              clear SM SEE SE1 KA
              obtain ⟨vwJ, cvJ, jn⟩ := (AL9.out.kp KB.out).joined (own_kp OX9.out KB.out (fun _ _ f => f)) (by omega)
              have JN := hide jn
              clear jn OX9 KB AL9
              go_wp2_with fail
              refine Calls.mono JN.out ?_
              rintro e WJ ⟨aJ, lJ, cpJ, rfl, cJ, fJ, pJ, alJ⟩
              have ALJ := hide alJ
              clear alJ JN cvJ
              go_wp2_with fail
              go_roundw
              case rel => exact ⟨i + 1, by omega, by go_num, ALJ.out⟩
              case measure => simp [intOf]; omega
end Go.Proofs.YtndfhpfhgdamgaaGreatDoor.Cn
