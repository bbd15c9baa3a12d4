import Derived.Test.YtfpalfpfijcpbaaGreatDoorGPtFit
import Derived.Test.YtfpalfpfijcpbaaGreatDoorPtTold
namespace Go.Proofs.YtfpalfpfijcpbaaGreatDoor
open Go.RowKit Go.Shelf
theorem mfS_len {m : MF} (h : mfE m = 0) : (mfS m).size ≤ 1000000000 := by
  obtain ⟨s1, s2, s3⟩ := mf_fit h
  have hrow := rowsOk_all s3
  have h1 := wrL_len (headFDs 0 0) (headO m.hv) 40 (headFD_small 0 0) (headO_len m.hv s1) 4 (Nat.le_refl _)
  have h2 := wrL_len (tailFDs 0) (tailO m.tv) 40 (tailFD_small 0) (tailO_len m.tv s2) 2 (Nat.le_refl _)
  have h3 := rowsL_len m.rs (fun r hr => by
    have := wrL_len (rowFDs 0) (rowO r) 40 (rowFD_small 0) (rowO_len r (hrow r hr)) 4 (Nat.le_refl _)
    exact this) m.rs.length (Nat.le_refl _)
  rw [List.take_length] at h3
  have h4 : m.rs.length ≤ 1025 := by
    unfold headOk inR MF.hv at s1
    simp only [Bool.and_eq_true, decide_eq_true_eq] at s1
    omega
  have e1 : (headL m.hv).length ≤ 4 * (40 + 2000) := h1
  have e2 : (tailL m.tv).length ≤ 2 * (40 + 2000) := h2
  have e3 : m.rs.length * 8160 ≤ 1025 * 8160 := Nat.mul_le_mul_right _ h4
  unfold mfS
  rw [if_pos h]
  unfold paperS mfL
  have t1 : manTitle.size = 19 := rfl
  have t2 : sumWd.size = 4 := rfl
  rw [ByteArray.size_append, ByteArray.size_append, strOf_size, strOf_size, sealL_len, t1, List.length_append, List.length_append]
  omega
theorem ManAt.below {w w' : World} {mb : Nat} {st : ByteArray} {v : Value} {t h : Int} (m : ManAt w mb st v t h) (hb : Below w.heap.size w w') : ManAt w' mb st v t h := by
  have hl := lt_of_cell? m.c0
  exact ⟨by rw [hb.cell (by exact hl)]; exact m.c0, by rw [hb.cell (by exact hl)]; exact m.c1, by rw [hb.cell (by exact hl)]; exact m.c2, by rw [hb.cell (by exact hl)]; exact m.c3, by rw [hb.cell (by exact hl)]; exact m.c4, by rw [hb.cell (by exact hl)]; exact m.c5, fun i hi => by rw [hb.frozen (by exact hl)]; exact m.fz i hi⟩
theorem LiesR.kb {b o R : Nat} {w w' : World} {rs : List RV} (h : LiesR b o w rs) (hk : Kb R w w') (hn : 0 < rs.length → b ≠ R) : LiesR b o w' rs := fun i hi => (h i hi).kb hk (hn (by omega))
set_option maxHeartbeats 8000000 in
set_option maxRecDepth 100000 in
set_option linter.unusedSimpArgs false in
/-- the law PaperFiles -/
theorem files_any (st : ByteArray) (ao : Option Addr) (b o cap : Nat) (fs : List CT) (w : World) (hao : 0 < fs.length → ao = some ⟨b, o, none⟩) (hb : 0 < fs.length → b < w.heap.size) (hl : LiesC b o w fs) (hcap : fs.length ≤ cap) (hlen : fs.length ≤ 1048576) (hst : st.size ≤ 1048576) (hnm : ∀ c ∈ fs, c.1.size ≤ 1048576) (hcat : (catC fs).length ≤ 1048576) (hT : TabM w) (hP : Pow w) :
    Calls Tryz.prog 6 #[.string st, .slice ao fs.length cap] w fun e w' => e = .returned (.bool true) ∧ Below w.heap.size w w' := by
  have hsz : ∀ c ∈ fs, c.2.size ≤ 1048576 := fun c hc => Nat.le_trans (catC_mem hc) hcat
  have T4 : Hid (∀ w', Below w.heap.size w w' → Tab4 0 w') := fun w' h => (hT.below h).four
  have PW : Hid (∀ w', Below w.heap.size w w' → Pow w') := fun w' h => hP.below h
  have FI := hide (fun w' (h : Below w.heap.size w w') => first_any w' (T4.out _ h) (PW.out _ h))
  have LW : Hid (∀ w', Below w.heap.size w w' → 0 < fs.length → LiesC b o w' fs ∧ b < w'.heap.size) := fun w' h z => ⟨hl.below (hb z) h, Nat.lt_of_lt_of_le (hb z) h.size⟩
  have TD := hide (fun w' (h : Below w.heap.size w w') => told_any st ao b o cap fs w' hao (fun z => (LW.out w' h z).2) (fun i hi => (LW.out w' h (by omega)).1 i hi) hcap hlen hst hnm hcat (hT.below h))
  have PR : Hid (∀ (t u : Int) (a : Option Addr) (g c : Nat) (w' : World), (0 < fs.length → a = some ⟨g, 0, none⟩) → LiesR g 0 w' (fs.map rowC) → Below w.heap.size w w' → Calls Tryz.prog 23 #[.agg #[.string st, .int .i64 7, .int .i64 3, .slice a fs.length c, .int .i64 t, .int .i64 u]] w' fun x w'' => x = .returned (.tuple #[.string (mfS ⟨st, 7, 3, fs.map rowC, t, u⟩), .int .i64 (mfE ⟨st, 7, 3, fs.map rowC, t, u⟩)]) ∧ Below w'.heap.size w' w'') := fun t u a g c w' ha hl' hb' => by
    have := printManifest_any ⟨st, 7, 3, fs.map rowC, t, u⟩ a g 0 c w' (fun z => ha (by simpa using z)) hl' (by show st.size ≤ _; omega) (fun r hr => by
      obtain ⟨x, hx, rfl⟩ := List.mem_map.1 hr
      have := hnm x hx
      show x.1.size ≤ _
      omega) (by show (fs.map rowC).length ≤ _; rw [List.length_map]; omega) (PW.out _ hb') (T4.out _ hb')
    unfold mfCells at this
    dsimp only at this
    rw [List.length_map] at this
    exact this
  have PA := hide (fun (S : ByteArray) (hS : S.size ≤ 1000000000) w' (h : Below w.heap.size w w') => parseManifest_any S w' (by omega) (T4.out _ h))
  have GOOD : Hid (okUp st fs fs.length = true → ∃ S : ByteArray, S.size ≤ 1000000000 ∧ mfS ⟨st, 7, 3, fs.map rowC, (totS (fs.map rowC) : Int), (crcN 0 (catC fs) : Int)⟩ = S ∧ mfE ⟨st, 7, 3, fs.map rowC, (totS (fs.map rowC) : Int), (crcN 0 (catC fs) : Int)⟩ = 0 ∧ mfE ⟨st, 7, 3, fs.map rowC, (totS (fs.map rowC) : Int) + 1, (crcN 0 (catC fs) : Int)⟩ = 43 ∧ mfE ⟨st, 7, 3, fs.map rowC, (totS (fs.map rowC) : Int), ((crcN 0 (catC fs) ^^^ 1 : Nat) : Int)⟩ = 43 ∧ pmE S = 0 ∧ pmM S = ⟨st, 7, 3, fs.map rowC, (totS (fs.map rowC) : Int), (crcN 0 (catC fs) : Int)⟩) := fun h => by
    have hs := fun c hc => Nat.le_trans (hsz c hc) (show 1048576 ≤ 1073741824 by omega)
    have e0 := told_E h hs hcat
    have e1 := told_E1 h hs hcat
    have e2 := told_E2 h hs hcat
    obtain ⟨f1, f2⟩ := man_fwd e0
    exact ⟨_, mfS_len e0, rfl, e0, e1, e2, f1, f2⟩
  have hrl : (fs.map rowC).length = fs.length := List.length_map ..
  have hcc := crcN_lt (w := 0) (catC fs) (by decide)
  have htt := totC fs
  have HSZ := hide hsz
  have HAO := hide hao
  clear hT hP hl hb hnm hao hsz
  go_enter Tryz.func6, Tryz.ntmps6
  go_wp2_with fail
  go_loopw [5] (fun i wr => ∃ k : Nat, k ≤ fs.length ∧ i = .int .i64 k ∧ Below w.heap.size w wr) (fun i _ => fs.length - (intOf i).toNat)
  case atStart => exact ⟨0, Nat.zero_le _, rfl, Below.refl _ _⟩
  case round =>
    obtain ⟨k, hk, rfl, hnx⟩ := hrel
    by_cases hlt : k < fs.length
    · have hlt' : (k : Int) < (fs.length : Int) := by omega
      obtain rfl := HAO.out (by omega)
      obtain ⟨d1, d2⟩ := (LW.out wr hnx (by omega)).1 k hlt
      have hd := HSZ.out fs[k] (List.getElem_mem hlt)
      have HNX := hide hnx
      clear hnx TD PR
      generalize fs[k] = c at *
      obtain ⟨nm, dt⟩ := c
      dsimp only at d1 d2 hd
      have hd' : ¬ (1073741824 : Int) < (dt.size : Int) := by omega
      go_wp2_with fail
      go_roundw
      case rel => exact ⟨k + 1, by omega, by go_num, HNX.out⟩
      case measure => simp [intOf]; omega
    · obtain rfl : k = fs.length := by omega
      have BR := hide hnx
      have D1 := hide (TD.out wr hnx)
      clear hnx TD hlt hk
      go_wp2_with fail
      refine Calls.mono D1.out ?_
      rintro x w1 ⟨v, rfl, o1, b1⟩
      have B1 := hide (BR.out.trans (b1.mono BR.out.size))
      rw [← hrl] at o1
      obtain ⟨a1, g1, c1, rfl, hc1, ha1, l1⟩ := own_rows o1
      rw [hrl] at ha1
      have HG1 : Hid (0 < fs.length → g1 < w1.heap.size) := fun z => (l1 0 (by rw [hrl]; exact z)).lt
      have HA1 := hide ha1
      have L1 := hide l1
      have HRL := hide hrl
      rw [hrl]
      clear hc1 hrl
      clear b1 o1 ha1 l1 D1
      obtain ⟨TT, hTT⟩ : ∃ TT, TT = totS (fs.map rowC) := ⟨_, rfl⟩
      obtain ⟨CC, hCC⟩ : ∃ CC, CC = crcN 0 (catC fs) := ⟨_, rfl⟩
      rw [← hTT] at htt GOOD ⊢
      rw [← hCC] at hcc GOOD ⊢
      obtain ⟨WM, hWM⟩ : ∃ WM, WM = w1.alloc (.cells #[.string st, .int .i64 7, .int .i64 3, .slice a1 fs.length c1, .int .i64 (TT : Int), .int .i64 (CC : Int)] 52) := ⟨_, rfl⟩
      have bm : Below w1.heap.size w1 WM := by rw [hWM]; exact (Below.refl _ _).alloc (Nat.le_refl _) _
      have sm : WM.heap.size = w1.heap.size + 1 := by rw [hWM]; simp
      have MM : Hid (ManAt WM w1.heap.size st (.slice a1 fs.length c1) (TT : Int) (CC : Int)) := by
        rw [hWM]
        exact ⟨by simp, by simp, by simp, by simp, by simp, by simp, fun i hi => by
          match i, hi with
          | 3, _ => simp
          | 4, _ => simp
          | 5, _ => simp⟩
      have BM := hide (B1.out.trans (bm.mono B1.out.size))
      have LM := hide (L1.out.below bm)
      generalize okUp st fs fs.length = OK at *
      have htb : TT ≤ 1048576 := by omega
      clear hTT hCC bm L1 LW htt
      cases OK with
      | false =>
        go_wp2_with fail
        rw [← hWM]
        refine Calls.mono (FI.out _ BM.out) ?_
        rintro x w2 ⟨rfl, b2⟩
        have B2 := hide (BM.out.trans (b2.mono BM.out.size))
        clear b2
        go_wp2_with fail
        go_ret
        exact ⟨rfl, B2.out⟩
      | true =>
        obtain ⟨S, hS, eS, e0, e1, e2, p0, p1⟩ := GOOD.out rfl
        have P0 := hide (PR.out (TT : Int) (CC : Int) a1 g1 c1)
        have P1 := hide (PR.out ((TT : Int) + 1) (CC : Int) a1 g1 c1)
        have P2 := hide (PR.out (TT : Int) ((CC ^^^ 1 : Nat) : Int) a1 g1 c1)
        rw [eS, e0] at P0
        rw [e1] at P1
        rw [e2] at P2
        have PS := hide (PA.out S hS)
        rw [p0, p1] at PS
        dsimp only at PS
        have SMF : Hid (∀ (a2 : Option Addr) (b2 c2 : Nat) (w' : World), (0 < fs.length → a2 = some ⟨b2, 0, none⟩) → LiesR g1 0 w' (fs.map rowC) → LiesR b2 0 w' (fs.map rowC) → Calls Tryz.prog 25 #[.agg #[.string st, .int .i64 7, .int .i64 3, .slice a1 fs.length c1, .int .i64 (TT : Int), .int .i64 (CC : Int)], .agg #[.string st, .int .i64 7, .int .i64 3, .slice a2 fs.length c2, .int .i64 (TT : Int), .int .i64 (CC : Int)]] w' fun e w'' => e = .returned (.bool true) ∧ Below w'.heap.size w' w'') := fun a2 b2 c2 w' h2 l1 l2 => by
          have := sameManifest_any st 7 3 (TT : Int) (CC : Int) a1 a2 g1 c1 b2 c2 (fs.map rowC) w' (fun z => HA1.out (by rw [← HRL.out]; exact z)) (fun z => h2 (by rw [← HRL.out]; exact z)) (by rw [HRL.out]; omega) l1 l2
          rw [HRL.out] at this
          exact this
        rw [List.length_map] at PS
        generalize mfS ⟨st, 7, 3, fs.map rowC, (TT : Int) + 1, (CC : Int)⟩ = S1 at *
        generalize mfS ⟨st, 7, 3, fs.map rowC, (TT : Int), ((CC ^^^ 1 : Nat) : Int)⟩ = S2 at *
        have hxb : bits .xor .i64 (CC : Int) 1 = ((CC ^^^ 1 : Nat) : Int) := bxor64 CC 1 hcc (by omega)
        clear GOOD PR PA eS e0 e1 e2 p0 p1 hS
        go_wp2_with fail
        rw [← hWM]
        refine Calls.mono (P0.out _ HA1.out LM.out BM.out) ?_
        rintro x w2 ⟨rfl, b2⟩
        have B2 := hide (BM.out.trans (b2.mono BM.out.size))
        have M2 := hide (MM.out.below b2)
        have L2 := hide (LM.out.below b2)
        clear b2 hWM LM MM BM P0
        go_wp2_with fail
        refine Calls.mono (PS.out _ B2.out) ?_
        rintro x w3 ⟨q1, -, b3⟩
        obtain ⟨v3, rfl, o3⟩ := q1 trivial
        have B3 := hide (B2.out.trans (b3.mono B2.out.size))
        have M3 := hide (M2.out.below b3)
        have L3 := hide (L2.out.below b3)
        rw [← HRL.out] at o3
        obtain ⟨a3, g3, c3, rfl, hc3, ha3, l3⟩ := own_rows o3
        rw [HRL.out] at ha3
        rw [HRL.out]
        have HA3 := hide ha3
        obtain ⟨WN, hWN⟩ : ∃ WN, WN = w3.alloc (.cells #[.string st, .int .i64 7, .int .i64 3, .slice a3 fs.length c3, .int .i64 (TT : Int), .int .i64 (CC : Int)] 52) := ⟨_, rfl⟩
        have bn : Below w3.heap.size w3 WN := by rw [hWN]; exact (Below.refl _ _).alloc (Nat.le_refl _) _
        have BN := hide (B3.out.trans (bn.mono B3.out.size))
        have MN := hide (M3.out.below bn)
        have LN := hide (L3.out.below bn)
        have KN := hide (l3.below bn)
        clear b3 o3 l3 ha3 q1 M2 L2 B2 PS bn hc3
        obtain ⟨m0, m1, m2, m3, m4, m5, mf⟩ := M3.out
        have hml := lt_of_cell? m0
        go_wp2_with (go_at_call 12; refine Calls.mono (pnum_any _ _) ?_; rintro e w' ⟨rfl, rfl⟩)
        rw [← hWN]
        refine Calls.mono (SMF.out a3 g3 c3 WN HA3.out LN.out KN.out) ?_
        rintro x w4 ⟨rfl, b4⟩
        have B4 := hide (BN.out.trans (b4.mono BN.out.size))
        have M4 := hide (MN.out.below b4)
        have L4 := hide (LN.out.below b4)
        clear b4 hWN MN LN KN BN SMF m0 m1 m2 m3 m4 m5 mf hml M3 L3 B3 HA3
        have hwb : w.heap.size ≤ w1.heap.size := B1.out.size
        have z4 := M4.out.c4
        have f4 := M4.out.fz 4 ⟨by omega, by omega⟩
        have M5 := hide (M4.out.set4 ((TT : Int) + 1))
        have L5 := hide (L4.out.kb (Kb.set w1.heap.size 4 w4 (.int .i64 ((TT : Int) + 1))) (fun z => by have := HG1.out (by rw [← HRL.out]; exact z); omega))
        have B5 := hide (B4.out.setCell (p := ⟨w1.heap.size, 4, none⟩) hwb (.int .i64 ((TT : Int) + 1)))
        obtain ⟨m0, m1, m2, m3, m4, m5, mf⟩ := M5.out
        go_wp2_with (go_at_call 12; refine Calls.mono (pnum_any _ _) ?_; rintro e w' ⟨rfl, rfl⟩)
        refine Calls.mono (P1.out _ HA1.out L5.out B5.out) ?_
        rintro x w6 ⟨rfl, b6⟩
        have B6 := hide (B5.out.trans (b6.mono B5.out.size))
        have M6 := hide (M5.out.below b6)
        have L6 := hide (L5.out.below b6)
        clear b6 z4 f4 m0 m1 m2 m3 m4 m5 mf M5 L5 B5 M4 L4 B4 P1
        have M7 := hide (M6.out.set4 (TT : Int))
        have M8 := hide (M7.out.set5 ((CC ^^^ 1 : Nat) : Int))
        have L8 := hide ((L6.out.kb (Kb.set w1.heap.size 4 w6 (.int .i64 (TT : Int))) (fun z => by have := HG1.out (by rw [← HRL.out]; exact z); omega)).kb (Kb.set w1.heap.size 5 _ (.int .i64 ((CC ^^^ 1 : Nat) : Int))) (fun z => by have := HG1.out (by rw [← HRL.out]; exact z); omega))
        have B8 := hide ((B6.out.setCell (p := ⟨w1.heap.size, 4, none⟩) hwb (.int .i64 (TT : Int))).setCell (p := ⟨w1.heap.size, 5, none⟩) hwb (.int .i64 ((CC ^^^ 1 : Nat) : Int)))
        have z4 := M6.out.c4
        have f4 := M6.out.fz 4 ⟨by omega, by omega⟩
        have z5 := M7.out.c5
        have f5 := M7.out.fz 5 ⟨by omega, by omega⟩
        obtain ⟨m0, m1, m2, m3, m4, m5, mf⟩ := M8.out
        have hsb : (TT : Int) + 1 - 1 = (TT : Int) := by omega
        go_wp2_with (go_at_call 12; refine Calls.mono (pnum_any _ _) ?_; rintro e w' ⟨rfl, rfl⟩)
        refine Calls.mono (P2.out _ HA1.out L8.out B8.out) ?_
        rintro x w9 ⟨rfl, b9⟩
        have BE := hide (B8.out.trans (b9.mono B8.out.size))
        clear b9 z4 f4 z5 f5 m0 m1 m2 m3 m4 m5 mf M6 M7 M8 L6 L8 B6 B8
        go_wp2_with (go_at_call 12; refine Calls.mono (pnum_any _ _) ?_; rintro e w' ⟨rfl, rfl⟩)
        go_ret
        exact ⟨rfl, BE.out⟩
end Go.Proofs.YtfpalfpfijcpbaaGreatDoor
