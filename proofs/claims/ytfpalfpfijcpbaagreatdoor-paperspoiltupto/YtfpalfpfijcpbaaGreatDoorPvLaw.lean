import Derived.Test.YtfpalfpfijcpbaaGreatDoorGPjSp
import Derived.Test.YtfpalfpfijcpbaaGreatDoorPtFiles
import Derived.Test.YtfpalfpfijcpbaaGreatDoorPmBack
import Derived.Deep.DeepCutAuto
namespace Go.Proofs.YtfpalfpfijcpbaaGreatDoor
open Go.RowKit Go.Shelf
def eastS : ByteArray := ⟨#[101, 97, 115, 116]⟩
theorem metaS_small {st : ByteArray} {n : Nat → Int} (hok : metaOk st n = true) (hv : ∀ i, I64 (n i)) : (metaS st n).size ≤ 1000000000 := by
  unfold metaS
  rw [if_pos hok]
  unfold paperS
  have h1 := wrL_len (metaFDs 0) (metaO st n) 40 (metaFD_small 0) (fun i => by
          unfold metaO
          split
          · exact (metaOk_st hok).2.1
          · unfold itS; rw [strOf_size]; exact Nat.le_trans (itoa_len _ (hv i).1 (hv i).2) (by omega)) 8 (Nat.le_refl _)
  have h2 : (metaL st n).length ≤ 8 * (40 + 2000) := h1
  have h3 : metaTitle.size = 15 := rfl
  rw [ByteArray.size_append, ByteArray.size_append, strOf_size, strOf_size, sealL_len, h3]
  have h4 : sumWd.size = 4 := rfl
  omega
theorem ptrS_small {c p e s : Int} (hc : I64 c) (hp : I64 p) (he : I64 e) (hs : I64 s) : (ptrS c p e s).size ≤ 1000000000 := by
  have h1 := itoa_len c hc.1 hc.2
  have h2 := itoa_len p hp.1 hp.2
  have h3 := itoa_len e he.1 he.2
  have h4 := itoa_len s hs.1 hs.2
  unfold ptrS
  split
  · unfold paperS
    have t1 : ptrTitle.size = 17 := rfl
    have t2 : sumWd.size = 4 := rfl
    rw [ByteArray.size_append, ByteArray.size_append, strOf_size, strOf_size, sealL_len, t1, t2]
    unfold ptrL
    simp only [List.length_append, List.length_cons, List.length_nil]
    omega
  · decide
theorem own_snoc {w : World} {base : Nat} {v : Value} {L : List ByteArray} {S : ByteArray} (h : w.ownsRow base 9 1 v (L.length + 1) (L.map Value.string ++ [.string S])) : w.ownsRow base 9 1 v (L ++ [S]).length ((L ++ [S]).map Value.string) := by
  rw [List.length_append, List.map_append]
  exact h
theorem own_len {w : World} {base : Nat} {ad : Option Addr} {m c : Nat} {L : List ByteArray} (h : w.ownsRow base 9 1 (.slice ad m c) L.length (L.map Value.string)) : L.length = m := by
  obtain ⟨_, ⟨h1, h2⟩ | ⟨g, cap, cur, h1, _⟩⟩ := h
  · injection h1 with _ e _; omega
  · injection h1 with _ e _; omega
theorem own_some {w : World} {base : Nat} {ad : Option Addr} {m c : Nat} {L : List ByteArray} (h : w.ownsRow base 9 1 (.slice ad m c) L.length (L.map Value.string)) : 0 < L.length → ∃ g, ad = some ⟨g, 0, none⟩ := by
  intro z
  obtain ⟨_, ⟨h1, h2⟩ | ⟨g, cap, cur, h1, _⟩⟩ := h
  · omega
  · injection h1 with e _ _; exact ⟨g, e⟩
theorem readZ_any (tx : ByteArray) (w : World) (htx : tx.size ≤ 1000000000000) (hz : ¬ PaperT tx) (hT4 : Tab4 0 w) :
    Calls Tryz.prog 26 #[.string tx] w fun e w' => e = .returned (.int .i64 0) ∧ Below w.heap.size w w' := by
  have := readN_any tx w htx hT4
  rw [rd_none hz] at this
  exact this
set_option maxHeartbeats 16000000 in
set_option maxRecDepth 100000 in
set_option linter.unusedSimpArgs false in
/-- the law PaperSpoilt -/
theorem spoiltLaw_any (st : ByteArray) (n1 n2 n3 n4 n5 n6 n7 c p e s : Int) (ao : Option Addr) (b o cap : Nat) (fs : List CT) (a by_ : Int) (more : ByteArray) (w : World) (hst : st.size ≤ 9223372036854775807) (hn : ∀ i, I64 (mN n1 n2 n3 n4 n5 n6 n7 i)) (hc : I64 c) (hp : I64 p) (he : I64 e) (hs : I64 s) (hao : 0 < fs.length → ao = some ⟨b, o, none⟩) (hb : 0 < fs.length → b < w.heap.size) (hl : LiesC b o w fs) (hcap : fs.length ≤ cap) (hlen : fs.length ≤ 1048576) (hnm : ∀ c ∈ fs, c.1.size ≤ 1048576) (hcat : (catC fs).length ≤ 1048576) (hmo : more.size ≤ 1048576) (hT : TabM w) (hP : Pow w) :
    Calls Tryz.prog 7 #[.agg #[.string st, .int .i64 n1, .int .i64 n2, .int .i64 n3, .int .i64 n4, .int .i64 n5, .int .i64 n6, .int .i64 n7], .agg #[.int .i64 c, .int .i64 p, .int .i64 e, .int .i64 s], .slice ao fs.length cap, .int .i64 a, .int .i64 by_, .string more] w fun x w' => x = .returned (.bool true) ∧ Below w.heap.size w w' := by
  obtain ⟨W0, hW0⟩ : ∃ W0, W0 = (w.alloc (.cells #[.string st, .int .i64 n1, .int .i64 n2, .int .i64 n3, .int .i64 n4, .int .i64 n5, .int .i64 n6, .int .i64 n7] 23)).alloc (.cells #[.int .i64 c, .int .i64 p, .int .i64 e, .int .i64 s] 25) := ⟨_, rfl⟩
  have b0 : Below w.heap.size w W0 := by rw [hW0]; exact ((Below.refl _ w).alloc (Nat.le_refl _) _).alloc (by simp) _
  have s0 : W0.heap.size = w.heap.size + 1 + 1 := by rw [hW0]; simp
  have KM0 : W0.cell? ⟨w.heap.size, 0, none⟩ = some (.string st) ∧ W0.cell? ⟨w.heap.size, 1, none⟩ = some (.int .i64 n1) ∧ W0.cell? ⟨w.heap.size, 2, none⟩ = some (.int .i64 n2) ∧ W0.cell? ⟨w.heap.size, 3, none⟩ = some (.int .i64 n3) ∧ W0.cell? ⟨w.heap.size, 4, none⟩ = some (.int .i64 n4) ∧ W0.cell? ⟨w.heap.size, 5, none⟩ = some (.int .i64 n5) ∧ W0.cell? ⟨w.heap.size, 6, none⟩ = some (.int .i64 n6) ∧ W0.cell? ⟨w.heap.size, 7, none⟩ = some (.int .i64 n7) := by
    have q : Below (w.heap.size + 1) (w.alloc (.cells #[.string st, .int .i64 n1, .int .i64 n2, .int .i64 n3, .int .i64 n4, .int .i64 n5, .int .i64 n6, .int .i64 n7] 23)) W0 := by rw [hW0]; exact (Below.refl _ _).alloc (by simp) _
    refine ⟨?_, ?_, ?_, ?_, ?_, ?_, ?_, ?_⟩ <;> (rw [q.cell (by show w.heap.size < _; omega)]; simp)
  have KP0 : W0.cell? ⟨w.heap.size + 1, 0, none⟩ = some (.int .i64 c) ∧ W0.cell? ⟨w.heap.size + 1, 1, none⟩ = some (.int .i64 p) ∧ W0.cell? ⟨w.heap.size + 1, 2, none⟩ = some (.int .i64 e) ∧ W0.cell? ⟨w.heap.size + 1, 3, none⟩ = some (.int .i64 s) := by
    rw [hW0, show w.heap.size + 1 = (w.alloc (.cells #[.string st, .int .i64 n1, .int .i64 n2, .int .i64 n3, .int .i64 n4, .int .i64 n5, .int .i64 n6, .int .i64 n7] 23)).heap.size by simp]
    exact ⟨alloc_cell _ _ _ 0 _ rfl, alloc_cell _ _ _ 1 _ rfl, alloc_cell _ _ _ 2 _ rfl, alloc_cell _ _ _ 3 _ rfl⟩
  have KM : Hid (∀ w', Below W0.heap.size W0 w' → (w'.cell? ⟨w.heap.size, 0, none⟩ = some (.string st) ∧ w'.cell? ⟨w.heap.size, 1, none⟩ = some (.int .i64 n1) ∧ w'.cell? ⟨w.heap.size, 2, none⟩ = some (.int .i64 n2) ∧ w'.cell? ⟨w.heap.size, 3, none⟩ = some (.int .i64 n3) ∧ w'.cell? ⟨w.heap.size, 4, none⟩ = some (.int .i64 n4) ∧ w'.cell? ⟨w.heap.size, 5, none⟩ = some (.int .i64 n5) ∧ w'.cell? ⟨w.heap.size, 6, none⟩ = some (.int .i64 n6) ∧ w'.cell? ⟨w.heap.size, 7, none⟩ = some (.int .i64 n7)) ∧ w.heap.size < w'.heap.size) := fun w' hw => by
    refine ⟨?_, by have := hw.size; omega⟩
    rw [hw.cell (by show w.heap.size < _; omega), hw.cell (by show w.heap.size < _; omega), hw.cell (by show w.heap.size < _; omega), hw.cell (by show w.heap.size < _; omega), hw.cell (by show w.heap.size < _; omega), hw.cell (by show w.heap.size < _; omega), hw.cell (by show w.heap.size < _; omega), hw.cell (by show w.heap.size < _; omega)]
    exact KM0
  have KP : Hid (∀ w', Below W0.heap.size W0 w' → (w'.cell? ⟨w.heap.size + 1, 0, none⟩ = some (.int .i64 c) ∧ w'.cell? ⟨w.heap.size + 1, 1, none⟩ = some (.int .i64 p) ∧ w'.cell? ⟨w.heap.size + 1, 2, none⟩ = some (.int .i64 e) ∧ w'.cell? ⟨w.heap.size + 1, 3, none⟩ = some (.int .i64 s)) ∧ w.heap.size + 1 < w'.heap.size) := fun w' hw => by
    refine ⟨?_, by have := hw.size; omega⟩
    rw [hw.cell (by show w.heap.size + 1 < _; omega), hw.cell (by show w.heap.size + 1 < _; omega), hw.cell (by show w.heap.size + 1 < _; omega), hw.cell (by show w.heap.size + 1 < _; omega)]
    exact KP0
  have FIN : Hid (∀ w', Below W0.heap.size W0 w' → Below w.heap.size w w') := fun w' hw => b0.trans (hw.mono b0.size)
  have T4 : Hid (∀ w', Below W0.heap.size W0 w' → Tab4 0 w') := fun w' h => (hT.below (FIN.out _ h)).four
  have PW : Hid (∀ w', Below W0.heap.size W0 w' → Pow w') := fun w' h => hP.below (FIN.out _ h)
  have FI := hide (fun w' (h : Below W0.heap.size W0 w') => first_any w' (T4.out _ h) (PW.out _ h))
  have LW : Hid (∀ w', Below W0.heap.size W0 w' → 0 < fs.length → LiesC b o w' fs ∧ b < w'.heap.size) := fun w' h z => ⟨hl.below (hb z) (FIN.out _ h), Nat.lt_of_lt_of_le (hb z) (FIN.out _ h).size⟩
  have HSZ : Hid (∀ c ∈ fs, c.2.size ≤ 1048576) := fun c hc => Nat.le_trans (catC_mem hc) hcat
  have TD := hide (fun w' (h : Below W0.heap.size W0 w') => told_any eastS ao b o cap fs w' hao (fun z => (LW.out w' h z).2) (fun i hi => (LW.out w' h (by omega)).1 i hi) hcap hlen (by decide) hnm hcat (hT.below (FIN.out _ h)))
  have PR : Hid (∀ (a : Option Addr) (g c : Nat) (w' : World), (0 < fs.length → a = some ⟨g, 0, none⟩) → LiesR g 0 w' (fs.map rowC) → Below W0.heap.size W0 w' → Calls Tryz.prog 23 #[.agg #[.string eastS, .int .i64 7, .int .i64 3, .slice a fs.length c, .int .i64 (totS (fs.map rowC) : Int), .int .i64 (crcN 0 (catC fs) : Int)]] w' fun x w'' => x = .returned (.tuple #[.string (mfS (toldM eastS fs)), .int .i64 (mfE (toldM eastS fs))]) ∧ Below w'.heap.size w' w'') := fun a g c w' ha hl' hb' => by
    have := printManifest_any (toldM eastS fs) a g 0 c w' (fun z => ha (by simpa [toldM] using z)) hl' (by show eastS.size ≤ _; decide) (fun r hr => by
      obtain ⟨x, hx, rfl⟩ := List.mem_map.1 hr
      have := hnm x hx
      show x.1.size ≤ _
      omega) (by show (fs.map rowC).length ≤ _; rw [List.length_map]; omega) (PW.out _ hb') (T4.out _ hb')
    unfold mfCells toldM at this
    dsimp only at this
    rw [List.length_map] at this
    exact this
  have PAP : Hid (okUp eastS fs fs.length = true → mfE (toldM eastS fs) = 0 ∧ PaperT (mfS (toldM eastS fs)) ∧ (mfS (toldM eastS fs)).size ≤ 1000000000) := fun h => by
    have e0 := told_E h (fun c hc => Nat.le_trans (HSZ.out c hc) (show 1048576 ≤ 1073741824 by omega)) hcat
    exact ⟨e0, .inr (.inl (man_fwd e0).1), mfS_len e0⟩
  have RD := hide (fun (q : ByteArray) (hq : q.size ≤ 1000000000) w' (h : Below W0.heap.size W0 w') => readN_any q w' (by omega) (T4.out _ h))
  have GM := hide (fun w' => goodMeta_any st n1 n2 n3 n4 n5 n6 n7 w' (by omega))
  have GP := hide (fun w' => goodPointer_any c p e s w')
  have GMP : Hid ((lettersB st && inR n1 1 999999 && inR n2 0 15 && inR n3 1 64 && inR n4 1 16 && inR n5 1 16 && inR n6 1 16 && inR n7 0 9007199254740992) = true → ∃ S : ByteArray, (PaperT S ∧ S.size ≤ 1000000000) ∧ ∀ w', Below W0.heap.size W0 w' → Calls Tryz.prog 10 #[.agg #[.string st, .int .i64 n1, .int .i64 n2, .int .i64 n3, .int .i64 n4, .int .i64 n5, .int .i64 n6, .int .i64 n7]] w' fun x w'' => x = .returned (.tuple #[.string S, .int .i64 0]) ∧ Below w'.heap.size w' w'') := fun h => by
    have hm : metaOk st (mN n1 n2 n3 n4 n5 n6 n7) = true := gm_meta h
    refine ⟨metaS st (mN n1 n2 n3 n4 n5 n6 n7), ⟨.inl (meta_fwd hm).1, metaS_small hm hn⟩, fun w' hw => ?_⟩
    have := printMeta_any st (mN n1 n2 n3 n4 n5 n6 n7) (by omega) hn w' (PW.out _ hw) (T4.out _ hw)
    rw [metaE_ok hm] at this
    exact this
  have GPP : Hid (ptrOk c p e s = true → ∃ S : ByteArray, (PaperT S ∧ S.size ≤ 1000000000) ∧ ∀ w', Below W0.heap.size W0 w' → Calls Tryz.prog 14 #[.agg #[.int .i64 c, .int .i64 p, .int .i64 e, .int .i64 s]] w' fun x w'' => x = .returned (.tuple #[.string S, .int .i64 0]) ∧ Below w'.heap.size w' w'') := fun h => by
    refine ⟨ptrS c p e s, ⟨.inr (.inr (ptr_fwd h).1), ptrS_small hc hp he hs⟩, fun w' hw => ?_⟩
    have := printPointer_any c p e s hc hp he hs w' (PW.out _ hw) (T4.out _ hw)
    rw [ptrE_ok h] at this
    exact this
  generalize (lettersB st && inR n1 1 999999 && inR n2 0 15 && inR n3 1 64 && inR n4 1 16 && inR n5 1 16 && inR n6 1 16 && inR n7 0 9007199254740992) = gm at *
  generalize ptrOk c p e s = gp at *
  have RZ := hide (fun (q : ByteArray) (hq : q.size ≤ 1000000000000) (hz : ¬ PaperT q) w' (h : Below W0.heap.size W0 w') => readZ_any q w' hq hz (T4.out _ h))
  have hrl : (fs.map rowC).length = fs.length := List.length_map ..
  have HAO := hide hao
  clear hP hl hb hnm hao KM0 KP0
  go_enter Tryz.func7, Tryz.ntmps7
  go_wp2_with fail
  rw [← hW0]
  go_loopw [13] (fun i wr => ∃ k : Nat, k ≤ fs.length ∧ i = .int .i64 k ∧ Below W0.heap.size W0 wr) (fun i _ => fs.length - (intOf i).toNat)
  case atStart => exact ⟨0, Nat.zero_le _, rfl, Below.refl _ _⟩
  case round =>
    obtain ⟨k, hk, rfl, hnx⟩ := hrel
    by_cases hlt : k < fs.length
    · have hlt' : (k : Int) < (fs.length : Int) := by omega
      obtain rfl := HAO.out (by omega)
      obtain ⟨d1, d2⟩ := (LW.out wr hnx (by omega)).1 k hlt
      have hd := HSZ.out fs[k] (List.getElem_mem hlt)
      have HNX := hide hnx
      clear hnx TD PR PAP
      generalize fs[k] = cc at *
      obtain ⟨nm, dt⟩ := cc
      dsimp only at d1 d2 hd
      have hd' : ¬ (1073741824 : Int) < (dt.size : Int) := by omega
      go_wp2_with fail
      go_roundw
      case rel => exact ⟨k + 1, by omega, by go_num, HNX.out⟩
      case measure => simp [intOf]; omega
    · obtain rfl : k = fs.length := by omega
      have BR := hide hnx
      have D1 := hide (TD.out wr hnx)
      clear hnx TD hlt hk
      go_wp2_with fail
      refine Calls.mono D1.out ?_
      rintro x w1 ⟨v, rfl, o1, bb1⟩
      have B1 := hide (BR.out.trans (bb1.mono BR.out.size))
      rw [← hrl] at o1
      obtain ⟨a1, g1, c1, rfl, hc1, ha1, l1⟩ := own_rows o1
      rw [hrl] at ha1
      have HA1 := hide ha1
      have L1 := hide l1
      rw [hrl]
      clear hc1 hrl bb1 o1 ha1 l1 D1 BR
      obtain ⟨i0, hi, hz0, hz1, hz2⟩ := info_parts info9
      obtain ⟨WM, hWM⟩ : ∃ WM, WM = w1.alloc (.cells #[.string eastS, .int .i64 7, .int .i64 3, .slice a1 fs.length c1, .int .i64 (totS (fs.map rowC) : Int), .int .i64 (crcN 0 (catC fs) : Int)] 52) := ⟨_, rfl⟩
      have bm : Below w1.heap.size w1 WM := by rw [hWM]; exact (Below.refl _ _).alloc (Nat.le_refl _) _
      have BM := hide (B1.out.trans (bm.mono B1.out.size))
      have LM := hide (L1.out.below bm)
      have g0 : WM.cell? ⟨w1.heap.size, 0, none⟩ = some (.string eastS) := by rw [hWM]; simp
      have g1' : WM.cell? ⟨w1.heap.size, 1, none⟩ = some (.int .i64 7) := by rw [hWM]; simp
      have g2 : WM.cell? ⟨w1.heap.size, 2, none⟩ = some (.int .i64 3) := by rw [hWM]; simp
      have g3' : WM.cell? ⟨w1.heap.size, 3, none⟩ = some (.slice a1 fs.length c1) := by rw [hWM]; simp
      have g4 : WM.cell? ⟨w1.heap.size, 4, none⟩ = some (.int .i64 (totS (fs.map rowC) : Int)) := by rw [hWM]; simp
      have g5 : WM.cell? ⟨w1.heap.size, 5, none⟩ = some (.int .i64 (crcN 0 (catC fs) : Int)) := by rw [hWM]; simp
      have PM := hide (PR.out a1 g1 c1 WM HA1.out LM.out BM.out)
      generalize totS (fs.map rowC) = TT at *
      generalize crcN 0 (catC fs) = CC at *
      generalize okUp eastS fs fs.length = OK at *
      generalize mfE (toldM eastS fs) = ME at *
      generalize mfS (toldM eastS fs) = MS at *
      clear PR L1 LM HA1 LW HSZ HAO bm
      unfold eastS at hWM g0 PM ⊢
      go_upto_if 46 with fail
      rw [← hWM]
      clear hWM
      go_cut [17] (fun l wx => ∃ L : List ByteArray, L.length ≤ 1 ∧ Hid (∀ q ∈ L, PaperT q ∧ q.size ≤ 1000000000) ∧ Hid (wx.ownsRow W0.heap.size 9 1 l L.length (L.map Value.string) ∧ Below W0.heap.size W0 wx))
      case first =>
        cases OK with
        | false =>
          go_wp2_with fail
          go_meet
          case rel => exact ⟨[], by simp, (fun q hq => (by cases hq)), World.ownsRow_nil _ _ _ _, BM.out⟩
        | true =>
          obtain ⟨e0, e1⟩ := PAP.out rfl
          subst e0
          have ON : Hid (WM.ownsRow W0.heap.size 9 1 (.slice none 0 0) 0 []) := World.ownsRow_nil _ _ _ _
          go_wp2_with fail
          refine Calls.mono (PM.out) ?_
          rintro x w5 ⟨rfl, b5⟩
          have B5 := hide (BM.out.trans (b5.mono BM.out.size))
          have O5 := hide (own_blw ON.out b5)
          clear b5
          have R1 := hide (RD.out _ e1.2 w5 B5.out)
          rw [rd_one e1.1] at R1
          go_wp2_with (go_at_call 12; refine Calls.mono (pnum_any _ _) ?_; rintro e w' ⟨rfl, rfl⟩)
          refine Calls.mono R1.out ?_
          rintro x w6 ⟨rfl, b6⟩
          have B6 := hide (B5.out.trans (b6.mono B5.out.size))
          have O6 := hide (own_blw O5.out b6)
          have w6s : W0.heap.size ≤ w6.heap.size := B6.out.size
          clear b6 R1 B5 O5
          go_wp2_with (at_builtin; refine wpList_append_own _ rfl _ _ 63 rfl W0.heap.size 9 i0 (.string ByteArray.empty) 1 16 Tryz.underlying63 hi hz0 hz1 hz2 rfl (by decide) _ _ _ rfl (O6.out.alloc _) ⟨w6.heap.size, 0, none⟩ 1 1 [.string MS] rfl rfl (cell_one_new _ _ _) (fun x hx => by simp at hx; subst hx; rfl) (by unfold maxLen; omega) (by omega) (le_alloc w6s) ?_; intro v3 w9 o3 g3 n3; clear n3)
          go_meet
          case rel => exact ⟨[MS], by simp, (fun q hq => (by simp at hq; subst hq; exact e1)), o3, (B6.out.alloc w6s _).grown g3 (le_alloc w6s) (fun j hj => (O6.out.lt j hj).1)⟩
      case rest =>
        obtain ⟨L, hL, HQ, HO⟩ := hcut
        have BC := hide HO.out.2
        have OC := hide HO.out.1
        clear HO
        obtain ⟨ad, m0, c0, rfl⟩ := own_shapeX OC.out
        obtain ⟨⟨d0, d1, d2, d3, d4, d5, d6, d7⟩, dl⟩ := KM.out wc BC.out
        go_upto_if 65 with (go_at_call 9; refine Calls.mono (GM.out _) ?_; rintro x w2 ⟨rfl, b2⟩)
        have B2 := hide (BC.out.trans (b2.mono BC.out.size))
        have O2 := hide (own_blw OC.out b2)
        clear b2 BC OC dl d0 d1 d2 d3 d4 d5 d6 d7
        go_cut [17] (fun l wx => ∃ L : List ByteArray, L.length ≤ 2 ∧ Hid (∀ q ∈ L, PaperT q ∧ q.size ≤ 1000000000) ∧ Hid (wx.ownsRow W0.heap.size 9 1 l L.length (L.map Value.string) ∧ Below W0.heap.size W0 wx))
        case first =>
          cases gm with
          | false =>
            go_wp2_with fail
            go_meet
            case rel => exact ⟨L, by omega, HQ.out, O2.out, B2.out⟩
          | true =>
            obtain ⟨S, e1, PX⟩ := GMP.out rfl
            have PX := hide PX
            obtain ⟨⟨d0, d1, d2, d3, d4, d5, d6, d7⟩, dl⟩ := KM.out w2 B2.out
            go_wp2_with fail
            refine Calls.mono (PX.out _ B2.out) ?_
            rintro x w5 ⟨rfl, b5⟩
            have B5 := hide (B2.out.trans (b5.mono B2.out.size))
            have O5 := hide (own_blw O2.out b5)
            clear b5 dl d0 d1 d2 d3 d4 d5 d6 d7
            have R1 := hide (RD.out _ e1.2 w5 B5.out)
            rw [rd_one e1.1] at R1
            go_wp2_with (go_at_call 12; refine Calls.mono (pnum_any _ _) ?_; rintro e w' ⟨rfl, rfl⟩)
            refine Calls.mono R1.out ?_
            rintro x w6 ⟨rfl, b6⟩
            have B6 := hide (B5.out.trans (b6.mono B5.out.size))
            have O6 := hide (own_blw O5.out b6)
            have w6s : W0.heap.size ≤ w6.heap.size := B6.out.size
            clear b6 R1 B5 O5
            go_wp2_with (at_builtin; refine wpList_append_own _ rfl _ _ 63 rfl W0.heap.size 9 i0 (.string ByteArray.empty) 1 16 Tryz.underlying63 hi hz0 hz1 hz2 rfl (by decide) _ _ _ rfl (O6.out.alloc _) ⟨w6.heap.size, 0, none⟩ 1 1 [.string S] rfl rfl (cell_one_new _ _ _) (fun x hx => by simp at hx; subst hx; rfl) (by unfold maxLen; omega) (by omega) (le_alloc w6s) ?_; intro v3 w9 o3 g3 n3; clear n3)
            have OE := hide (own_snoc o3)
            go_meet
            case rel => exact ⟨L ++ [S], by rw [List.length_append]; simp; omega, (fun q hq => (by rcases List.mem_append.1 hq with hq | hq; exact HQ.out q hq; rw [List.mem_singleton] at hq; subst hq; exact e1)), OE.out, (B6.out.alloc w6s _).grown g3 (le_alloc w6s) (fun j hj => (O6.out.lt j hj).1)⟩
        case rest =>
          obtain ⟨L, hL, HQ, HO⟩ := hcut
          have BC := hide HO.out.2
          have OC := hide HO.out.1
          clear HO
          obtain ⟨ad, m0, c0, rfl⟩ := own_shapeX OC.out
          obtain ⟨⟨d0, d1, d2, d3⟩, dl⟩ := KP.out wc BC.out
          go_upto_if 84 with (go_at_call 13; refine Calls.mono (GP.out _) ?_; rintro x w2 ⟨rfl, b2⟩)
          have B2 := hide (BC.out.trans (b2.mono BC.out.size))
          have O2 := hide (own_blw OC.out b2)
          clear b2 BC OC dl d0 d1 d2 d3
          go_cut [17] (fun l wx => ∃ L : List ByteArray, L.length ≤ 3 ∧ Hid (∀ q ∈ L, PaperT q ∧ q.size ≤ 1000000000) ∧ Hid (wx.ownsRow W0.heap.size 9 1 l L.length (L.map Value.string) ∧ Below W0.heap.size W0 wx))
          case first =>
            cases gp with
            | false =>
              go_wp2_with fail
              go_meet
              case rel => exact ⟨L, by omega, HQ.out, O2.out, B2.out⟩
            | true =>
              obtain ⟨S, e1, PX⟩ := GPP.out rfl
              have PX := hide PX
              obtain ⟨⟨d0, d1, d2, d3⟩, dl⟩ := KP.out w2 B2.out
              go_wp2_with fail
              refine Calls.mono (PX.out _ B2.out) ?_
              rintro x w5 ⟨rfl, b5⟩
              have B5 := hide (B2.out.trans (b5.mono B2.out.size))
              have O5 := hide (own_blw O2.out b5)
              clear b5 dl d0 d1 d2 d3
              have R1 := hide (RD.out _ e1.2 w5 B5.out)
              rw [rd_one e1.1] at R1
              go_wp2_with (go_at_call 12; refine Calls.mono (pnum_any _ _) ?_; rintro e w' ⟨rfl, rfl⟩)
              refine Calls.mono R1.out ?_
              rintro x w6 ⟨rfl, b6⟩
              have B6 := hide (B5.out.trans (b6.mono B5.out.size))
              have O6 := hide (own_blw O5.out b6)
              have w6s : W0.heap.size ≤ w6.heap.size := B6.out.size
              clear b6 R1 B5 O5
              go_wp2_with (at_builtin; refine wpList_append_own _ rfl _ _ 63 rfl W0.heap.size 9 i0 (.string ByteArray.empty) 1 16 Tryz.underlying63 hi hz0 hz1 hz2 rfl (by decide) _ _ _ rfl (O6.out.alloc _) ⟨w6.heap.size, 0, none⟩ 1 1 [.string S] rfl rfl (cell_one_new _ _ _) (fun x hx => by simp at hx; subst hx; rfl) (by unfold maxLen; omega) (by omega) (le_alloc w6s) ?_; intro v3 w9 o3 g3 n3; clear n3)
              have OE := hide (own_snoc o3)
              go_meet
              case rel => exact ⟨L ++ [S], by rw [List.length_append]; simp; omega, (fun q hq => (by rcases List.mem_append.1 hq with hq | hq; exact HQ.out q hq; rw [List.mem_singleton] at hq; subst hq; exact e1)), OE.out, (B6.out.alloc w6s _).grown g3 (le_alloc w6s) (fun j hj => (O6.out.lt j hj).1)⟩
          case rest =>
            obtain ⟨L, hL, HQ, HO⟩ := hcut
            have BC := hide HO.out.2
            have OC := hide HO.out.1
            clear HO KM KP GM GP GMP GPP
            obtain ⟨ad, m0, c0, rfl⟩ := own_shapeX OC.out
            have HLN := hide (own_len OC.out)
            have HAD := hide (own_some OC.out)
            go_wp2_with fail
            go_loopw [24] (fun i wr => ∃ k : Nat, k ≤ L.length ∧ i = .int .i64 k ∧ Hid (wr.ownsRow W0.heap.size 9 1 (.slice ad m0 c0) L.length (L.map Value.string) ∧ Below W0.heap.size W0 wr)) (fun i _ => L.length - (intOf i).toNat)
            case atStart => exact ⟨0, Nat.zero_le _, rfl, OC.out, BC.out⟩
            case round =>
              obtain ⟨k, hk, rfl, H⟩ := hrel
              obtain rfl := HLN.out
              by_cases hlt : k < L.length
              · have hlt' : (k : Int) < (L.length : Int) := by omega
                obtain ⟨g, hg⟩ := HAD.out (by omega)
                subst hg
                have hcell := own_lies H.out.1 k L[k] (List.getElem?_eq_getElem hlt)
                rw [Nat.zero_add] at hcell
                obtain ⟨q1, q2⟩ := HQ.out L[k] (List.getElem_mem hlt)
                have BR := hide H.out.2
                have OR := hide H.out.1
                generalize L[k] = S at *
                have hpos : 0 < S.size := by obtain ⟨z, hz⟩ := paper_cls q1; have := cls_13 hz; omega
                have SPO := hide (fun w' => spoilt_any S a by_ w' hpos (by omega))
                have NS : Hid (∀ (t : ByteArray) (cc : UInt8), t.data.toList = S.data.toList.set (pl a S.size) cc → S.data.toList[pl a S.size]? ≠ some cc → ¬ PaperT t ∧ t.size ≤ 1000000000000) := fun t cc e1 e2 => by
                  have hi : pl a S.size < S.size := by
                    have := Int.emod_lt_of_pos a (show (0 : Int) < (S.size : Int) by omega)
                    have := Int.emod_nonneg a (show (S.size : Int) ≠ 0 by omega)
                    unfold pl; omega
                  refine ⟨fun h => spoil_not e1 hi e2 q1 h, ?_⟩
                  have := congrArg List.length e1
                  rw [List.length_set, size_data, size_data] at this
                  omega
                obtain ⟨t1, t2, t3, t4, t5, t6, t7⟩ := tmod_round a S.size (by omega)
                have hpI : a % (S.size : Int) = ((pl a S.size : Nat) : Int) := by unfold pl; exact (Int.toNat_of_nonneg t2).symm
                rw [hpI] at t1 t3
                have hIs : pl a S.size < S.size := by omega
                have NC : Hid (¬ PaperT (S.extract 0 (pl a S.size)) ∧ (S.extract 0 (pl a S.size)).size ≤ 1000000000000) := by
                  refine ⟨fun h => ?_, by rw [ByteArray.size_extract]; omega⟩
                  have e : S.data.toList = (S.extract 0 (pl a S.size)).data.toList ++ S.data.toList.drop (pl a S.size) := by
                    rw [Lib.extract_data]
                    simp only [Nat.sub_zero, List.drop_zero]
                    rw [List.take_append_drop]
                  have := two_papers e h q1
                  have h2 := congrArg List.length this
                  rw [List.length_drop, size_data] at h2
                  simp at h2
                  omega
                have NM : Hid (¬ more.size = 0 → ¬ PaperT (S ++ more) ∧ (S ++ more).size ≤ 1000000000000) := fun hz => by
                  refine ⟨fun h => ?_, by rw [ByteArray.size_append]; omega⟩
                  have e : (S ++ more).data.toList = S.data.toList ++ more.data.toList := ba_app _ _
                  have := two_papers e q1 h
                  have h2 := congrArg List.length this
                  rw [size_data] at h2
                  exact hz h2
                clear q1 hpI t2 H
                generalize pl a S.size = I at *
                go_wp2_with fail
                refine Calls.mono (SPO.out wr) ?_
                rintro x w2 ⟨t, cc, rfl, e1, e2, b2⟩
                obtain ⟨z1, z2⟩ := NS.out t cc e1 e2
                have B2 := hide (BR.out.trans (b2.mono BR.out.size))
                have O2 := hide (own_blw OR.out b2)
                have R2 := hide (RZ.out t z2 z1 w2 B2.out)
                clear b2 e1 e2 z1 z2 NS SPO
                go_wp2_with fail
                refine Calls.mono R2.out ?_
                rintro x w3 ⟨rfl, b3⟩
                have B3 := hide (B2.out.trans (b3.mono B2.out.size))
                have O3 := hide (own_blw O2.out b3)
                have R3 := hide (RZ.out _ NC.out.2 NC.out.1 w3 B3.out)
                clear b3 R2 B2 O2 NC
                have hIi : (I : Int) < (S.size : Int) := by omega
                have hs0 : ¬ (S.size : Int) = 0 := by omega
                go_wp2_with fail
                refine Calls.mono R3.out ?_
                rintro x w4 ⟨rfl, b4⟩
                have B4 := hide (B3.out.trans (b4.mono B3.out.size))
                have O4 := hide (own_blw O3.out b4)
                clear b4 R3 B3 O3 OR BR hcell
                by_cases hmz : more.size = 0
                · have hme : more.toList.isEmpty = true := by
                    rw [toList_data, List.length_eq_zero_iff.1 (show more.data.toList.length = 0 by rw [size_data]; exact hmz)]; rfl
                  clear hmz NM
                  go_wp2_with fail
                  go_roundw
                  case rel => exact ⟨k + 1, by omega, by go_num, O4.out, B4.out⟩
                  case measure => simp [intOf]; omega
                · have hme : more.toList.isEmpty = false := by
                    rw [toList_data, List.isEmpty_eq_false_iff]
                    intro h; apply hmz; rw [← size_data, h]; rfl
                  have R5 := hide (RZ.out _ (NM.out hmz).2 (NM.out hmz).1 w4 B4.out)
                  have hcm : S.size + more.size ≤ 140737488355328 := by omega
                  clear hmz NM
                  go_wp2_with fail
                  refine Calls.mono R5.out ?_
                  rintro x w5 ⟨rfl, b5⟩
                  have B5 := hide (B4.out.trans (b5.mono B4.out.size))
                  have O5 := hide (own_blw O4.out b5)
                  clear b5 R5 B4 O4
                  go_wp2_with fail
                  go_roundw
                  case rel => exact ⟨k + 1, by omega, by go_num, O5.out, B5.out⟩
                  case measure => simp [intOf]; omega
              · have BR := hide H.out.2
                have hlt' : ¬ (k : Int) < (L.length : Int) := by omega
                clear H
                go_wp2_with fail
                refine Calls.mono (FI.out _ BR.out) ?_
                rintro x w2 ⟨rfl, b2⟩
                have B2 := hide (FIN.out _ (BR.out.trans (b2.mono BR.out.size)))
                clear b2
                go_wp2_with fail
                go_ret
                exact ⟨rfl, B2.out⟩
end Go.Proofs.YtfpalfpfijcpbaaGreatDoor
