import Derived.Test.YtbcpfekbnkkflaaDoorGPaSeal
import Derived.Test.YtbcpfekbnkkflaaDoorGPnPrint
namespace Go.Proofs.YtbcpfekbnkkflaaDoor
open Go.RowKit Go.Shelf
set_option maxHeartbeats 1000000 in
set_option maxRecDepth 100000 in
theorem rin_any (n lo hi : Int) (w : World) :
    Calls Tryd.prog 22 #[.int .i64 n, .int .i64 lo, .int .i64 hi] w fun e w' => e = .returned (.bool (inR n lo hi)) ∧ w = w' := by
  obtain ⟨B, hB⟩ : ∃ B, B = inR n lo hi := ⟨_, rfl⟩
  rw [← hB]
  unfold inR at hB
  have HB := hide hB
  clear hB
  by_cases h : lo ≤ n
  · go_enter Tryd.func22, Tryd.ntmps22
    go_wp2
    go_ret
    refine ⟨ret_bool ?_, rfl⟩
    rw [HB.out, decide_eq_true h]; rfl
  · go_enter Tryd.func22, Tryd.ntmps22
    go_wp2
    go_ret
    refine ⟨ret_bool ?_, rfl⟩
    rw [HB.out, decide_eq_false (by omega)]; rfl
theorem ret_i {a b : Int} (h : a = b) : Ending.returned (.int .i64 a) = .returned (.int .i64 b) := by rw [h]
set_option maxHeartbeats 2000000 in
set_option maxRecDepth 100000 in
theorem rpointerFields_any (c p e s : Int) (w : World) :
    Calls Tryd.prog 32 #[.agg #[.int .i64 c, .int .i64 p, .int .i64 e, .int .i64 s]] w fun x w' => x = .returned (.int .i64 (ptrE c p e s)) ∧ Below w.heap.size w w' := by
  have hb : Hid (Below w.heap.size w (w.alloc (.cells #[.int .i64 c, .int .i64 p, .int .i64 e, .int .i64 s] 42))) := (Below.refl _ _).alloc (Nat.le_refl _) _
  obtain ⟨B, hB⟩ : ∃ B, B = ptrE c p e s := ⟨_, rfl⟩
  rw [← hB]
  unfold ptrE ptrOk at hB
  have HB := hide hB
  clear hB
  cases h1 : inR c 0 999999 with
  | false =>
    go_enter Tryd.func32, Tryd.ntmps32
    go_wp2_with (go_at_call 22; refine Calls.mono (rin_any _ _ _ _) ?_; rintro e w' ⟨rfl, rfl⟩)
    go_ret
    exact ⟨ret_i (by rw [HB.out, h1]; rfl), hb.out⟩
  | true =>
    cases h2 : inR p 0 999999 with
    | false =>
      go_enter Tryd.func32, Tryd.ntmps32
      go_wp2_with (go_at_call 22; refine Calls.mono (rin_any _ _ _ _) ?_; rintro e w' ⟨rfl, rfl⟩)
      go_ret
      exact ⟨ret_i (by rw [HB.out, h1, h2]; rfl), hb.out⟩
    | true =>
      cases h3 : inR e 0 9007199254740992 with
      | false =>
        go_enter Tryd.func32, Tryd.ntmps32
        go_wp2_with (go_at_call 22; refine Calls.mono (rin_any _ _ _ _) ?_; rintro e w' ⟨rfl, rfl⟩)
        go_ret
        exact ⟨ret_i (by rw [HB.out, h1, h2, h3]; rfl), hb.out⟩
      | true =>
        cases h4 : inR s 0 9007199254740992 with
        | false =>
          go_enter Tryd.func32, Tryd.ntmps32
          go_wp2_with (go_at_call 22; refine Calls.mono (rin_any _ _ _ _) ?_; rintro e w' ⟨rfl, rfl⟩)
          go_ret
          exact ⟨ret_i (by rw [HB.out, h1, h2, h3, h4]; rfl), hb.out⟩
        | true =>
          go_enter Tryd.func32, Tryd.ntmps32
          go_wp2_with (go_at_call 22; refine Calls.mono (rin_any _ _ _ _) ?_; rintro e w' ⟨rfl, rfl⟩)
          go_ret
          exact ⟨ret_i (by rw [HB.out, h1, h2, h3, h4]; rfl), hb.out⟩
theorem wrap64_in {x : Int} (h0 : 0 ≤ x) (h1 : x < 9223372036854775808) : wrap64 x = x := by
  unfold wrap64
  omega
theorem one_of {x : Value} (hx : x.oneCell' = true) : ∀ u ∈ [x], u.oneCell' = true := by
  intro u hu; simp at hu; subst hu; exact hx
/-- the first j of the eight digits -/
def eightL (n j : Nat) : List UInt8 := (List.range j).map fun t => hd (n / 16 ^ (7 - t) % 16)
theorem eightL_succ (n j : Nat) : eightL n (j + 1) = eightL n j ++ [hd (n / 16 ^ (7 - j) % 16)] := by
  unfold eightL; rw [List.range_succ, List.map_append]; rfl
theorem eightL_len (n j : Nat) : (eightL n j).length = j := by simp [eightL]
theorem eightL_all (n : Nat) (h : n < 4294967296) : eightL n 8 = hexL (be4 n) := by
  have e : ∀ m : Nat, (UInt8.ofNat m).toNat = m % 256 := fun m => by simp
  simp only [eightL, List.range, List.range.loop, List.map_cons, List.map_nil, be4, hexL, e]
  simp only [show (7 - 0 : Nat) = 7 from rfl, show (7 - 1 : Nat) = 6 from rfl, show (7 - 2 : Nat) = 5 from rfl, show (7 - 3 : Nat) = 4 from rfl, show (7 - 4 : Nat) = 3 from rfl, show (7 - 5 : Nat) = 2 from rfl, show (7 - 6 : Nat) = 1 from rfl, show (7 - 7 : Nat) = 0 from rfl, Nat.reducePow]
  congr 1
  · congr 1; omega
  · congr 1
    · congr 1; omega
    · congr 1
      · congr 1; omega
      · congr 1
        · congr 1; omega
        · congr 1
          · congr 1; omega
          · congr 1
            · congr 1; omega
            · congr 1
              · congr 1; omega
              · congr 1; congr 1; omega
set_option maxHeartbeats 4000000 in
set_option maxRecDepth 100000 in
theorem eight_any (n : Nat) (hn : n < 4294967296) (w : World) :
    Calls Tryd.prog 24 #[.int .i64 (n : Int)] w fun e w' => e = .returned (.string (strOf (hexL (be4 n)))) ∧ Below w.heap.size w w' := by
  obtain ⟨i0, hi, hz0, hz1, hz2⟩ := info_parts info5
  rw [← eightL_all n hn]
  go_enter Tryd.func24, Tryd.ntmps24
  go_wp2_with fail
  go_loopw [3, 4, 5, 6] (fun v i _ _ wr => ∃ j : Nat, j ≤ 8 ∧ i = .int .i64 (7 - (j : Int)) ∧ Hid (wr.ownsRow w.heap.size 5 1 v j ((eightL n j).map ub) ∧ Below w.heap.size w wr)) (fun _ i _ _ _ => (intOf i + 1).toNat)
  case atStart => exact ⟨0, by omega, rfl, World.ownsRow_nil _ _ _ _, Below.refl _ _⟩
  case round =>
    obtain ⟨j, hj, rfl, H⟩ := hrel
    by_cases hlt : j < 8
    · have hg : (0 : Int) ≤ 7 - (j : Int) := by omega
      go_wp2_with fail
      go_loop [5, 6] (fun p k => ∃ t : Nat, t ≤ 7 - j ∧ k = .int .i64 (t : Int) ∧ p = .int .i64 ((16 ^ t : Nat) : Int)) (fun _ k => 7 - (intOf k).toNat)
      case atStart => exact ⟨0, Nat.zero_le _, rfl, rfl⟩
      case round =>
        obtain ⟨t, ht, rfl, rfl⟩ := hrel
        have hp7 : 16 ^ t ≤ 268435456 := Nat.le_trans (Nat.pow_le_pow_right (by omega) (show t ≤ 7 by omega)) (by decide)
        have hps : Hid (16 ^ (t + 1) = 16 * 16 ^ t) := by show _ = _; rw [Nat.pow_succ]; omega
        have hpp : 0 < 16 ^ t := Nat.pow_pos (by omega)
        by_cases htl : t < 7 - j
        · generalize 16 ^ t = PW at *
          have hc : (t : Int) < 7 - (j : Int) := by omega
          go_wp2_with fail
          go_round
          case rel => exact ⟨t + 1, by omega, by go_num, by rw [hps.out]; go_num⟩
          case measure => simp [intOf]; omega
        · obtain rfl : t = 7 - j := by omega
          have hc : ¬ (((7 - j : Nat) : Int) < 7 - (j : Int)) := by omega
          have HE := hide (eightL_succ n j)
          generalize 16 ^ (7 - j) = PW at *
          have hq : wrap64 ((n : Int) / (PW : Int)) = ((n / PW : Nat) : Int) := by
            have e1 : (n : Int) / (PW : Int) = ((n / PW : Nat) : Int) := by simp
            have e2 : n / PW ≤ n := Nat.div_le_self n PW
            have e3 : (0 : Int) ≤ ((n / PW : Nat) : Int) := Int.natCast_nonneg _
            have e4 : ((n / PW : Nat) : Int) ≤ (n : Int) := by exact_mod_cast e2
            rw [e1]
            generalize ((n / PW : Nat) : Int) = Z at *
            exact wrap64_in (by omega) (by omega)
          have hQ : n / PW < 4294967296 := Nat.lt_of_le_of_lt (Nat.div_le_self n PW) hn
          generalize n / PW = Q at *
          have hd1 : ∀ w', (Instr.index 9 (.string ⟨#[48, 49, 50, 51, 52, 53, 54, 55, 56, 57, 97, 98, 99, 100, 101, 102]⟩) (.int .i64 ((Q : Int) % 16))).run Tryd.prog w' = .ok (.int .u8 ((hd (Q % 16)).toNat : Int)) w' := fun w' => by
            have := ix_digs w' (Q % 16) (by omega) .i64
            rwa [show ((Q % 16 : Nat) : Int) = (Q : Int) % 16 by omega] at this
          obtain ⟨hown, hnx⟩ := H.out
          have hsize := hnx.size
          go_wp2_with (at_builtin; refine wpList_append_own _ rfl (.tmp 18) (.tmp 24) 59 rfl w.heap.size 5 i0 (.int .u8 0) 1 1 Tryd.underlying59 hi hz0 hz1 hz2 rfl (by decide) _ _ _ rfl (hown.alloc _) ⟨wr.heap.size, 0, none⟩ 1 1 [.int .u8 (hd (Q % 16)).toNat] rfl rfl (cell_one_new _ _ _) (one_of rfl) (by unfold maxLen; omega) (by omega) (by simp; omega) ?_; intro v1 w2 hown2 hgrow2 hnil2)
          have H2 : Hid (w2.ownsRow w.heap.size 5 1 v1 (j + 1) ((eightL n (j + 1)).map ub) ∧ Below w.heap.size w w2) := by
            refine ⟨?_, (hnx.alloc hsize _).grown hgrow2 (by simp; omega) (fun j hj => (hown.lt j hj).1)⟩
            rw [HE.out, List.map_append]
            exact hown2
          clear hown2 hgrow2 hnil2 hown hnx H
          go_roundw
          case rel => exact ⟨j + 1, by omega, by go_num, H2⟩
          case measure => simp [intOf]; omega
    · obtain rfl : j = 8 := by omega
      have hc := own_conv (P := Tryd.prog) (src := 59) (dst := 9) H.out.1 (by rw [eightL_len]) Tryd.underlying59 Tryd.underlying5 Tryd.underlying9
      go_wp2_with fail
      go_ret
      exact ⟨rfl, H.out.2⟩
end Go.Proofs.YtbcpfekbnkkflaaDoor
namespace Go.Proofs.YtbcpfekbnkkflaaDoor
open Go.RowKit Go.Shelf
theorem strOf_append (a b : List UInt8) : strOf (a ++ b) = strOf a ++ strOf b := by
  rw [← strOf_toList (strOf a ++ strOf b)]
  congr 1
theorem ba_eq {a b : ByteArray} (h : a.data.toList = b.data.toList) : a = b := by rw [← strOf_toList a, h, strOf_toList]
theorem ba_app (a b : ByteArray) : (a ++ b).data.toList = a.data.toList ++ b.data.toList := by simp
theorem seal_eq (s : ByteArray) (c : Nat) : s ++ ⟨#[115, 117, 109, 32]⟩ ++ strOf (hexL (be4 c)) ++ ⟨#[10]⟩ = s ++ strOf (sealL sumWd c) := by
  apply ba_eq
  simp only [ba_app, strOf_data, sealL, List.append_assoc]
  rfl
theorem ret_s {a b : ByteArray} (h : a = b) : Ending.returned (.string a) = .returned (.string b) := by rw [h]
set_option maxHeartbeats 1000000 in
set_option maxRecDepth 100000 in
theorem closed_any (s : ByteArray) (w : World) (hs : s.size ≤ 70368744177664) :
    Calls Tryd.prog 33 #[.string s] w fun e w' => e = .returned (.string (s ++ strOf (sealL sumWd (crcN 0 s.data.toList)))) ∧ Below w.heap.size w w' := by
  have C1 := hide (rcrc_any s w (by omega))
  have hlt : crcN 0 s.data.toList < 4294967296 := crcN_lt _ (by omega)
  have C2 := hide (fun w' => eight_any (crcN 0 s.data.toList) hlt w')
  have HE := hide (seal_eq s (crcN 0 s.data.toList))
  have hE : (strOf (hexL (be4 (crcN 0 s.data.toList)))).size = 8 := by rw [strOf_size, hexL_len]; rfl
  generalize strOf (sealL sumWd (crcN 0 s.data.toList)) = SL at *
  generalize strOf (hexL (be4 (crcN 0 s.data.toList))) = E at *
  generalize crcN 0 s.data.toList = c at *
  go_enter Tryd.func33, Tryd.ntmps33
  go_wp2_with fail
  refine Calls.mono C1.out ?_
  rintro e w1 ⟨rfl, rfl⟩
  go_wp2_with fail
  refine Calls.mono (C2.out _) ?_
  rintro e w2 ⟨rfl, b2⟩
  have hE2 : (s ++ ⟨#[115, 117, 109, 32]⟩).size + E.size ≤ 9223372036854775807 := by rw [ByteArray.size_append, hE]; show s.size + 4 + 8 ≤ _; omega
  go_wp2_with fail
  go_ret
  exact ⟨ret_s HE.out, b2⟩
def pS1 : ByteArray := ⟨#[103, 114, 97, 110, 97, 114, 121, 32, 108, 97, 116, 101, 115, 116, 32, 49, 10, 99, 117, 114, 32]⟩
def pS2 : ByteArray := ⟨#[10, 112, 114, 101, 118, 32]⟩
def pS3 : ByteArray := ⟨#[10, 101, 112, 111, 99, 104, 32]⟩
def pS4 : ByteArray := ⟨#[10, 115, 101, 113, 32]⟩
theorem ptr_eq (c p e s : Int) : pS1 ++ itS c ++ pS2 ++ itS p ++ pS3 ++ itS e ++ pS4 ++ itS s ++ nl = ptrTitle ++ strOf (ptrL c p e s) := by
  apply ba_eq
  simp only [ba_app, strOf_data, itS, ptrL, List.append_assoc]
  rfl
set_option maxHeartbeats 4000000 in
set_option maxRecDepth 100000 in
set_option linter.unusedSimpArgs false in
/-- the document's PrintPointer -/
theorem rprintPointer_any (c p e s : Int) (hc : I64 c) (hp : I64 p) (he : I64 e) (hs : I64 s) (w : World) (hP : Pow w) :
    Calls Tryd.prog 16 #[.agg #[.int .i64 c, .int .i64 p, .int .i64 e, .int .i64 s]] w fun x w' => x = .returned (.tuple #[.string (ptrS c p e s), .int .i64 (ptrE c p e s)]) ∧ Below w.heap.size w w' := by
  obtain ⟨W0, hW0⟩ : ∃ W0, W0 = w.alloc (.cells #[.int .i64 c, .int .i64 p, .int .i64 e, .int .i64 s] 42) := ⟨_, rfl⟩
  have b0 : Below w.heap.size w W0 := by rw [hW0]; exact (Below.refl _ w).alloc (Nat.le_refl _) _
  have s0 : w.heap.size < W0.heap.size := by rw [hW0]; simp
  have C := hide (rpointerFields_any c p e s W0)
  cases hok : ptrOk c p e s with
  | false =>
    have e1 : ptrE c p e s = 42 := by unfold ptrE; rw [hok]; rfl
    have e2 : ptrS c p e s = ⟨#[]⟩ := by unfold ptrS; rw [hok]; rfl
    rw [e1] at C
    rw [e1, e2]
    have B0 := hide b0
    clear b0 s0 hP
    go_enter Tryd.func16, Tryd.ntmps16
    go_wp2_with fail
    rw [← hW0]
    clear hW0
    refine Calls.mono C.out ?_
    rintro x w1 ⟨rfl, b1⟩
    have B1 := hide (B0.out.trans (b1.mono B0.out.size))
    clear b1 C
    go_wp2_with fail
    go_ret2
    exact ⟨rfl, B1.out⟩
  | true =>
    have e1 : ptrE c p e s = 0 := by unfold ptrE; rw [hok]; rfl
    have e2 : ptrS c p e s = (ptrTitle ++ strOf (ptrL c p e s)) ++ strOf (sealL sumWd (crcN 0 (ptrTitle ++ strOf (ptrL c p e s)).data.toList)) := by unfold ptrS; rw [hok]; rfl
    rw [e1] at C
    rw [e1, e2, ← ptr_eq]
    have Q0 : Hid (∀ w', Below W0.heap.size W0 w' → w'.cell? ⟨w.heap.size, 0, none⟩ = some (.int .i64 c) ∧ w'.cell? ⟨w.heap.size, 1, none⟩ = some (.int .i64 p) ∧ w'.cell? ⟨w.heap.size, 2, none⟩ = some (.int .i64 e) ∧ w'.cell? ⟨w.heap.size, 3, none⟩ = some (.int .i64 s)) := fun w' hb => by
      rw [hb.cell (by exact s0), hb.cell (by exact s0), hb.cell (by exact s0), hb.cell (by exact s0), hW0]
      exact ⟨by simp, by simp, by simp, by simp⟩
    have IT : Hid (∀ (n : Int) (hn : I64 n) w', Below W0.heap.size W0 w' → Calls Tryd.prog 23 #[.int .i64 n] w' fun x w'' => x = .returned (.string (itS n)) ∧ Below w'.heap.size w' w'') := fun n hn w' hb => (Tryd.strconv_Itoa n hn.1 hn.2 w' ((hP.below b0).below hb)).mono fun x w'' ⟨h1, k, os, h2⟩ => ⟨h1, by rw [h2]; exact below_grow w' k os⟩
    have z1 : (itS c).size ≤ 20 := by unfold itS; rw [strOf_size]; exact itoa_len c hc.1 hc.2
    have z2 : (itS p).size ≤ 20 := by unfold itS; rw [strOf_size]; exact itoa_len p hp.1 hp.2
    have z3 : (itS e).size ≤ 20 := by unfold itS; rw [strOf_size]; exact itoa_len e he.1 he.2
    have z4 : (itS s).size ≤ 20 := by unfold itS; rw [strOf_size]; exact itoa_len s hs.1 hs.2
    have I1 := hide (IT.out c hc)
    have I2 := hide (IT.out p hp)
    have I3 := hide (IT.out e he)
    have I4 := hide (IT.out s hs)
    have y1 : pS1.size = 21 := rfl
    have y2 : pS2.size = 6 := rfl
    have y3 : pS3.size = 7 := rfl
    have y4 : pS4.size = 5 := rfl
    have y5 : nl.size = 1 := rfl
    generalize itS c = X1 at *
    generalize itS p = X2 at *
    generalize itS e = X3 at *
    generalize itS s = X4 at *
    obtain ⟨Y, hY⟩ : ∃ Y, Y = pS1 ++ X1 ++ pS2 ++ X2 := ⟨_, rfl⟩
    have hYs : Y.size ≤ 67 := by rw [hY]; simp only [ByteArray.size_append]; omega
    rw [← hY]
    obtain ⟨Z, hZ⟩ : ∃ Z, Z = Y ++ pS3 ++ X3 ++ pS4 ++ X4 ++ nl := ⟨_, rfl⟩
    have hZs : Z.size ≤ 200 := by rw [hZ]; simp only [ByteArray.size_append]; omega
    rw [← hZ]
    have HY := hide hY
    have HZ := hide hZ
    clear hY hZ
    have CL := hide (fun w' => closed_any Z w' (by omega))
    have B0 := hide b0
    clear b0 s0 hP IT hc hp he hs hok e1 e2
    go_enter Tryd.func16, Tryd.ntmps16
    go_wp2_with fail
    rw [← hW0]
    clear hW0
    refine Calls.mono C.out ?_
    rintro x w1 ⟨rfl, b1⟩
    have B1 := hide b1
    clear b1 C
    go_wp2_with fail
    refine wp_region_held_drew (S := fun w' => w'.cell? ⟨w.heap.size, 0, none⟩ = some (.int .i64 c) ∧ w'.cell? ⟨w.heap.size, 1, none⟩ = some (.int .i64 p) ∧ w'.cell? ⟨w.heap.size, 2, none⟩ = some (.int .i64 e) ∧ w'.cell? ⟨w.heap.size, 3, none⟩ = some (.int .i64 s)) (by kernel_rfl) (Q0.out _ B1.out.drew) (fun hHeld => ?_)
    refine wpAnyH_take (i := 0) (v := (.pointer (some ⟨w.heap.size, 0, none⟩))) rfl (by kernel_rfl) (by kernel_rfl) (by kernel_rfl) (fun _ _ _ h => h) (Or.inl ⟨by rfl, ?_⟩) (by assumption) ?_
    · intro w' hSw
      (try dsimp only at hSw)
      go_simp <;> first | exact i64_in (by omega) (by omega) | exact u32_in (by omega) (by omega) | exact u32_add _ _ | (rw [Int.tmod_eq_emod_of_nonneg (by omega)]; omega) | (rw [Int.tdiv_eq_ediv_of_nonneg (by omega)]; omega) | omega
    (try simp only [Act.put, List.setIfInBounds_toArray, List.set_cons_zero, List.set_cons_succ])
    refine wpAnyH_take (i := 1) (v := (.int .i64 c)) rfl (by kernel_rfl) (by kernel_rfl) (by kernel_rfl) (fun _ _ _ h => h) (Or.inl ⟨by rfl, ?_⟩) (by assumption) ?_
    · intro w' hSw
      (try dsimp only at hSw)
      (obtain ⟨hS1, hS2, hS3, hS4⟩ := hSw; go_simp)
    (try simp only [Act.put, List.setIfInBounds_toArray, List.set_cons_zero, List.set_cons_succ])
    refine wpAnyH_take (i := 5) (v := (.pointer (some ⟨w.heap.size, 1, none⟩))) rfl (by kernel_rfl) (by kernel_rfl) (by kernel_rfl) (fun _ _ _ h => h) (Or.inl ⟨by rfl, ?_⟩) (by assumption) ?_
    · intro w' hSw
      (try dsimp only at hSw)
      go_simp <;> first | exact i64_in (by omega) (by omega) | exact u32_in (by omega) (by omega) | exact u32_add _ _ | (rw [Int.tmod_eq_emod_of_nonneg (by omega)]; omega) | (rw [Int.tdiv_eq_ediv_of_nonneg (by omega)]; omega) | omega
    (try simp only [Act.put, List.setIfInBounds_toArray, List.set_cons_zero, List.set_cons_succ])
    refine wpAnyH_take (i := 6) (v := (.int .i64 p)) rfl (by kernel_rfl) (by kernel_rfl) (by kernel_rfl) (fun _ _ _ h => h) (Or.inl ⟨by rfl, ?_⟩) (by assumption) ?_
    · intro w' hSw
      (try dsimp only at hSw)
      (obtain ⟨hS1, hS2, hS3, hS4⟩ := hSw; go_simp)
    (try simp only [Act.put, List.setIfInBounds_toArray, List.set_cons_zero, List.set_cons_succ])
    refine wpAnyH_ready (rs := [2]) (by kernel_rfl) (by simp) ?_
    refine AllReadyH.cons rfl (fun K hK => ?_) AllReadyH.nil
    go_simp
    refine Calls.mono (I1.out _ B1.out.drew) ?_
    rintro x w2 ⟨rfl, b2⟩
    have B2 := hide (B1.out.drew.trans (b2.mono B1.out.drew.size))
    clear b2
    refine hK.out _ _ (Q0.out _ B2.out) (fun hHeld => ?_)
    clear hK
    (try simp only [Act.put, List.setIfInBounds_toArray, List.set_cons_zero, List.set_cons_succ])
    refine wpAnyH_take (i := 3) (v := (.string (pS1 ++ X1))) rfl (by kernel_rfl) (by kernel_rfl) (by kernel_rfl) (fun _ _ _ h => h) (Or.inl ⟨by rfl, ?_⟩) (by assumption) ?_
    · intro w' hSw
      (try dsimp only at hSw)
      (go_simp; first | omega | (rw [if_neg (by (try simp only [ByteArray.size_append]); omega)]; rfl))
    (try simp only [Act.put, List.setIfInBounds_toArray, List.set_cons_zero, List.set_cons_succ])
    refine wpAnyH_take (i := 4) (v := (.string (pS1 ++ X1 ++ pS2))) rfl (by kernel_rfl) (by kernel_rfl) (by kernel_rfl) (fun _ _ _ h => h) (Or.inl ⟨by rfl, ?_⟩) (by assumption) ?_
    · intro w' hSw
      (try dsimp only at hSw)
      (go_simp; first | omega | (rw [if_neg (by (try simp only [ByteArray.size_append]); omega)]; rfl))
    (try simp only [Act.put, List.setIfInBounds_toArray, List.set_cons_zero, List.set_cons_succ])
    refine wpAnyH_ready (rs := [7]) (by kernel_rfl) (by simp) ?_
    refine AllReadyH.cons rfl (fun K hK => ?_) AllReadyH.nil
    go_simp
    refine Calls.mono (I2.out _ B2.out) ?_
    rintro x w3 ⟨rfl, b3⟩
    have B3 := hide (B2.out.trans (b3.mono B2.out.size))
    clear b3
    refine hK.out _ _ (Q0.out _ B3.out) (fun hHeld => ?_)
    clear hK
    (try simp only [Act.put, List.setIfInBounds_toArray, List.set_cons_zero, List.set_cons_succ])
    refine wpAnyH_take (i := 8) (v := (.string (pS1 ++ X1 ++ pS2 ++ X2))) rfl (by kernel_rfl) (by kernel_rfl) (by kernel_rfl) (fun _ _ _ h => h) (Or.inl ⟨by rfl, ?_⟩) (by assumption) ?_
    · intro w' hSw
      (try dsimp only at hSw)
      (go_simp; first | omega | (rw [if_neg (by (try simp only [ByteArray.size_append]); omega)]; rfl))
    (try simp only [Act.put, List.setIfInBounds_toArray, List.set_cons_zero, List.set_cons_succ])
    refine wpAnyH_ready (rs := [9]) (by kernel_rfl) (by simp) ?_
    refine AllReadyH.cons rfl (fun K hK => ?_) AllReadyH.nil
    go_simp
    refine hK.out _ _ (Q0.out _ B3.out) (fun hHeld => ?_)
    clear hK
    (try simp only [Act.put, List.setIfInBounds_toArray, List.set_cons_zero, List.set_cons_succ])
    refine wpAnyH_done (by kernel_rfl) ?_ _
    clear hHeld
    go_wp2_with fail
    rw [← HY.out]
    clear I1 I2
    refine wp_region_held_drew (S := fun w' => w'.cell? ⟨w.heap.size, 0, none⟩ = some (.int .i64 c) ∧ w'.cell? ⟨w.heap.size, 1, none⟩ = some (.int .i64 p) ∧ w'.cell? ⟨w.heap.size, 2, none⟩ = some (.int .i64 e) ∧ w'.cell? ⟨w.heap.size, 3, none⟩ = some (.int .i64 s)) (by kernel_rfl) (Q0.out _ B3.out.drew) (fun hHeld => ?_)
    refine wpAnyH_take (i := 0) (v := (.string Y)) rfl (by kernel_rfl) (by kernel_rfl) (by kernel_rfl) (fun _ _ _ h => h) (Or.inl ⟨by rfl, ?_⟩) (by assumption) ?_
    · intro w' hSw
      (try dsimp only at hSw)
      go_simp <;> first | exact i64_in (by omega) (by omega) | exact u32_in (by omega) (by omega) | exact u32_add _ _ | (rw [Int.tmod_eq_emod_of_nonneg (by omega)]; omega) | (rw [Int.tdiv_eq_ediv_of_nonneg (by omega)]; omega) | omega
    (try simp only [Act.put, List.setIfInBounds_toArray, List.set_cons_zero, List.set_cons_succ])
    refine wpAnyH_take (i := 1) (v := (.string (Y ++ pS3))) rfl (by kernel_rfl) (by kernel_rfl) (by kernel_rfl) (fun _ _ _ h => h) (Or.inl ⟨by rfl, ?_⟩) (by assumption) ?_
    · intro w' hSw
      (try dsimp only at hSw)
      (go_simp; first | omega | (rw [if_neg (by (try simp only [ByteArray.size_append]); omega)]; rfl))
    (try simp only [Act.put, List.setIfInBounds_toArray, List.set_cons_zero, List.set_cons_succ])
    refine wpAnyH_take (i := 2) (v := (.pointer (some ⟨w.heap.size, 2, none⟩))) rfl (by kernel_rfl) (by kernel_rfl) (by kernel_rfl) (fun _ _ _ h => h) (Or.inl ⟨by rfl, ?_⟩) (by assumption) ?_
    · intro w' hSw
      (try dsimp only at hSw)
      go_simp <;> first | exact i64_in (by omega) (by omega) | exact u32_in (by omega) (by omega) | exact u32_add _ _ | (rw [Int.tmod_eq_emod_of_nonneg (by omega)]; omega) | (rw [Int.tdiv_eq_ediv_of_nonneg (by omega)]; omega) | omega
    (try simp only [Act.put, List.setIfInBounds_toArray, List.set_cons_zero, List.set_cons_succ])
    refine wpAnyH_take (i := 3) (v := (.int .i64 e)) rfl (by kernel_rfl) (by kernel_rfl) (by kernel_rfl) (fun _ _ _ h => h) (Or.inl ⟨by rfl, ?_⟩) (by assumption) ?_
    · intro w' hSw
      (try dsimp only at hSw)
      (obtain ⟨hS1, hS2, hS3, hS4⟩ := hSw; go_simp)
    (try simp only [Act.put, List.setIfInBounds_toArray, List.set_cons_zero, List.set_cons_succ])
    refine wpAnyH_take (i := 7) (v := (.pointer (some ⟨w.heap.size, 3, none⟩))) rfl (by kernel_rfl) (by kernel_rfl) (by kernel_rfl) (fun _ _ _ h => h) (Or.inl ⟨by rfl, ?_⟩) (by assumption) ?_
    · intro w' hSw
      (try dsimp only at hSw)
      go_simp <;> first | exact i64_in (by omega) (by omega) | exact u32_in (by omega) (by omega) | exact u32_add _ _ | (rw [Int.tmod_eq_emod_of_nonneg (by omega)]; omega) | (rw [Int.tdiv_eq_ediv_of_nonneg (by omega)]; omega) | omega
    (try simp only [Act.put, List.setIfInBounds_toArray, List.set_cons_zero, List.set_cons_succ])
    refine wpAnyH_take (i := 8) (v := (.int .i64 s)) rfl (by kernel_rfl) (by kernel_rfl) (by kernel_rfl) (fun _ _ _ h => h) (Or.inl ⟨by rfl, ?_⟩) (by assumption) ?_
    · intro w' hSw
      (try dsimp only at hSw)
      (obtain ⟨hS1, hS2, hS3, hS4⟩ := hSw; go_simp)
    (try simp only [Act.put, List.setIfInBounds_toArray, List.set_cons_zero, List.set_cons_succ])
    refine wpAnyH_ready (rs := [4]) (by kernel_rfl) (by simp) ?_
    refine AllReadyH.cons rfl (fun K hK => ?_) AllReadyH.nil
    go_simp
    refine Calls.mono (I3.out _ B3.out.drew) ?_
    rintro x w4 ⟨rfl, b4⟩
    have B4 := hide (B3.out.drew.trans (b4.mono B3.out.drew.size))
    clear b4
    refine hK.out _ _ (Q0.out _ B4.out) (fun hHeld => ?_)
    clear hK
    (try simp only [Act.put, List.setIfInBounds_toArray, List.set_cons_zero, List.set_cons_succ])
    refine wpAnyH_take (i := 5) (v := (.string (Y ++ pS3 ++ X3))) rfl (by kernel_rfl) (by kernel_rfl) (by kernel_rfl) (fun _ _ _ h => h) (Or.inl ⟨by rfl, ?_⟩) (by assumption) ?_
    · intro w' hSw
      (try dsimp only at hSw)
      (go_simp; first | omega | (rw [if_neg (by (try simp only [ByteArray.size_append]); omega)]; rfl))
    (try simp only [Act.put, List.setIfInBounds_toArray, List.set_cons_zero, List.set_cons_succ])
    refine wpAnyH_take (i := 6) (v := (.string (Y ++ pS3 ++ X3 ++ pS4))) rfl (by kernel_rfl) (by kernel_rfl) (by kernel_rfl) (fun _ _ _ h => h) (Or.inl ⟨by rfl, ?_⟩) (by assumption) ?_
    · intro w' hSw
      (try dsimp only at hSw)
      (go_simp; first | omega | (rw [if_neg (by (try simp only [ByteArray.size_append]); omega)]; rfl))
    (try simp only [Act.put, List.setIfInBounds_toArray, List.set_cons_zero, List.set_cons_succ])
    refine wpAnyH_ready (rs := [9]) (by kernel_rfl) (by simp) ?_
    refine AllReadyH.cons rfl (fun K hK => ?_) AllReadyH.nil
    go_simp
    refine Calls.mono (I4.out _ B4.out) ?_
    rintro x w5 ⟨rfl, b5⟩
    have B5 := hide (B4.out.trans (b5.mono B4.out.size))
    clear b5
    refine hK.out _ _ (Q0.out _ B5.out) (fun hHeld => ?_)
    clear hK
    (try simp only [Act.put, List.setIfInBounds_toArray, List.set_cons_zero, List.set_cons_succ])
    refine wpAnyH_take (i := 10) (v := (.string (Y ++ pS3 ++ X3 ++ pS4 ++ X4))) rfl (by kernel_rfl) (by kernel_rfl) (by kernel_rfl) (fun _ _ _ h => h) (Or.inl ⟨by rfl, ?_⟩) (by assumption) ?_
    · intro w' hSw
      (try dsimp only at hSw)
      (go_simp; first | omega | (rw [if_neg (by (try simp only [ByteArray.size_append]); omega)]; rfl))
    (try simp only [Act.put, List.setIfInBounds_toArray, List.set_cons_zero, List.set_cons_succ])
    refine wpAnyH_take (i := 11) (v := (.string (Y ++ pS3 ++ X3 ++ pS4 ++ X4 ++ nl))) rfl (by kernel_rfl) (by kernel_rfl) (by kernel_rfl) (fun _ _ _ h => h) (Or.inl ⟨by rfl, ?_⟩) (by assumption) ?_
    · intro w' hSw
      (try dsimp only at hSw)
      (go_simp; first | omega | (rw [if_neg (by (try simp only [ByteArray.size_append]); omega)]; rfl))
    (try simp only [Act.put, List.setIfInBounds_toArray, List.set_cons_zero, List.set_cons_succ])
    refine wpAnyH_ready (rs := [12]) (by kernel_rfl) (by simp) ?_
    refine AllReadyH.cons rfl (fun K hK => ?_) AllReadyH.nil
    go_simp
    refine hK.out _ _ (Q0.out _ B5.out) (fun hHeld => ?_)
    clear hK
    (try simp only [Act.put, List.setIfInBounds_toArray, List.set_cons_zero, List.set_cons_succ])
    refine wpAnyH_done (by kernel_rfl) ?_ _
    clear hHeld
    have CL5 := hide (CL.out w5)
    rw [← HZ.out]
    go_wp2_with fail
    refine Calls.mono CL5.out ?_
    rintro x w6 ⟨rfl, b6⟩
    have B6 := hide (B0.out.trans ((B5.out.trans (b6.mono B5.out.size)).mono B0.out.size))
    clear b6 CL5 CL
    go_wp2_with fail
    go_ret2
    exact ⟨rfl, B6.out⟩
end Go.Proofs.YtbcpfekbnkkflaaDoor
