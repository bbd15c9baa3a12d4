import Derived.Test.YtanlnelfbfjelaaDoorGGyText
import Derived.Test.YtanlnelfbfjelaaDoorGGmMade
namespace Go.Proofs.YtanlnelfbfjelaaDoor
open Go.RowKit Go.Maps
theorem powR_belowY {w w' : World} (h : PowR w) (hb : Below w.heap.size w w') : PowR w' := Lib.tabBelow_of_tabIs h _ hb
theorem wpList_loadClY {w : World} {ops : Array Oper} {rest : List Oper} {o : Oper} {a : Act} {Q : Exit → Act → World → Prop} (p : Operand) (ho : o.op = .load 24 p) (hw : Region.wanted o (yielded ops a.tmps) = true) (b : Nat) (st : ByteArray) (x : Nat → Int) (nv : Value) (hx : a.eval p = .pointer (some ⟨b, 0, none⟩)) (hO : ClAt w b st x nv)
    (h : wpList Tryd.prog ops Q rest (a.put o.dst (.agg (clA st x nv))) w) : wpList Tryd.prog ops Q (o :: rest) a w := by
  refine wpList_step fun K hK => ?_
  rw [if_pos hw]
  unfold Oper.wp execOp
  simp only [ho, Sem.run_bind, Sem.run_pure, Result.andThen_ok, hx, run_loadCl w b st x nv hO]
  exact hK _ _ h
theorem parse_good (w : World) (t : List UInt8) (mx : Int) (hm : w.cell? ⟨2, 0, none⟩ = some (.int .i64 mx)) (ht : t.length ≤ 4611686018427387904) {st : ByteArray} {x : Nat → Int} {ns : List ND} (hg : GoodT t st x ns) :
    Calls Tryd.prog 5 #[.string (strOf t)] w fun e w' => Below w.heap.size w w' ∧ ∃ vl zs, e = .returned (.tuple #[.agg (clA st x vl), .int .i64 0, .int .i64 0]) ∧ Tw w.heap.size w' ns vl zs ∧ zs.length = ns.length := by
  refine (parse_any w t mx hm ht).mono ?_
  rintro e w' ⟨hb, vl, zs, rfl, hx⟩
  obtain ⟨h1, h2, _⟩ := hx hg.e
  rw [hg.n] at h1 h2
  refine ⟨hb, vl, zs, ?_, h1, h2⟩
  rw [hg.l]
  unfold psV
  rw [hg.e, if_pos rfl, hg.s, clA_congr hg.x]
theorem parse_bad (w : World) (t : List UInt8) (mx : Int) (hm : w.cell? ⟨2, 0, none⟩ = some (.int .i64 mx)) (ht : t.length ≤ 4611686018427387904) {E l : Int} (hE : psE t = E) (h0 : E ≠ 0) (hl : psL t = l) :
    Calls Tryd.prog 5 #[.string (strOf t)] w fun e w' => Below w.heap.size w w' ∧ e = .returned (.tuple #[.agg (clA ⟨#[]⟩ zx (.slice none 0 0)), .int .i64 E, .int .i64 l]) := by
  refine (parse_any w t mx hm ht).mono ?_
  rintro e w' ⟨hb, vl, zs, rfl, hx⟩
  refine ⟨hb, ?_⟩
  unfold psV
  rw [hE, hl, if_neg h0]
theorem pr_len {st : ByteArray} {x : Nat → Int} {ns : List ND} (h : errP st x ns = 0) : (prT st x ns).length ≤ 60000 := by
  have := le_len h (22 + ns.length) (22 + ns.length) (Nat.le_refl _)
  rw [leL_all _ _ (Nat.le_refl _), ← txL_print] at this
  exact this
theorem pr_cut {st : ByteArray} {x : Nat → Int} {ns : List ND} (h : errP st x ns = 0) : (splitL 10 [] (prT st x ns)).dropLast = lsL st.data.toList x ns (22 + ns.length) := by
  rw [txL_print]
  unfold txL
  rw [split_lines]
  · simp
  · intro a ha
    unfold lsL at ha
    obtain ⟨j, hj, rfl⟩ := List.mem_map.1 ha
    exact lnK_no (prm_of h) (List.mem_range.1 hj)
theorem lsL_at {st : List UInt8} {x : Nat → Int} {ns : List ND} {n j : Nat} (h : j < n) : wAt (lsL st x ns n) j = lnK st x ns j := by
  unfold wAt lsL
  rw [List.getElem?_map, List.getElem?_range h]
  rfl
theorem lsL_len (st : List UInt8) (x : Nat → Int) (ns : List ND) (n : Nat) : (lsL st x ns n).length = n := by unfold lsL; simp
theorem tw_row {base D : Nat} {W : World} {ns : List ND} {vl : Value} {zs : List (Int × Value)} (h : Tw base W ns vl zs) (hD : D < base) (cs : Array Value) : Tw base (W.setRow D cs) ns vl zs := by
  have oth : ∀ i, i ≠ D → (W.setRow D cs).heap[i]? = W.heap[i]? := fun i hi => setRow_other W D i _ (fun e => hi (by first | exact e | exact e.symm))
  refine ⟨own_keep h.row fun g hg => oth g ?_, h.z, fun q hq hq' => own_keep (h.p q hq hq') fun g hg => oth g ?_⟩
  · have := (own_lt h.row hg).1; omega
  · have := (own_lt (h.p q hq hq') hg).1; omega
/-- the three texts, a line further -/
theorem tu_step {st : List UInt8} {x : Nat → Int} {ns : List ND} (nt : List UInt8) (i : Nat) : txL ((35 :: nt) :: [] :: tuL st x ns (i + 1)) = if i < 22 then txL ((35 :: nt) :: [] :: tuL st x ns i) ++ lnK st x ns (21 - i) ++ [10] else txL ((35 :: nt) :: [] :: tuL st x ns i) ++ lnK st x ns i ++ [10, 10, 35, 10] := by
  have e : ∀ M, txL ((35 :: nt) :: [] :: (tuL st x ns i ++ M)) = txL ((35 :: nt) :: [] :: tuL st x ns i) ++ txL M := fun M => by
    rw [← txL_app]; rfl
  rw [tuL_succ, e]
  by_cases h : i < 22
  · rw [if_pos h, if_pos h, txL_one, List.append_assoc]
  · rw [if_neg h, if_neg h, tx_three, List.append_assoc]
theorem tw_step {st : List UInt8} {x : Nat → Int} {ns : List ND} (k i : Nat) : txL (twL st x ns k (i + 1)) = if i = k then txL (twL st x ns k i) ++ lnK st x ns i ++ [10] ++ lnK st x ns i ++ [10] else txL (twL st x ns k i) ++ lnK st x ns i ++ [10] := by
  rw [twL_succ, txL_app]
  by_cases h : i = k
  · rw [if_pos h, if_pos h, tx_two]
    simp
  · rw [if_neg h, if_neg h, txL_one, List.append_assoc]
theorem le_step {st : List UInt8} {x : Nat → Int} {ns : List ND} (k i : Nat) : txL (leL st x ns k (i + 1)) = if i = k then txL (leL st x ns k i) else txL (leL st x ns k i) ++ lnK st x ns i ++ [10] := by
  rw [leL_succ, txL_app]
  by_cases h : i = k
  · rw [if_pos h, if_pos h]
    simp [txL]
  · rw [if_neg h, if_neg h, txL_one, List.append_assoc]
/-- the three texts of the law, line by line -/
structure Three (st : ByteArray) (x : Nat → Int) (ns : List ND) (nt : List UInt8) (k : Nat) (TU TV TL K : Nat → List UInt8) : Prop where
  u0 : TU 0 = 35 :: nt ++ [10, 10]
  v0 : TV 0 = []
  l0 : TL 0 = []
  us : ∀ i, i < 22 → TU (i + 1) = TU i ++ K (21 - i) ++ [10]
  un : ∀ i, ¬ i < 22 → TU (i + 1) = TU i ++ K i ++ [10, 10, 35, 10]
  vs : TV (k + 1) = TV k ++ K k ++ [10] ++ K k ++ [10]
  vn : ∀ i, i ≠ k → TV (i + 1) = TV i ++ K i ++ [10]
  ls : TL (k + 1) = TL k
  ln : ∀ i, i ≠ k → TL (i + 1) = TL i ++ K i ++ [10]
  len : ∀ i, i ≤ 22 + ns.length → (TU i).length ≤ 61000 ∧ (TV i).length ≤ 61000 ∧ (TL i).length ≤ 61000
  kl : ∀ j, j < 22 + ns.length → (K j).length ≤ 3000
  good : GoodT (TU (22 + ns.length)) st x ns
  twice : psE (TV (22 + ns.length)) = 61 ∧ psL (TV (22 + ns.length)) = (k : Int) + 2
  less : psE (TL (22 + ns.length)) = 62 ∧ psL (TL (22 + ns.length)) = 0
  k : ∀ j, j < 22 + ns.length → wAt (lsL st.data.toList x ns (22 + ns.length)) j = K j
theorem three_of {st : ByteArray} {x : Nat → Int} {ns : List ND} (h : errP st x ns = 0) (nt : List UInt8) (h10 : (10 : UInt8) ∉ nt) (hl : nt.length ≤ 100) {k : Nat} (hk : k < 22) : ∃ TU TV TL K, Three st x ns nt k TU TV TL K := by
  refine ⟨fun i => txL ((35 :: nt) :: [] :: tuL st.data.toList x ns i), fun i => txL (twL st.data.toList x ns k i), fun i => txL (leL st.data.toList x ns k i), lnK st.data.toList x ns, ?_⟩
  refine ⟨?_, rfl, rfl, fun i hi => ?_, fun i hi => ?_, ?_, fun i hi => ?_, ?_, fun i hi => ?_, fun i hi => ⟨?_, ?_, ?_⟩, fun j hj => ?_, good_turned h nt h10 hl, ps_twice h hk, ps_less h hk, fun j hj => lsL_at hj⟩
  · simp [txL, tuL]
  · exact (tu_step nt i).trans (if_pos hi)
  · exact (tu_step nt i).trans (if_neg hi)
  · exact (tw_step k k).trans (if_pos rfl)
  · exact (tw_step k i).trans (if_neg hi)
  · exact (le_step k k).trans (if_pos rfl)
  · exact (le_step k i).trans (if_neg hi)
  · have e : (35 :: nt) :: [] :: tuL st.data.toList x ns i = [35 :: nt] ++ ([[]] ++ tuL st.data.toList x ns i) := rfl
    show (txL _).length ≤ _
    rw [e, txL_app, txL_app, txL_one, txL_one]
    have := tu_len h i hi
    simp only [List.length_append, List.length_cons, List.length_nil]
    omega
  · exact Nat.le_trans (tw_len h k i hk hi) (by omega)
  · exact Nat.le_trans (le_len h k i hi) (by omega)
  · by_cases e : j < 22
    · have := (lnK_len h j).1 e; omega
    · have := (lnK_len h j).2 (by omega) hj; omega
set_option maxHeartbeats 16000000 in
set_option maxRecDepth 100000 in
set_option linter.unusedSimpArgs false in
set_option linter.unusedVariables false in
/-- the law: it says yes -/
theorem back_any (N : Nat) (w : World) (a b c d : Int) (H Z M : List Int) (aH : Option Addr) (bH oH cH : Nat) (aZ : Option Addr) (bZ oZ cZ : Nat) (aM : Option Addr) (bM oM cM : Nat) (wh : Int) (note : ByteArray) (hH : PsAt N w aH bH oH H) (hZ : PsAt N w aZ bZ oZ Z) (hM : PsAt N w aM bM oM M) (hN : N ≤ w.heap.size) (hnt : note.size ≤ 4611686018427387904) (mx : Int) (hm : w.cell? ⟨2, 0, none⟩ = some (.int .i64 mx)) (hP : PowR w) :
    Calls Tryd.prog 4 #[.agg #[.int .i64 a, .int .i64 b, .int .i64 c, .int .i64 d, .slice aH H.length cH, .slice aZ Z.length cZ, .slice aM M.length cM], .int .i64 wh, .string note] w fun e w' => e = .returned (.bool true) ∧ Below w.heap.size w w' := by
  have EN : Hid (∀ Y, Below w.heap.size w Y → PowR Y ∧ Y.cell? ⟨2, 0, none⟩ = some (.int .i64 mx)) := fun Y hY => ⟨powR_belowY hP hY, (hY.cell (p := ⟨2, 0, none⟩) (World.block_lt_of_cell? w _ hm)).trans hm⟩
  obtain ⟨W0, hW0⟩ : ∃ W0, W0 = w.alloc (.cells #[.int .i64 a, .int .i64 b, .int .i64 c, .int .i64 d, .slice aH H.length cH, .slice aZ Z.length cZ, .slice aM M.length cM] 35) := ⟨_, rfl⟩
  have B0 : Hid (Below w.heap.size w W0) := by rw [hW0]; exact (Below.refl _ _).alloc (Nat.le_refl _) _
  have hb : W0.heap[w.heap.size]? = some (.cells #[.int .i64 a, .int .i64 b, .int .i64 c, .int .i64 d, .slice aH H.length cH, .slice aZ Z.length cZ, .slice aM M.length cM] 35) := by rw [hW0]; exact heap_last _ _
  have bn := B0.out.mono hN
  have MA := hide (made_any N W0 a b c d H Z M aH bH oH cH aZ bZ oZ cZ aM bM oM cM (hH.below bn) (hZ.below bn) (hM.below bn) (Nat.le_trans hN B0.out.size))
  have z0 : W0.cell? ⟨w.heap.size, 0, none⟩ = some (.int .i64 a) := by unfold World.cell?; rw [hb]; rfl
  have z1 : W0.cell? ⟨w.heap.size, 1, none⟩ = some (.int .i64 b) := by unfold World.cell?; rw [hb]; rfl
  have z2 : W0.cell? ⟨w.heap.size, 2, none⟩ = some (.int .i64 c) := by unfold World.cell?; rw [hb]; rfl
  have z3 : W0.cell? ⟨w.heap.size, 3, none⟩ = some (.int .i64 d) := by unfold World.cell?; rw [hb]; rfl
  have z4 : W0.cell? ⟨w.heap.size, 4, none⟩ = some (.slice aH H.length cH) := by unfold World.cell?; rw [hb]; rfl
  have z5 : W0.cell? ⟨w.heap.size, 5, none⟩ = some (.slice aZ Z.length cZ) := by unfold World.cell?; rw [hb]; rfl
  have z6 : W0.cell? ⟨w.heap.size, 6, none⟩ = some (.slice aM M.length cM) := by unfold World.cell?; rw [hb]; rfl
  clear hb bn hH hZ hM hm hP
  go_enter Tryd.func4, Tryd.ntmps4
  go_upto_region 1 with fail
  rw [← hW0]
  clear hW0
  go_wp2_with fail
  refine Calls.mono MA.out ?_
  rintro e W1 ⟨st, x, ns, vl, zs, rfl, hz, hT, hE, hs, hb⟩
  have HE := hide hE
  obtain ⟨_, hsf, hnf, hdl, hR, _⟩ := errP_all hE
  have n16 := nfP_len hnf
  have p64 : ptN ns ≤ 64 := hdl.p2
  obtain ⟨ao, nb, cap, pv, hvl, hns⟩ := tw_read hT hz n16.2 p64
  subst hvl
  have B1 := hide (B0.out.trans (hb.mono B0.out.size))
  have NS := hide hns
  have PV : Hid (prV st x ns = prT st x ns) := if_pos hE
  clear hb MA hT hE hsf hnf hdl hR hns z0 z1 z2 z3 z4 z5 z6 B0 hz
  obtain ⟨W2, hW2⟩ : ∃ W2, W2 = W1.alloc (.cells (clA st x (.slice ao ns.length cap)) 24) := ⟨_, rfl⟩
  have C2 : Hid (ClAt W2 W1.heap.size st x (.slice ao ns.length cap)) := by rw [hW2]; exact new_cl _ _ _ _
  have B2 : Hid (Below W1.heap.size W1 W2) := by rw [hW2]; exact (Below.refl _ _).alloc (Nat.le_refl _) _
  have s2 : Hid (W2.heap.size = W1.heap.size + 1) := by show _ = _; rw [hW2]; simp
  go_upto_region 2 with (refine wpList_storeCl (w0 := W1) rfl (.tmp 7) (.tmp 20) rfl W1.heap.size (by kernel_rfl) rfl st x (.slice ao ns.length cap) rfl (by kernel_rfl) _ rfl rfl ?_)
  rw [← hW2]
  clear hW2
  have TW := hide (twin_any W1.heap.size W2 st x ao nb 0 cap pv ns (NS.out.below B2.out) B2.out.size)
  go_wp2_with (refine wpList_loadCl rfl (.tmp 7) rfl W1.heap.size st x _ (by kernel_rfl) C2.out ?_)
  refine Calls.mono TW.out ?_
  rintro e W3 ⟨vl2, zs2, rfl, hz2, hT2, hb⟩
  obtain ⟨ao2, nb2, cap2, pv2, hvl, hns2⟩ := tw_read hT2 hz2 n16.2 p64
  subst hvl
  have C3 := hide (C2.out.below hb)
  have B3 := hide (B2.out.trans (hb.mono B2.out.size))
  have PR := print_any W3.heap.size W3 st x ao2 nb2 0 cap2 pv2 ns hns2 (Nat.le_refl _) (by omega) (EN.out _ (B1.out.trans (B3.out.mono B1.out.size))).1
  rw [PV.out, HE.out] at PR
  replace PR := hide PR
  have HPL := hide (pr_len HE.out)
  clear hz2 hT2 hns2 hb TW C2 B2 PV
  obtain ⟨S, hS⟩ : ∃ S, S = strOf (prT st x ns) := ⟨_, rfl⟩
  have HS := hide hS
  rw [← HS.out] at PR
  clear hS
  go_wp2_with fail
  refine Calls.mono PR.out ?_
  rintro e W4 ⟨rfl, hb⟩
  have C4 := hide (C3.out.below hb)
  have B4 := hide (B3.out.trans (hb.mono B3.out.size))
  have PG := parse_good W4 (prT st x ns) mx (EN.out _ (B1.out.trans (B4.out.mono B1.out.size))).2 (by have := HPL.out; omega) (good_print HE.out)
  rw [← HS.out] at PG
  replace PG := hide PG
  clear hb PR C3 B3
  go_wp2_with fail
  refine Calls.mono (num_anyT _ _) ?_
  rintro e W ⟨rfl, rfl⟩
  go_wp2_with fail
  refine Calls.mono PG.out ?_
  rintro e W5 ⟨hb, vl5, zs5, rfl, hT5, hz5⟩
  obtain ⟨ao5, nb5, cap5, pv5, hvl, hns5⟩ := tw_read hT5 hz5 n16.2 p64
  subst hvl
  have C5 := hide (C4.out.below hb)
  have B5 := hide (B4.out.trans (hb.mono B4.out.size))
  obtain ⟨W6, hW6⟩ : ∃ W6, W6 = W5.alloc (.cells (clA st x (.slice ao5 ns.length cap5)) 24) := ⟨_, rfl⟩
  have b6 : Below W5.heap.size W5 W6 := by rw [hW6]; exact (Below.refl _ _).alloc (Nat.le_refl _) _
  have D6 : Hid (ClAt W6 W5.heap.size st x (.slice ao5 ns.length cap5)) := by rw [hW6]; exact new_cl _ _ _ _
  have C6 := hide (C5.out.below b6)
  have B6 := hide (B5.out.trans (b6.mono B5.out.size))
  have s6 : Hid (W1.heap.size < W5.heap.size ∧ W5.heap.size < W6.heap.size) := ⟨blk_lt C5.out, blk_lt D6.out⟩
  have SC := hide (sameCluster_eq W6.heap.size W6 st x ns ao nb 0 cap pv ((NS.out.below B6.out).more B6.out.size) ao5 nb5 0 cap5 pv5 ((hns5.below b6).more b6.size) (Nat.le_refl _))
  clear hT5 hz5 hns5 hb b6 PG C4 B4 C5 B5
  go_upto_region 6 with (refine wpList_storeCl (w0 := W5) rfl (.tmp 10) (.tmp 33) rfl W5.heap.size (by kernel_rfl) rfl st x (.slice ao5 ns.length cap5) rfl (by kernel_rfl) _ rfl rfl ?_)
  rw [← hW6]
  clear hW6
  have hCB : Hid (w.heap.size ≤ W1.heap.size) := B1.out.size
  generalize W5.heap.size = DB at *
  generalize W1.heap.size = CB at *
  go_wp2_with fail
  refine Calls.mono (num_anyT _ _) ?_
  rintro e W ⟨rfl, rfl⟩
  go_wp2_with (first | refine wpList_loadClY (.tmp 7) rfl (by rfl) CB st x _ (by kernel_rfl) C6.out ?_ | refine wpList_loadClY (.tmp 10) rfl (by rfl) DB st x _ (by kernel_rfl) D6.out ?_)
  refine Calls.mono SC.out ?_
  rintro e W7 ⟨rfl, hb⟩
  have C7 := hide (C6.out.below hb)
  have D7 := hide (D6.out.below hb)
  have B7 := hide (B6.out.trans (hb.mono (show CB ≤ W6.heap.size by have := s6.out; omega)))
  have CU := cut_any S W7 (by rw [HS.out, strOf_size]; have := HPL.out; omega)
  rw [show (splitL 10 [] S.data.toList).dropLast = lsL st.data.toList x ns (22 + ns.length) by rw [HS.out, strOf_data]; exact pr_cut HE.out] at CU
  replace CU := hide CU
  have s7 : Hid (DB < W7.heap.size) := blk_lt D7.out
  clear hb SC C6 D6 B6
  go_wp2_with fail
  refine Calls.mono CU.out ?_
  rintro e W8 ⟨v, rfl, hO, hb⟩
  obtain ⟨g, cp, rfl, hg0, hcap, hws⟩ := ws_of_row hO (by rw [lsL_len]; omega)
  have C8 := hide (C7.out.below hb)
  have D8 := hide (D7.out.below hb)
  have B8 := hide (B7.out.trans (hb.mono (show CB ≤ W7.heap.size by have := s6.out; have := s7.out; omega)))
  have s8 : Hid (DB < W8.heap.size) := blk_lt D8.out
  obtain ⟨k, hk, hk22⟩ : ∃ k : Nat, wh % 22 = (k : Int) ∧ k < 22 := ⟨(wh % 22).toNat, by omega, by omega⟩
  have MO := mod_any wh 22 (by omega) (by omega) W8
  rw [hk] at MO
  replace MO := hide MO
  have OL := hide (oneLine_any note W8 hnt)
  obtain ⟨nt, hnt2⟩ : ∃ nt, nt = olL note.data.toList := ⟨_, rfl⟩
  rw [← hnt2] at OL
  obtain ⟨TU, TV, TL, K, h3⟩ := three_of HE.out nt (by rw [hnt2]; exact olL_no _) (by rw [hnt2]; exact olL_len _) hk22
  have T3 := hide h3
  have hntl : nt.length ≤ 100 := by rw [hnt2]; exact olL_len _
  have WS : Hid (∀ j, j < 22 + ns.length → W8.cell? ⟨g, j, none⟩ = some (.string (strOf (K j)))) := fun j hj => by
    have := hws.at j (by rw [lsL_len]; exact hj)
    rw [h3.k j hj] at this
    exact this
  have c22 := C8.out.nv
  rw [lsL_len]
  obtain ⟨n8, hn8⟩ : ∃ n8, n8 = 22 + ns.length := ⟨_, rfl⟩
  have hn8i : (n8 : Int) = 22 + (ns.length : Int) := by omega
  have HN8 := hide hn8
  have n8l : n8 ≤ 38 := by omega
  rw [← hn8]
  clear hb hO hws h3 hnt2 hk hn8 CU C7 D7 B7 hg0 hcap hnt
  go_wp2_with fail
  refine Calls.mono MO.out ?_
  rintro e W ⟨rfl, rfl⟩
  clear c22 hn8i MO
  go_wp2_with fail
  refine Calls.mono OL.out ?_
  rintro e W ⟨rfl, rfl⟩
  go_wp2_with (first | refine wpList_addY rfl (.const (.string ⟨#[35]⟩)) (.tmp 61) rfl [35] nt (35 :: nt) rfl (by kernel_rfl) (by simp) (by omega) rfl ?_ | refine wpList_addY rfl (.tmp 62) (.const (.string ⟨#[10, 10]⟩)) rfl (35 :: nt) [10, 10] (TU 0) (by kernel_rfl) rfl (by simp; omega) (by simp) T3.out.u0.symm ?_)
  go_loopw [15, 16, 17, 18] (fun vt vw vl vi wr => ∃ (i : Nat), i ≤ n8 ∧ vi = .int .i64 (i : Int) ∧ vt = .string (strOf (TU i)) ∧ vw = .string (strOf (TV i)) ∧ vl = .string (strOf (TL i)) ∧ W8 = wr) (fun _ _ _ vi _ => n8 - (intOf vi).toNat)
  case atStart => exact ⟨0, Nat.zero_le _, rfl, rfl, by rw [T3.out.v0]; rfl, by rw [T3.out.l0]; rfl, rfl⟩
  case round =>
    obtain ⟨i, hi, rfl, rfl, rfl, rfl, rfl⟩ := hrel
    obtain ⟨q1, q2, q3⟩ := T3.out.len i (by have := HN8.out; omega)
    have lU : (TU i).length ≤ 1000000 := by omega
    have lV : (TV i).length ≤ 1000000 := by omega
    have lL : (TL i).length ≤ 1000000 := by omega
    clear q1 q2 q3
    by_cases hil : i < n8
    case pos =>
      have hili : (i : Int) < (n8 : Int) := by omega
      have ei := WS.out i (by have := HN8.out; omega)
      have kli := T3.out.kl i (by have := HN8.out; omega)
      have lK : (K i).length ≤ 1000000 := by omega
      have lVK : (TV i ++ K i).length ≤ 1000000 := by rw [List.length_append]; have := T3.out.len i (by have := HN8.out; omega); omega
      have lLK : (TL i ++ K i).length ≤ 1000000 := by rw [List.length_append]; have := T3.out.len i (by have := HN8.out; omega); omega
      have lVK2 : (TV i ++ K i ++ [10]).length ≤ 1000000 := by rw [List.length_append, List.length_append]; have := T3.out.len i (by have := HN8.out; omega); simp only [List.length_cons, List.length_nil]; omega
      have lVK3 : (TV i ++ K i ++ [10] ++ K i).length ≤ 1000000 := by rw [List.length_append, List.length_append, List.length_append]; have := T3.out.len i (by have := HN8.out; omega); simp only [List.length_cons, List.length_nil]; omega
      by_cases h22 : i < 22
      · have h22i : (i : Int) < 22 := by omega
        obtain ⟨j, hj⟩ : ∃ j, j = 21 - i := ⟨_, rfl⟩
        have hji : (21 : Int) - (i : Int) = (j : Int) := by omega
        have hjl : j < n8 := by have := HN8.out; omega
        have hjli : (j : Int) < (n8 : Int) := by omega
        have ej := WS.out j (by have := HN8.out; omega)
        have lKj : (K j).length ≤ 1000000 := by have := T3.out.kl j (by have := HN8.out; omega); omega
        have lUK : (TU i ++ K j).length ≤ 1000000 := by rw [List.length_append]; have := T3.out.len i (by have := HN8.out; omega); have := T3.out.kl j (by have := HN8.out; omega); omega
        have US : Hid (TU (i + 1) = TU i ++ K j ++ [10]) := by show _ = _; rw [hj]; exact T3.out.us i h22
        clear hj h22
        by_cases hik : i = k
        · subst hik
          have VS := hide T3.out.vs
          have LS := hide T3.out.ls
          go_wp2_with (first | refine wpList_addY rfl (.tmp 72) (.tmp 77) rfl (TU i) (K j) _ (by kernel_rfl) (by kernel_rfl) lU lKj rfl ?_ | refine wpList_addY rfl (.tmp 78) (.const (.string ⟨#[10]⟩)) rfl (TU i ++ K j) [10] _ (by kernel_rfl) rfl lUK (by simp) rfl ?_ | refine wpList_addY rfl (.tmp 87) (.tmp 91) rfl (TV i) (K i) _ (by kernel_rfl) (by kernel_rfl) lV lK rfl ?_ | refine wpList_addY rfl (.tmp 92) (.const (.string ⟨#[10]⟩)) rfl (TV i ++ K i) [10] _ (by kernel_rfl) rfl lVK (by simp) rfl ?_ | refine wpList_addY rfl (.tmp 97) (.tmp 101) rfl (TV i ++ (K i ++ [10])) (K i) (TV i ++ (K i ++ 10 :: K i)) (by kernel_rfl) (by kernel_rfl) (by rw [← List.append_assoc]; exact lVK2) lK (by simp) ?_ | refine wpList_addY rfl (.tmp 102) (.const (.string ⟨#[10]⟩)) rfl (TV i ++ (K i ++ 10 :: K i)) [10] _ (by kernel_rfl) rfl (by simpa using lVK3) (by simp) rfl ?_)
          go_roundw
          case rel => exact ⟨i + 1, by omega, by go_num, by rw [US.out]; simp, by rw [VS.out]; simp, by rw [LS.out]; try simp, by trivial⟩
          case measure => simp [intOf]; omega
        · have hiki : ¬ (i : Int) = (k : Int) := by omega
          have VS := hide (T3.out.vn i hik)
          have LS := hide (T3.out.ln i hik)
          go_wp2_with (first | refine wpList_addY rfl (.tmp 72) (.tmp 77) rfl (TU i) (K j) _ (by kernel_rfl) (by kernel_rfl) lU lKj rfl ?_ | refine wpList_addY rfl (.tmp 78) (.const (.string ⟨#[10]⟩)) rfl (TU i ++ K j) [10] _ (by kernel_rfl) rfl lUK (by simp) rfl ?_ | refine wpList_addY rfl (.tmp 87) (.tmp 91) rfl (TV i) (K i) _ (by kernel_rfl) (by kernel_rfl) lV lK rfl ?_ | refine wpList_addY rfl (.tmp 92) (.const (.string ⟨#[10]⟩)) rfl (TV i ++ K i) [10] _ (by kernel_rfl) rfl lVK (by simp) rfl ?_ | refine wpList_addY rfl (.tmp 104) (.tmp 108) rfl (TL i) (K i) _ (by kernel_rfl) (by kernel_rfl) lL lK rfl ?_ | refine wpList_addY rfl (.tmp 109) (.const (.string ⟨#[10]⟩)) rfl (TL i ++ K i) [10] _ (by kernel_rfl) rfl lLK (by simp) rfl ?_)
          go_roundw
          case rel => exact ⟨i + 1, by omega, by go_num, by rw [US.out]; simp, by rw [VS.out]; simp, by rw [LS.out]; try simp, by trivial⟩
          case measure => simp [intOf]; omega
      · have h22i : ¬ (i : Int) < 22 := by omega
        have hik : i ≠ k := by omega
        have hiki : ¬ (i : Int) = (k : Int) := by omega
        have US := hide (T3.out.un i h22)
        have VS := hide (T3.out.vn i hik)
        have LS := hide (T3.out.ln i hik)
        have lUK : (TU i ++ K i).length ≤ 1000000 := by rw [List.length_append]; have := T3.out.len i (by have := HN8.out; omega); omega
        go_wp2_with (first | refine wpList_addY rfl (.tmp 80) (.tmp 84) rfl (TU i) (K i) _ (by kernel_rfl) (by kernel_rfl) lU lK rfl ?_ | refine wpList_addY rfl (.tmp 85) (.const (.string ⟨#[10, 10, 35, 10]⟩)) rfl (TU i ++ K i) [10, 10, 35, 10] _ (by kernel_rfl) rfl lUK (by simp) rfl ?_ | refine wpList_addY rfl (.tmp 87) (.tmp 91) rfl (TV i) (K i) _ (by kernel_rfl) (by kernel_rfl) lV lK rfl ?_ | refine wpList_addY rfl (.tmp 92) (.const (.string ⟨#[10]⟩)) rfl (TV i ++ K i) [10] _ (by kernel_rfl) rfl lVK (by simp) rfl ?_ | refine wpList_addY rfl (.tmp 104) (.tmp 108) rfl (TL i) (K i) _ (by kernel_rfl) (by kernel_rfl) lL lK rfl ?_ | refine wpList_addY rfl (.tmp 109) (.const (.string ⟨#[10]⟩)) rfl (TL i ++ K i) [10] _ (by kernel_rfl) rfl lLK (by simp) rfl ?_)
        go_roundw
        case rel => exact ⟨i + 1, by omega, by go_num, by rw [US.out]; simp, by rw [VS.out]; simp, by rw [LS.out]; try simp, by trivial⟩
        case measure => simp [intOf]; omega
    case neg =>
      obtain rfl : i = n8 := by omega
      obtain ⟨q1, q2, q3⟩ := T3.out.len i (by have := HN8.out; omega)
      have EB : Hid (∀ Y, Below CB W1 Y → Below w.heap.size w Y) := fun Y hY => B1.out.trans (hY.mono hCB.out)
      have GD := T3.out.good
      have TT := T3.out.twice
      have TE := T3.out.less
      rw [← HN8.out] at GD TT TE
      have PG2 := hide (parse_good W8 (TU i) mx (EN.out _ (EB.out _ B8.out)).2 (by omega) GD)
      have P3 := hide (fun Y hY => parse_bad Y (TV i) mx (EN.out _ (EB.out Y hY)).2 (by omega) TT.1 (by decide) TT.2)
      have P4 := hide (fun Y hY => parse_bad Y (TL i) mx (EN.out _ (EB.out Y hY)).2 (by omega) TE.1 (by decide) TE.2)
      clear GD TT TE q1 q2 q3 lU lV lL T3 WS
      generalize strOf (TU i) = tu at *
      generalize strOf (TV i) = tv at *
      generalize strOf (TL i) = tl at *
      go_wp2_with fail
      refine Calls.mono PG2.out ?_
      rintro e W9 ⟨hb, vl9, zs9, rfl, hT9, hz9⟩
      obtain ⟨ao9, nb9, cap9, pv9, hvl, _⟩ := tw_read hT9 hz9 n16.2 p64
      subst hvl
      have C9 := hide (C8.out.below hb)
      have D9 := hide (D8.out.below hb)
      have B9 := hide (B8.out.trans (hb.mono (show CB ≤ W8.heap.size by have := s6.out; have := s8.out; omega)))
      have T10 := hide (tw_row hT9 s8.out (clA st x (.slice ao9 ns.length cap9)))
      have C10 : Hid (ClAt (W9.setRow DB (clA st x (.slice ao9 ns.length cap9))) CB st x (.slice ao ns.length cap)) := (setRow_other W9 DB CB _ (by have := s6.out; omega)).trans C9.out
      have D10 : Hid (ClAt (W9.setRow DB (clA st x (.slice ao9 ns.length cap9))) DB st x (.slice ao9 ns.length cap9)) := setRow_heap W9 DB _ _ 24 _ D9.out
      have B10 : Hid (Below CB W1 (W9.setRow DB (clA st x (.slice ao9 ns.length cap9)))) := below_setRow B9.out (by have := s6.out; omega) _
      clear hb hT9 C8 D8 B8 PG2 C9 B9
      go_upto_region 26 with (refine wpList_store_row rfl 24 (.tmp 10) (.tmp 114) rfl DB (clA st x (.slice ao9 ns.length cap9)) (by kernel_rfl) (by kernel_rfl) 24 _ D9.out infoCl rfl (clA_one _ _ rfl) ?_)
      clear D9
      obtain ⟨W10, hW10⟩ : ∃ W10, W10 = W9.setRow DB (clA st x (.slice ao9 ns.length cap9)) := ⟨_, rfl⟩
      rw [← hW10] at T10 C10 D10 B10 ⊢
      clear hW10
      obtain ⟨aoX, nbX, capX, pvX, hvl, hnsX⟩ := tw_read T10.out hz9 n16.2 p64
      cases hvl
      have sX := hide (show CB ≤ W10.heap.size from Nat.le_of_lt (blk_lt C10.out))
      have SC := hide (sameCluster_eq W10.heap.size W10 st x ns ao nb 0 cap pv ((NS.out.below B10.out).more sX.out) ao9 nbX 0 cap9 pvX hnsX (Nat.le_refl _))
      clear hnsX hz9 T10
      go_wp2_with fail
      refine Calls.mono (num_anyT _ _) ?_
      rintro e W ⟨rfl, rfl⟩
      go_wp2_with (first | refine wpList_loadClY (.tmp 7) rfl (by rfl) CB st x _ (by kernel_rfl) C10.out ?_ | refine wpList_loadClY (.tmp 10) rfl (by rfl) DB st x _ (by kernel_rfl) D10.out ?_)
      refine Calls.mono SC.out ?_
      rintro e W11 ⟨rfl, hb⟩
      have B11 := hide (B10.out.trans (hb.mono sX.out))
      have sY := hide (Nat.le_trans sX.out hb.size)
      clear hb SC C10 D10 B10
      go_wp2_with fail
      refine Calls.mono (P3.out _ B11.out) ?_
      rintro e W12 ⟨hb, rfl⟩
      have B12 := hide (B11.out.trans (hb.mono sY.out))
      have sZ := hide (Nat.le_trans sY.out hb.size)
      clear hb P3 B11
      go_wp2_with fail
      refine Calls.mono (num_anyT _ _) ?_
      rintro e W ⟨rfl, rfl⟩
      go_wp2_with fail
      refine Calls.mono (P4.out _ B12.out) ?_
      rintro e W13 ⟨hb, rfl⟩
      have B13 := hide (EB.out _ (B12.out.trans (hb.mono sZ.out)))
      clear hb P4 B12
      go_wp2_with fail
      refine Calls.mono (num_anyT _ _) ?_
      rintro e W ⟨rfl, rfl⟩
      go_wp2_with fail
      go_ret
      exact ⟨rfl, B13.out⟩
end Go.Proofs.YtanlnelfbfjelaaDoor
