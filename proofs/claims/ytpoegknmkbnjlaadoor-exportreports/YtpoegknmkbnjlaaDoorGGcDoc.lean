import Derived.Test.YtpoegknmkbnjlaaDoorGGcName
namespace Go.Proofs.YtpoegknmkbnjlaaDoor
open Go.RowKit
/-- the document's table -/
def TabG (w : World) : Prop := ∀ j, j < 21 → w.cell? ⟨0, j, none⟩ = some (.int .i64 (hiS j))
theorem TabG.lt {w : World} (h : TabG w) : 0 < w.heap.size := World.block_lt_of_cell? w _ (h 0 (by omega))
theorem TabG.below {w w' : World} (h : TabG w) (hb : Below w.heap.size w w') : TabG w' := fun j hj => (hb.cell h.lt).trans (h j hj)
theorem lo_one {i : Nat} (h : i < 20) : loS i = 1 := by
  have : i = 0 ∨ i = 1 ∨ i = 2 ∨ i = 3 ∨ i = 4 ∨ i = 5 ∨ i = 6 ∨ i = 7 ∨ i = 8 ∨ i = 9 ∨ i = 10 ∨ i = 11 ∨ i = 12 ∨ i = 13 ∨ i = 14 ∨ i = 15 ∨ i = 16 ∨ i = 17 ∨ i = 18 ∨ i = 19 := by omega
  rcases this with rfl | rfl | rfl | rfl | rfl | rfl | rfl | rfl | rfl | rfl | rfl | rfl | rfl | rfl | rfl | rfl | rfl | rfl | rfl | rfl <;> rfl
theorem lo_home : loS 20 = 0 := rfl
def VAt (w : World) (b : Nat) (x : Nat → Int) : Prop := w.heap[b]? = some (.cells (vA x) 110)
theorem VAt.c {w : World} {b : Nat} {x : Nat → Int} (h : VAt w b x) (i : Nat) (hi : i < 21) : w.cell? ⟨b, i, none⟩ = some (.int .i64 (x i)) := by
  unfold World.cell?
  rw [show w.heap[b]? = _ from h]
  exact vA_at x i hi
set_option maxHeartbeats 8000000 in
set_option maxRecDepth 100000 in
set_option linter.unusedSimpArgs false in
set_option linter.unusedVariables false in
theorem set_any (w : World) (st : ByteArray) (x : Nat → Int) (nv : Value) (hT : TabG w) :
    Calls Tryd.prog 44 #[.agg (clA st x nv)] w fun e w' => e = .returned (.bool (sfP x)) ∧ Below w.heap.size w w' := by
  obtain ⟨W0, hW0⟩ : ∃ W0, W0 = w.alloc (.cells (clA st x nv) 24) := ⟨_, rfl⟩
  have C0 : Hid (ClAt W0 w.heap.size st x nv) := by rw [hW0]; exact new_cl _ _ _ _
  have B0 : Hid (Below w.heap.size w W0) := by rw [hW0]; exact (Below.refl _ _).alloc (Nat.le_refl _) _
  have VA := hide (values_any W0 st x nv)
  have HT := hide hT
  clear hT
  go_enter Tryd.func44, Tryd.ntmps44
  go_upto_region 1 with fail
  rw [← hW0]
  clear hW0
  go_wp2_with (refine wpList_loadCl rfl (.tmp 1) rfl w.heap.size st x _ rfl C0.out ?_)
  refine Calls.mono VA.out ?_
  rintro e W1 ⟨rfl, hb⟩
  obtain ⟨W2, hW2⟩ : ∃ W2, W2 = W1.alloc (.cells (vA x) 110) := ⟨_, rfl⟩
  have B1 := hide (B0.out.trans (hb.mono B0.out.size))
  have C1 := C0.out.below hb
  have C2 : Hid (ClAt W2 w.heap.size st x nv) := by rw [hW2]; exact C1.below ((Below.refl _ _).alloc (Nat.le_refl _) _)
  have B2 : Hid (Below w.heap.size w W2) := by rw [hW2]; exact B1.out.alloc B1.out.size _
  have V2 : Hid (VAt W2 W1.heap.size x) := by rw [hW2]; exact heap_last _ _
  clear VA C0 B0 hb C1 B1
  go_wp2_with (refine wpList_storeV (w0 := W1) rfl (.tmp 3) (.tmp 6) rfl _ rfl rfl x rfl z21 rfl rfl ?_)
  rw [← hW2]
  clear hW2
  have HT2 := hide (HT.out.below B2.out)
  go_loopw [4] (fun vi wr => ∃ (q : Nat), q ≤ 21 ∧ vi = .int .i64 (q : Int) ∧ Hid ((List.range q).all (sfAt x) = true) ∧ Below W2.heap.size W2 wr) (fun vi _ => 21 - (intOf vi).toNat)
  case atStart => exact ⟨0, Nat.zero_le _, rfl, rfl, Below.refl _ _⟩
  case round =>
    obtain ⟨q, hq, rfl, hA, hB⟩ := hrel
    have HB := hide hB
    clear hB
    by_cases hql : q < 21
    case pos =>
      have hqi : (q : Int) < 21 := by omega
      have d1 : wr.cell? ⟨W1.heap.size, q, none⟩ = some (.int .i64 (x q)) := (HB.out.cell (show W1.heap.size < W2.heap.size from blk_lt V2.out)).trans (V2.out.c q hql)
      have d2 : wr.cell? ⟨0, q, none⟩ = some (.int .i64 (hiS q)) := (HT2.out.below HB.out) q hql
      have HTk := hide (range_step hA.out)
      have HF := hide (range_no (f := sfAt x) hql)
      have hz : Hid (sfAt x q = (decide (loS q ≤ x q) && decide (x q ≤ hiS q))) := rfl
      have hl : (q < 20 ∧ loS q = 1) ∨ (q = 20 ∧ loS q = 0) := by
        by_cases h20 : q < 20
        · exact Or.inl ⟨h20, lo_one h20⟩
        · obtain rfl : q = 20 := by omega
          exact Or.inr ⟨rfl, lo_home⟩
      generalize loS q = l at *
      generalize hiS q = hh at *
      generalize x q = v at *
      by_cases v1 : v < 0
      · have HZ := hide (HF.out (by rw [hz.out, decide_eq_false (by omega)]; rfl))
        have v1' : decide (v < 0) = true := decide_eq_true v1
        clear hl
        go_wp2_with fail
        go_quiet (fail)
        replace HB : Hid (Below W2.heap.size W2 (wr.drewN nq)) := HB.out.trans ⟨rfl, rfl, rfl, Nat.le_refl _, fun _ _ => rfl⟩
        generalize wr.drewN nq = W3 at *
        clear d1 d2
        go_wp2_with fail
        go_ret
        exact ⟨ret_bool (by unfold sfP; rw [HZ.out]; rfl), B2.out.trans (HB.out.mono B2.out.size)⟩
      have v1' : decide (v < 0) = false := decide_eq_false v1
      by_cases v2 : hh < v
      · have HZ := hide (HF.out (by rw [hz.out, decide_eq_false (by omega : ¬ v ≤ hh), Bool.and_false]))
        have v2' : decide (hh < v) = true := decide_eq_true v2
        clear hl
        go_wp2_with fail
        go_quiet (fail)
        replace HB : Hid (Below W2.heap.size W2 (wr.drewN nq)) := HB.out.trans ⟨rfl, rfl, rfl, Nat.le_refl _, fun _ _ => rfl⟩
        generalize wr.drewN nq = W3 at *
        clear d1 d2
        go_wp2_with fail
        go_ret
        exact ⟨ret_bool (by unfold sfP; rw [HZ.out]; rfl), B2.out.trans (HB.out.mono B2.out.size)⟩
      have v2' : decide (hh < v) = false := decide_eq_false v2
      by_cases v3 : v = 0
      · subst v3
        by_cases q20 : q < 20
        · have HZ := hide (HF.out (by rw [hz.out, decide_eq_false (by omega)]; rfl))
          have q20' : decide ((q : Int) < 20) = true := decide_eq_true (by omega)
          clear hl
          go_wp2_with fail
          go_quiet (fail)
          replace HB : Hid (Below W2.heap.size W2 (wr.drewN nq)) := HB.out.trans ⟨rfl, rfl, rfl, Nat.le_refl _, fun _ _ => rfl⟩
          generalize wr.drewN nq = W3 at *
          clear d1 d2
          go_wp2_with fail
          go_ret
          exact ⟨ret_bool (by unfold sfP; rw [HZ.out]; rfl), B2.out.trans (HB.out.mono B2.out.size)⟩
        · have HZ := hide (HTk.out (by rw [hz.out, decide_eq_true (by omega), decide_eq_true (by omega)]; rfl))
          have q20' : decide ((q : Int) < 20) = false := decide_eq_false (by omega)
          clear hl
          go_wp2_with fail
          go_quiet (fail)
          replace HB : Hid (Below W2.heap.size W2 (wr.drewN nq)) := HB.out.trans ⟨rfl, rfl, rfl, Nat.le_refl _, fun _ _ => rfl⟩
          generalize wr.drewN nq = W3 at *
          clear d1 d2
          go_wp2_with fail
          go_roundw
          case rel => exact ⟨q + 1, by omega, by go_num, HZ.out, HB.out⟩
          case measure => simp [intOf]; omega
      · have HZ := hide (HTk.out (by rw [hz.out, decide_eq_true (by omega), decide_eq_true (by omega)]; rfl))
        have v3' : (v == 0) = false := by simpa using v3
        clear hl
        go_wp2_with fail
        go_quiet (fail)
        replace HB : Hid (Below W2.heap.size W2 (wr.drewN nq)) := HB.out.trans ⟨rfl, rfl, rfl, Nat.le_refl _, fun _ _ => rfl⟩
        generalize wr.drewN nq = W3 at *
        clear d1 d2
        go_wp2_with fail
        go_roundw
        case rel => exact ⟨q + 1, by omega, by go_num, HZ.out, HB.out⟩
        case measure => simp [intOf]; omega
    case neg =>
      obtain rfl : q = 21 := by omega
      have CW := C2.out.below HB.out
      have y4 := CW.x4
      have y7 := CW.x7
      have y9 := CW.x9
      have y10 := CW.x10
      have HZ : Hid (sfP x = (decide (x 4 ≤ x 7) && decide (x 9 ≤ x 10))) := by
        show sfP x = _
        unfold sfP
        rw [hA.out, Bool.true_and]
      clear CW hA
      generalize x 4 = z4 at *
      generalize x 7 = z7 at *
      generalize x 9 = z9 at *
      generalize x 10 = z10 at *
      by_cases k1 : z4 ≤ z7
      · have k1' : decide (z4 ≤ z7) = true := decide_eq_true k1
        go_wp2_with fail
        go_ret
        exact ⟨ret_bool (by rw [HZ.out, k1']; rfl), B2.out.trans (HB.out.mono B2.out.size)⟩
      · have k1' : decide (z4 ≤ z7) = false := decide_eq_false k1
        go_wp2_with fail
        go_ret
        exact ⟨ret_bool (by rw [HZ.out, k1']; rfl), B2.out.trans (HB.out.mono B2.out.size)⟩
/-- what a reader of a definition has, behind its box -/
structure Boxed (N : Nat) (w W0 : World) (st : ByteArray) (x : Nat → Int) (ao : Option Addr) (b o cap : Nat) (pv : Nat → Value) (ns : List ND) : Prop where
  cl : ClAt W0 w.heap.size st x (.slice ao ns.length cap)
  nd : NsAt N W0 ao b o pv ns
  bel : Below w.heap.size w W0
theorem boxed {N : Nat} {w : World} (st : ByteArray) (x : Nat → Int) {ao : Option Addr} {b o : Nat} (cap : Nat) {pv : Nat → Value} {ns : List ND} (h : NsAt N w ao b o pv ns) (hN : N ≤ w.heap.size) : ∃ W0, W0 = w.alloc (.cells (clA st x (.slice ao ns.length cap)) 24) ∧ Boxed N w W0 st x ao b o cap pv ns :=
  ⟨_, rfl, new_cl _ _ _ _, h.below ((Below.refl _ _).alloc hN _), (Below.refl _ _).alloc (Nat.le_refl _) _⟩
set_option maxHeartbeats 8000000 in
set_option maxRecDepth 100000 in
set_option linter.unusedSimpArgs false in
set_option linter.unusedVariables false in
theorem parts_any (N : Nat) (w : World) (st : ByteArray) (x : Nat → Int) (ao : Option Addr) (b o cap : Nat) (pv : Nat → Value) (ns : List ND) (h : NsAt N w ao b o pv ns) (hN : N ≤ w.heap.size) (h16 : ns.length ≤ 16) :
    Calls Tryd.prog 26 #[.agg (clA st x (.slice ao ns.length cap))] w fun e w' => e = .returned (.int .i64 (ptN ns : Int)) ∧ Below w.heap.size w w' := by
  obtain ⟨W0, hW0, hX⟩ := boxed st x cap h hN
  have HX := hide hX
  clear hX h
  have nv := HX.out.cl.nv
  go_enter Tryd.func26, Tryd.ntmps26
  go_upto_region 1 with fail
  rw [← hW0]
  clear hW0
  go_wp2_with fail
  go_loopw [3, 4] (fun vc vi wr => ∃ (q : Nat), q ≤ ns.length ∧ vi = .int .i64 (q : Int) ∧ vc = .int .i64 ((flat (ns.take q)).length : Int) ∧ wr = W0) (fun _ vi _ => ns.length - (intOf vi).toNat)
  case atStart => exact ⟨0, Nat.zero_le _, rfl, rfl, rfl⟩
  case round =>
    obtain ⟨q, hq, rfl, rfl, rfl⟩ := hrel
    by_cases hql : q < ns.length
    case pos =>
      have hao := HX.out.nd.at0 (by omega)
      subst hao
      have hqi : (q : Int) < (ns.length : Int) := by omega
      have e1 := HX.out.nd.cp q hql
      have HT := hide (flat_take_succ hql)
      have hk := flat_cap HX.out.nd q (by omega)
      obtain ⟨pa, pb, po, pc, hpv, hp⟩ := HX.out.nd.ps q hql
      have hpl := hp.len
      rw [hpv] at e1
      clear hpv hp
      generalize ns[q].ps.length = pl at *
      generalize hfl : (flat (ns.take q)).length = fl at *
      have ew := wrap_in (x := (fl : Int) + (pl : Int)) (by omega) (by omega)
      clear hk
      go_wp2_with fail
      go_roundw
      case rel => exact ⟨q + 1, by omega, by go_num, by rw [HT.out]; simp; exact ew, by first | rfl | trivial⟩
      case measure => simp [intOf]; omega
    case neg =>
      obtain rfl : q = ns.length := by omega
      rw [List.take_length]
      go_wp2_with fail
      go_ret
      exact ⟨rfl, HX.out.bel⟩
end Go.Proofs.YtpoegknmkbnjlaaDoor
namespace Go.Proofs.YtpoegknmkbnjlaaDoor
open Go.RowKit
theorem cntI_le (k : Int) (l : List Int) : cntI k l ≤ l.length := by
  induction l with
  | nil => exact Nat.le_refl _
  | cons x r ih =>
    simp only [cntI, List.length_cons]
    split <;> omega
theorem cntI_take (k : Int) (l : List Int) (q : Nat) (h : q < l.length) : cntI k (l.take (q + 1)) = cntI k (l.take q) + (if l[q] = k then 1 else 0) := by
  rw [List.take_succ_eq_append_getElem h, cntI_append]
  simp [cntI]
theorem cnt_next (k : Int) (ns : List ND) (i : Nat) (h : i < ns.length) : cntI k (flat (ns.take (i + 1))) = cntI k (flat (ns.take i)) + cntI k ns[i].ps := by
  rw [List.take_succ_eq_append_getElem h, flat_append, flat_one, cntI_append]
set_option maxHeartbeats 8000000 in
set_option maxRecDepth 100000 in
set_option linter.unusedSimpArgs false in
set_option linter.unusedVariables false in
theorem times_any (N : Nat) (w : World) (st : ByteArray) (x : Nat → Int) (ao : Option Addr) (b o cap : Nat) (pv : Nat → Value) (ns : List ND) (k : Int) (h : NsAt N w ao b o pv ns) (hN : N ≤ w.heap.size) (h16 : ns.length ≤ 16) :
    Calls Tryd.prog 63 #[.agg (clA st x (.slice ao ns.length cap)), .int .i64 k] w fun e w' => e = .returned (.int .i64 (cntI k (flat ns) : Int)) ∧ Below w.heap.size w w' := by
  obtain ⟨W0, hW0, hX⟩ := boxed st x cap h hN
  have HX := hide hX
  clear hX h
  have nv := HX.out.cl.nv
  go_enter Tryd.func63, Tryd.ntmps63
  go_upto_region 1 with fail
  rw [← hW0]
  clear hW0
  go_wp2_with fail
  go_loopw [5, 6] (fun vc vi wr => ∃ (i : Nat), i ≤ ns.length ∧ vi = .int .i64 (i : Int) ∧ vc = .int .i64 (cntI k (flat (ns.take i)) : Int) ∧ wr = W0) (fun _ vi _ => ns.length - (intOf vi).toNat)
  case atStart => exact ⟨0, Nat.zero_le _, rfl, rfl, rfl⟩
  case round =>
    obtain ⟨i, hi, rfl, rfl, rfl⟩ := hrel
    by_cases hil : i < ns.length
    case neg =>
      obtain rfl : i = ns.length := by omega
      rw [List.take_length]
      go_wp2_with fail
      go_ret
      exact ⟨rfl, HX.out.bel⟩
    case pos =>
      have hao := HX.out.nd.at0 (by omega)
      subst hao
      have hii : (i : Int) < (ns.length : Int) := by omega
      have e1 := HX.out.nd.cp i hil
      obtain ⟨pa, pb, po, pc, hpv, hp⟩ := HX.out.nd.ps i hil
      have hpl := hp.len
      rw [hpv] at e1
      have HP := hide hp
      have HN1 := hide (cnt_next k ns i hil)
      have c1 := cntI_le k (flat (ns.take i))
      have c2 := flat_cap HX.out.nd i (by omega)
      clear hpv hp
      generalize ns[i].ps = ps at *
      generalize cntI k (flat (ns.take i)) = ci at *
      have ci2 : ci ≤ 16 * 17592186043904 := by omega
      clear c1 c2
      go_wp2_with fail
      go_loopw [5, 7] (fun vc vj wq => ∃ (j : Nat), j ≤ ps.length ∧ vj = .int .i64 (j : Int) ∧ vc = .int .i64 ((ci + cntI k (ps.take j) : Nat) : Int) ∧ wq = wr) (fun _ vj _ => ps.length - (intOf vj).toNat)
      case atStart => exact ⟨0, Nat.zero_le _, rfl, rfl, rfl⟩
      case round =>
        obtain ⟨j, hj, rfl, rfl, rfl⟩ := hrel
        by_cases hjl : j < ps.length
        case neg =>
          obtain rfl : j = ps.length := by omega
          rw [List.take_length]
          go_wp2_with fail
          go_roundw
          case rel => exact ⟨i + 1, by omega, by go_num, by rw [HN1.out], by first | rfl | trivial⟩
          case measure => simp [intOf]; omega
        case pos =>
          have hpa := HP.out.at0 (by omega)
          subst hpa
          have hji : (j : Int) < (ps.length : Int) := by omega
          have cx := HP.out.c j hjl
          have HC := hide (cntI_take k ps j hjl)
          have c3 := cntI_le k (ps.take j)
          rw [List.length_take] at c3
          generalize cntI k (ps.take j) = cj at *
          generalize ps[j] = y at *
          have ew := wrap_in (x := ((ci + cj : Nat) : Int) + 1) (by omega) (by omega)
          by_cases hy : y = k
          · have hC := HC.out
            rw [if_pos hy] at hC
            have HC2 := hide hC
            clear hC HC
            subst hy
            go_wp2_with fail
            go_roundw
            case rel => exact ⟨j + 1, by omega, by go_num, by rw [HC2.out]; go_num, by first | rfl | trivial⟩
            case measure => simp [intOf]; omega
          · have hC := HC.out
            rw [if_neg hy, Nat.add_zero] at hC
            have HC2 := hide hC
            clear hC HC
            have hy' : (y == k) = false := by simpa using hy
            go_wp2_with fail
            go_roundw
            case rel => exact ⟨j + 1, by omega, by go_num, by rw [HC2.out]; rfl, by first | rfl | trivial⟩
            case measure => simp [intOf]; omega
/-- a definition's readers in a row: all they need of a world -/
structure Stand (N : Nat) (c : Nat) (W : World) (st : ByteArray) (x : Nat → Int) (ao : Option Addr) (b o cap : Nat) (pv : Nat → Value) (ns : List ND) : Prop where
  cl : ClAt W c st x (.slice ao ns.length cap)
  nd : NsAt N W ao b o pv ns
  le : N ≤ W.heap.size
theorem Stand.below {N c : Nat} {W W' : World} {st : ByteArray} {x : Nat → Int} {ao : Option Addr} {b o cap : Nat} {pv : Nat → Value} {ns : List ND} (h : Stand N c W st x ao b o cap pv ns) (hb : Below W.heap.size W W') : Stand N c W' st x ao b o cap pv ns :=
  ⟨h.cl.below hb, h.nd.below (hb.mono h.le), Nat.le_trans h.le hb.size⟩
theorem Boxed.stand {N : Nat} {w W0 : World} {st : ByteArray} {x : Nat → Int} {ao : Option Addr} {b o cap : Nat} {pv : Nat → Value} {ns : List ND} (h : Boxed N w W0 st x ao b o cap pv ns) (hN : N ≤ w.heap.size) : Stand N w.heap.size W0 st x ao b o cap pv ns := ⟨h.cl, h.nd, Nat.le_trans hN h.bel.size⟩
theorem dlB_parts {ns : List ND} (h1 : 1 ≤ (flat ns).length) (h2 : (flat ns).length ≤ 64) (h3 : ∀ i : Nat, i < (flat ns).length → cntI (i : Int) (flat ns) = 1) (h4 : ∀ i (h : i < ns.length), Rising ns[i].ps) : dlB ns = true :=
  dlB_true ⟨h1, h2, h3, fun n hn => by obtain ⟨q, hq, rfl⟩ := List.getElem_of_mem hn; exact h4 q hq⟩
set_option maxHeartbeats 8000000 in
set_option maxRecDepth 100000 in
set_option linter.unusedSimpArgs false in
set_option linter.unusedVariables false in
theorem dealt_any (N : Nat) (w : World) (st : ByteArray) (x : Nat → Int) (ao : Option Addr) (b o cap : Nat) (pv : Nat → Value) (ns : List ND) (h : NsAt N w ao b o pv ns) (hN : N ≤ w.heap.size) (h16 : ns.length ≤ 16) :
    Calls Tryd.prog 45 #[.agg (clA st x (.slice ao ns.length cap))] w fun e w' => e = .returned (.bool (dlB ns)) ∧ Below w.heap.size w w' := by
  obtain ⟨W0, hW0, hX⟩ := boxed st x cap h hN
  have HX := hide (hX.stand hN)
  have B0 := hide hX.bel
  clear hX h
  have PA := hide (parts_any N W0 st x ao b o cap pv ns HX.out.nd HX.out.le h16)
  go_enter Tryd.func45, Tryd.ntmps45
  go_upto_region 1 with fail
  rw [← hW0]
  clear hW0
  go_wp2_with (refine wpList_loadCl rfl (.tmp 1) rfl w.heap.size st x _ rfl HX.out.cl ?_)
  refine Calls.mono PA.out ?_
  rintro e W1 ⟨rfl, hb⟩
  have H1 := hide (HX.out.below hb)
  have B1 := hide (B0.out.trans (hb.mono B0.out.size))
  clear hb HX B0 PA
  have hpt : Hid (ptN ns = (flat ns).length) := rfl
  by_cases p1 : ptN ns < 1
  · have p1' : (ptN ns : Int) < 1 := by omega
    have ND : Hid (dlB ns = false) := dlB_false (fun d => by have := d.p1; have := hpt.out; omega)
    go_wp2_with fail
    go_ret
    exact ⟨ret_bool ND.out.symm, B1.out⟩
  have p1' : ¬ (ptN ns : Int) < 1 := by omega
  by_cases p2 : 64 < ptN ns
  · have p2' : (64 : Int) < (ptN ns : Int) := by omega
    have ND : Hid (dlB ns = false) := dlB_false (fun d => by have := d.p2; have := hpt.out; omega)
    go_wp2_with fail
    go_ret
    exact ⟨ret_bool ND.out.symm, B1.out⟩
  have p2' : ¬ (64 : Int) < (ptN ns : Int) := by omega
  go_wp2_with fail
  go_loopw [4] (fun vi wr => ∃ (q : Nat), q ≤ ptN ns ∧ vi = .int .i64 (q : Int) ∧ Hid (∀ i : Nat, i < q → cntI (i : Int) (flat ns) = 1) ∧ Below W1.heap.size W1 wr) (fun vi _ => ptN ns - (intOf vi).toNat)
  case atStart => exact ⟨0, Nat.zero_le _, rfl, (fun i hi => absurd hi (Nat.not_lt_zero _)), Below.refl _ _⟩
  case round =>
    obtain ⟨q, hq, rfl, hA, hB⟩ := hrel
    have HB := hide hB
    clear hB
    by_cases hql : q < ptN ns
    case pos =>
      have hqi : (q : Int) < (ptN ns : Int) := by omega
      have H2 := hide (H1.out.below HB.out)
      have TI := hide (times_any N wr st x ao b o cap pv ns (q : Int) H2.out.nd H2.out.le h16)
      have NDg : Hid (cntI (q : Int) (flat ns) ≠ 1 → dlB ns = false) := fun hne => dlB_false (fun d => hne (d.once q (by have := hpt.out; omega)))
      have AQ : Hid (cntI (q : Int) (flat ns) = 1 → ∀ i : Nat, i < q + 1 → cntI (i : Int) (flat ns) = 1) := fun he i hi => by
        by_cases hiq : i < q
        · exact hA.out i hiq
        · obtain rfl : i = q := by omega
          exact he
      generalize cntI (q : Int) (flat ns) = c at *
      go_wp2_with (refine wpList_loadCl rfl (.tmp 1) rfl w.heap.size st x _ rfl H2.out.cl ?_)
      refine Calls.mono TI.out ?_
      rintro e W2 ⟨rfl, hb⟩
      have HB2 := hide (HB.out.trans (hb.mono HB.out.size))
      clear hb TI H2
      by_cases hc : c = 1
      · have AQ2 := hide (AQ.out hc)
        subst hc
        clear AQ NDg
        go_wp2_with fail
        go_roundw
        case rel => exact ⟨q + 1, by omega, by go_num, AQ2.out, HB2.out⟩
        case measure => simp [intOf]; omega
      · have ND := hide (NDg.out hc)
        have hc' : ((c : Int) != 1) = true := by simp; omega
        clear AQ NDg
        go_wp2_with fail
        go_ret
        exact ⟨ret_bool ND.out.symm, B1.out.trans (HB2.out.mono B1.out.size)⟩
    case neg =>
      obtain rfl : q = ptN ns := by omega
      have H2 := hide (H1.out.below HB.out)
      have B2 := hide (B1.out.trans (HB.out.mono B1.out.size))
      have HA := hide hA.out
      clear hA HB H1 B1
      have nv := H2.out.cl.nv
      have hqq : ¬ (ptN ns : Int) < (ptN ns : Int) := by omega
      go_wp2_with fail
      generalize wr = WA at *
      go_loopw [5] (fun vi wq => ∃ (i : Nat), i ≤ ns.length ∧ vi = .int .i64 (i : Int) ∧ Hid (∀ q (h : q < ns.length), q < i → Rising ns[q].ps) ∧ Below WA.heap.size WA wq) (fun vi _ => ns.length - (intOf vi).toNat)
      case atStart => exact ⟨0, Nat.zero_le _, rfl, (fun q _ hq => absurd hq (Nat.not_lt_zero _)), Below.refl _ _⟩
      case round =>
        obtain ⟨i, hi, rfl, hR, hB⟩ := hrel
        have HB := hide hB
        clear hB nv
        have H3 := hide (H2.out.below HB.out)
        have nv := H3.out.cl.nv
        by_cases hil : i < ns.length
        case neg =>
          obtain rfl : i = ns.length := by omega
          have hii : ¬ (ns.length : Int) < (ns.length : Int) := by omega
          have DE := hide (dlB_parts (ns := ns) (by have := hpt.out; omega) (by have := hpt.out; omega) (by rw [← hpt.out]; exact HA.out) (fun q hq => hR.out q hq hq))
          go_wp2_with fail
          go_ret
          exact ⟨ret_bool DE.out.symm, B2.out.trans (HB.out.mono B2.out.size)⟩
        case pos =>
          have hao := H2.out.nd.at0 (by omega)
          subst hao
          have hii : (i : Int) < (ns.length : Int) := by omega
          have e1 := H3.out.nd.cp i hil
          obtain ⟨pa, pb, po, pc, hpv, hp⟩ := H2.out.nd.ps i hil
          have hpl := hp.len
          rw [hpv] at e1
          have P2 := hide hp
          have NDr : Hid (¬ Rising ns[i].ps → dlB ns = false) := fun hne => dlB_false (fun d => hne (d.rise _ (List.getElem_mem hil)))
          have RN : Hid (Rising ns[i].ps → ∀ q (h : q < ns.length), q < i + 1 → Rising ns[q].ps) := fun he q hq hqi => by
            by_cases h' : q < i
            · exact hR.out q hq h'
            · obtain rfl : q = i := by omega
              exact he
          have hNs : Hid (N ≤ WA.heap.size) := H2.out.le
          clear hpv hp hR
          generalize ns[i].ps = ps at *
          go_wp2_with fail
          clear nv e1 H3
          go_loopw [7] (fun vj wq => ∃ (j : Nat), 1 ≤ j ∧ vj = .int .i64 (j : Int) ∧ (j ≤ ps.length ∨ j = 1) ∧ Hid (∀ q (h : q + 1 < ps.length), q + 1 < j → ps[q] < ps[q + 1]) ∧ Below WA.heap.size WA wq) (fun vj _ => ps.length - (intOf vj).toNat)
          case atStart => exact ⟨1, Nat.le_refl _, rfl, Or.inr rfl, (fun q _ hq => absurd hq (by omega)), HB.out⟩
          case round =>
            clear HB
            obtain ⟨j, hj1, rfl, hj2, hS, hB⟩ := hrel
            have HB := hide hB
            clear hB
            by_cases hjl : j < ps.length
            case neg =>
              have hji : ¬ (j : Int) < (ps.length : Int) := by omega
              have RI := hide (RN.out (fun q hq => hS.out q hq (by omega)))
              clear RN hS NDr
              go_wp2_with fail
              go_roundw
              case rel => exact ⟨i + 1, by omega, by go_num, RI.out, HB.out⟩
              case measure => simp [intOf]; omega
            case pos =>
              have hpa := P2.out.at0 (by omega)
              subst hpa
              have hji : (j : Int) < (ps.length : Int) := by omega
              have PW := P2.out.below (HB.out.mono hNs.out)
              have cx := PW.c j hjl
              obtain ⟨j', rfl⟩ : ∃ j', j = j' + 1 := ⟨j - 1, by omega⟩
              have cy := PW.c j' (by omega)
              have ej : ((j' + 1 : Nat) : Int) - 1 = (j' : Int) := by omega
              have ew : IntKind.i64.wrap (((j' + 1 : Nat) : Int) - 1) = (j' : Int) := by rw [i64_in (by omega) (by omega)]; omega
              have ew2 : wrap64 (((j' + 1 : Nat) : Int) - 1) = (j' : Int) := by rw [wrap_in (by omega) (by omega)]; omega
              clear PW
              have SN : Hid (ps[j'] < ps[j' + 1] → ∀ q (h : q + 1 < ps.length), q + 1 < j' + 1 + 1 → ps[q] < ps[q + 1]) := fun he q hq hqj => by
                by_cases h' : q + 1 < j' + 1
                · exact hS.out q hq h'
                · obtain rfl : q = j' := by omega
                  exact he
              have NR : Hid (ps[j' + 1] ≤ ps[j'] → ¬ Rising ps) := fun hle hr => by
                have := hr j' hjl
                omega
              generalize ps[j'] = yA at *
              generalize ps[j' + 1] = yB at *
              by_cases hy : yB ≤ yA
              · have ND := hide (NDr.out (NR.out hy))
                have hy' : decide (yB ≤ yA) = true := decide_eq_true hy
                go_wp2_with fail
                go_quiet (fail)
                replace HB := hide (HB.out.trans (c := wr.drewN nq) ⟨rfl, rfl, rfl, Nat.le_refl _, fun _ _ => rfl⟩)
                generalize wr.drewN nq = W3 at *
                clear cx cy
                go_wp2_with fail
                go_ret
                exact ⟨ret_bool ND.out.symm, B2.out.trans (HB.out.mono B2.out.size)⟩
              · have S2 := hide (SN.out (by omega))
                have hy' : decide (yB ≤ yA) = false := decide_eq_false hy
                go_wp2_with fail
                go_quiet (fail)
                replace HB := hide (HB.out.trans (c := wr.drewN nq) ⟨rfl, rfl, rfl, Nat.le_refl _, fun _ _ => rfl⟩)
                generalize wr.drewN nq = W3 at *
                clear cx cy
                go_wp2_with fail
                go_roundw
                case rel => exact ⟨j' + 1 + 1, by omega, by go_num, by omega, S2.out, HB.out⟩
                case measure => simp [intOf]; omega
end Go.Proofs.YtpoegknmkbnjlaaDoor
namespace Go.Proofs.YtpoegknmkbnjlaaDoor
open Go.RowKit
theorem exec_loadCl {ρ : Operand → Value} {o : Oper} {w : World} {b : Nat} {st : ByteArray} {x : Nat → Int} {nv : Value} (p : Operand) (ho : o.op = .load 24 p) (hx : ρ p = .pointer (some ⟨b, 0, none⟩)) (hO : ClAt w b st x nv) : (execOp ρ o).run Tryd.prog w = .ok (.value (.agg (clA st x nv))) w := by
  unfold execOp
  simp only [ho, hx, Sem.run_bind, run_loadCl w b st x nv hO, Result.andThen_ok, Sem.run_pure]
set_option maxHeartbeats 8000000 in
set_option maxRecDepth 100000 in
set_option linter.unusedSimpArgs false in
set_option linter.unusedVariables false in
/-- the program's Check -/
theorem check_any (N : Nat) (w : World) (st : ByteArray) (x : Nat → Int) (ao : Option Addr) (b o cap : Nat) (pv : Nat → Value) (ns : List ND) (h : NsAt N w ao b o pv ns) (hN : N ≤ w.heap.size) (hs : st.size ≤ 9223372036854775807) :
    Calls Tryd.prog 21 #[.agg (clA st x (.slice ao ns.length cap))] w fun e w' => e = .returned (.int .i64 (errP st x ns)) ∧ Below w.heap.size w w' := by
  obtain ⟨W0, hW0, hX⟩ := boxed st x cap h hN
  have HX := hide (hX.stand hN)
  have B0 := hide hX.bel
  clear hX h
  have NO := hide (nodesOf_any N W0 st x ao b o cap pv ns HX.out.nd HX.out.le hs)
  go_enter Tryd.func21, Tryd.ntmps21
  go_upto_region 1 with fail
  rw [← hW0]
  clear hW0
  go_wp2_with (refine wpList_loadCl rfl (.tmp 1) rfl w.heap.size st x _ rfl HX.out.cl ?_)
  refine Calls.mono NO.out ?_
  intro e W1 hn
  obtain ⟨v, rfl, _, _⟩ := hn.out
  have B1 := hide (B0.out.trans (hn.bel.mono B0.out.size))
  clear hn NO HX
  go_wp2_with fail
  go_ret
  exact ⟨rfl, B1.out⟩
set_option maxHeartbeats 8000000 in
set_option maxRecDepth 100000 in
set_option linter.unusedSimpArgs false in
set_option linter.unusedVariables false in
/-- the document's Check -/
theorem rcheck_any (N : Nat) (w : World) (st : ByteArray) (x : Nat → Int) (ao : Option Addr) (b o cap : Nat) (pv : Nat → Value) (ns : List ND) (h : NsAt N w ao b o pv ns) (hN : N ≤ w.heap.size) (hs : st.size ≤ 9223372036854775807) (hT : TabG w) :
    Calls Tryd.prog 25 #[.agg (clA st x (.slice ao ns.length cap))] w fun e w' => e = .returned (.int .i64 (errP st x ns)) ∧ Below w.heap.size w w' := by
  obtain ⟨W0, hW0, hX⟩ := boxed st x cap h hN
  have HX := hide (hX.stand hN)
  have B0 := hide hX.bel
  have T0 := hide (hT.below hX.bel)
  have hlen : ns.length ≤ 4398046510976 := h.len
  clear hX h hT
  have hdef : Hid (errP st x ns = if nmP st = false then 63 else if sfP x = false then 64 else if nfP ns = false then 65 else if dlB ns = false then 66 else if (kpN ns : Int) < x 0 then 67 else if 512 < (ptN ns : Int) * x 0 * x 2 then 3 else 0) := rfl
  have hnf : Hid (nfP ns = (decide (1 ≤ ns.length) && decide (ns.length ≤ 16) && ns.all zOk)) := rfl
  have NM := hide (named_any st W0 hs)
  have c0 := HX.out.cl.st
  go_enter Tryd.func25, Tryd.ntmps25
  go_upto_region 1 with fail
  rw [← hW0]
  clear hW0
  go_wp2_with fail
  refine Calls.mono NM.out ?_
  rintro e W1 ⟨rfl, hw1⟩
  have hw1 := hw1.symm
  subst hw1
  clear NM c0
  cases h1 : nmP st with
  | false =>
    have HE := hide (show errP st x ns = 63 by rw [hdef.out, h1]; rfl)
    clear hdef
    go_wp2_with fail
    go_ret
    exact ⟨by rw [HE.out]; rfl, B0.out⟩
  | true =>
    have SF := hide (set_any W0 st x (.slice ao ns.length cap) T0.out)
    go_wp2_with (refine wpList_loadCl rfl (.tmp 1) rfl w.heap.size st x _ rfl HX.out.cl ?_)
    refine Calls.mono SF.out ?_
    rintro e W2 ⟨rfl, hb⟩
    have H2 := hide (HX.out.below hb)
    have B2 := hide (B0.out.trans (hb.mono B0.out.size))
    clear hb HX B0 T0 SF
    cases h2 : sfP x with
    | false =>
      have HE := hide (show errP st x ns = 64 by rw [hdef.out, h1, h2]; rfl)
      clear hdef
      go_wp2_with fail
      go_ret
      exact ⟨by rw [HE.out]; rfl, B2.out⟩
    | true =>
      have L0 : 1 ≤ x 0 ∧ x 0 ≤ 16 := sfP_lim h2 0 (by omega)
      have L2 : 1 ≤ x 2 ∧ x 2 ≤ 16 := sfP_lim h2 2 (by omega)
      have hdef2 : Hid (errP st x ns = if nfP ns = false then 65 else if dlB ns = false then 66 else if (kpN ns : Int) < x 0 then 67 else if 512 < (ptN ns : Int) * x 0 * x 2 then 3 else 0) := by
        show errP st x ns = _
        rw [hdef.out, h1, h2]
        rfl
      have bad : Hid (nfP ns = false → errP st x ns = 65) := fun e => by rw [hdef2.out, e]; rfl
      clear hdef
      have nv := H2.out.cl.nv
      by_cases n1 : ns.length < 1
      · have HE := hide (bad.out (by rw [hnf.out, decide_eq_false (by omega)]; rfl))
        have n1' : (ns.length : Int) < 1 := by omega
        clear hdef2 bad
        go_wp2_with fail
        go_ret
        exact ⟨by rw [HE.out]; rfl, B2.out⟩
      have n1' : ¬ (ns.length : Int) < 1 := by omega
      by_cases n2 : 16 < ns.length
      · have HE := hide (bad.out (by rw [hnf.out, decide_eq_false (by omega : ¬ ns.length ≤ 16), Bool.and_false]; rfl))
        have n2' : (16 : Int) < (ns.length : Int) := by omega
        clear hdef2 bad
        go_wp2_with fail
        go_ret
        exact ⟨by rw [HE.out]; rfl, B2.out⟩
      have n2' : ¬ (16 : Int) < (ns.length : Int) := by omega
      have hnf2 : Hid (nfP ns = ns.all zOk) := by
        show nfP ns = _
        rw [hnf.out, decide_eq_true (by omega), decide_eq_true (by omega)]
        rfl
      clear hnf
      go_wp2_with fail
      go_loopw [3, 4] (fun vf vi wq => ∃ (i : Nat), i ≤ ns.length ∧ vi = .int .i64 (i : Int) ∧ vf = .int .i64 (kpN (ns.take i) : Int) ∧ Hid ((ns.take i).all zOk = true) ∧ wq = W2) (fun _ vi _ => ns.length - (intOf vi).toNat)
      case atStart => exact ⟨0, Nat.zero_le _, rfl, rfl, rfl, rfl⟩
      case round =>
        obtain ⟨i, hi, rfl, rfl, hA, rfl⟩ := hrel
        by_cases hil : i < ns.length
        case pos =>
          have hao := H2.out.nd.at0 (by omega)
          subst hao
          have hii : (i : Int) < (ns.length : Int) := by omega
          have e0 := H2.out.nd.cz i hil
          have e1 := H2.out.nd.cp i hil
          have HT := hide (all_take hil hA.out)
          have HF := hide (all_no (f := zOk) hil)
          have HK := hide (kpN_take hil)
          have hk := kpN_le (ns.take i)
          rw [List.length_take] at hk
          obtain ⟨pa, pb, po, pc, hpv, hp⟩ := H2.out.nd.ps i hil
          have hpl := hp.len
          rw [hpv] at e1
          clear hpv hp
          have hz : Hid (zOk ns[i] = (decide (0 ≤ ns[i].z) && decide (ns[i].z ≤ 7))) := rfl
          generalize ns[i].z = z at *
          generalize ns[i].ps.length = pl at *
          generalize kpN (ns.take i) = kk at *
          by_cases z0 : z < 0
          · have HE := hide (bad.out (by rw [hnf2.out]; exact HF.out (by rw [hz.out, decide_eq_false (by omega)]; rfl)))
            clear hdef2 bad
            go_wp2_with fail
            go_ret
            exact ⟨by rw [HE.out]; rfl, B2.out⟩
          by_cases z1 : 8 ≤ z
          · have HE := hide (bad.out (by rw [hnf2.out]; exact HF.out (by rw [hz.out, decide_eq_false (by omega : ¬ z ≤ 7), Bool.and_false])))
            clear hdef2 bad
            go_wp2_with fail
            go_ret
            exact ⟨by rw [HE.out]; rfl, B2.out⟩
          have HZ := hide (HT.out (by rw [hz.out, decide_eq_true (by omega), decide_eq_true (by omega)]; rfl))
          by_cases p0 : 0 < pl
          · have hK := HK.out
            rw [if_pos p0] at hK
            have HK2 := hide hK
            clear hK HK
            have p0' : (0 : Int) < (pl : Int) := by omega
            go_wp2_with fail
            go_roundw
            case rel => exact ⟨i + 1, by omega, by go_num, by rw [HK2.out]; simp, HZ.out, by first | rfl | trivial⟩
            case measure => simp [intOf]; omega
          · have hK := HK.out
            rw [if_neg p0, Nat.add_zero] at hK
            have HK2 := hide hK
            clear hK HK
            have p0' : ¬ (0 : Int) < (pl : Int) := by omega
            go_wp2_with fail
            go_roundw
            case rel => exact ⟨i + 1, by omega, by go_num, by rw [HK2.out]; rfl, HZ.out, by first | rfl | trivial⟩
            case measure => simp [intOf]; omega
        case neg =>
          obtain rfl : i = ns.length := by omega
          have hA' := hA.out
          rw [List.take_length] at hA' ⊢
          have hii : ¬ (ns.length : Int) < (ns.length : Int) := by omega
          have hdef3 : Hid (errP st x ns = if dlB ns = false then 66 else if (kpN ns : Int) < x 0 then 67 else if 512 < (ptN ns : Int) * x 0 * x 2 then 3 else 0) := by
            show errP st x ns = _
            rw [hdef2.out, hnf2.out, hA']
            rfl
          have DE := hide (dealt_any N wr st x ao b o cap pv ns H2.out.nd H2.out.le (by omega))
          clear hdef2 hA hA' bad hnf2
          go_wp2_with (refine wpList_loadCl rfl (.tmp 1) rfl w.heap.size st x _ rfl H2.out.cl ?_)
          refine Calls.mono DE.out ?_
          rintro e W3 ⟨rfl, hb⟩
          have H3 := hide (H2.out.below hb)
          have B3 := hide (B2.out.trans (hb.mono B2.out.size))
          clear hb nv H2 B2 DE
          have p2 : Hid (dlB ns = true → ptN ns ≤ 64) := fun hd => by
            by_cases hD : Dealt ns
            · exact hD.p2
            · rw [dlB_false hD] at hd
              cases hd
          cases h4 : dlB ns with
          | false =>
            have HE := hide (show errP st x ns = 66 by rw [hdef3.out, h4]; rfl)
            clear hdef3
            go_wp2_with fail
            go_ret
            exact ⟨by rw [HE.out]; rfl, B3.out⟩
          | true =>
            have pp := p2.out h4
            have hkl := kpN_le ns
            have x0 := H3.out.cl.x0
            by_cases h5 : (kpN ns : Int) < x 0
            case pos =>
              have HE := hide (show errP st x ns = 67 by rw [hdef3.out, h4, if_neg (by simp), if_pos h5])
              clear hdef3
              go_wp2_with fail
              go_ret
              exact ⟨by rw [HE.out]; rfl, B3.out⟩
            case neg =>
              have hdef4 : Hid (errP st x ns = if 512 < (ptN ns : Int) * x 0 * x 2 then 3 else 0) := by
                show errP st x ns = _
                rw [hdef3.out, h4, if_neg (by simp), if_neg h5]
              clear hdef3
              obtain ⟨f1, f2, f3, f4⟩ := files_in (a := (ptN ns : Int)) (b := x 0) (c := x 2) (by omega) (by omega) L0.1 L0.2 L2.1 L2.2
              have m1 := wrap_in (x := (ptN ns : Int) * x 0) (by omega) (by omega)
              have m2 := wrap_in (x := (ptN ns : Int) * x 0 * x 2) (by omega) (by omega)
              have m1' : IntKind.i64.wrap ((ptN ns : Int) * x 0) = (ptN ns : Int) * x 0 := i64_in (by omega) (by omega)
              have m2' : IntKind.i64.wrap ((ptN ns : Int) * x 0 * x 2) = (ptN ns : Int) * x 0 * x 2 := i64_in (by omega) (by omega)
              have PA := hide (parts_any N W3.drew st x ao b o cap pv ns (H3.out.nd.below ((Below.refl _ W3).drew.mono H3.out.le)) H3.out.le (by omega))
              have CC : Hid (∀ Y, Below W3.heap.size W3 Y → ClAt Y w.heap.size st x (.slice ao ns.length cap)) := fun Y hY => H3.out.cl.below hY
              go_wp2_with fail
              refine wp_region_held_drew (S := fun Y => Below W3.heap.size W3 Y) (by kernel_rfl) ((Below.refl _ _).drew) (fun hHeld => ?_)
              refine wpAnyH_take (i := 0) (v := (.agg (clA st x (.slice ao ns.length cap)))) rfl (by kernel_rfl) (by kernel_rfl) (by kernel_rfl) (fun _ _ _ h => h) (Or.inl ⟨by rfl, ?_⟩) (by assumption) ?_
              · intro w' hSw
                (try dsimp only at hSw)
                exact exec_loadCl (.tmp 1) rfl rfl (CC.out _ hSw)
              (try simp only [Act.put, List.setIfInBounds_toArray, List.set_cons_zero, List.set_cons_succ])
              refine wpAnyH_take (i := 2) (v := (.pointer (some ⟨w.heap.size, 1, none⟩))) rfl (by kernel_rfl) (by kernel_rfl) (by kernel_rfl) (fun _ _ _ h => h) (Or.inl ⟨by rfl, ?_⟩) (by assumption) ?_
              · intro w' hSw
                (try dsimp only at hSw)
                go_simp
              (try simp only [Act.put, List.setIfInBounds_toArray, List.set_cons_zero, List.set_cons_succ])
              refine wpAnyH_take (i := 3) (v := (.int .i64 (x 0))) rfl (by kernel_rfl) (by kernel_rfl) (by kernel_rfl) (fun _ _ _ h => h) (Or.inl ⟨by rfl, ?_⟩) (by assumption) ?_
              · intro w' hSw
                (try dsimp only at hSw)
                (have y1 := (CC.out _ hSw).x0; go_simp)
              (try simp only [Act.put, List.setIfInBounds_toArray, List.set_cons_zero, List.set_cons_succ])
              refine wpAnyH_take (i := 5) (v := (.pointer (some ⟨w.heap.size, 3, none⟩))) rfl (by kernel_rfl) (by kernel_rfl) (by kernel_rfl) (fun _ _ _ h => h) (Or.inl ⟨by rfl, ?_⟩) (by assumption) ?_
              · intro w' hSw
                (try dsimp only at hSw)
                go_simp
              (try simp only [Act.put, List.setIfInBounds_toArray, List.set_cons_zero, List.set_cons_succ])
              refine wpAnyH_take (i := 6) (v := (.int .i64 (x 2))) rfl (by kernel_rfl) (by kernel_rfl) (by kernel_rfl) (fun _ _ _ h => h) (Or.inl ⟨by rfl, ?_⟩) (by assumption) ?_
              · intro w' hSw
                (try dsimp only at hSw)
                (have y1 := (CC.out _ hSw).x2; go_simp)
              (try simp only [Act.put, List.setIfInBounds_toArray, List.set_cons_zero, List.set_cons_succ])
              refine wpAnyH_ready (rs := [1]) (by kernel_rfl) (by simp) ?_
              refine AllReadyH.cons rfl (fun K hK => ?_) AllReadyH.nil
              go_simp
              refine Calls.mono PA.out ?_
              rintro e W5 ⟨rfl, hb⟩
              have B5 : Hid (Below W3.heap.size W3 W5) := ⟨hb.os, hb.tape, hb.output, hb.size, hb.block⟩
              clear hb PA
              refine hK.out _ _ (B5.out) (fun hHeld => ?_)
              clear hK
              (try simp only [Act.put, List.setIfInBounds_toArray, List.set_cons_zero, List.set_cons_succ])
              refine wpAnyH_take (i := 4) (v := (.int .i64 ((ptN ns : Int) * x 0))) rfl (by kernel_rfl) (by kernel_rfl) (by kernel_rfl) (fun _ _ _ h => h) (Or.inl ⟨by rfl, ?_⟩) (by assumption) ?_
              · intro w' hSw
                (try dsimp only at hSw)
                (go_simp; try exact m1')
              (try simp only [Act.put, List.setIfInBounds_toArray, List.set_cons_zero, List.set_cons_succ])
              refine wpAnyH_take (i := 7) (v := (.int .i64 ((ptN ns : Int) * x 0 * x 2))) rfl (by kernel_rfl) (by kernel_rfl) (by kernel_rfl) (fun _ _ _ h => h) (Or.inl ⟨by rfl, ?_⟩) (by assumption) ?_
              · intro w' hSw
                (try dsimp only at hSw)
                (go_simp; try exact m2')
              (try simp only [Act.put, List.setIfInBounds_toArray, List.set_cons_zero, List.set_cons_succ])
              refine wpAnyH_ready (rs := [8]) (by kernel_rfl) (by simp) ?_
              refine AllReadyH.cons rfl (fun K hK => ?_) AllReadyH.nil
              go_simp
              refine hK.out _ _ (B5.out) (fun hHeld => ?_)
              clear hK
              (try simp only [Act.put, List.setIfInBounds_toArray, List.set_cons_zero, List.set_cons_succ])
              refine wpAnyH_done (by kernel_rfl) ?_ _
              clear hHeld CC x0
              have B6 := hide (B3.out.trans (B5.out.mono B3.out.size))
              by_cases h6 : 512 < (ptN ns : Int) * x 0 * x 2
              case pos =>
                have h6' : decide (512 < (ptN ns : Int) * x 0 * x 2) = true := decide_eq_true h6
                have HE := hide (show errP st x ns = 3 by rw [hdef4.out, if_pos h6])
                clear hdef4
                go_wp2_with fail
                go_ret
                exact ⟨by rw [HE.out]; rfl, B6.out⟩
              case neg =>
                have h6' : decide (512 < (ptN ns : Int) * x 0 * x 2) = false := decide_eq_false h6
                have HE := hide (show errP st x ns = 0 by rw [hdef4.out, if_neg h6])
                clear hdef4
                go_wp2_with fail
                go_ret
                exact ⟨by rw [HE.out]; rfl, B6.out⟩
end Go.Proofs.YtpoegknmkbnjlaaDoor
