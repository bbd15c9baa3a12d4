import Derived.Test.YtioiphonajinmaaDoorGrPrint
import Derived.Test.YtioiphonajinmaaDoorGGcDoc
import Derived.Test.YtioiphonajinmaaDoorGGcName
import Derived.Test.YtioiphonajinmaaDoorGGcLaw
import Derived.Test.YtioiphonajinmaaDoorGGmMade
namespace Go.Proofs.YtioiphonajinmaaDoor
open Go.RowKit
theorem strOf_app (a b : List UInt8) : strOf a ++ strOf b = strOf (a ++ b) := by
  apply gr_eq
  rw [ByteArray.data_append, Array.toList_append, strOf_data, strOf_data, strOf_data]
theorem exec_addS {ρ : Operand → Value} {op : Oper} {w : World} {a b : ByteArray} {t2 : TypeId} (x y : Operand) (ho : op.op = .binOp .add 9 x y t2) (hx : ρ x = .string a) (hy : ρ y = .string b) (ha : a.size ≤ 1000000) (hb : b.size ≤ 1000000) : (execOp ρ op).run Tryd.prog w = .ok (.value (.string (a ++ b))) w := by
  unfold execOp
  simp only [ho, hx, hy]
  go_simp
  first | omega | (rw [if_neg (by omega)]; rfl) | (rw [if_neg (by simp only [ByteArray.size_append]; omega)]; rfl)
/-- the document's table of words -/
def TabW (w : World) : Prop := ∀ i, i < 21 → w.cell? ⟨0, i, none⟩ = some (.string (strOf (swd i)))
theorem TabW.below {w w' : World} (h : TabW w) (hb : Below w.heap.size w w') : TabW w' := fun i hi => (hb.cell (p := ⟨0, i, none⟩) (World.block_lt_of_cell? w _ (h i hi))).trans (h i hi)
theorem lnB_two (a b : List UInt8) : lnB [a, b] = a ++ [32] ++ b ++ [10] := by
  unfold lnB
  rw [Lib.join_cons]
  simp [Lib.joinTail]
/-- a node's line up to its k-th partition -/
def pfx (j : Nat) (z : Int) (ps : List Int) (k : Nat) : List UInt8 := nodeW ++ Lib.joinTail [32] ([itB (j : Int), zoneW, itB z, partsW] ++ (ps.take k).map itB)
theorem pfx_0 (j : Nat) (z : Int) (ps : List Int) : pfx j z ps 0 = nodeW ++ [32] ++ itB (j : Int) ++ ([32] ++ zoneW ++ [32]) ++ itB z ++ ([32] ++ partsW) := by
  unfold pfx
  simp [Lib.joinTail]
theorem joinTail_app (a b : List (List UInt8)) : Lib.joinTail [32] (a ++ b) = Lib.joinTail [32] a ++ Lib.joinTail [32] b := by simp [Lib.joinTail]
theorem pfx_succ {j : Nat} {z : Int} {ps : List Int} {k : Nat} (h : k < ps.length) : pfx j z ps (k + 1) = pfx j z ps k ++ [32] ++ itB ps[k] := by
  unfold pfx
  rw [List.take_succ_eq_append_getElem h, List.map_append, ← List.append_assoc, joinTail_app]
  simp [Lib.joinTail]
theorem pfx_all (j : Nat) (n : ND) : pfx j n.z n.ps n.ps.length ++ [10] = lnB (ndW j n) := by
  unfold pfx lnB ndW
  rw [List.take_length, show [nodeW, itB (j : Int), zoneW, itB n.z, partsW] ++ n.ps.map itB = nodeW :: ([itB (j : Int), zoneW, itB n.z, partsW] ++ n.ps.map itB) from rfl, Lib.join_cons]
theorem pfx_len {j : Nat} {z : Int} {ps : List Int} (hj : i64R (j : Int)) (hz : i64R z) (hp : ∀ p ∈ ps, i64R p) (hl : ps.length ≤ 64) (k : Nat) : (pfx j z ps k).length ≤ 3000 := by
  unfold pfx
  have h1 := joinTail_len 40 ([itB (j : Int), zoneW, itB z, partsW] ++ (ps.take k).map itB) (fun a ha => by
    rcases List.mem_append.1 ha with ha | ha
    · simp at ha
      rcases ha with rfl | rfl | rfl | rfl
      · exact itB_len2 hj
      · decide
      · exact itB_len2 hz
      · decide
    · obtain ⟨p, hp', rfl⟩ := List.mem_map.1 ha
      exact itB_len2 (hp p (List.mem_of_mem_take hp')))
  rw [List.length_append, List.length_map, List.length_take] at h1
  rw [List.length_append, show nodeW.length = 4 from rfl]
  simp only [List.length_cons, List.length_nil] at h1
  have := Nat.mul_le_mul (Nat.le_refl (40 + 1)) (show 0 + 1 + 1 + 1 + 1 + min k ps.length ≤ 68 by omega)
  omega
set_option maxHeartbeats 8000000 in
set_option maxRecDepth 100000 in
set_option linter.unusedSimpArgs false in
set_option linter.unusedVariables false in
theorem rprint_any (N : Nat) (w : World) (st : ByteArray) (x : Nat → Int) (ao : Option Addr) (b o cap : Nat) (pv : Nat → Value) (ns : List ND) (h : NsAt N w ao b o pv ns) (hN : N ≤ w.heap.size) (hs : st.size ≤ 9223372036854775807) (hP : PowR w) (hT : TabG w) (hTW : TabW w) :
    Calls Tryd.prog 15 #[.agg (clA st x (.slice ao ns.length cap))] w fun e w' => e = .returned (.tuple #[.string (strOf (prV st x ns)), .int .i64 (errP st x ns)]) ∧ Below w.heap.size w w' := by
  obtain ⟨W0, hW0, hX⟩ := boxed st x cap h hN
  have HX := hide (hX.stand hN)
  have B0 := hide hX.bel
  have HPw := hide hP
  have HTW := hide hTW
  have CH := rcheck_any N W0 st x ao b o cap pv ns HX.out.nd HX.out.le hs (hT.below hX.bel)
  clear hX h hP hT hTW
  obtain ⟨K, hK⟩ : ∃ K, K = errP st x ns := ⟨_, rfl⟩
  obtain ⟨V, hV⟩ : ∃ V, V = strOf (prV st x ns) := ⟨_, rfl⟩
  rw [← hK, ← hV]
  rw [← hK] at CH
  have HK := hide hK
  have HV0 := hide hV
  replace CH := hide CH
  clear hK hV
  go_enter Tryd.func15, Tryd.ntmps15
  go_upto_region 1 with fail
  rw [← hW0]
  clear hW0
  go_wp2_with (refine wpList_loadCl rfl (.tmp 1) rfl w.heap.size st x _ rfl HX.out.cl ?_)
  refine Calls.mono CH.out ?_
  rintro e W1 ⟨rfl, hb⟩
  have X1 := hide (HX.out.below hb)
  have B1 := hide (B0.out.trans (hb.mono B0.out.size))
  clear hb HX CH B0
  by_cases he : K = 0
  case neg =>
    have hV : V = ⟨#[]⟩ := by
      rw [HV0.out]
      unfold prV
      rw [if_neg (by rw [← HK.out]; exact he)]
      rfl
    subst hV
    clear HV0
    go_wp2_with fail
    go_ret2
    exact ⟨rfl, B1.out⟩
  case pos =>
    subst he
    have OK := hide (pr_ok HK.out.symm)
    have HV : Hid (V = strOf (prT st x ns)) := by
      show _ = _
      rw [HV0.out]
      unfold prV
      rw [if_pos HK.out.symm]
    have n16 := OK.out.n
    have hst := OK.out.s
    clear HV0
    have stc := X1.out.cl.st
    have hc5 : (⟨#[115, 116, 111, 114, 101, 32]⟩ : ByteArray).size = 6 := rfl
    have hc1 : (⟨#[10]⟩ : ByteArray).size = 1 := rfl
    go_upto_region 5 with fail
    have HT1 : Hid (⟨#[115, 116, 111, 114, 101, 32]⟩ ++ st ++ ⟨#[10]⟩ = strOf (lnB [storeW, st.data.toList])) := by
      show _ = _
      rw [lnB_two, ← strOf_app, ← strOf_app, strOf_toList]
      rfl
    rw [HT1.out]
    clear stc hc5 hc1 HT1
    have HL1 : Hid ((lnB [storeW, st.data.toList]).length ≤ 2100) := by
      have := lnB_len 1000 [storeW, st.data.toList] (fun a ha => by
        simp at ha
        rcases ha with rfl | rfl
        · decide
        · rw [size_data]; exact OK.out.s)
      simp only [List.length_cons, List.length_nil] at this
      show _ ≤ _
      omega
    have HT1 : Hid (prT st x ns = lnB [storeW, st.data.toList] ++ prS x 21 ++ prN ns ns.length) := rfl
    generalize lnB [storeW, st.data.toList] = L1 at *
    have VA := hide (values_any W1 st x (.slice ao ns.length cap))
    go_wp2_with (refine wpList_loadCl rfl (.tmp 1) rfl w.heap.size st x _ rfl X1.out.cl ?_)
    refine Calls.mono VA.out ?_
    rintro e W2 ⟨rfl, hb⟩
    obtain ⟨W3, hW3⟩ : ∃ W3, W3 = W2.alloc (.cells (vA x) 69) := ⟨_, rfl⟩
    have B3 : Hid (Below W1.heap.size W1 W3) := by rw [hW3]; exact (hb.alloc hb.size _)
    have V3 : Hid (VAt W3 W2.heap.size x) := by rw [hW3]; exact heap_last _ _
    clear VA hb
    go_wp2_with (refine wpList_storeV (w0 := W2) rfl (.tmp 6) (.tmp 20) rfl _ rfl rfl x rfl z21 rfl rfl ?_)
    rw [← hW3]
    clear hW3
    generalize W2.heap.size = vB at *
    go_loopw [5, 7] (fun vs vi wr => ∃ (i : Nat), i ≤ 21 ∧ vi = .int .i64 (i : Int) ∧ vs = .string (strOf (L1 ++ prS x i)) ∧ Hid (Below W3.heap.size W3 wr)) (fun _ vi _ => 21 - (intOf vi).toNat)
    case atStart => exact ⟨0, Nat.zero_le _, rfl, by simp [prS], Below.refl _ _⟩
    case round =>
      obtain ⟨i, hi, rfl, rfl, HB⟩ := hrel
      have hsl := prS_len OK.out.x i hi
      have hL1 := HL1.out
      have hSz : (strOf (L1 ++ prS x i)).size ≤ 10000 := by rw [strOf_size, List.length_append]; omega
      by_cases hil : i < 21
      case pos =>
        have hii : (i : Int) < 21 := by omega
        have hxi := OK.out.x i hil
        have HXi := hide hxi
        have HSu : Hid (strOf (L1 ++ prS x (i + 1)) = strOf (L1 ++ prS x i) ++ strOf (swd i) ++ ⟨#[32]⟩ ++ strOf (itB (x i)) ++ ⟨#[10]⟩) := by
          show _ = _
          rw [prS_succ, lnB_two, show (⟨#[32]⟩ : ByteArray) = strOf [32] from rfl, show (⟨#[10]⟩ : ByteArray) = strOf [10] from rfl, strOf_app, strOf_app, strOf_app, strOf_app]
          simp
        have hsw : (strOf (swd i)).size ≤ 8 := by rw [strOf_size]; exact swd_len i
        have hit : (strOf (itB (x i))).size ≤ 40 := by rw [strOf_size]; exact itB_len2 hxi
        have CC : Hid (∀ Y, Below W3.heap.size W3 Y → Y.cell? ⟨0, i, none⟩ = some (.string (strOf (swd i))) ∧ Y.cell? ⟨vB, i, none⟩ = some (.int .i64 (x i))) := fun Y hY => by
          refine ⟨(HTW.out.below ((B1.out.trans (B3.out.mono B1.out.size)).trans (hY.mono (Nat.le_trans B1.out.size B3.out.size)))) i hil, ?_⟩
          exact (hY.cell (show vB < W3.heap.size from blk_lt V3.out)).trans (V3.out.c i hil)
        have IT := hide (fun Y (hY : Below W3.heap.size W3 Y) => itoa_any (x i) w Y HPw.out ((B1.out.trans (B3.out.mono B1.out.size)).trans (hY.mono (Nat.le_trans B1.out.size B3.out.size))) HXi.out.1 HXi.out.2)
        have h1 : (⟨#[32]⟩ : ByteArray).size = 1 := rfl
        have h2 : (⟨#[10]⟩ : ByteArray).size = 1 := rfl
        clear hsl hL1 hxi
        generalize strOf (L1 ++ prS x i) = S0 at *
        generalize strOf (swd i) = sw at *
        generalize strOf (itB (x i)) = ib at *
        generalize x i = xi at *
        go_upto_region 9 with fail
        refine wp_region_held_drew (S := fun Y => Below W3.heap.size W3 Y) (by kernel_rfl) HB.out.drew (fun hHeld => ?_)
        refine wpAnyH_take (i := 0) (v := (.string S0)) rfl (by kernel_rfl) (by kernel_rfl) (by kernel_rfl) (fun _ _ _ h => h) (Or.inl ⟨by rfl, ?_⟩) (by assumption) ?_
        · intro w' hSw
          (try dsimp only at hSw)
          exact exec_move (.tmp 5) rfl (by kernel_rfl)
        (try simp only [Act.put, List.getElem_toArray, List.getElem_cons_zero, List.getElem_cons_succ, List.setIfInBounds_toArray, List.set_cons_zero, List.set_cons_succ])
        refine wpAnyH_take (i := 1) (v := (.int .i64 (i : Int))) rfl (by kernel_rfl) (by kernel_rfl) (by kernel_rfl) (fun _ _ _ h => h) (Or.inl ⟨by rfl, ?_⟩) (by assumption) ?_
        · intro w' hSw
          (try dsimp only at hSw)
          exact exec_move (.tmp 7) rfl (by kernel_rfl)
        (try simp only [Act.put, List.getElem_toArray, List.getElem_cons_zero, List.getElem_cons_succ, List.setIfInBounds_toArray, List.set_cons_zero, List.set_cons_succ])
        refine wpAnyH_take (i := 2) (v := (.pointer (some ⟨0, i, none⟩))) rfl (by kernel_rfl) (by kernel_rfl) (by kernel_rfl) (fun _ _ _ h => h) (Or.inl ⟨by rfl, ?_⟩) (by assumption) ?_
        · intro w' hSw
          (try dsimp only at hSw)
          go_simp
        (try simp only [Act.put, List.getElem_toArray, List.getElem_cons_zero, List.getElem_cons_succ, List.setIfInBounds_toArray, List.set_cons_zero, List.set_cons_succ])
        refine wpAnyH_take (i := 3) (v := (.string sw)) rfl (by kernel_rfl) (by kernel_rfl) (by kernel_rfl) (fun _ _ _ h => h) (Or.inl ⟨by rfl, ?_⟩) (by assumption) ?_
        · intro w' hSw
          (try dsimp only at hSw)
          exact exec_ldSr (.tmp 27) rfl (by kernel_rfl) (CC.out _ hSw).1
        (try simp only [Act.put, List.getElem_toArray, List.getElem_cons_zero, List.getElem_cons_succ, List.setIfInBounds_toArray, List.set_cons_zero, List.set_cons_succ])
        refine wpAnyH_take (i := 4) (v := (.string (S0 ++ sw))) rfl (by kernel_rfl) (by kernel_rfl) (by kernel_rfl) (fun _ _ _ h => h) (Or.inl ⟨by rfl, ?_⟩) (by assumption) ?_
        · intro w' hSw
          (try dsimp only at hSw)
          exact exec_addS (.tmp 25) (.tmp 28) rfl (by kernel_rfl) (by kernel_rfl) (by omega) (by omega)
        (try simp only [Act.put, List.getElem_toArray, List.getElem_cons_zero, List.getElem_cons_succ, List.setIfInBounds_toArray, List.set_cons_zero, List.set_cons_succ])
        refine wpAnyH_take (i := 5) (v := (.string (S0 ++ sw ++ ⟨#[32]⟩))) rfl (by kernel_rfl) (by kernel_rfl) (by kernel_rfl) (fun _ _ _ h => h) (Or.inl ⟨by rfl, ?_⟩) (by assumption) ?_
        · intro w' hSw
          (try dsimp only at hSw)
          exact exec_addS (.tmp 29) (.const (.string ⟨#[32]⟩)) rfl (by kernel_rfl) (by kernel_rfl) (by simp only [ByteArray.size_append]; omega) (by omega)
        (try simp only [Act.put, List.getElem_toArray, List.getElem_cons_zero, List.getElem_cons_succ, List.setIfInBounds_toArray, List.set_cons_zero, List.set_cons_succ])
        refine wpAnyH_take (i := 6) (v := (.int .i64 (i : Int))) rfl (by kernel_rfl) (by kernel_rfl) (by kernel_rfl) (fun _ _ _ h => h) (Or.inl ⟨by rfl, ?_⟩) (by assumption) ?_
        · intro w' hSw
          (try dsimp only at hSw)
          exact exec_move (.tmp 7) rfl (by kernel_rfl)
        (try simp only [Act.put, List.getElem_toArray, List.getElem_cons_zero, List.getElem_cons_succ, List.setIfInBounds_toArray, List.set_cons_zero, List.set_cons_succ])
        refine wpAnyH_take (i := 7) (v := (.pointer (some ⟨vB, i, none⟩))) rfl (by kernel_rfl) (by kernel_rfl) (by kernel_rfl) (fun _ _ _ h => h) (Or.inl ⟨by rfl, ?_⟩) (by assumption) ?_
        · intro w' hSw
          (try dsimp only at hSw)
          go_simp
        (try simp only [Act.put, List.getElem_toArray, List.getElem_cons_zero, List.getElem_cons_succ, List.setIfInBounds_toArray, List.set_cons_zero, List.set_cons_succ])
        refine wpAnyH_take (i := 8) (v := (.int .i64 xi)) rfl (by kernel_rfl) (by kernel_rfl) (by kernel_rfl) (fun _ _ _ h => h) (Or.inl ⟨by rfl, ?_⟩) (by assumption) ?_
        · intro w' hSw
          (try dsimp only at hSw)
          exact exec_ld (.tmp 32) rfl (Or.inl rfl) (by kernel_rfl) (CC.out _ hSw).2
        (try simp only [Act.put, List.getElem_toArray, List.getElem_cons_zero, List.getElem_cons_succ, List.setIfInBounds_toArray, List.set_cons_zero, List.set_cons_succ])
        refine wpAnyH_ready (rs := [9]) (by kernel_rfl) (by simp) ?_
        refine AllReadyH.cons rfl (fun K hK => ?_) AllReadyH.nil
        go_simp
        refine Calls.mono (IT.out _ HB.out.drew) ?_
        rintro e X4 ⟨rfl, hb⟩
        have B4 : Hid (Below W3.heap.size W3 X4) := HB.out.drew.trans (hb.mono HB.out.size)
        clear hb
        refine hK.out _ _ (B4.out) (fun hHeld => ?_)
        clear hK
        (try simp only [Act.put, List.setIfInBounds_toArray, List.set_cons_zero, List.set_cons_succ])
        refine wpAnyH_take (i := 10) (v := (.string (S0 ++ sw ++ ⟨#[32]⟩ ++ ib))) rfl (by kernel_rfl) (by kernel_rfl) (by kernel_rfl) (fun _ _ _ h => h) (Or.inl ⟨by rfl, ?_⟩) (by assumption) ?_
        · intro w' hSw
          (try dsimp only at hSw)
          exact exec_addS (.tmp 30) (.tmp 34) rfl (by kernel_rfl) (by kernel_rfl) (by simp only [ByteArray.size_append]; omega) (by omega)
        (try simp only [Act.put, List.getElem_toArray, List.getElem_cons_zero, List.getElem_cons_succ, List.setIfInBounds_toArray, List.set_cons_zero, List.set_cons_succ])
        refine wpAnyH_take (i := 11) (v := (.string (S0 ++ sw ++ ⟨#[32]⟩ ++ ib ++ ⟨#[10]⟩))) rfl (by kernel_rfl) (by kernel_rfl) (by kernel_rfl) (fun _ _ _ h => h) (Or.inl ⟨by rfl, ?_⟩) (by assumption) ?_
        · intro w' hSw
          (try dsimp only at hSw)
          exact exec_addS (.tmp 35) (.const (.string ⟨#[10]⟩)) rfl (by kernel_rfl) (by kernel_rfl) (by simp only [ByteArray.size_append]; omega) (by omega)
        (try simp only [Act.put, List.getElem_toArray, List.getElem_cons_zero, List.getElem_cons_succ, List.setIfInBounds_toArray, List.set_cons_zero, List.set_cons_succ])
        rw [← HSu.out]
        refine wpAnyH_ready (rs := [12]) (by kernel_rfl) (by simp) ?_
        refine AllReadyH.cons rfl (fun K hK => ?_) AllReadyH.nil
        go_simp
        refine hK.out _ _ (B4.out) (fun hHeld => ?_)
        clear hK
        (try simp only [Act.put, List.setIfInBounds_toArray, List.set_cons_zero, List.set_cons_succ])
        refine wpAnyH_done (by kernel_rfl) ?_ _
        clear hHeld
        go_wp2_with fail
        go_roundw
        case rel => exact ⟨i + 1, by omega, by go_num, rfl, B4⟩
        case measure => simp [intOf]; omega
      case neg =>
        have hi21 : i = 21 := by omega
        have hnl : ¬ ((i : Int) < 21) := by omega
        have HT2 : Hid (prT st x ns = L1 ++ prS x i ++ prN ns ns.length) := by rw [hi21]; exact HT1.out
        have HL2 : Hid ((L1 ++ prS x i).length ≤ 10000) := by show _ ≤ _; rw [List.length_append]; omega
        clear hi21 hi hil HT1 hsl hL1 HL1 hSz
        generalize L1 ++ prS x i = L2 at *
        have B4 : Hid (Below W1.heap.size W1 wr) := B3.out.trans (HB.out.mono B3.out.size)
        clear HB B3 V3
        go_wp2_with fail
        go_loopw [5, 8] (fun vs vi wq => ∃ (j : Nat), j ≤ ns.length ∧ vi = .int .i64 (j : Int) ∧ vs = .string (strOf (L2 ++ prN ns j)) ∧ Hid (Below W1.heap.size W1 wq)) (fun _ vi _ => ns.length - (intOf vi).toNat)
        case atStart => exact ⟨0, Nat.zero_le _, rfl, by simp [prN], B4⟩
        case round =>
          clear B4
          obtain ⟨j, hj, rfl, rfl, HB⟩ := hrel
          have HNl := hide (prN_len OK.out.n OK.out.z OK.out.p OK.out.l j hj)
          have nvw := (X1.out.cl.below HB.out).nv
          by_cases hjl : j < ns.length
          case neg =>
            obtain rfl : j = ns.length := by omega
            have HF : Hid (V = strOf (L2 ++ prN ns ns.length)) := by
              show _ = _
              rw [HV.out, HT2.out]
            rw [← HF.out]
            go_wp2_with fail
            go_ret2
            exact ⟨rfl, B1.out.trans (HB.out.mono B1.out.size)⟩
          case pos =>
            have hji : (j : Int) < (ns.length : Int) := by omega
            have hao := X1.out.nd.at0 (by omega)
            subst hao
            have hm : ns[j] ∈ ns := List.getElem_mem _
            have h64 := OK.out.l _ hm
            have HZi := hide (OK.out.z _ hm)
            have HPi := hide (OK.out.p _ hm)
            have HSu := hide (prN_succ hjl)
            have HPA := hide (pfx_all j ns[j])
            obtain ⟨pa, pb, po, pc, hpv, hps⟩ := X1.out.nd.ps j hjl
            have CN : Hid (∀ Y, Below W1.heap.size W1 Y → Y.cell? ⟨w.heap.size, 22, none⟩ = some (.slice (some ⟨b, o, none⟩) ns.length cap) ∧ Y.cell? ⟨b, o + j * 2, none⟩ = some (.int .i64 ns[j].z) ∧ Y.cell? ⟨b, o + j * 2 + 1, none⟩ = some (.slice pa ns[j].ps.length pc) ∧ PsAt N Y pa pb po ns[j].ps) := fun Y hY => by
              have X2 := X1.out.nd.below (hY.mono X1.out.le)
              refine ⟨(X1.out.cl.below hY).nv, X2.cz j hjl, ?_, hps.below (hY.mono X1.out.le)⟩
              rw [← hpv]
              exact X2.cp j hjl
            have hpl := hps.len
            have hJl : (strOf (L2 ++ prN ns j)).size ≤ 100000 := by
              rw [strOf_size, List.length_append]
              have := HL2.out
              have := HNl.out
              have := Nat.mul_le_mul (Nat.le_refl 3000) hj
              omega
            have IT := hide (fun n (hn : i64R n) Y (hY : Below W1.heap.size W1 Y) => itoa_any n w Y HPw.out (B1.out.trans (hY.mono B1.out.size)) hn.1 hn.2)
            have hj16 : i64R (j : Int) := ⟨by omega, by omega⟩
            have HJ16 := hide hj16
            clear hpv hps hm hj16 nvw
            generalize hnd : ns[j] = nd at *
            clear hnd
            obtain ⟨z, ps⟩ := nd
            dsimp only at hpl h64 HZi HPi CN HPA
            have HP0 : Hid (strOf (L2 ++ prN ns j ++ pfx j z ps 0) = strOf (L2 ++ prN ns j) ++ ⟨#[110, 111, 100, 101, 32]⟩ ++ strOf (itB (j : Int)) ++ ⟨#[32, 122, 111, 110, 101, 32]⟩ ++ strOf (itB z) ++ ⟨#[32, 112, 97, 114, 116, 115]⟩) := by
              show _ = _
              rw [pfx_0, show (⟨#[110, 111, 100, 101, 32]⟩ : ByteArray) = strOf (nodeW ++ [32]) from rfl, show (⟨#[32, 122, 111, 110, 101, 32]⟩ : ByteArray) = strOf ([32] ++ zoneW ++ [32]) from rfl, show (⟨#[32, 112, 97, 114, 116, 115]⟩ : ByteArray) = strOf ([32] ++ partsW) from rfl, strOf_app, strOf_app, strOf_app, strOf_app, strOf_app]
              simp
            have HPl := hide (fun k => pfx_len HJ16.out HZi.out HPi.out h64 k)
            have i1 : (strOf (itB (j : Int))).size ≤ 40 := by rw [strOf_size]; exact itB_len2 HJ16.out
            have i2 : (strOf (itB z)).size ≤ 40 := by rw [strOf_size]; exact itB_len2 HZi.out
            have q1 : (⟨#[110, 111, 100, 101, 32]⟩ : ByteArray).size = 5 := rfl
            have q2 : (⟨#[32, 122, 111, 110, 101, 32]⟩ : ByteArray).size = 6 := rfl
            have q3 : (⟨#[32, 112, 97, 114, 116, 115]⟩ : ByteArray).size = 6 := rfl
            have HBl : Hid ((L2 ++ prN ns j).length ≤ 100000) := by rw [strOf_size] at hJl; exact hJl
            have nvw := (CN.out _ HB.out).1
            generalize hLJ : L2 ++ prN ns j = LJ at *
            have HLJ := hide hLJ
            clear hLJ
            go_upto_region 13 with fail
            clear nvw
            generalize hS0 : strOf LJ = S0 at *
            generalize hib : strOf (itB (j : Int)) = ib at *
            generalize hiz : strOf (itB z) = iz at *
            have HIB := hide hib
            have HIZ := hide hiz
            clear hS0 hib hiz
            refine wp_region_held_drew (S := fun Y => Below W1.heap.size W1 Y) (by kernel_rfl) HB.out.drew (fun hHeld => ?_)
            refine wpAnyH_take (i := 0) (v := (.string S0)) rfl (by kernel_rfl) (by kernel_rfl) (by kernel_rfl) (fun _ _ _ h => h) (Or.inl ⟨by rfl, ?_⟩) (by assumption) ?_
            · intro w' hSw
              (try dsimp only at hSw)
              exact exec_move (.tmp 5) rfl (by kernel_rfl)
            (try simp only [Act.put, List.getElem_toArray, List.getElem_cons_zero, List.getElem_cons_succ, List.setIfInBounds_toArray, List.set_cons_zero, List.set_cons_succ])
            refine wpAnyH_take (i := 1) (v := (.string (S0 ++ ⟨#[110, 111, 100, 101, 32]⟩))) rfl (by kernel_rfl) (by kernel_rfl) (by kernel_rfl) (fun _ _ _ h => h) (Or.inl ⟨by rfl, ?_⟩) (by assumption) ?_
            · intro w' hSw
              (try dsimp only at hSw)
              exact exec_addS (.tmp 44) (.const (.string ⟨#[110, 111, 100, 101, 32]⟩)) rfl (by kernel_rfl) (by kernel_rfl) (by omega) (by omega)
            (try simp only [Act.put, List.getElem_toArray, List.getElem_cons_zero, List.getElem_cons_succ, List.setIfInBounds_toArray, List.set_cons_zero, List.set_cons_succ])
            refine wpAnyH_take (i := 2) (v := (.int .i64 (j : Int))) rfl (by kernel_rfl) (by kernel_rfl) (by kernel_rfl) (fun _ _ _ h => h) (Or.inl ⟨by rfl, ?_⟩) (by assumption) ?_
            · intro w' hSw
              (try dsimp only at hSw)
              exact exec_move (.tmp 8) rfl (by kernel_rfl)
            (try simp only [Act.put, List.getElem_toArray, List.getElem_cons_zero, List.getElem_cons_succ, List.setIfInBounds_toArray, List.set_cons_zero, List.set_cons_succ])
            refine wpAnyH_take (i := 6) (v := (.pointer (some ⟨w.heap.size, 22, none⟩))) rfl (by kernel_rfl) (by kernel_rfl) (by kernel_rfl) (fun _ _ _ h => h) (Or.inl ⟨by rfl, ?_⟩) (by assumption) ?_
            · intro w' hSw
              (try dsimp only at hSw)
              go_simp
            (try simp only [Act.put, List.getElem_toArray, List.getElem_cons_zero, List.getElem_cons_succ, List.setIfInBounds_toArray, List.set_cons_zero, List.set_cons_succ])
            refine wpAnyH_take (i := 7) (v := (.slice (some ⟨b, o, none⟩) ns.length cap)) rfl (by kernel_rfl) (by kernel_rfl) (by kernel_rfl) (fun _ _ _ h => h) (Or.inl ⟨by rfl, ?_⟩) (by assumption) ?_
            · intro w' hSw
              (try dsimp only at hSw)
              exact exec_ld (.tmp 50) rfl (Or.inr (Or.inl rfl)) (by kernel_rfl) (CN.out _ hSw).1
            (try simp only [Act.put, List.getElem_toArray, List.getElem_cons_zero, List.getElem_cons_succ, List.setIfInBounds_toArray, List.set_cons_zero, List.set_cons_succ])
            refine wpAnyH_take (i := 8) (v := (.int .i64 (j : Int))) rfl (by kernel_rfl) (by kernel_rfl) (by kernel_rfl) (fun _ _ _ h => h) (Or.inl ⟨by rfl, ?_⟩) (by assumption) ?_
            · intro w' hSw
              (try dsimp only at hSw)
              exact exec_move (.tmp 8) rfl (by kernel_rfl)
            (try simp only [Act.put, List.getElem_toArray, List.getElem_cons_zero, List.getElem_cons_succ, List.setIfInBounds_toArray, List.set_cons_zero, List.set_cons_succ])
            refine wpAnyH_take (i := 9) (v := (.pointer (some ⟨b, o + j * 2, none⟩))) rfl (by kernel_rfl) (by kernel_rfl) (by kernel_rfl) (fun _ _ _ h => h) (Or.inl ⟨by rfl, ?_⟩) (by assumption) ?_
            · intro w' hSw
              (try dsimp only at hSw)
              exact exec_ixN (n := ns.length) (c := cap) (.tmp 51) (.tmp 52) rfl (by kernel_rfl) (by kernel_rfl) hjl
            (try simp only [Act.put, List.getElem_toArray, List.getElem_cons_zero, List.getElem_cons_succ, List.setIfInBounds_toArray, List.set_cons_zero, List.set_cons_succ])
            refine wpAnyH_take (i := 10) (v := (.pointer (some ⟨b, o + j * 2, none⟩))) rfl (by kernel_rfl) (by kernel_rfl) (by kernel_rfl) (fun _ _ _ h => h) (Or.inl ⟨by rfl, ?_⟩) (by assumption) ?_
            · intro w' hSw
              (try dsimp only at hSw)
              go_simp
            (try simp only [Act.put, List.getElem_toArray, List.getElem_cons_zero, List.getElem_cons_succ, List.setIfInBounds_toArray, List.set_cons_zero, List.set_cons_succ])
            refine wpAnyH_take (i := 11) (v := (.int .i64 z)) rfl (by kernel_rfl) (by kernel_rfl) (by kernel_rfl) (fun _ _ _ h => h) (Or.inl ⟨by rfl, ?_⟩) (by assumption) ?_
            · intro w' hSw
              (try dsimp only at hSw)
              exact exec_ld (.tmp 54) rfl (Or.inl rfl) (by kernel_rfl) (CN.out _ hSw).2.1
            (try simp only [Act.put, List.getElem_toArray, List.getElem_cons_zero, List.getElem_cons_succ, List.setIfInBounds_toArray, List.set_cons_zero, List.set_cons_succ])
            refine wpAnyH_ready (rs := [3]) (by kernel_rfl) (by simp) ?_
            refine AllReadyH.cons rfl (fun K hK => ?_) AllReadyH.nil
            go_simp
            refine Calls.mono (IT.out _ HJ16.out _ HB.out.drew) ?_
            rintro e X4 ⟨rfl, hb⟩
            rw [HIB.out]
            have B4 : Hid (Below W1.heap.size W1 X4) := HB.out.drew.trans (hb.mono HB.out.size)
            clear hb
            refine hK.out _ _ (B4.out) (fun hHeld => ?_)
            clear hK
            (try simp only [Act.put, List.setIfInBounds_toArray, List.set_cons_zero, List.set_cons_succ])
            refine wpAnyH_take (i := 4) (v := (.string (S0 ++ ⟨#[110, 111, 100, 101, 32]⟩ ++ ib))) rfl (by kernel_rfl) (by kernel_rfl) (by kernel_rfl) (fun _ _ _ h => h) (Or.inl ⟨by rfl, ?_⟩) (by assumption) ?_
            · intro w' hSw
              (try dsimp only at hSw)
              exact exec_addS (.tmp 45) (.tmp 47) rfl (by kernel_rfl) (by kernel_rfl) (by simp only [ByteArray.size_append]; omega) (by omega)
            (try simp only [Act.put, List.getElem_toArray, List.getElem_cons_zero, List.getElem_cons_succ, List.setIfInBounds_toArray, List.set_cons_zero, List.set_cons_succ])
            refine wpAnyH_take (i := 5) (v := (.string (S0 ++ ⟨#[110, 111, 100, 101, 32]⟩ ++ ib ++ ⟨#[32, 122, 111, 110, 101, 32]⟩))) rfl (by kernel_rfl) (by kernel_rfl) (by kernel_rfl) (fun _ _ _ h => h) (Or.inl ⟨by rfl, ?_⟩) (by assumption) ?_
            · intro w' hSw
              (try dsimp only at hSw)
              exact exec_addS (.tmp 48) (.const (.string ⟨#[32, 122, 111, 110, 101, 32]⟩)) rfl (by kernel_rfl) (by kernel_rfl) (by simp only [ByteArray.size_append]; omega) (by omega)
            (try simp only [Act.put, List.getElem_toArray, List.getElem_cons_zero, List.getElem_cons_succ, List.setIfInBounds_toArray, List.set_cons_zero, List.set_cons_succ])
            refine wpAnyH_ready (rs := [12]) (by kernel_rfl) (by simp) ?_
            refine AllReadyH.cons rfl (fun K hK => ?_) AllReadyH.nil
            go_simp
            refine Calls.mono (IT.out _ HZi.out _ B4.out) ?_
            rintro e X5 ⟨rfl, hb⟩
            rw [HIZ.out]
            have B5 : Hid (Below W1.heap.size W1 X5) := B4.out.trans (hb.mono B4.out.size)
            clear hb B4
            refine hK.out _ _ (B5.out) (fun hHeld => ?_)
            clear hK
            (try simp only [Act.put, List.setIfInBounds_toArray, List.set_cons_zero, List.set_cons_succ])
            refine wpAnyH_take (i := 13) (v := (.string (S0 ++ ⟨#[110, 111, 100, 101, 32]⟩ ++ ib ++ ⟨#[32, 122, 111, 110, 101, 32]⟩ ++ iz))) rfl (by kernel_rfl) (by kernel_rfl) (by kernel_rfl) (fun _ _ _ h => h) (Or.inl ⟨by rfl, ?_⟩) (by assumption) ?_
            · intro w' hSw
              (try dsimp only at hSw)
              exact exec_addS (.tmp 49) (.tmp 56) rfl (by kernel_rfl) (by kernel_rfl) (by simp only [ByteArray.size_append]; omega) (by omega)
            (try simp only [Act.put, List.getElem_toArray, List.getElem_cons_zero, List.getElem_cons_succ, List.setIfInBounds_toArray, List.set_cons_zero, List.set_cons_succ])
            refine wpAnyH_take (i := 14) (v := (.string (S0 ++ ⟨#[110, 111, 100, 101, 32]⟩ ++ ib ++ ⟨#[32, 122, 111, 110, 101, 32]⟩ ++ iz ++ ⟨#[32, 112, 97, 114, 116, 115]⟩))) rfl (by kernel_rfl) (by kernel_rfl) (by kernel_rfl) (fun _ _ _ h => h) (Or.inl ⟨by rfl, ?_⟩) (by assumption) ?_
            · intro w' hSw
              (try dsimp only at hSw)
              exact exec_addS (.tmp 57) (.const (.string ⟨#[32, 112, 97, 114, 116, 115]⟩)) rfl (by kernel_rfl) (by kernel_rfl) (by simp only [ByteArray.size_append]; omega) (by omega)
            (try simp only [Act.put, List.getElem_toArray, List.getElem_cons_zero, List.getElem_cons_succ, List.setIfInBounds_toArray, List.set_cons_zero, List.set_cons_succ])
            rw [← HP0.out]
            refine wpAnyH_ready (rs := [15]) (by kernel_rfl) (by simp) ?_
            refine AllReadyH.cons rfl (fun K hK => ?_) AllReadyH.nil
            go_simp
            refine hK.out _ _ (B5.out) (fun hHeld => ?_)
            clear hK
            (try simp only [Act.put, List.setIfInBounds_toArray, List.set_cons_zero, List.set_cons_succ])
            refine wpAnyH_done (by kernel_rfl) ?_ _
            clear hHeld q1 q2 q3 i1 i2 hJl HP0 HIB HIZ HB
            go_wp2_with fail
            go_loopw [5, 9] (fun vs vi wq => ∃ (k : Nat), k ≤ ps.length ∧ vi = .int .i64 (k : Int) ∧ vs = .string (strOf (LJ ++ pfx j z ps k)) ∧ Hid (Below W1.heap.size W1 wq)) (fun _ vi _ => ps.length - (intOf vi).toNat)
            case atStart => exact ⟨0, Nat.zero_le _, rfl, rfl, B5⟩
            case round =>
              clear B5
              obtain ⟨k, hk, rfl, rfl, HB⟩ := hrel
              obtain ⟨n0, n1, n2, n3⟩ := CN.out _ HB.out
              have hTl : (strOf (LJ ++ pfx j z ps k)).size ≤ 200000 := by
                rw [strOf_size, List.length_append]
                have := HBl.out
                have := HPl.out k
                omega
              have q1 : (⟨#[32]⟩ : ByteArray).size = 1 := rfl
              have q2 : (⟨#[10]⟩ : ByteArray).size = 1 := rfl
              by_cases hkl : k < ps.length
              case pos =>
                have hki : (k : Int) < (ps.length : Int) := by omega
                have hpa := n3.at0 (by omega)
                subst hpa
                have c1 := n3.c k hkl
                have HPk := hide (HPi.out ps[k] (List.getElem_mem hkl))
                have HTk : Hid (strOf (LJ ++ pfx j z ps (k + 1)) = strOf (LJ ++ pfx j z ps k) ++ ⟨#[32]⟩ ++ strOf (itB ps[k])) := by
                  show _ = _
                  rw [pfx_succ hkl, show (⟨#[32]⟩ : ByteArray) = strOf [32] from rfl, strOf_app, strOf_app]
                  simp
                have hib : (strOf (itB ps[k])).size ≤ 40 := by rw [strOf_size]; exact itB_len2 HPk.out
                clear n3
                generalize ps[k] = pk at *
                generalize strOf (LJ ++ pfx j z ps k) = T0 at *
                have hT1 : (T0 ++ ⟨#[32]⟩).size ≤ 200001 := by rw [ByteArray.size_append]; omega
                go_wp2_with fail
                refine Calls.mono (IT.out _ HPk.out _ HB.out) ?_
                rintro e X6 ⟨rfl, hb⟩
                have B6 : Hid (Below W1.heap.size W1 X6) := HB.out.trans (hb.mono HB.out.size)
                clear hb HB n0 n1 n2 c1
                generalize strOf (itB pk) = ib at *
                go_wp2_with fail
                rw [← HTk.out]
                go_roundw
                case rel => exact ⟨k + 1, by omega, by go_num, rfl, B6⟩
                case measure => simp [intOf]; omega
              case neg =>
                obtain rfl : k = ps.length := by omega
                have HTe : Hid (strOf (L2 ++ prN ns (j + 1)) = strOf (LJ ++ pfx j z ps ps.length) ++ ⟨#[10]⟩) := by
                  show _ = _
                  rw [HSu.out, ← HPA.out, show (⟨#[10]⟩ : ByteArray) = strOf [10] from rfl, strOf_app, ← List.append_assoc, HLJ.out]
                  simp
                generalize strOf (LJ ++ pfx j z ps ps.length) = T0 at *
                go_wp2_with fail
                rw [← HTe.out]
                go_roundw
                case rel => exact ⟨j + 1, by omega, by go_num, rfl, HB⟩
                case measure => simp [intOf]; omega
end Go.Proofs.YtioiphonajinmaaDoor
namespace Go.Proofs.YtioiphonajinmaaDoor
open Go.RowKit
theorem powR_below {w w' : World} (h : PowR w) (hb : Below w.heap.size w w') : PowR w' := Lib.tabBelow_of_tabIs h _ hb
set_option maxHeartbeats 8000000 in
set_option maxRecDepth 100000 in
set_option linter.unusedSimpArgs false in
set_option linter.unusedVariables false in
/-- the law: it says yes -/
theorem prints_any (N : Nat) (w : World) (st : ByteArray) (x : Nat → Int) (ao : Option Addr) (b o cap : Nat) (pv : Nat → Value) (ns : List ND) (h : NsAt N w ao b o pv ns) (hN : N ≤ w.heap.size) (hs : st.size ≤ 9223372036854775807) (hP : PowR w) (hT : TabG w) (hTW : TabW w) :
    Calls Tryd.prog 4 #[.agg (clA st x (.slice ao ns.length cap))] w fun e w' => e = .returned (.bool true) ∧ Below w.heap.size w w' := by
  obtain ⟨W0, hW0, hX⟩ := boxed st x cap h hN
  have hlen := h.len
  have HPS : Hid (∀ (q : Nat) (h : q < ns.length), ns[q].ps.length ≤ 17592186043904) := fun q hq => by
    obtain ⟨_, _, _, _, _, hp⟩ := h.ps q hq
    exact hp.len
  have HX := hide (hX.stand hN)
  have B0 := hide hX.bel
  have T0 := hide (show TabG w ∧ TabW w ∧ PowR w from ⟨hT, hTW, hP⟩)
  have PB : Hid (∀ Y, Below w.heap.size w Y → PowR Y) := fun Y hY => powR_below T0.out.2.2 hY
  clear hX h hT hP hTW
  have HA := hide (hand_any N W0 st x ao b o cap pv ns HX.out.nd HX.out.le)
  go_enter Tryd.func4, Tryd.ntmps4
  go_upto_region 1 with fail
  rw [← hW0]
  clear hW0
  go_upto_region 2 with (first | refine wpList_loadCl rfl (.tmp 1) rfl w.heap.size st x _ rfl HX.out.cl ?_ | (go_at_call 13; refine Calls.mono HA.out ?_; rintro e W1 ⟨H, vl, vp, gn, cn, zs, ls, zt, rfl, hH, hzt, hT, hge, hb⟩))
  have X1 := hide (HX.out.below hb)
  have B1 := hide (B0.out.trans (hb.mono B0.out.size))
  have HH := hide hH
  have TT := hide hT
  have RC := hide (hd_rc hH.hd)
  have C1 := print_any W1.heap.size W1 st x (some ⟨gn, 0, none⟩) gn 0 cn (pvZ zs) ns (hH.nodes hlen HPS.out) (Nat.le_refl _) hs (PB.out _ B1.out)
  obtain ⟨V, hV⟩ : ∃ V, V = strOf (prV st x ns) := ⟨_, rfl⟩
  obtain ⟨k, hk⟩ : ∃ k, k = errP st x ns := ⟨_, rfl⟩
  have HV := hide hV
  have HK := hide hk
  rw [← HV.out, ← HK.out] at C1
  replace C1 := hide C1
  clear hH hT hb HA HX B0 hV hk
  go_wp2_with (refine wpList_mid rfl (.tmp 13) rfl H 0 st x _ rfl RC.out ?_)
  refine Calls.mono C1.out ?_
  rintro e W2 ⟨rfl, hb⟩
  have X3 := hide (X1.out.below hb)
  have B3 := hide (B1.out.trans (hb.mono B1.out.size))
  have H3 := hide (HH.out.keep hb)
  have K3 := hide (TT.out.keep hb)
  clear hb X1 B1 HH TT RC C1
  have C2 := rprint_any N W2 st x ao b o cap pv ns X3.out.nd X3.out.le hs (PB.out _ B3.out) (T0.out.1.below B3.out) (T0.out.2.1.below B3.out)
  rw [← HV.out, ← HK.out] at C2
  replace C2 := hide C2
  go_wp2_with (refine wpList_loadCl rfl (.tmp 1) rfl w.heap.size st x _ rfl X3.out.cl ?_)
  refine Calls.mono C2.out ?_
  rintro e W4 ⟨rfl, hb⟩
  have B5 := hide (B3.out.trans (hb.mono B3.out.size))
  have H5 := hide (H3.out.keep hb)
  have K5 := hide (K3.out.keep hb)
  clear hb X3 B3 H3 K3 C2 HV HK
  have LL := hide (left_any (H + 1) H W4 st x ns vl vp gn cn zs ls zt H5.out hzt K5.out hlen HPS.out)
  clear H5 K5
  go_wp2_with fail
  refine Calls.mono (num_any _ _) ?_
  rintro e W6 ⟨rfl, rfl⟩
  go_wp2_with fail
  refine Calls.mono LL.out ?_
  rintro e W7 ⟨rfl, hb⟩
  have B7 := hide (B5.out.trans (hb.mono B5.out.size))
  clear hb LL B5
  go_wp2_with fail
  go_ret
  exact ⟨rfl, B7.out⟩
end Go.Proofs.YtioiphonajinmaaDoor
