import Derived.Test.YtgdjfocnaapooaaDoorGFeFit
import Derived.Deep.WholeRow
import Derived.Test.YtgdjfocnaapooaaDoorGDgPlain
import Derived.Laws.Bits64b
import Derived.Test.YtgdjfocnaapooaaDoorProg
namespace Go.Proofs.YtgdjfocnaapooaaDoor
open Go.RowKit
theorem fit_at {m : MM} {k i : Nat} (h : fitAt m k i = true) : 0 ≤ m.num i ∧ m.num i ≤ (mostK k i : Int) ∧ (m.txt i).size ≤ mostK k i := by
  unfold fitAt at h
  simp only [Bool.and_eq_true, decide_eq_true_eq] at h
  exact ⟨h.1.1, h.1.2, h.2⟩
theorem mostT_le (k : Nat) : mostK k 8 ≤ 255 ∧ mostK k 9 ≤ 4096 := by
  have e8 : mostF 8 = 255 := rfl
  have e9 : mostF 9 = 4096 := rfl
  unfold mostK; rw [e8, e9]; constructor <;> split <;> omega
theorem txt_le {m : MM} {k i : Nat} (h : fitAt m k i = true) : (m.txt i).size ≤ 4096 := by
  have h1 := (fit_at h).2.2
  have h2 := mostT_le k
  by_cases e8 : i = 8
  · subst e8; omega
  · by_cases e9 : i = 9
    · subst e9; omega
    · have : m.txt i = ⟨#[]⟩ := by unfold MM.txt; split <;> first | exact absurd rfl e8 | exact absurd rfl e9 | rfl
      rw [this]; decide
theorem fldL_len {m : MM} {k i : Nat} (h : fitAt m k i = true) : (fldL m i).length ≤ 4104 := by
  have h1 := txt_le h
  have h2 := widF_le i
  unfold fldL
  split
  · rw [List.length_append, dig_len, size_data]; omega
  · rw [dig_len]; omega
theorem headF_at (q : Nat) (h : q < 3) : headF[q]'h = q := by
  have : q = 0 ∨ q = 1 ∨ q = 2 := by omega
  rcases this with rfl | rfl | rfl <;> rfl
theorem headF_lt : ∀ i ∈ headF, i < 3 := by decide
theorem Below.of_grown {w w' : World} {row : Option Nat} {B : Nat} (h : w.grownBy w' row) (hB : B ≤ w.heap.size) (hv : ∀ k, row = some k → B ≤ k) : Below B w w' :=
  ⟨h.os, h.tape, h.output, h.size, fun i hi => h.block i (by omega) (fun e => by have := hv i e.symm; omega)⟩
theorem flat_step (m : MM) (l : List Nat) (q : Nat) (h : q < l.length) : (l.take (q + 1)).flatMap (fldL m) = (l.take q).flatMap (fldL m) ++ fldL m l[q] := by
  rw [List.take_succ_eq_append_getElem h, List.flatMap_append, List.flatMap_cons, List.flatMap_nil, List.append_nil]
theorem flat_len {m : MM} {k : Nat} (l : List Nat) (h : ∀ i ∈ l, fitAt m k i = true) : (l.flatMap (fldL m)).length ≤ l.length * 4104 := by
  induction l with
  | nil => simp
  | cons a r ih =>
    have h1 := ih (fun i hi => h i (List.mem_cons_of_mem _ hi))
    have h2 := fldL_len (h a List.mem_cons_self)
    rw [List.flatMap_cons, List.length_append, List.length_cons]
    omega
/-- write of a field that fits -/
theorem fld_any (m : MM) (k i : Nat) (hi : i < 10) (hf : fitAt m k i = true) (base : Nat) (v : Value) (n : Nat) (xs : List Value) (w : World) (hown0 : w.ownsRow base 5 1 v n xs) (hm : n ≤ 1000000) (hbase : base ≤ w.heap.size) (hT : TabF w) (hb6 : 6 ≤ base) :
    Calls Tryd.prog 49 #[.int .i64 (i : Int), v, .agg #[.int .i64 (m.num i), .string (m.txt i)]] w fun e w' => ∃ v', e = .returned v' ∧ w'.ownsRow base 5 1 v' (n + (fldL m i).length) (xs ++ (fldL m i).map ub) ∧ Grew w w' v v' := by
  have h1 := (fit_at hf).1
  have h2 := txt_le hf
  cases ht : isTx i with
  | true =>
    have e : fldL m i = dig (widF i) (m.txt i).size ++ (m.txt i).data.toList := by unfold fldL; rw [ht]; rfl
    rw [e, List.length_append, dig_len, size_data, ← Nat.add_assoc]
    exact fldTxt_any i hi ht (m.num i) (m.txt i) (by omega) base v n xs w hown0 hm hbase hT hb6
  | false =>
    have e : fldL m i = dig (widF i) (m.num i).toNat := by unfold fldL; rw [ht]; rfl
    obtain ⟨N, hN⟩ : ∃ N : Nat, m.num i = (N : Int) := ⟨_, (Int.toNat_of_nonneg h1).symm⟩
    rw [e, hN, Int.toNat_natCast, dig_len]
    exact fldNum_any i hi ht N (m.txt i) base v n xs w hown0 (by omega) hbase hT hb6
set_option maxHeartbeats 4000000 in
set_option maxRecDepth 100000 in
theorem write_any (m : MM) (k : Nat) (h1 : 1 ≤ k) (h16 : k ≤ 16) (hk : m.kind = (k : Int)) (hf : ∀ i, i < 10 → fitAt m k i = true) (w : World) (hT : TabF w) (h6 : 6 ≤ w.heap.size) :
    Calls Tryd.prog 27 #[.int .i64 (k : Int), .agg (cellsV m)] w fun e w' => e = .returned (.string (strOf (textL m))) ∧ Below w.heap.size w w' := by
  obtain ⟨W0, hW0⟩ : ∃ W0, W0 = w.alloc (.cells (cellsV m) 72) := ⟨_, rfl⟩
  have b0 : Below w.heap.size w W0 := by rw [hW0]; exact (Below.refl _ w).alloc (Nat.le_refl _) _
  have s0 : W0.heap.size = w.heap.size + 1 := by rw [hW0]; simp
  have hkk : (k : Int) < 17 := by omega
  obtain ⟨ao, bb, bo, bcap, c1, c2, c3⟩ := hT.body k h1 h16
  have BD : Hid (∀ w', Below w.heap.size w w' → w'.cell? ⟨3, k, none⟩ = some (.slice ao (bodyF k).length bcap) ∧ ∀ j (h : j < (bodyF k).length), w'.cell? ⟨bb, bo + j, none⟩ = some (.int .i64 ((bodyF k)[j] : Int))) := fun w' hb => 
    ⟨(hb.cell (World.block_lt_of_cell? w _ c1)).trans c1, fun j hj => (hb.cell (World.block_lt_of_cell? w _ (c3 j hj))).trans (c3 j hj)⟩
  have AO := hide c2
  have hlt := bodyF_lt k h16
  have hln := bodyF_len k h16
  have d1 := (BD.out _ b0).1
  have CE : Hid (∀ w', Below W0.heap.size W0 w' → ∀ i, i < 10 → w'.cell? ⟨w.heap.size, i * 2, none⟩ = some (.int .i64 (m.num i)) ∧ w'.cell? ⟨w.heap.size, i * 2 + 1, none⟩ = some (.string (m.txt i))) := fun w' hb i hi => by
    rw [hb.cell (by show w.heap.size < _; omega), hb.cell (by show w.heap.size < _; omega), hW0]
    have : i = 0 ∨ i = 1 ∨ i = 2 ∨ i = 3 ∨ i = 4 ∨ i = 5 ∨ i = 6 ∨ i = 7 ∨ i = 8 ∨ i = 9 := by omega
    rcases this with rfl | rfl | rfl | rfl | rfl | rfl | rfl | rfl | rfl | rfl <;> exact ⟨by simp [cellsV, MM.num], by simp [cellsV, MM.txt]⟩
  have HT : Hid (∀ w', Below W0.heap.size W0 w' → TabF w') := fun w' hb => hT.below (b0.trans (hb.mono (by omega)))
  have B0 := hide b0
  clear c1 c2 c3 b0
  go_enter Tryd.func27, Tryd.ntmps27
  go_upto_region 2 with fail
  rw [← hW0]
  clear hW0
  go_wp2_with fail
  clear d1
  go_loopw [5, 7, 15] (fun v _ i wr => ∃ (q : Nat), q ≤ (bodyF k).length ∧ i = .int .i64 (q : Int) ∧ wr.ownsRow W0.heap.size 5 1 v (((bodyF k).take q).flatMap (fldL m)).length ((((bodyF k).take q).flatMap (fldL m)).map ub) ∧ Below W0.heap.size W0 wr) (fun _ _ i _ => (bodyF k).length - (intOf i).toNat)
  case atStart => exact ⟨0, by omega, rfl, World.ownsRow_nil _ _ _ _, Below.refl _ _⟩
  case round =>
    obtain ⟨q, hq, rfl, hown, hB⟩ := hrel
    by_cases hql : q < (bodyF k).length
    case pos =>
      obtain rfl := AO.out (by omega)
      have hb' := B0.out.trans (hB.mono (by omega))
      have d2 := (BD.out _ hb').2 q hql
      have hqi : (q : Int) < ((bodyF k).length : Int) := by omega
      have hfi := hlt _ (List.getElem_mem hql)
      have HS := hide (flat_step m (bodyF k) q hql)
      have HL := hide (flat_len (m := m) (k := k) ((bodyF k).take q) (fun i hi => hf i (hlt i (List.mem_of_mem_take hi)).2))
      have htl : ((bodyF k).take q).length ≤ 6 := by rw [List.length_take]; omega
      generalize (bodyF k)[q] = fi at *
      obtain ⟨e1, e2⟩ := CE.out _ hB fi (by omega)
      have hfx : (fi : Int) < 10 := by omega
      generalize ((bodyF k).take q).flatMap (fldL m) = L at *
      have hLL := HL.out
      have C := hide (fld_any m k fi (by omega) (hf fi (by omega)) W0.heap.size u5 L.length (L.map ub) wr hown (by omega) hB.size (HT.out _ hB) (by omega))
      have GB : Hid (∀ w2 v2, Grew wr w2 u5 v2 → Below W0.heap.size W0 w2) := fun w2 v2 g => hB.trans (g.below hB.size (fun j hj => (hown.lt j hj).1))
      clear hown hB
      generalize fldL m fi = FL at *
      generalize m.num fi = MN at *
      generalize m.txt fi = MT at *
      go_wp2_with fail
      refine Calls.mono C.out ?_
      rintro x w2 ⟨v2, rfl, o2, g2⟩
      have G2 := hide (GB.out _ _ g2)
      clear g2 GB C
      go_wp2_with fail
      go_roundw
      case rel => exact ⟨q + 1, by omega, by go_num, by rw [HS.out, List.length_append, List.map_append]; exact o2, G2.out⟩
      case measure => simp [intOf]; omega
    case neg =>
      obtain rfl : q = (bodyF k).length := by omega
      rw [List.take_length] at hown
      have HL := hide (flat_len (m := m) (k := k) (bodyF k) (fun i hi => hf i (hlt i hi).2))
      have eb : (bodyF k).flatMap (fldL m) = bodyL m := by unfold bodyL; rw [hk]; rfl
      rw [eb] at hown HL
      have hLL := HL.out
      have h6' : (bodyL m).length ≤ 24624 := by omega
      obtain ⟨BL, hBL⟩ : ∃ BL, BL = bodyL m := ⟨_, rfl⟩
      rw [← hBL] at hown HL hLL h6' eb
      have EB := hide hBL
      clear hBL
      obtain ⟨ba, bc, rfl⟩ := own_shape hown
      obtain ⟨W2, hW2⟩ : ∃ W2, W2 = wr.alloc (.cells #[.int .u8 71, .int .u8 82, .int .u8 1] 5 (3, 4)) := ⟨_, rfl⟩
      have m3 : ∀ j v, [ub 71, ub 82, ub 1][j]? = some v → W2.cell? ⟨wr.heap.size, j, none⟩ = some v := by
        intro j v hv
        rw [hW2, cell_of_row _ _ j _ _ _ (heap_last wr _)]
        have hj : j < 3 := (List.getElem?_eq_some_iff.1 hv).1
        have : j = 0 ∨ j = 1 ∨ j = 2 := by omega
        rcases this with rfl | rfl | rfl
        all_goals
          simp only [List.getElem?_cons_zero, List.getElem?_cons_succ, Option.some.injEq] at hv
          subst hv
          rfl
      have ownB : W2.ownsRow W0.heap.size 5 1 (.slice ba BL.length bc) BL.length (BL.map ub) := by rw [hW2]; exact hown.alloc _
      have hcv := Lib.run_convert_bytes_const (P := Tryd.prog) wr 89 5 #[.int .u8 71, .int .u8 82, .int .u8 1] 3 3 Tryd.underlying89 Tryd.underlying5
      rw [show (#[Value.int .u8 71, Value.int .u8 82, Value.int .u8 1] : Array Value).size = 3 from rfl, show (3 : Nat) + 1 = 4 from rfl, ← hW2] at hcv
      have hb2 : Below W0.heap.size W0 W2 := by rw [hW2]; exact hB.alloc hB.size _
      have s2 : W2.heap.size = wr.heap.size + 1 := by rw [hW2]; simp
      have hszB := hB.size
      clear hown hB HL hLL eb hW2
      obtain ⟨i0, hi, hz0, hz1, hz2⟩ := info_partsF info5
      have M3 := hide m3
      have OB2 := hide ownB
      have HB2 := hide hb2
      clear m3 ownB hb2
      go_upto_region 8 with (at_builtin; refine wpList_appFull rfl _ _ rfl W0.heap.size wr.heap.size 3 1 1 [ub 71, ub 82, ub 1] [.int .u8 (k : Int)] ⟨wr.heap.size + 1, 0, none⟩ rfl rfl rfl (fun j v hv => Lib.cell?_alloc_marked _ (M3.out j v hv)) rfl (by rw [← s2]; exact cell_one_new _ _ _) (by omega) (by omega) (by simp; omega) ?_; intro v1 w3 hown3 hbel3 hblk3)
      have hbA : Below W2.heap.size W2 w3 := ((Below.refl _ W2).alloc (Nat.le_refl _) _).trans (hbel3.mono (by simp))
      have HB3 := hide (HB2.out.trans (hbA.mono (by omega)))
      have OB3 : Hid (w3.ownsRow W0.heap.size 5 1 (.slice ba BL.length bc) BL.length (BL.map ub)) := OB2.out.kept (row := none) ⟨hbA.os, hbA.tape, hbA.output, hbA.size, fun i hi _ => hbA.block i hi⟩ (by cases ba <;> simp [Value.ownBlock])
      have e4 : [ub 71, ub 82, ub 1] ++ [Value.int .u8 (k : Int)] = ([71, 82, 1, UInt8.ofNat k] : List UInt8).map ub := by
        simp [ub]; omega
      rw [e4] at hown3
      have AP3 : Hid (Apart (.slice ba BL.length bc) v1) := by
        unfold Apart
        by_cases hn : (Value.slice ba BL.length bc).ownBlock = none
        · exact .inl hn
        · right
          rw [hblk3]
          intro e
          have := (OB2.out.lt _ e).2
          simp at this
          omega
      have OW3 := hide hown3
      obtain ⟨z0, z1, z2⟩ : w3.cell? ⟨1, 0, none⟩ = some (.int .i64 0) ∧ w3.cell? ⟨1, 1, none⟩ = some (.int .i64 1) ∧ w3.cell? ⟨1, 2, none⟩ = some (.int .i64 2) := ⟨(HT.out _ HB3.out).heads 0 (by omega), (HT.out _ HB3.out).heads 1 (by omega), (HT.out _ HB3.out).heads 2 (by omega)⟩
      clear hown3 hbel3 hblk3 hbA hcv e4 M3 OB2 HB2 AO BD hlt hln
      go_wp2_with fail
      clear z0 z1 z2
      go_loopw [8, 10, 33] (fun v _ i wq => ∃ (q : Nat), q ≤ 3 ∧ i = .int .i64 (q : Int) ∧ wq.ownsRow W0.heap.size 5 1 v (4 + ((headF.take q).flatMap (fldL m)).length) (([71, 82, 1, UInt8.ofNat k] ++ (headF.take q).flatMap (fldL m)).map ub) ∧ wq.ownsRow W0.heap.size 5 1 (.slice ba BL.length bc) BL.length (BL.map ub) ∧ Apart (.slice ba BL.length bc) v ∧ Below W0.heap.size W0 wq) (fun _ _ i _ => 3 - (intOf i).toNat)
      case atStart => exact ⟨0, by omega, rfl, by simpa using OW3.out, OB3.out, AP3.out, HB3.out⟩
      case round =>
        clear OW3 OB3 AP3 HB3
        obtain ⟨q, hq3, rfl, hown, hbod, hap, hB⟩ := hrel
        by_cases hq : q < 3
        case pos =>
          have hxa : ∀ w', (Instr.index 101 (.agg #[.int .i64 0, .int .i64 1, .int .i64 2]) (.int .i64 (q : Int))).run Tryd.prog w' = .ok (.int .i64 (q : Int)) w' := fun w' => ix_heads q hq w'
          obtain ⟨e1, e2⟩ := CE.out _ hB q (by omega)
          have hqi : (q : Int) < 3 := by omega
          have hq10 : (q : Int) < 10 := by omega
          have HS := hide (flat_step m headF q (by exact hq))
          rw [headF_at q hq] at HS
          have HL := flat_len (m := m) (k := k) (headF.take q) (fun i hi => hf i (by have := headF_lt i (List.mem_of_mem_take hi); omega))
          have htl : (headF.take q).length ≤ 3 := by rw [List.length_take]; exact Nat.min_le_right _ _
          generalize (headF.take q).flatMap (fldL m) = L at *
          have C := hide (fld_any m k q (by omega) (hf q (by omega)) W0.heap.size u8 (4 + L.length) _ wr hown (by omega) hB.size (HT.out _ hB) (by omega))
          have GB : Hid (∀ w2 v2, Grew wr w2 u8 v2 → Below W0.heap.size W0 w2) := fun w2 v2 g => hB.trans (g.below hB.size (fun j hj => (hown.lt j hj).1))
          have GA : Hid (∀ w2 v2, Grew wr w2 u8 v2 → Apart (.slice ba BL.length bc) v2 ∧ w2.ownsRow W0.heap.size 5 1 (.slice ba BL.length bc) BL.length (BL.map ub)) := fun w2 v2 g => hap.grew hbod g
          clear hown hB hbod hap HL
          generalize fldL m q = FL at *
          generalize m.num q = MN at *
          generalize m.txt q = MT at *
          go_wp2_with fail
          refine Calls.mono C.out ?_
          rintro x w2 ⟨v2, rfl, o2, g2⟩
          have G2 := hide (GB.out _ _ g2)
          have A2 := hide (GA.out _ _ g2)
          have O2 := hide o2
          clear g2 GB GA C o2
          go_wp2_with fail
          go_roundw
          case rel => exact ⟨q + 1, by omega, by go_num, by rw [HS.out, List.length_append, ← Nat.add_assoc, ← List.append_assoc, List.map_append]; exact O2.out, A2.out.2, A2.out.1, G2.out⟩
          case measure => simp [intOf]; omega
        case neg =>
          obtain rfl : q = 3 := by omega
          have HL := flat_len (m := m) (k := k) headF (fun i hi => hf i (by have := headF_lt i hi; omega))
          have eh : ([71, 82, 1, UInt8.ofNat k] : List UInt8) ++ (headF.take 3).flatMap (fldL m) = headL5 m := by unfold headL5; rw [hk]; rfl
          have el : 4 + ((headF.take 3).flatMap (fldL m)).length = (headL5 m).length := by rw [← eh, List.length_append]; rfl
          have et : headL5 m ++ dig 4 BL.length ++ BL = textL m := by unfold textL; rw [EB.out]
          have hl5 : (headL5 m).length ≤ 13000 := by rw [← el]; have : headF.length = 3 := rfl; have e : headF.take 3 = headF := rfl; rw [e]; omega
          rw [eh, el] at hown
          have ET := hide et
          clear HL eh el et
          generalize headL5 m = HH at *
          have P := hide (put_any BL.length 4 (by omega) W0.heap.size u8 HH.length (HH.map ub) wr hown (by omega) hB.size)
          have GB : Hid (∀ w2 v2, Grew wr w2 u8 v2 → Below W0.heap.size W0 w2) := fun w2 v2 g => hB.trans (g.below hB.size (fun j hj => (hown.lt j hj).1))
          have GA : Hid (∀ w2 v2, Grew wr w2 u8 v2 → Apart (.slice ba BL.length bc) v2 ∧ w2.ownsRow W0.heap.size 5 1 (.slice ba BL.length bc) BL.length (BL.map ub)) := fun w2 v2 g => hap.grew hbod g
          clear hown hB hbod hap
          go_wp2_with fail
          refine Calls.mono P.out ?_
          rintro x w2 ⟨v2, rfl, o2, g2⟩
          have G2 := hide (GB.out _ _ g2)
          obtain ⟨a2, b2⟩ := GA.out _ _ g2
          have e5 : HH.map ub ++ (dig 4 BL.length).map ub = (HH ++ dig 4 BL.length).map ub := by rw [List.map_append]
          have e6 : HH.length + 4 = (HH ++ dig 4 BL.length).length := by rw [List.length_append, dig_len]
          rw [e5, e6] at o2
          have hh6 : (HH ++ dig 4 BL.length).length ≤ 14000 := by rw [← e6]; omega
          generalize HH ++ dig 4 BL.length = H2 at *
          have O2 := hide o2
          clear g2 GB GA P e5 e6 o2
          rcases b2.2 with ⟨hv, h0⟩ | ⟨g, cap, cur, hv, _, _, _, _, _, _⟩
          case inl =>
            injection hv with hv1 hv2 hv3
            subst hv1 hv3
            obtain rfl : BL = [] := List.length_eq_zero_iff.1 h0
            have hcv : (convert 89 9 v2).run Tryd.prog w2 = .ok (.string (strOf H2)) w2 := own_conv O2.out rfl Tryd.underlying89 Tryd.underlying5 Tryd.underlying9
            clear b2 a2
            go_wp2_with (at_builtin; refine wpList_appNone rfl _ _ rfl W0.heap.size _ _ _ rfl rfl O2.out ?_)
            go_ret
            exact ⟨ret_str (by rw [← ET.out, List.append_nil]), B0.out.trans (G2.out.mono B0.out.size)⟩
          case inr =>
            injection hv with hv1 hv2 hv3
            subst hv1 hv3
            have BC := hide (b2.cells (g := g) rfl)
            have SZ := hide (Nat.le_trans (show W0.heap.size ≤ W0.heap.size from Nat.le_refl _) G2.out.size)
            clear b2
            go_wp2_with (at_builtin; refine wpList_append_own_at _ rfl _ _ 89 rfl W0.heap.size 5 i0 (.int .u8 0) 1 1 Tryd.underlying89 hi hz0 hz1 hz2 rfl (by decide) _ _ _ rfl O2.out ⟨g, 0, none⟩ BL.length bc (BL.map ub) rfl (by simp) BC.out (oneCells BL) (by unfold maxLen; omega) (by omega) SZ.out ?_; intro v3 w4 hown3 hgrow3 hnil3 hat3; rw [← List.map_append] at hown3; have hcv : (convert 89 9 v3).run Tryd.prog w4 = .ok (.string (strOf (H2 ++ BL))) w4 := own_conv hown3 (by rw [List.length_append]) Tryd.underlying89 Tryd.underlying5 Tryd.underlying9; have G4 := hide (G2.out.trans (Below.of_grown hgrow3 SZ.out (fun j hj => (O2.out.lt j hj).1))); clear hown3 hgrow3 hnil3 hat3)
            go_ret
            exact ⟨ret_str (by rw [ET.out]), B0.out.trans (G4.out.mono B0.out.size)⟩
end Go.Proofs.YtgdjfocnaapooaaDoor
namespace Go.Proofs.YtgdjfocnaapooaaDoor
open Go.RowKit
/-- twenty cells at a time -/
theorem cells_one (m : MM) : (cellsV m).all (·.oneCell') = true := by simp [cellsV, Value.oneCell']
theorem wpList_storeNew {w0 w : World} {ops : Array Oper} {rest : List Oper} {o : Oper} {a : Act} {Q : Exit → Act → World → Prop} (hgd : o.guard = none) (p x : Operand) (ho : o.op = .store 72 p x) (b : Nat) (hp : a.eval p = .pointer (some ⟨b, 0, none⟩)) (hb : b = w0.heap.size) (m : MM) (hx : a.eval x = .agg (cellsV m)) (c : Array Value) (hc : c.size = 20) (hw : w = w0.alloc (.cells c 72))
    (h : wpList Tryd.prog ops Q rest (a.put o.dst undef) (w0.alloc (.cells (cellsV m) 72))) : wpList Tryd.prog ops Q (o :: rest) a w := by
  subst hw
  subst hb
  refine wpList_plain hgd fun K hK => ?_
  unfold Oper.wp execOp
  simp only [ho, Sem.run_bind, Sem.run_pure, Result.andThen_ok, hp, hx, run_storeAt_new w0 72 c (cellsV m) cells_info (by rw [hc]; rfl) (cells_one m)]
  exact hK _ _ h
theorem built_cells (m : MM) : Tryd.prog.built 72 [(0, .agg #[.int .i64 m.n0, .string ⟨#[]⟩]), (1, .agg #[.int .i64 m.n1, .string ⟨#[]⟩]), (2, .agg #[.int .i64 m.n2, .string ⟨#[]⟩]), (3, .agg #[.int .i64 m.n3, .string ⟨#[]⟩]), (4, .agg #[.int .i64 m.n4, .string ⟨#[]⟩]), (5, .agg #[.int .i64 m.n5, .string ⟨#[]⟩]), (6, .agg #[.int .i64 m.n6, .string ⟨#[]⟩]), (7, .agg #[.int .i64 m.n7, .string ⟨#[]⟩]), (8, .agg #[.int .i64 0, .string m.key]), (9, .agg #[.int .i64 0, .string m.val])] = some (cellsV m) := by kernel_rfl
theorem wpList_buildAll {w : World} {ops : Array Oper} {rest : List Oper} {o : Oper} {a : Act} {Q : Exit → Act → World → Prop} (hgd : o.guard = none) (x0 x1 x2 x3 x4 x5 x6 x7 x8 x9 : Operand) (ho : o.op = .build 72 #[(0, x0), (1, x1), (2, x2), (3, x3), (4, x4), (5, x5), (6, x6), (7, x7), (8, x8), (9, x9)]) (m : MM) (h0 : a.eval x0 = .agg #[.int .i64 m.n0, .string ⟨#[]⟩]) (h1 : a.eval x1 = .agg #[.int .i64 m.n1, .string ⟨#[]⟩]) (h2 : a.eval x2 = .agg #[.int .i64 m.n2, .string ⟨#[]⟩]) (h3 : a.eval x3 = .agg #[.int .i64 m.n3, .string ⟨#[]⟩]) (h4 : a.eval x4 = .agg #[.int .i64 m.n4, .string ⟨#[]⟩]) (h5 : a.eval x5 = .agg #[.int .i64 m.n5, .string ⟨#[]⟩]) (h6 : a.eval x6 = .agg #[.int .i64 m.n6, .string ⟨#[]⟩]) (h7 : a.eval x7 = .agg #[.int .i64 m.n7, .string ⟨#[]⟩]) (h8 : a.eval x8 = .agg #[.int .i64 0, .string m.key]) (h9 : a.eval x9 = .agg #[.int .i64 0, .string m.val])
    (h : wpList Tryd.prog ops Q rest (a.put o.dst (.agg (cellsV m))) w) : wpList Tryd.prog ops Q (o :: rest) a w := by
  refine wpList_plain hgd fun K hK => ?_
  unfold Oper.wp execOp
  simp only [ho, List.map_toArray, List.map_cons, List.map_nil, h0, h1, h2, h3, h4, h5, h6, h7, h8, h9, Sem.run_bind, Sem.run_pure, Result.andThen_ok, run_build w 72 _ (cellsV m) (built_cells m)]
  exact hK _ _ h
theorem res_cells (m : MM) (w : World) (b : Nat) (h : w.heap[b]? = some (.cells (cellsV m) 72)) : (loadVar 72 ⟨b, 0, none⟩).run Tryd.prog w = .ok (.agg (cellsV m)) w :=
  run_loadVar_row _ _ 72 72 (cellsV m) (0, 0) _ h Tryd.underlying72 rfl cells_info
theorem res_all {fn : Func} {p : Tmp} (h : fn.results = #[.cell p 72]) (tmps : Array Value) (m : MM) (w : World) (b : Nat) (ht : tmps.getD p undef = .pointer (some ⟨b, 0, none⟩)) (hO : w.heap[b]? = some (.cells (cellsV m) 72)) : (results fn tmps).run Tryd.prog w = .ok (.agg (cellsV m)) w := by
  have hl := res_cells m w b hO
  have ht' : tmps[p]?.getD undef = .pointer (some ⟨b, 0, none⟩) := by simpa using ht
  unfold results
  rw [h]
  simp [ht', asAddr, hl]
set_option maxHeartbeats 2000000 in
set_option maxRecDepth 100000 in
theorem cellsOf_any (m : MM) (w : World) :
    Calls Tryd.prog 25 #[.agg (msgV m)] w fun e w' => e = .returned (.agg (cellsV m)) ∧ Below w.heap.size w w' := by
  unfold msgV
  go_enter Tryd.func25, Tryd.ntmps25
  go_wp2_with (first | (refine wpList_buildAll rfl _ _ _ _ _ _ _ _ _ _ rfl m rfl rfl rfl rfl rfl rfl rfl rfl rfl rfl ?_) | (refine wpList_storeNew (w0 := w.alloc _) rfl (.tmp 2) (.tmp 33) rfl _ rfl (by simp) m rfl _ rfl rfl ?_))
  refine bodyPost_ret (v := .agg (cellsV m)) (res_all Tryd.results25 _ m _ (w.heap.size + 1) rfl ?_) rfl ⟨rfl, ((Below.refl _ w).alloc (Nat.le_refl _) _).alloc (by simp) _⟩
  obtain ⟨W1, hW1⟩ : ∃ W1, W1 = w.alloc (.cells #[.int .i64 m.kind, .int .i64 m.n0, .int .i64 m.n1, .int .i64 m.n2, .int .i64 m.n3, .int .i64 m.n4, .int .i64 m.n5, .int .i64 m.n6, .int .i64 m.n7, .string m.key, .string m.val] 27) := ⟨_, rfl⟩
  have e : w.heap.size + 1 = W1.heap.size := by rw [hW1]; simp
  rw [e, ← hW1]
  exact heap_last W1 _
end Go.Proofs.YtgdjfocnaapooaaDoor
namespace Go.Proofs.YtgdjfocnaapooaaDoor
open Go.RowKit
theorem ofInt32 (a : Nat) (ha : a < 4294967296) : (BitVec.ofInt 32 (a : Int)).toNat = a := by
  rw [BitVec.ofInt_natCast, BitVec.toNat_ofNat]; exact Nat.mod_eq_of_lt (by omega)
theorem bxor32 (a b : Nat) (ha : a < 4294967296) (hb : b < 4294967296) : bits .xor .u32 (a : Int) (b : Int) = ((a ^^^ b : Nat) : Int) := by
  have hx : a ^^^ b < 2 ^ 32 := Nat.xor_lt_two_pow (by omega) (by omega)
  show IntKind.u32.wrap ((BitVec.ofInt 32 (a : Int) ^^^ BitVec.ofInt 32 (b : Int)).toNat : Int) = _
  rw [BitVec.toNat_xor, ofInt32 a ha, ofInt32 b hb]
  exact u32_in (by omega) (by omega)
theorem band32 (a b : Nat) (ha : a < 4294967296) (hb : b < 4294967296) : bits .and .u32 (a : Int) (b : Int) = ((a &&& b : Nat) : Int) := by
  have hx : a &&& b < 2 ^ 32 := Nat.and_lt_two_pow _ (by omega)
  show IntKind.u32.wrap ((BitVec.ofInt 32 (a : Int) &&& BitVec.ofInt 32 (b : Int)).toNat : Int) = _
  rw [BitVec.toNat_and, ofInt32 a ha, ofInt32 b hb]
  exact u32_in (by omega) (by omega)
theorem bor32 (a b : Nat) (ha : a < 4294967296) (hb : b < 4294967296) : bits .or .u32 (a : Int) (b : Int) = ((a ||| b : Nat) : Int) := by
  have hx : a ||| b < 2 ^ 32 := Nat.or_lt_two_pow (by omega) (by omega)
  show IntKind.u32.wrap ((BitVec.ofInt 32 (a : Int) ||| BitVec.ofInt 32 (b : Int)).toNat : Int) = _
  rw [BitVec.toNat_or, ofInt32 a ha, ofInt32 b hb]
  exact u32_in (by omega) (by omega)
theorem xor32_lt {a b : Nat} (ha : a < 4294967296) (hb : b < 4294967296) : a ^^^ b < 4294967296 := Nat.xor_lt_two_pow (n := 32) ha hb
theorem bnot32 (a : Nat) (ha : a < 4294967296) : bits .xor .u32 IntKind.u32.max (a : Int) = ((4294967295 ^^^ a : Nat) : Int) := by
  have := bxor32 4294967295 a (by omega) ha
  exact this
/-- a step -/
def stp (w : Nat) : Nat := if w % 2 = 0 then w / 2 else (w / 2) ^^^ 3988292384
def T4 : List Int := [0, 498536548, 997073096, 651767980, 1994146192, 1802195444, 1303535960, 1342533948, 3988292384, 4027552580, 3604390888, 3412177804, 2607071920, 2262029012, 2685067896, 3183342108]
def t4 (n : Nat) : Nat := (T4.getD n 0).toNat
theorem t4_lt (n : Nat) (h : n < 16) : t4 n < 4294967296 := by
  have : ∀ m : Fin 16, t4 m.1 < 4294967296 := by decide
  exact this ⟨n, h⟩
theorem t4_int (n : Nat) (h : n < 16) : T4.getD n 0 = (t4 n : Int) := by
  have : ∀ m : Fin 16, T4.getD m.1 0 = (t4 m.1 : Int) := by decide
  exact this ⟨n, h⟩
/-- half a byte's steps -/
def nib (w : Nat) : Nat := (w / 16) ^^^ t4 (w % 16)
def crcB (w b : Nat) : Nat := nib (nib (w ^^^ b))
def crcW (w : Nat) (l : List UInt8) : Nat := l.foldl (fun w b => crcB w b.toNat) w
def crcN (sum : Nat) (l : List UInt8) : Nat := 4294967295 ^^^ crcW (4294967295 ^^^ sum) l
theorem nib_lt {w : Nat} (h : w < 4294967296) : nib w < 4294967296 := xor32_lt (by omega) (t4_lt _ (by omega))
theorem crcB_lt {w b : Nat} (h : w < 4294967296) (hb : b < 256) : crcB w b < 4294967296 := nib_lt (nib_lt (xor32_lt h (by omega)))
theorem crcW_lt {w : Nat} (l : List UInt8) (h : w < 4294967296) : crcW w l < 4294967296 := by
  induction l generalizing w with
  | nil => exact h
  | cons b r ih => exact ih (crcB_lt h b.toNat_lt)
theorem crcN_lt {w : Nat} (l : List UInt8) (h : w < 4294967296) : crcN w l < 4294967296 := xor32_lt (by omega) (crcW_lt l (xor32_lt (by omega) h))
theorem crcW_append (w : Nat) (a b : List UInt8) : crcW w (a ++ b) = crcW (crcW w a) b := by unfold crcW; rw [List.foldl_append]
theorem not_not32 (w : Nat) : 4294967295 ^^^ (4294967295 ^^^ w) = w := by rw [← Nat.xor_assoc, Nat.xor_self, Nat.zero_xor]
theorem crcN_append (w : Nat) (a b : List UInt8) : crcN w (a ++ b) = crcN (crcN w a) b := by
  unfold crcN; rw [crcW_append, not_not32]
theorem crcN_nil (w : Nat) : crcN w [] = w := not_not32 w
/-- the table lies in memory -/
def Tab4 (g : Nat) (w : World) : Prop := ∀ j, j < 16 → w.cell? ⟨g, j, none⟩ = some (.int .u32 (t4 j : Int))
theorem Tab4.below {g : Nat} {w w' : World} {B : Nat} (h : Tab4 g w) (hb : Below B w w') (hg : g < B) : Tab4 g w' := fun j hj => (hb.cell (p := ⟨g, j, none⟩) hg).trans (h j hj)
end Go.Proofs.YtgdjfocnaapooaaDoor
namespace Go.Proofs.YtgdjfocnaapooaaDoor
open Go.RowKit
theorem ix_str (w : World) (s : ByteArray) (k : Nat) (hk : k < s.size) : (Instr.index 9 (.string s) (.int .i64 (k : Int))).run Tryd.prog w = .ok (.int .u8 (s[k].toNat : Int)) w := by
  rw [run_index_string w 9 s .i64 k Tryd.underlying9, dif_pos ⟨by omega, by omega⟩]
  simp
theorem crcW_snoc (w : Nat) (l : List UInt8) (k : Nat) (h : k < l.length) : crcW w (l.take (k + 1)) = crcB (crcW w (l.take k)) l[k].toNat := by
  rw [List.take_succ_eq_append_getElem h, crcW_append]
  rfl
theorem bnib (Y : Nat) (h : Y < 4294967296) : bits .xor .u32 ((Y : Int) / 16) (t4 (Y % 16) : Int) = (nib Y : Int) := by
  have := bxor32 (Y / 16) (t4 (Y % 16)) (by omega) (t4_lt _ (by omega))
  rwa [show ((Y / 16 : Nat) : Int) = (Y : Int) / 16 by omega] at this
set_option maxHeartbeats 1000000 in
set_option maxRecDepth 100000 in
/-- lengthen -/
theorem lengthen_any (a : Nat) (s : ByteArray) (hn : a < 4294967296) (hs : s.size ≤ 9223372036854775807) (w : World) (hT : Tab4 5 w) :
    Calls Tryd.prog 65 #[.int .u32 (a : Int), .string s] w fun e w' => e = .returned (.int .u32 (crcN a s.data.toList : Int)) ∧ w = w' := by
  have hnot := bnot32 a hn
  have HT := hide hT
  clear hT
  generalize hA : 4294967295 ^^^ a = A at hnot
  have hA4 : A < 4294967296 := by rw [← hA]; exact xor32_lt (by omega) hn
  have HF : Hid (crcN a s.data.toList = 4294967295 ^^^ crcW A s.data.toList) := by show crcN a s.data.toList = 4294967295 ^^^ crcW A s.data.toList; rw [← hA]; rfl
  clear hA
  go_enter Tryd.func65, Tryd.ntmps65
  go_wp2
  go_loop [5, 11] (fun v i => ∃ k : Nat, k ≤ s.size ∧ i = .int .i64 k ∧ v = .int .u32 (crcW A (s.data.toList.take k) : Int)) (fun _ i => s.size - (intOf i).toNat)
  case atStart => exact ⟨0, Nat.zero_le _, rfl, rfl⟩
  case round =>
    obtain ⟨k, hk, rfl, rfl⟩ := hrel
    have hW4 : crcW A (s.data.toList.take k) < 4294967296 := crcW_lt _ hA4
    by_cases hlt : k < s.size
    · have hS := crcW_snoc A s.data.toList k (by rw [size_data]; exact hlt)
      have hxs := fun w' => ix_str w' s k hlt
      rw [show s.data.toList[k]'(by rw [size_data]; exact hlt) = s[k] from rfl] at hS
      have hX0 : s[k].toNat < 256 := s[k].toNat_lt
      generalize s[k].toNat = X at *
      generalize hW : crcW A (s.data.toList.take k) = W at *
      have HW := hide hW
      have HS := hide hS
      clear hW hS
      have h1 := bxor32 W X hW4 (by omega)
      have h1l : W ^^^ X < 4294967296 := xor32_lt hW4 (by omega)
      have HB : Hid (crcB W X = nib (nib (W ^^^ X))) := rfl
      generalize W ^^^ X = Y at *
      have h2 := bnib Y h1l
      have h2c := HT.out (Y % 16) (by omega)
      have h2l : nib Y < 4294967296 := nib_lt h1l
      generalize nib Y = Z at *
      have h3 := bnib Z h2l
      have h3c := HT.out (Z % 16) (by omega)
      generalize nib Z = V at *
      go_wp2
      go_round
      case rel => exact ⟨k + 1, by omega, by go_num, by rw [HS.out, HB.out]⟩
      case measure => simp [intOf]; omega
    · obtain rfl : k = s.size := by omega
      have hfin : s.data.toList.take s.size = s.data.toList := List.take_of_length_le (by simp)
      rw [hfin] at hW4 ⊢
      have h9 := bnot32 (crcW A s.data.toList) hW4
      rw [← HF.out] at h9
      clear hfin
      go_wp2
      go_ret
      exact ⟨rfl, rfl⟩
end Go.Proofs.YtgdjfocnaapooaaDoor
namespace Go.Proofs.YtgdjfocnaapooaaDoor
open Go.RowKit
/-- a list of texts in memory -/
def Lies (b off : Nat) (w : World) (xs : List ByteArray) : Prop := ∀ (j : Nat) x, xs[j]? = some x → w.cell? ⟨b, off + j, none⟩ = some (.string x)
def cat (xs : List ByteArray) : List UInt8 := (xs.map (·.data.toList)).flatten
theorem cat_snoc (xs : List ByteArray) (k : Nat) (h : k < xs.length) : cat (xs.take (k + 1)) = cat (xs.take k) ++ xs[k].data.toList := by
  unfold cat
  rw [List.take_succ_eq_append_getElem h, List.map_append, List.flatten_append]
  simp
theorem cat_nil : cat [] = [] := rfl
set_option maxHeartbeats 1000000 in
set_option maxRecDepth 100000 in
/-- digest.CRC, of parts that lie in memory -/
theorem crc_any (ao : Option Addr) (b off cap : Nat) (xs : List ByteArray) (w : World) (hao : 0 < xs.length → ao = some ⟨b, off, none⟩) (hl : Lies b off w xs) (hlen : xs.length ≤ 9223372036854775807) (hs : ∀ x ∈ xs, x.size ≤ 9223372036854775807) (hT : Tab4 5 w) :
    Calls Tryd.prog 51 #[.slice ao xs.length cap] w fun e w' => e = .returned (.int .i64 (crcN 0 (cat xs) : Int)) ∧ w = w' := by
  have HT := hide hT
  have HL := hide hl
  have HS := hide hs
  clear hT hl hs
  go_enter Tryd.func51, Tryd.ntmps51
  go_wp2
  go_loop [3, 8] (fun v i => ∃ k : Nat, k ≤ xs.length ∧ i = .int .i64 k ∧ v = .int .u32 (crcN 0 (cat (xs.take k)) : Int)) (fun _ i => xs.length - (intOf i).toNat)
  case atStart => exact ⟨0, Nat.zero_le _, rfl, by rw [List.take_zero, cat_nil, crcN_nil]; rfl⟩
  case round =>
    obtain ⟨k, hk, rfl, rfl⟩ := hrel
    have hW4 : crcN 0 (cat (xs.take k)) < 4294967296 := crcN_lt _ (by omega)
    by_cases hlt : k < xs.length
    · obtain rfl := hao (by omega)
      clear hao
      have hc := HL.out k _ (List.getElem?_eq_getElem hlt)
      have hx := HS.out _ (List.getElem_mem hlt)
      have hS := cat_snoc xs k hlt
      have hN : crcN 0 (cat (xs.take (k + 1))) = crcN (crcN 0 (cat (xs.take k))) xs[k].data.toList := by rw [hS, crcN_append]
      generalize xs[k] = X at *
      generalize crcN 0 (cat (xs.take k)) = W at *
      have HN := hide hN
      clear hS hN
      have C : Hid (Calls Tryd.prog 65 #[.int .u32 (W : Int), .string X] w fun e w' => e = .returned (.int .u32 (crcN W X.data.toList : Int)) ∧ w = w') := lengthen_any W X hW4 hx w HT.out
      go_wp2_with (go_at_call 65; refine Calls.mono C.out ?_; rintro e w' ⟨rfl, rfl⟩)
      go_round
      case rel => exact ⟨k + 1, by omega, by go_num, by rw [HN.out]⟩
      case measure => simp [intOf]; omega
    · obtain rfl : k = xs.length := by omega
      rw [List.take_of_length_le (Nat.le_refl _)] at hW4 ⊢
      go_wp2
      go_ret
      exact ⟨rfl, rfl⟩
end Go.Proofs.YtgdjfocnaapooaaDoor
namespace Go.Proofs.YtgdjfocnaapooaaDoor
open Go.RowKit
set_option maxHeartbeats 1000000 in
set_option maxRecDepth 100000 in
theorem isKind_any (n : Int) (w : World) :
    Calls Tryd.prog 24 #[.int .i64 n] w fun e w' => e = .returned (.bool (decide (1 ≤ n ∧ n ≤ 16))) ∧ w = w' := by
  by_cases h1 : 1 ≤ n
  · by_cases h2 : n ≤ 16
    · rw [decide_eq_true ⟨h1, h2⟩]
      go_enter Tryd.func24, Tryd.ntmps24
      go_wp2
      go_ret
      exact ⟨rfl, rfl⟩
    · rw [decide_eq_false (fun h => h2 h.2)]
      go_enter Tryd.func24, Tryd.ntmps24
      go_wp2
      go_ret
      exact ⟨rfl, rfl⟩
  · rw [decide_eq_false (fun h => h1 h.1)]
    go_enter Tryd.func24, Tryd.ntmps24
    go_wp2
    go_ret
    exact ⟨rfl, rfl⟩
def le4 (c : Nat) : List UInt8 := [UInt8.ofNat c, UInt8.ofNat (c / 256), UInt8.ofNat (c / 65536), UInt8.ofNat (c / 16777216)]
set_option maxHeartbeats 1000000 in
set_option maxRecDepth 100000 in
theorem sumOf_any (s : ByteArray) (hs : s.size ≤ 1000000) (w : World) (hT : Tab4 5 w) :
    Calls Tryd.prog 28 #[.string s] w fun e w' => e = .returned (.string (strOf (le4 (crcN 0 s.data.toList)))) ∧ Below w.heap.size w w' := by
  obtain ⟨W0, hW0⟩ : ∃ W0, W0 = w.alloc (.cells #[.string s] 9) := ⟨_, rfl⟩
  have b0 : Below w.heap.size w W0 := by rw [hW0]; exact (Below.refl _ w).alloc (Nat.le_refl _) _
  have hl : Lies w.heap.size 0 W0 [s] := by
    intro j x hx
    match j, hx with
    | 0, hx => simp at hx; subst hx; rw [hW0]; simp
  have C := hide (crc_any (some ⟨w.heap.size, 0, none⟩) w.heap.size 0 1 [s] W0 (fun _ => rfl) hl (by simp) (fun x hx => by simp at hx; subst hx; omega) (fun j hj => (b0.cell (World.block_lt_of_cell? w _ (hT j hj))).trans (hT j hj)))
  have hc : crcN 0 s.data.toList < 4294967296 := crcN_lt _ (by omega)
  rw [show cat [s] = s.data.toList by simp [cat]] at C
  generalize crcN 0 s.data.toList = c at *
  have B0 := hide b0
  clear b0 hl
  go_enter Tryd.func28, Tryd.ntmps28
  go_wp2_with fail
  rw [← hW0]
  clear hW0
  refine Calls.mono C.out ?_
  rintro e w1 ⟨rfl, rfl⟩
  have ea : (#[.int .u8 ((c : Int) % 256), .int .u8 ((c : Int) / 256 % 256), .int .u8 ((c : Int) / 65536 % 256), .int .u8 ((c : Int) / 16777216)] : Array Value).toList = (le4 c).map ub := by
    simp only [le4, ub, List.map_cons, List.map_nil, UInt8.toNat_ofNat']
    rw [show ((c : Int) % 256) = ((c % 2 ^ 8 : Nat) : Int) by omega, show ((c : Int) / 256 % 256) = ((c / 256 % 2 ^ 8 : Nat) : Int) by omega, show ((c : Int) / 65536 % 256) = ((c / 65536 % 2 ^ 8 : Nat) : Int) by omega, show ((c : Int) / 16777216) = ((c / 16777216 % 2 ^ 8 : Nat) : Int) by omega]
  have hcv := own_conv (P := Tryd.prog) (dst := 9) (ea ▸ World.ownsRow_lit (base := W0.heap.size) (e := 5) (size := 1) W0 #[.int .u8 ((c : Int) % 256), .int .u8 ((c : Int) / 256 % 256), .int .u8 ((c : Int) / 65536 % 256), .int .u8 ((c : Int) / 16777216)] 4 (Nat.le_refl _) (by unfold maxLen; omega) rfl) rfl Tryd.underlying89 Tryd.underlying5 Tryd.underlying9
  clear ea
  go_wp2_with fail
  go_ret
  exact ⟨rfl, B0.out.alloc B0.out.size _⟩
end Go.Proofs.YtgdjfocnaapooaaDoor
namespace Go.Proofs.YtgdjfocnaapooaaDoor
open Go.RowKit
theorem fitM_all {m : MM} {k : Nat} (h : (List.range 10).all (fitAt m k) = true) : ∀ i, i < 10 → fitAt m k i = true := fun i hi => List.all_eq_true.1 h i (List.mem_range.2 hi)
theorem textL_len (m : MM) (k : Nat) (hk : m.kind = (k : Int)) (h16 : k ≤ 16) (hf : ∀ i, i < 10 → fitAt m k i = true) : (textL m).length ≤ 900000 := by
  have h1 := flat_len (m := m) (k := k) headF (fun i hi => hf i (by have := headF_lt i hi; omega))
  have h2 := flat_len (m := m) (k := k) (bodyF k) (fun i hi => hf i (bodyF_lt k h16 i hi).2)
  have h3 := bodyF_len k h16
  have e : bodyL m = (bodyF k).flatMap (fldL m) := by unfold bodyL; rw [hk]; rfl
  have h4 : headF.length = 3 := rfl
  unfold textL headL5
  rw [e]
  simp only [List.length_append, List.length_cons, List.length_nil, dig_len]
  omega
theorem msg_info : (Tryd.prog.info? 27).map (·.size) = some 11 := by kernel_rfl
theorem wpList_loadMsg {w : World} {ops : Array Oper} {rest : List Oper} {o : Oper} {a : Act} {Q : Exit → Act → World → Prop} (hgd : o.guard = none) (x : Operand) (ho : o.op = .load 27 x) (m : MM) (b : Nat) (hx : a.eval x = .pointer (some ⟨b, 0, none⟩)) (hO : w.heap[b]? = some (.cells (msgV m) 27))
    (h : wpList Tryd.prog ops Q rest (a.put o.dst (.agg (msgV m))) w) : wpList Tryd.prog ops Q (o :: rest) a w := by
  have hl : (Instr.loadAt 27 (.pointer (some ⟨b, 0, none⟩))).run Tryd.prog w = .ok (.agg (msgV m)) w := by
    simp only [Instr.loadAt, Instr.sureAddr, Sem.run_bind, Sem.run_pure, Result.andThen]
    exact run_loadVar_row _ _ 27 27 (msgV m) (0, 0) _ hO Tryd.underlying27 rfl msg_info
  refine wpList_plain hgd fun K hK => ?_
  unfold Oper.wp execOp
  simp only [ho, Sem.run_bind, Sem.run_pure, Result.andThen_ok, hx, hl]
  exact hK _ _ h
/-- what Encode answers -/
def encS (m : MM) : ByteArray := if 1 ≤ m.kind ∧ m.kind ≤ 16 then if fitM m = true then strOf (textL m) ++ strOf (le4 (crcN 0 (textL m))) else ⟨#[]⟩ else ⟨#[]⟩
def encE (m : MM) : Int := if 1 ≤ m.kind ∧ m.kind ≤ 16 then if fitM m = true then 0 else 50 else 53
set_option maxHeartbeats 4000000 in
set_option maxRecDepth 100000 in
/-- Encode -/
theorem encode_kind (m : MM) (w : World) (h : ¬ (1 ≤ m.kind ∧ m.kind ≤ 16)) :
    Calls Tryd.prog 8 #[.agg (msgV m)] w fun e w' => e = .returned (.tuple #[.string (encS m), .int .i64 (encE m)]) ∧ Below w.heap.size w w' := by
  have e1 : encS m = ⟨#[]⟩ := by unfold encS; rw [if_neg h]
  have e2 : encE m = 53 := by unfold encE; rw [if_neg h]
  rw [e1, e2]
  have C := hide (fun w' => isKind_any m.kind w')
  rw [decide_eq_false h] at C
  unfold msgV
  go_enter Tryd.func8, Tryd.ntmps8
  go_wp2_with fail
  refine Calls.mono (C.out _) ?_
  rintro x w1 ⟨rfl, rfl⟩
  go_wp2_with fail
  go_ret2
  exact ⟨rfl, (Below.refl _ w).alloc (Nat.le_refl _) _⟩
set_option maxHeartbeats 4000000 in
set_option maxRecDepth 100000 in
theorem encode_fit (m : MM) (k : Nat) (h1 : 1 ≤ k) (h16 : k ≤ 16) (hk : m.kind = (k : Int)) (w : World) (hT : TabF w) (h6 : 6 ≤ w.heap.size) (hT4 : Tab4 5 w) :
    Calls Tryd.prog 8 #[.agg (msgV m)] w fun e w' => e = .returned (.tuple #[.string (encS m), .int .i64 (encE m)]) ∧ Below w.heap.size w w' := by
  have C := hide (fun w' => isKind_any m.kind w')
  rw [decide_eq_true (by omega), hk] at C
  obtain ⟨W0, hW0⟩ : ∃ W0, W0 = w.alloc (.cells (msgV m) 27) := ⟨_, rfl⟩
  have b0 : Below w.heap.size w W0 := by rw [hW0]; exact (Below.refl _ w).alloc (Nat.le_refl _) _
  have hO0 : W0.heap[w.heap.size]? = some (.cells (msgV m) 27) := by rw [hW0]; exact heap_last w _
  have kd : W0.cell? ⟨w.heap.size, 0, none⟩ = some (.int .i64 (k : Int)) := by rw [hW0, ← hk]; simp [msgV]
  go_enter Tryd.func8, Tryd.ntmps8
  go_upto_region 1 with fail
  rw [← hW0]
  clear hW0
  go_wp2_with fail
  refine Calls.mono (C.out _) ?_
  rintro x w1 ⟨rfl, rfl⟩
  go_upto_region 3 with fail
  have CO := hide (cellsOf_any m W0)
  go_wp2_with (refine wpList_loadMsg rfl (.tmp 1) rfl m w.heap.size rfl hO0 ?_)
  refine Calls.mono CO.out ?_
  rintro x w2 ⟨rfl, b2⟩
  obtain ⟨W3, hW3⟩ : ∃ W3, W3 = w2.alloc (.cells (cellsV m) 72) := ⟨_, rfl⟩
  have r3 : Below w2.heap.size w2 W3 := by rw [hW3]; exact (Below.refl _ w2).alloc (Nat.le_refl _) _
  have hb3 : Below W0.heap.size W0 W3 := b2.trans (r3.mono b2.size)
  have hO3 : W3.heap[w2.heap.size]? = some (.cells (cellsV m) 72) := by rw [hW3]; exact heap_last w2 _
  have s0 := World.block_lt_of_cell? W0 _ kd
  have s3 : w2.heap.size < W3.heap.size := by rw [hW3]; simp
  have B3 := hide (b0.trans (hb3.mono b0.size))
  have KD : Hid (∀ w', Below W3.heap.size W3 w' → w'.cell? ⟨w.heap.size, 0, none⟩ = some (.int .i64 (k : Int))) := fun w' hb => (hb.cell (by exact Nat.lt_of_lt_of_le s0 hb3.size)).trans ((hb3.cell (by exact s0)).trans kd)
  have KO : Hid (∀ w', Below W3.heap.size W3 w' → w'.heap[w2.heap.size]? = some (.cells (cellsV m) 72)) := fun w' hb => (hb.block _ s3).trans hO3
  have FT := hide (fit_any m k h1 h16 W3 (hT.below B3.out))
  have kd3 := KD.out _ (Below.refl _ _)
  clear CO r3 hb3 b2 kd hO0 C b0
  go_upto_region 4 with (refine wpList_storeNew (w0 := w2) rfl (.tmp 4) (.tmp 11) rfl _ rfl rfl m rfl _ rfl rfl ?_)
  rw [← hW3]
  clear hW3
  go_wp2_with (refine wpList_loadAll rfl (.tmp 4) rfl m w2.heap.size rfl hO3 _ rfl ?_)
  refine Calls.mono FT.out ?_
  rintro x w4 ⟨rfl, b4⟩
  have eF : (List.range 10).all (fitAt m k) = fitM m := by unfold fitM; rw [hk]; rfl
  have B4 := hide (B3.out.trans (b4.mono B3.out.size))
  have R4 := hide b4
  have kd4 := KD.out _ b4
  have hO4 := KO.out _ b4
  clear b4 FT kd3 hO3
  have hkr : 1 ≤ m.kind ∧ m.kind ≤ 16 := by omega
  cases hfit : fitM m with
  | false =>
    have e1 : encS m = ⟨#[]⟩ := by unfold encS; rw [if_pos hkr, if_neg (by rw [hfit]; simp)]
    have e2 : encE m = 50 := by unfold encE; rw [if_pos hkr, if_neg (by rw [hfit]; simp)]
    rw [eF, hfit]
    have E1 := hide e1
    have E2 := hide e2
    clear e1 e2 eF
    go_wp2_with fail
    go_ret2
    exact ⟨by rw [E1.out, E2.out]; rfl, B4.out⟩
  | true =>
    have e1 : encS m = strOf (textL m) ++ strOf (le4 (crcN 0 (textL m))) := by unfold encS; rw [if_pos hkr, if_pos hfit]
    have e2 : encE m = 0 := by unfold encE; rw [if_pos hkr, if_pos hfit]
    have hfa := fitM_all (eF.trans hfit)
    have WR := hide (write_any m k h1 h16 hk hfa w4 (hT.below B4.out) (Nat.le_trans h6 B4.out.size))
    have hsz : (textL m).length ≤ 900000 := textL_len m k hk h16 hfa
    have SU : Hid (∀ w', Below w.heap.size w w' → Calls Tryd.prog 28 #[.string (strOf (textL m))] w' fun e w'' => e = .returned (.string (strOf (le4 (crcN 0 (textL m))))) ∧ Below w'.heap.size w' w'') := fun w' hb => sumOf_any (strOf (textL m)) (by rw [strOf_size]; omega) w' (fun j hj => (hb.cell (World.block_lt_of_cell? w _ (hT4 j hj))).trans (hT4 j hj))
    have z1 : (strOf (textL m)).size ≤ 900000 := by rw [strOf_size]; exact hsz
    have z2 : (strOf (le4 (crcN 0 (textL m)))).size = 4 := by rw [strOf_size]; rfl
    rw [eF, hfit]
    have E1 := hide e1
    have E2 := hide e2
    clear e1 e2 eF hfa hsz hT4
    go_wp2_with (refine wpList_loadAll rfl (.tmp 4) rfl m w2.heap.size rfl hO4 _ rfl ?_)
    refine Calls.mono WR.out ?_
    rintro x w5 ⟨rfl, b5⟩
    have B5 := hide (B4.out.trans (b5.mono B4.out.size))
    clear b5 WR
    have S5 := hide (SU.out _ B5.out)
    generalize strOf (textL m) = TX at *
    generalize strOf (le4 (crcN 0 (textL m))) = SX at *
    go_wp2_with fail
    refine Calls.mono S5.out ?_
    rintro x w6 ⟨rfl, b6⟩
    have B6 := hide (B5.out.trans (b6.mono B5.out.size))
    clear b6 S5 SU
    go_wp2_with fail
    go_ret2
    exact ⟨by rw [E1.out, E2.out]; rfl, B6.out⟩
end Go.Proofs.YtgdjfocnaapooaaDoor
namespace Go.Proofs.YtgdjfocnaapooaaDoor
open Go.RowKit
/-- Encode, of any message -/
theorem encode_any (m : MM) (w : World) (hT : TabF w) (h6 : 6 ≤ w.heap.size) (hT4 : Tab4 5 w) :
    Calls Tryd.prog 8 #[.agg (msgV m)] w fun e w' => e = .returned (.tuple #[.string (encS m), .int .i64 (encE m)]) ∧ Below w.heap.size w w' := by
  by_cases h : 1 ≤ m.kind ∧ m.kind ≤ 16
  · obtain ⟨k, hk⟩ : ∃ k : Nat, m.kind = (k : Int) := ⟨_, (Int.toNat_of_nonneg (by omega)).symm⟩
    exact encode_fit m k (by omega) (by omega) hk w hT h6 hT4
  · exact encode_kind m w h
set_option maxRecDepth 100000 in
theorem num5_any (n : Int) (w : World) : Calls Tryd.prog 10 #[.int .i64 n] w fun e w' => e = .returned (.int .i64 n) ∧ w = w' := by
  go_enter Tryd.func10, Tryd.ntmps10
  go_wp2
  go_ret
  exact ⟨rfl, rfl⟩
end Go.Proofs.YtgdjfocnaapooaaDoor
