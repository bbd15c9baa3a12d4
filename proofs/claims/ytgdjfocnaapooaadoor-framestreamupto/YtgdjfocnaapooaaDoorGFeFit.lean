import Derived.Test.YtgdjfocnaapooaaDoorGDgPlain
import Derived.Deep.DeepCutAuto
import Derived.Deep.QuietTactic
import Derived.BigQuiet
import Derived.Lib.SlBytesConst
namespace Go.Proofs.YtgdjfocnaapooaaDoor
open Go.RowKit
/-- ten numbers in a block -/
def MC (Q : Nat) (w : World) (f : Nat → Nat) : Prop := ∀ j, j < 10 → w.cell? ⟨Q, j, none⟩ = some (.int .i64 (f j : Int)) ∧ w.frozen? ⟨Q, j, none⟩ = false
theorem MC.set {Q : Nat} {w : World} {f : Nat → Nat} (h : MC Q w f) (i v : Nat) (hi : i < 10) : MC Q (w.setCell ⟨Q, i, none⟩ (.int .i64 (v : Int))) (fun j => if j = i then v else f j) := by
  intro j hj
  refine ⟨?_, by rw [World.frozen?_setCell]; exact (h j hj).2⟩
  by_cases e : j = i
  · subst e; simp only [if_true]; exact World.cell?_setCell_same w _ _ (h j hj).1
  · simp only [if_neg e]; exact (World.cell?_setCell_other w _ _ _ (by intro h'; injection h' with _ h' _; exact e h'.symm)).trans (h j hj).1
theorem MC.congr {Q : Nat} {w : World} {f g : Nat → Nat} (h : MC Q w f) (e : ∀ j, j < 10 → f j = g j) : MC Q w g := fun j hj => by rw [← e j hj]; exact h j hj
theorem MC.below {Q : Nat} {w w' : World} {f : Nat → Nat} (h : MC Q w f) (hb : Below w.heap.size w w') : MC Q w' f := fun j hj => by
  have hl := World.block_lt_of_cell? w _ (h j hj).1
  exact ⟨(hb.cell (by exact hl)).trans (h j hj).1, (hb.frozen (by exact hl)).trans (h j hj).2⟩
def f1 (k j : Nat) : Nat := if j < k then mostF j else 0
def f2 (K k j : Nat) : Nat := if j < 3 ∨ j ∈ (bodyF K).take k then mostF j else 0
theorem f1_step (k : Nat) : ∀ j, j < 10 → (if j = k then mostF k else f1 k j) = f1 (k + 1) j := by
  intro j _
  unfold f1
  by_cases e : j = k
  · subst e; rw [if_pos rfl, if_pos (by omega)]
  · rw [if_neg e]
    by_cases h : j < k
    · rw [if_pos h, if_pos (by omega)]
    · rw [if_neg h, if_neg (by omega)]
theorem f2_step (K k : Nat) (h : k < (bodyF K).length) : ∀ j, j < 10 → (if j = (bodyF K)[k] then mostF (bodyF K)[k] else f2 K k j) = f2 K (k + 1) j := by
  intro j _
  unfold f2
  rw [List.take_succ_eq_append_getElem h]
  by_cases e : j = (bodyF K)[k]
  · rw [if_pos e, if_pos (Or.inr (List.mem_append_right _ (by rw [e]; exact List.mem_singleton.2 rfl))), e]
  · rw [if_neg e]
    by_cases h' : j < 3 ∨ j ∈ (bodyF K).take k
    · rw [if_pos h', if_pos (h'.imp_right fun x => List.mem_append_left _ x)]
    · rw [if_neg h', if_neg]
      rintro (x | x)
      · exact h' (Or.inl x)
      · rcases List.mem_append.1 x with x | x
        · exact h' (Or.inr x)
        · simp at x; exact e x
set_option maxRecDepth 100000 in
theorem ix_heads (q : Nat) (h : q < 3) (w : World) : (Instr.index 101 (.agg #[.int .i64 0, .int .i64 1, .int .i64 2]) (.int .i64 (q : Int))).run Tryd.prog w = .ok (.int .i64 (q : Int)) w := by
  have : q = 0 ∨ q = 1 ∨ q = 2 := by omega
  rcases this with rfl | rfl | rfl <;> rfl
set_option maxRecDepth 100000 in
theorem ixc0 (a0 a1 a2 a3 a4 a5 a6 a7 a8 a9 a10 a11 a12 a13 a14 a15 a16 a17 a18 a19 : Value) (w : World) : (Instr.index 72 (.agg #[a0, a1, a2, a3, a4, a5, a6, a7, a8, a9, a10, a11, a12, a13, a14, a15, a16, a17, a18, a19]) (.int .i64 (0 : Int))).run Tryd.prog w = .ok (.agg #[a0, a1]) w := by rfl
set_option maxRecDepth 100000 in
theorem ixc1 (a0 a1 a2 a3 a4 a5 a6 a7 a8 a9 a10 a11 a12 a13 a14 a15 a16 a17 a18 a19 : Value) (w : World) : (Instr.index 72 (.agg #[a0, a1, a2, a3, a4, a5, a6, a7, a8, a9, a10, a11, a12, a13, a14, a15, a16, a17, a18, a19]) (.int .i64 (1 : Int))).run Tryd.prog w = .ok (.agg #[a2, a3]) w := by rfl
set_option maxRecDepth 100000 in
theorem ixc2 (a0 a1 a2 a3 a4 a5 a6 a7 a8 a9 a10 a11 a12 a13 a14 a15 a16 a17 a18 a19 : Value) (w : World) : (Instr.index 72 (.agg #[a0, a1, a2, a3, a4, a5, a6, a7, a8, a9, a10, a11, a12, a13, a14, a15, a16, a17, a18, a19]) (.int .i64 (2 : Int))).run Tryd.prog w = .ok (.agg #[a4, a5]) w := by rfl
set_option maxRecDepth 100000 in
theorem ixc3 (a0 a1 a2 a3 a4 a5 a6 a7 a8 a9 a10 a11 a12 a13 a14 a15 a16 a17 a18 a19 : Value) (w : World) : (Instr.index 72 (.agg #[a0, a1, a2, a3, a4, a5, a6, a7, a8, a9, a10, a11, a12, a13, a14, a15, a16, a17, a18, a19]) (.int .i64 (3 : Int))).run Tryd.prog w = .ok (.agg #[a6, a7]) w := by rfl
set_option maxRecDepth 100000 in
theorem ixc4 (a0 a1 a2 a3 a4 a5 a6 a7 a8 a9 a10 a11 a12 a13 a14 a15 a16 a17 a18 a19 : Value) (w : World) : (Instr.index 72 (.agg #[a0, a1, a2, a3, a4, a5, a6, a7, a8, a9, a10, a11, a12, a13, a14, a15, a16, a17, a18, a19]) (.int .i64 (4 : Int))).run Tryd.prog w = .ok (.agg #[a8, a9]) w := by rfl
set_option maxRecDepth 100000 in
theorem ixc5 (a0 a1 a2 a3 a4 a5 a6 a7 a8 a9 a10 a11 a12 a13 a14 a15 a16 a17 a18 a19 : Value) (w : World) : (Instr.index 72 (.agg #[a0, a1, a2, a3, a4, a5, a6, a7, a8, a9, a10, a11, a12, a13, a14, a15, a16, a17, a18, a19]) (.int .i64 (5 : Int))).run Tryd.prog w = .ok (.agg #[a10, a11]) w := by rfl
set_option maxRecDepth 100000 in
theorem ixc6 (a0 a1 a2 a3 a4 a5 a6 a7 a8 a9 a10 a11 a12 a13 a14 a15 a16 a17 a18 a19 : Value) (w : World) : (Instr.index 72 (.agg #[a0, a1, a2, a3, a4, a5, a6, a7, a8, a9, a10, a11, a12, a13, a14, a15, a16, a17, a18, a19]) (.int .i64 (6 : Int))).run Tryd.prog w = .ok (.agg #[a12, a13]) w := by rfl
set_option maxRecDepth 100000 in
theorem ixc7 (a0 a1 a2 a3 a4 a5 a6 a7 a8 a9 a10 a11 a12 a13 a14 a15 a16 a17 a18 a19 : Value) (w : World) : (Instr.index 72 (.agg #[a0, a1, a2, a3, a4, a5, a6, a7, a8, a9, a10, a11, a12, a13, a14, a15, a16, a17, a18, a19]) (.int .i64 (7 : Int))).run Tryd.prog w = .ok (.agg #[a14, a15]) w := by rfl
set_option maxRecDepth 100000 in
theorem ixc8 (a0 a1 a2 a3 a4 a5 a6 a7 a8 a9 a10 a11 a12 a13 a14 a15 a16 a17 a18 a19 : Value) (w : World) : (Instr.index 72 (.agg #[a0, a1, a2, a3, a4, a5, a6, a7, a8, a9, a10, a11, a12, a13, a14, a15, a16, a17, a18, a19]) (.int .i64 (8 : Int))).run Tryd.prog w = .ok (.agg #[a16, a17]) w := by rfl
set_option maxRecDepth 100000 in
theorem ixc9 (a0 a1 a2 a3 a4 a5 a6 a7 a8 a9 a10 a11 a12 a13 a14 a15 a16 a17 a18 a19 : Value) (w : World) : (Instr.index 72 (.agg #[a0, a1, a2, a3, a4, a5, a6, a7, a8, a9, a10, a11, a12, a13, a14, a15, a16, a17, a18, a19]) (.int .i64 (9 : Int))).run Tryd.prog w = .ok (.agg #[a18, a19]) w := by rfl
theorem ix_cells (m : MM) (q : Nat) (h : q < 10) (w : World) : (Instr.index 72 (.agg #[.int .i64 m.n0, .string ⟨#[]⟩, .int .i64 m.n1, .string ⟨#[]⟩, .int .i64 m.n2, .string ⟨#[]⟩, .int .i64 m.n3, .string ⟨#[]⟩, .int .i64 m.n4, .string ⟨#[]⟩, .int .i64 m.n5, .string ⟨#[]⟩, .int .i64 m.n6, .string ⟨#[]⟩, .int .i64 m.n7, .string ⟨#[]⟩, .int .i64 0, .string m.key, .int .i64 0, .string m.val]) (.int .i64 (q : Int))).run Tryd.prog w = .ok (.agg #[.int .i64 (m.num q), .string (m.txt q)]) w := by
  have : q = 0 ∨ q = 1 ∨ q = 2 ∨ q = 3 ∨ q = 4 ∨ q = 5 ∨ q = 6 ∨ q = 7 ∨ q = 8 ∨ q = 9 := by omega
  rcases this with rfl | rfl | rfl | rfl | rfl | rfl | rfl | rfl | rfl | rfl
  · exact ixc0 _ _ _ _ _ _ _ _ _ _ _ _ _ _ _ _ _ _ _ _ w
  · exact ixc1 _ _ _ _ _ _ _ _ _ _ _ _ _ _ _ _ _ _ _ _ w
  · exact ixc2 _ _ _ _ _ _ _ _ _ _ _ _ _ _ _ _ _ _ _ _ w
  · exact ixc3 _ _ _ _ _ _ _ _ _ _ _ _ _ _ _ _ _ _ _ _ w
  · exact ixc4 _ _ _ _ _ _ _ _ _ _ _ _ _ _ _ _ _ _ _ _ w
  · exact ixc5 _ _ _ _ _ _ _ _ _ _ _ _ _ _ _ _ _ _ _ _ w
  · exact ixc6 _ _ _ _ _ _ _ _ _ _ _ _ _ _ _ _ _ _ _ _ w
  · exact ixc7 _ _ _ _ _ _ _ _ _ _ _ _ _ _ _ _ _ _ _ _ w
  · exact ixc8 _ _ _ _ _ _ _ _ _ _ _ _ _ _ _ _ _ _ _ _ w
  · exact ixc9 _ _ _ _ _ _ _ _ _ _ _ _ _ _ _ _ _ _ _ _ w
theorem heap_last (w : World) (o : Obj) : (w.alloc o).heap[w.heap.size]? = some o := by
  show (w.heap.push o)[w.heap.size]? = some o
  simp
theorem cells_info : (Tryd.prog.info? 72).map (·.size) = some 20 := by kernel_rfl
theorem run_loadAll (m : MM) (w : World) (b : Nat) (h : w.heap[b]? = some (.cells (cellsV m) 72)) : (Instr.loadAt 72 (.pointer (some ⟨b, 0, none⟩))).run Tryd.prog w = .ok (.agg (cellsV m)) w := by
  simp only [Instr.loadAt, Instr.sureAddr, Sem.run_bind, Sem.run_pure, Result.andThen]
  exact run_loadVar_row _ _ 72 72 (cellsV m) (0, 0) _ h Tryd.underlying72 rfl cells_info
theorem wpList_loadAll {w : World} {ops : Array Oper} {rest : List Oper} {o : Oper} {a : Act} {Q : Exit → Act → World → Prop} (hgd : o.guard = none) (x : Operand) (ho : o.op = .load 72 x) (m : MM) (b : Nat) (hx : a.eval x = .pointer (some ⟨b, 0, none⟩)) (hO : w.heap[b]? = some (.cells (cellsV m) 72))
    (CA : Array Value) (hCA : CA = cellsV m) (h : wpList Tryd.prog ops Q rest (a.put o.dst (.agg CA)) w) : wpList Tryd.prog ops Q (o :: rest) a w := by
  subst hCA
  refine wpList_plain hgd fun K hK => ?_
  unfold Oper.wp execOp
  simp only [ho, Sem.run_bind, Sem.run_pure, Result.andThen_ok, hx, run_loadAll m w b hO]
  exact hK _ _ h
theorem MC.drewM {Q : Nat} {w : World} {f : Nat → Nat} (h : MC Q w f) : MC Q w.drew f := h
theorem txt_small (m : MM) (q : Nat) : 0 ≤ ((m.txt q).size : Int) := by omega
theorem TabF.belowAt {w w' : World} {B : Nat} (h : TabF w) (hb : Below B w w') (hB : w.heap.size ≤ B) : TabF w' := h.below (hb.mono hB)
set_option maxHeartbeats 4000000 in
set_option maxRecDepth 100000 in
theorem fit_any (m : MM) (k : Nat) (h1 : 1 ≤ k) (h16 : k ≤ 16) (w : World) (hT : TabF w) :
    Calls Tryd.prog 26 #[.int .i64 (k : Int), .agg (cellsV m)] w fun e w' => e = .returned (.bool ((List.range 10).all (fitAt m k))) ∧ Below w.heap.size w w' := by
  obtain ⟨R, hR⟩ : ∃ R : Bool, R = (List.range 10).all (fitAt m k) := ⟨_, rfl⟩
  rw [← hR]
  have HR := hide hR
  clear hR
  obtain ⟨W0, hW0⟩ : ∃ W0, W0 = (w.alloc (.cells (cellsV m) 72)).alloc (.cells #[.int .i64 0, .int .i64 0, .int .i64 0, .int .i64 0, .int .i64 0, .int .i64 0, .int .i64 0, .int .i64 0, .int .i64 0, .int .i64 0] 99) := ⟨_, rfl⟩
  have b0 : Below w.heap.size w W0 := by rw [hW0]; exact ((Below.refl _ w).alloc (Nat.le_refl _) _).alloc (by simp) _
  have s0 : W0.heap.size = w.heap.size + 2 := by rw [hW0]; simp
  have MC0 : MC (w.heap.size + 1) W0 (f1 0) := by
    intro j hj
    rw [hW0]
    have : j = 0 ∨ j = 1 ∨ j = 2 ∨ j = 3 ∨ j = 4 ∨ j = 5 ∨ j = 6 ∨ j = 7 ∨ j = 8 ∨ j = 9 := by omega
    rcases this with rfl | rfl | rfl | rfl | rfl | rfl | rfl | rfl | rfl | rfl <;> exact ⟨by simp [f1], by simp⟩
  have A0 : Hid (∀ w', Below (w.heap.size + 1) W0 w' → w'.heap[w.heap.size]? = some (.cells (cellsV m) 72)) := fun w' hb => by
    rw [hb.block w.heap.size (by omega), hW0, Below.heap_alloc _ _ _ (by simp)]
    exact heap_last w _
  have hT0 := hT.below b0
  have z0 := hT0.heads 0 (by omega)
  have z1 := hT0.heads 1 (by omega)
  have z2 := hT0.heads 2 (by omega)
  have HT : Hid (∀ w', Below (w.heap.size + 1) W0 w' → TabF w') := fun w' hb => by
    have hb' : Below w.heap.size w w' := b0.trans (hb.mono (by omega))
    exact hT.below hb'
  obtain ⟨ao, bb, bo, bcap, c1, c2, c3⟩ := hT.body k h1 h16
  have BD : Hid (∀ w', Below (w.heap.size + 1) W0 w' → w'.cell? ⟨3, k, none⟩ = some (.slice ao (bodyF k).length bcap) ∧ ∀ j (h : j < (bodyF k).length), w'.cell? ⟨bb, bo + j, none⟩ = some (.int .i64 ((bodyF k)[j] : Int))) := fun w' hb => by
    have hb' : Below w.heap.size w w' := b0.trans (hb.mono (by omega))
    exact ⟨(hb'.cell (World.block_lt_of_cell? w _ c1)).trans c1, fun j hj => (hb'.cell (World.block_lt_of_cell? w _ (c3 j hj))).trans (c3 j hj)⟩
  have AO := hide c2
  have hlt := bodyF_lt k h16
  have hln := bodyF_len k h16
  clear c1 c2 c3
  have HB0 := hide b0
  have HM0 := hide MC0
  clear hT hT0 b0 MC0
  go_enter Tryd.func26, Tryd.ntmps26
  go_upto_region 2 with fail
  rw [← hW0]
  clear hW0
  go_wp2_with fail
  go_loopw [7, 13] (fun _ i wr => ∃ q : Nat, q ≤ 3 ∧ i = .int .i64 (q : Int) ∧ MC (w.heap.size + 1) wr (f1 q) ∧ Below (w.heap.size + 1) W0 wr) (fun _ i _ => 3 - (intOf i).toNat)
  case atStart => exact ⟨0, by omega, rfl, HM0.out, Below.refl _ _⟩
  case round =>
    obtain ⟨q, hq, rfl, hM, hB⟩ := hrel
    by_cases h3 : q = 3
    case neg =>
      have y1 := (HT.out _ hB).most q (by omega)
      obtain ⟨y2, y3⟩ := hM q (by omega)
      have HM := hide hM
      have HB := hide hB
      clear hM hB
      have hxa : ∀ w', (Instr.index 101 (.agg #[.int .i64 0, .int .i64 1, .int .i64 2]) (.int .i64 (q : Int))).run Tryd.prog w' = .ok (.int .i64 (q : Int)) w' := fun w' => ix_heads q (by omega) w'
      have hq3 : (q : Int) < 3 := by omega
      have hq10 : (q : Int) < 10 := by omega
      go_wp2_with fail
      go_roundw
      case rel => exact ⟨q + 1, by omega, by go_num, (HM.out.set _ _ (by omega)).congr (f1_step _), HB.out.setCell (Nat.le_refl _) _⟩
      case measure => simp [intOf]; omega
    case pos =>
      subst h3
      have d1 := (BD.out _ hB).1
      have HM := hide (hM.congr (g := f2 k 0) (fun j _ => by unfold f1 f2; simp))
      have HB := hide hB
      clear hM hB
      have hkk : (k : Int) < 17 := by omega
      go_wp2_with fail
      clear d1
      go_loopw [9, 27] (fun _ i wr => ∃ q : Nat, q ≤ (bodyF k).length ∧ i = .int .i64 (q : Int) ∧ MC (w.heap.size + 1) wr (f2 k q) ∧ Below (w.heap.size + 1) W0 wr) (fun _ i _ => (bodyF k).length - (intOf i).toNat)
      case atStart => exact ⟨0, by omega, rfl, HM.out, HB.out⟩
      case round =>
        clear HM HB
        obtain ⟨q, hq, rfl, hM, hB⟩ := hrel
        by_cases hql : q < (bodyF k).length
        case pos =>
          obtain rfl := AO.out (by omega)
          have d2 := (BD.out _ hB).2 q hql
          have hi := hlt _ (List.getElem_mem hql)
          have HS := hide (f2_step k q hql)
          generalize (bodyF k)[q] = fi at *
          have y1 := (HT.out _ hB).most fi (by omega)
          obtain ⟨y2, y3⟩ := hM fi (by omega)
          have HM := hide hM
          have HB := hide hB
          clear hM hB
          have hqi : (q : Int) < ((bodyF k).length : Int) := by omega
          have hfi : (fi : Int) < 10 := by omega
          go_wp2_with fail
          go_roundw
          case rel => exact ⟨q + 1, by omega, by go_num, (HM.out.set _ _ (by omega)).congr HS.out, HB.out.setCell (Nat.le_refl _) _⟩
          case measure => simp [intOf]; omega
        case neg =>
          obtain rfl : q = (bodyF k).length := by omega
          have HM := hide (hM.congr (g := mostK k) (fun j _ => by unfold f2 mostK; rw [List.take_length]))
          have HB := hide hB
          have HO := A0.out _ hB
          obtain ⟨CA, hCA⟩ : ∃ CA : Array Value, CA = cellsV m := ⟨_, rfl⟩
          have IX : Hid (∀ q : Nat, q < 10 → ∀ w', (Instr.index 72 (.agg CA) (.int .i64 (q : Int))).run Tryd.prog w' = .ok (.agg #[.int .i64 (m.num q), .string (m.txt q)]) w') := fun q hq w' => by rw [hCA]; exact ix_cells m q hq w'
          have HCA := hide hCA
          clear hM hB hCA A0 BD AO HT
          go_wp2_with (refine wpList_loadAll rfl (.tmp 3) rfl m w.heap.size rfl HO CA HCA.out ?_)
          clear HO
          go_loopw [10, 11, 39] (fun _ _ i wr => ∃ q : Nat, q ≤ 10 ∧ i = .int .i64 (q : Int) ∧ MC (w.heap.size + 1) wr (mostK k) ∧ Below (w.heap.size + 1) W0 wr ∧ Hid ((List.range q).all (fitAt m k) = true)) (fun _ _ i _ => 10 - (intOf i).toNat)
          case atStart => exact ⟨0, by omega, rfl, HM.out, HB.out, rfl⟩
          case round =>
            clear HM HB
            obtain ⟨q, hq, rfl, hM, hB, hA⟩ := hrel
            by_cases hq10 : q < 10
            case neg =>
              obtain rfl : q = 10 := by omega
              have FIN := hide (HB0.out.trans (hB.mono (by omega)))
              clear hM hB
              go_wp2_with fail
              go_ret
              exact ⟨ret_bool (hA.out.symm.trans HR.out.symm), FIN.out⟩
            case pos =>
              have hxa := IX.out q hq10
              obtain ⟨y2, y3⟩ := hM q hq10
              have hqi : (q : Int) < 10 := by omega
              have BAD : Hid (fitAt m k q = false → R = false) := fun h => by rw [HR.out]; exact List.all_eq_false.2 ⟨q, List.mem_range.2 hq10, by rw [h]; simp⟩
              have BADN : Hid (¬ (0 ≤ m.num q ∧ m.num q ≤ (mostK k q : Int) ∧ (m.txt q).size ≤ mostK k q) → fitAt m k q = false) := fun h => by
                unfold fitAt
                rw [Bool.and_eq_false_iff, Bool.and_eq_false_iff, decide_eq_false_iff_not, decide_eq_false_iff_not, decide_eq_false_iff_not]
                omega
              have GOOD : Hid (0 ≤ m.num q ∧ m.num q ≤ (mostK k q : Int) ∧ (m.txt q).size ≤ mostK k q → fitAt m k q = true) := fun h => by
                unfold fitAt
                rw [decide_eq_true h.1, decide_eq_true h.2.1, decide_eq_true h.2.2]; rfl
              have HS := hide (txt_small m q)
              generalize m.num q = N at *
              generalize m.txt q = X at *
              generalize hMM : mostK k q = M at *
              obtain ⟨W1, hW1⟩ : ∃ W1, W1 = wr.alloc (.cells #[.int .i64 N, .string X] 70) := ⟨_, rfl⟩
              have r1 : Below wr.heap.size wr W1 := by rw [hW1]; exact (Below.refl _ wr).alloc (Nat.le_refl _) _
              have HM1 := hide (hM.below r1)
              have HB1 := hide (hB.trans (r1.mono (by have := hB.size; omega)))
              have FIN := hide (HB0.out.trans (HB1.out.mono (by omega)))
              have e0 : W1.cell? ⟨wr.heap.size, 0, none⟩ = some (.int .i64 N) := by rw [hW1]; simp
              have e1 : W1.cell? ⟨wr.heap.size, 1, none⟩ = some (.string X) := by rw [hW1]; simp
              have e2 := (hM.below r1 q hq10).1
              rw [hMM] at e2
              clear hM hB r1 y2 y3 hMM
              go_upto_region 15 with fail
              rw [← hW1]
              clear hW1
              by_cases n1 : N < 0
              case pos =>
                go_quiet (fail)
                go_wp2_with fail
                go_ret
                exact ⟨ret_bool (BAD.out (BADN.out (by omega))).symm, below_drewN FIN.out _⟩
              case neg =>
              have d1 : decide (N < 0) = false := decide_eq_false n1
              by_cases n2 : (M : Int) < N
              case pos =>
                go_quiet (fail)
                go_wp2_with fail
                go_ret
                exact ⟨ret_bool (BAD.out (BADN.out (by omega))).symm, below_drewN FIN.out _⟩
              case neg =>
              have d2 : decide ((M : Int) < N) = false := decide_eq_false n2
              by_cases n3 : (M : Int) < (X.size : Int)
              case pos =>
                go_quiet (fail)
                go_wp2_with fail
                go_ret
                exact ⟨ret_bool (BAD.out (BADN.out (by omega))).symm, below_drewN FIN.out _⟩
              case neg =>
                have d3 : decide ((M : Int) < (X.size : Int)) = false := decide_eq_false n3
                go_quiet (fail)
                go_wp2_with fail
                go_roundw
                case rel => exact ⟨q + 1, by omega, by go_num, HM1.out, below_drewN HB1.out _, by show _ = true; rw [List.range_succ, List.all_append, hA.out, List.all_cons, List.all_nil, GOOD.out ⟨by omega, by omega, by omega⟩]; rfl⟩
                case measure => simp [intOf]; omega
end Go.Proofs.YtgdjfocnaapooaaDoor
namespace Go.Proofs.YtgdjfocnaapooaaDoor
open Go.RowKit
theorem Grew.cellAt {w w' : World} {v v' : Value} (h : Grew w w' v v') {a : Addr} (hl : a.block < w.heap.size) (hn : some a.block ≠ v.ownBlock) : w'.cell? a = w.cell? a := by
  unfold World.cell?
  rw [h.by'.block _ hl hn]
theorem Grew.drewL {w w' : World} {v v' : Value} (h : Grew w.drew w' v v') : Grew w w' v v' := ⟨⟨h.by'.os, h.by'.tape, h.by'.output, h.by'.size, h.by'.block⟩, h.at'⟩
theorem widF_le (i : Nat) : widF i ≤ 8 := by unfold widF; split <;> omega
set_option maxHeartbeats 4000000 in
set_option maxRecDepth 100000 in
set_option linter.unusedSimpArgs false in
/-- write of a number -/
theorem fldNum_any (i : Nat) (hi : i < 10) (ht : isTx i = false) (num : Nat) (tx : ByteArray) (base : Nat) (v : Value) (m : Nat) (xs : List Value) (w : World) (hown0 : w.ownsRow base 5 1 v m xs) (hm : m ≤ 70368744177664) (hbase : base ≤ w.heap.size) (hT : TabF w) (hb6 : 6 ≤ base) :
    Calls Tryd.prog 49 #[.int .i64 (i : Int), v, .agg #[.int .i64 (num : Int), .string tx]] w fun e w' => ∃ v', e = .returned v' ∧ w'.ownsRow base 5 1 v' (m + widF i) (xs ++ (dig (widF i) num).map ub) ∧ Grew w w' v v' := by
  have hii : (i : Int) < 10 := by omega
  obtain ⟨W0, hW0⟩ : ∃ W0, W0 = w.alloc (.cells #[.int .i64 (num : Int), .string tx] 70) := ⟨_, rfl⟩
  have b0 : Below w.heap.size w W0 := by rw [hW0]; exact (Below.refl _ w).alloc (Nat.le_refl _) _
  have s0 : w.heap.size < W0.heap.size := by rw [hW0]; simp
  have z1 := (hT.below b0).isT i hi
  rw [ht] at z1
  have o0 : W0.ownsRow base 5 1 v m xs := by rw [hW0]; exact hown0.alloc _
  have G0 : Hid (Grew w W0 v v) := by rw [hW0]; exact (Grew.refl w v).alloc _
  have c0 : W0.cell? ⟨w.heap.size, 0, none⟩ = some (.int .i64 (num : Int)) := by rw [hW0]; simp
  have c1 : W0.cell? ⟨w.heap.size, 1, none⟩ = some (.string tx) := by rw [hW0]; simp
  have c2 := (hT.below b0).wid i hi
  have B0 := hide (Nat.le_trans hbase b0.size)
  have V0 : Hid (∀ k, v.ownBlock = some k → base ≤ k ∧ k < w.heap.size) := fun k hk => hown0.lt k hk
  have hwd := widF_le i
  clear hT hown0 b0 ht
  go_enter Tryd.func49, Tryd.ntmps49
  go_upto_region 1 with fail
  rw [← hW0]
  clear hW0
  go_wp2_with fail
  have P := hide (put_any num (widF i) hwd base v m xs W0.drew o0 hm B0.out)
  refine wp_region_held_drew (S := fun w' => w'.cell? ⟨w.heap.size, 0, none⟩ = some (.int .i64 (num : Int)) ∧ w'.cell? ⟨w.heap.size, 1, none⟩ = some (.string tx) ∧ w'.cell? ⟨2, i * 3, none⟩ = some (.int .i64 (widF i : Int))) (by kernel_rfl) ⟨c0, c1, c2⟩ (fun hHeld => ?_)
  refine wpAnyH_take (i := 0) (v := v) rfl (by kernel_rfl) (by kernel_rfl) (by kernel_rfl) (fun _ _ _ h => h) (Or.inl ⟨by rfl, ?_⟩) (by assumption) ?_
  · intro w' hSw
    (try dsimp only at hSw)
    go_simp <;> first | exact i64_in (by omega) (by omega) | exact u32_in (by omega) (by omega) | exact u32_add _ _ | (rw [Int.tmod_eq_emod_of_nonneg (by omega)]; omega) | (rw [Int.tdiv_eq_ediv_of_nonneg (by omega)]; omega) | omega
  (try simp only [Act.put, List.setIfInBounds_toArray, List.set_cons_zero, List.set_cons_succ])
  refine wpAnyH_take (i := 1) (v := (.pointer (some ⟨w.heap.size, 0, none⟩))) rfl (by kernel_rfl) (by kernel_rfl) (by kernel_rfl) (fun _ _ _ h => h) (Or.inl ⟨by rfl, ?_⟩) (by assumption) ?_
  · intro w' hSw
    (try dsimp only at hSw)
    go_simp <;> first | exact i64_in (by omega) (by omega) | exact u32_in (by omega) (by omega) | exact u32_add _ _ | (rw [Int.tmod_eq_emod_of_nonneg (by omega)]; omega) | (rw [Int.tdiv_eq_ediv_of_nonneg (by omega)]; omega) | omega
  (try simp only [Act.put, List.setIfInBounds_toArray, List.set_cons_zero, List.set_cons_succ])
  refine wpAnyH_take (i := 2) (v := (.int .i64 (num : Int))) rfl (by kernel_rfl) (by kernel_rfl) (by kernel_rfl) (fun _ _ _ h => h) (Or.inl ⟨by rfl, ?_⟩) (by assumption) ?_
  · intro w' hSw
    (try dsimp only at hSw)
    (obtain ⟨hS1, hS2, hS3⟩ := hSw; go_simp)
  (try simp only [Act.put, List.setIfInBounds_toArray, List.set_cons_zero, List.set_cons_succ])
  refine wpAnyH_take (i := 3) (v := (.int .i64 (i : Int))) rfl (by kernel_rfl) (by kernel_rfl) (by kernel_rfl) (fun _ _ _ h => h) (Or.inl ⟨by rfl, ?_⟩) (by assumption) ?_
  · intro w' hSw
    (try dsimp only at hSw)
    go_simp <;> first | exact i64_in (by omega) (by omega) | exact u32_in (by omega) (by omega) | exact u32_add _ _ | (rw [Int.tmod_eq_emod_of_nonneg (by omega)]; omega) | (rw [Int.tdiv_eq_ediv_of_nonneg (by omega)]; omega) | omega
  (try simp only [Act.put, List.setIfInBounds_toArray, List.set_cons_zero, List.set_cons_succ])
  refine wpAnyH_take (i := 4) (v := (.pointer (some ⟨2, i * 3, none⟩))) rfl (by kernel_rfl) (by kernel_rfl) (by kernel_rfl) (fun _ _ _ h => h) (Or.inl ⟨by rfl, ?_⟩) (by assumption) ?_
  · intro w' hSw
    (try dsimp only at hSw)
    go_simp <;> first | exact i64_in (by omega) (by omega) | exact u32_in (by omega) (by omega) | exact u32_add _ _ | (rw [Int.tmod_eq_emod_of_nonneg (by omega)]; omega) | (rw [Int.tdiv_eq_ediv_of_nonneg (by omega)]; omega) | omega
  (try simp only [Act.put, List.setIfInBounds_toArray, List.set_cons_zero, List.set_cons_succ])
  refine wpAnyH_take (i := 5) (v := (.pointer (some ⟨2, i * 3, none⟩))) rfl (by kernel_rfl) (by kernel_rfl) (by kernel_rfl) (fun _ _ _ h => h) (Or.inl ⟨by rfl, ?_⟩) (by assumption) ?_
  · intro w' hSw
    (try dsimp only at hSw)
    go_simp <;> first | exact i64_in (by omega) (by omega) | exact u32_in (by omega) (by omega) | exact u32_add _ _ | (rw [Int.tmod_eq_emod_of_nonneg (by omega)]; omega) | (rw [Int.tdiv_eq_ediv_of_nonneg (by omega)]; omega) | omega
  (try simp only [Act.put, List.setIfInBounds_toArray, List.set_cons_zero, List.set_cons_succ])
  refine wpAnyH_take (i := 6) (v := (.int .i64 (widF i : Int))) rfl (by kernel_rfl) (by kernel_rfl) (by kernel_rfl) (fun _ _ _ h => h) (Or.inl ⟨by rfl, ?_⟩) (by assumption) ?_
  · intro w' hSw
    (try dsimp only at hSw)
    (obtain ⟨hS1, hS2, hS3⟩ := hSw; go_simp)
  (try simp only [Act.put, List.setIfInBounds_toArray, List.set_cons_zero, List.set_cons_succ])
  refine wpAnyH_ready (rs := [7]) (by kernel_rfl) (by simp) ?_
  refine AllReadyH.cons rfl (fun K hK => ?_) AllReadyH.nil
  go_simp
  refine Calls.mono P.out ?_
  rintro x w2 ⟨v2, rfl, o2, g2⟩
  have K2 : Hid (w2.cell? ⟨w.heap.size, 0, none⟩ = some (.int .i64 (num : Int)) ∧ w2.cell? ⟨w.heap.size, 1, none⟩ = some (.string tx) ∧ w2.cell? ⟨2, i * 3, none⟩ = some (.int .i64 (widF i : Int))) := ⟨(g2.cellAt (by exact s0) (fun e => by have h := V0.out _ e.symm; simp only at h; omega)).trans c0, (g2.cellAt (by exact s0) (fun e => by have h := V0.out _ e.symm; simp only at h; omega)).trans c1, (g2.cellAt (by show 2 < W0.heap.size; have := B0.out; omega) (fun e => by have h := V0.out _ e.symm; simp only at h; omega)).trans c2⟩
  refine hK.out _ _ (K2.out) (fun hHeld => ?_)
  clear hK
  (try simp only [Act.put, List.setIfInBounds_toArray, List.set_cons_zero, List.set_cons_succ])
  refine wpAnyH_ready (rs := [8]) (by kernel_rfl) (by simp) ?_
  refine AllReadyH.cons rfl (fun K hK => ?_) AllReadyH.nil
  go_simp
  refine hK.out _ _ (K2.out) (fun hHeld => ?_)
  clear hK
  (try simp only [Act.put, List.setIfInBounds_toArray, List.set_cons_zero, List.set_cons_succ])
  refine wpAnyH_done (by kernel_rfl) ?_ _
  clear hHeld
  go_wp2_with fail
  go_ret
  exact ⟨_, rfl, o2, G0.out.trans (Grew.drewL g2)⟩
set_option maxHeartbeats 4000000 in
set_option maxRecDepth 100000 in
set_option linter.unusedSimpArgs false in
/-- write of a text -/
theorem fldTxt_any (i : Nat) (hi : i < 10) (ht : isTx i = true) (num : Int) (tx : ByteArray) (htx : tx.size ≤ 1000000) (base : Nat) (v : Value) (m : Nat) (xs : List Value) (w : World) (hown0 : w.ownsRow base 5 1 v m xs) (hm : m ≤ 1000000) (hbase : base ≤ w.heap.size) (hT : TabF w) (hb6 : 6 ≤ base) :
    Calls Tryd.prog 49 #[.int .i64 (i : Int), v, .agg #[.int .i64 num, .string tx]] w fun e w' => ∃ v', e = .returned v' ∧ w'.ownsRow base 5 1 v' (m + widF i + tx.size) (xs ++ (dig (widF i) tx.size ++ tx.data.toList).map ub) ∧ Grew w w' v v' := by
  have hii : (i : Int) < 10 := by omega
  obtain ⟨W0, hW0⟩ : ∃ W0, W0 = w.alloc (.cells #[.int .i64 num, .string tx] 70) := ⟨_, rfl⟩
  have b0 : Below w.heap.size w W0 := by rw [hW0]; exact (Below.refl _ w).alloc (Nat.le_refl _) _
  have s0 : w.heap.size < W0.heap.size := by rw [hW0]; simp
  have z1 := (hT.below b0).isT i hi
  rw [ht] at z1
  have o0 : W0.ownsRow base 5 1 v m xs := by rw [hW0]; exact hown0.alloc _
  have G0 : Hid (Grew w W0 v v) := by rw [hW0]; exact (Grew.refl w v).alloc _
  have c0 : W0.cell? ⟨w.heap.size, 0, none⟩ = some (.int .i64 num) := by rw [hW0]; simp
  have c1 : W0.cell? ⟨w.heap.size, 1, none⟩ = some (.string tx) := by rw [hW0]; simp
  have c2 := (hT.below b0).wid i hi
  have B0 := hide (Nat.le_trans hbase b0.size)
  have V0 : Hid (∀ k, v.ownBlock = some k → base ≤ k ∧ k < w.heap.size) := fun k hk => hown0.lt k hk
  have hwd := widF_le i
  clear hT hown0 b0 ht
  go_enter Tryd.func49, Tryd.ntmps49
  go_upto_region 1 with fail
  rw [← hW0]
  clear hW0
  go_wp2_with fail
  have P := hide (put_any tx.size (widF i) hwd base v m xs W0.drew o0 (by omega) B0.out)
  refine wp_region_held_drew (S := fun w' => w'.cell? ⟨w.heap.size, 0, none⟩ = some (.int .i64 num) ∧ w'.cell? ⟨w.heap.size, 1, none⟩ = some (.string tx) ∧ w'.cell? ⟨2, i * 3, none⟩ = some (.int .i64 (widF i : Int))) (by kernel_rfl) ⟨c0, c1, c2⟩ (fun hHeld => ?_)
  refine wpAnyH_take (i := 0) (v := v) rfl (by kernel_rfl) (by kernel_rfl) (by kernel_rfl) (fun _ _ _ h => h) (Or.inl ⟨by rfl, ?_⟩) (by assumption) ?_
  · intro w' hSw
    (try dsimp only at hSw)
    go_simp <;> first | exact i64_in (by omega) (by omega) | exact u32_in (by omega) (by omega) | exact u32_add _ _ | (rw [Int.tmod_eq_emod_of_nonneg (by omega)]; omega) | (rw [Int.tdiv_eq_ediv_of_nonneg (by omega)]; omega) | omega
  (try simp only [Act.put, List.setIfInBounds_toArray, List.set_cons_zero, List.set_cons_succ])
  refine wpAnyH_take (i := 1) (v := (.pointer (some ⟨w.heap.size, 1, none⟩))) rfl (by kernel_rfl) (by kernel_rfl) (by kernel_rfl) (fun _ _ _ h => h) (Or.inl ⟨by rfl, ?_⟩) (by assumption) ?_
  · intro w' hSw
    (try dsimp only at hSw)
    go_simp <;> first | exact i64_in (by omega) (by omega) | exact u32_in (by omega) (by omega) | exact u32_add _ _ | (rw [Int.tmod_eq_emod_of_nonneg (by omega)]; omega) | (rw [Int.tdiv_eq_ediv_of_nonneg (by omega)]; omega) | omega
  (try simp only [Act.put, List.setIfInBounds_toArray, List.set_cons_zero, List.set_cons_succ])
  refine wpAnyH_take (i := 2) (v := (.string tx)) rfl (by kernel_rfl) (by kernel_rfl) (by kernel_rfl) (fun _ _ _ h => h) (Or.inl ⟨by rfl, ?_⟩) (by assumption) ?_
  · intro w' hSw
    (try dsimp only at hSw)
    (obtain ⟨hS1, hS2, hS3⟩ := hSw; go_simp)
  (try simp only [Act.put, List.setIfInBounds_toArray, List.set_cons_zero, List.set_cons_succ])
  refine wpAnyH_take (i := 3) (v := (.int .i64 (tx.size : Int))) rfl (by kernel_rfl) (by kernel_rfl) (by kernel_rfl) (fun _ _ _ h => h) (Or.inl ⟨by rfl, ?_⟩) (by assumption) ?_
  · intro w' hSw
    (try dsimp only at hSw)
    go_simp <;> first | exact i64_in (by omega) (by omega) | exact u32_in (by omega) (by omega) | exact u32_add _ _ | (rw [Int.tmod_eq_emod_of_nonneg (by omega)]; omega) | (rw [Int.tdiv_eq_ediv_of_nonneg (by omega)]; omega) | omega
  (try simp only [Act.put, List.setIfInBounds_toArray, List.set_cons_zero, List.set_cons_succ])
  refine wpAnyH_take (i := 4) (v := (.int .i64 (i : Int))) rfl (by kernel_rfl) (by kernel_rfl) (by kernel_rfl) (fun _ _ _ h => h) (Or.inl ⟨by rfl, ?_⟩) (by assumption) ?_
  · intro w' hSw
    (try dsimp only at hSw)
    go_simp <;> first | exact i64_in (by omega) (by omega) | exact u32_in (by omega) (by omega) | exact u32_add _ _ | (rw [Int.tmod_eq_emod_of_nonneg (by omega)]; omega) | (rw [Int.tdiv_eq_ediv_of_nonneg (by omega)]; omega) | omega
  (try simp only [Act.put, List.setIfInBounds_toArray, List.set_cons_zero, List.set_cons_succ])
  refine wpAnyH_take (i := 5) (v := (.pointer (some ⟨2, i * 3, none⟩))) rfl (by kernel_rfl) (by kernel_rfl) (by kernel_rfl) (fun _ _ _ h => h) (Or.inl ⟨by rfl, ?_⟩) (by assumption) ?_
  · intro w' hSw
    (try dsimp only at hSw)
    go_simp <;> first | exact i64_in (by omega) (by omega) | exact u32_in (by omega) (by omega) | exact u32_add _ _ | (rw [Int.tmod_eq_emod_of_nonneg (by omega)]; omega) | (rw [Int.tdiv_eq_ediv_of_nonneg (by omega)]; omega) | omega
  (try simp only [Act.put, List.setIfInBounds_toArray, List.set_cons_zero, List.set_cons_succ])
  refine wpAnyH_take (i := 6) (v := (.pointer (some ⟨2, i * 3, none⟩))) rfl (by kernel_rfl) (by kernel_rfl) (by kernel_rfl) (fun _ _ _ h => h) (Or.inl ⟨by rfl, ?_⟩) (by assumption) ?_
  · intro w' hSw
    (try dsimp only at hSw)
    go_simp <;> first | exact i64_in (by omega) (by omega) | exact u32_in (by omega) (by omega) | exact u32_add _ _ | (rw [Int.tmod_eq_emod_of_nonneg (by omega)]; omega) | (rw [Int.tdiv_eq_ediv_of_nonneg (by omega)]; omega) | omega
  (try simp only [Act.put, List.setIfInBounds_toArray, List.set_cons_zero, List.set_cons_succ])
  refine wpAnyH_take (i := 7) (v := (.int .i64 (widF i : Int))) rfl (by kernel_rfl) (by kernel_rfl) (by kernel_rfl) (fun _ _ _ h => h) (Or.inl ⟨by rfl, ?_⟩) (by assumption) ?_
  · intro w' hSw
    (try dsimp only at hSw)
    (obtain ⟨hS1, hS2, hS3⟩ := hSw; go_simp)
  (try simp only [Act.put, List.setIfInBounds_toArray, List.set_cons_zero, List.set_cons_succ])
  refine wpAnyH_take (i := 9) (v := (.pointer (some ⟨w.heap.size, 1, none⟩))) rfl (by kernel_rfl) (by kernel_rfl) (by kernel_rfl) (fun _ _ _ h => h) (Or.inl ⟨by rfl, ?_⟩) (by assumption) ?_
  · intro w' hSw
    (try dsimp only at hSw)
    go_simp <;> first | exact i64_in (by omega) (by omega) | exact u32_in (by omega) (by omega) | exact u32_add _ _ | (rw [Int.tmod_eq_emod_of_nonneg (by omega)]; omega) | (rw [Int.tdiv_eq_ediv_of_nonneg (by omega)]; omega) | omega
  (try simp only [Act.put, List.setIfInBounds_toArray, List.set_cons_zero, List.set_cons_succ])
  refine wpAnyH_take (i := 10) (v := (.string tx)) rfl (by kernel_rfl) (by kernel_rfl) (by kernel_rfl) (fun _ _ _ h => h) (Or.inl ⟨by rfl, ?_⟩) (by assumption) ?_
  · intro w' hSw
    (try dsimp only at hSw)
    (obtain ⟨hS1, hS2, hS3⟩ := hSw; go_simp)
  (try simp only [Act.put, List.setIfInBounds_toArray, List.set_cons_zero, List.set_cons_succ])
  refine wpAnyH_ready (rs := [8]) (by kernel_rfl) (by simp) ?_
  refine AllReadyH.cons rfl (fun K hK => ?_) AllReadyH.nil
  go_simp
  refine Calls.mono P.out ?_
  rintro x w2 ⟨v2, rfl, o2, g2⟩
  have K2 : Hid (w2.cell? ⟨w.heap.size, 0, none⟩ = some (.int .i64 num) ∧ w2.cell? ⟨w.heap.size, 1, none⟩ = some (.string tx) ∧ w2.cell? ⟨2, i * 3, none⟩ = some (.int .i64 (widF i : Int))) := ⟨(g2.cellAt (by exact s0) (fun e => by have h := V0.out _ e.symm; simp only at h; omega)).trans c0, (g2.cellAt (by exact s0) (fun e => by have h := V0.out _ e.symm; simp only at h; omega)).trans c1, (g2.cellAt (by show 2 < W0.heap.size; have := B0.out; omega) (fun e => by have h := V0.out _ e.symm; simp only at h; omega)).trans c2⟩
  have g3 := G0.out.trans (Grew.drewL g2)
  refine hK.out _ _ (K2.out) (fun hHeld => ?_)
  clear hK
  (try simp only [Act.put, List.setIfInBounds_toArray, List.set_cons_zero, List.set_cons_succ])
  refine wpAnyH_ready (rs := [11]) (by kernel_rfl) (by simp) ?_
  refine AllReadyH.cons rfl (fun K hK => ?_) AllReadyH.nil
  refine wp_appAny (.tmp 19) (.tmp 21) rfl base (m + widF i) v2 _ tx rfl rfl o2 (by omega) (Nat.le_trans hbase g3.size) ?_
  intro v3 w3 o3 g4
  have V2 : Hid (∀ k, v2.ownBlock = some k → base ≤ k ∧ k ≠ w.heap.size) := fun k hk => by
    refine ⟨(o2.lt k hk).1, fun e => ?_⟩
    rcases g2.at' with h | ⟨q, h, hq⟩
    · have := V0.out k (by rw [← h]; exact hk); omega
    · rw [h] at hk; injection hk with hk; have : W0.heap.size ≤ q := hq; omega
  have K3 : Hid (w3.cell? ⟨w.heap.size, 0, none⟩ = some (.int .i64 num) ∧ w3.cell? ⟨w.heap.size, 1, none⟩ = some (.string tx) ∧ w3.cell? ⟨2, i * 3, none⟩ = some (.int .i64 (widF i : Int))) := ⟨(g4.cellAt (by exact Nat.lt_of_lt_of_le s0 g2.size) (fun e => (V2.out _ e.symm).2 rfl)).trans K2.out.1, (g4.cellAt (by exact Nat.lt_of_lt_of_le s0 g2.size) (fun e => (V2.out _ e.symm).2 rfl)).trans K2.out.2.1, (g4.cellAt (by show 2 < w2.heap.size; have := B0.out; have := Nat.lt_of_lt_of_le s0 g2.size; omega) (fun e => by have h := (V2.out _ e.symm).1; simp only at h; omega)).trans K2.out.2.2⟩
  refine hK.out _ _ (K3.out) (fun hHeld => ?_)
  clear hK
  (try simp only [Act.put, List.setIfInBounds_toArray, List.set_cons_zero, List.set_cons_succ])
  refine wpAnyH_ready (rs := [12]) (by kernel_rfl) (by simp) ?_
  refine AllReadyH.cons rfl (fun K hK => ?_) AllReadyH.nil
  go_simp
  refine hK.out _ _ (K3.out) (fun hHeld => ?_)
  clear hK
  (try simp only [Act.put, List.setIfInBounds_toArray, List.set_cons_zero, List.set_cons_succ])
  refine wpAnyH_done (by kernel_rfl) ?_ _
  clear hHeld
  go_wp2_with fail
  go_ret
  refine ⟨_, rfl, ?_, g3.trans g4⟩
  rw [List.map_append, ← List.append_assoc]
  exact o3
end Go.Proofs.YtgdjfocnaapooaaDoor
namespace Go.Proofs.YtgdjfocnaapooaaDoor
open Go.RowKit
/-- append to a row that is full: a new row -/
theorem run_appFull (w : World) (base b n m c : Nat) (ty : TypeId) (olds news : List Value) (hlo : olds.length = n) (holds : ∀ j v, olds[j]? = some v → w.cell? ⟨b, j, none⟩ = some v) (a : Addr) (hl : news.length = m) (hnews : ∀ j v, news[j]? = some v → w.cell? (a.add j) = some v) (hm : 0 < m) (hsm : n + m ≤ 1000000) (hbase : base ≤ w.heap.size) :
    ∃ v' w', (Builtin.append_ #[89, 89] ty #[.slice (some ⟨b, 0, none⟩) n n, .slice (some a) m c]).run Tryd.prog w = .ok v' w' ∧ w'.ownsRow base 5 1 v' (n + m) (olds ++ news) ∧ Below w.heap.size w w' ∧ v'.ownBlock = some w.heap.size := by
  obtain ⟨i0, hi, hz0, hz1, hz2⟩ := info_partsF info5
  have hr := run_append_grow (P := Tryd.prog) w 89 ty 5 i0 (.int .u8 0) Tryd.underlying89 hi hz0 ⟨b, 0, none⟩ n n olds (by rw [hz1]; omega) (fun j v hv => by rw [show (⟨b, 0, none⟩ : Addr).add j = ⟨b, j, none⟩ by unfold Addr.add; split <;> simp_all]; exact holds j v hv) a m c news (by rw [hz1]; omega) hnews (by omega) (by omega) (growslice_fits (by omega) (by rw [hz2]; omega))
  have g1 := grownCap_ge w (n + m) n 5
  have g2 := grownCap_le_maxLen w (n + m) n 5 (by unfold maxLen; omega)
  refine ⟨_, _, hr, ⟨by simp [hlo, hl], .inr ⟨w.heap.size, grownCap w (n + m) n 5, olds.toArray ++ news.toArray ++ Builtin.zeroCells (Value.int .u8 0).cells (grownCap w (n + m) n 5 - (n + m)), rfl, hbase, ?_, g1, g2, ?_, ?_⟩⟩, ((Below.refl _ w).drew).alloc (Nat.le_refl _) _, rfl⟩
  · show (w.heap.push _)[w.heap.size]? = some _
    simp
  · have : ∀ k, (Builtin.zeroCells (Value.int .u8 0).cells k).size = k := fun k => by simp [Builtin.zeroCells, Value.cells]
    simp only [Array.size_append, List.size_toArray, this, hlo, hl]
    omega
  · simp only [Array.toList_append, Nat.mul_one]
    rw [show n + m = (olds ++ news).length by rw [List.length_append]; omega]
    exact List.take_left
theorem wpList_appFull {w : World} {ops : Array Oper} {rest : List Oper} {o : Oper} {a : Act} {Q : Exit → Act → World → Prop} (hgd : o.guard = none) (sl x : Operand)
    (ho : o.op = .call { callee := .builtin .append, args := #[sl, x], argTypes := #[89, 89] })
    (base b n m c : Nat) (olds news : List Value) (ad : Addr) (hs : a.eval sl = .slice (some ⟨b, 0, none⟩) n n) (hx : a.eval x = .slice (some ad) m c) (hlo : olds.length = n) (holds : ∀ j v, olds[j]? = some v → w.cell? ⟨b, j, none⟩ = some v) (hl : news.length = m) (hnews : ∀ j v, news[j]? = some v → w.cell? (ad.add j) = some v) (hm : 0 < m) (hsm : n + m ≤ 1000000) (hbase : base ≤ w.heap.size)
    (h : ∀ v' w', w'.ownsRow base 5 1 v' (n + m) (olds ++ news) → Below w.heap.size w w' → v'.ownBlock = some w.heap.size → wpList Tryd.prog ops Q rest (a.put o.dst v') w') : wpList Tryd.prog ops Q (o :: rest) a w := by
  refine wpList_plain hgd fun K hK => ?_
  obtain ⟨v', w', hr, h2, h3, h4⟩ := run_appFull w base b n m c o.type olds news hlo holds ad hl hnews hm hsm hbase
  unfold Oper.wp execOp
  simp only [ho, resolve, invoke, builtin, Sem.run_bind, Sem.run_pure, Result.andThen_ok, List.map_toArray, List.map_cons, List.map_nil, hs, hx, hr]
  exact hK _ _ (h v' w' h2 h3 h4)
/-- append of nothing -/
theorem run_appNone (w : World) (base n : Nat) (ty : TypeId) (v : Value) (xs : List Value) (hown : w.ownsRow base 5 1 v n xs) :
    (Builtin.append_ #[89, 89] ty #[v, .slice none 0 0]).run Tryd.prog w = .ok v w := by
  obtain ⟨i0, hi, hz0, hz1, hz2⟩ := info_partsF info5
  rcases hown.2 with ⟨rfl, rfl⟩ | ⟨g, cap, cur, rfl, hbg, hg, hnc, hcm, hcs, htake⟩
  · simp [Builtin.append_, run_underlying Tryd.underlying89, sizeOf, typeInfo, hi, Builtin.lenOf, Builtin.firstCells]
  · simp [Builtin.append_, run_underlying Tryd.underlying89, sizeOf, typeInfo, hi, Builtin.lenOf, Builtin.firstCells, loadCells, hnc, storeCells]
theorem wpList_appNone {w : World} {ops : Array Oper} {rest : List Oper} {o : Oper} {a : Act} {Q : Exit → Act → World → Prop} (hgd : o.guard = none) (sl x : Operand)
    (ho : o.op = .call { callee := .builtin .append, args := #[sl, x], argTypes := #[89, 89] })
    (base n : Nat) (v : Value) (xs : List Value) (hs : a.eval sl = v) (hx : a.eval x = .slice none 0 0) (hown : w.ownsRow base 5 1 v n xs)
    (h : wpList Tryd.prog ops Q rest (a.put o.dst v) w) : wpList Tryd.prog ops Q (o :: rest) a w := by
  refine wpList_plain hgd fun K hK => ?_
  unfold Oper.wp execOp
  simp only [ho, resolve, invoke, builtin, Sem.run_bind, Sem.run_pure, Result.andThen_ok, List.map_toArray, List.map_cons, List.map_nil, hs, hx, run_appNone w base n o.type v xs hown]
  exact hK _ _ h
end Go.Proofs.YtgdjfocnaapooaaDoor
