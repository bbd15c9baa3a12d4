import Derived.Test.YtgdjfocnaapooaaDoorGFdDec2
import Derived.Test.YtgdjfocnaapooaaDoorGFoOpen
import Derived.Test.YtgdjfocnaapooaaDoorGFeWrite
namespace Go.Proofs.YtgdjfocnaapooaaDoor
open Go.RowKit
set_option maxHeartbeats 2000000 in
set_option maxRecDepth 100000 in
/-- frameSize -/
theorem frameSize_any (s : ByteArray) (h : 20 ≤ s.size) (w : World) :
    Calls Tryd.prog 32 #[.string s] w fun e w' => e = .returned (.int .i64 (24 + (bszF s : Int))) ∧ w = w' := by
  have C := hide (bodySize_any s h w)
  have hb := bszF_lt s
  generalize bszF s = B at *
  go_enter Tryd.func32, Tryd.ntmps32
  go_wp2_with fail
  refine Calls.mono C.out ?_
  rintro e wx ⟨rfl, rfl⟩
  go_wp2_with fail
  go_ret
  exact ⟨rfl, rfl⟩
theorem firstP_of {t : ByteArray} (h : ¬ (t.size < 24 ∨ t.size < 24 + bszF t)) : firstP t = (decM (t.extract 0 (24 + bszF t))).map fun m => (24 + bszF t, m) := by
  unfold firstP
  rw [if_neg h]
  cases decM (t.extract 0 (24 + bszF t)) <;> rfl
/-- what first answers -/
def firV (t : ByteArray) : Value := match firstP t with
  | none => .tuple #[.agg (msgV (mm0 0)), .int .i64 0]
  | some (n, m) => .tuple #[.agg (msgV m), .int .i64 (n : Int)]
theorem firV_none {t : ByteArray} (h : firstP t = none) : firV t = .tuple #[.agg (msgV (mm0 0)), .int .i64 0] := by unfold firV; rw [h]
theorem firV_some {t : ByteArray} {n : Nat} {m : MM} (h : firstP t = some (n, m)) : firV t = .tuple #[.agg (msgV m), .int .i64 (n : Int)] := by unfold firV; rw [h]
theorem blkF_keep {w w' : World} {b : Nat} {o : Obj} (h : w.heap[b]? = some o) (hb : Below w.heap.size w w') : w'.heap[b]? = some o := (hb.block _ (Array.getElem?_eq_some_iff.1 h).1).trans h
set_option maxHeartbeats 8000000 in
set_option maxRecDepth 100000 in
/-- first -/
theorem first_any (t : ByteArray) (w : World) (hT : TabF w) (hT4 : Tab4 5 w) :
    Calls Tryd.prog 30 #[.string t] w fun e w' => e = .returned (firV t) ∧ Below w.heap.size w w' := by
  obtain ⟨W0, hW0⟩ : ∃ W0, W0 = w.alloc (.cells #[.int .i64 0, .int .i64 0, .int .i64 0, .int .i64 0, .int .i64 0, .int .i64 0, .int .i64 0, .int .i64 0, .int .i64 0, .string ⟨#[]⟩, .string ⟨#[]⟩] 27) := ⟨_, rfl⟩
  have b0 : Below w.heap.size w W0 := by rw [hW0]; exact (Below.refl _ w).alloc (Nat.le_refl _) _
  have hM0 : W0.heap[w.heap.size]? = some (.cells (msgV (mm0 0)) 27) := by rw [hW0]; exact heap_last w _
  have hT0 := hT.below b0
  have hT40 : Tab4 5 W0 := fun j hj => (b0.cell (World.block_lt_of_cell? w _ (hT4 j hj))).trans (hT4 j hj)
  have B0 := hide b0
  have HT0 := hide (And.intro hT0 hT40)
  clear b0 hT hT4 hT0 hT40
  go_enter Tryd.func30, Tryd.ntmps30
  go_upto_region 1 with fail
  rw [← hW0]
  clear hW0
  by_cases h24 : t.size < 24
  case pos =>
    have E := hide (firV_none (t := t) (by unfold firstP; rw [if_pos (Or.inl h24)]))
    have g : (t.size : Int) < 24 := by omega
    go_wp2_with (first | (refine wpList_build0 rfl rfl ?_) | (refine wpList_storeMsg rfl (.tmp 2) (.tmp 17) rfl w.heap.size rfl (mm0 0) (mm0 0) rfl hM0 ?_))
    refine bodyPost_ret (v := .tuple #[.agg (msgV (mm0 0)), .int .i64 0]) (res_msg2 Tryd.results30 _ (mm0 0) _ w.heap.size rfl _ rfl (setRow_heap _ _ _ _ _ _ hM0)) rfl ⟨by rw [E.out], ?_⟩
    exact below_row B0.out (Nat.le_refl _) _
  case neg =>
    have g : ¬ (t.size : Int) < 24 := by omega
    have FS := hide (fun w' => frameSize_any t (by omega) w')
    by_cases hL : t.size < 24 + bszF t
    case pos =>
      have E := hide (firV_none (t := t) (by unfold firstP; rw [if_pos (Or.inr hL)]))
      have g2 : (t.size : Int) < 24 + (bszF t : Int) := by omega
      clear hL
      go_wp2_with (first | (refine wpList_build0 rfl rfl ?_) | (refine wpList_storeMsg rfl (.tmp 2) (.tmp 17) rfl w.heap.size rfl (mm0 0) (mm0 0) rfl hM0 ?_) | (refine Calls.mono (FS.out _) ?_; rintro e wx ⟨rfl, rfl⟩))
      refine bodyPost_ret (v := .tuple #[.agg (msgV (mm0 0)), .int .i64 0]) (res_msg2 Tryd.results30 _ (mm0 0) _ w.heap.size rfl _ rfl (setRow_heap _ _ _ _ _ _ hM0)) rfl ⟨by rw [E.out], ?_⟩
      exact below_row B0.out (Nat.le_refl _) _
    case neg =>
      have g2 : ¬ (t.size : Int) < 24 + (bszF t : Int) := by omega
      have D := hide (decode_any (t.extract 0 (24 + bszF t)) W0 HT0.out.1 HT0.out.2)
      have EF := hide (firstP_of (t := t) (by omega))
      have hn : (24 + (bszF t : Int)) = ((24 + bszF t : Nat) : Int) := by omega
      rw [hn] at FS g2
      have hnl : 24 + bszF t ≤ t.size := by omega
      generalize 24 + bszF t = n at *
      clear hL hn
      have D2 := D.out
      unfold decV at D2
      rcases decE_cases (t.extract 0 n) with ⟨hE, m, hm⟩ | ⟨hE1, hE2, hm⟩
      · have E := hide (firV_some (t := t) (n := n) (m := m) (by rw [EF.out, hm]; rfl))
        rw [hE, hm] at D2
        dsimp only [Option.getD_some] at D2
        have D2 := hide D2
        clear D EF hE hm
        have hni : ¬ (t.size : Int) < (n : Int) := by omega
        go_wp2_with (refine Calls.mono (FS.out _) ?_; rintro e wx ⟨rfl, rfl⟩)
        refine Calls.mono D2.out ?_
        rintro e w1 ⟨rfl, b1⟩
        have hM1 := blkF_keep hM0 b1
        have B1 := hide (B0.out.trans (b1.mono B0.out.size))
        obtain ⟨WX, eX⟩ : ∃ WX, WX = (w1.alloc (.cells #[.int .i64 0, .int .i64 0, .int .i64 0, .int .i64 0, .int .i64 0, .int .i64 0, .int .i64 0, .int .i64 0, .int .i64 0, .string ⟨#[]⟩, .string ⟨#[]⟩] 27)).setRow w1.heap.size (msgV m) := ⟨_, rfl⟩
        have hX : WX.heap[w1.heap.size]? = some (.cells (msgV m) 27) := by rw [eX]; exact setRow_heap _ _ _ _ _ _ (heap_last _ _)
        have bX1 : Below w1.heap.size w1 WX := by rw [eX]; exact below_row ((Below.refl _ w1).alloc (Nat.le_refl _) _) (Nat.le_refl _) _
        have hMX := blkF_keep hM1 bX1
        have BX := hide (B1.out.trans (bX1.mono B1.out.size))
        clear b1 bX1 hM0 hM1 D2
        go_upto_region 5 with (refine wpList_storeMsg rfl (.tmp 5) (.tmp 25) rfl w1.heap.size rfl m (mm0 0) rfl (heap_last _ _) ?_)
        rw [← eX]
        clear eX
        go_wp2_with (first | (refine wpList_loadMsg rfl (.tmp 5) rfl m w1.heap.size rfl hX ?_) | (refine wpList_storeMsg rfl (.tmp 2) (.tmp 30) rfl w.heap.size rfl m (mm0 0) rfl hMX ?_))
        refine bodyPost_ret (v := .tuple #[.agg (msgV m), .int .i64 (n : Int)]) (res_msg2 Tryd.results30 _ m _ w.heap.size rfl _ rfl (setRow_heap _ _ _ _ _ _ hMX)) rfl ⟨by rw [E.out], ?_⟩
        exact below_row BX.out (Nat.le_refl _) _
      · have E := hide (firV_none (t := t) (by rw [EF.out, hm]; rfl))
        rw [hm] at D2
        dsimp only [Option.getD_none] at D2
        have D2 := hide D2
        clear D EF hm
        generalize decE (t.extract 0 n) = EE at *
        have hE0 : (EE != 0) = true := by simp; omega
        have hni : ¬ (t.size : Int) < (n : Int) := by omega
        go_wp2_with (refine Calls.mono (FS.out _) ?_; rintro e wx ⟨rfl, rfl⟩)
        refine Calls.mono D2.out ?_
        rintro e w1 ⟨rfl, b1⟩
        have hM1 := blkF_keep hM0 b1
        have B1 := hide (B0.out.trans (b1.mono B0.out.size))
        obtain ⟨WX, eX⟩ : ∃ WX, WX = (w1.alloc (.cells #[.int .i64 0, .int .i64 0, .int .i64 0, .int .i64 0, .int .i64 0, .int .i64 0, .int .i64 0, .int .i64 0, .int .i64 0, .string ⟨#[]⟩, .string ⟨#[]⟩] 27)).setRow w1.heap.size (msgV (mm0 0)) := ⟨_, rfl⟩
        have bX1 : Below w1.heap.size w1 WX := by rw [eX]; exact below_row ((Below.refl _ w1).alloc (Nat.le_refl _) _) (Nat.le_refl _) _
        have hMX := blkF_keep hM1 bX1
        have BX := hide (B1.out.trans (bX1.mono B1.out.size))
        clear b1 bX1 hM0 hM1 D2
        go_upto_region 5 with (refine wpList_storeMsg rfl (.tmp 5) (.tmp 25) rfl w1.heap.size rfl (mm0 0) (mm0 0) rfl (heap_last _ _) ?_)
        rw [← eX]
        clear eX
        go_wp2_with (first | (refine wpList_build0 rfl rfl ?_) | (refine wpList_storeMsg rfl (.tmp 2) (.tmp 29) rfl w.heap.size rfl (mm0 0) (mm0 0) rfl hMX ?_))
        refine bodyPost_ret (v := .tuple #[.agg (msgV (mm0 0)), .int .i64 0]) (res_msg2 Tryd.results30 _ (mm0 0) _ w.heap.size rfl _ rfl (setRow_heap _ _ _ _ _ _ hMX)) rfl ⟨by rw [E.out], ?_⟩
        exact below_row BX.out (Nat.le_refl _) _
end Go.Proofs.YtgdjfocnaapooaaDoor
namespace Go.Proofs.YtgdjfocnaapooaaDoor
open Go.RowKit
/-- are two messages the same? -/
def sameM (a b : MM) : Bool := decide (a.kind = b.kind ∧ a.n0 = b.n0 ∧ a.n1 = b.n1 ∧ a.n2 = b.n2 ∧ a.n3 = b.n3 ∧ a.n4 = b.n4 ∧ a.n5 = b.n5 ∧ a.n6 = b.n6 ∧ a.n7 = b.n7 ∧ a.key = b.key ∧ a.val = b.val)
theorem sameM_iff {a b : MM} : sameM a b = true ↔ a = b := by
  unfold sameM
  rw [decide_eq_true_eq]
  constructor
  · rintro ⟨h0, h1, h2, h3, h4, h5, h6, h7, h8, h9, h10⟩
    cases a; cases b
    simp only at h0 h1 h2 h3 h4 h5 h6 h7 h8 h9 h10
    subst h0 h1 h2 h3 h4 h5 h6 h7 h8 h9 h10
    rfl
  · rintro rfl
    exact ⟨rfl, rfl, rfl, rfl, rfl, rfl, rfl, rfl, rfl, rfl, rfl⟩
theorem sameM_self (a : MM) : sameM a a = true := sameM_iff.2 rfl
theorem sameM_no {a b : MM} (h : a ≠ b) : sameM a b = false := by
  cases hs : sameM a b with
  | false => rfl
  | true => exact absurd (sameM_iff.1 hs) h
theorem if_step {p q : Prop} [Decidable p] [Decidable q] {w : World} {R : Result Bool} (h : R = .ok (decide q) w) : (if p then R else .ok false w) = .ok (decide (p ∧ q)) w := by
  by_cases hp : p
  · rw [if_pos hp, h]; congr 1; simp [hp]
  · rw [if_neg hp]; congr 1; simp [hp]
theorem eqf_int {P : Program} {d : Nat} {xs ys : Array Value} {f : Field} {fs : List Field} {k : IntKind} {x y : Int} {w : World} (hn : f.name ≠ "_") (hx : (part f.type xs f.offset).run P w = .ok (.int .i64 x) w) (hy : (part f.type ys f.offset).run P w = .ok (.int .i64 y) w) (hu : P.underlying f.type = some (.int k)) :
    (Op.eqFields (d + 1) xs ys (f :: fs)).run P w = if x = y then (Op.eqFields (d + 1) xs ys fs).run P w else .ok false w := by
  simp only [Op.eqFields, if_pos hn, Sem.run_bind, hx, hy, Result.andThen_ok, run_equalIn_int w d f.type .i64 k x y hu]
  by_cases h : x = y
  · rw [if_pos h, if_neg (by simp [h])]
  · rw [if_neg h, if_pos (by simp [h])]; rfl
theorem eqf_str {P : Program} {d : Nat} {xs ys : Array Value} {f : Field} {fs : List Field} {x y : ByteArray} {w : World} (hn : f.name ≠ "_") (hx : (part f.type xs f.offset).run P w = .ok (.string x) w) (hy : (part f.type ys f.offset).run P w = .ok (.string y) w) (hu : P.underlying f.type = some .string) :
    (Op.eqFields (d + 1) xs ys (f :: fs)).run P w = if x = y then (Op.eqFields (d + 1) xs ys fs).run P w else .ok false w := by
  simp only [Op.eqFields, if_pos hn, Sem.run_bind, hx, hy, Result.andThen_ok, run_equalIn_string w d f.type x y hu, eq_beq]
  by_cases h : x = y
  · rw [if_pos h, if_neg (by simp [h])]
  · rw [if_neg h, if_pos (by simp [h])]; rfl
set_option maxHeartbeats 2000000 in
set_option maxRecDepth 100000 in
theorem eqMsg (a b : MM) (w : World) : (Op.equalIn 10000 27 (.agg (msgV a)) (.agg (msgV b))).run Tryd.prog w = .ok (sameM a b) w := by
  have hS : Tryd.prog.underlying 27 = some (.struct (Tryd.prog.fieldsOf 27)) := by kernel_rfl
  have hp : Tryd.prog.stoodInHeld 27 = false := by kernel_rfl
  rw [show (10000 : Nat) = 9999 + 1 from rfl, run_equalIn_agg w 9999 27 _ _ hS hp]
  simp only [Program.fieldsOf, Tryd.underlying27]
  rw [show (9999 : Nat) = 9998 + 1 from rfl]
  rw [eqf_int (k := .i64) (x := a.kind) (y := b.kind) (by decide) (by kernel_rfl) (by kernel_rfl) (by kernel_rfl)]
  rw [eqf_int (k := .i64) (x := a.n0) (y := b.n0) (by decide) (by kernel_rfl) (by kernel_rfl) (by kernel_rfl)]
  rw [eqf_int (k := .i64) (x := a.n1) (y := b.n1) (by decide) (by kernel_rfl) (by kernel_rfl) (by kernel_rfl)]
  rw [eqf_int (k := .i64) (x := a.n2) (y := b.n2) (by decide) (by kernel_rfl) (by kernel_rfl) (by kernel_rfl)]
  rw [eqf_int (k := .i64) (x := a.n3) (y := b.n3) (by decide) (by kernel_rfl) (by kernel_rfl) (by kernel_rfl)]
  rw [eqf_int (k := .i64) (x := a.n4) (y := b.n4) (by decide) (by kernel_rfl) (by kernel_rfl) (by kernel_rfl)]
  rw [eqf_int (k := .i64) (x := a.n5) (y := b.n5) (by decide) (by kernel_rfl) (by kernel_rfl) (by kernel_rfl)]
  rw [eqf_int (k := .i64) (x := a.n6) (y := b.n6) (by decide) (by kernel_rfl) (by kernel_rfl) (by kernel_rfl)]
  rw [eqf_int (k := .i64) (x := a.n7) (y := b.n7) (by decide) (by kernel_rfl) (by kernel_rfl) (by kernel_rfl)]
  rw [eqf_str (x := a.key) (y := b.key) (by decide) (by kernel_rfl) (by kernel_rfl) (by kernel_rfl)]
  rw [eqf_str (x := a.val) (y := b.val) (by decide) (by kernel_rfl) (by kernel_rfl) (by kernel_rfl)]
  have hz : (Op.eqFields (9998 + 1) (msgV a) (msgV b) []).run Tryd.prog w = .ok true w := rfl
  rw [hz]
  unfold sameM
  refine if_step (if_step (if_step (if_step (if_step (if_step (if_step (if_step (if_step (if_step ?_)))))))))
  by_cases h : a.val = b.val
  · rw [if_pos h, decide_eq_true h]
  · rw [if_neg h, decide_eq_false h]
theorem eqlMsg (a b : MM) (w : World) : (binOp .eql 27 (.agg (msgV a)) (.agg (msgV b))).run Tryd.prog w = .ok (.bool (sameM a b)) w := by
  rw [run_eql_struct, eqMsg]; rfl
theorem neqMsg (a b : MM) (w : World) : (binOp .neq 27 (.agg (msgV a)) (.agg (msgV b))).run Tryd.prog w = .ok (.bool (!sameM a b)) w := by
  rw [run_neq_struct, eqMsg]; rfl
theorem wpList_eqMsg {w : World} {ops : Array Oper} {rest : List Oper} {o : Oper} {a : Act} {Q : Exit → Act → World → Prop} (hw : Region.wanted o (yielded ops a.tmps) = true) (x y : Operand) (t2 : TypeId) (ho : o.op = .binOp .eql 27 x y t2) (m n : MM) (hx : a.eval x = .agg (msgV m)) (hy : a.eval y = .agg (msgV n))
    (h : wpList Tryd.prog ops Q rest (a.put o.dst (.bool (sameM m n))) w) : wpList Tryd.prog ops Q (o :: rest) a w := by
  refine BigFrame.wpList_want hw fun K hK => ?_
  unfold Oper.wp execOp
  have hg : Tryd.prog.eqGuardType Tryd.prog.depth 27 = false := by kernel_rfl
  simp only [ho, Sem.run_bind, Sem.run_pure, Result.andThen_ok, hx, hy, eqlMsg, run_eqGuard_agg w .eql 27 x y (msgV m) (msgV n) hg]
  exact hK _ _ h
theorem wpList_neqMsg {w : World} {ops : Array Oper} {rest : List Oper} {o : Oper} {a : Act} {Q : Exit → Act → World → Prop} (hw : Region.wanted o (yielded ops a.tmps) = true) (x y : Operand) (t2 : TypeId) (ho : o.op = .binOp .neq 27 x y t2) (m n : MM) (hx : a.eval x = .agg (msgV m)) (hy : a.eval y = .agg (msgV n))
    (h : wpList Tryd.prog ops Q rest (a.put o.dst (.bool (!sameM m n))) w) : wpList Tryd.prog ops Q (o :: rest) a w := by
  refine BigFrame.wpList_want hw fun K hK => ?_
  unfold Oper.wp execOp
  have hg : Tryd.prog.eqGuardType Tryd.prog.depth 27 = false := by kernel_rfl
  simp only [ho, Sem.run_bind, Sem.run_pure, Result.andThen_ok, hx, hy, neqMsg, run_eqGuard_agg w .neq 27 x y (msgV m) (msgV n) hg]
  exact hK _ _ h
end Go.Proofs.YtgdjfocnaapooaaDoor
namespace Go.Proofs.YtgdjfocnaapooaaDoor
open Go.RowKit
theorem tm_facts (n : Int) (d : Int) (hd : 0 < d) : (n.tmod d < 0 → n % d = n.tmod d + d) ∧ (0 ≤ n.tmod d → n % d = n.tmod d) ∧ -d < n.tmod d ∧ n.tmod d < d := by
  have h := @Int.tmod_eq_emod n d
  have h1 := Int.emod_nonneg n (show d ≠ 0 by omega)
  have h2 := Int.emod_lt_of_pos n hd
  split at h
  · omega
  · rename_i hh
    have : n % d ≠ 0 := fun e => hh (Or.inr (Int.dvd_of_emod_eq_zero e))
    omega
set_option maxHeartbeats 2000000 in
set_option maxRecDepth 100000 in
theorem clipped_any (n : Int) (top : Nat) (h : top ≤ 9007199254740992) (w : World) :
    Calls Tryd.prog 36 #[.int .i64 n, .int .i64 (top : Int)] w fun e w' => e = .returned (.int .i64 (n % ((top : Int) + 1))) ∧ w = w' := by
  obtain ⟨t1, t2, t3, t4⟩ := tm_facts n ((top : Int) + 1) (by omega)
  have hne : ¬ (top : Int) + 1 = 0 := by omega
  have hne1 : ¬ (top : Int) + 1 = -1 := by omega
  generalize n % ((top : Int) + 1) = C at *
  by_cases hT : n.tmod ((top : Int) + 1) < 0
  · have e := t1 hT
    go_enter Tryd.func36, Tryd.ntmps36
    go_wp2
    go_ret
    refine ⟨?_, rfl⟩
    rw [e]
    show Ending.returned (.int .i64 _) = _
    congr 2
    omega
  · have e := t2 (by omega)
    go_enter Tryd.func36, Tryd.ntmps36
    go_wp2
    go_ret
    refine ⟨?_, rfl⟩
    rfl
/-- a text that is cut -/
def cutS (s : ByteArray) (top : Nat) : ByteArray := if top < s.size then s.extract 0 top else s
theorem cutS_size (s : ByteArray) (top : Nat) : (cutS s top).size ≤ top := by
  unfold cutS
  split
  · rw [ByteArray.size_extract]; omega
  · omega
set_option maxHeartbeats 2000000 in
set_option maxRecDepth 100000 in
theorem cut_any (s : ByteArray) (top : Nat) (h : top ≤ 9007199254740992) (w : World) :
    Calls Tryd.prog 37 #[.string s, .int .i64 (top : Int)] w fun e w' => e = .returned (.string (cutS s top)) ∧ w = w' := by
  unfold cutS
  split
  · rename_i hs
    have hlt : (top : Int) < (s.size : Int) := by omega
    go_enter Tryd.func37, Tryd.ntmps37
    go_wp2
    go_ret
    exact ⟨rfl, rfl⟩
  · rename_i hs
    have hlt : ¬ (top : Int) < (s.size : Int) := by omega
    go_enter Tryd.func37, Tryd.ntmps37
    go_wp2
    go_ret
    exact ⟨rfl, rfl⟩
/-- a field laid anew in the message's own cells -/
theorem msg_put_num (m : MM) (i : Nat) (hi : i < 8) (n : Int) (t : ByteArray) : (msgV m).setIfInBounds (i + 1) (.int .i64 n) = msgV (m.put i n t) := by
  have : i = 0 ∨ i = 1 ∨ i = 2 ∨ i = 3 ∨ i = 4 ∨ i = 5 ∨ i = 6 ∨ i = 7 := by omega
  rcases this with rfl | rfl | rfl | rfl | rfl | rfl | rfl | rfl <;> rfl
theorem msg_put_txt (m : MM) (i : Nat) (hi : i = 8 ∨ i = 9) (n : Int) (t : ByteArray) : (msgV m).setIfInBounds (i + 1) (.string t) = msgV (m.put i n t) := by
  rcases hi with rfl | rfl <;> rfl
theorem msg_frozen (m : MM) (w : World) (Q : Nat) (h : w.heap[Q]? = some (.cells (msgV m) 27)) (i : Nat) : w.frozen? ⟨Q, i, none⟩ = false := by
  unfold World.frozen?; rw [h]; simp
theorem msg_set_num (m : MM) (i : Nat) (hi : i < 8) (n : Int) (t : ByteArray) (w : World) (Q : Nat) (h : w.heap[Q]? = some (.cells (msgV m) 27)) : (w.setCell ⟨Q, i + 1, none⟩ (.int .i64 n)).heap[Q]? = some (.cells (msgV (m.put i n t)) 27) := by
  rw [heap_setCell _ _ _ _ _ _ _ h, msg_put_num m i hi n t]
theorem msg_set_txt (m : MM) (i : Nat) (hi : i = 8 ∨ i = 9) (n : Int) (t : ByteArray) (w : World) (Q : Nat) (h : w.heap[Q]? = some (.cells (msgV m) 27)) : (w.setCell ⟨Q, i + 1, none⟩ (.string t)).heap[Q]? = some (.cells (msgV (m.put i n t)) 27) := by
  rw [heap_setCell _ _ _ _ _ _ _ h, msg_put_txt m i hi n t]
theorem msg_at0 (m : MM) (w : World) (Q : Nat) (h : w.heap[Q]? = some (.cells (msgV m) 27)) (i : Nat) : w.cell? ⟨Q, i, none⟩ = (msgV m)[i]? := by
  unfold World.cell?; rw [h]; rfl
theorem below_set {B : Nat} {w0 w : World} {a : Addr} (hb : Below B w0 w) (ha : B ≤ a.block) (v : Value) : Below B w0 (w.setCell a v) := hb.setCell ha v
/-- all fields fit -/
def FitAll (m : MM) (k : Nat) : Prop := m.kind = (k : Int) ∧ ∀ i, i < 10 → fitAt m k i = true
theorem FitAll.fit {m : MM} {k : Nat} (h : FitAll m k) : fitM m = true := by
  unfold fitM
  rw [h.1, Int.toNat_natCast]
  exact List.all_eq_true.2 fun i hi => h.2 i (List.mem_range.1 hi)
theorem FitAll.put {m : MM} {k : Nat} (h : FitAll m k) (i : Nat) (hi : i < 10) (hb : i ∈ bodyF k) (n : Int) (t : ByteArray) (h0 : 0 ≤ n) (h1 : n ≤ (mostF i : Int)) (h2 : t.size ≤ mostF i) : FitAll (m.put i n t) k := by
  refine ⟨by rw [MM.put_kind]; exact h.1, fun j hj => ?_⟩
  by_cases e : j = i
  · subst e
    unfold fitAt
    have hm : mostK k j = mostF j := by unfold mostK; rw [if_pos (Or.inr hb)]
    rw [MM.put_num _ _ _ _ hj, MM.put_txt _ _ _ _ hj, hm]
    cases ht : isTx j with
    | true => simp only [if_true, Bool.and_eq_true, decide_eq_true_eq]; exact ⟨⟨by omega, by omega⟩, h2⟩
    | false => simp only [Bool.and_eq_true, decide_eq_true_eq]; exact ⟨⟨h0, h1⟩, by show (0 : Nat) ≤ _; omega⟩
  · obtain ⟨e1, e2⟩ := MM.put_other m i j n t hi hj e
    have := h.2 j hj
    unfold fitAt at this ⊢
    rw [e1, e2]
    exact this
theorem start_fit (k : Nat) (a b c : Int) (ha : 0 ≤ a ∧ a ≤ 65535) (hb : 0 ≤ b ∧ b ≤ 65535) (hc : 0 ≤ c ∧ c ≤ 9007199254740992) : FitAll ⟨(k : Int), a, b, c, 0, 0, 0, 0, 0, ⟨#[]⟩, ⟨#[]⟩⟩ k := by
  refine ⟨rfl, fun j hj => ?_⟩
  unfold fitAt
  have hz : ((⟨#[]⟩ : ByteArray)).size = 0 := rfl
  have h0 : mostK k 0 = 65535 := rfl
  have h1 : mostK k 1 = 65535 := rfl
  have h2 : mostK k 2 = 9007199254740992 := rfl
  simp only [Bool.and_eq_true, decide_eq_true_eq]
  rcases ten_cases hj with rfl | rfl | rfl | rfl | rfl | rfl | rfl | rfl | rfl | rfl <;> simp only [MM.num, MM.txt, hz, h0, h1, h2] <;> refine ⟨⟨?_, ?_⟩, ?_⟩ <;> omega
end Go.Proofs.YtgdjfocnaapooaaDoor
namespace Go.Proofs.YtgdjfocnaapooaaDoor
open Go.RowKit
theorem rep_set (n : Nat) (v : Value) (l : List Value) (h : 0 < n) : (List.replicate n (Value.int .u8 0) ++ l).set (n - 1) v = List.replicate (n - 1) (Value.int .u8 0) ++ v :: l := by
  obtain ⟨k, rfl⟩ : ∃ k, n = k + 1 := ⟨n - 1, by omega⟩
  rw [List.replicate_succ', List.append_assoc]
  simp
theorem rep_at (n : Nat) (l : List Value) (h : 0 < n) : (List.replicate n (Value.int .u8 0) ++ l)[n - 1]? = some (.int .u8 0) := by
  rw [List.getElem?_append_left (by simp; omega), List.getElem?_replicate, if_pos (by omega)]
theorem div_pow (N k : Nat) : N / 256 ^ k / 256 = N / 256 ^ (k + 1) := by rw [Nat.div_div_eq_div_mul, Nat.pow_succ]
set_option maxHeartbeats 2000000 in
set_option maxRecDepth 100000 in
/-- digits -/
theorem digits_any (N wd : Nat) (hw : wd ≤ 8) (hN : N < 9223372036854775808) (w : World) :
    Calls Tryd.prog 57 #[.int .i64 (N : Int), .int .i64 (wd : Int)] w fun e w' => e = .returned (.string (strOf (dig wd N))) ∧ Below w.heap.size w w' := by
  obtain ⟨i0, hi, hz0, hz1, hz2⟩ := info_partsF info5
  go_enter Tryd.func57, Tryd.ntmps57
  go_wp2_with (at_make; refine wpList_make_full _ rfl _ _ 89 rfl w.heap.size 5 i0 (.int .u8 0) 1 Tryd.underlying89 hi hz0 hz1 _ _ _ _ wd rfl rfl (by omega) (by omega) (by rw [hz2]; omega) (by unfold maxLen; omega) (Nat.le_refl _) ?_)
  intro w1 hown1 hgrow1
  have hb1 : Below w.heap.size w w1 := (Below.refl _ w).grown hgrow1 (Nat.le_refl _) (by simp)
  rw [toList_madeCells_one] at hown1
  go_wp2
  go_loopw [0, 6] (fun n i wr => ∃ k : Nat, k ≤ wd ∧ i = .int .i64 k ∧ n = .int .i64 ((N / 256 ^ k : Nat) : Int) ∧ wr.ownsRow w.heap.size 5 1 (.slice (some ⟨w.heap.size, 0, none⟩) wd wd) wd (List.replicate (wd - k) (Value.int .u8 0) ++ (dig k N).map ub) ∧ Below w.heap.size w wr) (fun _ i _ => wd - (intOf i).toNat)
  case atStart => exact ⟨0, Nat.zero_le _, rfl, by simp, by simpa [dig] using hown1, hb1⟩
  case round =>
    obtain ⟨k, hk, rfl, rfl, hown, hnx⟩ := hrel
    by_cases hlt : k < wd
    · have hX : N / 256 ^ k < 9223372036854775808 := Nat.lt_of_le_of_lt (Nat.div_le_self _ _) hN
      have HD := hide (div_pow N k)
      have HC := hide (dig_cons k N)
      have hc1 := hown.cellAt (wd - 1 - k) (by omega)
      rw [show wd - 1 - k = wd - k - 1 by omega, rep_at (wd - k) _ (by omega)] at hc1
      have hc2 := hown.frozenAt (wd - k - 1)
      have HS := hide (fun v => hown.stored (wd - k - 1) v)
      have HQ := hide (fun v => rep_set (wd - k) v ((dig k N).map ub) (by omega))
      generalize hXX : N / 256 ^ k = X at *
      have hb8 := u8_nat X
      have e1 : (wd : Int) - 1 - (k : Int) = ((wd - k - 1 : Nat) : Int) := by omega
      have e2 : (wd - k - 1 : Nat) < wd := by omega
      have HN := hide hnx
      clear hown hnx
      have EV := hide (show Value.int .u8 ((X : Int) % 256) = ub (UInt8.ofNat X) by unfold ub; rw [UInt8.toNat_ofNat']; congr 1)
      go_wp2_with fail
      refine ⟨⟨k + 1, by omega, by go_num, by rw [← HD.out]; rfl, ?_, HN.out.setCell (Nat.le_refl _) _⟩, by simp [intOf]; omega⟩
      have st := (HS.out (.int .u8 ((X : Int) % 256))).1
      rw [HQ.out] at st
      rw [HC.out, List.map_cons, ← EV.out, show wd - (k + 1) = wd - k - 1 by omega]
      exact st
    · obtain rfl : k = wd := by omega
      rw [Nat.sub_self, List.replicate_zero, List.nil_append] at hown
      have hcv : (convert 89 9 (.slice (some ⟨w.heap.size, 0, none⟩) k k)).run Tryd.prog wr = .ok (.string (strOf (dig k N))) wr := own_conv hown (dig_len k N).symm Tryd.underlying89 Tryd.underlying5 Tryd.underlying9
      clear hown
      go_wp2_with fail
      go_ret
      exact ⟨rfl, hnx⟩
set_option maxHeartbeats 1000000 in
set_option maxRecDepth 100000 in
/-- sum -/
theorem rsum_any (s : ByteArray) (hs : s.size ≤ 1000000) (w : World) :
    Calls Tryd.prog 58 #[.string s] w fun e w' => e = .returned (.string (strOf (le4 (crcN 0 s.data.toList)))) ∧ Below w.heap.size w w' := by
  have C := hide (rcrc_any s w (by omega))
  have hc : crcN 0 s.data.toList < 4294967296 := crcN_lt _ (by omega)
  generalize crcN 0 s.data.toList = c at *
  have ea : (#[.int .u8 ((c : Int) % 256), .int .u8 ((c : Int) / 256 % 256), .int .u8 ((c : Int) / 65536 % 256), .int .u8 ((c : Int) / 16777216 % 256)] : Array Value).toList = (le4 c).map ub := by
    simp only [le4, ub, List.map_cons, List.map_nil, UInt8.toNat_ofNat']
    rw [show ((c : Int) % 256) = ((c % 2 ^ 8 : Nat) : Int) by omega, show ((c : Int) / 256 % 256) = ((c / 256 % 2 ^ 8 : Nat) : Int) by omega, show ((c : Int) / 65536 % 256) = ((c / 65536 % 2 ^ 8 : Nat) : Int) by omega, show ((c : Int) / 16777216 % 256) = ((c / 16777216 % 2 ^ 8 : Nat) : Int) by omega]
  have hcv := own_conv (P := Tryd.prog) (dst := 9) (ea ▸ World.ownsRow_lit (base := w.heap.size) (e := 5) (size := 1) w #[.int .u8 ((c : Int) % 256), .int .u8 ((c : Int) / 256 % 256), .int .u8 ((c : Int) / 65536 % 256), .int .u8 ((c : Int) / 16777216 % 256)] 4 (Nat.le_refl _) (by unfold maxLen; omega) rfl) rfl Tryd.underlying89 Tryd.underlying5 Tryd.underlying9
  clear ea
  go_enter Tryd.func58, Tryd.ntmps58
  go_wp2_with fail
  refine Calls.mono C.out ?_
  rintro e w1 ⟨rfl, rfl⟩
  go_wp2_with fail
  go_ret
  exact ⟨rfl, (Below.refl _ _).alloc (Nat.le_refl _) _⟩
end Go.Proofs.YtgdjfocnaapooaaDoor
namespace Go.Proofs.YtgdjfocnaapooaaDoor
open Go.RowKit
theorem val_mono (l : List UInt8) (k : Nat) : val (l.take k) ≤ val l := by
  by_cases h : k < l.length
  · induction hn : l.length - k generalizing k with
    | zero => omega
    | succ n ih =>
      have e := val_take l k h
      by_cases h2 : k + 1 < l.length
      · have := ih (k + 1) h2 (by omega); omega
      · have : l.take (k + 1) = l := List.take_of_length_le (by omega)
        rw [this] at e
        omega
  · rw [List.take_of_length_le (by omega)]; exact Nat.le_refl _
/-- the bytes of a number that stands in a text -/
def numB (s : ByteArray) (a w : Nat) : List UInt8 := (s.data.toList.drop a).take w
def numD (s : ByteArray) (a w : Nat) : Int := if val (numB s a w) > 9007199254740992 then -1 else (val (numB s a w) : Int)
theorem numB_len (s : ByteArray) (a w : Nat) (h : a + w ≤ s.size) : (numB s a w).length = w := by
  unfold numB; rw [List.length_take, List.length_drop, size_data]; omega
set_option maxHeartbeats 1000000 in
set_option maxRecDepth 100000 in
theorem number_any (s : ByteArray) (a wd : Nat) (h : a + wd ≤ s.size) (hs : a + wd ≤ 1000000000000) (w : World) :
    Calls Tryd.prog 59 #[.string s, .int .i64 (a : Int), .int .i64 (wd : Int)] w fun e w' => e = .returned (.int .i64 (numD s a wd)) ∧ w = w' := by
  have hl := numB_len s a wd h
  go_enter Tryd.func59, Tryd.ntmps59
  go_wp2
  go_loopw [7, 8] (fun n i wr => ∃ k : Nat, k ≤ wd ∧ i = .int .i64 (k : Int) ∧ n = .int .i64 (val ((numB s a wd).take k) : Int) ∧ val ((numB s a wd).take k) ≤ 9007199254740992 ∧ w = wr) (fun _ i _ => wd - (intOf i).toNat)
  case atStart => exact ⟨0, by omega, rfl, rfl, by rw [List.take_zero, val_nil]; omega, rfl⟩
  case round =>
    obtain ⟨k, hk, rfl, rfl, hle, rfl⟩ := hrel
    by_cases hlt : k < wd
    · have hkl : k < (numB s a wd).length := by omega
      have hx : ∀ w', (Instr.index 9 (.string s) (.int .i64 ((a : Int) + (k : Int)))).run Tryd.prog w' = .ok (.int .u8 ((numB s a wd)[k].toNat : Int)) w' := fun w' => by
        have e := ix_str w' s (a + k) (by omega)
        have eb : (numB s a wd)[k] = s[a + k]'(by omega) := by
          have e1 : (numB s a wd)[k]? = some (s[a + k]'(by omega)) := by
            unfold numB
            rw [List.getElem?_take_of_lt hlt, List.getElem?_drop, List.getElem?_eq_getElem (by rw [size_data]; omega)]; rfl
          rw [List.getElem?_eq_getElem hkl] at e1
          exact Option.some.inj e1
        rw [eb, show (a : Int) + (k : Int) = ((a + k : Nat) : Int) by omega]
        exact e
      have hX : (numB s a wd)[k].toNat < 256 := UInt8.toNat_lt _
      have hv := val_take (numB s a wd) k hkl
      have hmono := val_mono (numB s a wd) (k + 1)
      have HD : Hid (val ((numB s a wd).take (k + 1)) > 9007199254740992 → numD s a wd = -1) := fun hg => by
        unfold numD; rw [if_pos (by omega)]
      generalize (numB s a wd)[k].toNat = X at *
      obtain ⟨V1, hV1⟩ : ∃ V1, V1 = val ((numB s a wd).take (k + 1)) := ⟨_, rfl⟩
      have HE := hide hV1
      rw [← hV1] at hv hmono HD
      clear hV1
      generalize val ((numB s a wd).take k) = V0 at *
      have hmul : 256 * (V0 : Int) + (X : Int) = (V1 : Int) := by omega
      by_cases hg : V1 > 9007199254740992
      · have hgi : (9007199254740992 : Int) < (V1 : Int) := by omega
        have ED := hide (HD.out hg)
        clear hv
        go_wp2
        go_ret
        exact ⟨by rw [ED.out]; rfl, rfl⟩
      · have hgi : ¬ (9007199254740992 : Int) < (V1 : Int) := by omega
        clear hv
        go_wp2
        go_roundw
        case rel => exact ⟨k + 1, by omega, by go_num, by rw [← HE.out], by rw [← HE.out]; omega, trivial⟩
        case measure => simp [intOf]; omega
    · obtain rfl : k = wd := by omega
      rw [List.take_of_length_le (by omega)] at hle ⊢
      have ED : Hid (numD s a k = (val (numB s a k) : Int)) := if_neg (by omega)
      go_wp2
      go_ret
      exact ⟨by rw [ED.out]; rfl, rfl⟩
def longD (s : ByteArray) (a w : Nat) : Int := if a + w > s.size then 0 else numD s a w
theorem longD_in (s : ByteArray) (a w : Nat) (h : w ≤ 4) : ∃ N : Nat, longD s a w = (N : Int) ∧ N < 4294967296 := by
  unfold longD
  split
  · exact ⟨0, rfl, by omega⟩
  · have hl := numB_len s a w (by omega)
    have hv := val_lt (numB s a w)
    rw [hl] at hv
    have h4 : val (numB s a w) < 4294967296 := Nat.lt_of_lt_of_le hv (Nat.le_trans (Nat.pow_le_pow_right (by omega) h) (by decide))
    unfold numD
    rw [if_neg (by omega)]
    exact ⟨_, rfl, h4⟩
set_option maxHeartbeats 1000000 in
set_option maxRecDepth 100000 in
theorem long_any (s : ByteArray) (a wd : Nat) (ha : a ≤ 1000000000000) (hw : wd ≤ 8) (hs : s.size ≤ 1000000) (w : World) :
    Calls Tryd.prog 79 #[.string s, .int .i64 (a : Int), .int .i64 (wd : Int)] w fun e w' => e = .returned (.int .i64 (longD s a wd)) ∧ w = w' := by
  unfold longD
  split
  · have hgt : (s.size : Int) < (a : Int) + (wd : Int) := by omega
    go_enter Tryd.func79, Tryd.ntmps79
    go_wp2
    go_ret
    exact ⟨rfl, rfl⟩
  · have hgt : ¬ (s.size : Int) < (a : Int) + (wd : Int) := by omega
    have C := hide (number_any s a wd (by omega) (by omega) w)
    generalize numD s a wd = N at *
    go_enter Tryd.func79, Tryd.ntmps79
    go_wp2_with fail
    refine Calls.mono C.out ?_
    rintro e wx ⟨rfl, rfl⟩
    go_wp2_with fail
    go_ret
    exact ⟨rfl, rfl⟩
/-- a piece of a text, as far as it goes -/
def pieceS (s : ByteArray) (a n : Nat) : ByteArray := s.extract (min a s.size) (min a s.size + min n (s.size - min a s.size))
set_option maxHeartbeats 2000000 in
set_option maxRecDepth 100000 in
theorem piece_any (s : ByteArray) (a n : Nat) (hn : n ≤ 1000000000000) (hs : s.size ≤ 1000000) (w : World) :
    Calls Tryd.prog 80 #[.string s, .int .i64 (a : Int), .int .i64 (n : Int)] w fun e w' => e = .returned (.string (pieceS s a n)) ∧ w = w' := by
  by_cases h1 : s.size < a
  · have e : pieceS s a n = ByteArray.empty := by
      refine ByteArray.ext (Array.eq_empty_of_size_eq_zero ?_)
      show (pieceS s a n).size = 0
      unfold pieceS
      rw [ByteArray.size_extract]
      omega
    rw [e]
    have g1 : (s.size : Int) < (a : Int) := by omega
    by_cases h2 : 0 < n
    · have g2 : (0 : Int) < (n : Int) := by omega
      go_enter Tryd.func80, Tryd.ntmps80
      go_wp2
      go_ret
      exact ⟨rfl, rfl⟩
    · obtain rfl : n = 0 := by omega
      go_enter Tryd.func80, Tryd.ntmps80
      go_wp2
      go_ret
      exact ⟨rfl, rfl⟩
  · have g1 : ¬ (s.size : Int) < (a : Int) := by omega
    by_cases h2 : s.size - a < n
    · have e : pieceS s a n = s.extract a s.size := by unfold pieceS; rw [show min a s.size = a by omega, show a + min n (s.size - a) = s.size by omega]
      rw [e]
      have g2 : (s.size : Int) - (a : Int) < (n : Int) := by omega
      have g3 : (a : Int) + ((s.size : Int) - (a : Int)) = (s.size : Int) := by omega
      go_enter Tryd.func80, Tryd.ntmps80
      go_wp2
      go_ret
      exact ⟨rfl, rfl⟩
    · have e : pieceS s a n = s.extract a (a + n) := by unfold pieceS; rw [show min a s.size = a by omega, show a + min n (s.size - a) = a + n by omega]
      rw [e]
      have g2 : ¬ (s.size : Int) - (a : Int) < (n : Int) := by omega
      have g4 : ¬ (s.size : Int) < (a : Int) + (n : Int) := by omega
      have g5 : ¬ (a : Int) + (n : Int) < (a : Int) := by omega
      go_enter Tryd.func80, Tryd.ntmps80
      go_wp2
      go_ret
      exact ⟨rfl, rfl⟩
end Go.Proofs.YtgdjfocnaapooaaDoor
namespace Go.Proofs.YtgdjfocnaapooaaDoor
open Go.RowKit
theorem bodyL_of {m : MM} {k : Nat} (hF : FitAll m k) : bodyL m = (bodyF k).flatMap (fldL m) := by unfold bodyL; rw [hF.1]; rfl
theorem knd_enc {m : MM} {k : Nat} (h1 : 1 ≤ k) (h16 : k ≤ 16) (hF : FitAll m k) : kndF (encS m) = k := by
  unfold kndF
  rw [enc_parts m k h1 h16 hF.1 hF.fit]
  show (UInt8.ofNat k).toNat = k
  rw [UInt8.toNat_ofNat']
  omega
/-- a field of the body stands where those ahead of it end -/
theorem at_field {m : MM} {k : Nat} (h1 : 1 ≤ k) (h16 : k ≤ 16) (hF : FitAll m k) (q : Nat) (hq : q < (bodyF k).length) :
    ∃ R, (encS m).data.toList.drop (20 + (((bodyF k).take q).flatMap (fldL m)).length) = fldL m (bodyF k)[q] ++ R := by
  have hp := enc_parts m k h1 h16 hF.1 hF.fit
  have hh := head_len m
  have eB : bodyL m = ((bodyF k).take q).flatMap (fldL m) ++ (fldL m (bodyF k)[q] ++ ((bodyF k).drop (q + 1)).flatMap (fldL m)) := by
    rw [bodyL_of hF]
    conv => lhs; rw [← List.take_append_drop q (bodyF k), List.drop_eq_getElem_cons hq]
    rw [List.flatMap_append, List.flatMap_cons]
  refine ⟨((bodyF k).drop (q + 1)).flatMap (fldL m) ++ le4 (crcN 0 (textL m)), ?_⟩
  obtain ⟨LB, hLB⟩ : ∃ LB, LB = (bodyL m).length := ⟨_, rfl⟩
  rw [← hLB] at hp
  have e : (encS m).data.toList = ([71, 82, 1, UInt8.ofNat k] ++ headF.flatMap (fldL m) ++ dig 4 LB ++ ((bodyF k).take q).flatMap (fldL m)) ++ (fldL m (bodyF k)[q] ++ (((bodyF k).drop (q + 1)).flatMap (fldL m) ++ le4 (crcN 0 (textL m)))) := by
    rw [hp, eB]
    simp only [List.append_assoc]
  rw [e, List.drop_left' (by simp only [List.length_append, hh, dig_len, List.length_cons, List.length_nil])]
/-- a number that stands at a place -/
theorem num_here {s : ByteArray} {a : Nat} {m : MM} {k i : Nat} {R : List UInt8} (hi : i < 10) (hf : fitAt m k i = true) (ht : isTx i = false) (h : s.data.toList.drop a = fldL m i ++ R) : a + widF i ≤ s.size ∧ numD s a (widF i) = m.num i := by
  have h0 := (fit_at hf).1
  obtain ⟨N, hN⟩ : ∃ N : Nat, m.num i = (N : Int) := ⟨_, (Int.toNat_of_nonneg h0).symm⟩
  have e : fldL m i = dig (widF i) N := by unfold fldL; rw [ht, hN]; rfl
  have hm := mostK_le k i
  have hM := mostF_le i hi
  have hw := widF_most i hi
  unfold fitAt at hf
  simp only [Bool.and_eq_true, decide_eq_true_eq] at hf
  obtain ⟨⟨f1, f2⟩, f3⟩ := hf
  rw [hN] at f2
  rw [e] at h
  have hl := congrArg List.length h
  rw [List.length_drop, List.length_append, dig_len, size_data] at hl
  have hw1 : 1 ≤ widF i := by unfold widF; split <;> omega
  refine ⟨by omega, ?_⟩
  have hb : numB s a (widF i) = dig (widF i) N := by unfold numB; rw [h, List.take_left' (dig_len _ _)]
  unfold numD
  rw [hb, val_dig _ _ (by omega), if_neg (by omega), hN]
theorem long_here {s : ByteArray} {a : Nat} {m : MM} {k i : Nat} {R : List UInt8} (hi : i < 10) (hf : fitAt m k i = true) (ht : isTx i = false) (h : s.data.toList.drop a = fldL m i ++ R) : longD s a (widF i) = m.num i := by
  obtain ⟨h1, h2⟩ := num_here hi hf ht h
  unfold longD
  rw [if_neg (by omega), h2]
/-- a text that stands at a place -/
theorem txt_here {s : ByteArray} {a : Nat} {m : MM} {k i : Nat} {R : List UInt8} (hi : i < 10) (hf : fitAt m k i = true) (ht : isTx i = true) (h : s.data.toList.drop a = fldL m i ++ R) : longD s a (widF i) = ((m.txt i).size : Int) ∧ pieceS s (a + widF i) (m.txt i).size = m.txt i := by
  have e : fldL m i = dig (widF i) (m.txt i).size ++ (m.txt i).data.toList := by unfold fldL; rw [ht]; rfl
  have f2 := (fit_txt hi hf).2
  have hM := mostF_le i hi
  have hw := widF_most i hi
  rw [e, List.append_assoc] at h
  generalize m.txt i = t at *
  have hl := congrArg List.length h
  rw [List.length_drop, List.length_append, List.length_append, dig_len, size_data, size_data] at hl
  have hw1 : 1 ≤ widF i := by unfold widF; split <;> omega
  have hb : numB s a (widF i) = dig (widF i) t.size := by unfold numB; rw [h, List.take_left' (dig_len _ _)]
  refine ⟨?_, ?_⟩
  · unfold longD
    rw [if_neg (by omega)]
    unfold numD
    rw [hb, val_dig _ _ (by omega), if_neg (by omega)]
  · unfold pieceS
    rw [show min (a + widF i) s.size = a + widF i by omega, show min t.size (s.size - (a + widF i)) = t.size by omega]
    rw [← strOf_toList (s.extract (a + widF i) (a + widF i + t.size)), slice_str, ← List.drop_drop, h, List.drop_left' (dig_len _ _), show a + widF i + t.size - (a + widF i) = t.size by omega, List.take_left' (size_data t), strOf_toList]
theorem putAll_snoc (m : MM) (i : Nat) : ∀ (l : List Nat) (a : MM), putAll m (l ++ [i]) a = (putAll m l a).put i (m.num i) (m.txt i) := by
  intro l
  induction l with
  | nil => intro a; rfl
  | cons j l ih => intro a; rw [List.cons_append, putAll, putAll, ih]
theorem put_num_any (m : MM) (i : Nat) (ht : isTx i = false) (n : Int) (t u : ByteArray) : m.put i n t = m.put i n u := by
  unfold isTx at ht
  unfold MM.put
  split <;> first | rfl | simp at ht
theorem put_txt_any (m : MM) (i : Nat) (ht : isTx i = true) (n o : Int) (t : ByteArray) : m.put i n t = m.put i o t := by
  unfold isTx at ht
  split at ht <;> first | rfl | simp at ht
theorem putAll_whole (m : MM) (k : Nat) (h16 : k ≤ 16) (hF : FitAll m k) : putAll m (bodyF k) (putAll m headF (mm0 k)) = m := by
  have hk := hF.1
  have hfa := hF.2
  have hlt := bodyF_lt k h16
  refine MM.ext10 (by rw [putAll_kind, putAll_kind, hk]; rfl) fun j hj => ?_
  obtain ⟨a1, a2⟩ := putAll_at m (bodyF k) (putAll m headF (mm0 k)) (fun i hi => (hlt i hi).2) j hj
  obtain ⟨b1, b2⟩ := putAll_at m headF (mm0 k) (fun i hi => by have := headF_lt i hi; omega) j hj
  rw [a1, a2, b1, b2]
  by_cases c1 : j ∈ bodyF k
  · rw [if_pos c1, if_pos c1]; exact ⟨rfl, rfl⟩
  · rw [if_neg c1, if_neg c1]
    by_cases c2 : j ∈ headF
    · rw [if_pos c2, if_pos c2]; exact ⟨rfl, rfl⟩
    · rw [if_neg c2, if_neg c2]
      have hfj := hfa j hj
      have h3 : ¬ j < 3 := fun x => c2 (by have : j = 0 ∨ j = 1 ∨ j = 2 := by omega
                                           rcases this with rfl | rfl | rfl <;> decide)
      have hz : mostK k j = 0 := by unfold mostK; rw [if_neg (by rintro (x | x); exact h3 x; exact c1 x)]
      unfold fitAt at hfj
      simp only [Bool.and_eq_true, decide_eq_true_eq, hz] at hfj
      have z1 : m.num j = 0 := by omega
      have z2 : m.txt j = ⟨#[]⟩ := ByteArray.ext (Array.eq_empty_of_size_eq_zero (by show (m.txt j).size = 0; omega))
      rw [z1, z2]
      rcases ten_cases hj with rfl | rfl | rfl | rfl | rfl | rfl | rfl | rfl | rfl | rfl <;> exact ⟨rfl, rfl⟩
/-- the head's three numbers -/
theorem head_here {m : MM} {k : Nat} (h1 : 1 ≤ k) (h16 : k ≤ 16) (hF : FitAll m k) : numD (encS m) 4 2 = m.n0 ∧ numD (encS m) 6 2 = m.n1 ∧ numD (encS m) 8 8 = m.n2 := by
  have hp := enc_parts m k h1 h16 hF.1 hF.fit
  have e0 : (fldL m 0).length = 2 := dig_len _ _
  have e1 : (fldL m 1).length = 2 := dig_len _ _
  have hf3 : headF.flatMap (fldL m) = fldL m 0 ++ (fldL m 1 ++ (fldL m 2 ++ [])) := rfl
  rw [hf3] at hp
  simp only [List.append_assoc, List.nil_append] at hp
  generalize dig 4 (bodyL m).length ++ (bodyL m ++ le4 (crcN 0 (textL m))) = R at hp
  refine ⟨?_, ?_, ?_⟩
  · exact (num_here (i := 0) (R := fldL m 1 ++ (fldL m 2 ++ R)) (by omega) (hF.2 0 (by omega)) rfl (show (encS m).data.toList.drop 4 = _ by rw [hp, List.drop_left' (show ([71, 82, 1, UInt8.ofNat k] : List UInt8).length = 4 from rfl)])).2
  · refine (num_here (i := 1) (R := fldL m 2 ++ R) (by omega) (hF.2 1 (by omega)) rfl (show (encS m).data.toList.drop 6 = _ by
      rw [hp, ← List.append_assoc, List.drop_left' (by rw [List.length_append, e0]; rfl)])).2
  · refine (num_here (i := 2) (R := R) (by omega) (hF.2 2 (by omega)) rfl (show (encS m).data.toList.drop 8 = _ by
      rw [hp, ← List.append_assoc, ← List.append_assoc, List.drop_left' (by rw [List.length_append, List.length_append, e0, e1]; rfl)])).2
/-- what is read is so far the message, if the text is its frame -/
def SoFar (s : ByteArray) (k q a : Nat) (m1 : MM) : Prop := ∀ m, FitAll m k → encS m = s → a = 20 + (((bodyF k).take q).flatMap (fldL m)).length ∧ m1 = putAll m ((bodyF k).take q) (putAll m headF (mm0 k))
theorem SoFar.start (s : ByteArray) (k : Nat) (h1 : 1 ≤ k) (h16 : k ≤ 16) : SoFar s k 0 20 ⟨(k : Int), numD s 4 2, numD s 6 2, numD s 8 8, 0, 0, 0, 0, 0, ⟨#[]⟩, ⟨#[]⟩⟩ := by
  intro m hF e
  refine ⟨rfl, ?_⟩
  obtain ⟨a, b, c⟩ := head_here h1 h16 hF
  rw [← e, a, b, c]
  rfl
theorem take_next (k q : Nat) (hq : q < (bodyF k).length) : (bodyF k).take (q + 1) = (bodyF k).take q ++ [(bodyF k)[q]] := List.take_succ_eq_append_getElem hq
theorem SoFar.num {s : ByteArray} {k q a : Nat} {m1 : MM} (h1 : 1 ≤ k) (h16 : k ≤ 16) (h : SoFar s k q a m1) (hq : q < (bodyF k).length) (i : Nat) (hi : (bodyF k)[q] = i) (ht : isTx i = false) (t : ByteArray) : SoFar s k (q + 1) (a + widF i) (m1.put i (longD s a (widF i)) t) := by
  intro m hF e
  obtain ⟨ha, hm⟩ := h m hF e
  have hlt := (bodyF_lt k h16 _ (List.getElem_mem hq)).2
  rw [hi] at hlt
  obtain ⟨R, hR⟩ := at_field h1 h16 hF q hq
  rw [hi, ← ha, e] at hR
  have hn := long_here hlt (hF.2 i hlt) ht hR
  rw [take_next k q hq, hi]
  refine ⟨?_, ?_⟩
  · rw [List.flatMap_append, List.length_append, ha]
    have : ([i].flatMap (fldL m)).length = widF i := by
      rw [List.flatMap_cons, List.flatMap_nil, List.append_nil]; unfold fldL; rw [ht]; exact dig_len _ _
    omega
  · rw [putAll_snoc, ← hm, hn]
    exact put_num_any _ _ ht _ _ _
theorem SoFar.txt {s : ByteArray} {k q a : Nat} {m1 : MM} (h1 : 1 ≤ k) (h16 : k ≤ 16) (h : SoFar s k q a m1) (hq : q < (bodyF k).length) (i : Nat) (hi : (bodyF k)[q] = i) (ht : isTx i = true) (N : Nat) (hN : longD s a (widF i) = (N : Int)) (n : Int) : SoFar s k (q + 1) (a + (widF i + N)) (m1.put i n (pieceS s (a + widF i) N)) := by
  intro m hF e
  obtain ⟨ha, hm⟩ := h m hF e
  have hlt := (bodyF_lt k h16 _ (List.getElem_mem hq)).2
  rw [hi] at hlt
  obtain ⟨R, hR⟩ := at_field h1 h16 hF q hq
  rw [hi, ← ha, e] at hR
  obtain ⟨t1, t2⟩ := txt_here hlt (hF.2 i hlt) ht hR
  have hNs : N = (m.txt i).size := by rw [hN] at t1; omega
  rw [take_next k q hq, hi]
  refine ⟨?_, ?_⟩
  · rw [List.flatMap_append, List.length_append, ha]
    have : ([i].flatMap (fldL m)).length = widF i + (m.txt i).size := by
      rw [List.flatMap_cons, List.flatMap_nil, List.append_nil]; unfold fldL; rw [ht, if_pos rfl, List.length_append, dig_len, size_data]
    omega
  · rw [putAll_snoc, ← hm, hNs, t2]
    exact put_txt_any _ _ ht _ _ _
theorem SoFar.done {s : ByteArray} {k q a : Nat} {m1 : MM} (h16 : k ≤ 16) (h : SoFar s k q a m1) (hq : (bodyF k).length ≤ q) : ∀ m, FitAll m k → encS m = s → m1 = m := by
  intro m hF e
  obtain ⟨_, hm⟩ := h m hF e
  rw [List.take_of_length_le hq] at hm
  rw [hm]
  exact putAll_whole m k h16 hF
end Go.Proofs.YtgdjfocnaapooaaDoor
