import Derived.Test.YthlpklkdpggmkaaDoorGFdDec2
import Derived.Test.YthlpklkdpggmkaaDoorGFeWrite
namespace Go.Proofs.YthlpklkdpggmkaaDoor
open Go.RowKit
theorem wpList_buildMsg {w : World} {ops : Array Oper} {rest : List Oper} {o : Oper} {a : Act} {Q : Exit → Act → World → Prop} (hgd : o.guard = none) (parts : Array (Nat × Operand)) (ho : o.op = .build 26 parts) (m : MM) (hb : Tryd.prog.built 26 (parts.map fun (i, x) => (i, a.eval x)).toList = some (msgV m))
    (h : wpList Tryd.prog ops Q rest (a.put o.dst (.agg (msgV m))) w) : wpList Tryd.prog ops Q (o :: rest) a w := by
  refine wpList_plain hgd fun K hK => ?_
  unfold Oper.wp execOp
  simp only [ho, Sem.run_bind, Sem.run_pure]
  have := run_build w 26 _ (msgV m) hb
  rw [this]
  exact hK _ _ h
theorem msg_at (m : MM) (w : World) (Q : Nat) (h : w.heap[Q]? = some (.cells (msgV m) 26)) (i : Nat) : w.cell? ⟨Q, i, none⟩ = (msgV m)[i]? := by
  unfold World.cell?; rw [h]; rfl
def pong : MM := ⟨2, 2, 64, 77, 0, 0, 0, 0, 0, ⟨#[]⟩, ⟨#[]⟩⟩
theorem pong_fit : fitM pong = true := by decide +kernel
set_option maxHeartbeats 8000000 in
set_option maxRecDepth 100000 in
/-- the law FrameCanon -/
theorem frameCanon_any (s : ByteArray) (w : World) (hT : TabF w) (h6 : 6 ≤ w.heap.size) (hT4 : Tab4 5 w) :
    Calls Tryd.prog 3 #[.string s] w fun e w' => e = .returned (.bool true) ∧ Below w.heap.size w w' := by
  have KT : Hid (∀ w', Below w.heap.size w w' → TabF w' ∧ 6 ≤ w'.heap.size ∧ Tab4 5 w') := fun w' hb => ⟨hT.below hb, Nat.le_trans h6 hb.size, fun j hj => (hb.cell (World.block_lt_of_cell? w _ (hT4 j hj))).trans (hT4 j hj)⟩
  have P := encode_any pong w hT h6 hT4
  rw [encE_ok (by decide) pong_fit] at P
  have P := hide P
  obtain ⟨d1, d2⟩ := dec_fwd pong 2 (by omega) (by omega) rfl pong_fit
  have DP : Hid (∀ w', Below w.heap.size w w' → Calls Tryd.prog 9 #[.string (encS pong)] w' fun e w'' => e = .returned (.tuple #[.agg (msgV pong), .int .i64 0]) ∧ Below w'.heap.size w' w'') := fun w' hb => by
    have e := decode_any (encS pong) w' (KT.out _ hb).1 (KT.out _ hb).2.2
    unfold decV at e
    rw [d1, d2] at e
    exact e
  clear d1 d2 hT h6 hT4
  generalize encS pong = PS at *
  go_enter Tryd.func3, Tryd.ntmps3
  go_wp2_with (refine wpList_buildMsg rfl _ rfl pong (by kernel_rfl) ?_)
  refine Calls.mono P.out ?_
  rintro e w1 ⟨rfl, b1⟩
  have B1 := hide b1
  clear b1 P
  have D1 := hide (DP.out _ B1.out)
  go_wp2_with fail
  refine Calls.mono D1.out ?_
  rintro e w2 ⟨rfl, b2⟩
  have B2 := hide (B1.out.trans (b2.mono B1.out.size))
  clear b2 D1 DP
  obtain ⟨WX, hWX⟩ : ∃ WX, WX = (w2.alloc (.cells #[.int .i64 0, .int .i64 0, .int .i64 0, .int .i64 0, .int .i64 0, .int .i64 0, .int .i64 0, .int .i64 0, .int .i64 0, .string ⟨#[]⟩, .string ⟨#[]⟩] 26)).setRow w2.heap.size (msgV pong) := ⟨_, rfl⟩
  have BX := hide (below_row (B2.out.alloc B2.out.size (.cells #[.int .i64 0, .int .i64 0, .int .i64 0, .int .i64 0, .int .i64 0, .int .i64 0, .int .i64 0, .int .i64 0, .int .i64 0, .string ⟨#[]⟩, .string ⟨#[]⟩] 26)) B2.out.size (msgV pong))
  rw [← hWX] at BX
  have hX : WX.heap[w2.heap.size]? = some (.cells (msgV pong) 26) := by rw [hWX]; exact setRow_heap _ _ _ _ _ _ (heap_last _ _)
  have hx3 : WX.cell? ⟨w2.heap.size, 3, none⟩ = some (.int .i64 77) := msg_at pong WX _ hX 3
  clear hX
  go_upto_region 3 with (refine wpList_storeMsg rfl (.tmp 5) (.tmp 19) rfl w2.heap.size rfl pong (mm0 0) rfl (heap_last _ _) ?_)
  rw [← hWX]
  clear hWX
  have D2 := hide (decode_any s WX (KT.out _ BX.out).1 (KT.out _ BX.out).2.2)
  unfold decV at D2
  go_wp2_with (go_at_call 10; refine Calls.mono (num5_any _ _) ?_; rintro e wn ⟨rfl, rfl⟩)
  clear hx3
  rcases decE_cases s with ⟨hE, m, hm⟩ | ⟨hE1, hE2, hm⟩
  · rw [hE, hm] at D2
    dsimp only [Option.getD_some] at D2
    obtain ⟨hk, hf, he⟩ := dec_back hm
    clear hE hm
    refine Calls.mono D2.out ?_
    rintro e w3 ⟨rfl, b3⟩
    have B3 := hide (BX.out.trans (b3.mono BX.out.size))
    clear b3 D2
    obtain ⟨WY, hWY⟩ : ∃ WY, WY = (w3.alloc (.cells #[.int .i64 0, .int .i64 0, .int .i64 0, .int .i64 0, .int .i64 0, .int .i64 0, .int .i64 0, .int .i64 0, .int .i64 0, .string ⟨#[]⟩, .string ⟨#[]⟩] 26)).setRow w3.heap.size (msgV m) := ⟨_, rfl⟩
    have BY := hide (below_row (B3.out.alloc B3.out.size (.cells #[.int .i64 0, .int .i64 0, .int .i64 0, .int .i64 0, .int .i64 0, .int .i64 0, .int .i64 0, .int .i64 0, .int .i64 0, .string ⟨#[]⟩, .string ⟨#[]⟩] 26)) B3.out.size (msgV m))
    rw [← hWY] at BY
    have hY : WY.heap[w3.heap.size]? = some (.cells (msgV m) 26) := by rw [hWY]; exact setRow_heap _ _ _ _ _ _ (heap_last _ _)
    go_upto_region 6 with (refine wpList_storeMsg rfl (.tmp 7) (.tmp 37) rfl w3.heap.size rfl m (mm0 0) rfl (heap_last _ _) ?_)
    rw [← hWY]
    clear hWY
    have EN := encode_any m WY (KT.out _ BY.out).1 (KT.out _ BY.out).2.1 (KT.out _ BY.out).2.2
    rw [encE_ok hk hf, he] at EN
    have EN := hide EN
    clear hk hf he KT
    go_wp2_with (first | (refine wpList_loadMsg rfl (.tmp 7) rfl m w3.heap.size rfl hY ?_) | (go_at_call 10; refine Calls.mono (num5_any _ _) ?_; rintro e wn ⟨rfl, rfl⟩))
    refine Calls.mono EN.out ?_
    rintro e w4 ⟨rfl, b4⟩
    have B4 := hide (BY.out.trans (b4.mono BY.out.size))
    clear b4 EN hY
    have hss : (s.toList == s.toList) = true := by rw [eq_beq]; exact decide_eq_true rfl
    go_wp2_with (go_at_call 10; refine Calls.mono (num5_any _ _) ?_; rintro e wn ⟨rfl, rfl⟩)
    go_ret
    exact ⟨rfl, B4.out⟩
  · rw [hm] at D2
    dsimp only [Option.getD_none] at D2
    clear hm
    generalize decE s = E at *
    refine Calls.mono D2.out ?_
    rintro e w3 ⟨rfl, b3⟩
    have B3 := hide (BX.out.trans (b3.mono BX.out.size))
    clear b3 D2
    obtain ⟨WY, hWY⟩ : ∃ WY, WY = (w3.alloc (.cells #[.int .i64 0, .int .i64 0, .int .i64 0, .int .i64 0, .int .i64 0, .int .i64 0, .int .i64 0, .int .i64 0, .int .i64 0, .string ⟨#[]⟩, .string ⟨#[]⟩] 26)).setRow w3.heap.size (msgV (mm0 0)) := ⟨_, rfl⟩
    have BY := hide (below_row (B3.out.alloc B3.out.size (.cells #[.int .i64 0, .int .i64 0, .int .i64 0, .int .i64 0, .int .i64 0, .int .i64 0, .int .i64 0, .int .i64 0, .int .i64 0, .string ⟨#[]⟩, .string ⟨#[]⟩] 26)) B3.out.size (msgV (mm0 0)))
    rw [← hWY] at BY
    have hY : WY.heap[w3.heap.size]? = some (.cells (msgV (mm0 0)) 26) := by rw [hWY]; exact setRow_heap _ _ _ _ _ _ (heap_last _ _)
    go_upto_region 6 with (refine wpList_storeMsg rfl (.tmp 7) (.tmp 37) rfl w3.heap.size rfl (mm0 0) (mm0 0) rfl (heap_last _ _) ?_)
    rw [← hWY]
    clear hWY
    have hE0 : (E == 0) = false := by simp; omega
    clear KT
    go_wp2_with (first | (refine wpList_loadMsg rfl (.tmp 7) rfl (mm0 0) w3.heap.size rfl hY ?_) | (refine wpList_build0 rfl rfl ?_) | (refine wpList_eqMsg rfl (.tmp 55) (.tmp 56) _ rfl (mm0 0) (mm0 0) rfl rfl ?_; rw [sameM_self]) | (go_at_call 10; refine Calls.mono (num5_any _ _) ?_; rintro e wn ⟨rfl, rfl⟩))
    go_ret
    exact ⟨rfl, BY.out⟩
end Go.Proofs.YthlpklkdpggmkaaDoor
