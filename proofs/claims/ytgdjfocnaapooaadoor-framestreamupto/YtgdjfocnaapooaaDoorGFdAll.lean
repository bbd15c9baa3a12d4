import Derived.Test.YtgdjfocnaapooaaDoorGFdPure
import Derived.Shelf.LaysM
import Derived.Shelf.Strconv.Clone
import Derived.Test.YtgdjfocnaapooaaDoorProg
namespace Go.Proofs.YtgdjfocnaapooaaDoor
open Go.RowKit
/-- the three fields that every kind has: all twelve bytes -/
theorem rdHead (k : Nat) (s : ByteArray) (h : s.size = 12) : ∃ m r, rdL headF (mm0 k) s = some (m, r) ∧ r.size = 0 := by
  have h0 : rdF 0 s = some (wrap64 (val (s.data.toList.take 2) : Int), ⟨#[]⟩, s.extract 2 s.size) := by
    unfold rdF; rw [if_neg (by show ¬ s.size < 2; omega), if_pos (show isTx 0 = false from rfl)]; rfl
  have z1 : (s.extract 2 s.size).size = 10 := by simp; omega
  have h1 : rdF 1 (s.extract 2 s.size) = some (wrap64 (val ((s.extract 2 s.size).data.toList.take 2) : Int), ⟨#[]⟩, (s.extract 2 s.size).extract 2 (s.extract 2 s.size).size) := by
    unfold rdF; rw [if_neg (by rw [z1]; decide), if_pos (show isTx 1 = false from rfl)]; rfl
  have z2 : ((s.extract 2 s.size).extract 2 (s.extract 2 s.size).size).size = 8 := by rw [ByteArray.size_extract, z1]; rfl
  have h2 : rdF 2 ((s.extract 2 s.size).extract 2 (s.extract 2 s.size).size) = some (wrap64 (val (((s.extract 2 s.size).extract 2 (s.extract 2 s.size).size).data.toList.take 8) : Int), ⟨#[]⟩, ((s.extract 2 s.size).extract 2 (s.extract 2 s.size).size).extract 8 ((s.extract 2 s.size).extract 2 (s.extract 2 s.size).size).size) := by
    unfold rdF; rw [if_neg (by rw [z2]; decide), if_pos (show isTx 2 = false from rfl)]; rfl
  refine ⟨_, _, by unfold headF; rw [rdL_some h0, rdL_some h1, rdL_some h2]; rfl, ?_⟩
  rw [ByteArray.size_extract, z2]; rfl
theorem headF_drop (q : Nat) (h : q < 3) : headF.drop q = q :: headF.drop (q + 1) := by
  have : q = 0 ∨ q = 1 ∨ q = 2 := by omega
  rcases this with rfl | rfl | rfl <;> rfl
theorem below_row {B g : Nat} {w0 w : World} (hb : Below B w0 w) (hBg : B ≤ g) (cs : Array Value) : Below B w0 (w.setRow g cs) :=
  hb.trans ⟨rfl, rfl, rfl, by simp [World.setRow], fun k hk => setRow_other w g k cs (by omega)⟩
/-- what read answers, behind the head -/
def rdV2 (o : Option (MM × ByteArray)) : Value := match o with
  | none => .tuple #[.agg (cellsV (mm0 0)), .bool false]
  | some (m, r) => .tuple #[.agg (cellsV m), .bool r.toList.isEmpty]
set_option maxHeartbeats 4000000 in
set_option maxRecDepth 100000 in
theorem read_any (k : Nat) (h1 : 1 ≤ k) (h16 : k ≤ 16) (head body : ByteArray) (mh : MM) (hr : ByteArray) (hh : rdL headF (mm0 k) head = some (mh, hr)) (w : World) (hT : TabF w) :
    Calls Tryd.prog 68 #[.int .i64 (k : Int), .string head, .string body] w fun e w' => e = .returned (rdV2 (rdL (bodyF k) mh body)) ∧ Below w.heap.size w w' := by
  obtain ⟨W0, hW0⟩ : ∃ W0, W0 = (w.alloc (.cells #[.int .i64 0, .string ⟨#[]⟩, .int .i64 0, .string ⟨#[]⟩, .int .i64 0, .string ⟨#[]⟩, .int .i64 0, .string ⟨#[]⟩, .int .i64 0, .string ⟨#[]⟩, .int .i64 0, .string ⟨#[]⟩, .int .i64 0, .string ⟨#[]⟩, .int .i64 0, .string ⟨#[]⟩, .int .i64 0, .string ⟨#[]⟩, .int .i64 0, .string ⟨#[]⟩] 72)).alloc (.cells #[.int .i64 0, .string ⟨#[]⟩, .int .i64 0, .string ⟨#[]⟩, .int .i64 0, .string ⟨#[]⟩, .int .i64 0, .string ⟨#[]⟩, .int .i64 0, .string ⟨#[]⟩, .int .i64 0, .string ⟨#[]⟩, .int .i64 0, .string ⟨#[]⟩, .int .i64 0, .string ⟨#[]⟩, .int .i64 0, .string ⟨#[]⟩, .int .i64 0, .string ⟨#[]⟩] 72) := ⟨_, rfl⟩
  have b0 : Below w.heap.size w W0 := by rw [hW0]; exact ((Below.refl _ w).alloc (Nat.le_refl _) _).alloc (by simp) _
  have s0 : W0.heap.size = w.heap.size + 2 := by rw [hW0]; simp
  have hR0 : W0.heap[w.heap.size]? = some (.cells (cellsV (mm0 k)) 72) := by
    rw [hW0, Below.heap_alloc _ _ _ (by simp)]
    exact heap_last w _
  have hA0 : W0.heap[w.heap.size + 1]? = some (.cells (cellsV (mm0 k)) 72) := by
    have e := heap_last (w.alloc (.cells (cellsV (mm0 k)) 72)) (.cells (cellsV (mm0 k)) 72)
    rw [show (w.alloc (.cells (cellsV (mm0 k)) 72)).heap.size = w.heap.size + 1 by simp] at e
    rw [hW0]
    exact e
  have HT : Hid (∀ w', Below (w.heap.size + 1) W0 w' → TabF w' ∧ w'.heap[w.heap.size]? = some (.cells (cellsV (mm0 k)) 72) ∧ Below w.heap.size w w') := fun w' hb => by
    have hb' : Below w.heap.size w w' := b0.trans (hb.mono (by omega))
    exact ⟨hT.below hb', (hb.block _ (by omega)).trans hR0, hb'⟩
  have hkk : (k : Int) < 17 := by omega
  obtain ⟨ao, bb, bo, bcap, c1, c2, c3⟩ := hT.body k h1 h16
  have BD : Hid (∀ w', Below w.heap.size w w' → w'.cell? ⟨3, k, none⟩ = some (.slice ao (bodyF k).length bcap) ∧ ∀ j (h : j < (bodyF k).length), w'.cell? ⟨bb, bo + j, none⟩ = some (.int .i64 ((bodyF k)[j] : Int))) := fun w' hb =>
    ⟨(hb.cell (World.block_lt_of_cell? w _ c1)).trans c1, fun j hj => (hb.cell (World.block_lt_of_cell? w _ (c3 j hj))).trans (c3 j hj)⟩
  have AO := hide c2
  have hlt := bodyF_lt k h16
  have hln := bodyF_len k h16
  obtain ⟨z0, z1, z2⟩ : W0.cell? ⟨1, 0, none⟩ = some (.int .i64 0) ∧ W0.cell? ⟨1, 1, none⟩ = some (.int .i64 1) ∧ W0.cell? ⟨1, 2, none⟩ = some (.int .i64 2) := ⟨(hT.below b0).heads 0 (by omega), (hT.below b0).heads 1 (by omega), (hT.below b0).heads 2 (by omega)⟩
  have HH := hide hh
  have HA0 := hide hA0
  clear hR0 hA0 b0 c1 c2 c3 hT hh
  go_enter Tryd.func68, Tryd.ntmps68
  go_upto_region 2 with fail
  rw [← hW0]
  clear hW0
  go_wp2_with fail
  clear z0 z1 z2
  go_loopw [1, 10, 15] (fun hv _ i wr => ∃ (q : Nat) (hs : ByteArray) (m : MM), q ≤ 3 ∧ i = .int .i64 (q : Int) ∧ hv = .string hs ∧ rdL (headF.drop q) m hs = some (mh, hr) ∧ wr.heap[w.heap.size + 1]? = some (.cells (cellsV m) 72) ∧ Below (w.heap.size + 1) W0 wr) (fun _ _ i _ => 3 - (intOf i).toNat)
  case atStart => exact ⟨0, head, mm0 k, by omega, rfl, rfl, HH.out, HA0.out, Below.refl _ _⟩
  case round =>
    obtain ⟨q, hs, m, hq3, rfl, rfl, hrd, hA, hB⟩ := hrel
    by_cases hq : q < 3
    case pos =>
      have hxa : ∀ w', (Instr.index 101 (.agg #[.int .i64 0, .int .i64 1, .int .i64 2]) (.int .i64 (q : Int))).run Tryd.prog w' = .ok (.int .i64 (q : Int)) w' := fun w' => ix_heads q hq w'
      have hqi : (q : Int) < 3 := by omega
      have hq10 : (q : Int) < 10 := by omega
      have FR := hide (fldRead_any q (by omega) hs wr (HT.out _ hB).1)
      rw [headF_drop q hq] at hrd
      cases hrf : rdF q hs with
      | none => rw [rdL_none hrf] at hrd; exact absurd hrd (by simp)
      | some x =>
        obtain ⟨n, t, r⟩ := x
        rw [rdL_some hrf] at hrd
        rw [hrf] at FR
        unfold rdVF at FR
        obtain ⟨k1, k2⟩ := rdF_kind hrf
        have sz := hB.size
        have hAl : w.heap.size + 1 < wr.heap.size := by omega
        have KA : Hid (∀ w2, Below wr.heap.size wr w2 → w2.heap[w.heap.size + 1]? = some (.cells (cellsV m) 72) ∧ Below (w.heap.size + 1) W0 w2) := fun w2 b2 => ⟨(b2.block _ hAl).trans hA, hB.trans (b2.mono (by omega))⟩
        have HR := hide hrd
        have K12 := hide (And.intro k1 k2)
        clear hA hB hrd k1 k2 hrf HH HA0
        go_wp2_with fail
        refine Calls.mono FR.out ?_
        rintro x w2 ⟨rfl, b2⟩
        obtain ⟨hA2, hB2⟩ := KA.out _ b2
        obtain ⟨a1, a2, a3, a4⟩ := cells_at m w2 _ hA2 q (by omega)
        have PC := hide (put_cells m q (by omega) n t K12.out.1 K12.out.2 w2 _ hA2)
        have B2 := hide hB2
        clear hA2 hB2 KA b2 FR
        go_wp2_with fail
        go_roundw
        case rel => exact ⟨q + 1, r, m.put q n t, by omega, by go_num, rfl, HR.out, PC.out, (B2.out.setCell (Nat.le_refl _) _).setCell (Nat.le_refl _) _⟩
        case measure => simp [intOf]; omega
    case neg =>
      have hq3' : q = 3 := by omega
      have hqn : ¬ (q : Int) < 3 := by omega
      rw [hq3'] at hrd
      clear hq3'
      have hm : m = mh := by
        have : rdL [] m hs = some (mh, hr) := hrd
        simp only [rdL, Option.some.injEq, Prod.mk.injEq] at this
        exact this.1
      subst hm
      obtain ⟨RB, hRB⟩ : ∃ RB, RB = rdL (bodyF k) m body := ⟨_, rfl⟩
      have HRB := hide hRB
      have d1 := (BD.out _ (HT.out _ hB).2.2).1
      have HB1 := hide hB
      have HA1 := hide hA
      clear hrd HH HA0 hA hB hRB
      go_wp2_with fail
      clear d1
      go_loopw [2, 12, 13, 32] (fun bv _ _ i wr => ∃ (q : Nat) (bs : ByteArray) (m1 : MM), q ≤ (bodyF k).length ∧ i = .int .i64 (q : Int) ∧ bv = .string bs ∧ rdL ((bodyF k).drop q) m1 bs = RB ∧ wr.heap[w.heap.size + 1]? = some (.cells (cellsV m1) 72) ∧ Below (w.heap.size + 1) W0 wr) (fun _ _ _ i _ => (bodyF k).length - (intOf i).toNat)
      case atStart => exact ⟨0, body, m, by omega, rfl, rfl, by rw [List.drop_zero]; exact HRB.out.symm, HA1.out, HB1.out⟩
      case round =>
        clear HA1 HB1
        clear hqn hq hq3
        obtain ⟨q, bs, m1, hq, rfl, rfl, hrd, hA, hB⟩ := hrel
        by_cases hql : q < (bodyF k).length
        case pos =>
          obtain rfl := AO.out (by omega)
          have d2 := (BD.out _ (HT.out _ hB).2.2).2 q hql
          have hqi : (q : Int) < ((bodyF k).length : Int) := by omega
          have hfi := hlt _ (List.getElem_mem hql)
          rw [List.drop_eq_getElem_cons hql] at hrd
          generalize (bodyF k)[q] = fi at *
          have hfx : (fi : Int) < 10 := by omega
          have FR := hide (fldRead_any fi (by omega) bs wr (HT.out _ hB).1)
          have sz := hB.size
          have hAl : w.heap.size + 1 < wr.heap.size := by omega
          have KA : Hid (∀ w2, Below wr.heap.size wr w2 → w2.heap[w.heap.size + 1]? = some (.cells (cellsV m1) 72) ∧ Below (w.heap.size + 1) W0 w2) := fun w2 b2 => ⟨(b2.block _ hAl).trans hA, hB.trans (b2.mono (by omega))⟩
          cases hrf : rdF fi bs with
          | none =>
            rw [rdL_none hrf] at hrd
            rw [hrf] at FR
            unfold rdVF at FR
            have EN : Hid (rdV2 (rdL (bodyF k) m body) = .tuple #[.agg (cellsV (mm0 0)), .bool false]) := by
              show rdV2 (rdL (bodyF k) m body) = _
              rw [← HRB.out, ← hrd]; rfl
            clear hA hB hrd hrf HRB
            go_wp2_with fail
            refine Calls.mono FR.out ?_
            rintro x w2 ⟨rfl, b2⟩
            obtain ⟨hA2, hB2⟩ := KA.out _ b2
            obtain ⟨a1, a2, a3, a4⟩ := cells_at m1 w2 _ hA2 fi (by omega)
            have B2 := hide hB2
            clear hA2 hB2 KA b2 FR
            have B3 : Hid (Below (w.heap.size + 1) W0 ((w2.setCell ⟨w.heap.size + 1, fi * 2, none⟩ (.int .i64 0)).setCell ⟨w.heap.size + 1, fi * 2 + 1, none⟩ (.string ⟨#[]⟩))) := (B2.out.setCell (Nat.le_refl _) _).setCell (Nat.le_refl _) _
            go_upto_region 13 with fail
            clear a1 a2 a3 a4
            generalize (w2.setCell ⟨w.heap.size + 1, fi * 2, none⟩ (.int .i64 0)).setCell ⟨w.heap.size + 1, fi * 2 + 1, none⟩ (.string ⟨#[]⟩) = WX at *
            obtain ⟨_, hR, hBw⟩ := HT.out _ B3.out
            have HB3 := hide hBw
            clear hBw
            go_wp2_with (first | (refine wpList_buildNone rfl rfl 0 ?_) | (refine wpList_storeAll rfl (.tmp 6) (.tmp 47) rfl w.heap.size rfl (mm0 0) (mm0 k) rfl hR ?_))
            refine bodyPost_ret (v := .tuple #[.agg (cellsV (mm0 0)), .bool false]) (res_all2 Tryd.results68 _ (mm0 0) _ w.heap.size rfl _ rfl (setRow_heap _ _ _ _ _ _ hR)) rfl ⟨?_, ?_⟩
            · rw [EN.out]
            · exact below_row HB3.out (Nat.le_refl _) _
          | some x =>
            obtain ⟨n, t, r⟩ := x
            rw [rdL_some hrf] at hrd
            rw [hrf] at FR
            unfold rdVF at FR
            obtain ⟨k1, k2⟩ := rdF_kind hrf
            have HR := hide hrd
            have K12 := hide (And.intro k1 k2)
            clear hA hB hrd k1 k2 hrf
            go_wp2_with fail
            refine Calls.mono FR.out ?_
            rintro x w2 ⟨rfl, b2⟩
            obtain ⟨hA2, hB2⟩ := KA.out _ b2
            obtain ⟨a1, a2, a3, a4⟩ := cells_at m1 w2 _ hA2 fi (by omega)
            have PC := hide (put_cells m1 fi (by omega) n t K12.out.1 K12.out.2 w2 _ hA2)
            have B2 := hide hB2
            clear hA2 hB2 KA b2 FR
            go_wp2_with fail
            go_roundw
            case rel => exact ⟨q + 1, r, m1.put fi n t, by omega, by go_num, rfl, HR.out, PC.out, (B2.out.setCell (Nat.le_refl _) _).setCell (Nat.le_refl _) _⟩
            case measure => simp [intOf]; omega
        case neg =>
          obtain rfl : q = (bodyF k).length := by omega
          rw [List.drop_length] at hrd
          have EN : Hid (rdV2 (rdL (bodyF k) m body) = .tuple #[.agg (cellsV m1), .bool bs.toList.isEmpty]) := by
            show rdV2 (rdL (bodyF k) m body) = _
            rw [← HRB.out, ← hrd]; rfl
          obtain ⟨_, hR, hBw⟩ := HT.out _ hB
          have HB2 := hide hBw
          clear hrd HRB
          go_wp2_with (first | (refine wpList_loadAll rfl (.tmp 8) rfl m1 (w.heap.size + 1) rfl hA _ rfl ?_) | (refine wpList_storeAll rfl (.tmp 6) (.tmp 49) rfl w.heap.size rfl m1 (mm0 k) rfl hR ?_))
          refine bodyPost_ret (v := .tuple #[.agg (cellsV m1), .bool bs.toList.isEmpty]) (res_all2 Tryd.results68 _ m1 _ w.heap.size rfl _ rfl (setRow_heap _ _ _ _ _ _ hR)) rfl ⟨?_, ?_⟩
          · rw [EN.out]
          · exact below_row HB2.out (Nat.le_refl _) _
end Go.Proofs.YtgdjfocnaapooaaDoor
namespace Go.Proofs
open Go.Shelf
def Tryd.laysM316_ren : Go.Shelf.Ren := ⟨fun | 316 => 54 | n => n, fun | 9 => 9 | 3 => 3 | 4 => 4 | 37 => 89 | 0 => 0 | 127 => 130 | 5 => 5 | n => n, fun | n => n⟩
theorem Tryd.laysM316 : Go.Proofs.LaysM.n316 Tryd.prog Tryd.laysM316_ren := {
  mixed := by kernel_rfl
  f316 := Tryd.func54.trans (congrArg some (by kernel_rfl))
  t0 := Tryd.underlying0
  a0 := Tryd.isAgg0
  z0 := Tryd.sizeOf0
  v0 := Tryd.zeroValue0
  t3 := Tryd.underlying3
  a3 := Tryd.isAgg3
  z3 := Tryd.sizeOf3
  v3 := Tryd.zeroValue3
  t4 := Tryd.underlying4
  a4 := Tryd.isAgg4
  z4 := Tryd.sizeOf4
  v4 := Tryd.zeroValue4
  t9 := Tryd.underlying9
  a9 := Tryd.isAgg9
  z9 := Tryd.sizeOf9
  v9 := Tryd.zeroValue9
  t37 := Tryd.underlying89
  a37 := Tryd.isAgg89
  z37 := Tryd.sizeOf89
  v37 := Tryd.zeroValue89
  t127 := Tryd.underlying130
  a127 := Tryd.isAgg130
  z127 := Tryd.sizeOf130
  v127 := Tryd.zeroValue130
  t5 := Tryd.underlying5
  a5 := Tryd.isAgg5
  z5 := Tryd.sizeOf5
  v5 := Tryd.zeroValue5
  i0 := by kernel_rfl
  i3 := by kernel_rfl
  i4 := by kernel_rfl
  i5 := by kernel_rfl
  i9 := by kernel_rfl
  i37 := by kernel_rfl
  i127 := by kernel_rfl }
open Go.RowKit in
theorem Tryd.stringslite_Clone (s : ByteArray) (w : World) (hlim : s.size ≤ 281474976710656) :
    Calls Tryd.prog 54 #[.string s] w fun e w' => e = .returned (.string s) ∧ Below w.heap.size w w' := Any.stringslite_Clone Tryd.laysM316 s w hlim
end Go.Proofs
namespace Go.Proofs.YtgdjfocnaapooaaDoor
open Go.RowKit
set_option maxHeartbeats 2000000 in
set_option maxRecDepth 100000 in
theorem clone_any (s : ByteArray) (hs : s.size ≤ 281474976710656) (w : World) :
    Calls Tryd.prog 31 #[.string s] w fun e w' => e = .returned (.string s) ∧ Below w.heap.size w w' := by
  have C := hide (Tryd.stringslite_Clone s w hs)
  go_enter Tryd.func31, Tryd.ntmps31
  go_wp2_with fail
  refine Calls.mono C.out ?_
  rintro e wx ⟨rfl, bx⟩
  go_wp2_with fail
  go_ret
  exact ⟨rfl, bx⟩
theorem msg_one (m : MM) : (msgV m).all (·.oneCell') = true := by simp [msgV, Value.oneCell']
theorem run_storeMsg (m m0 : MM) (w : World) (b : Nat) (h : w.heap[b]? = some (.cells (msgV m0) 27)) : (Instr.storeAt 27 (.pointer (some ⟨b, 0, none⟩)) (.agg (msgV m))).run Tryd.prog w = .ok () (w.setRow b (msgV m)) := by
  simp only [Instr.storeAt, Instr.sureAddr, Sem.run_bind, Sem.run_pure, Result.andThen]
  exact run_storeVar_row w b 27 27 (msgV m0) (msgV m) h msg_info rfl (msg_one m)
theorem built_msg (m : MM) : Tryd.prog.built 27 [(0, .int .i64 m.kind), (1, .int .i64 m.n0), (2, .int .i64 m.n1), (3, .int .i64 m.n2), (4, .int .i64 m.n3), (5, .int .i64 m.n4), (6, .int .i64 m.n5), (7, .int .i64 m.n6), (8, .int .i64 m.n7), (9, .string m.key), (10, .string m.val)] = some (msgV m) := by kernel_rfl
theorem built_msg0 : Tryd.prog.built 27 [] = some (msgV (mm0 0)) := by kernel_rfl
theorem res_msgv (m : MM) (w : World) (b : Nat) (h : w.heap[b]? = some (.cells (msgV m) 27)) : (loadVar 27 ⟨b, 0, none⟩).run Tryd.prog w = .ok (.agg (msgV m)) w :=
  run_loadVar_row _ _ 27 27 (msgV m) (0, 0) _ h Tryd.underlying27 rfl msg_info
theorem res_msg1 {fn : Func} {p : Tmp} (h : fn.results = #[.cell p 27]) (tmps : Array Value) (m : MM) (w : World) (b : Nat) (ht : tmps.getD p undef = .pointer (some ⟨b, 0, none⟩)) (hO : w.heap[b]? = some (.cells (msgV m) 27)) : (results fn tmps).run Tryd.prog w = .ok (.agg (msgV m)) w := by
  have hl := res_msgv m w b hO
  have ht' : tmps[p]?.getD undef = .pointer (some ⟨b, 0, none⟩) := by simpa using ht
  unfold results
  rw [h]
  simp [ht', asAddr, hl]
theorem res_msg2 {fn : Func} {p q : Tmp} (h : fn.results = #[.cell p 27, .tmp q]) (tmps : Array Value) (m : MM) (w : World) (b : Nat) (ht : tmps.getD p undef = .pointer (some ⟨b, 0, none⟩)) (v : Value) (hv : tmps.getD q undef = v) (hO : w.heap[b]? = some (.cells (msgV m) 27)) : (results fn tmps).run Tryd.prog w = .ok (.tuple #[.agg (msgV m), v]) w := by
  have hl := res_msgv m w b hO
  have ht' : tmps[p]?.getD undef = .pointer (some ⟨b, 0, none⟩) := by simpa using ht
  have hv' : tmps[q]?.getD undef = v := by simpa using hv
  unfold results
  rw [h]
  simp [ht', hv', asAddr, hl]
theorem cell_m0 (m : MM) (w : World) (Q : Nat) (h : w.heap[Q]? = some (.cells (cellsV m) 72)) : w.cell? ⟨Q, 0, none⟩ = some (.int .i64 m.n0) := (cells_at m w Q h 0 (by omega)).1
theorem cell_m1 (m : MM) (w : World) (Q : Nat) (h : w.heap[Q]? = some (.cells (cellsV m) 72)) : w.cell? ⟨Q, 2, none⟩ = some (.int .i64 m.n1) := (cells_at m w Q h 1 (by omega)).1
theorem cell_m2 (m : MM) (w : World) (Q : Nat) (h : w.heap[Q]? = some (.cells (cellsV m) 72)) : w.cell? ⟨Q, 4, none⟩ = some (.int .i64 m.n2) := (cells_at m w Q h 2 (by omega)).1
theorem cell_m3 (m : MM) (w : World) (Q : Nat) (h : w.heap[Q]? = some (.cells (cellsV m) 72)) : w.cell? ⟨Q, 6, none⟩ = some (.int .i64 m.n3) := (cells_at m w Q h 3 (by omega)).1
theorem cell_m4 (m : MM) (w : World) (Q : Nat) (h : w.heap[Q]? = some (.cells (cellsV m) 72)) : w.cell? ⟨Q, 8, none⟩ = some (.int .i64 m.n4) := (cells_at m w Q h 4 (by omega)).1
theorem cell_m5 (m : MM) (w : World) (Q : Nat) (h : w.heap[Q]? = some (.cells (cellsV m) 72)) : w.cell? ⟨Q, 10, none⟩ = some (.int .i64 m.n5) := (cells_at m w Q h 5 (by omega)).1
theorem cell_m6 (m : MM) (w : World) (Q : Nat) (h : w.heap[Q]? = some (.cells (cellsV m) 72)) : w.cell? ⟨Q, 12, none⟩ = some (.int .i64 m.n6) := (cells_at m w Q h 6 (by omega)).1
theorem cell_m7 (m : MM) (w : World) (Q : Nat) (h : w.heap[Q]? = some (.cells (cellsV m) 72)) : w.cell? ⟨Q, 14, none⟩ = some (.int .i64 m.n7) := (cells_at m w Q h 7 (by omega)).1
theorem cell_m8 (m : MM) (w : World) (Q : Nat) (h : w.heap[Q]? = some (.cells (cellsV m) 72)) : w.cell? ⟨Q, 17, none⟩ = some (.string m.key) := (cells_at m w Q h 8 (by omega)).2.1
theorem cell_m9 (m : MM) (w : World) (Q : Nat) (h : w.heap[Q]? = some (.cells (cellsV m) 72)) : w.cell? ⟨Q, 19, none⟩ = some (.string m.val) := (cells_at m w Q h 9 (by omega)).2.1
set_option maxHeartbeats 8000000 in
set_option maxRecDepth 100000 in
set_option linter.unusedSimpArgs false in
theorem message_any (m : MM) (hk8 : m.key.size ≤ 100000) (hv8 : m.val.size ≤ 100000) (w : World) :
    Calls Tryd.prog 69 #[.int .i64 m.kind, .agg (cellsV m)] w fun e w' => e = .returned (.agg (msgV m)) ∧ Below w.heap.size w w' := by
  obtain ⟨W0, hW0⟩ : ∃ W0, W0 = (w.alloc (.cells (cellsV m) 72)).alloc (.cells #[.int .i64 0, .int .i64 0, .int .i64 0, .int .i64 0, .int .i64 0, .int .i64 0, .int .i64 0, .int .i64 0, .int .i64 0, .string ⟨#[]⟩, .string ⟨#[]⟩] 27) := ⟨_, rfl⟩
  have b0 : Below w.heap.size w W0 := by rw [hW0]; exact ((Below.refl _ w).alloc (Nat.le_refl _) _).alloc (by simp) _
  have s0 : W0.heap.size = w.heap.size + 2 := by rw [hW0]; simp
  have hC0 : W0.heap[w.heap.size]? = some (.cells (cellsV m) 72) := by
    rw [hW0, Below.heap_alloc _ _ _ (by simp)]
    exact heap_last w _
  have hM0 : W0.heap[w.heap.size + 1]? = some (.cells (msgV (mm0 0)) 27) := by
    have e := heap_last (w.alloc (.cells (cellsV m) 72)) (.cells (msgV (mm0 0)) 27)
    rw [show (w.alloc (.cells (cellsV m) 72)).heap.size = w.heap.size + 1 by simp] at e
    rw [hW0]
    exact e
  have KC : Hid (∀ w', Below W0.heap.size W0 w' → w'.heap[w.heap.size]? = some (.cells (cellsV m) 72) ∧ w'.heap[w.heap.size + 1]? = some (.cells (msgV (mm0 0)) 27) ∧ Below w.heap.size w w') := fun w' hb => ⟨(hb.block _ (by omega)).trans hC0, (hb.block _ (by omega)).trans hM0, b0.trans (hb.mono (by omega))⟩
  have CK := hide (fun w' => clone_any m.key (by omega) w')
  have CV := hide (fun w' => clone_any m.val (by omega) w')
  go_enter Tryd.func69, Tryd.ntmps69
  go_upto_region 1 with fail
  rw [← hW0]
  clear hW0 hM0 b0
  refine wp_region_held_drew (S := fun x => x.heap[w.heap.size]? = some (.cells (cellsV m) 72)) (by kernel_rfl) hC0 (fun hHeld => ?_)
  refine wpAnyH_take (i := 0) (v := (.int .i64 m.kind)) rfl (by kernel_rfl) (by kernel_rfl) (by kernel_rfl) (fun _ _ _ h => h) (Or.inl ⟨by rfl, ?_⟩) (by assumption) ?_
  · intro w' hSw
    (try dsimp only at hSw)
    go_simp <;> first | exact i64_in (by omega) (by omega) | exact u32_in (by omega) (by omega) | exact u32_add _ _ | (rw [Int.tmod_eq_emod_of_nonneg (by omega)]; omega) | (rw [Int.tdiv_eq_ediv_of_nonneg (by omega)]; omega) | omega
  (try simp only [Act.put, List.setIfInBounds_toArray, List.set_cons_zero, List.set_cons_succ])
  refine wpAnyH_take (i := 1) (v := (.pointer (some ⟨w.heap.size, 0, none⟩))) rfl (by kernel_rfl) (by kernel_rfl) (by kernel_rfl) (fun _ _ _ h => h) (Or.inl ⟨by rfl, ?_⟩) (by assumption) ?_
  · intro w' hSw
    (try dsimp only at hSw)
    go_simp <;> first | exact i64_in (by omega) (by omega) | exact u32_in (by omega) (by omega) | exact u32_add _ _ | (rw [Int.tmod_eq_emod_of_nonneg (by omega)]; omega) | (rw [Int.tdiv_eq_ediv_of_nonneg (by omega)]; omega) | omega
  (try simp only [Act.put, List.setIfInBounds_toArray, List.set_cons_zero, List.set_cons_succ])
  refine wpAnyH_take (i := 2) (v := (.pointer (some ⟨w.heap.size, 0, none⟩))) rfl (by kernel_rfl) (by kernel_rfl) (by kernel_rfl) (fun _ _ _ h => h) (Or.inl ⟨by rfl, ?_⟩) (by assumption) ?_
  · intro w' hSw
    (try dsimp only at hSw)
    go_simp <;> first | exact i64_in (by omega) (by omega) | exact u32_in (by omega) (by omega) | exact u32_add _ _ | (rw [Int.tmod_eq_emod_of_nonneg (by omega)]; omega) | (rw [Int.tdiv_eq_ediv_of_nonneg (by omega)]; omega) | omega
  (try simp only [Act.put, List.setIfInBounds_toArray, List.set_cons_zero, List.set_cons_succ])
  refine wpAnyH_take (i := 3) (v := (.int .i64 m.n0)) rfl (by kernel_rfl) (by kernel_rfl) (by kernel_rfl) (fun _ _ _ h => h) (Or.inl ⟨by rfl, ?_⟩) (by assumption) ?_
  · intro w' hSw
    (try dsimp only at hSw)
    (have hc := cell_m0 m _ _ hSw; go_simp)
  (try simp only [Act.put, List.setIfInBounds_toArray, List.set_cons_zero, List.set_cons_succ])
  refine wpAnyH_take (i := 4) (v := (.pointer (some ⟨w.heap.size, 2, none⟩))) rfl (by kernel_rfl) (by kernel_rfl) (by kernel_rfl) (fun _ _ _ h => h) (Or.inl ⟨by rfl, ?_⟩) (by assumption) ?_
  · intro w' hSw
    (try dsimp only at hSw)
    go_simp <;> first | exact i64_in (by omega) (by omega) | exact u32_in (by omega) (by omega) | exact u32_add _ _ | (rw [Int.tmod_eq_emod_of_nonneg (by omega)]; omega) | (rw [Int.tdiv_eq_ediv_of_nonneg (by omega)]; omega) | omega
  (try simp only [Act.put, List.setIfInBounds_toArray, List.set_cons_zero, List.set_cons_succ])
  refine wpAnyH_take (i := 5) (v := (.pointer (some ⟨w.heap.size, 2, none⟩))) rfl (by kernel_rfl) (by kernel_rfl) (by kernel_rfl) (fun _ _ _ h => h) (Or.inl ⟨by rfl, ?_⟩) (by assumption) ?_
  · intro w' hSw
    (try dsimp only at hSw)
    go_simp <;> first | exact i64_in (by omega) (by omega) | exact u32_in (by omega) (by omega) | exact u32_add _ _ | (rw [Int.tmod_eq_emod_of_nonneg (by omega)]; omega) | (rw [Int.tdiv_eq_ediv_of_nonneg (by omega)]; omega) | omega
  (try simp only [Act.put, List.setIfInBounds_toArray, List.set_cons_zero, List.set_cons_succ])
  refine wpAnyH_take (i := 6) (v := (.int .i64 m.n1)) rfl (by kernel_rfl) (by kernel_rfl) (by kernel_rfl) (fun _ _ _ h => h) (Or.inl ⟨by rfl, ?_⟩) (by assumption) ?_
  · intro w' hSw
    (try dsimp only at hSw)
    (have hc := cell_m1 m _ _ hSw; go_simp)
  (try simp only [Act.put, List.setIfInBounds_toArray, List.set_cons_zero, List.set_cons_succ])
  refine wpAnyH_take (i := 7) (v := (.pointer (some ⟨w.heap.size, 4, none⟩))) rfl (by kernel_rfl) (by kernel_rfl) (by kernel_rfl) (fun _ _ _ h => h) (Or.inl ⟨by rfl, ?_⟩) (by assumption) ?_
  · intro w' hSw
    (try dsimp only at hSw)
    go_simp <;> first | exact i64_in (by omega) (by omega) | exact u32_in (by omega) (by omega) | exact u32_add _ _ | (rw [Int.tmod_eq_emod_of_nonneg (by omega)]; omega) | (rw [Int.tdiv_eq_ediv_of_nonneg (by omega)]; omega) | omega
  (try simp only [Act.put, List.setIfInBounds_toArray, List.set_cons_zero, List.set_cons_succ])
  refine wpAnyH_take (i := 8) (v := (.pointer (some ⟨w.heap.size, 4, none⟩))) rfl (by kernel_rfl) (by kernel_rfl) (by kernel_rfl) (fun _ _ _ h => h) (Or.inl ⟨by rfl, ?_⟩) (by assumption) ?_
  · intro w' hSw
    (try dsimp only at hSw)
    go_simp <;> first | exact i64_in (by omega) (by omega) | exact u32_in (by omega) (by omega) | exact u32_add _ _ | (rw [Int.tmod_eq_emod_of_nonneg (by omega)]; omega) | (rw [Int.tdiv_eq_ediv_of_nonneg (by omega)]; omega) | omega
  (try simp only [Act.put, List.setIfInBounds_toArray, List.set_cons_zero, List.set_cons_succ])
  refine wpAnyH_take (i := 9) (v := (.int .i64 m.n2)) rfl (by kernel_rfl) (by kernel_rfl) (by kernel_rfl) (fun _ _ _ h => h) (Or.inl ⟨by rfl, ?_⟩) (by assumption) ?_
  · intro w' hSw
    (try dsimp only at hSw)
    (have hc := cell_m2 m _ _ hSw; go_simp)
  (try simp only [Act.put, List.setIfInBounds_toArray, List.set_cons_zero, List.set_cons_succ])
  refine wpAnyH_take (i := 10) (v := (.pointer (some ⟨w.heap.size, 6, none⟩))) rfl (by kernel_rfl) (by kernel_rfl) (by kernel_rfl) (fun _ _ _ h => h) (Or.inl ⟨by rfl, ?_⟩) (by assumption) ?_
  · intro w' hSw
    (try dsimp only at hSw)
    go_simp <;> first | exact i64_in (by omega) (by omega) | exact u32_in (by omega) (by omega) | exact u32_add _ _ | (rw [Int.tmod_eq_emod_of_nonneg (by omega)]; omega) | (rw [Int.tdiv_eq_ediv_of_nonneg (by omega)]; omega) | omega
  (try simp only [Act.put, List.setIfInBounds_toArray, List.set_cons_zero, List.set_cons_succ])
  refine wpAnyH_take (i := 11) (v := (.pointer (some ⟨w.heap.size, 6, none⟩))) rfl (by kernel_rfl) (by kernel_rfl) (by kernel_rfl) (fun _ _ _ h => h) (Or.inl ⟨by rfl, ?_⟩) (by assumption) ?_
  · intro w' hSw
    (try dsimp only at hSw)
    go_simp <;> first | exact i64_in (by omega) (by omega) | exact u32_in (by omega) (by omega) | exact u32_add _ _ | (rw [Int.tmod_eq_emod_of_nonneg (by omega)]; omega) | (rw [Int.tdiv_eq_ediv_of_nonneg (by omega)]; omega) | omega
  (try simp only [Act.put, List.setIfInBounds_toArray, List.set_cons_zero, List.set_cons_succ])
  refine wpAnyH_take (i := 12) (v := (.int .i64 m.n3)) rfl (by kernel_rfl) (by kernel_rfl) (by kernel_rfl) (fun _ _ _ h => h) (Or.inl ⟨by rfl, ?_⟩) (by assumption) ?_
  · intro w' hSw
    (try dsimp only at hSw)
    (have hc := cell_m3 m _ _ hSw; go_simp)
  (try simp only [Act.put, List.setIfInBounds_toArray, List.set_cons_zero, List.set_cons_succ])
  refine wpAnyH_take (i := 13) (v := (.pointer (some ⟨w.heap.size, 8, none⟩))) rfl (by kernel_rfl) (by kernel_rfl) (by kernel_rfl) (fun _ _ _ h => h) (Or.inl ⟨by rfl, ?_⟩) (by assumption) ?_
  · intro w' hSw
    (try dsimp only at hSw)
    go_simp <;> first | exact i64_in (by omega) (by omega) | exact u32_in (by omega) (by omega) | exact u32_add _ _ | (rw [Int.tmod_eq_emod_of_nonneg (by omega)]; omega) | (rw [Int.tdiv_eq_ediv_of_nonneg (by omega)]; omega) | omega
  (try simp only [Act.put, List.setIfInBounds_toArray, List.set_cons_zero, List.set_cons_succ])
  refine wpAnyH_take (i := 14) (v := (.pointer (some ⟨w.heap.size, 8, none⟩))) rfl (by kernel_rfl) (by kernel_rfl) (by kernel_rfl) (fun _ _ _ h => h) (Or.inl ⟨by rfl, ?_⟩) (by assumption) ?_
  · intro w' hSw
    (try dsimp only at hSw)
    go_simp <;> first | exact i64_in (by omega) (by omega) | exact u32_in (by omega) (by omega) | exact u32_add _ _ | (rw [Int.tmod_eq_emod_of_nonneg (by omega)]; omega) | (rw [Int.tdiv_eq_ediv_of_nonneg (by omega)]; omega) | omega
  (try simp only [Act.put, List.setIfInBounds_toArray, List.set_cons_zero, List.set_cons_succ])
  refine wpAnyH_take (i := 15) (v := (.int .i64 m.n4)) rfl (by kernel_rfl) (by kernel_rfl) (by kernel_rfl) (fun _ _ _ h => h) (Or.inl ⟨by rfl, ?_⟩) (by assumption) ?_
  · intro w' hSw
    (try dsimp only at hSw)
    (have hc := cell_m4 m _ _ hSw; go_simp)
  (try simp only [Act.put, List.setIfInBounds_toArray, List.set_cons_zero, List.set_cons_succ])
  refine wpAnyH_take (i := 16) (v := (.pointer (some ⟨w.heap.size, 10, none⟩))) rfl (by kernel_rfl) (by kernel_rfl) (by kernel_rfl) (fun _ _ _ h => h) (Or.inl ⟨by rfl, ?_⟩) (by assumption) ?_
  · intro w' hSw
    (try dsimp only at hSw)
    go_simp <;> first | exact i64_in (by omega) (by omega) | exact u32_in (by omega) (by omega) | exact u32_add _ _ | (rw [Int.tmod_eq_emod_of_nonneg (by omega)]; omega) | (rw [Int.tdiv_eq_ediv_of_nonneg (by omega)]; omega) | omega
  (try simp only [Act.put, List.setIfInBounds_toArray, List.set_cons_zero, List.set_cons_succ])
  refine wpAnyH_take (i := 17) (v := (.pointer (some ⟨w.heap.size, 10, none⟩))) rfl (by kernel_rfl) (by kernel_rfl) (by kernel_rfl) (fun _ _ _ h => h) (Or.inl ⟨by rfl, ?_⟩) (by assumption) ?_
  · intro w' hSw
    (try dsimp only at hSw)
    go_simp <;> first | exact i64_in (by omega) (by omega) | exact u32_in (by omega) (by omega) | exact u32_add _ _ | (rw [Int.tmod_eq_emod_of_nonneg (by omega)]; omega) | (rw [Int.tdiv_eq_ediv_of_nonneg (by omega)]; omega) | omega
  (try simp only [Act.put, List.setIfInBounds_toArray, List.set_cons_zero, List.set_cons_succ])
  refine wpAnyH_take (i := 18) (v := (.int .i64 m.n5)) rfl (by kernel_rfl) (by kernel_rfl) (by kernel_rfl) (fun _ _ _ h => h) (Or.inl ⟨by rfl, ?_⟩) (by assumption) ?_
  · intro w' hSw
    (try dsimp only at hSw)
    (have hc := cell_m5 m _ _ hSw; go_simp)
  (try simp only [Act.put, List.setIfInBounds_toArray, List.set_cons_zero, List.set_cons_succ])
  refine wpAnyH_take (i := 19) (v := (.pointer (some ⟨w.heap.size, 12, none⟩))) rfl (by kernel_rfl) (by kernel_rfl) (by kernel_rfl) (fun _ _ _ h => h) (Or.inl ⟨by rfl, ?_⟩) (by assumption) ?_
  · intro w' hSw
    (try dsimp only at hSw)
    go_simp <;> first | exact i64_in (by omega) (by omega) | exact u32_in (by omega) (by omega) | exact u32_add _ _ | (rw [Int.tmod_eq_emod_of_nonneg (by omega)]; omega) | (rw [Int.tdiv_eq_ediv_of_nonneg (by omega)]; omega) | omega
  (try simp only [Act.put, List.setIfInBounds_toArray, List.set_cons_zero, List.set_cons_succ])
  refine wpAnyH_take (i := 20) (v := (.pointer (some ⟨w.heap.size, 12, none⟩))) rfl (by kernel_rfl) (by kernel_rfl) (by kernel_rfl) (fun _ _ _ h => h) (Or.inl ⟨by rfl, ?_⟩) (by assumption) ?_
  · intro w' hSw
    (try dsimp only at hSw)
    go_simp <;> first | exact i64_in (by omega) (by omega) | exact u32_in (by omega) (by omega) | exact u32_add _ _ | (rw [Int.tmod_eq_emod_of_nonneg (by omega)]; omega) | (rw [Int.tdiv_eq_ediv_of_nonneg (by omega)]; omega) | omega
  (try simp only [Act.put, List.setIfInBounds_toArray, List.set_cons_zero, List.set_cons_succ])
  refine wpAnyH_take (i := 21) (v := (.int .i64 m.n6)) rfl (by kernel_rfl) (by kernel_rfl) (by kernel_rfl) (fun _ _ _ h => h) (Or.inl ⟨by rfl, ?_⟩) (by assumption) ?_
  · intro w' hSw
    (try dsimp only at hSw)
    (have hc := cell_m6 m _ _ hSw; go_simp)
  (try simp only [Act.put, List.setIfInBounds_toArray, List.set_cons_zero, List.set_cons_succ])
  refine wpAnyH_take (i := 22) (v := (.pointer (some ⟨w.heap.size, 14, none⟩))) rfl (by kernel_rfl) (by kernel_rfl) (by kernel_rfl) (fun _ _ _ h => h) (Or.inl ⟨by rfl, ?_⟩) (by assumption) ?_
  · intro w' hSw
    (try dsimp only at hSw)
    go_simp <;> first | exact i64_in (by omega) (by omega) | exact u32_in (by omega) (by omega) | exact u32_add _ _ | (rw [Int.tmod_eq_emod_of_nonneg (by omega)]; omega) | (rw [Int.tdiv_eq_ediv_of_nonneg (by omega)]; omega) | omega
  (try simp only [Act.put, List.setIfInBounds_toArray, List.set_cons_zero, List.set_cons_succ])
  refine wpAnyH_take (i := 23) (v := (.pointer (some ⟨w.heap.size, 14, none⟩))) rfl (by kernel_rfl) (by kernel_rfl) (by kernel_rfl) (fun _ _ _ h => h) (Or.inl ⟨by rfl, ?_⟩) (by assumption) ?_
  · intro w' hSw
    (try dsimp only at hSw)
    go_simp <;> first | exact i64_in (by omega) (by omega) | exact u32_in (by omega) (by omega) | exact u32_add _ _ | (rw [Int.tmod_eq_emod_of_nonneg (by omega)]; omega) | (rw [Int.tdiv_eq_ediv_of_nonneg (by omega)]; omega) | omega
  (try simp only [Act.put, List.setIfInBounds_toArray, List.set_cons_zero, List.set_cons_succ])
  refine wpAnyH_take (i := 24) (v := (.int .i64 m.n7)) rfl (by kernel_rfl) (by kernel_rfl) (by kernel_rfl) (fun _ _ _ h => h) (Or.inl ⟨by rfl, ?_⟩) (by assumption) ?_
  · intro w' hSw
    (try dsimp only at hSw)
    (have hc := cell_m7 m _ _ hSw; go_simp)
  (try simp only [Act.put, List.setIfInBounds_toArray, List.set_cons_zero, List.set_cons_succ])
  refine wpAnyH_take (i := 25) (v := (.pointer (some ⟨w.heap.size, 16, none⟩))) rfl (by kernel_rfl) (by kernel_rfl) (by kernel_rfl) (fun _ _ _ h => h) (Or.inl ⟨by rfl, ?_⟩) (by assumption) ?_
  · intro w' hSw
    (try dsimp only at hSw)
    go_simp <;> first | exact i64_in (by omega) (by omega) | exact u32_in (by omega) (by omega) | exact u32_add _ _ | (rw [Int.tmod_eq_emod_of_nonneg (by omega)]; omega) | (rw [Int.tdiv_eq_ediv_of_nonneg (by omega)]; omega) | omega
  (try simp only [Act.put, List.setIfInBounds_toArray, List.set_cons_zero, List.set_cons_succ])
  refine wpAnyH_take (i := 26) (v := (.pointer (some ⟨w.heap.size, 17, none⟩))) rfl (by kernel_rfl) (by kernel_rfl) (by kernel_rfl) (fun _ _ _ h => h) (Or.inl ⟨by rfl, ?_⟩) (by assumption) ?_
  · intro w' hSw
    (try dsimp only at hSw)
    go_simp <;> first | exact i64_in (by omega) (by omega) | exact u32_in (by omega) (by omega) | exact u32_add _ _ | (rw [Int.tmod_eq_emod_of_nonneg (by omega)]; omega) | (rw [Int.tdiv_eq_ediv_of_nonneg (by omega)]; omega) | omega
  (try simp only [Act.put, List.setIfInBounds_toArray, List.set_cons_zero, List.set_cons_succ])
  refine wpAnyH_take (i := 27) (v := (.string m.key)) rfl (by kernel_rfl) (by kernel_rfl) (by kernel_rfl) (fun _ _ _ h => h) (Or.inl ⟨by rfl, ?_⟩) (by assumption) ?_
  · intro w' hSw
    (try dsimp only at hSw)
    (have hc := cell_m8 m _ _ hSw; go_simp)
  (try simp only [Act.put, List.setIfInBounds_toArray, List.set_cons_zero, List.set_cons_succ])
  refine wpAnyH_take (i := 29) (v := (.pointer (some ⟨w.heap.size, 18, none⟩))) rfl (by kernel_rfl) (by kernel_rfl) (by kernel_rfl) (fun _ _ _ h => h) (Or.inl ⟨by rfl, ?_⟩) (by assumption) ?_
  · intro w' hSw
    (try dsimp only at hSw)
    go_simp <;> first | exact i64_in (by omega) (by omega) | exact u32_in (by omega) (by omega) | exact u32_add _ _ | (rw [Int.tmod_eq_emod_of_nonneg (by omega)]; omega) | (rw [Int.tdiv_eq_ediv_of_nonneg (by omega)]; omega) | omega
  (try simp only [Act.put, List.setIfInBounds_toArray, List.set_cons_zero, List.set_cons_succ])
  refine wpAnyH_take (i := 30) (v := (.pointer (some ⟨w.heap.size, 19, none⟩))) rfl (by kernel_rfl) (by kernel_rfl) (by kernel_rfl) (fun _ _ _ h => h) (Or.inl ⟨by rfl, ?_⟩) (by assumption) ?_
  · intro w' hSw
    (try dsimp only at hSw)
    go_simp <;> first | exact i64_in (by omega) (by omega) | exact u32_in (by omega) (by omega) | exact u32_add _ _ | (rw [Int.tmod_eq_emod_of_nonneg (by omega)]; omega) | (rw [Int.tdiv_eq_ediv_of_nonneg (by omega)]; omega) | omega
  (try simp only [Act.put, List.setIfInBounds_toArray, List.set_cons_zero, List.set_cons_succ])
  refine wpAnyH_take (i := 31) (v := (.string m.val)) rfl (by kernel_rfl) (by kernel_rfl) (by kernel_rfl) (fun _ _ _ h => h) (Or.inl ⟨by rfl, ?_⟩) (by assumption) ?_
  · intro w' hSw
    (try dsimp only at hSw)
    (have hc := cell_m9 m _ _ hSw; go_simp)
  (try simp only [Act.put, List.setIfInBounds_toArray, List.set_cons_zero, List.set_cons_succ])
  refine wpAnyH_ready (rs := [28]) (by kernel_rfl) (by simp) ?_
  refine AllReadyH.cons rfl (fun K hK => ?_) AllReadyH.nil
  go_simp
  refine Calls.mono (CK.out _) ?_
  rintro x w1 ⟨rfl, b1⟩
  have B1 := hide (((Below.refl _ W0).drew).trans b1)
  refine hK.out _ _ ((KC.out _ B1.out).1) (fun hHeld => ?_)
  clear hK
  (try simp only [Act.put, List.setIfInBounds_toArray, List.set_cons_zero, List.set_cons_succ])
  refine wpAnyH_ready (rs := [32]) (by kernel_rfl) (by simp) ?_
  refine AllReadyH.cons rfl (fun K hK => ?_) AllReadyH.nil
  go_simp
  refine Calls.mono (CV.out _) ?_
  rintro x w2 ⟨rfl, b2⟩
  have B2 := hide (B1.out.trans (b2.mono B1.out.size))
  refine hK.out _ _ ((KC.out _ B2.out).1) (fun hHeld => ?_)
  clear hK
  (try simp only [Act.put, List.setIfInBounds_toArray, List.set_cons_zero, List.set_cons_succ])
  refine wpAnyH_ready (rs := [33]) (by kernel_rfl) (by simp) ?_
  refine AllReadyH.cons rfl (fun K hK => ?_) AllReadyH.nil
  go_simp
  refine hK.out _ _ ((KC.out _ B2.out).1) (fun hHeld => ?_)
  clear hK
  (try simp only [Act.put, List.setIfInBounds_toArray, List.set_cons_zero, List.set_cons_succ])
  refine wpAnyH_ready (rs := [34]) (by kernel_rfl) (by simp) ?_
  refine AllReadyH.cons rfl (fun K hK => ?_) AllReadyH.nil
  rw [if_pos (by kernel_rfl)]
  refine wp_store_row 27 (.tmp 4) (.tmp 38) rfl (w.heap.size + 1) (msgV m) rfl rfl 27 (msgV (mm0 0)) (KC.out _ B2.out).2.1 msg_info rfl (msg_one m) ?_
  refine hK.out _ _ (((setRow_other w2 _ _ _ (by omega)).trans (KC.out _ B2.out).1)) (fun hHeld => ?_)
  clear hK
  (try simp only [Act.put, List.setIfInBounds_toArray, List.set_cons_zero, List.set_cons_succ])
  refine wpAnyH_done (by kernel_rfl) ?_ _
  clear hHeld
  go_wp2_with fail
  refine bodyPost_ret (v := .agg (msgV m)) (res_msg1 Tryd.results69 _ m _ (w.heap.size + 1) (by simp) (setRow_heap _ _ _ _ _ _ (KC.out _ B2.out).2.1)) rfl ⟨rfl, ?_⟩
  exact below_row (KC.out _ B2.out).2.2 (by omega) _
end Go.Proofs.YtgdjfocnaapooaaDoor
namespace Go.Proofs.YtgdjfocnaapooaaDoor
open Go.RowKit
/-- what Decode reads -/
def rdAll (s : ByteArray) : Option (MM × ByteArray) := match rdL headF (mm0 (kndF s)) (s.extract 4 16) with
  | none => none
  | some (mh, _) => rdL (bodyF (kndF s)) mh (s.extract 20 (s.size - 4))
def okAll (o : Option (MM × ByteArray)) : Option MM := match o with
  | none => none
  | some (m, r) => if r.toList.isEmpty = true ∧ fitM m = true then some m else none
def decM (s : ByteArray) : Option MM := if chkE s = 0 then okAll (rdAll s) else none
def decE (s : ByteArray) : Int := if chkE s = 0 then (if (okAll (rdAll s)).isSome then 0 else 56) else chkE s
def decV (s : ByteArray) : Value := .tuple #[.agg (msgV ((decM s).getD (mm0 0))), .int .i64 (decE s)]
theorem wpList_build0 {w : World} {ops : Array Oper} {rest : List Oper} {o : Oper} {a : Act} {Q : Exit → Act → World → Prop} (hgd : o.guard = none) (ho : o.op = .build 27 #[])
    (h : wpList Tryd.prog ops Q rest (a.put o.dst (.agg (msgV (mm0 0)))) w) : wpList Tryd.prog ops Q (o :: rest) a w := by
  refine wpList_plain hgd fun K hK => ?_
  unfold Oper.wp execOp
  simp only [ho, List.map_toArray, List.map_nil, Sem.run_bind, Sem.run_pure, Result.andThen_ok, run_build w 27 _ (msgV (mm0 0)) built_msg0]
  exact hK _ _ h
theorem wpList_storeMsg {w : World} {ops : Array Oper} {rest : List Oper} {o : Oper} {a : Act} {Q : Exit → Act → World → Prop} (hgd : o.guard = none) (p x : Operand) (ho : o.op = .store 27 p x) (b : Nat) (hp : a.eval p = .pointer (some ⟨b, 0, none⟩)) (m m0 : MM) (hx : a.eval x = .agg (msgV m)) (hO : w.heap[b]? = some (.cells (msgV m0) 27))
    (h : wpList Tryd.prog ops Q rest (a.put o.dst undef) (w.setRow b (msgV m))) : wpList Tryd.prog ops Q (o :: rest) a w :=
  wpList_plain hgd fun _ hK => wp_store_row 27 p x ho b (msgV m) hp hx 27 (msgV m0) hO msg_info rfl (msg_one m) (hK _ _ h)
theorem chk_lt {s : ByteArray} (h : chkE s = 0) : 24 ≤ s.size ∧ s.extract 0 3 = magF ∧ (1 ≤ kndF s ∧ kndF s ≤ 16) ∧ bszF s ≤ 4383 ∧ s.size = 24 + bszF s ∧ sumOk s = true := by
  unfold chkE at h
  split at h
  · simp at h
  · rename_i h1
    split at h
    · simp at h
    · rename_i h2
      split at h
      · simp at h
      · rename_i h3
        split at h
        · simp at h
        · rename_i h4
          split at h
          · simp at h
          · rename_i h5
            have h2' : s.extract 0 3 = magF := Classical.not_not.1 h2
            have h5' : sumOk s = true := by simpa using h5
            exact ⟨by omega, h2', by omega, by omega, by omega, h5'⟩
theorem rdAll_kind {s : ByteArray} (h16 : kndF s ≤ 16) {m : MM} {r : ByteArray} (h : rdAll s = some (m, r)) : m.kind = (kndF s : Int) := by
  unfold rdAll at h
  split at h
  · simp at h
  · rename_i mh hr hh
    rw [(rdL_keep _ _ _ _ _ (fun i hi => (bodyF_lt _ h16 i hi).2) h).1, (rdL_keep _ _ _ _ _ (fun i hi => by have := headF_lt i hi; omega) hh).1]
    rfl
set_option maxHeartbeats 4000000 in
set_option maxRecDepth 100000 in
theorem decode_bad (s : ByteArray) (w : World) (hT4 : Tab4 5 w) (h : chkE s ≠ 0) :
    Calls Tryd.prog 53 #[.string s] w fun e w' => e = .returned (decV s) ∧ Below w.heap.size w w' := by
  have eV : decV s = .tuple #[.agg (msgV (mm0 0)), .int .i64 (chkE s)] := by unfold decV decM decE; rw [if_neg h, if_neg h]; rfl
  rw [eV]
  clear eV
  obtain ⟨W0, hW0⟩ : ∃ W0, W0 = w.alloc (.cells #[.int .i64 0, .int .i64 0, .int .i64 0, .int .i64 0, .int .i64 0, .int .i64 0, .int .i64 0, .int .i64 0, .int .i64 0, .string ⟨#[]⟩, .string ⟨#[]⟩] 27) := ⟨_, rfl⟩
  have b0 : Below w.heap.size w W0 := by rw [hW0]; exact (Below.refl _ w).alloc (Nat.le_refl _) _
  have hM0 : W0.heap[w.heap.size]? = some (.cells (msgV (mm0 0)) 27) := by rw [hW0]; exact heap_last w _
  have s0 : w.heap.size < W0.heap.size := by rw [hW0]; simp
  have hT0 : Tab4 5 W0 := fun j hj => (b0.cell (World.block_lt_of_cell? w _ (hT4 j hj))).trans (hT4 j hj)
  have CH : Hid (Calls Tryd.prog 67 #[.string s] W0 fun e w' => e = .returned (.int .i64 (chkE s)) ∧ Below W0.heap.size W0 w') := by
    by_cases hs : s.size < 24
    · exact check_short s hs W0
    · exact check_long s hs W0 hT0
  have KM : Hid (∀ w', Below W0.heap.size W0 w' → w'.heap[w.heap.size]? = some (.cells (msgV (mm0 0)) 27) ∧ Below w.heap.size w w') := fun w' hb => ⟨(hb.block _ s0).trans hM0, b0.trans (hb.mono (by omega))⟩
  have hne : (chkE s == 0) = false := by simpa using h
  have hne' : (chkE s != 0) = true := by simpa using h
  generalize chkE s = E at *
  clear hT0 hM0 b0 hT4
  go_enter Tryd.func53, Tryd.ntmps53
  go_upto_region 1 with fail
  rw [← hW0]
  clear hW0
  go_wp2_with fail
  refine Calls.mono CH.out ?_
  rintro e w1 ⟨rfl, b1⟩
  obtain ⟨hM1, hb1⟩ := KM.out _ b1
  have B1 := hide hb1
  clear b1 hb1 KM CH
  go_wp2_with (first | (refine wpList_build0 rfl rfl ?_) | (refine wpList_storeMsg rfl (.tmp 2) (.tmp 12) rfl w.heap.size rfl (mm0 0) (mm0 0) rfl hM1 ?_))
  refine bodyPost_ret (v := .tuple #[.agg (msgV (mm0 0)), .int .i64 E]) (res_msg2 Tryd.results53 _ (mm0 0) _ w.heap.size rfl _ rfl (setRow_heap _ _ _ _ _ _ hM1)) rfl ⟨rfl, ?_⟩
  exact below_row B1.out (Nat.le_refl _) _
end Go.Proofs.YtgdjfocnaapooaaDoor
