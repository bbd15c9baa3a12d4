import Derived.Test.YtgdjfocnaapooaaDoorGFsAt
import Derived.Great.BuildSlice
import Derived.Maps.AppendAt
import Derived.Deep.MidRow
import Derived.RangeFuncNested
import Derived.RangeFuncCalls
import Derived.OrdersIn
import Derived.Deep.RegionHeld
namespace Go.Proofs.YtgdjfocnaapooaaDoor
open Go.RowKit
/-- a piece's cells -/
def pieA (i n : Nat) (m : MM) : Array Value := #[.int .i64 (i : Int), .int .i64 (n : Int), .int .i64 m.kind, .int .i64 m.n0, .int .i64 m.n1, .int .i64 m.n2, .int .i64 m.n3, .int .i64 m.n4, .int .i64 m.n5, .int .i64 m.n6, .int .i64 m.n7, .string m.key, .string m.val]
def pieL (p : Nat × Nat × MM) : List Value := (pieA p.1 p.2.1 p.2.2).toList
def pcs (l : List (Nat × Nat × MM)) : List Value := l.flatMap pieL
theorem pcs_append (a b : List (Nat × Nat × MM)) : pcs (a ++ b) = pcs a ++ pcs b := List.flatMap_append
theorem pcs_one (p : Nat × Nat × MM) : pcs [p] = pieL p := by unfold pcs; rw [List.flatMap_cons, List.flatMap_nil, List.append_nil]
theorem pie_one (p : Nat × Nat × MM) : ∀ u ∈ pcs [p], u.oneCell' = true := by
  rw [pcs_one]
  intro u hu
  unfold pieL pieA at hu
  simp only [List.mem_cons, List.not_mem_nil, or_false] at hu
  rcases hu with rfl | rfl | rfl | rfl | rfl | rfl | rfl | rfl | rfl | rfl | rfl | rfl | rfl <;> rfl
set_option maxRecDepth 100000 in
theorem infoPc : (Tryd.prog.info? 38).map (fun i => (i.zero, i.size, i.bytes)) = some (some (.agg #[.int .i64 0, .int .i64 0, .int .i64 0, .int .i64 0, .int .i64 0, .int .i64 0, .int .i64 0, .int .i64 0, .int .i64 0, .int .i64 0, .int .i64 0, .string ⟨#[]⟩, .string ⟨#[]⟩]), 13, 120) := by kernel_rfl
theorem built_pie (i n : Nat) (m : MM) : Tryd.prog.built 38 [(0, .int .i64 (i : Int)), (1, .int .i64 (n : Int)), (2, .agg (msgV m))] = some (pieA i n m) := by kernel_rfl
theorem wpList_buildPie {w : World} {ops : Array Oper} {rest : List Oper} {o : Oper} {a : Act} {Q : Exit → Act → World → Prop} (hgd : o.guard = none) (x0 x1 x2 : Operand) (ho : o.op = .build 38 #[(0, x0), (1, x1), (2, x2)]) (i n : Nat) (m : MM) (h0 : a.eval x0 = .int .i64 (i : Int)) (h1 : a.eval x1 = .int .i64 (n : Int)) (h2 : a.eval x2 = .agg (msgV m))
    (h : wpList Tryd.prog ops Q rest (a.put o.dst (.agg (pieA i n m))) w) : wpList Tryd.prog ops Q (o :: rest) a w := by
  refine wpList_plain hgd fun K hK => ?_
  unfold Oper.wp execOp
  simp only [ho, List.map_toArray, List.map_cons, List.map_nil, h0, h1, h2, Sem.run_bind, Sem.run_pure, Result.andThen_ok, run_build w 38 _ (pieA i n m) (built_pie i n m)]
  exact hK _ _ h
theorem fill_pie (i n : Nat) (m : MM) (z : Value) (hz : z = .agg #[.int .i64 0, .int .i64 0, .int .i64 0, .int .i64 0, .int .i64 0, .int .i64 0, .int .i64 0, .int .i64 0, .int .i64 0, .int .i64 0, .int .i64 0, .string ⟨#[]⟩, .string ⟨#[]⟩]) : Instr.fill (fun i => some (i * 13, 13)) ((Array.range (1 * 13)).map (z.cells[· % z.cells.size]!)) [(0, .agg (pieA i n m))] = some (pieA i n m) := by
  subst hz
  kernel_rfl
theorem wpList_bsPie {w : World} {ops : Array Oper} {rest : List Oper} {o : Oper} {a : Act} {Q : Exit → Act → World → Prop} (hgd : o.guard = none) (x : Operand) (ho : o.op = .buildSlice 35 1 #[(0, x)]) (i n : Nat) (m : MM) (hx : a.eval x = .agg (pieA i n m))
    (h : wpList Tryd.prog ops Q rest (a.put o.dst (.slice (some ⟨w.heap.size, 0, none⟩) 1 1)) (w.alloc (.cells (pieA i n m) 38))) : wpList Tryd.prog ops Q (o :: rest) a w := by
  obtain ⟨i0, hi, hz0, hz1, hz2⟩ := info_partsF infoPc
  refine wpList_buildSlice hgd 35 38 1 _ ho (pieA i n m) i0 _ Tryd.underlying35 hi hz0 (by rw [hz1]; decide) (by rw [hz1]; decide) ?_ h
  rw [hz1]
  simp only [List.map_toArray, List.map_cons, List.map_nil, hx]
  exact fill_pie i n m _ rfl
theorem pie_cell (w : World) (i n : Nat) (m : MM) : ∀ j u, (pcs [(i, n, m)])[j]? = some u → (w.alloc (.cells (pieA i n m) 38)).cell? ((⟨w.heap.size, 0, none⟩ : Addr).add j) = some u := by
  rw [pcs_one]
  intro j u hj
  have ea : ((⟨w.heap.size, 0, none⟩ : Addr).add j) = ⟨w.heap.size, j, none⟩ := by rw [Addr.add_mid, Nat.zero_add]
  rw [ea]
  have e := heap_last w (.cells (pieA i n m) 38)
  unfold World.cell?
  rw [e]
  show (pieA i n m)[j]? = some u
  rw [← Array.getElem?_toList]
  exact hj
theorem own_belowS {w w' : World} {base e sz n : Nat} {v : Value} {xs : List Value} (h : w.ownsRow base e sz v n xs) (hb : Below w.heap.size w w') : w'.ownsRow base e sz v n xs :=
  h.kept (row := none) ⟨hb.os, hb.tape, hb.output, hb.size, fun i hi _ => hb.block i hi⟩ (by cases hv : v.ownBlock with | none => exact .inl rfl | some k => exact .inr (by simp))
theorem pie_room {k : Nat} (h : k ≤ 1000000000000) : k + 1 ≤ maxLen ∧ (k + 1) * 120 ≤ 140737488355328 := by unfold maxLen; omega
set_option maxHeartbeats 8000000 in
set_option maxRecDepth 100000 in
/-- the document's Split -/
theorem rsplit_any (s : ByteArray) (hs : s.size ≤ 900000000000) (w : World) (hT : TabR w) :
    Calls Tryd.prog 16 #[.string s] w fun e w' => ∃ v, e = .returned v ∧ w'.ownsRow w.heap.size 38 13 v (splitP s 0).length (pcs (splitP s 0)) ∧ Below w.heap.size w w' := by
  obtain ⟨i0, hi0, hz0, hz1, hz2⟩ := info_partsF infoPc
  go_enter Tryd.func16, Tryd.ntmps16
  go_wp2_with fail
  go_loopw [3, 4, 5] (fun v i _ wr => ∃ (k : Nat) (l : List (Nat × Nat × MM)), i = .int .i64 (k : Int) ∧ k ≤ s.size ∧ l.length ≤ k ∧ l ++ splitP s k = splitP s 0 ∧ wr.ownsRow w.heap.size 38 13 v l.length (pcs l) ∧ Below w.heap.size w wr) (fun _ i _ _ => s.size - (intOf i).toNat)
  case atStart => exact ⟨0, [], rfl, Nat.zero_le _, Nat.le_refl _, rfl, World.ownsRow_nil _ _ _ _, Below.refl _ _⟩
  case round =>
    obtain ⟨k, l, rfl, hk, hlk, hl, hown, hB⟩ := hrel
    by_cases hkl : k < s.size
    case neg =>
      obtain rfl : k = s.size := by omega
      rw [splitP_end (Nat.le_refl _), List.append_nil] at hl
      subst hl
      have HO := hide hown
      have HB := hide hB
      clear hown hB
      go_wp2_with fail
      go_ret
      exact ⟨_, rfl, HO.out, HB.out⟩
    case pos =>
      have A := at_any s k hkl hs wr (hT.below hB)
      have hki : (k : Int) < (s.size : Int) := by omega
      cases hn : nextP s k with
      | none =>
        rw [atV_none hn] at A
        have A := hide A
        rw [splitP_none hkl hn] at hl
        have HL := hide hl
        have HO := hide hown
        have HB := hide hB
        clear hown hB hl hn
        go_wp2_with fail
        refine Calls.mono A.out ?_
        rintro e w1 ⟨rfl, b1⟩
        obtain ⟨WX, eX, _, bX1, bX⟩ := laid_new b1 (mm0 0)
        have O1 := hide (own_belowS HO.out bX)
        have B1 := hide (HB.out.trans (bX.mono HB.out.size))
        clear b1 bX1 bX A HO HB
        go_upto_region 5 with (refine wpList_storeMsg rfl (.tmp 6) (.tmp 16) rfl w1.heap.size rfl (mm0 0) (mm0 0) rfl (heap_last _ _) ?_)
        rw [← eX]
        clear eX
        go_wp2_with fail
        go_roundw
        case rel => exact ⟨k + 1, l, by go_num, by omega, by omega, HL.out, O1.out, B1.out⟩
        case measure => simp [intOf]; omega
      | some x =>
        obtain ⟨n, m⟩ := x
        obtain ⟨n24, nle, n44, _⟩ := firstP_size hn
        rw [ByteArray.size_extract] at nle
        rw [atV_some hn] at A
        have A := hide A
        rw [splitP_some hkl hn] at hl
        have HL : Hid ((l ++ [(k, n, m)]) ++ splitP s (k + n) = splitP s 0) := by show _ = _; rw [List.append_assoc]; exact hl
        have HO := hide hown
        have HB := hide hB
        obtain ⟨hm1, hm2⟩ := pie_room (k := l.length) (by omega)
        have hn0 : ((n : Int) == 0) = false := by simp; omega
        clear hown hB hl hn
        go_wp2_with fail
        refine Calls.mono A.out ?_
        rintro e w1 ⟨rfl, b1⟩
        obtain ⟨WX, eX, hX, bX1, bX⟩ := laid_new b1 m
        have O1 := hide (own_belowS HO.out bX)
        have B1 := hide (HB.out.trans (bX.mono HB.out.size))
        have s1 := B1.out.size
        clear b1 bX1 bX A HO HB
        go_upto_region 5 with (refine wpList_storeMsg rfl (.tmp 6) (.tmp 16) rfl w1.heap.size rfl m (mm0 0) rfl (heap_last _ _) ?_)
        rw [← eX]
        clear eX
        go_wp2_with (first | (refine wpList_loadMsg rfl (.tmp 6) rfl m w1.heap.size rfl hX ?_) | (refine wpList_buildPie rfl (.tmp 22) (.tmp 23) (.tmp 24) rfl k n m rfl rfl rfl ?_) | (refine wpList_bsPie rfl (.tmp 25) rfl k n m rfl ?_) | (at_builtin; refine wpList_append_own_at _ rfl _ _ 35 rfl w.heap.size 38 i0 _ 13 120 Tryd.underlying35 hi0 hz0 hz1 hz2 rfl (by decide) _ _ _ rfl (O1.out.alloc _) ⟨WX.heap.size, 0, none⟩ 1 1 (pcs [(k, n, m)]) rfl (by rw [pcs_one]; rfl) (pie_cell WX k n m) (pie_one _) hm1 hm2 (by simp; omega) ?_; intro v2 w2 o2 g2 n2 a2; clear n2 a2))
        have o3 : w2.ownsRow w.heap.size 38 13 v2 (l ++ [(k, n, m)]).length (pcs (l ++ [(k, n, m)])) := by rw [pcs_append, List.length_append]; exact o2
        have g3 : Below w.heap.size w w2 := (B1.out.alloc s1 _).grown g2 (by simp; omega) (fun j hj => (O1.out.lt j hj).1)
        have O3 := hide o3
        have G3 := hide g3
        clear o2 o3 g2 g3
        go_wp2_with fail
        go_roundw
        case rel => exact ⟨k + n, l ++ [(k, n, m)], by go_num, by omega, by rw [List.length_append]; simp; omega, HL.out, O3.out, G3.out⟩
        case measure => simp [intOf]; omega
end Go.Proofs.YtgdjfocnaapooaaDoor
namespace Go.Proofs.YtgdjfocnaapooaaDoor
open Go.RowKit
def hdM : MM := ⟨11, 65, 2, 9, 0, 0, 0, 0, 0, ⟨#[111, 97, 116]⟩, ⟨#[]⟩⟩
theorem hdM_fit : fitM hdM = true := by decide +kernel
theorem wpList_buildMsgH {w : World} {ops : Array Oper} {rest : List Oper} {o : Oper} {a : Act} {Q : Exit → Act → World → Prop} (hgd : o.guard = none) (parts : Array (Nat × Operand)) (ho : o.op = .build 27 parts) (m : MM) (hb : Tryd.prog.built 27 (parts.map fun (i, x) => (i, a.eval x)).toList = some (msgV m))
    (h : wpList Tryd.prog ops Q rest (a.put o.dst (.agg (msgV m))) w) : wpList Tryd.prog ops Q (o :: rest) a w := by
  refine wpList_plain hgd fun K hK => ?_
  unfold Oper.wp execOp
  simp only [ho, Sem.run_bind, Sem.run_pure]
  have := run_build w 27 _ (msgV m) hb
  rw [this]
  exact hK _ _ h
theorem hd_size : (encS hdM).size ≤ 4407 := by
  have hF : FitAll hdM 11 := ⟨rfl, fitM_all hdM_fit⟩
  exact (enc_size hdM 11 (by omega) (by omega) hF).2
set_option maxHeartbeats 2000000 in
set_option maxRecDepth 100000 in
/-- headed: a stream with one frame ahead of it -/
theorem headed_any (t : ByteArray) (ht : t.size ≤ 900000000000) (w : World) (hR : TabR w) :
    Calls Tryd.prog 15 #[.string t] w fun e w' => e = .returned (.string (encS hdM ++ t)) ∧ Below w.heap.size w w' := by
  have P := rencode_any hdM w hR
  rw [encE_ok (by decide) hdM_fit] at P
  have P := hide P
  have hz := hd_size
  generalize encS hdM = S at *
  go_enter Tryd.func15, Tryd.ntmps15
  go_wp2_with (refine wpList_buildMsgH rfl _ rfl hdM (by kernel_rfl) ?_)
  refine Calls.mono P.out ?_
  rintro e w1 ⟨rfl, b1⟩
  go_wp2_with fail
  go_ret
  exact ⟨rfl, b1⟩
theorem eqf_agg {P : Program} {d : Nat} {xs xs' : Array Value} {f : Field} {fs : List Field} {w : World} (hn : f.name ≠ "_") (hx : (part f.type xs f.offset).run P w = .ok (.agg xs') w) (he : (Op.equalIn d f.type (.agg xs') (.agg xs')).run P w = .ok true w) :
    (Op.eqFields d xs xs (f :: fs)).run P w = (Op.eqFields d xs xs fs).run P w := by
  simp only [Op.eqFields, if_pos hn, Sem.run_bind, hx, Result.andThen_ok, he]
  rfl
set_option maxHeartbeats 2000000 in
set_option maxRecDepth 100000 in
/-- two pieces that are the same -/
theorem eqPie (i n : Nat) (m : MM) (w : World) : (binOp .neq 38 (.agg (pieA i n m)) (.agg (pieA i n m))).run Tryd.prog w = .ok (.bool false) w := by
  have hS : Tryd.prog.underlying 38 = some (.struct (Tryd.prog.fieldsOf 38)) := by kernel_rfl
  have hp : Tryd.prog.stoodInHeld 38 = false := by kernel_rfl
  have hS2 : Tryd.prog.underlying 27 = some (.struct (Tryd.prog.fieldsOf 27)) := by kernel_rfl
  have hp2 : Tryd.prog.stoodInHeld 27 = false := by kernel_rfl
  have e3 : (Op.equalIn 9999 27 (.agg (msgV m)) (.agg (msgV m))).run Tryd.prog w = .ok true w := by
    rw [show (9999 : Nat) = 9998 + 1 from rfl, run_equalIn_agg w 9998 27 _ _ hS2 hp2]
    simp only [Program.fieldsOf, Tryd.underlying27]
    rw [show (9998 : Nat) = 9997 + 1 from rfl]
    rw [eqf_int (k := .i64) (x := m.kind) (y := m.kind) (by decide) (by kernel_rfl) (by kernel_rfl) (by kernel_rfl), if_pos rfl]
    rw [eqf_int (k := .i64) (x := m.n0) (y := m.n0) (by decide) (by kernel_rfl) (by kernel_rfl) (by kernel_rfl), if_pos rfl]
    rw [eqf_int (k := .i64) (x := m.n1) (y := m.n1) (by decide) (by kernel_rfl) (by kernel_rfl) (by kernel_rfl), if_pos rfl]
    rw [eqf_int (k := .i64) (x := m.n2) (y := m.n2) (by decide) (by kernel_rfl) (by kernel_rfl) (by kernel_rfl), if_pos rfl]
    rw [eqf_int (k := .i64) (x := m.n3) (y := m.n3) (by decide) (by kernel_rfl) (by kernel_rfl) (by kernel_rfl), if_pos rfl]
    rw [eqf_int (k := .i64) (x := m.n4) (y := m.n4) (by decide) (by kernel_rfl) (by kernel_rfl) (by kernel_rfl), if_pos rfl]
    rw [eqf_int (k := .i64) (x := m.n5) (y := m.n5) (by decide) (by kernel_rfl) (by kernel_rfl) (by kernel_rfl), if_pos rfl]
    rw [eqf_int (k := .i64) (x := m.n6) (y := m.n6) (by decide) (by kernel_rfl) (by kernel_rfl) (by kernel_rfl), if_pos rfl]
    rw [eqf_int (k := .i64) (x := m.n7) (y := m.n7) (by decide) (by kernel_rfl) (by kernel_rfl) (by kernel_rfl), if_pos rfl]
    rw [eqf_str (x := m.key) (y := m.key) (by decide) (by kernel_rfl) (by kernel_rfl) (by kernel_rfl), if_pos rfl]
    rw [eqf_str (x := m.val) (y := m.val) (by decide) (by kernel_rfl) (by kernel_rfl) (by kernel_rfl), if_pos rfl]
    rfl
  have e : (Op.equalIn 10000 38 (.agg (pieA i n m)) (.agg (pieA i n m))).run Tryd.prog w = .ok true w := by
    rw [show (10000 : Nat) = 9999 + 1 from rfl, run_equalIn_agg w 9999 38 _ _ hS hp]
    simp only [Program.fieldsOf, Tryd.underlying38]
    conv => lhs; rw [show (9999 : Nat) = 9998 + 1 from rfl]
    rw [eqf_int (k := .i64) (x := (i : Int)) (y := (i : Int)) (by decide) (by kernel_rfl) (by kernel_rfl) (by kernel_rfl), if_pos rfl]
    rw [eqf_int (k := .i64) (x := (n : Int)) (y := (n : Int)) (by decide) (by kernel_rfl) (by kernel_rfl) (by kernel_rfl), if_pos rfl]
    rw [eqf_agg (xs' := msgV m) (by decide) (by kernel_rfl) e3]
    rfl
  rw [run_neq_struct, e]
  rfl
end Go.Proofs.YtgdjfocnaapooaaDoor
namespace Go.Proofs.YtgdjfocnaapooaaDoor
open Go.RowKit
theorem pieL_len (p : Nat × Nat × MM) : (pieL p).length = 13 := rfl
theorem pcs_at : ∀ (L : List (Nat × Nat × MM)) (q : Nat) (hq : q < L.length) (j : Nat), j < 13 → (pcs L)[q * 13 + j]? = (pieL L[q])[j]? := by
  intro L
  induction L with
  | nil => intro q hq; simp at hq
  | cons p L ih =>
    intro q hq j hj
    have e : pcs (p :: L) = pieL p ++ pcs L := by unfold pcs; rw [List.flatMap_cons]
    rw [e]
    cases q with
    | zero => rw [Nat.zero_mul, Nat.zero_add, List.getElem?_append_left (by rw [pieL_len]; exact hj)]; rfl
    | succ q =>
      rw [List.getElem?_append_right (by rw [pieL_len]; omega), pieL_len, show (q + 1) * 13 + j - 13 = q * 13 + j by omega]
      exact ih q (by simpa using hq) j hj
theorem pcs_range {w : World} {g : Nat} {L : List (Nat × Nat × MM)} (h : ∀ j u, (pcs L)[j]? = some u → w.cell? ((⟨g, 0, none⟩ : Addr).add j) = some u) (q : Nat) (hq : q < L.length) : w.rangeAt g (q * 13) (pieL L[q]) := by
  intro j v hv
  have hj : j < 13 := (List.getElem?_eq_some_iff.1 hv).1
  have := h (q * 13 + j) v (by rw [pcs_at L q hq j hj]; exact hv)
  rw [Addr.add_mid, Nat.zero_add] at this
  exact this
theorem wp_neqPie {o : Oper} {a : Act} {w : World} {K : Act → World → Prop} {Q : Exit → Act → World → Prop} (x y : Operand) (t2 : TypeId) (ho : o.op = .binOp .neq 38 x y t2) (i n : Nat) (m : MM) (hx : a.eval x = .agg (pieA i n m)) (hy : a.eval y = .agg (pieA i n m))
    (h : K (a.put o.dst (.bool false)) w) : o.wp Tryd.prog a w K Q := by
  unfold Oper.wp execOp
  have hg : Tryd.prog.eqGuardType Tryd.prog.depth 38 = false := by kernel_rfl
  simp only [ho, Sem.run_bind, Sem.run_pure, Result.andThen_ok, hx, hy, eqPie, run_eqGuard_agg w .neq 38 x y (pieA i n m) (pieA i n m) hg]
  exact h
theorem infoPc13 : (Tryd.prog.info? 38).map (·.size) = some 13 := by kernel_rfl
/-- a row of pieces that is not empty lies in one block -/
theorem own_pie {w : World} {base : Nat} {v : Value} {L : List (Nat × Nat × MM)} (h : w.ownsRow base 38 13 v L.length (pcs L)) : ∃ ba cap, v = .slice ba L.length cap ∧ (0 < L.length → ∃ g, ba = some ⟨g, 0, none⟩ ∧ g < w.heap.size ∧ ∀ j u, (pcs L)[j]? = some u → w.cell? ((⟨g, 0, none⟩ : Addr).add j) = some u) := by
  rcases h.2 with ⟨hv, h0⟩ | ⟨g, cap, cur, hv, _, _, _, _, _, _⟩
  · exact ⟨none, 0, by rw [hv, h0], fun x => by omega⟩
  · subst hv
    exact ⟨_, _, rfl, fun _ => ⟨g, rfl, (h.lt g rfl).2, h.cells (g := g) rfl⟩⟩
set_option maxHeartbeats 8000000 in
set_option maxRecDepth 100000 in
set_option linter.unusedSimpArgs false in
/-- samePieces of two lists of the same pieces -/
theorem samePieces_any (L : List (Nat × Nat × MM)) (hL : L.length ≤ 1000000000000) (b1 b2 : Nat) (v1 v2 : Value) (w : World) (h1 : w.ownsRow b1 38 13 v1 L.length (pcs L)) (h2 : w.ownsRow b2 38 13 v2 L.length (pcs L)) :
    Calls Tryd.prog 21 #[v1, v2] w fun e w' => e = .returned (.bool true) ∧ Below w.heap.size w w' := by
  obtain ⟨ba1, c1, rfl, k1⟩ := own_pie h1
  obtain ⟨ba2, c2, rfl, k2⟩ := own_pie h2
  have K1 := hide k1
  have K2 := hide k2
  clear h1 h2 k1 k2
  go_enter Tryd.func21, Tryd.ntmps21
  go_wp2_with fail
  go_loopw [5] (fun i wr => ∃ q : Nat, q ≤ L.length ∧ i = .int .i64 (q : Int) ∧ Below w.heap.size w wr) (fun i _ => L.length - (intOf i).toNat)
  case atStart => exact ⟨0, Nat.zero_le _, rfl, Below.refl _ _⟩
  case round =>
    obtain ⟨q, hq, rfl, hB⟩ := hrel
    by_cases hql : q < L.length
    case neg =>
      obtain rfl : q = L.length := by omega
      have HB := hide hB
      clear hB
      go_wp2_with fail
      go_ret
      exact ⟨rfl, HB.out⟩
    case pos =>
      obtain ⟨g1, rfl, l1, r1⟩ := K1.out (by omega)
      obtain ⟨g2, rfl, l2, r2⟩ := K2.out (by omega)
      have R1 : Hid (∀ w', Below w.heap.size w w' → w'.rangeAt g1 (q * 13) (pieL L[q])) := fun w' hb => fun j v hv => (hb.cell (by exact l1)).trans (pcs_range r1 q hql j v hv)
      have R2 : Hid (∀ w', Below w.heap.size w w' → w'.rangeAt g2 (q * 13) (pieL L[q])) := fun w' hb => fun j v hv => (hb.cell (by exact l2)).trans (pcs_range r2 q hql j v hv)
      have hqi : (q : Int) < (L.length : Int) := by omega
      obtain ⟨⟨pi, pn, pm⟩, hpe⟩ : ∃ p, p = L[q] := ⟨_, rfl⟩
      rw [← hpe] at R1 R2
      have HB := hide hB
      clear r1 r2 l1 l2 hB hpe
      go_upto_region 6 with fail
      have HBd := hide HB.out.drew
      refine wp_region_held_drew (S := fun x => Below w.heap.size w x) (by kernel_rfl) HBd.out (fun hHeld => ?_)
      refine wpAnyH_take (i := 0) (v := (.slice (some ⟨g1, 0, none⟩) L.length c1)) rfl (by kernel_rfl) (by kernel_rfl) (by kernel_rfl) (fun _ _ _ h => h) (Or.inl ⟨by rfl, ?_⟩) (by assumption) ?_
      · intro w' hSw
        (try dsimp only at hSw)
        go_simp <;> first | exact i64_in (by omega) (by omega) | exact u32_in (by omega) (by omega) | exact u32_add _ _ | (rw [Int.tmod_eq_emod_of_nonneg (by omega)]; omega) | (rw [Int.tdiv_eq_ediv_of_nonneg (by omega)]; omega) | omega
      (try simp only [Act.put, List.setIfInBounds_toArray, List.set_cons_zero, List.set_cons_succ])
      refine wpAnyH_take (i := 1) (v := (.int .i64 (q : Int))) rfl (by kernel_rfl) (by kernel_rfl) (by kernel_rfl) (fun _ _ _ h => h) (Or.inl ⟨by rfl, ?_⟩) (by assumption) ?_
      · intro w' hSw
        (try dsimp only at hSw)
        go_simp <;> first | exact i64_in (by omega) (by omega) | exact u32_in (by omega) (by omega) | exact u32_add _ _ | (rw [Int.tmod_eq_emod_of_nonneg (by omega)]; omega) | (rw [Int.tdiv_eq_ediv_of_nonneg (by omega)]; omega) | omega
      (try simp only [Act.put, List.setIfInBounds_toArray, List.set_cons_zero, List.set_cons_succ])
      refine wpAnyH_take (i := 2) (v := (.pointer (some ⟨g1, q * 13, none⟩))) rfl (by kernel_rfl) (by kernel_rfl) (by kernel_rfl) (fun _ _ _ h => h) (Or.inl ⟨by rfl, ?_⟩) (by assumption) ?_
      · intro w' hSw
        (try dsimp only at hSw)
        go_simp <;> first | exact i64_in (by omega) (by omega) | exact u32_in (by omega) (by omega) | exact u32_add _ _ | (rw [Int.tmod_eq_emod_of_nonneg (by omega)]; omega) | (rw [Int.tdiv_eq_ediv_of_nonneg (by omega)]; omega) | omega
      (try simp only [Act.put, List.setIfInBounds_toArray, List.set_cons_zero, List.set_cons_succ])
      refine wpAnyH_take (i := 3) (v := .agg (pieA pi pn pm)) rfl (by kernel_rfl) (by kernel_rfl) (by kernel_rfl) (fun _ _ _ h => h) (yieldsIf_load_mid rfl 38 (.tmp 19) rfl g1 (q * 13) rfl (pieL (pi, pn, pm)) _ (fun w' h => R1.out w' h) Tryd.underlying38 rfl infoPc13) (by assumption) ?_
      (try simp only [Act.put, List.getElem_toArray, List.getElem_cons_zero, List.getElem_cons_succ, List.setIfInBounds_toArray, List.set_cons_zero, List.set_cons_succ])
      refine wpAnyH_take (i := 4) (v := (.slice (some ⟨g2, 0, none⟩) L.length c2)) rfl (by kernel_rfl) (by kernel_rfl) (by kernel_rfl) (fun _ _ _ h => h) (Or.inl ⟨by rfl, ?_⟩) (by assumption) ?_
      · intro w' hSw
        (try dsimp only at hSw)
        go_simp
      (try simp only [Act.put, List.getElem_toArray, List.getElem_cons_zero, List.getElem_cons_succ, List.setIfInBounds_toArray, List.set_cons_zero, List.set_cons_succ])
      refine wpAnyH_take (i := 5) (v := (.int .i64 (q : Int))) rfl (by kernel_rfl) (by kernel_rfl) (by kernel_rfl) (fun _ _ _ h => h) (Or.inl ⟨by rfl, ?_⟩) (by assumption) ?_
      · intro w' hSw
        (try dsimp only at hSw)
        go_simp
      (try simp only [Act.put, List.getElem_toArray, List.getElem_cons_zero, List.getElem_cons_succ, List.setIfInBounds_toArray, List.set_cons_zero, List.set_cons_succ])
      refine wpAnyH_take (i := 6) (v := (.pointer (some ⟨g2, q * 13, none⟩))) rfl (by kernel_rfl) (by kernel_rfl) (by kernel_rfl) (fun _ _ _ h => h) (Or.inl ⟨by rfl, ?_⟩) (by assumption) ?_
      · intro w' hSw
        (try dsimp only at hSw)
        go_simp
      (try simp only [Act.put, List.getElem_toArray, List.getElem_cons_zero, List.getElem_cons_succ, List.setIfInBounds_toArray, List.set_cons_zero, List.set_cons_succ])
      refine wpAnyH_take (i := 7) (v := .agg (pieA pi pn pm)) rfl (by kernel_rfl) (by kernel_rfl) (by kernel_rfl) (fun _ _ _ h => h) (yieldsIf_load_mid rfl 38 (.tmp 23) rfl g2 (q * 13) rfl (pieL (pi, pn, pm)) _ (fun w' h => R2.out w' h) Tryd.underlying38 rfl infoPc13) (by assumption) ?_
      (try simp only [Act.put, List.getElem_toArray, List.getElem_cons_zero, List.getElem_cons_succ, List.setIfInBounds_toArray, List.set_cons_zero, List.set_cons_succ])
      refine wpAnyH_ready (rs := [8]) (by kernel_rfl) (by simp) ?_
      refine AllReadyH.cons rfl (fun K hK => ?_) AllReadyH.nil
      rw [if_pos (by kernel_rfl)]
      refine wp_neqPie (.tmp 20) (.tmp 24) _ rfl pi pn pm rfl rfl ?_
      refine hK.out _ _ (HBd.out) (fun hHeld => ?_)
      clear hK
      (try simp only [Act.put, List.setIfInBounds_toArray, List.set_cons_zero, List.set_cons_succ])
      refine wpAnyH_done (by kernel_rfl) ?_ _
      clear hHeld
      (try simp only [Act.put, List.getElem_toArray, List.getElem_cons_zero, List.getElem_cons_succ])
      go_wp2_with fail
      go_roundw
      case rel => exact ⟨q + 1, by omega, by go_num, HBd.out⟩
      case measure => simp [intOf]; omega
end Go.Proofs.YtgdjfocnaapooaaDoor
namespace Go.Proofs.YtgdjfocnaapooaaDoor
open Go.RowKit
/-- an operation that is no defer, in a round of the wide fence, goes as anywhere -/
theorem wpIn_round_op {P : Program} {l n : Nat} {o : Oper} {a : Act} {w : World} {K : Act → World → Prop} {Q : Exit → Act → World → Prop} (hd : ∀ c, o.op ≠ .defer c) (h : o.wp P a w K Q) : o.wpIn (Fence.wide.inRound l) n P a w K Q := by
  refine ⟨fun _ _ => trivial, ?_⟩
  rw [Oper.semAt_eq _ _ _ hd]
  unfold Oper.wp at h
  generalize (execOp a.eval o).run P w = r at *
  cases r with
  | ok x w' =>
    cases x <;> simp only [Oper.upon, Oper.uponIn] at h ⊢ <;>
      first
        | exact h
        | exact h.elim
        | exact ⟨fun e => (by cases e), CallsIn.inRound l (callsIn_wide.2 h)⟩
        | exact ⟨fun e => (by cases e), fun c cs _ => let ⟨v, w', r, s⟩ := h c cs; ⟨v, w', r, stepsIn_wide.2 s⟩⟩
  | halt x w' => cases x <;> simp only [Oper.upon, Oper.uponIn] at h ⊢ <;> exact h
theorem wpAnyIn_round {P : Program} {md : Region.Mode} {l n : Nat} {ops : Array Oper} {Q : Exit → Act → World → Prop} (hd : ∀ (i : Nat) (o : Oper) c, ops[i]? = some o → o.op ≠ .defer c) (hQ : ∀ a w, ¬ Q .outgrown a w) :
    ∀ (fuel : Nat) (listed : Array Bool) (a : Act) (w : World), wpAny P md ops Q fuel listed a w → wpAnyIn (Fence.wide.inRound l) n P md ops Q fuel listed a w
  | 0, _, _, _, h => h
  | fuel + 1, listed, a, w, h => ⟨h.1, fun i hi => by
      have h1 := h.2 i hi
      unfold wpOp at h1
      unfold wpOpIn
      cases ho : ops[i]? with
      | none => rw [ho] at h1; exact wpAnyIn_round hd hQ fuel _ _ _ h1
      | some o =>
        rw [ho] at h1
        simp only at h1 ⊢
        split
        · rename_i hw
          rw [if_pos hw] at h1
          rcases h1 with h1 | h1
          · exact Oper.wpIn_mono (fun a' w' h' => wpAnyIn_round hd hQ fuel _ a' w' h') (wpIn_round_op (fun c => hd i o c ho) h1)
          · obtain ⟨_, a', w', h'⟩ := h1; exact absurd h' (hQ a' w')
        · rename_i hw
          rw [if_neg hw] at h1
          exact ⟨fun _ _ => trivial, wpAnyIn_round hd hQ fuel _ _ _ h1⟩⟩
/-- no operation of a region is a defer -/
def noDefer (ops : Array Oper) : Bool := ops.all fun o => match o.op with | .defer _ => false | _ => true
theorem noDefer_spec {ops : Array Oper} (h : noDefer ops = true) : ∀ (i : Nat) (o : Oper) c, ops[i]? = some o → o.op ≠ .defer c := by
  intro i o c ho e
  unfold noDefer at h
  rw [Array.all_eq_true] at h
  obtain ⟨hi, he⟩ := Array.getElem?_eq_some_iff.1 ho
  have := h i hi
  rw [he] at this
  simp only [e] at this
  cases this
/-- a region that draws, in a round of the wide fence, is walked as anywhere -/
theorem wpIn_region_round {P : Program} {l n : Nat} {id : Nat} {ops : Array Oper} {Q : Exit → Act → World → Prop} {S : World → Prop} {a : Act} {w : World} (hm : P.follows .mixedOrders = true) (hd : noDefer ops = true) (hQ : ∀ a w, ¬ Q .outgrown a w) (hS : S w.drew)
    (h : S w.drew → wpAnyH P .any ops Q S ops.size (Array.replicate ops.size false) a w.drew) : (Code.region id ops true).wpIn (Fence.wide.inRound l) n P Q a w :=
  wpIn_region_any hm (wpAnyIn_round (noDefer_spec hd) hQ _ _ _ _ (wpAny_of_held _ _ _ _ (h hS)))
end Go.Proofs.YtgdjfocnaapooaaDoor
