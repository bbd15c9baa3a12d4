import Derived.Test.YtgdjfocnaapooaaDoorFvCome
import Derived.Test.YtgdjfocnaapooaaDoorGFbProp
namespace Go.Proofs.YtgdjfocnaapooaaDoor
open Go.RowKit
/-- a strewn message's cells -/
def stA (y : MM × ByteArray) : Array Value := #[.int .i64 y.1.kind, .int .i64 y.1.n0, .int .i64 y.1.n1, .int .i64 y.1.n2, .int .i64 y.1.n3, .int .i64 y.1.n4, .int .i64 y.1.n5, .int .i64 y.1.n6, .int .i64 y.1.n7, .string y.1.key, .string y.1.val, .string y.2]
def yL (l : List (MM × ByteArray)) : List Value := l.flatMap fun y => (stA y).toList
theorem yL_append (a b : List (MM × ByteArray)) : yL (a ++ b) = yL a ++ yL b := List.flatMap_append
theorem yL_len (l : List (MM × ByteArray)) : (yL l).length = l.length * 12 := by
  induction l with
  | nil => rfl
  | cons y l ih =>
    have e : yL (y :: l) = (stA y).toList ++ yL l := by unfold yL; rw [List.flatMap_cons]
    rw [e, List.length_append, ih, List.length_cons]
    have : (stA y).toList.length = 12 := rfl
    omega
theorem yL_cells (l : List (MM × ByteArray)) : ∀ u ∈ yL l, u.oneCell' = true := by
  intro u hu
  unfold yL at hu
  rw [List.mem_flatMap] at hu
  obtain ⟨y, _, hy⟩ := hu
  unfold stA at hy
  simp only [List.mem_cons, List.not_mem_nil, or_false] at hy
  rcases hy with rfl | rfl | rfl | rfl | rfl | rfl | rfl | rfl | rfl | rfl | rfl | rfl <;> rfl
theorem yL_at : ∀ (l : List (MM × ByteArray)) (q : Nat) (hq : q < l.length) (j : Nat), j < 12 → (yL l)[q * 12 + j]? = (stA l[q]).toList[j]? := by
  intro l
  induction l with
  | nil => intro q hq; simp at hq
  | cons p l ih =>
    intro q hq j hj
    have e : yL (p :: l) = (stA p).toList ++ yL l := by unfold yL; rw [List.flatMap_cons]
    have l12 : (stA p).toList.length = 12 := rfl
    rw [e]
    cases q with
    | zero => rw [Nat.zero_mul, Nat.zero_add, List.getElem?_append_left (by rw [l12]; exact hj)]; rfl
    | succ q =>
      rw [List.getElem?_append_right (by rw [l12]; omega), l12, show (q + 1) * 12 + j - 12 = q * 12 + j by omega]
      exact ih q (by simpa using hq) j hj
set_option maxRecDepth 100000 in
theorem infoSt : (Tryd.prog.info? 49).map (fun i => (i.zero, i.size, i.bytes)) = some (some (.agg #[.int .i64 0, .int .i64 0, .int .i64 0, .int .i64 0, .int .i64 0, .int .i64 0, .int .i64 0, .int .i64 0, .int .i64 0, .string ⟨#[]⟩, .string ⟨#[]⟩, .string ⟨#[]⟩]), 12, 120) := by kernel_rfl
theorem built_st (m : MM) : Tryd.prog.built 49 [(0, .agg (msgV m))] = some (stA (m, ⟨#[]⟩)) := by kernel_rfl
theorem fill_st (y : MM × ByteArray) (z : Value) (hz : z = .agg #[.int .i64 0, .int .i64 0, .int .i64 0, .int .i64 0, .int .i64 0, .int .i64 0, .int .i64 0, .int .i64 0, .int .i64 0, .string ⟨#[]⟩, .string ⟨#[]⟩, .string ⟨#[]⟩]) : Instr.fill (fun i => some (i * 12, 12)) ((Array.range (1 * 12)).map (z.cells[· % z.cells.size]!)) [(0, .agg (stA y))] = some (stA y) := by
  subst hz
  kernel_rfl
theorem wpList_buildSt {w : World} {ops : Array Oper} {rest : List Oper} {o : Oper} {a : Act} {Q : Exit → Act → World → Prop} (hgd : o.guard = none) (x0 : Operand) (ho : o.op = .build 49 #[(0, x0)]) (m : MM) (h0 : a.eval x0 = .agg (msgV m))
    (h : wpList Tryd.prog ops Q rest (a.put o.dst (.agg (stA (m, ⟨#[]⟩)))) w) : wpList Tryd.prog ops Q (o :: rest) a w := by
  refine wpList_plain hgd fun K hK => ?_
  unfold Oper.wp execOp
  simp only [ho, List.map_toArray, List.map_cons, List.map_nil, h0, Sem.run_bind, Sem.run_pure, Result.andThen_ok, run_build w 49 _ (stA (m, ⟨#[]⟩)) (built_st m)]
  exact hK _ _ h
theorem wpList_bsSt {w : World} {ops : Array Oper} {rest : List Oper} {o : Oper} {a : Act} {Q : Exit → Act → World → Prop} (hgd : o.guard = none) (x : Operand) (ho : o.op = .buildSlice 46 1 #[(0, x)]) (y : MM × ByteArray) (hx : a.eval x = .agg (stA y))
    (h : wpList Tryd.prog ops Q rest (a.put o.dst (.slice (some ⟨w.heap.size, 0, none⟩) 1 1)) (w.alloc (.cells (stA y) 49))) : wpList Tryd.prog ops Q (o :: rest) a w := by
  obtain ⟨i0, hi, hz0, hz1, hz2⟩ := info_partsF infoSt
  refine wpList_buildSlice hgd 46 49 1 _ ho (stA y) i0 _ Tryd.underlying46 hi hz0 (by rw [hz1]; decide) (by rw [hz1]; decide) ?_ h
  rw [hz1]
  simp only [List.map_toArray, List.map_cons, List.map_nil, hx]
  exact fill_st y _ rfl
set_option maxRecDepth 100000 in
/-- append(all, list...) of strewn messages that are handed in -/
theorem wpList_appSt {w : World} {ops : Array Oper} {rest : List Oper} {o : Oper} {a : Act} {Q : Exit → Act → World → Prop} (hgd : o.guard = none) (s x : Operand) (ho : o.op = .call { callee := .builtin .append, args := #[s, x], argTypes := #[46, 46] }) (base : Nat) (vl : Value) (z ys : List (MM × ByteArray)) (ao : Option Addr) (ad0 : Addr) (cap : Nat) (hs : a.eval s = vl) (hx : a.eval x = .slice ao ys.length cap) (hao : ao = none → cap = 0 ∧ ys.length = 0) (hao2 : ∀ ad, ao = some ad → ad = ad0)
    (h1 : w.ownsRow base 49 12 vl z.length (yL z)) (h2 : ∀ j u, (yL ys)[j]? = some u → w.cell? (ad0.add j) = some u) (hroom : z.length + ys.length ≤ 1000000000) (hbase : base ≤ w.heap.size)
    (h : ∀ v' w', w'.ownsRow base 49 12 v' (z ++ ys).length (yL (z ++ ys)) → w.grownBy w' vl.ownBlock → wpList Tryd.prog ops Q rest (a.put o.dst v') w') : wpList Tryd.prog ops Q (o :: rest) a w := by
  obtain ⟨i0, hi0, hz0, hz1, hz2⟩ := info_partsF infoSt
  cases ao with
  | none =>
    obtain ⟨rfl, hy0⟩ := hao rfl
    have hY : ys = [] := List.eq_nil_of_length_eq_zero hy0
    subst hY
    refine wpList_append_own_none hgd s x 46 ho base 49 i0 12 Tryd.underlying46 hi0 vl z.length (yL z) hs h1 hx ?_
    refine h vl w ?_ ⟨rfl, rfl, rfl, Nat.le_refl _, fun _ _ _ => rfl⟩
    rw [List.append_nil]
    exact h1
  | some ad =>
    obtain rfl := hao2 ad rfl
    refine wpList_append_own_at _ hgd _ _ 46 ho base 49 i0 _ 12 120 Tryd.underlying46 hi0 hz0 hz1 hz2 rfl (by decide) vl z.length (yL z) hs h1 _ ys.length cap (yL ys) hx (yL_len ys) h2 (yL_cells ys) (by unfold maxLen; omega) (by omega) hbase ?_
    intro v' w' o2 g2 _ _
    refine h v' w' ?_ g2
    rw [yL_append, List.length_append]
    exact o2
def sumL (l : List (MM × ByteArray)) : Nat := (l.map (·.2.size)).sum
theorem sumL_succ {l : List (MM × ByteArray)} {q : Nat} (h : q < l.length) : sumL (l.take (q + 1)) = sumL (l.take q) + l[q].2.size := by
  unfold sumL
  rw [List.take_succ_eq_append_getElem h, List.map_append, List.sum_append]
  simp
theorem sumL_le (l : List (MM × ByteArray)) (q : Nat) : sumL (l.take q) ≤ sumL l := by
  unfold sumL
  conv => rhs; rw [← List.take_append_drop q l]
  rw [List.map_append, List.sum_append]
  omega
theorem elem_le {l : List (MM × ByteArray)} {q : Nat} (h : q < l.length) : l[q].2.size ≤ sumL l := by
  have h1 := sumL_succ h
  have h2 := sumL_le l (q + 1)
  omega
def stM : MM := ⟨1, 64, 1, 5, 0, 0, 0, 0, 0, ⟨#[]⟩, ⟨#[]⟩⟩
/-- what the law's own loop keeps -/
structure SmS (zs : List (MM × ByteArray)) (w1 : World) (q : Nat) (T : ByteArray) (L : List MM) (E : List Nat) (k : Nat) (vw ve : Value) (wr : World) : Prop where
  stw : Stw T L E k
  len : L.length = q
  len2 : E.length = q
  siz : T.size ≤ q * 4407 + sumL (zs.take q)
  kle : k ≤ T.size
  want : wr.ownsRow w1.heap.size 27 11 vw L.length (mcs L)
  ends : wr.ownsRow w1.heap.size 3 1 ve E.length (ics E)
  bel : Below w1.heap.size w1 wr
theorem stw_next {T : ByteArray} {L : List MM} {E : List Nat} {k : Nat} (h : Stw T L E k) {l : List UInt8} (hl : ∀ b ∈ l, b ≠ 71) {m : MM} {c : Nat} (h1 : 1 ≤ c) (h16 : c ≤ 16) (hk : m.kind = (c : Int)) (hf : fitM m = true) : Stw (T ++ strOf l ++ encS m) (L ++ [m]) (E ++ [(T ++ strOf l ++ encS m).size]) (k + l.length) := by
  have a := (h.append (stw_lit l hl)).append (stw_frm m c h1 h16 hk hf)
  rw [List.append_nil, List.map_nil, List.append_nil, List.map_cons, List.map_nil, Nat.add_zero, ← ByteArray.size_append] at a
  exact a
theorem SmS.next {zs : List (MM × ByteArray)} {w1 : World} {q : Nat} {T : ByteArray} {L : List MM} {E : List Nat} {k : Nat} {vw ve : Value} {wr : World} (h : SmS zs w1 q T L E k vw ve wr) (hq : q < zs.length) {l : List UInt8} (hl : ∀ b ∈ l, b ≠ 71) (hll : l.length ≤ zs[q].2.size) {m : MM} {c : Nat} (h1 : 1 ≤ c) (h16 : c ≤ 16) (hF : FitAll m c) {vw' ve' : Value} {wr' : World} (o1 : wr'.ownsRow w1.heap.size 27 11 vw' (L ++ [m]).length (mcs (L ++ [m]))) (o2 : wr'.ownsRow w1.heap.size 3 1 ve' (E ++ [(T ++ strOf l ++ encS m).size]).length (ics (E ++ [(T ++ strOf l ++ encS m).size]))) (hb : Below w1.heap.size w1 wr') :
    SmS zs w1 (q + 1) (T ++ strOf l ++ encS m) (L ++ [m]) (E ++ [(T ++ strOf l ++ encS m).size]) (k + l.length) vw' ve' wr' := by
  have hz := (enc_size m c h1 h16 hF).2
  have hs := h.siz
  have hk := h.kle
  refine ⟨stw_next h.stw hl h1 h16 hF.1 hF.fit, by rw [List.length_append, h.len]; rfl, by rw [List.length_append, h.len2]; rfl, ?_, ?_, o1, o2, hb⟩
  · rw [ByteArray.size_append, ByteArray.size_append, strOf_size, sumL_succ hq]
    omega
  · rw [ByteArray.size_append, ByteArray.size_append, strOf_size]
    omega
theorem st_msg {X : World} {g o : Nat} {y : MM × ByteArray} (h : X.rangeAt g o (stA y).toList) : X.rangeAt g o (msgV y.1).toList ∧ X.cell? ⟨g, o + 11, none⟩ = some (.string y.2) := by
  refine ⟨fun j u hj => ?_, h 11 _ rfl⟩
  refine h j u ?_
  have hj11 : j < 11 := (List.getElem?_eq_some_iff.1 hj).1
  rw [show (stA y).toList = (msgV y.1).toList ++ [.string y.2] from rfl, List.getElem?_append_left (by exact hj11)]
  exact hj
theorem run_neqS {w : World} {a : Act} (x y : Operand) (d : Option Tmp) (ty t2 : TypeId) (pos : String) (af : Array _) (gd : Option (Nat × Bool)) (m : MM) (hx : a.eval x = .agg (msgV m)) (hy : a.eval y = .agg (msgV m)) :
    (execOp a.eval { dst := d, op := .binOp .neq 27 x y t2, type := ty, pos := pos, after := af, guard := gd }).run Tryd.prog w = .ok (.value (.bool false)) w := by
  rw [run_neqM x y d ty t2 pos af gd m m hx hy, sameM_self]
  rfl
theorem split_end (S : ByteArray) : ∀ f i, S.size ≤ i + f → ∀ e ∈ splitP S i, e.1 + e.2.1 ≤ S.size := by
  intro f
  induction f with
  | zero => intro i hi e he; rw [splitP_end (by omega)] at he; cases he
  | succ f ih =>
    intro i hi e he
    by_cases hl : i < S.size
    · cases hn : nextP S i with
      | none => rw [splitP_none hl hn] at he; exact ih (i + 1) (by omega) e he
      | some x =>
        obtain ⟨n, m⟩ := x
        have hz := firstP_size hn
        rw [ByteArray.size_extract] at hz
        rw [splitP_some hl hn] at he
        rcases List.mem_cons.1 he with rfl | he
        · show i + n ≤ _; omega
        · exact ih (i + n) (by omega) e he
    · rw [splitP_end (by omega)] at he; cases he
theorem ics_append (a b : List Nat) : ics (a ++ b) = ics a ++ ics b := List.map_append
set_option maxRecDepth 100000 in
theorem infoI3 : (Tryd.prog.info? 3).map (fun i => (i.zero, i.size, i.bytes)) = some (some (.int .i64 0), 1, 8) := by kernel_rfl
set_option maxHeartbeats 16000000 in
set_option maxRecDepth 100000 in
set_option linter.unusedSimpArgs false in
/-- FrameStream, of lists that a machine may hold -/
theorem frameStream_any (ao : Option Addr) (ad0 : Addr) (cap : Nat) (ys : List (MM × ByteArray)) (tl : ByteArray) (ao2 : Option Addr) (b2 off2 cap2 : Nat) (cs : List Int) (w : World)
    (hao : ao = none → cap = 0 ∧ ys.length = 0) (hao2 : ∀ ad, ao = some ad → ad = ad0) (hy : ∀ j u, (yL ys)[j]? = some u → w.cell? (ad0.add j) = some u) (hyl : ys.length ≤ 1048576) (hys : sumL ys ≤ 1048576) (htl : tl.size ≤ 1048576)
    (hco : 0 < cs.length → ao2 = some ⟨b2, off2, none⟩) (hcl : cs.length ≤ 1048576) (hcb : 0 < cs.length → b2 < w.heap.size) (hc : ∀ (j : Nat) c, cs[j]? = some c → w.cell? ⟨b2, off2 + j, none⟩ = some (.int .i64 c))
    (hT : TabF w) (hK : TabK w) (h6 : 6 ≤ w.heap.size) (hT4 : Tab4 5 w) :
    Calls Tryd.prog 5 #[.slice ao ys.length cap, .string tl, .slice ao2 cs.length cap2] w fun e w' => e = .returned (.bool true) ∧ Below w.heap.size w w' := by
  have KT : Hid (∀ w', Below w.heap.size w w' → TabF w' ∧ TabK w' ∧ Tab4 5 w' ∧ 6 ≤ w'.heap.size) := fun w' hb => ⟨hT.below hb, hK.below hb, fun j hj => (hb.cell (World.block_lt_of_cell? w _ (hT4 j hj))).trans (hT4 j hj), Nat.le_trans h6 hb.size⟩
  have HY : Hid (∀ j u, (yL ys)[j]? = some u → (w.alloc (.cells (stA (stM, ⟨#[]⟩)) 49)).cell? (ad0.add j) = some u) := fun j u hj => by
    have := hy j u hj
    exact (((Below.refl w.heap.size w).alloc (Nat.le_refl _) (.cells (stA (stM, ⟨#[]⟩)) 49)).cell (World.block_lt_of_cell? w _ this)).trans this
  have O1 : Hid ((w.alloc (.cells (stA (stM, ⟨#[]⟩)) 49)).ownsRow w.heap.size 49 12 (.slice (some ⟨w.heap.size, 0, none⟩) 1 1) [(stM, (⟨#[]⟩ : ByteArray))].length (yL [(stM, (⟨#[]⟩ : ByteArray))])) := World.ownsRow_lit w (stA (stM, ⟨#[]⟩)) 1 (Nat.le_refl _) (by unfold maxLen; omega) rfl
  have A0 := hide (And.intro hao hao2)
  have C0 := hide (And.intro hco (And.intro hcb hc))
  clear hT hK hT4 hy hao hao2 hco hcb hc
  go_enter Tryd.func5, Tryd.ntmps5
  go_wp2_with (first | (refine wpList_buildMsgH rfl _ rfl stM (by kernel_rfl) ?_) | (refine wpList_buildSt rfl (.tmp 20) rfl stM rfl ?_) | (refine wpList_bsSt rfl (.tmp 21) rfl (stM, ⟨#[]⟩) rfl ?_) | (refine wpList_appSt rfl (.tmp 22) (.tmp 23) rfl w.heap.size _ [(stM, (⟨#[]⟩ : ByteArray))] ys ao ad0 cap rfl rfl A0.out.1 A0.out.2 O1.out HY.out (by simp only [List.length_cons, List.length_nil]; omega) (by simp) ?_; intro va w1 oa ga))
  obtain ⟨zs, hzs⟩ : ∃ zs, [(stM, (⟨#[]⟩ : ByteArray))] ++ ys = zs := ⟨_, rfl⟩
  have hzl : zs.length = 1 + ys.length := by rw [← hzs, List.length_append]; rfl
  have hzb : zs.length ≤ 1048577 := by omega
  have hz0' : 0 < zs.length := by omega
  have hzy : sumL zs ≤ 1048576 := by rw [← hzs]; unfold sumL at *; rw [List.map_append, List.sum_append]; show 0 + 0 + _ ≤ _; omega
  rw [hzs] at oa
  have BW : Below w.heap.size w w1 := ((Below.refl w.heap.size w).alloc (Nat.le_refl _) _).grown ga (by simp) (fun j hj => by cases hj; exact Nat.le_refl _)
  obtain ⟨ag, acap, hva, hAC⟩ : ∃ ag acap, va = .slice (some ⟨ag, 0, none⟩) zs.length acap ∧ ∀ X, Below w1.heap.size w1 X → ∀ q (hq : q < zs.length), X.rangeAt ag (q * 12) (stA zs[q]).toList := by
    rcases oa.2 with ⟨_, h0⟩ | ⟨g, cp, cur, hv, _⟩
    · omega
    · subst hv
      refine ⟨g, cp, rfl, fun X hb q hq j u hu => ?_⟩
      have hj : j < 12 := (List.getElem?_eq_some_iff.1 hu).1
      have := oa.cells (g := g) rfl (q * 12 + j) u (by rw [yL_at zs q hq j hj]; exact hu)
      rw [Addr.add_mid, Nat.zero_add] at this
      exact (hb.cell (World.block_lt_of_cell? w1 _ this)).trans this
  subst hva
  have AC := hide hAC
  have HBW := hide BW
  have KW : Hid (∀ X, Below w1.heap.size w1 X → Below w.heap.size w X) := fun X hb => BW.trans (hb.mono BW.size)
  clear hAC BW oa ga hzs O1 HY A0 hzl
  obtain ⟨i0, hi0, hz0, hz1, hz2⟩ := info_partsF infoMg
  obtain ⟨i3, hi3, hy0, hy1, hy2⟩ := info_partsF infoI3
  go_loopw [7, 8, 9, 10, 12, 13, 14, 15, 16] (fun v7 v8 v9 v10 v12 _ _ _ _ wr => ∃ (q : Nat) (T : ByteArray) (L : List MM) (E : List Nat) (k : Nat), q ≤ zs.length ∧ v12 = .int .i64 (q : Int) ∧ v7 = .string T ∧ v8 = .int .i64 (k : Int) ∧ SmS zs w1 q T L E k v9 v10 wr) (fun _ _ _ _ v12 _ _ _ _ _ => zs.length - (intOf v12).toNat)
  case atStart => exact ⟨0, ⟨#[]⟩, [], [], 0, Nat.zero_le _, rfl, rfl, rfl, .nil, rfl, rfl, Nat.zero_le _, Nat.le_refl _, World.ownsRow_nil _ _ _ _, World.ownsRow_nil _ _ _ _, Below.refl _ _⟩
  case round =>
    obtain ⟨q, T, L, E, k, hq, rfl, rfl, rfl, hS⟩ := hrel
    have hsz := hS.siz
    have hke := hS.kle
    have hln := hS.len
    have hln2 := hS.len2
    have hsl := sumL_le zs q
    have HS := hide hS
    obtain ⟨vb, vc, rfl⟩ := own_sl hS.want
    obtain ⟨eb, ec, rfl⟩ := own_sl hS.ends
    have hTz : T.size ≤ 10000000000 := by omega
    have LN := hide hln
    have LN2 := hide hln2
    have hLb : L.length ≤ 1048577 := by omega
    have hEb : E.length ≤ 1048577 := by omega
    clear hln hln2 hsz hsl
    by_cases hql : q < zs.length
    case neg =>
      obtain rfl : q = zs.length := by omega
      have hqi : ¬ (zs.length : Int) < (zs.length : Int) := by omega
      have LI := hide (litter_any tl (by omega) wr)
      clear hS
      go_wp2_with fail
      refine Calls.mono LI.out ?_
      rintro e w2 ⟨l, rfl, hl71, hlz, b2'⟩
      have hSW := HS.out.stw.append (stw_lit l hl71)
      rw [List.append_nil, List.map_nil, List.append_nil] at hSW
      have lz := strOf_size l
      have hwr : w1.heap.size ≤ wr.heap.size := HS.out.bel.size
      have B2 := hide (HS.out.bel.trans (b2'.mono hwr))
      have OW := hide (own_belowS HS.out.want b2')
      have OE := hide (own_belowS HS.out.ends b2')
      have hsum : (T ++ strOf l).size = T.size + l.length := by rw [ByteArray.size_append, lz]
      generalize strOf l = SL at *
      obtain ⟨T2, hT2⟩ : ∃ T2, T ++ SL = T2 := ⟨_, rfl⟩
      rw [hT2] at hSW hsum
      have HT2 := hide hT2
      have SWW := hide hSW
      have hT2z : T2.size ≤ 20000000000 := by omega
      clear hT2 hSW b2' LI hl71 HS
      have SPL := hide (split_any T2 (by omega) w2 (KT.out _ (KW.out _ B2.out)).1 (KT.out _ (KW.out _ B2.out)).2.2.1)
      obtain ⟨s1, s2, s3, s4⟩ := SWW.out.split
      have hLP : L.length = (splitP T2 0).length := by rw [← s1, List.length_map]
      have hEP : E.length = (splitP T2 0).length := by rw [← s2, List.length_map]
      have hP0 : 0 < (splitP T2 0).length := by rw [← hLP, LN.out]; exact hz0'
      have hPl := splitP_len T2
      have hTe : T ++ SL = T2 := HT2.out
      have S1 := hide s1
      have S2 := hide s2
      have OW2 : Hid (w2.ownsRow w1.heap.size 27 11 (.slice vb (splitP T2 0).length vc) (splitP T2 0).length (mcs L)) := by show World.ownsRow _ _ _ _ _ _ _; rw [← hLP]; exact OW.out
      have OE2 : Hid (w2.ownsRow w1.heap.size 3 1 (.slice eb (splitP T2 0).length ec) (splitP T2 0).length (ics E)) := by show World.ownsRow _ _ _ _ _ _ _; rw [← hEP]; exact OE.out
      have hSLz : SL.size ≤ 1048576 := by omega
      have SW3 : Hid (Stw T2 L E (k + SL.size)) := by show Stw _ _ _ _; rw [lz]; exact SWW.out
      clear s1 s2 s3 s4 hsum lz
      have LP := hide hLP
      have EP := hide hEP
      go_upto_region 21 with fail
      clear hTe
      go_wp2_with fail
      refine Calls.mono SPL.out ?_
      rintro e w3 ⟨vp, rfl, op, b3⟩
      have B3 := hide (B2.out.trans (b3.mono B2.out.size))
      have OW3 := hide (own_belowS OW2.out b3)
      have OE3 := hide (own_belowS OE2.out b3)
      obtain ⟨pb, pc, rfl, kp⟩ := own_pie op
      obtain ⟨pg, rfl, _, pcl⟩ := kp hP0
      have hmL : Hid (∀ X, Below w3.heap.size w3 X → ∀ q (hq : q < (splitP T2 0).length), ∃ wg eg, vb = some ⟨wg, 0, none⟩ ∧ eb = some ⟨eg, 0, none⟩ ∧ X.rangeAt wg (q * 11) (msgV (splitP T2 0)[q].2.2).toList ∧ X.cell? ⟨eg, q, none⟩ = some (.int .i64 (((splitP T2 0)[q].1 + (splitP T2 0)[q].2.1 : Nat) : Int)) ∧ X.rangeAt pg (q * 13) (pieL (splitP T2 0)[q])) := fun X hb q hq => by
        have o1 := OW3.out
        rw [← hLP] at o1
        obtain ⟨ba, cp, e1, km⟩ := own_msg o1
        obtain ⟨wg, hwg, _, _, wcl⟩ := km (by omega)
        simp only [Value.slice.injEq] at e1
        have o2 := OE3.out
        rw [← hEP] at o2
        obtain ⟨ba2, cp2, e2, ke⟩ := own_ints o2
        obtain ⟨eg, heg, _, ecl⟩ := ke (by omega)
        simp only [Value.slice.injEq] at e2
        refine ⟨wg, eg, by rw [e1.1]; exact hwg, by rw [e2.1]; exact heg, ?_, ?_, ?_⟩
        · have r := mcs_range wcl q (by omega)
          have eL : L[q]'(by omega) = (splitP T2 0)[q].2.2 := by
            have : L[q]? = some (splitP T2 0)[q].2.2 := by rw [← S1.out, List.getElem?_map, List.getElem?_eq_getElem hq]; rfl
            rw [List.getElem?_eq_getElem (by omega)] at this
            exact Option.some.inj this
          rw [eL] at r
          exact fun j v hv => (hb.cell (World.block_lt_of_cell? w3 _ (r j v hv))).trans (r j v hv)
        · have r := ecl q (by omega)
          have eE : E[q]'(by omega) = (splitP T2 0)[q].1 + (splitP T2 0)[q].2.1 := by
            have : E[q]? = some ((splitP T2 0)[q].1 + (splitP T2 0)[q].2.1) := by rw [← S2.out, List.getElem?_map, List.getElem?_eq_getElem hq]; rfl
            rw [List.getElem?_eq_getElem (by omega)] at this
            exact Option.some.inj this
          rw [eE] at r
          exact (hb.cell (World.block_lt_of_cell? w3 _ r)).trans r
        · have r := pcs_range pcl q hq
          exact fun j v hv => (hb.cell (World.block_lt_of_cell? w3 _ (r j v hv))).trans (r j v hv)
      obtain ⟨wg0, eg0, hvb, heb, _⟩ := hmL.out w3 (Below.refl _ _) 0 hP0
      subst hvb heb
      have hEnd : Hid (∀ q (hq : q < (splitP T2 0).length), (splitP T2 0)[q].1 + (splitP T2 0)[q].2.1 ≤ T2.size) := fun q hq => split_end T2 T2.size 0 (by omega) _ (List.getElem_mem hq)
      clear op b3 kp pcl SPL OW2 OE2 OW OE
      generalize hPg : splitP T2 0 = PP at *
      clear hPg
      go_wp2_with fail
      go_loopw [19] (fun v19 wq => ∃ q : Nat, q ≤ PP.length ∧ v19 = .int .i64 (q : Int) ∧ Below w3.heap.size w3 wq) (fun v19 _ => PP.length - (intOf v19).toNat)
      case atStart => exact ⟨0, Nat.zero_le _, rfl, Below.refl _ _⟩
      case round =>
        obtain ⟨q, hq, rfl, hBq⟩ := hrel
        have BQ := hide hBq
        clear hBq
        by_cases hqp : q < PP.length
        case neg =>
          obtain rfl : q = PP.length := by omega
          have hqj : ¬ (PP.length : Int) < (PP.length : Int) := by omega
          have hs3 : w1.heap.size ≤ w3.heap.size := B3.out.size
          have BT := hide (B3.out.trans (BQ.out.mono hs3))
          have CO := comes_any T2 L E (k + SL.size) SW3.out (by rw [LP.out]; exact hP0) (by omega) ao2 b2 off2 cap2 cs C0.out.1 hcl wr (fun h => Nat.lt_of_lt_of_le (C0.out.2.1 h) (KW.out _ BT.out).size) (fun j c hj => ((KW.out _ BT.out).cell (World.block_lt_of_cell? w _ (C0.out.2.2 j c hj))).trans (C0.out.2.2 j c hj)) w1.heap.size w1.heap.size (.slice (some ⟨wg0, 0, none⟩) PP.length vc) (.slice (some ⟨eg0, 0, none⟩) PP.length ec) (by rw [LP.out]; exact own_belowS OW3.out BQ.out) (by rw [EP.out]; exact own_belowS OE3.out BQ.out) (KT.out _ (KW.out _ BT.out)).1 (KT.out _ (KW.out _ BT.out)).2.2.1
          rw [Int.natCast_add] at CO
          have CO := hide CO
          go_wp2_with fail
          refine Calls.mono CO.out ?_
          rintro e w4 ⟨rfl, b4⟩
          have b5 := (KW.out _ BT.out).trans (b4.mono (KW.out _ BT.out).size)
          have B5 := hide b5
          clear b4 b5 CO
          go_wp2_with fail
          go_ret
          exact ⟨rfl, B5.out⟩
        case pos =>
          have hqj : (q : Int) < (PP.length : Int) := by omega
          have R0 : Hid (∀ X, Below w3.heap.size w3 X → X.rangeAt wg0 (q * 11) (msgV PP[q].2.2).toList ∧ X.cell? ⟨eg0, q, none⟩ = some (.int .i64 ((PP[q].1 + PP[q].2.1 : Nat) : Int)) ∧ X.rangeAt pg (q * 13) (pieL PP[q])) := fun X hb => by
            obtain ⟨a1, a2, a3, a4, a5⟩ := hmL.out X hb q hqp
            cases a3
            cases a4
            exact a5
          have hE9 := hEnd.out q hqp
          obtain ⟨⟨pi, pn, pm⟩, hpe⟩ : ∃ p, p = PP[q] := ⟨_, rfl⟩
          rw [← hpe] at R0 hE9
          dsimp only at R0 hE9
          obtain ⟨ee, hee⟩ : ∃ ee, pi + pn = ee := ⟨_, rfl⟩
          rw [hee] at R0 hE9
          have hei : (pi : Int) + (pn : Int) = (ee : Int) := by omega
          have R1 : Hid (∀ X, Below w3.heap.size w3 X → X.rangeAt wg0 (q * 11) (msgV pm).toList) := fun X hb => (R0.out X hb).1
          have R2 : Hid (∀ X, Below w3.heap.size w3 X → X.rangeAt pg (q * 13 + 2) (msgV pm).toList) := fun X hb j u hj => by
            have := (R0.out X hb).2.2 (2 + j) u (by rw [show pieL (pi, pn, pm) = .int .i64 (pi : Int) :: .int .i64 (pn : Int) :: (msgV pm).toList from rfl, Nat.add_comm 2 j]; exact hj)
            rw [show q * 13 + 2 + j = q * 13 + (2 + j) by omega]; exact this
          have R3 : Hid (∀ X, Below w3.heap.size w3 X → X.cell? ⟨pg, q * 13, none⟩ = some (.int .i64 (pi : Int)) ∧ X.cell? ⟨pg, q * 13 + 1, none⟩ = some (.int .i64 (pn : Int)) ∧ X.cell? ⟨eg0, q, none⟩ = some (.int .i64 (ee : Int))) := fun X hb => ⟨(R0.out X hb).2.2 0 _ rfl, (R0.out X hb).2.2 1 _ rfl, (R0.out X hb).2.1⟩
          have BD := hide BQ.out.drew
          clear hpe hee R0
          go_upto_region 27 with fail
          refine wp_region_held_drew (S := fun X => Below w3.heap.size w3 X) (by kernel_rfl) BD.out (fun hHeld => ?_)
          refine wpAnyH_take (i := 0) (v := (.slice (some ⟨pg, 0, none⟩) PP.length pc)) rfl (by kernel_rfl) (by kernel_rfl) (by kernel_rfl) (fun _ _ _ h => h) (Or.inl ⟨by rfl, ?_⟩) (by assumption) ?_
          · intro w' hSw
            (try dsimp only at hSw)
            go_simp <;> first | exact i64_in (by omega) (by omega) | exact u32_in (by omega) (by omega) | exact u32_add _ _ | (rw [Int.tmod_eq_emod_of_nonneg (by omega)]; omega) | (rw [Int.tdiv_eq_ediv_of_nonneg (by omega)]; omega) | omega
          (try simp only [Act.put, List.setIfInBounds_toArray, List.set_cons_zero, List.set_cons_succ])
          refine wpAnyH_take (i := 1) (v := (.int .i64 (q : Int))) rfl (by kernel_rfl) (by kernel_rfl) (by kernel_rfl) (fun _ _ _ h => h) (Or.inl ⟨by rfl, ?_⟩) (by assumption) ?_
          · intro w' hSw
            (try dsimp only at hSw)
            go_simp <;> first | exact i64_in (by omega) (by omega) | exact u32_in (by omega) (by omega) | exact u32_add _ _ | (rw [Int.tmod_eq_emod_of_nonneg (by omega)]; omega) | (rw [Int.tdiv_eq_ediv_of_nonneg (by omega)]; omega) | omega
          (try simp only [Act.put, List.setIfInBounds_toArray, List.set_cons_zero, List.set_cons_succ])
          refine wpAnyH_take (i := 2) (v := (.pointer (some ⟨pg, q * 13, none⟩))) rfl (by kernel_rfl) (by kernel_rfl) (by kernel_rfl) (fun _ _ _ h => h) (Or.inl ⟨by rfl, ?_⟩) (by assumption) ?_
          · intro w' hSw
            (try dsimp only at hSw)
            go_simp <;> first | exact i64_in (by omega) (by omega) | exact u32_in (by omega) (by omega) | exact u32_add _ _ | (rw [Int.tmod_eq_emod_of_nonneg (by omega)]; omega) | (rw [Int.tdiv_eq_ediv_of_nonneg (by omega)]; omega) | omega
          (try simp only [Act.put, List.setIfInBounds_toArray, List.set_cons_zero, List.set_cons_succ])
          refine wpAnyH_take (i := 3) (v := (.pointer (some ⟨pg, q * 13 + 2, none⟩))) rfl (by kernel_rfl) (by kernel_rfl) (by kernel_rfl) (fun _ _ _ h => h) (Or.inl ⟨by rfl, ?_⟩) (by assumption) ?_
          · intro w' hSw
            (try dsimp only at hSw)
            go_simp <;> first | exact i64_in (by omega) (by omega) | exact u32_in (by omega) (by omega) | exact u32_add _ _ | (rw [Int.tmod_eq_emod_of_nonneg (by omega)]; omega) | (rw [Int.tdiv_eq_ediv_of_nonneg (by omega)]; omega) | omega
          (try simp only [Act.put, List.setIfInBounds_toArray, List.set_cons_zero, List.set_cons_succ])
          refine wpAnyH_take (i := 4) (v := .agg (msgV pm)) rfl (by kernel_rfl) (by kernel_rfl) (by kernel_rfl) (fun _ _ _ h => h) (yieldsIf_load_mid ?hw4 27 (.tmp 99) ?ho4 pg (q * 13 + 2) ?hx4 (msgV pm).toList _ (fun w' h => R2.out w' h) Tryd.underlying27 rfl infoMs11) (by assumption) ?_
          case hw4 => kernel_rfl
          case ho4 => rfl
          case hx4 => kernel_rfl
          (try simp only [Act.put, List.getElem_toArray, List.getElem_cons_zero, List.getElem_cons_succ, List.setIfInBounds_toArray, List.set_cons_zero, List.set_cons_succ])
          refine wpAnyH_take (i := 5) (v := (.slice (some ⟨wg0, 0, none⟩) PP.length vc)) rfl (by kernel_rfl) (by kernel_rfl) (by kernel_rfl) (fun _ _ _ h => h) (Or.inl ⟨by rfl, ?_⟩) (by assumption) ?_
          · intro w' hSw
            (try dsimp only at hSw)
            go_simp
          (try simp only [Act.put, List.getElem_toArray, List.getElem_cons_zero, List.getElem_cons_succ, List.setIfInBounds_toArray, List.set_cons_zero, List.set_cons_succ])
          refine wpAnyH_take (i := 6) (v := (.int .i64 (q : Int))) rfl (by kernel_rfl) (by kernel_rfl) (by kernel_rfl) (fun _ _ _ h => h) (Or.inl ⟨by rfl, ?_⟩) (by assumption) ?_
          · intro w' hSw
            (try dsimp only at hSw)
            go_simp
          (try simp only [Act.put, List.getElem_toArray, List.getElem_cons_zero, List.getElem_cons_succ, List.setIfInBounds_toArray, List.set_cons_zero, List.set_cons_succ])
          refine wpAnyH_take (i := 7) (v := (.pointer (some ⟨wg0, q * 11, none⟩))) rfl (by kernel_rfl) (by kernel_rfl) (by kernel_rfl) (fun _ _ _ h => h) (Or.inl ⟨by rfl, ?_⟩) (by assumption) ?_
          · intro w' hSw
            (try dsimp only at hSw)
            go_simp
          (try simp only [Act.put, List.getElem_toArray, List.getElem_cons_zero, List.getElem_cons_succ, List.setIfInBounds_toArray, List.set_cons_zero, List.set_cons_succ])
          refine wpAnyH_take (i := 8) (v := .agg (msgV pm)) rfl (by kernel_rfl) (by kernel_rfl) (by kernel_rfl) (fun _ _ _ h => h) (yieldsIf_load_mid ?hw8 27 (.tmp 103) ?ho8 wg0 (q * 11) ?hx8 (msgV pm).toList _ (fun w' h => R1.out w' h) Tryd.underlying27 rfl infoMs11) (by assumption) ?_
          case hw8 => kernel_rfl
          case ho8 => rfl
          case hx8 => kernel_rfl
          (try simp only [Act.put, List.getElem_toArray, List.getElem_cons_zero, List.getElem_cons_succ, List.setIfInBounds_toArray, List.set_cons_zero, List.set_cons_succ])
          refine wpAnyH_take (i := 9) (v := (.bool false)) rfl (by kernel_rfl) (by kernel_rfl) (by kernel_rfl) (fun _ _ _ h => h) (Or.inl ⟨by rfl, ?_⟩) (by assumption) ?_
          · intro w' hSw
            (try dsimp only at hSw)
            exact run_neqS _ _ _ _ _ _ _ _ pm (by kernel_rfl) (by kernel_rfl)
          (try simp only [Act.put, List.getElem_toArray, List.getElem_cons_zero, List.getElem_cons_succ, List.setIfInBounds_toArray, List.set_cons_zero, List.set_cons_succ])
          refine wpAnyH_take (i := 10) (v := (.bool false)) rfl (by kernel_rfl) (by kernel_rfl) (by kernel_rfl) (fun _ _ _ h => h) (Or.inl ⟨by rfl, ?_⟩) (by assumption) ?_
          · intro w' hSw
            (try dsimp only at hSw)
            go_simp
          (try simp only [Act.put, List.getElem_toArray, List.getElem_cons_zero, List.getElem_cons_succ, List.setIfInBounds_toArray, List.set_cons_zero, List.set_cons_succ])
          refine wpAnyH_take (i := 11) (v := (.slice (some ⟨pg, 0, none⟩) PP.length pc)) rfl (by kernel_rfl) (by kernel_rfl) (by kernel_rfl) (fun _ _ _ h => h) (Or.inl ⟨by kernel_rfl, ?_⟩) (by assumption) ?_
          · intro w' hSw
            (try dsimp only at hSw)
            go_simp
          (try simp only [Act.put, List.getElem_toArray, List.getElem_cons_zero, List.getElem_cons_succ, List.setIfInBounds_toArray, List.set_cons_zero, List.set_cons_succ])
          refine wpAnyH_take (i := 12) (v := (.int .i64 (q : Int))) rfl (by kernel_rfl) (by kernel_rfl) (by kernel_rfl) (fun _ _ _ h => h) (Or.inl ⟨by kernel_rfl, ?_⟩) (by assumption) ?_
          · intro w' hSw
            (try dsimp only at hSw)
            go_simp
          (try simp only [Act.put, List.getElem_toArray, List.getElem_cons_zero, List.getElem_cons_succ, List.setIfInBounds_toArray, List.set_cons_zero, List.set_cons_succ])
          refine wpAnyH_take (i := 13) (v := (.pointer (some ⟨pg, q * 13, none⟩))) rfl (by kernel_rfl) (by kernel_rfl) (by kernel_rfl) (fun _ _ _ h => h) (Or.inl ⟨by kernel_rfl, ?_⟩) (by assumption) ?_
          · intro w' hSw
            (try dsimp only at hSw)
            (go_simp <;> omega)
          (try simp only [Act.put, List.getElem_toArray, List.getElem_cons_zero, List.getElem_cons_succ, List.setIfInBounds_toArray, List.set_cons_zero, List.set_cons_succ])
          refine wpAnyH_take (i := 14) (v := (.pointer (some ⟨pg, q * 13, none⟩))) rfl (by kernel_rfl) (by kernel_rfl) (by kernel_rfl) (fun _ _ _ h => h) (Or.inl ⟨by kernel_rfl, ?_⟩) (by assumption) ?_
          · intro w' hSw
            (try dsimp only at hSw)
            go_simp
          (try simp only [Act.put, List.getElem_toArray, List.getElem_cons_zero, List.getElem_cons_succ, List.setIfInBounds_toArray, List.set_cons_zero, List.set_cons_succ])
          refine wpAnyH_take (i := 15) (v := (.int .i64 (pi : Int))) rfl (by kernel_rfl) (by kernel_rfl) (by kernel_rfl) (fun _ _ _ h => h) (Or.inl ⟨by kernel_rfl, ?_⟩) (by assumption) ?_
          · intro w' hSw
            (try dsimp only at hSw)
            (obtain ⟨x1, x2, x3⟩ := R3.out _ hSw; go_simp)
          (try simp only [Act.put, List.getElem_toArray, List.getElem_cons_zero, List.getElem_cons_succ, List.setIfInBounds_toArray, List.set_cons_zero, List.set_cons_succ])
          refine wpAnyH_take (i := 16) (v := (.slice (some ⟨pg, 0, none⟩) PP.length pc)) rfl (by kernel_rfl) (by kernel_rfl) (by kernel_rfl) (fun _ _ _ h => h) (Or.inl ⟨by kernel_rfl, ?_⟩) (by assumption) ?_
          · intro w' hSw
            (try dsimp only at hSw)
            go_simp
          (try simp only [Act.put, List.getElem_toArray, List.getElem_cons_zero, List.getElem_cons_succ, List.setIfInBounds_toArray, List.set_cons_zero, List.set_cons_succ])
          refine wpAnyH_take (i := 17) (v := (.int .i64 (q : Int))) rfl (by kernel_rfl) (by kernel_rfl) (by kernel_rfl) (fun _ _ _ h => h) (Or.inl ⟨by kernel_rfl, ?_⟩) (by assumption) ?_
          · intro w' hSw
            (try dsimp only at hSw)
            go_simp
          (try simp only [Act.put, List.getElem_toArray, List.getElem_cons_zero, List.getElem_cons_succ, List.setIfInBounds_toArray, List.set_cons_zero, List.set_cons_succ])
          refine wpAnyH_take (i := 18) (v := (.pointer (some ⟨pg, q * 13, none⟩))) rfl (by kernel_rfl) (by kernel_rfl) (by kernel_rfl) (fun _ _ _ h => h) (Or.inl ⟨by kernel_rfl, ?_⟩) (by assumption) ?_
          · intro w' hSw
            (try dsimp only at hSw)
            (go_simp <;> omega)
          (try simp only [Act.put, List.getElem_toArray, List.getElem_cons_zero, List.getElem_cons_succ, List.setIfInBounds_toArray, List.set_cons_zero, List.set_cons_succ])
          refine wpAnyH_take (i := 19) (v := (.pointer (some ⟨pg, q * 13 + 1, none⟩))) rfl (by kernel_rfl) (by kernel_rfl) (by kernel_rfl) (fun _ _ _ h => h) (Or.inl ⟨by kernel_rfl, ?_⟩) (by assumption) ?_
          · intro w' hSw
            (try dsimp only at hSw)
            go_simp
          (try simp only [Act.put, List.getElem_toArray, List.getElem_cons_zero, List.getElem_cons_succ, List.setIfInBounds_toArray, List.set_cons_zero, List.set_cons_succ])
          refine wpAnyH_take (i := 20) (v := (.int .i64 (pn : Int))) rfl (by kernel_rfl) (by kernel_rfl) (by kernel_rfl) (fun _ _ _ h => h) (Or.inl ⟨by kernel_rfl, ?_⟩) (by assumption) ?_
          · intro w' hSw
            (try dsimp only at hSw)
            (obtain ⟨x1, x2, x3⟩ := R3.out _ hSw; go_simp)
          (try simp only [Act.put, List.getElem_toArray, List.getElem_cons_zero, List.getElem_cons_succ, List.setIfInBounds_toArray, List.set_cons_zero, List.set_cons_succ])
          refine wpAnyH_take (i := 21) (v := (.int .i64 (ee : Int))) rfl (by kernel_rfl) (by kernel_rfl) (by kernel_rfl) (fun _ _ _ h => h) (Or.inl ⟨by kernel_rfl, ?_⟩) (by assumption) ?_
          · intro w' hSw
            (try dsimp only at hSw)
            (go_simp <;> exact i64_in (by omega) (by omega))
          (try simp only [Act.put, List.getElem_toArray, List.getElem_cons_zero, List.getElem_cons_succ, List.setIfInBounds_toArray, List.set_cons_zero, List.set_cons_succ])
          refine wpAnyH_take (i := 22) (v := (.slice (some ⟨eg0, 0, none⟩) PP.length ec)) rfl (by kernel_rfl) (by kernel_rfl) (by kernel_rfl) (fun _ _ _ h => h) (Or.inl ⟨by kernel_rfl, ?_⟩) (by assumption) ?_
          · intro w' hSw
            (try dsimp only at hSw)
            go_simp
          (try simp only [Act.put, List.getElem_toArray, List.getElem_cons_zero, List.getElem_cons_succ, List.setIfInBounds_toArray, List.set_cons_zero, List.set_cons_succ])
          refine wpAnyH_take (i := 23) (v := (.int .i64 (q : Int))) rfl (by kernel_rfl) (by kernel_rfl) (by kernel_rfl) (fun _ _ _ h => h) (Or.inl ⟨by kernel_rfl, ?_⟩) (by assumption) ?_
          · intro w' hSw
            (try dsimp only at hSw)
            go_simp
          (try simp only [Act.put, List.getElem_toArray, List.getElem_cons_zero, List.getElem_cons_succ, List.setIfInBounds_toArray, List.set_cons_zero, List.set_cons_succ])
          refine wpAnyH_take (i := 24) (v := (.pointer (some ⟨eg0, q, none⟩))) rfl (by kernel_rfl) (by kernel_rfl) (by kernel_rfl) (fun _ _ _ h => h) (Or.inl ⟨by kernel_rfl, ?_⟩) (by assumption) ?_
          · intro w' hSw
            (try dsimp only at hSw)
            (go_simp <;> omega)
          (try simp only [Act.put, List.getElem_toArray, List.getElem_cons_zero, List.getElem_cons_succ, List.setIfInBounds_toArray, List.set_cons_zero, List.set_cons_succ])
          refine wpAnyH_take (i := 25) (v := (.int .i64 (ee : Int))) rfl (by kernel_rfl) (by kernel_rfl) (by kernel_rfl) (fun _ _ _ h => h) (Or.inl ⟨by kernel_rfl, ?_⟩) (by assumption) ?_
          · intro w' hSw
            (try dsimp only at hSw)
            (obtain ⟨x1, x2, x3⟩ := R3.out _ hSw; go_simp)
          (try simp only [Act.put, List.getElem_toArray, List.getElem_cons_zero, List.getElem_cons_succ, List.setIfInBounds_toArray, List.set_cons_zero, List.set_cons_succ])
          refine wpAnyH_take (i := 26) (v := (.bool false)) rfl (by kernel_rfl) (by kernel_rfl) (by kernel_rfl) (fun _ _ _ h => h) (Or.inl ⟨by kernel_rfl, ?_⟩) (by assumption) ?_
          · intro w' hSw
            (try dsimp only at hSw)
            (go_simp <;> simp)
          (try simp only [Act.put, List.getElem_toArray, List.getElem_cons_zero, List.getElem_cons_succ, List.setIfInBounds_toArray, List.set_cons_zero, List.set_cons_succ])
          refine wpAnyH_ready (rs := [27]) (by kernel_rfl) (by simp) ?_
          refine AllReadyH.cons rfl (fun K hK => ?_) AllReadyH.nil
          go_simp
          refine hK.out _ _ (BD.out) (fun hHeld => ?_)
          clear hK
          (try simp only [Act.put, List.setIfInBounds_toArray, List.set_cons_zero, List.set_cons_succ])
          refine wpAnyH_done (by kernel_rfl) ?_ _
          clear hHeld
          go_wp2_with fail
          go_roundw
          case rel => exact ⟨q + 1, by omega, by go_num, BD.out⟩
          case measure => simp [intOf]; omega
    case pos =>
      obtain ⟨rM, rT⟩ := st_msg (AC.out _ hS.bel q hql)
      have RT : Hid (∀ X, Below wr.heap.size wr X → X.cell? ⟨ag, q * 12 + 11, none⟩ = some (.string zs[q].2)) := fun X hb => (hb.cell (World.block_lt_of_cell? wr _ rT)).trans rT
      have PR := hide (proper_any zs[q].1 wr (KT.out _ (KW.out _ hS.bel)).2.1)
      have hyz := elem_le hql
      have NEXT : Hid (∀ {l : List UInt8}, (∀ b ∈ l, b ≠ 71) → l.length ≤ zs[q].2.size → _) := fun {l} a b => @SmS.next zs w1 q T L E k _ _ wr hS hql l a b
      have hqi : (q : Int) < (zs.length : Int) := by omega
      clear hS rT
      generalize zs[q] = y at *
      obtain ⟨ym, yt⟩ := y
      dsimp only at rM RT PR hyz NEXT
      go_wp2_with (refine wpList_load_mid rfl 27 (.tmp 34) rfl ag (q * 12) rfl (msgV ym).toList _ rM Tryd.underlying27 rfl infoMs11 ?_)
      refine Calls.mono PR.out ?_
      rintro e w2 ⟨m, c, hc1, hc16, hFit, rfl, b2'⟩
      obtain ⟨WX, eX, hX, bX1, bX⟩ := laid_new b2' m
      have FI := hide hFit
      have hEz := enc_size m c hc1 hc16 hFit
      clear b2' bX1 PR hFit
      have cT := RT.out _ bX
      have BX := hide bX
      have hwr : w1.heap.size ≤ wr.heap.size := HS.out.bel.size
      have LI := hide (litter_any yt (by omega) WX)
      go_upto_region 10 with (refine wpList_storeMsg rfl (.tmp 13) (.tmp 36) rfl w2.heap.size rfl m (mm0 0) rfl (heap_last _ _) ?_)
      rw [← eX]
      clear eX bX
      go_wp2_with fail
      refine Calls.mono LI.out ?_
      rintro e w3 ⟨l, rfl, hl71, hlz, b3⟩
      have HL := hide hl71
      have hX3 := blk_keep hX b3
      have B3 := hide (BX.out.trans (b3.mono BX.out.size))
      have EN := encode_any m w3 (KT.out _ (KW.out _ (HS.out.bel.trans (B3.out.mono hwr)))).1 (KT.out _ (KW.out _ (HS.out.bel.trans (B3.out.mono hwr)))).2.2.2 (KT.out _ (KW.out _ (HS.out.bel.trans (B3.out.mono hwr)))).2.2.1
      rw [encE_fit hc1 hc16 FI.out] at EN
      have EN := hide EN
      have lz : Hid ((strOf l).size = l.length) := strOf_size l
      clear b3 LI hl71 hX cT
      go_wp2_with (refine wpList_loadMsg rfl (.tmp 13) rfl m w2.heap.size rfl hX3 ?_)
      refine Calls.mono EN.out ?_
      rintro e w4 ⟨rfl, b4⟩
      have hX4 := blk_keep hX3 b4
      have B4 := hide (B3.out.trans (b4.mono B3.out.size))
      have B4w := hide (HS.out.bel.trans (B4.out.mono hwr))
      have OW := hide (own_belowS HS.out.want B4.out)
      have OE := hide (own_belowS HS.out.ends B4.out)
      have s4 : w1.heap.size ≤ w4.heap.size := B4w.out.size
      clear b4 EN hX3 B3 BX
      generalize hSM : encS m = SM at *
      generalize hSL : strOf l = SL at *
      have lz' := lz.out
      have SMe := hide hSM
      have SLe := hide hSL
      clear hSM hSL
      obtain ⟨z24, z44⟩ := hEz
      have z24i : ¬ (SM.size : Int) < 24 := by omega
      obtain ⟨hm1, hm2⟩ := msg_room (k := L.length) (by omega)
      have hm3 : E.length + 1 ≤ maxLen := by unfold maxLen; omega
      have hm4 : (E.length + 1) * 8 ≤ 140737488355328 := by omega
      have hsum : (T ++ SL ++ SM).size = T.size + SL.size + SM.size := by rw [ByteArray.size_append, ByteArray.size_append]
      go_upto_region 16 with (go_at_call 10; refine Calls.mono (num5_any _ _) ?_; rintro e wn ⟨rfl, rfl⟩)
      obtain ⟨T2, hT2⟩ : ∃ T2, T ++ SL ++ SM = T2 := ⟨_, rfl⟩
      rw [hT2] at hsum ⊢
      have HT2 := hide hT2
      have hT2z : T2.size ≤ 20000000000 := by omega
      clear hT2 hsum lz'
      go_wp2_with (first | (refine wpList_loadMsg rfl (.tmp 13) rfl m w2.heap.size rfl hX4 ?_) | (refine wpList_bsMsg rfl (.tmp 66) rfl m rfl ?_) | (at_builtin; refine wpList_append_own_at _ rfl _ _ 31 rfl w1.heap.size 27 i0 _ 11 104 Tryd.underlying31 hi0 hz0 hz1 hz2 rfl (by decide) _ _ _ rfl (OW.out.alloc _) ⟨w4.heap.size, 0, none⟩ 1 1 (mcs [m]) rfl (by rw [mcs_one]; rfl) (msg_cell w4 m) (msgs_one _) hm1 hm2 (by simp; omega) ?_; intro v5 w5 o5 g5 n5 a5; clear n5 a5; have oe5 := (OE.out.alloc (.cells (msgV m) 27)).kept g5 (row_apart OE.out OW.out (by decide)); have b5 : Below w1.heap.size w1 w5 := (B4w.out.alloc s4 _).grown g5 (by simp; omega) (fun j hj => (OW.out.lt j hj).1); have s5 := b5.size; have OE5 := hide oe5; have B5 := hide b5; have O5 := hide o5; obtain ⟨v5b, v5c, hv5⟩ := own_sl o5; subst hv5; clear oe5 b5 o5 g5) | (at_builtin; refine wpList_append_own_at _ rfl _ _ 47 rfl w1.heap.size 3 i3 (.int .i64 0) 1 8 Tryd.underlying47 hi3 hy0 hy1 hy2 rfl (by decide) _ _ _ rfl (OE5.out.alloc _) ⟨_, 0, none⟩ 1 1 [.int .i64 (T2.size : Int)] rfl rfl (cell_one_new _ _ _) (by simp [Value.oneCell']) hm3 hm4 (by simp; omega) ?_; intro v6 w6 o6 g6 n6 a6; clear n6 a6))
      have e2 : T ++ strOf l ++ encS m = T2 := by rw [SLe.out, SMe.out]; exact HT2.out
      have p1 : w6.ownsRow w1.heap.size 27 11 (.slice v5b (L.length + 1) v5c) (L ++ [m]).length (mcs (L ++ [m])) := by
        rw [mcs_append, List.length_append]
        exact (O5.out.alloc _).kept g6 (row_apart O5.out OE5.out (by decide))
      have p2 : w6.ownsRow w1.heap.size 3 1 v6 (E ++ [T2.size]).length (ics (E ++ [T2.size])) := by
        rw [ics_append, List.length_append]
        exact o6
      have p3 : Below w1.heap.size w1 w6 := (B5.out.alloc s5 _).grown g6 (by simp; omega) (fun j hj => (OE5.out.lt j hj).1)
      have p4 := NEXT.out HL.out hlz hc1 hc16 FI.out p1 (by rw [e2]; exact p2) p3
      rw [e2] at p4
      exact ⟨⟨q + 1, T2, L ++ [m], E ++ [T2.size], k + l.length, by omega, by rw [Int.natCast_add]; rfl, rfl, by rw [Int.natCast_add], p4⟩, by simp [intOf]; omega⟩
end Go.Proofs.YtgdjfocnaapooaaDoor
