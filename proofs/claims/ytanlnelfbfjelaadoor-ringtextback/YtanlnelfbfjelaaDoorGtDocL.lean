import Derived.Test.YtanlnelfbfjelaaDoorGtDocR
import Derived.Test.YtanlnelfbfjelaaDoorGGmWith
namespace Go.Proofs.YtanlnelfbfjelaaDoor
open Go.RowKit Go.Maps
theorem vA_congr {x y : Nat → Int} (h : ∀ i, i < 21 → x i = y i) : vA x = vA y := by
  unfold vA
  rw [h 0 (by omega), h 1 (by omega), h 2 (by omega), h 3 (by omega), h 4 (by omega), h 5 (by omega), h 6 (by omega), h 7 (by omega), h 8 (by omega), h 9 (by omega), h 10 (by omega), h 11 (by omega), h 12 (by omega), h 13 (by omega), h 14 (by omega), h 15 (by omega), h 16 (by omega), h 17 (by omega), h 18 (by omega), h 19 (by omega), h 20 (by omega)]
def mq (q : Nat) : Nat → Int := fun j => if j < q then -1 else 0
theorem mq_succ (q : Nat) : upd (mq q) q (-1) = mq (q + 1) := by
  funext j
  unfold upd mq
  by_cases h : j = q
  · subst h; rw [if_pos rfl, if_pos (by omega)]
  · rw [if_neg h]
    by_cases h2 : j < q
    · rw [if_pos h2, if_pos (by omega)]
    · rw [if_neg h2, if_neg (by omega)]
theorem VAt.keepB {w w' : World} {b : Nat} {x : Nat → Int} (h : VAt w b x) (hb : Below w.heap.size w w') : VAt w' b x := (hb.block _ (blk_lt h)).trans h
theorem exec_loadV {ρ : Operand → Value} {op : Oper} {w : World} {b : Nat} {x : Nat → Int} (p : Operand) (ho : op.op = .load 52 p) (hx : ρ p = .pointer (some ⟨b, 0, none⟩)) (hO : VAt w b x) : (execOp ρ op).run Tryd.prog w = .ok (.value (.agg (vA x))) w := by
  have hl : (Instr.loadAt 52 (.pointer (some ⟨b, 0, none⟩))).run Tryd.prog w = .ok (.agg (vA x)) w := by
    simp only [Instr.loadAt, Instr.sureAddr, Sem.run_bind, Sem.run_pure, Result.andThen]
    exact run_loadVar_row _ _ 52 52 (vA x) (0, 0) _ hO Tryd.underlying52 rfl infoV
  unfold execOp
  simp only [ho, Sem.run_bind, Sem.run_pure, Result.andThen_ok, hx, hl]
theorem wp_storeV {w : World} {o : Oper} {a : Act} {K : Act → World → Prop} {Q : Exit → Act → World → Prop} (hd : o.dst = none) (p y : Operand) (ho : o.op = .store 52 p y) (R : Nat) (hp : a.eval p = .pointer (some ⟨R, 0, none⟩)) (x x0 : Nat → Int) (hx : a.eval y = .agg (vA x)) (hR : VAt w R x0) (h : K a (w.setRow R (vA x))) : o.wp Tryd.prog a w K Q := by
  have h' : K (a.put o.dst undef) (w.setRow R (vA x)) := by rw [hd]; exact h
  exact wp_store_row 52 p y ho R (vA x) hp hx 52 (vA x0) hR infoV rfl (vA_one _) h'
theorem res_ln {fn : Func} {a b c d e : Tmp} (h : fn.results = #[.tmp a, .cell b 52, .tmp c, .tmp d, .tmp e]) (tmps : Array Value) (x : Nat → Int) (w : World) (R : Nat) (ht : tmps.getD b undef = .pointer (some ⟨R, 0, none⟩)) (hO : VAt w R x) (va vc vd ve : Value) (ha : tmps.getD a undef = va) (hc : tmps.getD c undef = vc) (hdd : tmps.getD d undef = vd) (he : tmps.getD e undef = ve) : (results fn tmps).run Tryd.prog w = .ok (.tuple #[va, .agg (vA x), vc, vd, ve]) w := by
  have hl : (loadVar 52 ⟨R, 0, none⟩).run Tryd.prog w = .ok (.agg (vA x)) w := run_loadVar_row _ _ 52 52 (vA x) (0, 0) _ hO Tryd.underlying52 rfl infoV
  have ht' : tmps[b]?.getD undef = .pointer (some ⟨R, 0, none⟩) := by simpa using ht
  have ha' : tmps[a]?.getD undef = va := by simpa using ha
  have hc' : tmps[c]?.getD undef = vc := by simpa using hc
  have hd' : tmps[d]?.getD undef = vd := by simpa using hdd
  have he' : tmps[e]?.getD undef = ve := by simpa using he
  unfold results
  rw [h]
  simp [ht', ha', hc', hd', he', asAddr, hl]
/-- the document's lines, so far -/
structure LnAt (w : World) (V base : Nat) (s : PS) (x : Nat → Int) (vl : Value) (zs : List (Int × Value)) : Prop where
  v : VAt w V x
  xs : ∀ i, i < 21 → x i = s.x i
  tw : Tw base w s.ns vl zs
  zl : zs.length = s.ns.length
def lnL (L : List (List UInt8)) : Int := if lnsE L = 0 then 0 else ((badAt L : Nat) : Int) + 1
theorem ln_bad {L : List (List UInt8)} {q : Nat} (hq : q < L.length) (hF : FineL L q) (he : lnE (runS L q) L[q] ≠ 0) : lnsE L = lnE (runS L q) L[q] ∧ lnL L = (q : Int) + 1 := by
  have h1 := lnsE_at hq hF he
  refine ⟨h1, ?_⟩
  unfold lnL
  rw [if_neg (by rw [h1]; exact he), badAt_at hq hF he]
theorem ln_end {L : List (List UInt8)} (hF : FineL L L.length) : lnsE L = 0 ∧ lnL L = 0 := by
  have h1 := lnsE_end hF
  exact ⟨h1, by unfold lnL; rw [if_pos h1]⟩
theorem rdL_node_len {l : List UInt8} {k : Nat} {d : ND} (h : rdL l k = .node d) : d.ps.length ≤ l.length + 1 := by
  unfold rdL at h
  split at h
  · cases h
  · unfold rdW at h
    split at h
    · split at h
      · cases h
        show ((splitL 32 [] l).drop 5 |>.map numV).length ≤ _
        have := splitL_len 32 l []
        simp
        omega
      · cases h
    · split at h
      · cases h
      · split at h
        · split at h <;> cases h
        · split at h <;> cases h
theorem rdL_store_len {l n : List UInt8} {k : Nat} (h : rdL l k = .store n) : n.length ≤ l.length := by
  unfold rdL at h
  split at h
  · cases h
  · unfold rdW at h
    split at h
    · split at h <;> cases h
    · split at h
      · cases h
      · split at h
        · split at h
          · cases h
          · cases h
            unfold wAt
            by_cases hi : 1 < (splitL 32 [] l).length
            · rw [List.getElem?_eq_getElem hi]
              have := splitL_mem 32 l [] _ (List.getElem_mem hi)
              simpa using this
            · rw [List.getElem?_eq_none (by omega)]
              simp
        · split at h <;> cases h
theorem rdL_one_lt {l : List UInt8} {k i : Nat} {v : Int} (h : rdL l k = .one i v) : i < 21 ∧ 0 ≤ v ∧ v < 10000000000 := by
  unfold rdL at h
  split at h
  · cases h
  · unfold rdW at h
    split at h
    · split at h <;> cases h
    · split at h
      · cases h
      · split at h
        · split at h <;> cases h
        · split at h
          · rename_i hh
            cases h
            exact ⟨hh.1, hh.2, (numV_le _).2⟩
          · cases h
theorem run_bnd {L : List (List UInt8)} (hL : ∀ x ∈ L, x.length ≤ 65536) : ∀ q, q ≤ L.length → (runS L q).ns.length ≤ q ∧ (∀ d ∈ (runS L q).ns, d.ps.length ≤ 70000) ∧ (runS L q).st.length ≤ 70000
  | 0, _ => ⟨Nat.le_refl _, fun d hd => by simp [runS_zero, ps0] at hd, Nat.zero_le _⟩
  | q + 1, h => by
    obtain ⟨h1, h2, h3⟩ := run_bnd hL q (by omega)
    have hlq := hL L[q] (List.getElem_mem (by omega))
    rw [runS_succ (by omega)]
    unfold lnN
    cases hd : rdL L[q] (runS L q).ns.length with
    | no => exact ⟨Nat.le_trans h1 (by omega), h2, h3⟩
    | non => exact ⟨Nat.le_trans h1 (by omega), h2, h3⟩
    | store n => exact ⟨Nat.le_trans h1 (by omega), h2, Nat.le_trans (rdL_store_len hd) (by omega)⟩
    | one i v => exact ⟨Nat.le_trans h1 (by omega), h2, h3⟩
    | node d =>
      refine ⟨by show ((runS L q).ns ++ [d]).length ≤ _; simp; omega, fun y hy => ?_, h3⟩
      rcases List.mem_append.1 (show y ∈ (runS L q).ns ++ [d] from hy) with hy | hy
      · exact h2 y hy
      · rw [List.mem_singleton.1 hy]; have := rdL_node_len hd; omega
/-- what lines answers -/
structure LnR (w : World) (L : List (List UInt8)) (e : Ending) (w' : World) : Prop where
  bl : Below w.heap.size w w'
  ex : ∃ a x vl zs, e = .returned (.tuple #[.string a, .agg (vA x), vl, .int .i64 (lnsE L), .int .i64 (lnL L)]) ∧ (∃ ba n c, vl = .slice ba n c) ∧ (lnsE L = 0 → a = strOf (runS L L.length).st ∧ (∀ i, i < 21 → x i = (runS L L.length).x i) ∧ Tw w.heap.size w' (runS L L.length).ns vl zs ∧ zs.length = (runS L L.length).ns.length ∧ (runS L L.length).ns.length ≤ 70000 ∧ (∀ d ∈ (runS L L.length).ns, d.ps.length ≤ 70000) ∧ (runS L L.length).st.length ≤ 70000)
set_option maxHeartbeats 8000000 in
set_option maxRecDepth 100000 in
set_option linter.unusedSimpArgs false in
set_option linter.unusedVariables false in
theorem tlines_any (w : World) (t : List UInt8) (hT : TabW w) (hl : t.length ≤ 65536) :
    Calls Tryd.prog 18 #[.string (strOf t)] w (LnR w (splitL 10 [] t)) := by
  obtain ⟨k0, hk0, hx0, hx1, hx2⟩ := info_parts infoNdT
  obtain ⟨W0, hW0⟩ : ∃ W0, W0 = (w.alloc (.cells (vA zx) 52)).alloc (.cells (vA zx) 52) := ⟨_, rfl⟩
  have B0 : Hid (Below w.heap.size w W0) := by rw [hW0]; exact ((Below.refl _ _).alloc (Nat.le_refl _) _).alloc (by simp) _
  have s0 : Hid (W0.heap.size = w.heap.size + 2) := by rw [hW0]; show _ = _; simp
  have R0 : Hid (VAt W0 w.heap.size zx) := by
    show W0.heap[w.heap.size]? = _
    rw [hW0, Below.heap_alloc _ _ _ (by simp)]
    exact heap_last _ _
  have V0 : Hid (VAt W0 (w.heap.size + 1) zx) := by
    show W0.heap[w.heap.size + 1]? = _
    have := heap_last (w.alloc (.cells (vA zx) 52)) (.cells (vA zx) 52)
    rw [World.size_alloc] at this
    rw [hW0]
    exact this
  have TB := hide (hT.below B0.out)
  have SP := hide (fun w' => tsplit_any (strOf t) 10 w' (by rw [strOf_size]; omega))
  rw [strOf_data] at SP
  have HL : Hid ((splitL 10 [] t).length ≤ 65537 ∧ ∀ x ∈ splitL 10 [] t, x.length ≤ 65536) := ⟨by have := splitL_len 10 t []; omega, fun x hx => by have := splitL_mem 10 t [] x hx; simp at this; omega⟩
  have HP := hide (splitL_pos 10 t [])
  generalize splitL 10 [] t = L at *
  generalize strOf t = ts at *
  clear hl
  go_enter Tryd.func18, Tryd.ntmps18
  go_upto_region 2 with fail
  rw [show (w.alloc (.cells #[.int .i64 0, .int .i64 0, .int .i64 0, .int .i64 0, .int .i64 0, .int .i64 0, .int .i64 0, .int .i64 0, .int .i64 0, .int .i64 0, .int .i64 0, .int .i64 0, .int .i64 0, .int .i64 0, .int .i64 0, .int .i64 0, .int .i64 0, .int .i64 0, .int .i64 0, .int .i64 0, .int .i64 0] 52)).alloc (.cells #[.int .i64 0, .int .i64 0, .int .i64 0, .int .i64 0, .int .i64 0, .int .i64 0, .int .i64 0, .int .i64 0, .int .i64 0, .int .i64 0, .int .i64 0, .int .i64 0, .int .i64 0, .int .i64 0, .int .i64 0, .int .i64 0, .int .i64 0, .int .i64 0, .int .i64 0, .int .i64 0, .int .i64 0] 52) = W0 from hW0.symm]
  clear hW0
  go_wp2_with fail
  go_loopw [8] (fun vi wr => ∃ (q : Nat), q ≤ 21 ∧ vi = .int .i64 (q : Int) ∧ Hid (Below (w.heap.size + 1) W0 wr ∧ VAt wr (w.heap.size + 1) (mq q))) (fun vi _ => 21 - (intOf vi).toNat)
  case atStart => exact ⟨0, Nat.zero_le _, rfl, Below.refl _ _, V0.out⟩
  case round =>
    obtain ⟨q, hq, rfl, hI⟩ := hrel
    have HB := hide hI.out.1
    have HV := hide hI.out.2
    clear hI
    by_cases hql : q < 21
    case pos =>
      have hqi : (q : Int) < 21 := by omega
      have c1 := HV.out.cell q hql
      have f1 := HV.out.fz q
      go_wp2_with fail
      go_roundw
      case rel =>
        refine ⟨q + 1, by omega, by go_num, set_below HB.out (Nat.le_refl _), ?_⟩
        rw [← mq_succ]
        exact HV.out.set q hql _
      case measure => simp [intOf]; omega
    case neg =>
      obtain rfl : q = 21 := by omega
      have V1 : Hid (VAt wr (w.heap.size + 1) (fun _ => -1)) := by
        have := HV.out
        show VAt _ _ _
        unfold VAt at *
        rw [this, vA_congr (y := fun _ => -1) (fun i hi => by unfold mq; rw [if_pos hi])]
      go_wp2_with fail
      refine Calls.mono (SP.out _) ?_
      rintro e W1 ⟨v, rfl, hO, hb⟩
      obtain ⟨g, cap, rfl, hg0, hcap, hws⟩ := ws_of_row hO HP.out
      have WS := hide hws
      have hlp := HP.out
      have hll := HL.out.1
      have b0 : Below w.heap.size w wr := B0.out.trans (HB.out.mono (by omega))
      have B1 := hide (b0.trans (hb.mono b0.size))
      have V2 := hide (V1.out.keepB hb)
      have hw2 := s0.out
      have hwr := HB.out.size
      have R2 : Hid (VAt W1 w.heap.size zx) := (hb.block _ (by omega)).trans ((HB.out.block _ (by omega)).trans R0.out)
      have T2 : Hid (TabW W1) := fun i hi => by
        have hg := World.block_lt_of_cell? w _ (hT i hi)
        rw [B1.out.cell (p := ⟨1, i, none⟩) hg]
        exact hT i hi
      have HG : Hid (g < W1.heap.size ∧ w.heap.size + 1 < g) := ⟨hws.lt hlp, by show _ < _; omega⟩
      have hs1 := hb.size
      clear hb hO hws b0 R0 V0 HB HV V1 SP TB B0 hw2 hwr
      go_wp2_with fail
      go_loopw [9, 10, 12] (fun nm vl vi wr => ∃ (q : Nat) (x : Nat → Int) (zs : List (Int × Value)), q ≤ L.length ∧ vi = .int .i64 (q : Int) ∧ nm = .string (strOf (runS L q).st) ∧ Hid (FineL L q) ∧ Hid (LnAt wr (w.heap.size + 1) W1.heap.size (runS L q) x vl zs) ∧ Hid (Kp w.heap.size W1.heap.size (w.heap.size + 1) (w.heap.size + 1) W1 wr)) (fun _ _ vi _ => L.length - (intOf vi).toNat)
      case atStart => exact ⟨0, _, [], Nat.zero_le _, rfl, rfl, fine_zero L, ⟨V2.out, fun _ _ => rfl, ⟨World.ownsRow_nil _ _ _ _, fun q hq => by simp at hq, fun q hq => by simp at hq⟩, rfl⟩, Kp.refl _ _ _ _ _⟩
      case round =>
        obtain ⟨q, x, zs, hq, rfl, rfl, hF, HN, HK⟩ := hrel
        obtain ⟨bz, cz, hvl, _⟩ := own_sl HN.out.tw.row
        subst hvl
        have HZL := hide HN.out.zl
        have BND := hide (run_bnd HL.out.2 q hq)
        have hzl : zs.length ≤ 70000 := by have := BND.out.1; have := HZL.out; omega
        have RW : Hid (VAt wr w.heap.size zx) := (HK.out.mid _ (by have := HG.out; omega) (by omega) (by omega)).trans R2.out
        have BW := hide (B1.out.trans HK.out.lo)
        by_cases hql : q < L.length
        case pos =>
          have hqi : (q : Int) < (L.length : Int) := by omega
          have e0 : wr.cell? ⟨g, q, none⟩ = some (.string (strOf L[q])) := by
            have h1 := WS.out.c q hql
            rw [Nat.zero_add] at h1
            have h2 := HK.out.mid g HG.out.1 (by have := HG.out; omega) (by have := HG.out; omega)
            rw [← h1]
            unfold World.cell?
            simp only [h2]
          have TW : TabW wr := fun i hi => by
            have hg := World.block_lt_of_cell? w _ (hT i hi)
            rw [HK.out.lo.cell (p := ⟨1, i, none⟩) hg]
            exact T2.out i hi
          have RD := hide (tread_any wr L[q] zs.length TW (HL.out.2 _ (List.getElem_mem hql)) hzl)
          have HER : Hid (lnE (runS L q) L[q] = stE (runS L q) (rdL L[q] zs.length)) := by show lnE _ _ = _; unfold lnE; rw [HZL.out]
          have HNX : Hid (runS L (q + 1) = stN (runS L q) (rdL L[q] zs.length)) := by show runS L (q + 1) = _; rw [runS_succ hql]; unfold lnN; rw [HZL.out]
          have HF2 := hide (fun he => fine_succ hF.out hql he)
          have HBAD := hide (fun he => ln_bad hql hF.out he)
          have HLT : Hid (∀ i v, rdL L[q] zs.length = .one i v → i < 21 ∧ 0 ≤ v ∧ v < 10000000000) := fun i v hh => rdL_one_lt hh
          rw [HER.out] at HF2 HBAD
          clear TW HER hF
          generalize rdL L[q] zs.length = d at *
          generalize strOf L[q] = tq at *
          have hw7 : w.heap.size + 1 < W1.heap.size := by have := HG.out; omega
          have hsz0 := HK.out.lo.size
          have MEET : Hid (∀ X : World, Below wr.heap.size wr X → Kp w.heap.size W1.heap.size (w.heap.size + 1) (w.heap.size + 1) W1 X ∧ LnAt X (w.heap.size + 1) W1.heap.size (runS L q) x (.slice bz zs.length cz) zs ∧ VAt X w.heap.size zx ∧ Below w.heap.size w X) := fun X hX =>
            ⟨HK.out.trans (Kp.of hX (by omega) (by omega)), ⟨HN.out.v.keepB hX, HN.out.xs, HN.out.tw.keep hX, HN.out.zl⟩, RW.out.keepB hX, BW.out.trans (hX.mono (by omega))⟩
          go_wp2_with fail
          refine Calls.mono RD.out ?_
          rintro e W2 ⟨hb, pv, rfl, ⟨ba, nn, cc, rfl⟩, hrow⟩
          have HB2 := hide hb
          have ROW := hide hrow
          clear hb hrow RD e0
          cases d with
          | non =>
            simp only [rdA]
            have HE : Hid (stE (runS L q) .non = 0) := rfl
            have HF3 := hide (HF2.out HE.out)
            obtain ⟨W3, hW3⟩ : ∃ W3, W3 = W2.alloc (.cells #[.int .i64 1, .string ⟨#[]⟩, .int .i64 0, .int .i64 0, .int .i64 0, .slice none 0 0] 87) := ⟨_, rfl⟩
            have b3 : Hid (Below wr.heap.size wr W3) := by rw [hW3]; exact HB2.out.alloc HB2.out.size _
            have D3 : Hid (W3.heap[W2.heap.size]? = some (.cells #[.int .i64 1, .string ⟨#[]⟩, .int .i64 0, .int .i64 0, .int .i64 0, .slice none 0 0] 87)) := by rw [hW3]; exact heap_last _ _
            go_upto_region 13 with fail
            rw [← hW3]
            clear hW3
            have c0 : W3.cell? ⟨W2.heap.size, 0, none⟩ = some (.int .i64 1) := by unfold World.cell?; rw [D3.out]; rfl
            obtain ⟨m1, m2, m3, m4⟩ := MEET.out W3 b3.out
            have M1 := hide m1
            have M2 := hide m2
            clear m1 m2 m3 m4
            go_wp2_with fail
            go_roundw
            case rel => exact ⟨q + 1, x, zs, by omega, by go_num, by rw [HNX.out]; rfl, HF3.out, by rw [HNX.out]; exact M2.out, M1.out⟩
            case measure => simp [intOf]; omega
          | no =>
            simp only [rdA]
            have HE : Hid (stE (runS L q) .no = 60) := rfl
            have HBB := hide (HBAD.out (by rw [HE.out]; decide))
            obtain ⟨W3, hW3⟩ : ∃ W3, W3 = W2.alloc (.cells #[.int .i64 0, .string ⟨#[]⟩, .int .i64 0, .int .i64 0, .int .i64 0, .slice none 0 0] 87) := ⟨_, rfl⟩
            have b3 : Hid (Below wr.heap.size wr W3) := by rw [hW3]; exact HB2.out.alloc HB2.out.size _
            have D3 : Hid (W3.heap[W2.heap.size]? = some (.cells #[.int .i64 0, .string ⟨#[]⟩, .int .i64 0, .int .i64 0, .int .i64 0, .slice none 0 0] 87)) := by rw [hW3]; exact heap_last _ _
            have HBK : Hid (∀ k, k < W2.heap.size → W3.heap[k]? = W2.heap[k]?) := by rw [hW3]; exact fun k hk => Below.heap_alloc _ _ _ hk
            go_upto_region 13 with fail
            rw [← hW3]
            clear hW3
            obtain ⟨m1, m2, m3, m4⟩ := MEET.out W3 b3.out
            have M1 := hide m1
            have M2 := hide m2
            have M3 := hide m3
            have M4 := hide m4
            clear m1 m2 m3 m4
            have c0 : W3.cell? ⟨W2.heap.size, 0, none⟩ = some (.int .i64 0) := by unfold World.cell?; rw [D3.out]; rfl
            clear HNX HF2 HBAD HLT MEET ROW
            go_wp2_with fail
            have SC : Hid (∀ Y, Y = W3.drew ∨ Y = W3.drew.setRow w.heap.size (vA x) → VAt Y (w.heap.size + 1) x) := by
              rintro Y (rfl | rfl)
              · exact M2.out.v
              · exact (setRow_other _ w.heap.size _ _ (by omega)).trans M2.out.v
            refine wp_region_held_drew (S := fun Y => Y = W3.drew ∨ Y = W3.drew.setRow w.heap.size (vA x)) (by kernel_rfl) (Or.inl rfl) (fun hHeld => ?_)
            refine wpAnyH_take (i := 0) (v := (.agg (vA x))) rfl (by kernel_rfl) (by kernel_rfl) (by kernel_rfl) (fun _ _ _ h => h) (Or.inl ⟨by kernel_rfl, ?_⟩) (by assumption) ?_
            · intro w' hSw
              (try dsimp only at hSw)
              exact exec_loadV (.tmp 7) rfl (by kernel_rfl) (SC.out _ hSw)
            (try simp only [Act.put, List.getElem_toArray, List.getElem_cons_zero, List.getElem_cons_succ, List.setIfInBounds_toArray, List.set_cons_zero, List.set_cons_succ])
            refine wpAnyH_take (i := 1) (v := (.int .i64 (q : Int))) rfl (by kernel_rfl) (by kernel_rfl) (by kernel_rfl) (fun _ _ _ h => h) (Or.inl ⟨by kernel_rfl, ?_⟩) (by assumption) ?_
            · intro w' hSw
              (try dsimp only at hSw)
              go_simp
            (try simp only [Act.put, List.getElem_toArray, List.getElem_cons_zero, List.getElem_cons_succ, List.setIfInBounds_toArray, List.set_cons_zero, List.set_cons_succ])
            refine wpAnyH_take (i := 2) (v := (.int .i64 ((q : Int) + 1))) rfl (by kernel_rfl) (by kernel_rfl) (by kernel_rfl) (fun _ _ _ h => h) (Or.inl ⟨by kernel_rfl, ?_⟩) (by assumption) ?_
            · intro w' hSw
              (try dsimp only at hSw)
              (go_simp <;> first | done | exact i64_in (by omega) (by omega))
            (try simp only [Act.put, List.getElem_toArray, List.getElem_cons_zero, List.getElem_cons_succ, List.setIfInBounds_toArray, List.set_cons_zero, List.set_cons_succ])
            refine wpAnyH_take (i := 3) (v := (.string ⟨#[]⟩)) rfl (by kernel_rfl) (by kernel_rfl) (by kernel_rfl) (fun _ _ _ h => h) (Or.inl ⟨by kernel_rfl, ?_⟩) (by assumption) ?_
            · intro w' hSw
              (try dsimp only at hSw)
              go_simp
            (try simp only [Act.put, List.getElem_toArray, List.getElem_cons_zero, List.getElem_cons_succ, List.setIfInBounds_toArray, List.set_cons_zero, List.set_cons_succ])
            refine wpAnyH_ready (rs := [4]) (by kernel_rfl) (by simp) ?_
            refine AllReadyH.cons rfl (fun K hK => ?_) AllReadyH.nil
            refine wp_storeV rfl (.tmp 3) (.tmp 39) rfl w.heap.size (by kernel_rfl) x zx (by kernel_rfl) M3.out ?_
            refine hK.out _ _ ((Or.inr rfl)) (fun hHeld => ?_)
            clear hK
            (try simp only [Act.put, List.setIfInBounds_toArray, List.set_cons_zero, List.set_cons_succ])
            refine wpAnyH_take (i := 5) (v := (.slice none 0 0)) rfl (by kernel_rfl) (by kernel_rfl) (by kernel_rfl) (fun _ _ _ h => h) (Or.inl ⟨by kernel_rfl, ?_⟩) (by assumption) ?_
            · intro w' hSw
              (try dsimp only at hSw)
              go_simp
            (try simp only [Act.put, List.getElem_toArray, List.getElem_cons_zero, List.getElem_cons_succ, List.setIfInBounds_toArray, List.set_cons_zero, List.set_cons_succ])
            refine wpAnyH_take (i := 6) (v := (.int .i64 60)) rfl (by kernel_rfl) (by kernel_rfl) (by kernel_rfl) (fun _ _ _ h => h) (Or.inl ⟨by kernel_rfl, ?_⟩) (by assumption) ?_
            · intro w' hSw
              (try dsimp only at hSw)
              go_simp
            (try simp only [Act.put, List.getElem_toArray, List.getElem_cons_zero, List.getElem_cons_succ, List.setIfInBounds_toArray, List.set_cons_zero, List.set_cons_succ])
            refine wpAnyH_take (i := 7) (v := (.int .i64 ((q : Int) + 1))) rfl (by kernel_rfl) (by kernel_rfl) (by kernel_rfl) (fun _ _ _ h => h) (Or.inl ⟨by kernel_rfl, ?_⟩) (by assumption) ?_
            · intro w' hSw
              (try dsimp only at hSw)
              go_simp
            (try simp only [Act.put, List.getElem_toArray, List.getElem_cons_zero, List.getElem_cons_succ, List.setIfInBounds_toArray, List.set_cons_zero, List.set_cons_succ])
            refine wpAnyH_done (by kernel_rfl) ?_ _
            clear hHeld
            go_wp2_with fail
            have E6 : VAt (W3.drew.setRow w.heap.size (vA x)) w.heap.size x := setRow_heap W3.drew w.heap.size _ _ 52 _ M3.out
            have B7 : Below w.heap.size w (W3.drew.setRow w.heap.size (vA x)) := below_setRow M4.out.drew (Nat.le_refl _) _
            exact bodyPost_ret (v := .tuple #[.string ⟨#[]⟩, .agg (vA x), .slice none 0 0, .int .i64 60, .int .i64 ((q : Int) + 1)]) (res_ln Tryd.results18 _ x _ w.heap.size rfl E6 _ _ _ _ rfl rfl rfl rfl) rfl ⟨B7, ⟨#[]⟩, x, .slice none 0 0, [], by rw [HBB.out.1, HBB.out.2, HE.out], ⟨_, _, _, rfl⟩, fun h => by rw [HBB.out.1, HE.out] at h; cases h⟩
          | store n =>
            simp only [rdA]
            have ES := emp_eq (runS L q).st
            have EN : Hid (strOf n = strOf n) := rfl
            obtain ⟨W3, hW3⟩ : ∃ W3, W3 = W2.alloc (.cells #[.int .i64 2, .string (strOf n), .int .i64 0, .int .i64 0, .int .i64 0, .slice none 0 0] 87) := ⟨_, rfl⟩
            have b3 : Hid (Below wr.heap.size wr W3) := by rw [hW3]; exact HB2.out.alloc HB2.out.size _
            have D3 : Hid (W3.heap[W2.heap.size]? = some (.cells #[.int .i64 2, .string (strOf n), .int .i64 0, .int .i64 0, .int .i64 0, .slice none 0 0] 87)) := by rw [hW3]; exact heap_last _ _
            have HBK : Hid (∀ k, k < W2.heap.size → W3.heap[k]? = W2.heap[k]?) := by rw [hW3]; exact fun k hk => Below.heap_alloc _ _ _ hk
            go_upto_region 13 with fail
            rw [← hW3]
            clear hW3
            obtain ⟨m1, m2, m3, m4⟩ := MEET.out W3 b3.out
            have M1 := hide m1
            have M2 := hide m2
            have M3 := hide m3
            have M4 := hide m4
            clear m1 m2 m3 m4
            have c0 : W3.cell? ⟨W2.heap.size, 0, none⟩ = some (.int .i64 2) := by unfold World.cell?; rw [D3.out]; rfl
            have c1 : W3.cell? ⟨W2.heap.size, 1, none⟩ = some (.string (strOf n)) := by unfold World.cell?; rw [D3.out]; rfl
            by_cases h0 : (runS L q).st = []
            · have HE : Hid (stE (runS L q) (.store n) = 0) := by show (if (runS L q).st = [] then (0 : Int) else 61) = 0; rw [if_pos h0]
              have HF3 := hide (HF2.out HE.out)
              rw [decide_eq_true h0] at ES
              clear h0 HF2 HBAD HLT MEET ROW
              have M5 : Hid (LnAt W3 (w.heap.size + 1) W1.heap.size (runS L (q + 1)) x (.slice bz zs.length cz) zs) := by show LnAt _ _ _ _ _ _ _; rw [HNX.out]; exact ⟨M2.out.v, M2.out.xs, M2.out.tw, M2.out.zl⟩
              have NM : Hid (strOf (runS L (q + 1)).st = strOf n) := by show strOf _ = _; rw [HNX.out]; rfl
              clear HNX HE
              generalize strOf (runS L q).st = ss at *
              go_wp2_with fail
              go_roundw
              case rel => exact ⟨q + 1, x, zs, by omega, by go_num, by rw [NM.out], HF3.out, M5.out, M1.out⟩
              case measure => simp [intOf]; omega
            · have HE : Hid (stE (runS L q) (.store n) = 61) := by show (if (runS L q).st = [] then (0 : Int) else 61) = 61; rw [if_neg h0]
              have HBB := hide (HBAD.out (by rw [HE.out]; decide))
              rw [decide_eq_false h0] at ES
              clear h0 HF2 HBAD HLT MEET ROW HNX
              generalize strOf (runS L q).st = ss at *
              go_wp2_with fail
              have SC : Hid (∀ Y, Y = W3.drew ∨ Y = W3.drew.setRow w.heap.size (vA x) → VAt Y (w.heap.size + 1) x) := by
                rintro Y (rfl | rfl)
                · exact M2.out.v
                · exact (setRow_other _ w.heap.size _ _ (by omega)).trans M2.out.v
              refine wp_region_held_drew (S := fun Y => Y = W3.drew ∨ Y = W3.drew.setRow w.heap.size (vA x)) (by kernel_rfl) (Or.inl rfl) (fun hHeld => ?_)
              refine wpAnyH_take (i := 0) (v := (.agg (vA x))) rfl (by kernel_rfl) (by kernel_rfl) (by kernel_rfl) (fun _ _ _ h => h) (Or.inl ⟨by kernel_rfl, ?_⟩) (by assumption) ?_
              · intro w' hSw
                (try dsimp only at hSw)
                exact exec_loadV (.tmp 7) rfl (by kernel_rfl) (SC.out _ hSw)
              (try simp only [Act.put, List.getElem_toArray, List.getElem_cons_zero, List.getElem_cons_succ, List.setIfInBounds_toArray, List.set_cons_zero, List.set_cons_succ])
              refine wpAnyH_take (i := 1) (v := (.int .i64 (q : Int))) rfl (by kernel_rfl) (by kernel_rfl) (by kernel_rfl) (fun _ _ _ h => h) (Or.inl ⟨by kernel_rfl, ?_⟩) (by assumption) ?_
              · intro w' hSw
                (try dsimp only at hSw)
                go_simp
              (try simp only [Act.put, List.getElem_toArray, List.getElem_cons_zero, List.getElem_cons_succ, List.setIfInBounds_toArray, List.set_cons_zero, List.set_cons_succ])
              refine wpAnyH_take (i := 2) (v := (.int .i64 ((q : Int) + 1))) rfl (by kernel_rfl) (by kernel_rfl) (by kernel_rfl) (fun _ _ _ h => h) (Or.inl ⟨by kernel_rfl, ?_⟩) (by assumption) ?_
              · intro w' hSw
                (try dsimp only at hSw)
                (go_simp <;> first | done | exact i64_in (by omega) (by omega))
              (try simp only [Act.put, List.getElem_toArray, List.getElem_cons_zero, List.getElem_cons_succ, List.setIfInBounds_toArray, List.set_cons_zero, List.set_cons_succ])
              refine wpAnyH_take (i := 3) (v := (.string ⟨#[]⟩)) rfl (by kernel_rfl) (by kernel_rfl) (by kernel_rfl) (fun _ _ _ h => h) (Or.inl ⟨by kernel_rfl, ?_⟩) (by assumption) ?_
              · intro w' hSw
                (try dsimp only at hSw)
                go_simp
              (try simp only [Act.put, List.getElem_toArray, List.getElem_cons_zero, List.getElem_cons_succ, List.setIfInBounds_toArray, List.set_cons_zero, List.set_cons_succ])
              refine wpAnyH_ready (rs := [4]) (by kernel_rfl) (by simp) ?_
              refine AllReadyH.cons rfl (fun K hK => ?_) AllReadyH.nil
              refine wp_storeV rfl (.tmp 3) (.tmp 46) rfl w.heap.size (by kernel_rfl) x zx (by kernel_rfl) M3.out ?_
              refine hK.out _ _ ((Or.inr rfl)) (fun hHeld => ?_)
              clear hK
              (try simp only [Act.put, List.setIfInBounds_toArray, List.set_cons_zero, List.set_cons_succ])
              refine wpAnyH_take (i := 5) (v := (.slice none 0 0)) rfl (by kernel_rfl) (by kernel_rfl) (by kernel_rfl) (fun _ _ _ h => h) (Or.inl ⟨by kernel_rfl, ?_⟩) (by assumption) ?_
              · intro w' hSw
                (try dsimp only at hSw)
                go_simp
              (try simp only [Act.put, List.getElem_toArray, List.getElem_cons_zero, List.getElem_cons_succ, List.setIfInBounds_toArray, List.set_cons_zero, List.set_cons_succ])
              refine wpAnyH_take (i := 6) (v := (.int .i64 61)) rfl (by kernel_rfl) (by kernel_rfl) (by kernel_rfl) (fun _ _ _ h => h) (Or.inl ⟨by kernel_rfl, ?_⟩) (by assumption) ?_
              · intro w' hSw
                (try dsimp only at hSw)
                go_simp
              (try simp only [Act.put, List.getElem_toArray, List.getElem_cons_zero, List.getElem_cons_succ, List.setIfInBounds_toArray, List.set_cons_zero, List.set_cons_succ])
              refine wpAnyH_take (i := 7) (v := (.int .i64 ((q : Int) + 1))) rfl (by kernel_rfl) (by kernel_rfl) (by kernel_rfl) (fun _ _ _ h => h) (Or.inl ⟨by kernel_rfl, ?_⟩) (by assumption) ?_
              · intro w' hSw
                (try dsimp only at hSw)
                go_simp
              (try simp only [Act.put, List.getElem_toArray, List.getElem_cons_zero, List.getElem_cons_succ, List.setIfInBounds_toArray, List.set_cons_zero, List.set_cons_succ])
              refine wpAnyH_done (by kernel_rfl) ?_ _
              clear hHeld
              go_wp2_with fail
              have E6 : VAt (W3.drew.setRow w.heap.size (vA x)) w.heap.size x := setRow_heap W3.drew w.heap.size _ _ 52 _ M3.out
              have B7 : Below w.heap.size w (W3.drew.setRow w.heap.size (vA x)) := below_setRow M4.out.drew (Nat.le_refl _) _
              exact bodyPost_ret (v := .tuple #[.string ⟨#[]⟩, .agg (vA x), .slice none 0 0, .int .i64 61, .int .i64 ((q : Int) + 1)]) (res_ln Tryd.results18 _ x _ w.heap.size rfl E6 _ _ _ _ rfl rfl rfl rfl) rfl ⟨B7, ⟨#[]⟩, x, .slice none 0 0, [], by rw [HBB.out.1, HBB.out.2, HE.out], ⟨_, _, _, rfl⟩, fun h => by rw [HBB.out.1, HE.out] at h; cases h⟩
          | one i v =>
            simp only [rdA]
            obtain ⟨hi, hv0, hv1⟩ := HLT.out i v rfl
            obtain ⟨W3, hW3⟩ : ∃ W3, W3 = W2.alloc (.cells #[.int .i64 3, .string ⟨#[]⟩, .int .i64 (i : Int), .int .i64 v, .int .i64 0, .slice none 0 0] 87) := ⟨_, rfl⟩
            have b3 : Hid (Below wr.heap.size wr W3) := by rw [hW3]; exact HB2.out.alloc HB2.out.size _
            have D3 : Hid (W3.heap[W2.heap.size]? = some (.cells #[.int .i64 3, .string ⟨#[]⟩, .int .i64 (i : Int), .int .i64 v, .int .i64 0, .slice none 0 0] 87)) := by rw [hW3]; exact heap_last _ _
            have HBK : Hid (∀ k, k < W2.heap.size → W3.heap[k]? = W2.heap[k]?) := by rw [hW3]; exact fun k hk => Below.heap_alloc _ _ _ hk
            go_upto_region 13 with fail
            rw [← hW3]
            clear hW3
            obtain ⟨m1, m2, m3, m4⟩ := MEET.out W3 b3.out
            have M1 := hide m1
            have M2 := hide m2
            have M3 := hide m3
            have M4 := hide m4
            clear m1 m2 m3 m4
            have c0 : W3.cell? ⟨W2.heap.size, 0, none⟩ = some (.int .i64 3) := by unfold World.cell?; rw [D3.out]; rfl
            have c2 : W3.cell? ⟨W2.heap.size, 2, none⟩ = some (.int .i64 (i : Int)) := by unfold World.cell?; rw [D3.out]; rfl
            have c3 : W3.cell? ⟨W2.heap.size, 3, none⟩ = some (.int .i64 v) := by unfold World.cell?; rw [D3.out]; rfl
            have cx := M2.out.v.cell i hi
            have fx := M2.out.v.fz i
            have HXI := hide (M2.out.xs i hi)
            by_cases h0 : 0 ≤ x i
            · have HE : Hid (stE (runS L q) (.one i v) = 61) := by show (if 0 ≤ (runS L q).x i then (61 : Int) else 0) = 61; rw [← HXI.out, if_pos h0]
              have HBB := hide (HBAD.out (by rw [HE.out]; decide))
              clear HF2 HBAD HLT MEET ROW HNX fx
              generalize strOf (runS L q).st = ss at *
              go_wp2_with fail
              have SC : Hid (∀ Y, Y = W3.drew ∨ Y = W3.drew.setRow w.heap.size (vA x) → VAt Y (w.heap.size + 1) x) := by
                rintro Y (rfl | rfl)
                · exact M2.out.v
                · exact (setRow_other _ w.heap.size _ _ (by omega)).trans M2.out.v
              refine wp_region_held_drew (S := fun Y => Y = W3.drew ∨ Y = W3.drew.setRow w.heap.size (vA x)) (by kernel_rfl) (Or.inl rfl) (fun hHeld => ?_)
              refine wpAnyH_take (i := 0) (v := (.agg (vA x))) rfl (by kernel_rfl) (by kernel_rfl) (by kernel_rfl) (fun _ _ _ h => h) (Or.inl ⟨by kernel_rfl, ?_⟩) (by assumption) ?_
              · intro w' hSw
                (try dsimp only at hSw)
                exact exec_loadV (.tmp 7) rfl (by kernel_rfl) (SC.out _ hSw)
              (try simp only [Act.put, List.getElem_toArray, List.getElem_cons_zero, List.getElem_cons_succ, List.setIfInBounds_toArray, List.set_cons_zero, List.set_cons_succ])
              refine wpAnyH_take (i := 1) (v := (.int .i64 (q : Int))) rfl (by kernel_rfl) (by kernel_rfl) (by kernel_rfl) (fun _ _ _ h => h) (Or.inl ⟨by kernel_rfl, ?_⟩) (by assumption) ?_
              · intro w' hSw
                (try dsimp only at hSw)
                go_simp
              (try simp only [Act.put, List.getElem_toArray, List.getElem_cons_zero, List.getElem_cons_succ, List.setIfInBounds_toArray, List.set_cons_zero, List.set_cons_succ])
              refine wpAnyH_take (i := 2) (v := (.int .i64 ((q : Int) + 1))) rfl (by kernel_rfl) (by kernel_rfl) (by kernel_rfl) (fun _ _ _ h => h) (Or.inl ⟨by kernel_rfl, ?_⟩) (by assumption) ?_
              · intro w' hSw
                (try dsimp only at hSw)
                (go_simp <;> first | done | exact i64_in (by omega) (by omega))
              (try simp only [Act.put, List.getElem_toArray, List.getElem_cons_zero, List.getElem_cons_succ, List.setIfInBounds_toArray, List.set_cons_zero, List.set_cons_succ])
              refine wpAnyH_take (i := 3) (v := (.string ⟨#[]⟩)) rfl (by kernel_rfl) (by kernel_rfl) (by kernel_rfl) (fun _ _ _ h => h) (Or.inl ⟨by kernel_rfl, ?_⟩) (by assumption) ?_
              · intro w' hSw
                (try dsimp only at hSw)
                go_simp
              (try simp only [Act.put, List.getElem_toArray, List.getElem_cons_zero, List.getElem_cons_succ, List.setIfInBounds_toArray, List.set_cons_zero, List.set_cons_succ])
              refine wpAnyH_ready (rs := [4]) (by kernel_rfl) (by simp) ?_
              refine AllReadyH.cons rfl (fun K hK => ?_) AllReadyH.nil
              refine wp_storeV rfl (.tmp 3) (.tmp 58) rfl w.heap.size (by kernel_rfl) x zx (by kernel_rfl) M3.out ?_
              refine hK.out _ _ ((Or.inr rfl)) (fun hHeld => ?_)
              clear hK
              (try simp only [Act.put, List.setIfInBounds_toArray, List.set_cons_zero, List.set_cons_succ])
              refine wpAnyH_take (i := 5) (v := (.slice none 0 0)) rfl (by kernel_rfl) (by kernel_rfl) (by kernel_rfl) (fun _ _ _ h => h) (Or.inl ⟨by kernel_rfl, ?_⟩) (by assumption) ?_
              · intro w' hSw
                (try dsimp only at hSw)
                go_simp
              (try simp only [Act.put, List.getElem_toArray, List.getElem_cons_zero, List.getElem_cons_succ, List.setIfInBounds_toArray, List.set_cons_zero, List.set_cons_succ])
              refine wpAnyH_take (i := 6) (v := (.int .i64 61)) rfl (by kernel_rfl) (by kernel_rfl) (by kernel_rfl) (fun _ _ _ h => h) (Or.inl ⟨by kernel_rfl, ?_⟩) (by assumption) ?_
              · intro w' hSw
                (try dsimp only at hSw)
                go_simp
              (try simp only [Act.put, List.getElem_toArray, List.getElem_cons_zero, List.getElem_cons_succ, List.setIfInBounds_toArray, List.set_cons_zero, List.set_cons_succ])
              refine wpAnyH_take (i := 7) (v := (.int .i64 ((q : Int) + 1))) rfl (by kernel_rfl) (by kernel_rfl) (by kernel_rfl) (fun _ _ _ h => h) (Or.inl ⟨by kernel_rfl, ?_⟩) (by assumption) ?_
              · intro w' hSw
                (try dsimp only at hSw)
                go_simp
              (try simp only [Act.put, List.getElem_toArray, List.getElem_cons_zero, List.getElem_cons_succ, List.setIfInBounds_toArray, List.set_cons_zero, List.set_cons_succ])
              refine wpAnyH_done (by kernel_rfl) ?_ _
              clear hHeld
              go_wp2_with fail
              have E6 : VAt (W3.drew.setRow w.heap.size (vA x)) w.heap.size x := setRow_heap W3.drew w.heap.size _ _ 52 _ M3.out
              have B7 : Below w.heap.size w (W3.drew.setRow w.heap.size (vA x)) := below_setRow M4.out.drew (Nat.le_refl _) _
              exact bodyPost_ret (v := .tuple #[.string ⟨#[]⟩, .agg (vA x), .slice none 0 0, .int .i64 61, .int .i64 ((q : Int) + 1)]) (res_ln Tryd.results18 _ x _ w.heap.size rfl E6 _ _ _ _ rfl rfl rfl rfl) rfl ⟨B7, ⟨#[]⟩, x, .slice none 0 0, [], by rw [HBB.out.1, HBB.out.2, HE.out], ⟨_, _, _, rfl⟩, fun h => by rw [HBB.out.1, HE.out] at h; cases h⟩
            · have HE : Hid (stE (runS L q) (.one i v) = 0) := by show (if 0 ≤ (runS L q).x i then (61 : Int) else 0) = 0; rw [← HXI.out, if_neg h0]
              have HF3 := hide (HF2.out HE.out)
              have M5 : Hid (LnAt (W3.setCell ⟨w.heap.size + 1, i, none⟩ (.int .i64 v)) (w.heap.size + 1) W1.heap.size (runS L (q + 1)) (upd x i v) (.slice bz zs.length cz) zs) := by
                show LnAt _ _ _ _ _ _ _
                rw [HNX.out]
                refine ⟨M2.out.v.set i hi v, fun j hj => ?_, M2.out.tw.set (by omega) _, M2.out.zl⟩
                show upd x i v j = put1 (runS L q).x i v j
                unfold upd put1
                rw [M2.out.xs j hj]
              have M6 : Hid (Kp w.heap.size W1.heap.size (w.heap.size + 1) (w.heap.size + 1) W1 (W3.setCell ⟨w.heap.size + 1, i, none⟩ (.int .i64 v))) := M1.out.set (by omega) _ _
              have NM : Hid (strOf (runS L (q + 1)).st = strOf (runS L q).st) := by show strOf _ = _; rw [HNX.out]; rfl
              clear HF2 HBAD HLT MEET ROW HNX HE
              have h0' : x i < 0 := by omega
              clear h0
              generalize x i = xi at *
              generalize strOf (runS L q).st = ss at *
              go_wp2_with fail
              go_roundw
              case rel => exact ⟨q + 1, upd x i v, zs, by omega, by go_num, by rw [NM.out], HF3.out, M5.out, M6.out⟩
              case measure => simp [intOf]; omega
          | node d =>
            simp only [rdA]
            have HE : Hid (stE (runS L q) (.node d) = 0) := rfl
            have HF3 := hide (HF2.out HE.out)
            have O2 := hide (ROW.out d rfl)
            obtain ⟨W3, hW3⟩ : ∃ W3, W3 = W2.alloc (.cells #[.int .i64 4, .string ⟨#[]⟩, .int .i64 0, .int .i64 0, .int .i64 d.z, .slice ba nn cc] 87) := ⟨_, rfl⟩
            have b3 : Hid (Below wr.heap.size wr W3) := by rw [hW3]; exact HB2.out.alloc HB2.out.size _
            have D3 : Hid (W3.heap[W2.heap.size]? = some (.cells #[.int .i64 4, .string ⟨#[]⟩, .int .i64 0, .int .i64 0, .int .i64 d.z, .slice ba nn cc] 87)) := by rw [hW3]; exact heap_last _ _
            have HBK : Hid (∀ k, k < W2.heap.size → W3.heap[k]? = W2.heap[k]?) := by rw [hW3]; exact fun k hk => Below.heap_alloc _ _ _ hk
            go_upto_region 13 with fail
            rw [← hW3]
            clear hW3
            obtain ⟨m1, m2, m3, m4⟩ := MEET.out W3 b3.out
            have M1 := hide m1
            have M2 := hide m2
            have M3 := hide m3
            have M4 := hide m4
            clear m1 m2 m3 m4
            have c0 : W3.cell? ⟨W2.heap.size, 0, none⟩ = some (.int .i64 4) := by unfold World.cell?; rw [D3.out]; rfl
            have c4 : W3.cell? ⟨W2.heap.size, 4, none⟩ = some (.int .i64 d.z) := by unfold World.cell?; rw [D3.out]; rfl
            have c5 : W3.cell? ⟨W2.heap.size, 5, none⟩ = some (.slice ba nn cc) := by unfold World.cell?; rw [D3.out]; rfl
            have O3 : Hid (W3.ownsRow W1.heap.size 3 1 (.slice ba nn cc) d.ps.length (ints d.ps)) := by
              have hb23 : ∀ k, k < W2.heap.size → W3.heap[k]? = W2.heap[k]? := HBK.out
              exact own_lowr (own_keep O2.out fun k hk => hb23 k (own_lt O2.out hk).2) (by omega)
            have ROWZ : Hid (W3.ownsRow W1.heap.size 59 2 (.slice bz zs.length cz) zs.length (ndc zs)) := M2.out.tw.row
            have hbs : W1.heap.size ≤ W3.heap.size := by have := b3.out.size; omega
            have NM : Hid (strOf (runS L (q + 1)).st = strOf (runS L q).st) := by show strOf _ = _; rw [HNX.out]; rfl
            have FIN : Hid (∀ X vl', X.ownsRow W1.heap.size 59 2 vl' (zs.length + 1) (ndc zs ++ ndc [(d.z, .slice ba nn cc)]) → (W3.alloc (.cells #[.int .i64 d.z, .slice ba nn cc] 59)).grownBy X (Value.slice bz zs.length cz).ownBlock → LnAt X (w.heap.size + 1) W1.heap.size (runS L (q + 1)) x vl' (zs ++ [(d.z, .slice ba nn cc)]) ∧ Kp w.heap.size W1.heap.size (w.heap.size + 1) (w.heap.size + 1) W1 X) := fun X vl' o3 g3 => by
              have hrow : ∀ k, k < W1.heap.size → (Value.slice bz zs.length cz).ownBlock ≠ some k := fun k hk e => by have := (own_lt ROWZ.out e).1; omega
              have t1 := (M2.out.tw.wide M2.out.zl d).step3 (z := d.z) (ps := d.ps) (by simp [M2.out.zl]) (by simp [M2.out.zl]) O3.out o3 g3
              rw [HNX.out]
              refine ⟨⟨?_, M2.out.xs, t1, by show (zs ++ [(d.z, Value.slice ba nn cc)]).length = ((runS L q).ns ++ [d]).length; simp [M2.out.zl]⟩, ?_⟩
              · have hV := blk_lt M2.out.v
                show X.heap[w.heap.size + 1]? = _
                rw [g3.block _ (by simp; omega) (fun e => hrow _ hw7 e.symm), Below.heap_alloc _ _ _ hV]
                exact M2.out.v
              · refine Kp.grown (M1.out.trans (Kp.of ((Below.refl _ _).alloc (Nat.le_refl _) _) (by omega) hbs)) g3 (fun k e => ?_) (by simp; omega) (by simp; omega)
                have := (own_lt ROWZ.out e).1
                exact ⟨by omega, Or.inl (by omega)⟩
            clear HF2 HBAD HLT MEET ROW HNX HE M2 O2 O3 M3 M4
            generalize strOf (runS L q).st = ss at *
            generalize d.z = dz at *
            go_wp2_with (first | refine wpList_bsNd rfl (.tmp 70) rfl rfl ?_ | (at_builtin; refine wpList_append_own_at _ rfl (.tmp 68) (.tmp 71) 22 rfl W1.heap.size 59 k0 _ 2 32 Tryd.underlying22 hk0 hx0 hx1 hx2 rfl (by decide) _ _ _ rfl (ROWZ.out.alloc _) ⟨W3.heap.size, 0, none⟩ 1 1 (ndc [(dz, .slice ba nn cc)]) rfl rfl (nd_cells W3 _ _) (nd_one rfl) (by unfold maxLen; omega) (by omega) (by simp; omega) ?_; intro vl' X3 o3 g3 n4 a3; clear n4 a3))
            go_roundw
            case rel =>
              obtain ⟨f1, f2⟩ := FIN.out _ _ o3 g3
              exact ⟨q + 1, x, _, by omega, by go_num, by rw [NM.out], HF3.out, f1, f2⟩
            case measure => simp [intOf]; omega
        case neg =>
          obtain rfl : q = L.length := by omega
          have HEND := hide (ln_end hF.out)
          have BW2 := BW
          have SC : Hid (∀ Y, Y = wr.drew ∨ Y = wr.drew.setRow w.heap.size (vA x) → VAt Y (w.heap.size + 1) x) := by
            rintro Y (rfl | rfl)
            · exact HN.out.v
            · exact (setRow_other _ w.heap.size _ _ (by omega)).trans HN.out.v
          obtain ⟨ss, hss⟩ : ∃ ss, ss = strOf (runS L L.length).st := ⟨_, rfl⟩
          have HSS := hide hss
          rw [← hss]
          clear hss hF
          go_wp2_with fail
          refine wp_region_held_drew (S := fun Y => Y = wr.drew ∨ Y = wr.drew.setRow w.heap.size (vA x)) (by kernel_rfl) (Or.inl rfl) (fun hHeld => ?_)
          refine wpAnyH_take (i := 0) (v := (.string ss)) rfl (by kernel_rfl) (by kernel_rfl) (by kernel_rfl) (fun _ _ _ h => h) (Or.inl ⟨by kernel_rfl, ?_⟩) (by assumption) ?_
          · intro w' hSw
            (try dsimp only at hSw)
            go_simp
          (try simp only [Act.put, List.getElem_toArray, List.getElem_cons_zero, List.getElem_cons_succ, List.setIfInBounds_toArray, List.set_cons_zero, List.set_cons_succ])
          refine wpAnyH_take (i := 1) (v := (.agg (vA x))) rfl (by kernel_rfl) (by kernel_rfl) (by kernel_rfl) (fun _ _ _ h => h) (Or.inl ⟨by kernel_rfl, ?_⟩) (by assumption) ?_
          · intro w' hSw
            (try dsimp only at hSw)
            exact exec_loadV (.tmp 7) rfl (by kernel_rfl) (SC.out _ hSw)
          (try simp only [Act.put, List.getElem_toArray, List.getElem_cons_zero, List.getElem_cons_succ, List.setIfInBounds_toArray, List.set_cons_zero, List.set_cons_succ])
          refine wpAnyH_take (i := 2) (v := (.slice bz zs.length cz)) rfl (by kernel_rfl) (by kernel_rfl) (by kernel_rfl) (fun _ _ _ h => h) (Or.inl ⟨by kernel_rfl, ?_⟩) (by assumption) ?_
          · intro w' hSw
            (try dsimp only at hSw)
            go_simp
          (try simp only [Act.put, List.getElem_toArray, List.getElem_cons_zero, List.getElem_cons_succ, List.setIfInBounds_toArray, List.set_cons_zero, List.set_cons_succ])
          refine wpAnyH_take (i := 3) (v := (.string ss)) rfl (by kernel_rfl) (by kernel_rfl) (by kernel_rfl) (fun _ _ _ h => h) (Or.inl ⟨by kernel_rfl, ?_⟩) (by assumption) ?_
          · intro w' hSw
            (try dsimp only at hSw)
            go_simp
          (try simp only [Act.put, List.getElem_toArray, List.getElem_cons_zero, List.getElem_cons_succ, List.setIfInBounds_toArray, List.set_cons_zero, List.set_cons_succ])
          refine wpAnyH_ready (rs := [4]) (by kernel_rfl) (by simp) ?_
          refine AllReadyH.cons rfl (fun K hK => ?_) AllReadyH.nil
          refine wp_storeV rfl (.tmp 3) (.tmp 74) rfl w.heap.size (by kernel_rfl) x zx (by kernel_rfl) RW.out ?_
          refine hK.out _ _ ((Or.inr rfl)) (fun hHeld => ?_)
          clear hK
          (try simp only [Act.put, List.setIfInBounds_toArray, List.set_cons_zero, List.set_cons_succ])
          refine wpAnyH_take (i := 5) (v := (.slice bz zs.length cz)) rfl (by kernel_rfl) (by kernel_rfl) (by kernel_rfl) (fun _ _ _ h => h) (Or.inl ⟨by kernel_rfl, ?_⟩) (by assumption) ?_
          · intro w' hSw
            (try dsimp only at hSw)
            go_simp
          (try simp only [Act.put, List.getElem_toArray, List.getElem_cons_zero, List.getElem_cons_succ, List.setIfInBounds_toArray, List.set_cons_zero, List.set_cons_succ])
          refine wpAnyH_take (i := 6) (v := (.int .i64 0)) rfl (by kernel_rfl) (by kernel_rfl) (by kernel_rfl) (fun _ _ _ h => h) (Or.inl ⟨by kernel_rfl, ?_⟩) (by assumption) ?_
          · intro w' hSw
            (try dsimp only at hSw)
            go_simp
          (try simp only [Act.put, List.getElem_toArray, List.getElem_cons_zero, List.getElem_cons_succ, List.setIfInBounds_toArray, List.set_cons_zero, List.set_cons_succ])
          refine wpAnyH_take (i := 7) (v := (.int .i64 0)) rfl (by kernel_rfl) (by kernel_rfl) (by kernel_rfl) (fun _ _ _ h => h) (Or.inl ⟨by kernel_rfl, ?_⟩) (by assumption) ?_
          · intro w' hSw
            (try dsimp only at hSw)
            go_simp
          (try simp only [Act.put, List.getElem_toArray, List.getElem_cons_zero, List.getElem_cons_succ, List.setIfInBounds_toArray, List.set_cons_zero, List.set_cons_succ])
          refine wpAnyH_done (by kernel_rfl) ?_ _
          clear hHeld
          go_wp2_with fail
          have E6 : VAt (wr.drew.setRow w.heap.size (vA x)) w.heap.size x := setRow_heap wr.drew w.heap.size _ _ 52 _ RW.out
          have B7 : Below w.heap.size w (wr.drew.setRow w.heap.size (vA x)) := below_setRow BW.out.drew (Nat.le_refl _) _
          have T7 : Tw w.heap.size (wr.drew.setRow w.heap.size (vA x)) (runS L L.length).ns (.slice bz zs.length cz) zs := by
            have hlow : w.heap.size ≤ W1.heap.size := by have := HG.out; omega
            refine ⟨own_lowr (own_keep HN.out.tw.row fun k hk => ?_) hlow, HN.out.tw.z, fun j hj hj' => own_lowr (own_keep (HN.out.tw.p j hj hj') fun k hk => ?_) hlow⟩
            · have := (own_lt HN.out.tw.row hk).1
              exact setRow_other wr.drew w.heap.size k _ (by have := HG.out; omega)
            · have := (own_lt (HN.out.tw.p j hj hj') hk).1
              exact setRow_other wr.drew w.heap.size k _ (by have := HG.out; omega)
          exact bodyPost_ret (v := .tuple #[.string ss, .agg (vA x), .slice bz zs.length cz, .int .i64 0, .int .i64 0]) (res_ln Tryd.results18 _ x _ w.heap.size rfl E6 _ _ _ _ rfl rfl rfl rfl) rfl ⟨B7, ss, x, .slice bz zs.length cz, zs, by rw [HEND.out.1, HEND.out.2], ⟨_, _, _, rfl⟩, fun _ => ⟨HSS.out, HN.out.xs, T7, HN.out.zl, by have := BND.out.1; omega, BND.out.2.1, BND.out.2.2⟩⟩
end Go.Proofs.YtanlnelfbfjelaaDoor
