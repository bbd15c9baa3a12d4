import Derived.Test.YtioiphonajinmaaDoorGGhFiles
import Derived.Test.YtioiphonajinmaaDoorGGkDoc
namespace Go.Proofs.YtioiphonajinmaaDoor
open Go.RowKit
/-- one name more is looked at -/
def insS (a : List UInt8) (m : List (List UInt8) × Bool) (b : List UInt8) : List (List UInt8) × Bool := if m.2 = false ∧ a < b then (m.1 ++ [a, b], true) else (m.1 ++ [b], m.2)
theorem insS_yes {a b : List UInt8} {m : List (List UInt8) × Bool} (h1 : m.2 = false) (h2 : a < b) : insS a m b = (m.1 ++ [a, b], true) := by unfold insS; rw [if_pos ⟨h1, h2⟩]
theorem insS_no {a b : List UInt8} {m : List (List UInt8) × Bool} (h : ¬ (m.2 = false ∧ a < b)) : insS a m b = (m.1 ++ [b], m.2) := by unfold insS; rw [if_neg h]
def insQ (a : List UInt8) (l : List (List UInt8)) : List (List UInt8) × Bool := l.foldl (insS a) ([], false)
theorem insQ_snoc (a : List UInt8) (l : List (List UInt8)) (b : List UInt8) : insQ a (l ++ [b]) = insS a (insQ a l) b := by
  simp [insQ, List.foldl_append]
theorem fold_done (a : List UInt8) : ∀ (l m : List (List UInt8)), l.foldl (insS a) (m, true) = (m ++ l, true) := by
  intro l
  induction l with
  | nil => intro m; simp
  | cons b l ih =>
    intro m
    rw [List.foldl_cons, insS_no (by simp), ih]
    simp
def insZ (a : List UInt8) (z : List (List UInt8) × Bool) : List (List UInt8) := if z.2 = true then z.1 else z.1 ++ [a]
theorem fold_ins (a : List UInt8) : ∀ (l m : List (List UInt8)), insZ a (l.foldl (insS a) (m, false)) = m ++ insN a l := by
  intro l
  induction l with
  | nil => intro m; simp [insN, insZ]
  | cons b l ih =>
    intro m
    rw [List.foldl_cons]
    by_cases h : a < b
    · rw [insS_yes rfl h, fold_done]
      unfold insN insZ
      rw [if_pos h]
      simp
    · rw [insS_no (fun e => h e.2), ih, show insN a (b :: l) = if a < b then a :: b :: l else b :: insN a l from rfl, if_neg h]
      simp
theorem insQ_end (a : List UInt8) (l : List (List UInt8)) : insZ a (insQ a l) = insN a l := by
  have := fold_ins a l []
  rw [List.nil_append] at this
  exact this
theorem insQ_len (a : List UInt8) (l : List (List UInt8)) : (insQ a l).1.length ≤ l.length + 1 ∧ ((insQ a l).2 = false → (insQ a l).1.length = l.length) := by
  have key : ∀ (r : List (List UInt8)), (insQ a r.reverse).1.length ≤ r.length + 1 ∧ ((insQ a r.reverse).2 = false → (insQ a r.reverse).1.length = r.length) := by
    intro r
    induction r with
    | nil => simp [insQ]
    | cons b r ih =>
      rw [List.reverse_cons, insQ_snoc]
      obtain ⟨i1, i2⟩ := ih
      by_cases h : (insQ a r.reverse).2 = false ∧ a < b
      · rw [insS_yes h.1 h.2]
        have := i2 h.1
        simp only [List.length_append, List.length_cons, List.length_nil]
        exact ⟨by omega, fun e => by simp at e⟩
      · rw [insS_no h]
        simp only [List.length_append, List.length_cons, List.length_nil]
        exact ⟨by omega, fun e => by have := i2 e; omega⟩
  have := key l.reverse
  rw [List.reverse_reverse, List.length_reverse] at this
  exact this
theorem one_cellS (w : World) (a : List UInt8) : ∀ j u, (nmc [a])[j]? = some u → (w.alloc (.cells #[.string (strOf a)] 9)).cell? ((⟨w.heap.size, 0, none⟩ : Addr).add j) = some u := by
  intro j u hj
  have e := heap_last w (.cells #[.string (strOf a)] 9)
  match j, hj with
  | 0, hj => simp [nmc] at hj; subst hj; rw [add_pl]; unfold World.cell?; rw [e]; rfl
  | (j + 1), hj => simp [nmc] at hj
set_option maxHeartbeats 8000000 in
set_option maxRecDepth 100000 in
set_option linter.unusedSimpArgs false in
set_option linter.unusedVariables false in
/-- inserted -/
theorem inserted_any (w : World) (base : Nat) (v : Value) (L : List (List UInt8)) (a : List UInt8) (h : w.ownsRow base 9 1 v L.length (nmc L)) (hL : L.length ≤ 100000) :
    Calls Tryd.prog 52 #[v, .string (strOf a)] w fun e w' => ∃ v', e = .returned v' ∧ w'.ownsRow w.heap.size 9 1 v' (insN a L).length (nmc (insN a L)) ∧ Below w.heap.size w w' := by
  obtain ⟨ba, cp, hv, _⟩ := own_sl h
  subst hv
  obtain ⟨k0, hk0, hx0, hx1, hx2⟩ := info_parts infoStr
  have HL := hide h
  clear h
  go_enter Tryd.func52, Tryd.ntmps52
  go_wp2_with fail
  go_loopw [5, 6, 7] (fun vl vd vi wr => ∃ (q : Nat) (M : List (List UInt8)) (D : Bool), q ≤ L.length ∧ vi = .int .i64 (q : Int) ∧ vd = .bool D ∧ Hid ((insQ a (L.take q)) = (M, D)) ∧ (∃ ba cp, vl = .slice ba M.length cp) ∧ Hid (wr.ownsRow w.heap.size 9 1 vl M.length (nmc M)) ∧ Hid (Below w.heap.size w wr)) (fun _ _ vi _ => L.length - (intOf vi).toNat)
  case atStart => exact ⟨0, [], false, Nat.zero_le _, rfl, rfl, by show _ = _; simp [insQ], ⟨none, 0, rfl⟩, World.ownsRow_nil _ _ _ _, Below.refl _ _⟩
  case round =>
    obtain ⟨q, M, D, hq, rfl, rfl, HQ, ⟨ba2, cp2, rfl⟩, HM, HB⟩ := hrel
    have hlm : M.length ≤ 100001 := by
      have := (insQ_len a (L.take q)).1
      rw [HQ.out, List.length_take] at this
      dsimp only at this
      omega
    by_cases hql : q < L.length
    case neg =>
      obtain rfl : q = L.length := by omega
      have hE := insQ_end a L
      have hQ2 := HQ.out
      rw [List.take_length] at hQ2
      rw [hQ2] at hE
      have HE := hide hE
      clear hE hQ2 HQ
      cases D with
      | true =>
        have hE : M = insN a L := HE.out
        subst hE
        clear HE
        go_wp2_with fail
        go_ret
        exact ⟨_, rfl, HM.out, HB.out⟩
      | false =>
        have hE : M ++ [a] = insN a L := HE.out
        have HE2 := hide hE
        clear HE hE
        go_wp2_with (at_builtin; refine wpList_append_own_at _ rfl (.tmp 37) (.tmp 39) 61 rfl w.heap.size 9 k0 (.string ⟨#[]⟩) 1 16 Tryd.underlying61 hk0 hx0 hx1 hx2 rfl (by decide) _ _ _ rfl (HM.out.alloc _) ⟨_, 0, none⟩ 1 1 (nmc [a]) rfl rfl (one_cellS _ a) (nmc_one _) (by unfold maxLen; omega) (by omega) (by have := HB.out.size; simp; omega) ?_; intro v3 X3 o3 g3 n3 a3; clear n3 a3)
        have B3 : Hid (Below w.heap.size w X3) := (HB.out.alloc HB.out.size _).grown g3 (by have := HB.out.size; simp; omega) (fun j hj => (own_lt HM.out hj).1)
        have O3 : Hid (X3.ownsRow w.heap.size 9 1 v3 (insN a L).length (nmc (insN a L))) := by
          rw [← HE2.out, List.length_append, nmc_append]
          exact o3
        obtain ⟨ba3, cp3, hv3, _⟩ := own_sl O3.out
        subst hv3
        clear o3 g3
        go_wp2_with fail
        go_ret
        exact ⟨_, rfl, O3.out, B3.out⟩
    case pos =>
      have hqi : (q : Int) < (L.length : Int) := by omega
      obtain ⟨g, cg, hv⟩ := own_some HL.out (by omega)
      injection hv with e1 e2 e3
      subst e1
      have CC : Hid (∀ Y, Below w.heap.size w Y → Y.cell? ⟨g, q, none⟩ = some (.string (strOf L[q]))) := fun Y hY => by
        rw [hY.cell (p := ⟨g, q, none⟩) (own_lt HL.out rfl).2, HL.out.cellAt q (by omega), nmc_at L q hql]
      have c1 := CC.out _ HB.out
      have HS := insQ_snoc a (L.take q) L[q]
      rw [← List.take_succ_eq_append_getElem hql, HQ.out] at HS
      replace HS := hide HS
      clear e2 e3 HQ
      generalize L[q] = b at *
      have HBL : Hid (Op.bytesLess (strOf a).toList (strOf b).toList = decide (a < b)) := by
        show _ = _
        rw [bytesLess_eq, toList_data, toList_data, strOf_data, strOf_data]
      cases D with
      | true =>
        have HS2 : Hid (insQ a (List.take (q + 1) L) = (M ++ [b], true)) := HS.out.trans (insS_no (by simp))
        clear HS HBL
        go_wp2_with (at_builtin; refine wpList_append_own_at _ rfl (.tmp 28) (.tmp 33) 61 rfl w.heap.size 9 k0 (.string ⟨#[]⟩) 1 16 Tryd.underlying61 hk0 hx0 hx1 hx2 rfl (by decide) _ _ _ rfl (HM.out.alloc _) ⟨_, 0, none⟩ 1 1 (nmc [b]) rfl rfl (one_cellS _ b) (nmc_one _) (by unfold maxLen; omega) (by omega) (by have := HB.out.size; simp; omega) ?_; intro v4 X4 o4 g4 n4 a4; clear n4 a4)
        have B4 : Hid (Below w.heap.size w X4) := (HB.out.alloc HB.out.size _).grown g4 (by have := HB.out.size; simp; omega) (fun j hj => (own_lt HM.out hj).1)
        have O4 : Hid (X4.ownsRow w.heap.size 9 1 v4 (M ++ [b]).length (nmc (M ++ [b]))) := by
          rw [List.length_append, nmc_append]
          exact o4
        obtain ⟨ba4, cp4, hv4, _⟩ := own_sl O4.out
        subst hv4
        clear o4 g4
        go_wp2_with fail
        go_roundw
        case rel => exact ⟨q + 1, M ++ [b], true, by omega, by go_num, rfl, HS2, ⟨ba4, cp4, by first | rfl | rw [List.length_append]; rfl⟩, by first | exact O4 | (have := O4.out; rw [List.length_append] at this; exact this), B4⟩
        case measure => simp [intOf]; omega
      | false =>
      by_cases hD : a < b
      case neg =>
        have HS2 : Hid (insQ a (List.take (q + 1) L) = (M ++ [b], false)) := HS.out.trans (insS_no (fun e => hD e.2))
        have hbl := HBL.out
        rw [decide_eq_false hD] at hbl
        clear HS HBL
        go_wp2_with (at_builtin; refine wpList_append_own_at _ rfl (.tmp 28) (.tmp 33) 61 rfl w.heap.size 9 k0 (.string ⟨#[]⟩) 1 16 Tryd.underlying61 hk0 hx0 hx1 hx2 rfl (by decide) _ _ _ rfl (HM.out.alloc _) ⟨_, 0, none⟩ 1 1 (nmc [b]) rfl rfl (one_cellS _ b) (nmc_one _) (by unfold maxLen; omega) (by omega) (by have := HB.out.size; simp; omega) ?_; intro v4 X4 o4 g4 n4 a4; clear n4 a4)
        have B4 : Hid (Below w.heap.size w X4) := (HB.out.alloc HB.out.size _).grown g4 (by have := HB.out.size; simp; omega) (fun j hj => (own_lt HM.out hj).1)
        have O4 : Hid (X4.ownsRow w.heap.size 9 1 v4 (M ++ [b]).length (nmc (M ++ [b]))) := by
          rw [List.length_append, nmc_append]
          exact o4
        obtain ⟨ba4, cp4, hv4, _⟩ := own_sl O4.out
        subst hv4
        clear o4 g4
        go_wp2_with fail
        go_roundw
        case rel => exact ⟨q + 1, M ++ [b], false, by omega, by go_num, rfl, HS2, ⟨ba4, cp4, by first | rfl | rw [List.length_append]; rfl⟩, by first | exact O4 | (have := O4.out; rw [List.length_append] at this; exact this), B4⟩
        case measure => simp [intOf]; omega
      case pos =>
        have HS2 : Hid (insQ a (List.take (q + 1) L) = (M ++ [a, b], true)) := HS.out.trans (insS_yes rfl hD)
        have hbl := HBL.out
        rw [decide_eq_true hD] at hbl
        clear HS HBL
        go_upto_region 9 with (at_builtin; refine wpList_append_own_at _ rfl (.tmp 24) (.tmp 26) 61 rfl w.heap.size 9 k0 (.string ⟨#[]⟩) 1 16 Tryd.underlying61 hk0 hx0 hx1 hx2 rfl (by decide) _ _ _ rfl (HM.out.alloc _) ⟨_, 0, none⟩ 1 1 (nmc [a]) rfl rfl (one_cellS _ a) (nmc_one _) (by unfold maxLen; omega) (by omega) (by have := HB.out.size; simp; omega) ?_; intro v3 X3 o3 g3 n3 a3; clear n3 a3)
        have B3 : Hid (Below w.heap.size w X3) := (HB.out.alloc HB.out.size _).grown g3 (by have := HB.out.size; simp; omega) (fun j hj => (own_lt HM.out hj).1)
        have O3 : Hid (X3.ownsRow w.heap.size 9 1 v3 (M ++ [a]).length (nmc (M ++ [a]))) := by
          rw [List.length_append, nmc_append]
          exact o3
        have hM3 : (M ++ [a]).length ≤ 100002 := by rw [List.length_append]; exact Nat.succ_le_succ hlm
        have HM3 : Hid (M ++ [a, b] = (M ++ [a]) ++ [b]) := by show _ = _; simp
        rw [HM3.out] at HS2
        generalize M ++ [a] = M3 at *
        obtain ⟨ba3, cp3, hv3, _⟩ := own_sl O3.out
        subst hv3
        have c2 := CC.out _ B3.out
        clear o3 g3 c1 hbl
        go_wp2_with (at_builtin; refine wpList_append_own_at _ rfl (.tmp 28) (.tmp 33) 61 rfl w.heap.size 9 k0 (.string ⟨#[]⟩) 1 16 Tryd.underlying61 hk0 hx0 hx1 hx2 rfl (by decide) _ _ _ rfl (O3.out.alloc _) ⟨_, 0, none⟩ 1 1 (nmc [b]) rfl rfl (one_cellS _ b) (nmc_one _) (by unfold maxLen; omega) (by omega) (by have := B3.out.size; simp; omega) ?_; intro v4 X4 o4 g4 n4 a4; clear n4 a4)
        have B4 : Hid (Below w.heap.size w X4) := (B3.out.alloc B3.out.size _).grown g4 (by have := B3.out.size; simp; omega) (fun j hj => (own_lt O3.out hj).1)
        have O4 : Hid (X4.ownsRow w.heap.size 9 1 v4 (M3 ++ [b]).length (nmc (M3 ++ [b]))) := by
          rw [List.length_append, nmc_append]
          exact o4
        obtain ⟨ba4, cp4, hv4, _⟩ := own_sl O4.out
        subst hv4
        clear o4 g4
        go_wp2_with fail
        go_roundw
        case rel => exact ⟨q + 1, M3 ++ [b], true, by omega, by go_num, rfl, HS2, ⟨ba4, cp4, by first | rfl | rw [List.length_append]; rfl⟩, by first | exact O4 | (have := O4.out; rw [List.length_append] at this; exact this), B4⟩
        case measure => simp [intOf]; omega
end Go.Proofs.YtioiphonajinmaaDoor
namespace Go.Proofs.YtioiphonajinmaaDoor
open Go.RowKit
theorem exec_ixSl {ρ : Operand → Value} {op : Oper} {w : World} {b n c q : Nat} (x y : Operand) (ho : op.op = .indexAddr 55 x y) (hx : ρ x = .slice (some ⟨b, 0, none⟩) n c) (hy : ρ y = .int .i64 (q : Int)) (hq : q < n) : (execOp ρ op).run Tryd.prog w = .ok (.value (.pointer (some ⟨b, q * 2, none⟩))) w := by
  have hqi : (q : Int) < (n : Int) := by omega
  unfold execOp
  simp only [ho, hx, hy]
  go_simp
theorem exec_fa0 {ρ : Operand → Value} {op : Oper} {w : World} {b o : Nat} (x : Operand) (ho : op.op = .fieldAddr 109 x 0) (hx : ρ x = .pointer (some ⟨b, o, none⟩)) : (execOp ρ op).run Tryd.prog w = .ok (.value (.pointer (some ⟨b, o, none⟩))) w := by
  unfold execOp
  simp only [ho, hx]
  go_simp
theorem exec_fa1 {ρ : Operand → Value} {op : Oper} {w : World} {b o : Nat} (x : Operand) (ho : op.op = .fieldAddr 109 x 1) (hx : ρ x = .pointer (some ⟨b, o, none⟩)) : (execOp ρ op).run Tryd.prog w = .ok (.value (.pointer (some ⟨b, o + 1, none⟩))) w := by
  unfold execOp
  simp only [ho, hx]
  go_simp
theorem exec_buildF0 {ρ : Operand → Value} {op : Oper} {w : World} {a b c : Nat} (x y z : Operand) (ho : op.op = .build 113 #[(0, x), (1, y), (2, z)]) (hx : ρ x = .int .i64 (a : Int)) (hy : ρ y = .int .i64 (b : Int)) (hz : ρ z = .int .i64 (c : Int)) : (execOp ρ op).run Tryd.prog w = .ok (.value (.agg (fiA a b c false))) w := by
  unfold execOp
  have hb : Tryd.prog.built 113 [(0, .int .i64 (a : Int)), (1, .int .i64 (b : Int)), (2, .int .i64 (c : Int))] = some (fiA a b c false) := by kernel_rfl
  simp only [ho, List.map_toArray, List.map_cons, List.map_nil, hx, hy, hz, Sem.run_bind, Sem.run_pure, Result.andThen_ok, run_build w 113 _ _ hb]
theorem exec_buildF1 {ρ : Operand → Value} {op : Oper} {w : World} {a b c : Nat} (x y z u : Operand) (ho : op.op = .build 113 #[(0, x), (1, y), (2, z), (3, u)]) (hx : ρ x = .int .i64 (a : Int)) (hy : ρ y = .int .i64 (b : Int)) (hz : ρ z = .int .i64 (c : Int)) (hu : ρ u = .bool true) : (execOp ρ op).run Tryd.prog w = .ok (.value (.agg (fiA a b c true))) w := by
  unfold execOp
  have hb : Tryd.prog.built 113 [(0, .int .i64 (a : Int)), (1, .int .i64 (b : Int)), (2, .int .i64 (c : Int)), (3, .bool true)] = some (fiA a b c true) := by kernel_rfl
  simp only [ho, List.map_toArray, List.map_cons, List.map_nil, hx, hy, hz, hu, Sem.run_bind, Sem.run_pure, Result.andThen_ok, run_build w 113 _ _ hb]
theorem exec_ext0 {ρ : Operand → Value} {op : Oper} {w : World} {a b : Value} (x : Operand) (ho : op.op = .extract x 0) (hx : ρ x = .tuple #[a, b]) : (execOp ρ op).run Tryd.prog w = .ok (.value a) w := by
  unfold execOp
  simp only [ho, hx]
  go_simp
theorem exec_ext1 {ρ : Operand → Value} {op : Oper} {w : World} {a b : Value} (x : Operand) (ho : op.op = .extract x 1) (hx : ρ x = .tuple #[a, b]) : (execOp ρ op).run Tryd.prog w = .ok (.value b) w := by
  unfold execOp
  simp only [ho, hx]
  go_simp
theorem insA_two (A : List (List UInt8)) (s : Nat × Nat) (k : Nat) : insA (A ++ fl1 s (k + 1)) = insN (fnL (s.1, s.2, k, true)) (insN (fnL (s.1, s.2, k, false)) (insA (A ++ fl1 s k))) := by
  rw [fl1_succ, show A ++ (fl1 s k ++ [fnL (s.1, s.2, k, false), fnL (s.1, s.2, k, true)]) = (A ++ fl1 s k) ++ [fnL (s.1, s.2, k, false)] ++ [fnL (s.1, s.2, k, true)] by simp, insA_append, insA_append]
theorem insN_len (a : List UInt8) (l : List (List UInt8)) : (insN a l).length = l.length + 1 := by
  have := (insN_perm a l).length_eq
  simpa using this
set_option maxHeartbeats 8000000 in
set_option maxRecDepth 100000 in
set_option linter.unusedSimpArgs false in
set_option linter.unusedVariables false in
/-- the document's Files -/
theorem rfiles_any (N : Nat) (w : World) (st : ByteArray) (x : Nat → Int) (ao : Option Addr) (b o cap : Nat) (pv : Nat → Value) (ns : List ND) (node : Int) (h : NsAt N w ao b o pv ns) (hN : N ≤ w.heap.size) (hs : st.size ≤ 9223372036854775807) (hT : TabG w) :
    Calls Tryd.prog 22 #[.agg (clA st x (.slice ao ns.length cap)), .int .i64 node] w fun e w' => ∃ v, e = .returned (.tuple #[v, .int .i64 (hdE st x ns node)]) ∧ w'.ownsRow w.heap.size 9 1 v (flS st x ns node).length (nmc (flS st x ns node)) ∧ Below w.heap.size w w' := by
  obtain ⟨W0, hW0, hX⟩ := boxed st x cap h hN
  have HX := hide (hX.stand hN)
  have B0 := hide hX.bel
  have HO := rholds_any N W0 st x ao b o cap pv ns node HX.out.nd HX.out.le hs (hT.below hX.bel)
  clear hX h hT
  obtain ⟨K, hK⟩ : ∃ K, K = hdE st x ns node := ⟨_, rfl⟩
  have HK := hide hK
  rw [← hK] at HO ⊢
  replace HO := hide HO
  clear hK
  go_enter Tryd.func22, Tryd.ntmps22
  go_upto_region 1 with fail
  rw [← hW0]
  clear hW0
  go_wp2_with (refine wpList_loadCl rfl (.tmp 2) rfl w.heap.size st x _ rfl HX.out.cl ?_)
  refine Calls.mono HO.out ?_
  rintro e W1 ⟨v, rfl, oo, hb⟩
  have X1 := hide (HX.out.below hb)
  have B1 := hide (B0.out.trans (hb.mono B0.out.size))
  obtain ⟨ba, cp, hv, _⟩ := own_sl oo
  subst hv
  have O1 := hide oo
  clear hb HX HO oo
  by_cases he : K = 0
  case neg =>
    have FN : Hid (W1.ownsRow w.heap.size 9 1 (.slice none 0 0) (flS st x ns node).length (nmc (flS st x ns node))) := by
      rw [flS_bad (by rw [← HK.out]; exact he)]
      exact World.ownsRow_nil _ _ _ _
    clear O1
    go_wp2_with fail
    go_ret2
    exact ⟨_, rfl, FN.out, B1.out⟩
  case pos =>
    subst he
    have hE := hdE_zero HK.out.symm
    have L2 : 1 ≤ x 2 ∧ x 2 ≤ 16 := sfP_lim (errP_ok hE).1 2 (by omega)
    have L0 : 1 ≤ x 0 ∧ x 0 ≤ 16 := sfP_lim (errP_ok hE).1 0 (by omega)
    have p64 : ptN ns ≤ 64 := (errP_all hE).2.2.2.1.p2
    obtain ⟨l, hl⟩ : ∃ l, l = hdS st x ns node := ⟨_, rfl⟩
    have hlm : ∀ s ∈ l, s.1 < 64 ∧ s.2 < 16 := fun s hs => by
      rw [hl, hdS_ok HK.out.symm] at hs
      have := hdL_mem (by omega) hs
      omega
    have hll : l.length ≤ 64 := by
      rw [hl, hdS_ok HK.out.symm]
      have := hdL_len x ns node (ptN ns)
      omega
    obtain ⟨ch, hch⟩ : ∃ ch : Nat, (ch : Int) = x 2 := ⟨(x 2).toNat, by omega⟩
    have hF : flS st x ns node = insA (flL l ch) := by
      unfold flS
      rw [← hl, show (x 2).toNat = ch by omega]
    rw [← hl] at O1 ⊢
    have HF := hide hF
    have HM := hide hlm
    have c16 : ch ≤ 16 := by omega
    have CX : Hid (∀ Y, Below W1.heap.size W1 Y → Y.cell? ⟨w.heap.size, 3, none⟩ = some (.int .i64 (ch : Int)) ∧ ∀ q (h : q < l.length), ∃ sg, ba = some ⟨sg, 0, none⟩ ∧ Y.cell? ⟨sg, q * 2, none⟩ = some (.int .i64 (l[q].1 : Int)) ∧ Y.cell? ⟨sg, q * 2 + 1, none⟩ = some (.int .i64 (l[q].2 : Int))) := fun Y hY => by
      refine ⟨by rw [hch]; exact (X1.out.cl.below hY).x2, fun q hq => ?_⟩
      obtain ⟨sg, cq, e⟩ := own_some O1.out (by omega)
      injection e with e1 e2 e3
      subst e1
      have ow := own_keep (X' := Y) O1.out fun g hg => hY.block g (own_lt O1.out hg).2
      refine ⟨sg, rfl, ?_, ?_⟩
      · rw [ow.cellAt (q * 2) (by omega)]
        exact (slc_at l q hq).1
      · rw [ow.cellAt (q * 2 + 1) (by omega)]
        exact (slc_at l q hq).2
    clear hE L2 L0 p64 hlm hF hch hl O1
    go_wp2_with fail
    go_loopw [8, 9] (fun vl vi wr => ∃ (q : Nat), q ≤ l.length ∧ vi = .int .i64 (q : Int) ∧ (∃ ba cp, vl = .slice ba (insA (flL (l.take q) ch)).length cp) ∧ Hid (wr.ownsRow W1.heap.size 9 1 vl (insA (flL (l.take q) ch)).length (nmc (insA (flL (l.take q) ch)))) ∧ Hid (Below W1.heap.size W1 wr)) (fun _ vi _ => l.length - (intOf vi).toNat)
    case atStart => exact ⟨0, Nat.zero_le _, rfl, ⟨none, 0, rfl⟩, World.ownsRow_nil _ _ _ _, Below.refl _ _⟩
    case round =>
      obtain ⟨q, hq, rfl, ⟨ba2, cp2, rfl⟩, HN, HB⟩ := hrel
      by_cases hql : q < l.length
      case neg =>
        obtain rfl : q = l.length := by omega
        rw [List.take_length] at HN ⊢
        have FN : Hid (wr.ownsRow w.heap.size 9 1 (.slice ba2 (insA (flL l ch)).length cp2) (flS st x ns node).length (nmc (flS st x ns node))) := by
          rw [HF.out]
          exact own_lower HN.out B1.out.size
        go_wp2_with fail
        go_ret2
        exact ⟨_, rfl, FN.out, B1.out.trans (HB.out.mono B1.out.size)⟩
      case pos =>
        have hqi : (q : Int) < (l.length : Int) := by omega
        have HT := hide (flL_take (k := ch) hql)
        have hm := HM.out l[q] (List.getElem_mem hql)
        have hfl : (flL (l.take q) ch).length ≤ 2048 := by
          rw [flL_len, List.length_take]
          have := Nat.mul_le_mul (show min q l.length ≤ 64 by omega) (show 2 * ch ≤ 32 by omega)
          omega
        have CQ : Hid (∀ Y, Below W1.heap.size W1 Y → Y.cell? ⟨w.heap.size, 3, none⟩ = some (.int .i64 (ch : Int)) ∧ ∃ sg, ba = some ⟨sg, 0, none⟩ ∧ Y.cell? ⟨sg, q * 2, none⟩ = some (.int .i64 (l[q].1 : Int)) ∧ Y.cell? ⟨sg, q * 2 + 1, none⟩ = some (.int .i64 (l[q].2 : Int))) := fun Y hY => ⟨(CX.out Y hY).1, (CX.out Y hY).2 q hql⟩
        obtain ⟨_, sg, hsg, _⟩ := CQ.out _ HB.out
        subst hsg
        generalize l[q] = s at *
        obtain ⟨p, r⟩ := s
        dsimp only at hm CQ
        have SC : Hid (∀ Y, Below W1.heap.size W1 Y → Y.cell? ⟨sg, q * 2, none⟩ = some (.int .i64 (p : Int)) ∧ Y.cell? ⟨sg, q * 2 + 1, none⟩ = some (.int .i64 (r : Int))) := fun Y hY => by
          obtain ⟨_, sg', e, h1, h2⟩ := CQ.out Y hY
          injection e with e
          injection e with e
          subst e
          exact ⟨h1, h2⟩
        have CH : Hid (∀ Y, Below W1.heap.size W1 Y → Y.cell? ⟨w.heap.size, 3, none⟩ = some (.int .i64 (ch : Int))) := fun Y hY => (CQ.out Y hY).1
        generalize flL (l.take q) ch = A at *
        clear CQ
        go_wp2_with fail
        go_loopw [8, 10] (fun vl vi wq => ∃ (k : Nat), k ≤ ch ∧ vi = .int .i64 (k : Int) ∧ (∃ ba cp, vl = .slice ba (insA (A ++ fl1 (p, r) k)).length cp) ∧ Hid (wq.ownsRow W1.heap.size 9 1 vl (insA (A ++ fl1 (p, r) k)).length (nmc (insA (A ++ fl1 (p, r) k)))) ∧ Hid (Below W1.heap.size W1 wq)) (fun _ vi _ => ch - (intOf vi).toNat)
        case atStart => exact ⟨0, Nat.zero_le _, rfl, ⟨ba2, cp2, by simp [fl1]⟩, by simpa [fl1] using HN, HB⟩
        case round =>
          clear HN HB
          obtain ⟨k, hk, rfl, ⟨ba3, cp3, rfl⟩, HN3, HB3⟩ := hrel
          have c3 := CH.out _ HB3.out
          by_cases hkl : k < ch
          case neg =>
            obtain rfl : k = ch := by omega
            go_wp2_with fail
            go_roundw
            case rel => exact ⟨q + 1, by omega, by go_num, ⟨ba3, cp3, by rw [HT.out]⟩, by rw [HT.out]; exact HN3, HB3⟩
            case measure => simp [intOf]; omega
          case pos =>
            have hki : (k : Int) < (ch : Int) := by omega
            have HS := hide (insA_two A (p, r) k)
            have hBl : (insA (A ++ fl1 (p, r) k)).length ≤ 4000 := by
              rw [insA_len, List.length_append, fl1_len]
              omega
            have F1 := hide (fun Y => rfileName_ok p r k false Y ⟨hm.1, hm.2, by show k < 16; omega⟩)
            have F2 := hide (fun Y => rfileName_ok p r k true Y ⟨hm.1, hm.2, by show k < 16; omega⟩)
            dsimp only at HS
            generalize fnL (p, r, k, false) = n1 at *
            generalize fnL (p, r, k, true) = n2 at *
            generalize insA (A ++ fl1 (p, r) k) = B at *
            go_upto_region 11 with fail
            clear c3
            refine wp_region_held_drew (S := fun Y => Below W1.heap.size W1 Y) (by kernel_rfl) HB3.out.drew (fun hHeld => ?_)
            refine wpAnyH_take (i := 0) (v := (.slice (some ⟨sg, 0, none⟩) l.length cp)) rfl (by kernel_rfl) (by kernel_rfl) (by kernel_rfl) (fun _ _ _ h => h) (Or.inl ⟨by rfl, ?_⟩) (by assumption) ?_
            · intro w' hSw
              (try dsimp only at hSw)
              exact exec_move (.tmp 6) rfl (by kernel_rfl)
            (try simp only [Act.put, List.getElem_toArray, List.getElem_cons_zero, List.getElem_cons_succ, List.setIfInBounds_toArray, List.set_cons_zero, List.set_cons_succ])
            refine wpAnyH_take (i := 1) (v := (.int .i64 (q : Int))) rfl (by kernel_rfl) (by kernel_rfl) (by kernel_rfl) (fun _ _ _ h => h) (Or.inl ⟨by rfl, ?_⟩) (by assumption) ?_
            · intro w' hSw
              (try dsimp only at hSw)
              exact exec_move (.tmp 9) rfl (by kernel_rfl)
            (try simp only [Act.put, List.getElem_toArray, List.getElem_cons_zero, List.getElem_cons_succ, List.setIfInBounds_toArray, List.set_cons_zero, List.set_cons_succ])
            refine wpAnyH_take (i := 2) (v := (.pointer (some ⟨sg, q * 2, none⟩))) rfl (by kernel_rfl) (by kernel_rfl) (by kernel_rfl) (fun _ _ _ h => h) (Or.inl ⟨by rfl, ?_⟩) (by assumption) ?_
            · intro w' hSw
              (try dsimp only at hSw)
              exact exec_ixSl (n := l.length) (c := cp) (.tmp 37) (.tmp 38) rfl (by kernel_rfl) (by kernel_rfl) hql
            (try simp only [Act.put, List.getElem_toArray, List.getElem_cons_zero, List.getElem_cons_succ, List.setIfInBounds_toArray, List.set_cons_zero, List.set_cons_succ])
            refine wpAnyH_take (i := 3) (v := (.pointer (some ⟨sg, q * 2, none⟩))) rfl (by kernel_rfl) (by kernel_rfl) (by kernel_rfl) (fun _ _ _ h => h) (Or.inl ⟨by rfl, ?_⟩) (by assumption) ?_
            · intro w' hSw
              (try dsimp only at hSw)
              exact exec_fa0 (.tmp 39) rfl (by kernel_rfl)
            (try simp only [Act.put, List.getElem_toArray, List.getElem_cons_zero, List.getElem_cons_succ, List.setIfInBounds_toArray, List.set_cons_zero, List.set_cons_succ])
            refine wpAnyH_take (i := 4) (v := (.int .i64 (p : Int))) rfl (by kernel_rfl) (by kernel_rfl) (by kernel_rfl) (fun _ _ _ h => h) (Or.inl ⟨by rfl, ?_⟩) (by assumption) ?_
            · intro w' hSw
              (try dsimp only at hSw)
              exact exec_ld (.tmp 40) rfl (Or.inl rfl) (by kernel_rfl) (SC.out _ hSw).1
            (try simp only [Act.put, List.getElem_toArray, List.getElem_cons_zero, List.getElem_cons_succ, List.setIfInBounds_toArray, List.set_cons_zero, List.set_cons_succ])
            refine wpAnyH_take (i := 5) (v := (.slice (some ⟨sg, 0, none⟩) l.length cp)) rfl (by kernel_rfl) (by kernel_rfl) (by kernel_rfl) (fun _ _ _ h => h) (Or.inl ⟨by rfl, ?_⟩) (by assumption) ?_
            · intro w' hSw
              (try dsimp only at hSw)
              exact exec_move (.tmp 6) rfl (by kernel_rfl)
            (try simp only [Act.put, List.getElem_toArray, List.getElem_cons_zero, List.getElem_cons_succ, List.setIfInBounds_toArray, List.set_cons_zero, List.set_cons_succ])
            refine wpAnyH_take (i := 6) (v := (.int .i64 (q : Int))) rfl (by kernel_rfl) (by kernel_rfl) (by kernel_rfl) (fun _ _ _ h => h) (Or.inl ⟨by rfl, ?_⟩) (by assumption) ?_
            · intro w' hSw
              (try dsimp only at hSw)
              exact exec_move (.tmp 9) rfl (by kernel_rfl)
            (try simp only [Act.put, List.getElem_toArray, List.getElem_cons_zero, List.getElem_cons_succ, List.setIfInBounds_toArray, List.set_cons_zero, List.set_cons_succ])
            refine wpAnyH_take (i := 7) (v := (.pointer (some ⟨sg, q * 2, none⟩))) rfl (by kernel_rfl) (by kernel_rfl) (by kernel_rfl) (fun _ _ _ h => h) (Or.inl ⟨by rfl, ?_⟩) (by assumption) ?_
            · intro w' hSw
              (try dsimp only at hSw)
              exact exec_ixSl (n := l.length) (c := cp) (.tmp 42) (.tmp 43) rfl (by kernel_rfl) (by kernel_rfl) hql
            (try simp only [Act.put, List.getElem_toArray, List.getElem_cons_zero, List.getElem_cons_succ, List.setIfInBounds_toArray, List.set_cons_zero, List.set_cons_succ])
            refine wpAnyH_take (i := 8) (v := (.pointer (some ⟨sg, q * 2 + 1, none⟩))) rfl (by kernel_rfl) (by kernel_rfl) (by kernel_rfl) (fun _ _ _ h => h) (Or.inl ⟨by rfl, ?_⟩) (by assumption) ?_
            · intro w' hSw
              (try dsimp only at hSw)
              exact exec_fa1 (.tmp 44) rfl (by kernel_rfl)
            (try simp only [Act.put, List.getElem_toArray, List.getElem_cons_zero, List.getElem_cons_succ, List.setIfInBounds_toArray, List.set_cons_zero, List.set_cons_succ])
            refine wpAnyH_take (i := 9) (v := (.int .i64 (r : Int))) rfl (by kernel_rfl) (by kernel_rfl) (by kernel_rfl) (fun _ _ _ h => h) (Or.inl ⟨by rfl, ?_⟩) (by assumption) ?_
            · intro w' hSw
              (try dsimp only at hSw)
              exact exec_ld (.tmp 45) rfl (Or.inl rfl) (by kernel_rfl) (SC.out _ hSw).2
            (try simp only [Act.put, List.getElem_toArray, List.getElem_cons_zero, List.getElem_cons_succ, List.setIfInBounds_toArray, List.set_cons_zero, List.set_cons_succ])
            refine wpAnyH_take (i := 10) (v := (.int .i64 (k : Int))) rfl (by kernel_rfl) (by kernel_rfl) (by kernel_rfl) (fun _ _ _ h => h) (Or.inl ⟨by rfl, ?_⟩) (by assumption) ?_
            · intro w' hSw
              (try dsimp only at hSw)
              exact exec_move (.tmp 10) rfl (by kernel_rfl)
            (try simp only [Act.put, List.getElem_toArray, List.getElem_cons_zero, List.getElem_cons_succ, List.setIfInBounds_toArray, List.set_cons_zero, List.set_cons_succ])
            refine wpAnyH_take (i := 11) (v := (.agg (fiA p r k false))) rfl (by kernel_rfl) (by kernel_rfl) (by kernel_rfl) (fun _ _ _ h => h) (Or.inl ⟨by rfl, ?_⟩) (by assumption) ?_
            · intro w' hSw
              (try dsimp only at hSw)
              exact exec_buildF0 (.tmp 41) (.tmp 46) (.tmp 47) rfl (by kernel_rfl) (by kernel_rfl) (by kernel_rfl)
            (try simp only [Act.put, List.getElem_toArray, List.getElem_cons_zero, List.getElem_cons_succ, List.setIfInBounds_toArray, List.set_cons_zero, List.set_cons_succ])
            refine wpAnyH_ready (rs := [12]) (by kernel_rfl) (by simp) ?_
            refine AllReadyH.cons rfl (fun K hK => ?_) AllReadyH.nil
            go_simp
            refine Calls.mono (F1.out _) ?_
            rintro e X1 ⟨rfl, hb⟩
            have S1 : Hid (Below W1.heap.size W1 X1) := HB3.out.drew.trans (hb.mono HB3.out.size)
            have N1 : Hid (X1.ownsRow W1.heap.size 9 1 (.slice ba3 B.length cp3) B.length (nmc B)) := own_keep HN3.out fun i hi => hb.block i (own_lt HN3.out hi).2
            clear hb
            refine hK.out _ _ (S1.out) (fun hHeld => ?_)
            clear hK
            (try simp only [Act.put, List.setIfInBounds_toArray, List.set_cons_zero, List.set_cons_succ])
            refine wpAnyH_take (i := 13) (v := (.tuple #[.string (strOf n1), .int .i64 0])) rfl (by kernel_rfl) (by kernel_rfl) (by kernel_rfl) (fun _ _ _ h => h) (Or.inl ⟨by rfl, ?_⟩) (by assumption) ?_
            · intro w' hSw
              (try dsimp only at hSw)
              exact exec_move (.tmp 49) rfl (by kernel_rfl)
            (try simp only [Act.put, List.getElem_toArray, List.getElem_cons_zero, List.getElem_cons_succ, List.setIfInBounds_toArray, List.set_cons_zero, List.set_cons_succ])
            refine wpAnyH_take (i := 14) (v := (.string (strOf n1))) rfl (by kernel_rfl) (by kernel_rfl) (by kernel_rfl) (fun _ _ _ h => h) (Or.inl ⟨by rfl, ?_⟩) (by assumption) ?_
            · intro w' hSw
              (try dsimp only at hSw)
              exact exec_ext0 (b := .int .i64 0) (.tmp 36) rfl (by kernel_rfl)
            (try simp only [Act.put, List.getElem_toArray, List.getElem_cons_zero, List.getElem_cons_succ, List.setIfInBounds_toArray, List.set_cons_zero, List.set_cons_succ])
            refine wpAnyH_take (i := 15) (v := (.int .i64 0)) rfl (by kernel_rfl) (by kernel_rfl) (by kernel_rfl) (fun _ _ _ h => h) (Or.inl ⟨by rfl, ?_⟩) (by assumption) ?_
            · intro w' hSw
              (try dsimp only at hSw)
              exact exec_ext1 (a := .string (strOf n1)) (.tmp 36) rfl (by kernel_rfl)
            (try simp only [Act.put, List.getElem_toArray, List.getElem_cons_zero, List.getElem_cons_succ, List.setIfInBounds_toArray, List.set_cons_zero, List.set_cons_succ])
            refine wpAnyH_ready (rs := [16]) (by kernel_rfl) (by simp) ?_
            refine AllReadyH.cons rfl (fun K hK => ?_) AllReadyH.nil
            go_simp
            refine hK.out _ _ (S1.out) (fun hHeld => ?_)
            clear hK
            (try simp only [Act.put, List.setIfInBounds_toArray, List.set_cons_zero, List.set_cons_succ])
            refine wpAnyH_ready (rs := [17]) (by kernel_rfl) (by simp) ?_
            refine AllReadyH.cons rfl (fun K hK => ?_) AllReadyH.nil
            go_simp
            refine hK.out _ _ (S1.out) (fun hHeld => ?_)
            clear hK
            (try simp only [Act.put, List.setIfInBounds_toArray, List.set_cons_zero, List.set_cons_succ])
            refine wpAnyH_done (by kernel_rfl) ?_ _
            clear hHeld F1 HN3 HB3
            go_upto_region 12 with fail
            refine wp_region_held_drew (S := fun Y => Below W1.heap.size W1 Y) (by kernel_rfl) S1.out.drew (fun hHeld => ?_)
            refine wpAnyH_take (i := 0) (v := (.slice (some ⟨sg, 0, none⟩) l.length cp)) rfl (by kernel_rfl) (by kernel_rfl) (by kernel_rfl) (fun _ _ _ h => h) (Or.inl ⟨by rfl, ?_⟩) (by assumption) ?_
            · intro w' hSw
              (try dsimp only at hSw)
              exact exec_move (.tmp 6) rfl (by kernel_rfl)
            (try simp only [Act.put, List.getElem_toArray, List.getElem_cons_zero, List.getElem_cons_succ, List.setIfInBounds_toArray, List.set_cons_zero, List.set_cons_succ])
            refine wpAnyH_take (i := 1) (v := (.int .i64 (q : Int))) rfl (by kernel_rfl) (by kernel_rfl) (by kernel_rfl) (fun _ _ _ h => h) (Or.inl ⟨by rfl, ?_⟩) (by assumption) ?_
            · intro w' hSw
              (try dsimp only at hSw)
              exact exec_move (.tmp 9) rfl (by kernel_rfl)
            (try simp only [Act.put, List.getElem_toArray, List.getElem_cons_zero, List.getElem_cons_succ, List.setIfInBounds_toArray, List.set_cons_zero, List.set_cons_succ])
            refine wpAnyH_take (i := 2) (v := (.pointer (some ⟨sg, q * 2, none⟩))) rfl (by kernel_rfl) (by kernel_rfl) (by kernel_rfl) (fun _ _ _ h => h) (Or.inl ⟨by rfl, ?_⟩) (by assumption) ?_
            · intro w' hSw
              (try dsimp only at hSw)
              exact exec_ixSl (n := l.length) (c := cp) (.tmp 53) (.tmp 54) rfl (by kernel_rfl) (by kernel_rfl) hql
            (try simp only [Act.put, List.getElem_toArray, List.getElem_cons_zero, List.getElem_cons_succ, List.setIfInBounds_toArray, List.set_cons_zero, List.set_cons_succ])
            refine wpAnyH_take (i := 3) (v := (.pointer (some ⟨sg, q * 2, none⟩))) rfl (by kernel_rfl) (by kernel_rfl) (by kernel_rfl) (fun _ _ _ h => h) (Or.inl ⟨by rfl, ?_⟩) (by assumption) ?_
            · intro w' hSw
              (try dsimp only at hSw)
              exact exec_fa0 (.tmp 55) rfl (by kernel_rfl)
            (try simp only [Act.put, List.getElem_toArray, List.getElem_cons_zero, List.getElem_cons_succ, List.setIfInBounds_toArray, List.set_cons_zero, List.set_cons_succ])
            refine wpAnyH_take (i := 4) (v := (.int .i64 (p : Int))) rfl (by kernel_rfl) (by kernel_rfl) (by kernel_rfl) (fun _ _ _ h => h) (Or.inl ⟨by rfl, ?_⟩) (by assumption) ?_
            · intro w' hSw
              (try dsimp only at hSw)
              exact exec_ld (.tmp 56) rfl (Or.inl rfl) (by kernel_rfl) (SC.out _ hSw).1
            (try simp only [Act.put, List.getElem_toArray, List.getElem_cons_zero, List.getElem_cons_succ, List.setIfInBounds_toArray, List.set_cons_zero, List.set_cons_succ])
            refine wpAnyH_take (i := 5) (v := (.slice (some ⟨sg, 0, none⟩) l.length cp)) rfl (by kernel_rfl) (by kernel_rfl) (by kernel_rfl) (fun _ _ _ h => h) (Or.inl ⟨by rfl, ?_⟩) (by assumption) ?_
            · intro w' hSw
              (try dsimp only at hSw)
              exact exec_move (.tmp 6) rfl (by kernel_rfl)
            (try simp only [Act.put, List.getElem_toArray, List.getElem_cons_zero, List.getElem_cons_succ, List.setIfInBounds_toArray, List.set_cons_zero, List.set_cons_succ])
            refine wpAnyH_take (i := 6) (v := (.int .i64 (q : Int))) rfl (by kernel_rfl) (by kernel_rfl) (by kernel_rfl) (fun _ _ _ h => h) (Or.inl ⟨by rfl, ?_⟩) (by assumption) ?_
            · intro w' hSw
              (try dsimp only at hSw)
              exact exec_move (.tmp 9) rfl (by kernel_rfl)
            (try simp only [Act.put, List.getElem_toArray, List.getElem_cons_zero, List.getElem_cons_succ, List.setIfInBounds_toArray, List.set_cons_zero, List.set_cons_succ])
            refine wpAnyH_take (i := 7) (v := (.pointer (some ⟨sg, q * 2, none⟩))) rfl (by kernel_rfl) (by kernel_rfl) (by kernel_rfl) (fun _ _ _ h => h) (Or.inl ⟨by rfl, ?_⟩) (by assumption) ?_
            · intro w' hSw
              (try dsimp only at hSw)
              exact exec_ixSl (n := l.length) (c := cp) (.tmp 58) (.tmp 59) rfl (by kernel_rfl) (by kernel_rfl) hql
            (try simp only [Act.put, List.getElem_toArray, List.getElem_cons_zero, List.getElem_cons_succ, List.setIfInBounds_toArray, List.set_cons_zero, List.set_cons_succ])
            refine wpAnyH_take (i := 8) (v := (.pointer (some ⟨sg, q * 2 + 1, none⟩))) rfl (by kernel_rfl) (by kernel_rfl) (by kernel_rfl) (fun _ _ _ h => h) (Or.inl ⟨by rfl, ?_⟩) (by assumption) ?_
            · intro w' hSw
              (try dsimp only at hSw)
              exact exec_fa1 (.tmp 60) rfl (by kernel_rfl)
            (try simp only [Act.put, List.getElem_toArray, List.getElem_cons_zero, List.getElem_cons_succ, List.setIfInBounds_toArray, List.set_cons_zero, List.set_cons_succ])
            refine wpAnyH_take (i := 9) (v := (.int .i64 (r : Int))) rfl (by kernel_rfl) (by kernel_rfl) (by kernel_rfl) (fun _ _ _ h => h) (Or.inl ⟨by rfl, ?_⟩) (by assumption) ?_
            · intro w' hSw
              (try dsimp only at hSw)
              exact exec_ld (.tmp 61) rfl (Or.inl rfl) (by kernel_rfl) (SC.out _ hSw).2
            (try simp only [Act.put, List.getElem_toArray, List.getElem_cons_zero, List.getElem_cons_succ, List.setIfInBounds_toArray, List.set_cons_zero, List.set_cons_succ])
            refine wpAnyH_take (i := 10) (v := (.int .i64 (k : Int))) rfl (by kernel_rfl) (by kernel_rfl) (by kernel_rfl) (fun _ _ _ h => h) (Or.inl ⟨by rfl, ?_⟩) (by assumption) ?_
            · intro w' hSw
              (try dsimp only at hSw)
              exact exec_move (.tmp 10) rfl (by kernel_rfl)
            (try simp only [Act.put, List.getElem_toArray, List.getElem_cons_zero, List.getElem_cons_succ, List.setIfInBounds_toArray, List.set_cons_zero, List.set_cons_succ])
            refine wpAnyH_take (i := 11) (v := (.agg (fiA p r k true))) rfl (by kernel_rfl) (by kernel_rfl) (by kernel_rfl) (fun _ _ _ h => h) (Or.inl ⟨by rfl, ?_⟩) (by assumption) ?_
            · intro w' hSw
              (try dsimp only at hSw)
              exact exec_buildF1 (.tmp 57) (.tmp 62) (.tmp 63) (.const (.bool true)) rfl (by kernel_rfl) (by kernel_rfl) (by kernel_rfl) (by kernel_rfl)
            (try simp only [Act.put, List.getElem_toArray, List.getElem_cons_zero, List.getElem_cons_succ, List.setIfInBounds_toArray, List.set_cons_zero, List.set_cons_succ])
            refine wpAnyH_ready (rs := [12]) (by kernel_rfl) (by simp) ?_
            refine AllReadyH.cons rfl (fun K hK => ?_) AllReadyH.nil
            go_simp
            refine Calls.mono (F2.out _) ?_
            rintro e X2 ⟨rfl, hb⟩
            have S2 : Hid (Below W1.heap.size W1 X2) := S1.out.drew.trans (hb.mono S1.out.size)
            have N2 : Hid (X2.ownsRow W1.heap.size 9 1 (.slice ba3 B.length cp3) B.length (nmc B)) := own_keep N1.out fun i hi => hb.block i (own_lt N1.out hi).2
            clear hb
            refine hK.out _ _ (S2.out) (fun hHeld => ?_)
            clear hK
            (try simp only [Act.put, List.setIfInBounds_toArray, List.set_cons_zero, List.set_cons_succ])
            refine wpAnyH_take (i := 13) (v := (.tuple #[.string (strOf n2), .int .i64 0])) rfl (by kernel_rfl) (by kernel_rfl) (by kernel_rfl) (fun _ _ _ h => h) (Or.inl ⟨by rfl, ?_⟩) (by assumption) ?_
            · intro w' hSw
              (try dsimp only at hSw)
              exact exec_move (.tmp 65) rfl (by kernel_rfl)
            (try simp only [Act.put, List.getElem_toArray, List.getElem_cons_zero, List.getElem_cons_succ, List.setIfInBounds_toArray, List.set_cons_zero, List.set_cons_succ])
            refine wpAnyH_take (i := 14) (v := (.string (strOf n2))) rfl (by kernel_rfl) (by kernel_rfl) (by kernel_rfl) (fun _ _ _ h => h) (Or.inl ⟨by rfl, ?_⟩) (by assumption) ?_
            · intro w' hSw
              (try dsimp only at hSw)
              exact exec_ext0 (b := .int .i64 0) (.tmp 52) rfl (by kernel_rfl)
            (try simp only [Act.put, List.getElem_toArray, List.getElem_cons_zero, List.getElem_cons_succ, List.setIfInBounds_toArray, List.set_cons_zero, List.set_cons_succ])
            refine wpAnyH_take (i := 15) (v := (.int .i64 0)) rfl (by kernel_rfl) (by kernel_rfl) (by kernel_rfl) (fun _ _ _ h => h) (Or.inl ⟨by rfl, ?_⟩) (by assumption) ?_
            · intro w' hSw
              (try dsimp only at hSw)
              exact exec_ext1 (a := .string (strOf n2)) (.tmp 52) rfl (by kernel_rfl)
            (try simp only [Act.put, List.getElem_toArray, List.getElem_cons_zero, List.getElem_cons_succ, List.setIfInBounds_toArray, List.set_cons_zero, List.set_cons_succ])
            refine wpAnyH_ready (rs := [16]) (by kernel_rfl) (by simp) ?_
            refine AllReadyH.cons rfl (fun K hK => ?_) AllReadyH.nil
            go_simp
            refine hK.out _ _ (S2.out) (fun hHeld => ?_)
            clear hK
            (try simp only [Act.put, List.setIfInBounds_toArray, List.set_cons_zero, List.set_cons_succ])
            refine wpAnyH_ready (rs := [17]) (by kernel_rfl) (by simp) ?_
            refine AllReadyH.cons rfl (fun K hK => ?_) AllReadyH.nil
            go_simp
            refine hK.out _ _ (S2.out) (fun hHeld => ?_)
            clear hK
            (try simp only [Act.put, List.setIfInBounds_toArray, List.set_cons_zero, List.set_cons_succ])
            refine wpAnyH_done (by kernel_rfl) ?_ _
            clear hHeld F2 N1 S1
            have I1 := hide (inserted_any X2 W1.heap.size _ B n1 N2.out (by omega))
            go_wp2_with fail
            refine Calls.mono I1.out ?_
            rintro e X3 ⟨v3, rfl, o3, hb⟩
            have S3 : Hid (Below W1.heap.size W1 X3) := S2.out.trans (hb.mono S2.out.size)
            have N3 := hide (own_lower o3 S2.out.size)
            obtain ⟨ba5, cp5, hv5, _⟩ := own_sl N3.out
            subst hv5
            have I2 := hide (inserted_any X3 W1.heap.size _ (insN n1 B) n2 N3.out (by rw [insN_len]; omega))
            clear hb o3 I1 N2 S2
            go_wp2_with fail
            refine Calls.mono I2.out ?_
            rintro e X4 ⟨v4, rfl, o4, hb⟩
            have S4 : Hid (Below W1.heap.size W1 X4) := S3.out.trans (hb.mono S3.out.size)
            have N4 : Hid (X4.ownsRow W1.heap.size 9 1 v4 (insA (A ++ fl1 (p, r) (k + 1))).length (nmc (insA (A ++ fl1 (p, r) (k + 1))))) := by
              rw [HS.out]
              exact own_lower o4 S3.out.size
            obtain ⟨ba6, cp6, hv6, _⟩ := own_sl N4.out
            subst hv6
            clear hb o4 I2 N3 S3
            go_wp2_with fail
            go_roundw
            case rel => exact ⟨k + 1, by omega, by go_num, ⟨ba6, cp6, rfl⟩, N4, S4⟩
            case measure => simp [intOf]; omega
end Go.Proofs.YtioiphonajinmaaDoor
