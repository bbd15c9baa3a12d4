import Derived.Test.YteiiolilpemimaaDoorGAtShelf
import Derived.Laws.StructEq
import Derived.WalkMore
namespace Go.Proofs.YteiiolilpemimaaDoor.Cn
open Go.RowKit
theorem eqf_int {P : Program} {d : Nat} {xs ys : Array Value} {f : Field} {fs : List Field} {k : IntKind} {x y : Int} {w : World} (hn : f.name ≠ "_") (hx : (part f.type xs f.offset).run P w = .ok (.int .i64 x) w) (hy : (part f.type ys f.offset).run P w = .ok (.int .i64 y) w) (hu : P.underlying f.type = some (.int k)) :
    (Op.eqFields (d + 1) xs ys (f :: fs)).run P w = if x = y then (Op.eqFields (d + 1) xs ys fs).run P w else .ok false w := by
  simp only [Op.eqFields, if_pos hn, Sem.run_bind, hx, hy, Result.andThen_ok, run_equalIn_int w d f.type .i64 k x y hu]
  by_cases h : x = y
  · rw [if_pos h, if_neg (by simp [h])]
  · rw [if_neg h, if_pos (by simp [h])]; rfl
theorem eqf_str {P : Program} {d : Nat} {xs ys : Array Value} {f : Field} {fs : List Field} {x y : ByteArray} {w : World} (hn : f.name ≠ "_") (hx : (part f.type xs f.offset).run P w = .ok (.string x) w) (hy : (part f.type ys f.offset).run P w = .ok (.string y) w) (hu : P.underlying f.type = some .string) :
    (Op.eqFields (d + 1) xs ys (f :: fs)).run P w = if x = y then (Op.eqFields (d + 1) xs ys fs).run P w else .ok false w := by
  simp only [Op.eqFields, if_pos hn, Sem.run_bind, hx, hy, Result.andThen_ok, run_equalIn_string w d f.type x y hu, eq_beq]
  by_cases h : x = y
  · rw [if_pos h, if_neg (by simp [h])]
  · rw [if_neg h, if_pos (by simp [h])]; rfl
set_option maxHeartbeats 16000000 in
set_option maxRecDepth 100000 in
set_option linter.unusedSimpArgs false in
set_option linter.unusedVariables false in
theorem neqC (a b : Ct2) (w : World) : (binOp .neq 116 (.agg (ctV a)) (.agg (ctV b))).run Tryd.prog w = .ok (.bool (!decide (a = b))) w := by
  have hS : Tryd.prog.underlying 116 = some (.struct (Tryd.prog.fieldsOf 116)) := by kernel_rfl
  have hp : Tryd.prog.stoodInHeld 116 = false := by kernel_rfl
  have e : (Op.equalIn 10000 116 (.agg (ctV a)) (.agg (ctV b))).run Tryd.prog w = .ok (decide (a = b)) w := by
    rw [show (10000 : Nat) = 9999 + 1 from rfl, run_equalIn_agg w 9999 116 _ _ hS hp]
    simp only [Program.fieldsOf, Tryd.underlying116]
    rw [show (9999 : Nat) = 9998 + 1 from rfl]
    rw [eqf_str (x := a.1) (y := b.1) (by decide) (by kernel_rfl) (by kernel_rfl) (by kernel_rfl)]
    rw [eqf_int (k := .i64) (x := a.2) (y := b.2) (by decide) (by kernel_rfl) (by kernel_rfl) (by kernel_rfl)]
    by_cases h1 : a.1 = b.1
    · rw [if_pos h1]
      by_cases h2 : a.2 = b.2
      · rw [if_pos h2, decide_eq_true (Prod.ext h1 h2)]
        rfl
      · rw [if_neg h2, decide_eq_false (fun e => h2 (by rw [e]))]
    · rw [if_neg h1, decide_eq_false (fun e => h1 (by rw [e]))]
  rw [run_neq_struct, e]
  rfl
theorem wp_neqC {o : Oper} {a : Act} {w : World} {K : Act → World → Prop} {Q : Exit → Act → World → Prop} (x y : Operand) (t2 : TypeId) (ho : o.op = .binOp .neq 116 x y t2) (m m' : Ct2) (hx : a.eval x = .agg (ctV m)) (hy : a.eval y = .agg (ctV m')) (h : K (a.put o.dst (.bool (!decide (m = m')))) w) : o.wp Tryd.prog a w K Q := by
  have hg : Tryd.prog.eqGuardType Tryd.prog.depth 116 = false := by kernel_rfl
  unfold Oper.wp execOp
  simp only [ho, Sem.run_bind, Sem.run_pure, Result.andThen_ok, hx, hy, neqC, run_eqGuard_agg w .neq 116 x y (ctV m) (ctV m') hg]
  exact h
theorem sl_onec (s : Sl) : (slV s).all (·.oneCell') = true := by simp [slV, Value.oneCell']
theorem ct_onec (s : Ct2) : (ctV s).all (·.oneCell') = true := by simp [ctV, Value.oneCell']
theorem sl_info : (Tryd.prog.info? 85).map (·.size) = some 2 := by kernel_rfl
theorem ct_info : (Tryd.prog.info? 116).map (·.size) = some 2 := by kernel_rfl
/-- does what was told of a slot differ from what was told of its partition's replica r? -/
def dfR (T : Tl) (a : Sl × Ct2) (r : Nat) : Bool := match tlk T (a.1.1, r) with
  | some c => !decide (c = a.2)
  | none => false
def dfA (T : Tl) (n : Nat) (a : Sl × Ct2) : Bool := (List.range n).any (dfR T a)
theorem dfA_false {T : Tl} {n : Nat} {a : Sl × Ct2} (h : ∀ r, r < n → dfR T a r = false) : dfA T n a = false := by
  unfold dfA
  rw [List.any_eq_false]
  intro r hr
  rw [h r (List.mem_range.1 hr)]
  decide
theorem dfA_true {T : Tl} {n r : Nat} {a : Sl × Ct2} (hr : r < n) (h : dfR T a r = true) : dfA T n a = true := by
  unfold dfA
  rw [List.any_eq_true]
  exact ⟨r, List.mem_range.2 hr, h⟩
def isDf (T : Tl) (n : Nat) (p : Int) : Prop := ∃ a ∈ T, (a.1.1 : Int) = p ∧ dfA T n a = true
theorem tl_split {Q : Tl} {e : Sl × Value} {R' : List (Sl × Value)} (h : (tlV Q).Perm (e :: R')) : ∃ q Q', q ∈ Q ∧ e = (q.1, .agg (ctV q.2)) ∧ Q.Perm (q :: Q') ∧ R'.Perm (tlV Q') := by
  obtain ⟨q, hq, rfl⟩ := List.mem_map.1 (h.mem_iff.2 (List.mem_cons_self))
  obtain ⟨l1, l2, rfl⟩ := List.append_of_mem hq
  refine ⟨q, l1 ++ l2, hq, rfl, List.perm_middle, ?_⟩
  have h1 : (tlV (l1 ++ q :: l2)).Perm ((q.1, .agg (ctV q.2)) :: tlV (l1 ++ l2)) := (List.perm_middle (l₁ := l1) (l₂ := l2) (a := q)).map _
  exact (h.symm.trans h1).cons_inv
theorem nod64 {D : List Int} (h : D.Nodup) (hb : ∀ p ∈ D, 0 ≤ p ∧ p < 64) : D.length ≤ 64 := by
  have : (D.map Int.toNat).length ≤ 64 := by
    refine nodup_len _ (List.pairwise_map.2 (List.Pairwise.imp_of_mem (fun {a b} ha hb' hab e => ?_) h)) (fun x hx => ?_)
    · have := hb a ha
      have := hb b hb'
      exact hab (by omega)
    · obtain ⟨p, hp, rfl⟩ := List.mem_map.1 hx
      have := hb p hp
      omega
  rwa [List.length_map] at this
theorem iter_n {w : World} {M r base e sz n : Nat} {L rest : List (Sl × Value)} {v : Value} {xs : List Value} (h : Rg ST w M r L rest) (ho : w.ownsRow base e sz v n xs) : ∀ k, v.ownBlock = some k → k ≠ r := fun k hk q => by
  obtain ⟨cur, hc⟩ := own_typ ho hk
  obtain ⟨es, clock, since, seen, c0, _, _, h3, _⟩ := h
  rw [q, h3] at hc
  simp at hc
/-- slices.Contains of a row -/
theorem cont_ints (w : World) (base : Nat) (a : Option Addr) (c : Nat) (L : List Int) (x : Int) (h : w.ownsRow base 3 1 (.slice a L.length c) L.length (ints L)) (hl : L.length ≤ 1000) :
    Calls Tryd.prog 71 #[.slice a L.length c, .int .i64 x] w fun e w' => e = .returned (.bool (L.contains x)) ∧ w' = w := by
  cases L with
  | nil => exact Tryd.slices_Contains_int_empty a c x w
  | cons t0 tr =>
    obtain ⟨g, c', e⟩ := own_g h (by simp)
    injection e with e _ _
    subst e
    have := Tryd.slices_Contains_int g 0 (t0 :: tr).length c (t0 :: tr) x w (Nat.le_refl _) (by omega) (fun j hj => by
      obtain ⟨g', cap', e', hc, _⟩ := own_at h (ints_at2 _ j hj)
      injection e' with e' _ _
      injection e' with e'
      injection e' with e'
      subst e'
      rw [Nat.zero_add, hc, List.getD_eq_getElem?_getD, List.getElem?_eq_getElem hj]
      rfl)
    rw [List.take_length] at this
    exact this
set_option maxHeartbeats 16000000 in
set_option maxRecDepth 100000 in
set_option linter.unusedSimpArgs false in
set_option linter.unusedVariables false in
theorem differing_a {w : World} {A H hc M : Nat} {v : Au} (h : AuAt w A H hc M v) (n : Nat) (hn : v.rp = (n : Int)) (hn16 : n ≤ 16) :
    Calls Tryd.prog 65 #[.pointer (some ⟨A, 0, none⟩)] w fun e w' => ∃ u D, e = .returned u ∧ D.Nodup ∧ (∀ p, p ∈ D ↔ isDf v.told n p) ∧ w'.ownsRow w.heap.size 3 1 u D.length (ints (srtI D)) ∧ Kp w w' non := by
  have HA := hide h
  obtain ⟨-, -, c2, -, -, -, -, c7, -⟩ := h.cells
  rw [hn] at c2
  have M0 := hide h.map
  have ML : Hid (M < w.heap.size) := h.map.lt
  have OKT := hide h.map.ok
  have HRP : Hid (∀ X, Kp w X non → X.cell? ⟨A, 2, none⟩ = some (.int .i64 (n : Int)) ∧ X.cell? ⟨A, 7, none⟩ = some (.map (some M)) ∧ Mt X M v.told) := fun X hX => by
    have hx := h.kp0 hX
    obtain ⟨-, -, d2, -, -, -, -, d7, -⟩ := hx.cells
    rw [hn] at d2
    exact ⟨d2, d7, hx.map⟩
  obtain ⟨T, hT⟩ : ∃ T, T = v.told := ⟨_, rfl⟩
  rw [← hT] at M0 OKT HRP ⊢
  clear h hn hT c2
  go_enter Tryd.func65, Tryd.ntmps65
  go_wp2_with fail
  go_step3
  go_wp2_with fail
  go_step3
  go_wp2_with (first
    | (at_range; refine wpList_rangeM (T := ST) _ rfl _ 67 116 rfl Tryd.underlying67 M (tlV T) rfl M0.out ?_; intro w1 hrg hb1 hs1)
    | go_in)
  (try go_frame)
  obtain ⟨it, hit⟩ : ∃ it, it = w.heap.size := ⟨_, rfl⟩
  rw [← hit] at hrg ⊢
  have HIT := hide hit
  clear hit c7
  go_loopw [3] (fun v3 wr => ∃ (Q : Tl) (D : List Int) (a3 : Option Addr) (c3 : Nat), v3 = .slice a3 D.length c3 ∧ Rg ST wr M it (tlV T) (tlV Q) ∧ wr.ownsRow w.heap.size 3 1 (.slice a3 D.length c3) D.length (ints D) ∧ Hid (D.Nodup ∧ (∀ p ∈ D, isDf T n p) ∧ (∀ a ∈ T, a ∈ Q ∨ dfA T n a = false ∨ (a.1.1 : Int) ∈ D) ∧ (∀ q ∈ Q, q ∈ T)) ∧ Kp w wr non) (fun _ wr => wr.rangeLeft M it)
  case atStart => exact ⟨T, [], none, 0, rfl, hrg, World.ownsRow_nil _ _ _ _, ⟨List.nodup_nil, by simp, fun a ha => Or.inl ha, fun _ q => q⟩, Kp.of_below hb1 non⟩
  case round =>
    obtain ⟨Q, D, a3, c3, rfl, hr, ho, HD, hkr⟩ := hrel
    have HO := hide ho
    have HK := hide hkr
    have IN := hide (iter_n hr ho)
    have hleft := hr.left
    have DL : Hid (D.length ≤ 64) := nod64 HD.out.1 (fun p hp => by
      obtain ⟨a, ha, e, _⟩ := HD.out.2.1 p hp
      have := (OKT.out a ha).1
      omega)
    clear ho hkr
    go_wp2_with (first
      | (at_next; refine wpList_nextM (T := ST) _ rfl _ rfl M it (tlV T) (tlV Q) rfl hr ?_ ?_)
      | go_in)
    · intro hR
      obtain rfl : Q = [] := by
        unfold tlV at hR
        exact List.map_eq_nil_iff.1 hR
      have HP : Hid (D.Nodup ∧ ∀ p, p ∈ D ↔ isDf T n p) := ⟨HD.out.1, fun p => ⟨HD.out.2.1 p, fun ⟨a, ha, e, hd⟩ => by
        rcases HD.out.2.2.1 a ha with q | q | q
        · simp at q
        · rw [q] at hd
          exact absurd hd (by decide)
        · rw [← e]
          exact q⟩⟩
      by_cases hDc : D = []
      · subst hDc
        have SN := hide (Tryd.slices_Sort_int_none a3 c3 wr)
        clear hr IN hR
        go_wp2_with fail
        refine Calls.mono SN.out ?_
        rintro e W1 ⟨rfl, rfl⟩
        go_wp2_with fail
        rw [Exit.noGoto_ret]
        go_ret
        exact ⟨_, [], rfl, HP.out.1, HP.out.2, by rw [show srtI [] = [] by simp [srtI]]; exact HO.out, HK.out⟩
      · obtain ⟨g3, c3', e3⟩ := own_g HO.out (List.length_pos_iff.2 hDc)
        injection e3 with e3 _ e4
        subst e3
        subst e4
        have SN := hide (sort_ints wr w.heap.size g3 c3 D HO.out (by have := DL.out; omega))
        clear hDc
        obtain ⟨tn, htn⟩ : ∃ tn, tn = D.length := ⟨_, rfl⟩
        rw [← htn] at SN ⊢
        have HTN := hide htn
        clear hr IN hR HO htn
        go_wp2_with fail
        refine Calls.mono SN.out ?_
        rintro e W1 ⟨rfl, o1, b1⟩
        have O1 := hide o1
        have B1 : Hid (Kp w W1 non) := ⟨b1.os.trans HK.out.os, b1.tape.trans HK.out.tape, b1.output.trans HK.out.output, Nat.le_trans HK.out.size b1.size, fun k hk _ => (b1.block k hk).trans (HK.out.block k hk (fun f => f))⟩
        clear o1 b1 SN
        go_wp2_with fail
        rw [Exit.noGoto_ret]
        go_ret
        exact ⟨_, D, rfl, HP.out.1, HP.out.2, by rw [← HTN.out]; exact O1.out, B1.out⟩
    · intro pk pk2 pv' R' w2 hp hpL hr2 hk2 hs2 hen
      obtain ⟨a, Q', hq, he, hQp, hRp⟩ := tl_split hp
      have he1 : (pk, pk2) = a.1 := congrArg Prod.fst he
      have he2 : pv' = .agg (ctV a.2) := congrArg Prod.snd he
      subst he2
      rw [he1] at hen ⊢
      clear he he1
      have K2 : Hid (Kp w w2 non) := HK.out.trans (T := fun b => b = it) hk2 (fun k e => Or.inr (by have := HIT.out; omega))
      have O2 : Hid (w2.ownsRow w.heap.size 3 1 (.slice a3 D.length c3) D.length (ints D)) := own_kp HO.out hk2 (fun k e f => IN.out k e f)
      have hen' : (Instr.entry (.pointer (some ⟨it, 0, none⟩))).run Tryd.prog w2 = .ok (.tuple #[.agg (slV a.1), .agg (ctV a.2)]) w2 := hen
      have ee : ST.enc a.1 = .agg (slV a.1) := rfl
      rw [ee]
      have HR2 := hide (hr2.perm hRp)
      have HLE : Hid ((tlV Q).length = (tlV Q').length + 1) := by
        have a1 := hp.length_eq
        have a2 := hRp.length_eq
        rw [List.length_cons] at a1
        show (tlV Q).length = _
        omega
      have AT : Hid (a ∈ T) := HD.out.2.2.2 a hq
      have HQ' : Hid ((∀ q ∈ Q', q ∈ T) ∧ ∀ b ∈ T, b = a ∨ b ∈ Q' ∨ dfA T n b = false ∨ (b.1.1 : Int) ∈ D) := ⟨fun q hq' => HD.out.2.2.2 q (hQp.mem_iff.2 (List.mem_cons_of_mem _ hq')), fun b hb => by
        rcases HD.out.2.2.1 b hb with q | q | q
        · rcases List.mem_cons.1 (hQp.mem_iff.1 q) with z | z
          · exact Or.inl z
          · exact Or.inr (Or.inl z)
        · exact Or.inr (Or.inr (Or.inl q))
        · exact Or.inr (Or.inr (Or.inr q))⟩
      have HD0 : Hid (D.Nodup ∧ ∀ p ∈ D, isDf T n p) := ⟨HD.out.1, HD.out.2.1⟩
      have SLO := hide (OKT.out a AT.out)
      clear hr hr2 hk2 hp hQp hRp hen ee HO IN hpL hq HD HK hrg hb1 hs1 hs2
      obtain ⟨B4, hB4⟩ : ∃ B4, B4 = w2.heap.size := ⟨_, rfl⟩
      obtain ⟨X1, hX1⟩ : ∃ X1, X1 = (w2.alloc (.cells #[.int .i64 0, .int .i64 0] 85)).alloc (.cells #[.string ⟨#[]⟩, .int .i64 0] 116) := ⟨_, rfl⟩
      have z1 : X1.heap.size = B4 + 2 := by rw [hX1, hB4]; simp
      have g1 : X1.heap[B4]? = some (.cells #[.int .i64 0, .int .i64 0] 85) := by
        rw [hX1, hB4]
        exact (((Kp.refl _ non).alloc _).block _ (blk_lt (heap_last w2 _)) (fun f => f)).trans (heap_last w2 _)
      have g1b : X1.heap[B4 + 1]? = some (.cells #[.string ⟨#[]⟩, .int .i64 0] 116) := by
        rw [hX1, hB4, show w2.heap.size + 1 = (w2.alloc (.cells #[.int .i64 0, .int .i64 0] 85)).heap.size by simp]
        exact heap_last _ _
      have k1 : Kp w2 X1 non := by rw [hX1]; exact ((Kp.refl w2 non).alloc _).alloc _
      obtain ⟨X2, hX2⟩ : ∃ X2, X2 = X1.setRow B4 (slV a.1) := ⟨_, rfl⟩
      have g2 : X2.heap[B4 + 1]? = some (.cells #[.string ⟨#[]⟩, .int .i64 0] 116) := by rw [hX2, setRow_other _ _ _ _ (by omega)]; exact g1b
      have g2b : X2.heap[B4]? = some (.cells (slV a.1) 85) := by rw [hX2]; exact setRow_heap _ _ _ _ _ _ g1
      obtain ⟨X3, hX3⟩ : ∃ X3, X3 = X2.setRow (B4 + 1) (ctV a.2) := ⟨_, rfl⟩
      have g3 : X3.heap[B4]? = some (.cells (slV a.1) 85) := by rw [hX3, setRow_other _ _ _ _ (by omega)]; exact g2b
      have g3b : X3.heap[B4 + 1]? = some (.cells (ctV a.2) 116) := by rw [hX3]; exact setRow_heap _ _ _ _ _ _ g2
      have k3 : Kp w2 X3 non := by
        rw [hX3, hX2]
        exact (k1.row (Or.inr (by rw [hB4]; exact Nat.le_refl _)) _).row (Or.inr (by rw [hB4]; omega)) _
      have K3 : Hid (Kp w X3 non) := K2.out.trans k3 (fun _ f => f.elim)
      have O3 : Hid (X3.ownsRow w.heap.size 3 1 (.slice a3 D.length c3) D.length (ints D)) := own_kp O2.out k3 (fun _ _ f => f)
      have R3 : Hid (Rg ST X3 M it (tlV T) (tlV Q')) := HR2.out.kp k3 (fun f => f) (fun f => f)
      have c40 : X3.cell? ⟨B4, 0, none⟩ = some (.int .i64 (a.1.1 : Int)) := by rw [cell_row g3]; rfl
      have G1 := hide g1
      have G2 := hide g2
      have G3 := hide g3
      have G3b := hide g3b
      have HX1 := hide hX1
      have HB4 := hide hB4
      have CN := hide (cont_ints X3 w.heap.size a3 c3 D (a.1.1 : Int) O3.out (by have := DL.out; omega))
      replace hX2 := hide hX2
      replace hX3 := hide hX3
      clear g1 g1b k1 z1 g2 g2b g3 g3b k3 HR2 O2 K2 hX1 hB4
      go_upto_region 5 with (first
        | (rw [← HX1.out, ← HB4.out]; refine wpList_stR rfl 85 (.tmp 4) (.tmp 17) rfl B4 rfl (slV a.1) _ rfl _ G1.out sl_info rfl (sl_onec _) ?_)
        | (rw [← hX2.out]; refine wpList_stR rfl 116 (.tmp 5) (.tmp 18) rfl (B4 + 1) rfl (ctV a.2) _ rfl _ G2.out ct_info rfl (ct_onec _) ?_))
      (try simp only [Act.put])
      rw [← hX3.out]
      clear hX2 hX3 HX1 HB4 G1 G2 hen'
      obtain ⟨p, hp⟩ : ∃ p, p = a.1.1 := ⟨_, rfl⟩
      rw [← hp] at c40 CN
      replace hp := hide hp
      go_wp2_with fail
      refine Calls.mono CN.out ?_
      rintro e w' ⟨rfl, rfl⟩
      clear CN
      by_cases hcon : (p : Int) ∈ D
      case pos =>
        have hc : D.contains (p : Int) = true := by simpa using hcon
        rw [hc]
        have HDN : Hid (D.Nodup ∧ (∀ p ∈ D, isDf T n p) ∧ (∀ b ∈ T, b ∈ Q' ∨ dfA T n b = false ∨ (b.1.1 : Int) ∈ D) ∧ (∀ q ∈ Q', q ∈ T)) := ⟨HD0.out.1, HD0.out.2, fun b hb => by
          rcases HQ'.out.2 b hb with q | q
          · rw [q, ← hp.out]
            exact Or.inr (Or.inr hcon)
          · exact q, HQ'.out.1⟩
        clear hcon
        go_wp2_with fail
        go_roundw
        case rel => exact ⟨Q', D, a3, c3, rfl, R3.out, O3.out, HDN.out, K3.out⟩
        case measure => rw [R3.out.left, hleft, HLE.out]; omega
      case neg =>
        have hc : D.contains (p : Int) = false := by simpa using hcon
        rw [hc]
        have HCON := hide hcon
        have HP := hp
        obtain ⟨x2, x7, xM⟩ := HRP.out w' K3.out
        have HX0 : Hid (w'.heap[B4]? = some (.cells (slV a.1) 85) ∧ w'.heap[B4 + 1]? = some (.cells (ctV a.2) 116)) := ⟨G3.out, G3b.out⟩
        clear hcon hp hc xM
        go_wp2_with fail
        clear x2 x7 c40
        go_loopw [3, 27] (fun v3 vi wx => ∃ i : Nat, i ≤ n ∧ vi = .int .i64 (i : Int) ∧ v3 = .slice a3 D.length c3 ∧ Hid (Kp w' wx non ∧ ∀ r, r < i → dfR T a r = false)) (fun _ vi _ => n - (intOf vi).toNat)
        case atStart => exact ⟨0, Nat.zero_le _, rfl, rfl, Kp.refl _ _, fun r hr => absurd hr (by omega)⟩
        case round =>
          obtain ⟨i, hi, rfl, rfl, HI⟩ := hrel
          by_cases hin : i < n
          case neg =>
            have hii : ¬ (i : Int) < (n : Int) := by omega
            have HDN : Hid (D.Nodup ∧ (∀ p ∈ D, isDf T n p) ∧ (∀ b ∈ T, b ∈ Q' ∨ dfA T n b = false ∨ (b.1.1 : Int) ∈ D) ∧ (∀ q ∈ Q', q ∈ T)) := ⟨HD0.out.1, HD0.out.2, fun b hb => by
              rcases HQ'.out.2 b hb with q | q
              · rw [q]
                exact Or.inr (Or.inl (dfA_false (fun r hr => HI.out.2 r (by omega))))
              · exact q, HQ'.out.1⟩
            have R5 : Hid (Rg ST wr M it (tlV T) (tlV Q')) := R3.out.kp HI.out.1 (fun f => f) (fun f => f)
            have O5 : Hid (wr.ownsRow w.heap.size 3 1 (.slice a3 D.length c3) D.length (ints D)) := own_kp O3.out HI.out.1 (fun _ _ f => f)
            have K5 : Hid (Kp w wr non) := K3.out.trans HI.out.1 (fun _ f => f.elim)
            go_wp2_with fail
            go_roundw
            case rel => exact ⟨Q', D, a3, c3, rfl, R5.out, O5.out, HDN.out, K5.out⟩
            case measure => rw [R5.out.left, hleft, HLE.out]; omega
          case pos =>
            have hii : (i : Int) < (n : Int) := by omega
            have KW : Hid (Kp w wr non) := K3.out.trans HI.out.1 (fun _ f => f.elim)
            obtain ⟨-, x7, xM⟩ := HRP.out wr KW.out
            have hb4 := (HI.out.1.block _ (blk_lt HX0.out.1) (fun f => f)).trans HX0.out.1
            have hb5 := (HI.out.1.block _ (blk_lt HX0.out.2) (fun f => f)).trans HX0.out.2
            have HSO : Hid (slOk (p, i)) := ⟨by have := SLO.out.1; have := HP.out; show p < 64; omega, by show i < 16; omega⟩
            obtain ⟨cc, hcc⟩ : ∃ cc, (tlk T (p, i)).getD ctZ = cc := ⟨_, rfl⟩
            obtain ⟨bb, hbb⟩ : ∃ bb, (tlk T (p, i)).isSome = bb := ⟨_, rfl⟩
            have HCC := hide hcc
            have HBB := hide hbb
            have xp : wr.cell? ⟨B4, 0, none⟩ = some (.int .i64 (p : Int)) := by rw [cell_row hb4, HP.out]; rfl
            have C0 : Hid ((fun X => X.cell? ⟨A, 7, none⟩ = some (.map (some M)) ∧ X.cell? ⟨B4, 0, none⟩ = some (.int .i64 (p : Int)) ∧ Mt X M T) wr) := ⟨x7, xp, xM⟩
            have DR : Hid (dfR T a i = (bb && !decide (cc = a.2))) := by
              show dfR T a i = _
              unfold dfR
              rw [← HP.out]
              cases ht : tlk T (p, i) with
              | none => rw [ht] at hbb; rw [← hbb]; rfl
              | some c0 => rw [ht] at hbb hcc; rw [← hbb, ← hcc]; rfl
            have BL : Hid (B4 < wr.heap.size ∧ B4 + 1 < wr.heap.size ∧ M < wr.heap.size ∧ A < wr.heap.size) := ⟨blk_lt hb4, blk_lt hb5, xM.lt, World.block_lt_of_cell? wr _ x7⟩
            have HB5 := hide hb5
            clear hcc hbb x7 xM xp hb4 hb5
            go_upto_region 9 with fail
            refine wp_region_held_drew (S := fun X => X.cell? ⟨A, 7, none⟩ = some (.map (some M)) ∧ X.cell? ⟨B4, 0, none⟩ = some (.int .i64 (p : Int)) ∧ Mt X M T) (by kernel_rfl) C0.out (fun hHeld => ?_)
            refine wpAnyH_take (i := 0) (v := (.pointer (some ⟨A, 0, none⟩))) rfl (by kernel_rfl) (by kernel_rfl) (by kernel_rfl) (fun _ _ _ h => h) (Or.inl ⟨by kernel_rfl, ?_⟩) (by assumption) ?_
            · intro w' hSw
              (try dsimp only at hSw)
              go_simp
            (try simp only [Act.put, List.getElem_toArray, List.getElem_cons_zero, List.getElem_cons_succ, List.setIfInBounds_toArray, List.set_cons_zero, List.set_cons_succ])
            refine wpAnyH_take (i := 1) (v := (.pointer (some ⟨A, 0, none⟩))) rfl (by kernel_rfl) (by kernel_rfl) (by kernel_rfl) (fun _ _ _ h => h) (Or.inl ⟨by kernel_rfl, ?_⟩) (by assumption) ?_
            · intro w' hSw
              (try dsimp only at hSw)
              go_simp
            (try simp only [Act.put, List.getElem_toArray, List.getElem_cons_zero, List.getElem_cons_succ, List.setIfInBounds_toArray, List.set_cons_zero, List.set_cons_succ])
            refine wpAnyH_take (i := 2) (v := (.pointer (some ⟨A, 7, none⟩))) rfl (by kernel_rfl) (by kernel_rfl) (by kernel_rfl) (fun _ _ _ h => h) (Or.inl ⟨by kernel_rfl, ?_⟩) (by assumption) ?_
            · intro w' hSw
              (try dsimp only at hSw)
              go_simp
            (try simp only [Act.put, List.getElem_toArray, List.getElem_cons_zero, List.getElem_cons_succ, List.setIfInBounds_toArray, List.set_cons_zero, List.set_cons_succ])
            refine wpAnyH_take (i := 3) (v := (.map (some M))) rfl (by kernel_rfl) (by kernel_rfl) (by kernel_rfl) (fun _ _ _ h => h) (Or.inl ⟨by kernel_rfl, ?_⟩) (by assumption) ?_
            · intro w' hSw
              (try dsimp only at hSw)
              (have z := hSw.1; go_simp)
            (try simp only [Act.put, List.getElem_toArray, List.getElem_cons_zero, List.getElem_cons_succ, List.setIfInBounds_toArray, List.set_cons_zero, List.set_cons_succ])
            refine wpAnyH_take (i := 4) (v := (.pointer (some ⟨B4, 0, none⟩))) rfl (by kernel_rfl) (by kernel_rfl) (by kernel_rfl) (fun _ _ _ h => h) (Or.inl ⟨by kernel_rfl, ?_⟩) (by assumption) ?_
            · intro w' hSw
              (try dsimp only at hSw)
              go_simp
            (try simp only [Act.put, List.getElem_toArray, List.getElem_cons_zero, List.getElem_cons_succ, List.setIfInBounds_toArray, List.set_cons_zero, List.set_cons_succ])
            refine wpAnyH_take (i := 5) (v := (.int .i64 (p : Int))) rfl (by kernel_rfl) (by kernel_rfl) (by kernel_rfl) (fun _ _ _ h => h) (Or.inl ⟨by kernel_rfl, ?_⟩) (by assumption) ?_
            · intro w' hSw
              (try dsimp only at hSw)
              (have z := hSw.2.1; go_simp)
            (try simp only [Act.put, List.getElem_toArray, List.getElem_cons_zero, List.getElem_cons_succ, List.setIfInBounds_toArray, List.set_cons_zero, List.set_cons_succ])
            refine wpAnyH_take (i := 6) (v := (.int .i64 (i : Int))) rfl (by kernel_rfl) (by kernel_rfl) (by kernel_rfl) (fun _ _ _ h => h) (Or.inl ⟨by kernel_rfl, ?_⟩) (by assumption) ?_
            · intro w' hSw
              (try dsimp only at hSw)
              go_simp
            (try simp only [Act.put, List.getElem_toArray, List.getElem_cons_zero, List.getElem_cons_succ, List.setIfInBounds_toArray, List.set_cons_zero, List.set_cons_succ])
            refine wpAnyH_take (i := 7) (v := (.agg (slV (p, i)))) rfl (by kernel_rfl) (by kernel_rfl) (by kernel_rfl) (fun _ _ _ h => h) (Or.inl ⟨by kernel_rfl, ?_⟩) (by assumption) ?_
            · intro w' hSw
              (try dsimp only at hSw)
              (exact exec_bl 85 #[(0, .tmp 36), (1, .tmp 37)] rfl _ (by kernel_rfl))
            (try simp only [Act.put, List.getElem_toArray, List.getElem_cons_zero, List.getElem_cons_succ, List.setIfInBounds_toArray, List.set_cons_zero, List.set_cons_succ])
            refine wpAnyH_take (i := 8) (v := (.tuple #[.agg (ctV cc), .bool bb])) rfl (by kernel_rfl) (by kernel_rfl) (by kernel_rfl) (fun _ _ _ h => h) (Or.inl ⟨by kernel_rfl, ?_⟩) (by assumption) ?_
            · intro w' hSw
              (try dsimp only at hSw)
              (have z := hSw.2.2.look HSO.out; rw [HCC.out, HBB.out] at z; go_simp)
            (try simp only [Act.put, List.getElem_toArray, List.getElem_cons_zero, List.getElem_cons_succ, List.setIfInBounds_toArray, List.set_cons_zero, List.set_cons_succ])
            refine wpAnyH_take (i := 9) (v := (.tuple #[.agg (ctV cc), .bool bb])) rfl (by kernel_rfl) (by kernel_rfl) (by kernel_rfl) (fun _ _ _ h => h) (Or.inl ⟨by kernel_rfl, ?_⟩) (by assumption) ?_
            · intro w' hSw
              (try dsimp only at hSw)
              go_simp
            (try simp only [Act.put, List.getElem_toArray, List.getElem_cons_zero, List.getElem_cons_succ, List.setIfInBounds_toArray, List.set_cons_zero, List.set_cons_succ])
            refine wpAnyH_take (i := 10) (v := (.agg (ctV cc))) rfl (by kernel_rfl) (by kernel_rfl) (by kernel_rfl) (fun _ _ _ h => h) (Or.inl ⟨by kernel_rfl, ?_⟩) (by assumption) ?_
            · intro w' hSw
              (try dsimp only at hSw)
              go_simp
            (try simp only [Act.put, List.getElem_toArray, List.getElem_cons_zero, List.getElem_cons_succ, List.setIfInBounds_toArray, List.set_cons_zero, List.set_cons_succ])
            refine wpAnyH_take (i := 11) (v := (.bool bb)) rfl (by kernel_rfl) (by kernel_rfl) (by kernel_rfl) (fun _ _ _ h => h) (Or.inl ⟨by kernel_rfl, ?_⟩) (by assumption) ?_
            · intro w' hSw
              (try dsimp only at hSw)
              go_simp
            (try simp only [Act.put, List.getElem_toArray, List.getElem_cons_zero, List.getElem_cons_succ, List.setIfInBounds_toArray, List.set_cons_zero, List.set_cons_succ])
            refine wpAnyH_ready (rs := [12]) (by kernel_rfl) (by simp) ?_
            refine AllReadyH.cons rfl (fun K hK => ?_) AllReadyH.nil
            go_simp
            obtain ⟨B7, hB7⟩ : ∃ B7, B7 = wr.heap.size := ⟨_, rfl⟩
            obtain ⟨Y1, hY1⟩ : ∃ Y1, Y1 = (wr.alloc (.cells #[.string ⟨#[]⟩, .int .i64 0] 116)).drew := ⟨_, rfl⟩
            have ky1 : Kp wr Y1 non := by rw [hY1]; exact ((Kp.refl wr non).alloc _).drew
            have gy1 : Y1.heap[B7]? = some (.cells #[.string ⟨#[]⟩, .int .i64 0] 116) := by rw [hY1, hB7]; exact heap_last wr _
            have SS : ∀ X, Kp wr X non → (fun X => X.cell? ⟨A, 7, none⟩ = some (.map (some M)) ∧ X.cell? ⟨B4, 0, none⟩ = some (.int .i64 (p : Int)) ∧ Mt X M T) X := fun X hX => ⟨(hX.cell BL.out.2.2.2 (fun f => f)).trans C0.out.1, (hX.cell BL.out.1 (fun f => f)).trans C0.out.2.1, C0.out.2.2.kp hX (fun f => f)⟩
            obtain ⟨Y2, hY2⟩ : ∃ Y2, Y2 = Y1.setRow B7 (ctV cc) := ⟨_, rfl⟩
            have ky2 : Kp wr Y2 non := by rw [hY2]; exact ky1.row (Or.inr (by rw [hB7]; exact Nat.le_refl _)) _
            have gy2 : Y2.heap[B7]? = some (.cells (ctV cc) 116) := by rw [hY2]; exact setRow_heap _ _ _ _ _ _ gy1
            have S1 := hide (SS Y1 ky1)
            have S2 := hide (SS Y2 ky2)
            have KY := hide ky2
            have GY1 := hide gy1
            have GY2 := hide gy2
            have B7N : Hid (B7 ≠ B4 + 1) := by have := BL.out.2.1; show B7 ≠ B4 + 1; omega
            rw [← hB7, ← hY1]
            clear hB7 hY1 SS ky1 ky2 gy1 gy2
            refine hK.out _ _ (S1.out) (fun hHeld => ?_)
            clear hK
            (try simp only [Act.put, List.setIfInBounds_toArray, List.set_cons_zero, List.set_cons_succ])
            refine wpAnyH_ready (rs := [13]) (by kernel_rfl) (by simp) ?_
            refine AllReadyH.cons rfl (fun K hK => ?_) AllReadyH.nil
            refine wp_store_row 116 (.tmp 7) (.tmp 40) rfl B7 (ctV cc) rfl rfl 116 _ GY1.out ct_info rfl (ct_onec _) ?_
            rw [← hY2]
            clear hY2
            refine hK.out _ _ (S2.out) (fun hHeld => ?_)
            clear hK
            (try simp only [Act.put, List.setIfInBounds_toArray, List.set_cons_zero, List.set_cons_succ])
            refine wpAnyH_ready (rs := [14]) (by kernel_rfl) (by simp) ?_
            refine AllReadyH.cons rfl (fun K hK => ?_) AllReadyH.nil
            go_simp
            refine hK.out _ _ (S2.out) (fun hHeld => ?_)
            clear hK
            (try simp only [Act.put, List.setIfInBounds_toArray, List.set_cons_zero, List.set_cons_succ])
            refine wpAnyH_done (by kernel_rfl) ?_ _
            clear hHeld S1 S2 C0 GY1
            have y70 : Y2.cell? ⟨B7, 0, none⟩ = some (.string cc.1) ∧ Y2.cell? ⟨B7, 1, none⟩ = some (.int .i64 cc.2) := by
              rw [cell_row GY2.out, cell_row GY2.out]
              exact ⟨rfl, rfl⟩
            have gb5 := (KY.out.block _ (blk_lt HB5.out) (fun f => f)).trans HB5.out
            have y50 : Y2.cell? ⟨B4 + 1, 0, none⟩ = some (.string a.2.1) ∧ Y2.cell? ⟨B4 + 1, 1, none⟩ = some (.int .i64 a.2.2) := by
              rw [cell_row gb5, cell_row gb5]
              exact ⟨rfl, rfl⟩
            have KI : Hid (Kp w' Y2 non) := HI.out.1.trans KY.out (fun _ f => f.elim)
            have GB5 := hide gb5
            clear gb5
            obtain ⟨y70, y71⟩ := y70
            obtain ⟨y50, y51⟩ := y50
            cases bb
            case false =>
              have HN : Hid (∀ r, r < i + 1 → dfR T a r = false) := fun r hr => by
                by_cases e : r = i
                · rw [e, DR.out]; rfl
                · exact HI.out.2 r (by omega)
              go_wp2_with fail
              go_roundw
              case rel => exact ⟨i + 1, by omega, by go_num, rfl, KI.out, HN.out⟩
              case measure => simp [intOf]; omega
            case true =>
              by_cases hcd : cc = a.2
              case pos =>
                have HN : Hid (∀ r, r < i + 1 → dfR T a r = false) := fun r hr => by
                  by_cases e : r = i
                  · rw [e, DR.out, decide_eq_true hcd]; rfl
                  · exact HI.out.2 r (by omega)
                have qd : (!decide (cc = a.2)) = false := by rw [decide_eq_true hcd]; rfl
                go_wp2_with fail
                go_roundw
                case rel => exact ⟨i + 1, by omega, by go_num, rfl, KI.out, HN.out⟩
                case measure => simp [intOf]; omega
              case neg =>
                have qd : (!decide (cc = a.2)) = true := by rw [decide_eq_false hcd]; rfl
                have DT : Hid (dfA T n a = true) := dfA_true hin (by rw [DR.out, qd]; rfl)
                have y40 : Y2.cell? ⟨B4, 0, none⟩ = some (.int .i64 (p : Int)) := by
                  have z := (KY.out.block _ BL.out.1 (fun f => f))
                  have z2 := (HI.out.1.block _ (blk_lt HX0.out.1) (fun f => f)).trans HX0.out.1
                  rw [cell_row (z.trans z2), HP.out]
                  rfl
                have KY2 : Hid (Kp w Y2 non) := KW.out.trans KY.out (fun _ f => f.elim)
                have OY : Hid (Y2.ownsRow w.heap.size 3 1 (.slice a3 D.length c3) D.length (ints D)) := own_kp O3.out KI.out (fun _ _ f => f)
                have RY : Hid (Rg ST Y2 M it (tlV T) (tlV Q')) := R3.out.kp KI.out (fun f => f) (fun f => f)
                have HDN : Hid ((D ++ [(p : Int)]).Nodup ∧ (∀ x ∈ D ++ [(p : Int)], isDf T n x) ∧ (∀ b ∈ T, b ∈ Q' ∨ dfA T n b = false ∨ (b.1.1 : Int) ∈ D ++ [(p : Int)]) ∧ (∀ q ∈ Q', q ∈ T)) := by
                  refine ⟨List.nodup_append.2 ⟨HD0.out.1, by simp, fun x hx z hz e => ?_⟩, fun x hx => ?_, fun b hb => ?_, HQ'.out.1⟩
                  · rw [List.mem_singleton.1 hz] at e
                    exact HCON.out (e ▸ hx)
                  · rcases List.mem_append.1 hx with q | q
                    · exact HD0.out.2 x q
                    · rw [List.mem_singleton.1 q]
                      exact ⟨a, AT.out, by rw [HP.out], DT.out⟩
                  · rcases HQ'.out.2 b hb with q | q | q | q
                    · rw [q, ← HP.out]
                      exact Or.inr (Or.inr (by simp))
                    · exact Or.inl q
                    · exact Or.inr (Or.inl q)
                    · exact Or.inr (Or.inr (List.mem_append_left _ q))
                have G1 : Hid ((Y2.alloc (.cells #[.int .i64 (p : Int)] 3)).heap[Y2.heap.size]? = some (.cells #[.int .i64 (p : Int)] 3)) := heap_last _ _
                have O1 : Hid ((Y2.alloc (.cells #[.int .i64 (p : Int)] 3)).ownsRow w.heap.size 3 1 (.slice a3 D.length c3) D.length (ints D)) := own_kp OY.out ((Kp.refl Y2 non).alloc _) (fun _ _ f => f)
                have R1 : Hid (Rg ST (Y2.alloc (.cells #[.int .i64 (p : Int)] 3)) M it (tlV T) (tlV Q')) := RY.out.kp ((Kp.refl Y2 non).alloc _) (fun f => f) (fun f => f)
                have SZ2 : Hid (w.heap.size ≤ Y2.heap.size) := KY2.out.size
                clear RY OY DR HX0 KI GY2 GB5 HB5 HSO HCC HBB
                have hne : ¬ cc.1.toList = a.2.1.toList ∨ (cc.1.toList = a.2.1.toList ∧ ¬ cc.2 = a.2.2) := by
                  by_cases h1 : cc.1.toList = a.2.1.toList
                  · refine Or.inr ⟨h1, fun h2 => hcd (Prod.ext ?_ h2)⟩
                    have := eq_beq cc.1 a.2.1
                    rw [h1] at this
                    simpa using this.symm
                  · exact Or.inl h1
                rcases hne with h1 | ⟨h1, h2⟩
                case inl =>
                  go_wp2_with (at_builtin; refine wpList_apI rfl (.tmp 48) (.tmp 51) rfl w.heap.size _ D rfl O1.out Y2.heap.size (p : Int) rfl G1.out (by have := DL.out; omega) (by have := SZ2.out; rw [World.size_alloc]; omega) ?_; intro v' w3 o2 g2)
                  have K9 : Hid (Kp w w3 non) := (KY2.out.alloc _).trans (Kp.of_grown g2) (fun k hk => Or.inr (own_ge O1.out hk.symm))
                  have R9 : Hid (Rg ST w3 M it (tlV T) (tlV Q')) := R1.out.kp (Kp.of_grown g2) (fun e => by have := own_ge O1.out e.symm; have := ML.out; omega) (fun e => iter_n R1.out O1.out _ e.symm rfl)
                  obtain ⟨a9, c9, rfl⟩ := own_sl o2
                  have O9 := hide o2
                  clear o2 g2
                  go_roundw
                  case rel => exact ⟨Q', D ++ [(p : Int)], a9, c9, by rw [List.length_append]; rfl, R9.out, by rw [List.length_append]; exact O9.out, HDN.out, K9.out⟩
                  case measure => rw [R9.out.left, hleft, HLE.out]; omega
                case inr =>
                  go_wp2_with (at_builtin; refine wpList_apI rfl (.tmp 48) (.tmp 51) rfl w.heap.size _ D rfl O1.out Y2.heap.size (p : Int) rfl G1.out (by have := DL.out; omega) (by have := SZ2.out; rw [World.size_alloc]; omega) ?_; intro v' w3 o2 g2)
                  have K9 : Hid (Kp w w3 non) := (KY2.out.alloc _).trans (Kp.of_grown g2) (fun k hk => Or.inr (own_ge O1.out hk.symm))
                  have R9 : Hid (Rg ST w3 M it (tlV T) (tlV Q')) := R1.out.kp (Kp.of_grown g2) (fun e => by have := own_ge O1.out e.symm; have := ML.out; omega) (fun e => iter_n R1.out O1.out _ e.symm rfl)
                  obtain ⟨a9, c9, rfl⟩ := own_sl o2
                  have O9 := hide o2
                  clear o2 g2
                  go_roundw
                  case rel => exact ⟨Q', D ++ [(p : Int)], a9, c9, by rw [List.length_append]; rfl, R9.out, by rw [List.length_append]; exact O9.out, HDN.out, K9.out⟩
                  case measure => rw [R9.out.left, hleft, HLE.out]; omega
end Go.Proofs.YteiiolilpemimaaDoor.Cn
