import Derived.Test.YtanlnelfbfjelaaDoorGGtDocS
namespace Go.Proofs.YtanlnelfbfjelaaDoor
open Go.RowKit Go.Maps
def rdA : Sd → Value → Array Value
  | .no, _ => #[.int .i64 0, .string ⟨#[]⟩, .int .i64 0, .int .i64 0, .int .i64 0, .slice none 0 0]
  | .non, _ => #[.int .i64 1, .string ⟨#[]⟩, .int .i64 0, .int .i64 0, .int .i64 0, .slice none 0 0]
  | .store l, _ => #[.int .i64 2, .string (strOf l), .int .i64 0, .int .i64 0, .int .i64 0, .slice none 0 0]
  | .one i v, _ => #[.int .i64 3, .string ⟨#[]⟩, .int .i64 (i : Int), .int .i64 v, .int .i64 0, .slice none 0 0]
  | .node d, pv => #[.int .i64 4, .string ⟨#[]⟩, .int .i64 0, .int .i64 0, .int .i64 d.z, pv]
def sd6 (a : Int) (s : ByteArray) (b c z : Int) (v : Value) : Array Value := #[.int .i64 a, .string s, .int .i64 b, .int .i64 c, .int .i64 z, v]
theorem infoSd : (Tryd.prog.info? 87).map (·.size) = some 6 := by kernel_rfl
theorem sd6_one (a : Int) (s : ByteArray) (b c z : Int) (ba : Option Addr) (n k : Nat) : (sd6 a s b c z (.slice ba n k)).all (·.oneCell') = true := by simp [sd6, Value.oneCell']
theorem res_sd {fn : Func} {p : Tmp} (h : fn.results = #[.cell p 87]) (tmps : Array Value) (c : Array Value) (hc : c.size = 6) (w : World) (b : Nat) (ht : tmps.getD p undef = .pointer (some ⟨b, 0, none⟩)) (hO : w.heap[b]? = some (.cells c 87)) : (results fn tmps).run Tryd.prog w = .ok (.agg c) w := by
  have hl : (loadVar 87 ⟨b, 0, none⟩).run Tryd.prog w = .ok (.agg c) w := run_loadVar_row _ _ 87 87 c (0, 0) _ hO Tryd.underlying87 rfl (by rw [hc]; exact infoSd)
  have ht' : tmps[p]?.getD undef = .pointer (some ⟨b, 0, none⟩) := by simpa using ht
  unfold results
  rw [h]
  simp [ht', asAddr, hl]
theorem built_sd1 (k : Int) : Tryd.prog.built 87 [(0, .int .i64 k)] = some (sd6 k ⟨#[]⟩ 0 0 0 (.slice none 0 0)) := by kernel_rfl
theorem built_sd0 : Tryd.prog.built 87 [] = some (sd6 0 ⟨#[]⟩ 0 0 0 (.slice none 0 0)) := by kernel_rfl
theorem built_sdS (s : ByteArray) : Tryd.prog.built 87 [(0, .int .i64 2), (1, .string s)] = some (sd6 2 s 0 0 0 (.slice none 0 0)) := by kernel_rfl
theorem built_sdO (i v : Int) : Tryd.prog.built 87 [(0, .int .i64 3), (2, .int .i64 i), (3, .int .i64 v)] = some (sd6 3 ⟨#[]⟩ i v 0 (.slice none 0 0)) := by kernel_rfl
theorem built_sdN (z : Int) (ba : Option Addr) (n c : Nat) : Tryd.prog.built 87 [(0, .int .i64 4), (4, .agg #[.int .i64 z, .slice ba n c])] = some (sd6 4 ⟨#[]⟩ 0 0 z (.slice ba n c)) := by kernel_rfl
/-- a build whose cells are told -/
theorem wpList_bld {w : World} {ops : Array Oper} {rest : List Oper} {o : Oper} {a : Act} {Q : Exit → Act → World → Prop} (hgd : o.guard = none) {t : TypeId} {xs : Array (Nat × Operand)} (ho : o.op = .build t xs) (vs : List (Nat × Value)) (hv : xs.map (fun (i, x) => (i, a.eval x)) = vs.toArray) (c : Array Value) (hb : Tryd.prog.built t vs = some c)
    (h : wpList Tryd.prog ops Q rest (a.put o.dst (.agg c)) w) : wpList Tryd.prog ops Q (o :: rest) a w := by
  refine wpList_plain hgd fun K hK => ?_
  unfold Oper.wp execOp
  have hr := run_build (P := Tryd.prog) w t vs.toArray c hb
  simp only [ho, hv, Sem.run_bind, hr, Result.andThen_ok, Sem.run_pure]
  exact hK _ _ h
set_option maxHeartbeats 8000000 in
set_option maxRecDepth 100000 in
set_option linter.unusedSimpArgs false in
set_option linter.unusedVariables false in
theorem tread_any (w : World) (l : List UInt8) (k : Nat) (hT : TabW w) (hl : l.length ≤ 65536) (hk : k ≤ 70000) :
    Calls Tryd.prog 36 #[.string (strOf l), .int .i64 (k : Int)] w fun e w' => Below w.heap.size w w' ∧ ∃ pv, e = .returned (.agg (rdA (rdL l k) pv)) ∧ (∃ ba n c, pv = .slice ba n c) ∧ (∀ d, rdL l k = .node d → w'.ownsRow w.heap.size 3 1 pv d.ps.length (ints d.ps)) := by
  obtain ⟨W0, hW0⟩ : ∃ W0, W0 = w.alloc (.cells (sd6 0 ⟨#[]⟩ 0 0 0 (.slice none 0 0)) 87) := ⟨_, rfl⟩
  have B0 : Hid (Below w.heap.size w W0) := by rw [hW0]; exact (Below.refl _ _).alloc (Nat.le_refl _) _
  have R0 : Hid (W0.heap[w.heap.size]? = some (.cells (sd6 0 ⟨#[]⟩ 0 0 0 (.slice none 0 0)) 87)) := by rw [hW0]; exact heap_last _ _
  have s0 : Hid (W0.heap.size = w.heap.size + 1) := by rw [hW0]; show _ = _; simp
  have TB := hide (hT.below B0.out)
  have EE := emp_eq l
  clear hT
  by_cases h0 : l = []
  · rw [rdL_non (Or.inl h0)]
    rw [decide_eq_true h0] at EE
    clear h0
    generalize strOf l = t at *
    go_enter Tryd.func36, Tryd.ntmps36
    go_upto_region 1 with fail
    rw [show w.alloc (.cells #[.int .i64 0, .string ⟨#[]⟩, .int .i64 0, .int .i64 0, .int .i64 0, .slice none 0 0] 87) = W0 from hW0.symm]
    clear hW0
    go_wp2_with (first | refine wpList_bld rfl rfl [(0, .int .i64 1)] rfl _ (built_sd1 1) ?_ | refine wpList_store_row rfl 87 (.tmp 4) (.tmp 16) rfl w.heap.size (sd6 1 ⟨#[]⟩ 0 0 0 (.slice none 0 0)) rfl rfl 87 _ R0.out infoSd rfl (sd6_one _ _ _ _ _ _ _ _) ?_)
    have E6 : (W0.setRow w.heap.size (sd6 1 ⟨#[]⟩ 0 0 0 (.slice none 0 0))).heap[w.heap.size]? = some (.cells (sd6 1 ⟨#[]⟩ 0 0 0 (.slice none 0 0)) 87) := setRow_heap W0 w.heap.size _ _ 87 _ R0.out
    have B7 : Below w.heap.size w (W0.setRow w.heap.size (sd6 1 ⟨#[]⟩ 0 0 0 (.slice none 0 0))) := below_setRow B0.out (Nat.le_refl _) _
    exact bodyPost_ret (v := .agg (sd6 1 ⟨#[]⟩ 0 0 0 (.slice none 0 0))) (res_sd Tryd.results36 _ _ rfl _ w.heap.size rfl E6) rfl ⟨B7, .slice none 0 0, rfl, ⟨_, _, _, rfl⟩, fun d h => by cases h⟩
  rw [decide_eq_false h0] at EE
  have hp : 0 < (strOf l).size := by
    rw [strOf_size]
    exact List.length_pos_iff.2 h0
  have hx0 : ∀ w', (Instr.index 9 (.string (strOf l)) (.int .i64 0)).run Tryd.prog w' = .ok (.int .u8 (((strOf l)[0]'hp).toNat : Int)) w' := fun w' => ix_str w' (strOf l) 0 hp
  have hhd : l.head? = some ((strOf l)[0]'hp) := by
    rw [List.head?_eq_getElem?]; exact Lib.data_getElem? (strOf l) 0 hp
  have hd35 : ((strOf l)[0]'hp = 35 ↔ ((((strOf l)[0]'hp).toNat : Int) = 35)) := by
    constructor
    · intro h; rw [h]; rfl
    · intro h; rw [← UInt8.toNat_inj]; show _ = 35; omega
  have SP := hide (tsplit_any (strOf l) 32 W0 (by rw [strOf_size]; omega))
  rw [strOf_data] at SP
  have HSL := hide (splitL_len 32 l [])
  have HSM := hide (fun x hx => splitL_mem 32 l [] x hx)
  have HSP := hide (splitL_pos 32 l [])
  generalize hc0 : ((strOf l)[0]'hp) = c0 at *
  clear hc0 hp
  by_cases h35 : c0 = 35
  · rw [rdL_non (Or.inr (by rw [hhd, h35]))]
    have e35 : (c0.toNat : Int) = 35 := hd35.1 h35
    clear h0 h35 hhd hd35 SP HSL HSM HSP
    generalize strOf l = t at *
    go_enter Tryd.func36, Tryd.ntmps36
    go_upto_region 1 with fail
    rw [show w.alloc (.cells #[.int .i64 0, .string ⟨#[]⟩, .int .i64 0, .int .i64 0, .int .i64 0, .slice none 0 0] 87) = W0 from hW0.symm]
    clear hW0
    go_wp2_with (first | refine wpList_bld rfl rfl [(0, .int .i64 1)] rfl _ (built_sd1 1) ?_ | refine wpList_store_row rfl 87 (.tmp 4) (.tmp 16) rfl w.heap.size (sd6 1 ⟨#[]⟩ 0 0 0 (.slice none 0 0)) rfl rfl 87 _ R0.out infoSd rfl (sd6_one _ _ _ _ _ _ _ _) ?_)
    have E6 : (W0.setRow w.heap.size (sd6 1 ⟨#[]⟩ 0 0 0 (.slice none 0 0))).heap[w.heap.size]? = some (.cells (sd6 1 ⟨#[]⟩ 0 0 0 (.slice none 0 0)) 87) := setRow_heap W0 w.heap.size _ _ 87 _ R0.out
    have B7 : Below w.heap.size w (W0.setRow w.heap.size (sd6 1 ⟨#[]⟩ 0 0 0 (.slice none 0 0))) := below_setRow B0.out (Nat.le_refl _) _
    exact bodyPost_ret (v := .agg (sd6 1 ⟨#[]⟩ 0 0 0 (.slice none 0 0))) (res_sd Tryd.results36 _ _ rfl _ w.heap.size rfl E6) rfl ⟨B7, .slice none 0 0, rfl, ⟨_, _, _, rfl⟩, fun d h => by cases h⟩
  have e35 : ¬ (c0.toNat : Int) = 35 := fun e => h35 (hd35.2 e)
  have HRD : Hid (rdL l k = rdW (splitL 32 [] l) k) := rdL_words (fun h => h.elim h0 (fun h => by rw [hhd] at h; exact h35 (Option.some.inj h))) k
  clear hhd hd35 h35 h0
  generalize splitL 32 [] l = L at *
  generalize rdL l k = rd at *
  generalize strOf l = t at *
  have hLl : L.length ≤ 70000 := by have := HSL.out; omega
  have hLm : Hid (∀ x ∈ L, x.length ≤ 70000) := fun x hx => by have := HSM.out x hx; simp at this; omega
  have hLp := HSP.out
  clear HSL HSM HSP
  go_enter Tryd.func36, Tryd.ntmps36
  go_upto_region 1 with fail
  rw [show w.alloc (.cells #[.int .i64 0, .string ⟨#[]⟩, .int .i64 0, .int .i64 0, .int .i64 0, .slice none 0 0] 87) = W0 from hW0.symm]
  clear hW0
  go_wp2_with fail
  refine Calls.mono SP.out ?_
  rintro e W1 ⟨v, rfl, hO, hb⟩
  obtain ⟨g, cap, rfl, hg0, hcap, hws⟩ := ws_of_row hO hLp
  have WS := hide hws
  have B1 := hide (B0.out.trans (hb.mono B0.out.size))
  have R1 : Hid (W1.heap[w.heap.size]? = some (.cells (sd6 0 ⟨#[]⟩ 0 0 0 (.slice none 0 0)) 87)) := (hb.block _ (by have := s0.out; omega)).trans R0.out
  have T1 := hide (TB.out.below hb)
  clear hb hO hws SP TB R0 B0
  have e0 := WS.out.at 0 hLp
  have E2 := str_eq (wAt L 0) nodeW
  have E1 := str_eq (wAt L 0) storeW
  rw [show (strOf storeW).toList = [115, 116, 111, 114, 101] from by rw [toList_data]; rfl] at E1
  rw [show (strOf nodeW).toList = [110, 111, 100, 101] from by rw [toList_data]; rfl] at E2
  have hpos : 0 < (L.length : Int) := by omega
  by_cases q2 : wAt L 0 = nodeW
  · have HR2 : Hid (rd = if ndOk L k = true then .node (ndV L) else .no) := by show rd = _; rw [HRD.out]; unfold rdW; rw [if_pos q2]
    rw [decide_eq_true q2] at E2
    have ND1 := hide (tnode_any W1 g cap k L WS.out hLl hLm.out hk)
    clear q2 E1 HRD
    have HNV : Hid ((ndV L).ps = (L.drop 5).map numV ∧ (ndV L).z = numV (wAt L 3) ∧ (ndV L).ps.length = L.length - 5) := ⟨rfl, rfl, by show ((L.drop 5).map numV).length = _; simp⟩
    have HRY := hide (fun h pv => ndR_yes (L := L) (k := k) h pv)
    have HRN := hide (fun h pv => ndR_no (L := L) (k := k) h pv)
    generalize strOf (wAt L 0) = t0 at *
    go_wp2_with fail
    refine Calls.mono ND1.out ?_
    rintro e W2 ⟨hb, pv, rfl, hrow⟩
    have B2 := hide (B1.out.trans (hb.mono B1.out.size))
    have R2 : Hid (W2.heap[w.heap.size]? = some (.cells (sd6 0 ⟨#[]⟩ 0 0 0 (.slice none 0 0)) 87)) := (hb.block _ (blk_lt R1.out)).trans R1.out
    have ROW := hide hrow
    have h12 : w.heap.size < W1.heap.size := blk_lt R1.out
    clear hb hrow ND1 e0
    cases hok : ndOk L k
    · rw [HRN.out hok pv]
      rw [hok] at HR2
      obtain rfl : rd = .no := HR2.out
      obtain ⟨W3, hW3⟩ : ∃ W3, W3 = W2.alloc (.cells #[.int .i64 0, .slice none 0 0] 59) := ⟨_, rfl⟩
      have b3 : Below W2.heap.size W2 W3 := by rw [hW3]; exact (Below.refl _ _).alloc (Nat.le_refl _) _
      have B3 := hide (B2.out.trans (b3.mono B2.out.size))
      have R3 : Hid (W3.heap[w.heap.size]? = some (.cells (sd6 0 ⟨#[]⟩ 0 0 0 (.slice none 0 0)) 87)) := (b3.block _ (blk_lt R2.out)).trans R2.out
      clear b3 HRY HRN ROW hok
      go_upto_region 6 with fail
      rw [← hW3]
      clear hW3
      go_wp2_with (first | refine wpList_bld rfl rfl [] rfl _ built_sd0 ?_ | refine wpList_store_row rfl 87 (.tmp 4) (.tmp 32) rfl w.heap.size (sd6 0 ⟨#[]⟩ 0 0 0 (.slice none 0 0)) rfl rfl 87 _ R3.out infoSd rfl (sd6_one _ _ _ _ _ _ _ _) ?_)
      have E6 : (W3.setRow w.heap.size (sd6 0 ⟨#[]⟩ 0 0 0 (.slice none 0 0))).heap[w.heap.size]? = some (.cells (sd6 0 ⟨#[]⟩ 0 0 0 (.slice none 0 0)) 87) := setRow_heap W3 w.heap.size _ _ 87 _ R3.out
      have B7 : Below w.heap.size w (W3.setRow w.heap.size (sd6 0 ⟨#[]⟩ 0 0 0 (.slice none 0 0))) := below_setRow B3.out (Nat.le_refl _) _
      exact bodyPost_ret (v := .agg (sd6 0 ⟨#[]⟩ 0 0 0 (.slice none 0 0))) (res_sd Tryd.results36 _ _ rfl _ w.heap.size rfl E6) rfl ⟨B7, .slice none 0 0, rfl, ⟨_, _, _, rfl⟩, fun d h => by cases h⟩
    · rw [HRY.out hok pv]
      rw [hok] at HR2
      obtain rfl : rd = .node (ndV L) := HR2.out
      obtain ⟨ba, cc, hpv, _⟩ := own_sl (ROW.out hok)
      subst hpv
      have HO2 := hide (ROW.out hok)
      obtain ⟨W3, hW3⟩ : ∃ W3, W3 = W2.alloc (.cells #[.int .i64 (numV (wAt L 3)), .slice ba (L.length - 5) cc] 59) := ⟨_, rfl⟩
      have b3 : Below W2.heap.size W2 W3 := by rw [hW3]; exact (Below.refl _ _).alloc (Nat.le_refl _) _
      have D3 : Hid (W3.heap[W2.heap.size]? = some (.cells #[.int .i64 (numV (wAt L 3)), .slice ba (L.length - 5) cc] 59)) := by rw [hW3]; exact heap_last _ _
      have B3 := hide (B2.out.trans (b3.mono B2.out.size))
      have R3 : Hid (W3.heap[w.heap.size]? = some (.cells (sd6 0 ⟨#[]⟩ 0 0 0 (.slice none 0 0)) 87)) := (b3.block _ (blk_lt R2.out)).trans R2.out
      have O3 : Hid (W3.ownsRow W1.heap.size 3 1 (.slice ba (L.length - 5) cc) (L.length - 5) (ints ((L.drop 5).map numV))) := own_keep HO2.out fun g hg => b3.block g (own_lt HO2.out hg).2
      clear b3 HRY HRN ROW hok HO2
      have HZ3 : Hid ((ndV L).z = numV (wAt L 3)) := rfl
      generalize numV (wAt L 3) = z at *
      generalize L.length - 5 = m5 at *
      go_upto_region 6 with fail
      rw [← hW3]
      clear hW3
      have c0 : W3.cell? ⟨W2.heap.size, 0, none⟩ = some (.int .i64 z) := by unfold World.cell?; rw [D3.out]; rfl
      have c1 := (nd_facts D3.out).1
      have OWN : Hid (∀ d, Sd.node (ndV L) = .node d → (W3.setRow w.heap.size (sd6 4 ⟨#[]⟩ 0 0 z (.slice ba m5 cc))).ownsRow w.heap.size 3 1 (.slice ba m5 cc) d.ps.length (ints d.ps)) := fun d h => by
        cases h
        rw [HNV.out.2.2, HNV.out.1]
        refine own_lowr (own_keep O3.out fun g hg => ?_) (by omega : w.heap.size ≤ W1.heap.size)
        have := (own_lt O3.out hg).1
        exact setRow_other W3 w.heap.size g _ (by omega)
      have EQ : Hid (rdA (.node (ndV L)) (.slice ba m5 cc) = sd6 4 ⟨#[]⟩ 0 0 z (.slice ba m5 cc)) := by show sd6 4 ⟨#[]⟩ 0 0 (ndV L).z (.slice ba m5 cc) = _; rw [HZ3.out]
      go_wp2_with (first | refine wpList_bld rfl rfl [(0, .int .i64 4), (4, .agg #[.int .i64 z, .slice ba m5 cc])] rfl _ (built_sdN z ba m5 cc) ?_ | refine wpList_store_row rfl 87 (.tmp 4) (.tmp 31) rfl w.heap.size (sd6 4 ⟨#[]⟩ 0 0 z (.slice ba m5 cc)) rfl rfl 87 _ R3.out infoSd rfl (sd6_one _ _ _ _ _ _ _ _) ?_)
      have E6 : (W3.setRow w.heap.size (sd6 4 ⟨#[]⟩ 0 0 z (.slice ba m5 cc))).heap[w.heap.size]? = some (.cells (sd6 4 ⟨#[]⟩ 0 0 z (.slice ba m5 cc)) 87) := setRow_heap W3 w.heap.size _ _ 87 _ R3.out
      have B7 : Below w.heap.size w (W3.setRow w.heap.size (sd6 4 ⟨#[]⟩ 0 0 z (.slice ba m5 cc))) := below_setRow B3.out (Nat.le_refl _) _
      exact bodyPost_ret (v := .agg (sd6 4 ⟨#[]⟩ 0 0 z (.slice ba m5 cc))) (res_sd Tryd.results36 _ _ rfl _ w.heap.size rfl E6) rfl ⟨B7, .slice ba m5 cc, by rw [EQ.out], ⟨_, _, _, rfl⟩, OWN.out⟩
  have HR3 : Hid (rd = if L.length ≠ 2 then .no else if wAt L 0 = storeW then (if wAt L 1 = [] then .no else .store (wAt L 1)) else if wdI (wAt L 0) < 21 ∧ 0 ≤ numV (wAt L 1) then .one (wdI (wAt L 0)) (numV (wAt L 1)) else .no) := by
    show rd = _
    rw [HRD.out]
    unfold rdW
    rw [if_neg q2]
  rw [decide_eq_false q2] at E2
  clear q2 HRD
  by_cases h2 : L.length = 2
  case neg =>
    obtain rfl : rd = .no := by rw [HR3.out, if_pos h2]
    have h2' : ¬ (L.length : Int) = 2 := by omega
    clear HR3
    generalize strOf (wAt L 0) = t0 at *
    generalize L.length = m at *
    go_wp2_with (first | refine wpList_bld rfl rfl [] rfl _ built_sd0 ?_ | refine wpList_store_row rfl 87 (.tmp 4) (.tmp 36) rfl w.heap.size (sd6 0 ⟨#[]⟩ 0 0 0 (.slice none 0 0)) rfl rfl 87 _ R1.out infoSd rfl (sd6_one _ _ _ _ _ _ _ _) ?_)
    have E6 : (W1.setRow w.heap.size (sd6 0 ⟨#[]⟩ 0 0 0 (.slice none 0 0))).heap[w.heap.size]? = some (.cells (sd6 0 ⟨#[]⟩ 0 0 0 (.slice none 0 0)) 87) := setRow_heap W1 w.heap.size _ _ 87 _ R1.out
    have B7 : Below w.heap.size w (W1.setRow w.heap.size (sd6 0 ⟨#[]⟩ 0 0 0 (.slice none 0 0))) := below_setRow B1.out (Nat.le_refl _) _
    exact bodyPost_ret (v := .agg (sd6 0 ⟨#[]⟩ 0 0 0 (.slice none 0 0))) (res_sd Tryd.results36 _ _ rfl _ w.heap.size rfl E6) rfl ⟨B7, .slice none 0 0, rfl, ⟨_, _, _, rfl⟩, fun d h => by cases h⟩
  obtain ⟨l0, l1, rfl⟩ : ∃ l0 l1, L = [l0, l1] := by
    match L, h2 with
    | [x, y], _ => exact ⟨x, y, rfl⟩
  have e1 := WS.out.at 1 (by simp)
  have hl0 := hLm.out l0 (by simp)
  have hl1 := hLm.out l1 (by simp)
  replace HR3 : Hid (rd = if l0 = storeW then (if l1 = [] then .no else .store l1) else if wdI l0 < 21 ∧ 0 ≤ numV l1 then .one (wdI l0) (numV l1) else .no) := HR3.out
  rw [show wAt [l0, l1] 0 = l0 from rfl] at e0 E1 E2
  rw [show wAt [l0, l1] 1 = l1 from rfl] at e1
  have EM := emp_eq l1
  have ST := hide (fun (w' : World) hT => tsetting_any w' l0 hT)
  have NM := hide (fun w' => tnumber_any (strOf l1) w' (by rw [strOf_size]; exact hl1))
  rw [strOf_data] at NM
  have HSX : Hid (sxI l0 = if wdI l0 < 21 then ((wdI l0 : Nat) : Int) else -1) := rfl
  have HNV := hide (numV_le l1)
  have HWI := hide (wdI_le l0)
  have HS1 : Hid (∀ t1, t1 = strOf l1 → sd6 2 t1 0 0 0 (.slice none 0 0) = rdA (.store l1) (.slice none 0 0)) := fun t1 h => by rw [h]; rfl
  obtain ⟨t1, ht1⟩ : ∃ t1, t1 = strOf l1 := ⟨_, rfl⟩
  replace HS1 := hide (HS1.out t1 ht1)
  rw [← ht1] at e1 EM NM
  clear ht1 h2 hLm hLl hLp hpos
  by_cases q1 : l0 = storeW
  · rw [decide_eq_true q1] at E1
    by_cases q3 : l1 = []
    · obtain rfl : rd = .no := by rw [HR3.out, if_pos q1, if_pos q3]
      rw [decide_eq_true q3] at EM
      have hsx : sxI l0 = -1 := by rw [HSX.out, q1, wdI_store]; rfl
      rw [hsx] at ST
      clear q1 q3 HR3 hsx HSX HS1
      generalize strOf l0 = t0 at *
      go_wp2_with fail
      refine Calls.mono (ST.out _ T1.out) ?_
      rintro e W9 ⟨rfl, rfl⟩
      go_wp2_with (first | refine wpList_bld rfl rfl [] rfl _ built_sd0 ?_ | refine wpList_store_row rfl 87 (.tmp 4) (.tmp 70) rfl w.heap.size (sd6 0 ⟨#[]⟩ 0 0 0 (.slice none 0 0)) rfl rfl 87 _ R1.out infoSd rfl (sd6_one _ _ _ _ _ _ _ _) ?_)
      have E6 : (W1.setRow w.heap.size (sd6 0 ⟨#[]⟩ 0 0 0 (.slice none 0 0))).heap[w.heap.size]? = some (.cells (sd6 0 ⟨#[]⟩ 0 0 0 (.slice none 0 0)) 87) := setRow_heap W1 w.heap.size _ _ 87 _ R1.out
      have B7 : Below w.heap.size w (W1.setRow w.heap.size (sd6 0 ⟨#[]⟩ 0 0 0 (.slice none 0 0))) := below_setRow B1.out (Nat.le_refl _) _
      exact bodyPost_ret (v := .agg (sd6 0 ⟨#[]⟩ 0 0 0 (.slice none 0 0))) (res_sd Tryd.results36 _ _ rfl _ w.heap.size rfl E6) rfl ⟨B7, .slice none 0 0, rfl, ⟨_, _, _, rfl⟩, fun d h => by cases h⟩
    · obtain rfl : rd = .store l1 := by rw [HR3.out, if_pos q1, if_neg q3]
      rw [decide_eq_false q3] at EM
      clear q1 q3 HR3 HSX ST
      generalize strOf l0 = t0 at *
      go_wp2_with (first | refine wpList_bld rfl rfl [(0, .int .i64 2), (1, .string t1)] rfl _ (built_sdS t1) ?_ | refine wpList_store_row rfl 87 (.tmp 4) (.tmp 50) rfl w.heap.size (sd6 2 t1 0 0 0 (.slice none 0 0)) rfl rfl 87 _ R1.out infoSd rfl (sd6_one _ _ _ _ _ _ _ _) ?_)
      have E6 : (W1.setRow w.heap.size (sd6 2 t1 0 0 0 (.slice none 0 0))).heap[w.heap.size]? = some (.cells (sd6 2 t1 0 0 0 (.slice none 0 0)) 87) := setRow_heap W1 w.heap.size _ _ 87 _ R1.out
      have B7 : Below w.heap.size w (W1.setRow w.heap.size (sd6 2 t1 0 0 0 (.slice none 0 0))) := below_setRow B1.out (Nat.le_refl _) _
      exact bodyPost_ret (v := .agg (sd6 2 t1 0 0 0 (.slice none 0 0))) (res_sd Tryd.results36 _ _ rfl _ w.heap.size rfl E6) rfl ⟨B7, .slice none 0 0, by rw [HS1.out], ⟨_, _, _, rfl⟩, fun d h => by cases h⟩
  rw [decide_eq_false q1] at E1
  replace HR3 : Hid (rd = if wdI l0 < 21 ∧ 0 ≤ numV l1 then .one (wdI l0) (numV l1) else .no) := by show rd = _; rw [HR3.out, if_neg q1]
  clear q1 HS1 EM
  by_cases hi : wdI l0 < 21
  case neg =>
    obtain rfl : rd = .no := by rw [HR3.out, if_neg (fun h => hi h.1)]
    have hsx : sxI l0 = -1 := by rw [HSX.out, if_neg hi]
    rw [hsx] at ST
    clear hi HR3 HSX hsx
    generalize strOf l0 = t0 at *
    go_wp2_with fail
    refine Calls.mono (ST.out _ T1.out) ?_
    rintro e W9 ⟨rfl, rfl⟩
    go_wp2_with (first | refine wpList_bld rfl rfl [] rfl _ built_sd0 ?_ | refine wpList_store_row rfl 87 (.tmp 4) (.tmp 70) rfl w.heap.size (sd6 0 ⟨#[]⟩ 0 0 0 (.slice none 0 0)) rfl rfl 87 _ R1.out infoSd rfl (sd6_one _ _ _ _ _ _ _ _) ?_)
    have E6 : (W1.setRow w.heap.size (sd6 0 ⟨#[]⟩ 0 0 0 (.slice none 0 0))).heap[w.heap.size]? = some (.cells (sd6 0 ⟨#[]⟩ 0 0 0 (.slice none 0 0)) 87) := setRow_heap W1 w.heap.size _ _ 87 _ R1.out
    have B7 : Below w.heap.size w (W1.setRow w.heap.size (sd6 0 ⟨#[]⟩ 0 0 0 (.slice none 0 0))) := below_setRow B1.out (Nat.le_refl _) _
    exact bodyPost_ret (v := .agg (sd6 0 ⟨#[]⟩ 0 0 0 (.slice none 0 0))) (res_sd Tryd.results36 _ _ rfl _ w.heap.size rfl E6) rfl ⟨B7, .slice none 0 0, rfl, ⟨_, _, _, rfl⟩, fun d h => by cases h⟩
  have hsx : sxI l0 = ((wdI l0 : Nat) : Int) := by rw [HSX.out, if_pos hi]
  rw [hsx] at ST
  clear hsx HSX
  by_cases hv : 0 ≤ numV l1
  case neg =>
    obtain rfl : rd = .no := by rw [HR3.out, if_neg (fun h => hv h.2)]
    have hv' : numV l1 < 0 := by omega
    clear HR3 hv
    generalize strOf l0 = t0 at *
    generalize numV l1 = v at *
    generalize wdI l0 = i at *
    go_wp2_with fail
    refine Calls.mono (ST.out _ T1.out) ?_
    rintro e W9 ⟨rfl, rfl⟩
    go_wp2_with fail
    refine Calls.mono (NM.out _) ?_
    rintro e W9 ⟨rfl, rfl⟩
    go_wp2_with (first | refine wpList_bld rfl rfl [] rfl _ built_sd0 ?_ | refine wpList_store_row rfl 87 (.tmp 4) (.tmp 70) rfl w.heap.size (sd6 0 ⟨#[]⟩ 0 0 0 (.slice none 0 0)) rfl rfl 87 _ R1.out infoSd rfl (sd6_one _ _ _ _ _ _ _ _) ?_)
    have E6 : (W1.setRow w.heap.size (sd6 0 ⟨#[]⟩ 0 0 0 (.slice none 0 0))).heap[w.heap.size]? = some (.cells (sd6 0 ⟨#[]⟩ 0 0 0 (.slice none 0 0)) 87) := setRow_heap W1 w.heap.size _ _ 87 _ R1.out
    have B7 : Below w.heap.size w (W1.setRow w.heap.size (sd6 0 ⟨#[]⟩ 0 0 0 (.slice none 0 0))) := below_setRow B1.out (Nat.le_refl _) _
    exact bodyPost_ret (v := .agg (sd6 0 ⟨#[]⟩ 0 0 0 (.slice none 0 0))) (res_sd Tryd.results36 _ _ rfl _ w.heap.size rfl E6) rfl ⟨B7, .slice none 0 0, rfl, ⟨_, _, _, rfl⟩, fun d h => by cases h⟩
  obtain rfl : rd = .one (wdI l0) (numV l1) := by rw [HR3.out, if_pos ⟨hi, hv⟩]
  clear HR3
  generalize strOf l0 = t0 at *
  have HEQ : Hid (rdA (.one (wdI l0) (numV l1)) (.slice none 0 0) = sd6 3 ⟨#[]⟩ ((wdI l0 : Nat) : Int) (numV l1) 0 (.slice none 0 0)) := rfl
  generalize rdA (.one (wdI l0) (numV l1)) (.slice none 0 0) = RA at *
  obtain ⟨v, hv1⟩ : ∃ v, v = numV l1 := ⟨_, rfl⟩
  obtain ⟨i, hi1⟩ : ∃ i, i = wdI l0 := ⟨_, rfl⟩
  have HE2 : Hid (rdA (.one (wdI l0) (numV l1)) (.slice none 0 0) = sd6 3 ⟨#[]⟩ (i : Int) v 0 (.slice none 0 0)) := by rw [hv1, hi1]; rfl
  rw [← hv1] at NM HNV hv
  rw [← hi1] at ST hi HWI
  clear hv1 hi1 HEQ
  go_wp2_with fail
  refine Calls.mono (ST.out _ T1.out) ?_
  rintro e W9 ⟨rfl, rfl⟩
  go_wp2_with fail
  refine Calls.mono (NM.out _) ?_
  rintro e W9 ⟨rfl, rfl⟩
  go_wp2_with fail
  refine Calls.mono (NM.out _) ?_
  rintro e W9 ⟨rfl, rfl⟩
  go_wp2_with (first | refine wpList_bld rfl rfl [(0, .int .i64 3), (2, .int .i64 (i : Int)), (3, .int .i64 v)] rfl _ (built_sdO (i : Int) v) ?_ | refine wpList_store_row rfl 87 (.tmp 4) (.tmp 69) rfl w.heap.size (sd6 3 ⟨#[]⟩ (i : Int) v 0 (.slice none 0 0)) rfl rfl 87 _ R1.out infoSd rfl (sd6_one _ _ _ _ _ _ _ _) ?_)
  have E6 : (W1.setRow w.heap.size (sd6 3 ⟨#[]⟩ (i : Int) v 0 (.slice none 0 0))).heap[w.heap.size]? = some (.cells (sd6 3 ⟨#[]⟩ (i : Int) v 0 (.slice none 0 0)) 87) := setRow_heap W1 w.heap.size _ _ 87 _ R1.out
  have B7 : Below w.heap.size w (W1.setRow w.heap.size (sd6 3 ⟨#[]⟩ (i : Int) v 0 (.slice none 0 0))) := below_setRow B1.out (Nat.le_refl _) _
  exact bodyPost_ret (v := .agg (sd6 3 ⟨#[]⟩ (i : Int) v 0 (.slice none 0 0))) (res_sd Tryd.results36 _ _ rfl _ w.heap.size rfl E6) rfl ⟨B7, .slice none 0 0, by rw [HE2.out], ⟨_, _, _, rfl⟩, fun d h => by cases h⟩
end Go.Proofs.YtanlnelfbfjelaaDoor
