import Derived.Test.YtpoegknmkbnjlaaDoorGGkRound
import Derived.Test.YtpoegknmkbnjlaaDoorGGcDoc
import Derived.Test.YtpoegknmkbnjlaaDoorGGcApp
namespace Go.Proofs.YtpoegknmkbnjlaaDoor
open Go.RowKit
theorem exec_addn {ρ : Operand → Value} {op : Oper} {w : World} {a b : Nat} {t2 : TypeId} (x y : Operand) (ho : op.op = .binOp .add 3 x y t2) (hx : ρ x = .int .i64 (a : Int)) (hy : ρ y = .int .i64 (b : Int)) (h1 : a + b < 9223372036854775808) : (execOp ρ op).run Tryd.prog w = .ok (.value (.int .i64 ((a + b : Nat) : Int))) w := by
  unfold execOp
  simp only [ho, hx, hy]
  go_simp
  exact i64_in (by omega) (by omega)
theorem exec_remn {ρ : Operand → Value} {op : Oper} {w : World} {a b : Nat} {t2 : TypeId} (x y : Operand) (ho : op.op = .binOp .rem 3 x y t2) (hx : ρ x = .int .i64 (a : Int)) (hy : ρ y = .int .i64 (b : Int)) (h0 : 0 < b) (h1 : b < 9223372036854775808) : (execOp ρ op).run Tryd.prog w = .ok (.value (.int .i64 ((a % b : Nat) : Int))) w := by
  unfold execOp
  simp only [ho, hx, hy]
  have hm : (a : Int).tmod (b : Int) = ((a % b : Nat) : Int) := by rw [Int.tmod_eq_emod_of_nonneg (by omega)]; rfl
  have hl : a % b < b := Nat.mod_lt _ h0
  generalize a % b = r at *
  have hb0 : ((b : Int) == 0) = false := beq_eq_false_iff_ne.2 (by omega)
  have e := wrap_in (x := (r : Int)) (by omega) (by omega)
  go_simp
  omega
theorem wpList_addn {w : World} {ops : Array Oper} {rest : List Oper} {op : Oper} {a : Act} {Q : Exit → Act → World → Prop} (hgd : op.guard = none) {t2 : TypeId} (x y : Operand) (ho : op.op = .binOp .add 3 x y t2) (A B : Nat) (hx : a.eval x = .int .i64 (A : Int)) (hy : a.eval y = .int .i64 (B : Int)) (h1 : A + B < 9223372036854775808) (h : wpList Tryd.prog ops Q rest (a.put op.dst (.int .i64 ((A + B : Nat) : Int))) w) : wpList Tryd.prog ops Q (op :: rest) a w :=
  wpList_plain hgd fun _ hK => wp_exec (exec_addn x y ho hx hy h1) (hK _ _ h)
theorem wpList_plc {w : World} {ops : Array Oper} {rest : List Oper} {op : Oper} {a : Act} {Q : Exit → Act → World → Prop} (hgd : op.guard = none) {t2 : TypeId} (x y : Operand) (ho : op.op = .binOp .rem 3 x y t2) (P f i : Nat) (hx : a.eval x = .int .i64 ((f + i : Nat) : Int)) (hy : a.eval y = .int .i64 (P : Int)) (h0 : 0 < P) (h1 : P < 9223372036854775808) (h : wpList Tryd.prog ops Q rest (a.put op.dst (.int .i64 ((plc P f i : Nat) : Int))) w) : wpList Tryd.prog ops Q (op :: rest) a w :=
  wpList_plain hgd fun _ hK => wp_exec (exec_remn x y ho hx hy h0 h1) (hK _ _ h)
theorem exec_eqls {ρ : Operand → Value} {op : Oper} {w : World} {m n : Int} {t2 : TypeId} (x y : Operand) (ho : op.op = .binOp .eql 3 x y t2) (hx : ρ x = .int .i64 m) (hy : ρ y = .int .i64 n) : (execOp ρ op).run Tryd.prog w = .ok (.value (.bool (m == n))) w := by
  unfold execOp
  simp only [ho, hx, hy]
  go_simp
set_option maxHeartbeats 8000000 in
set_option maxRecDepth 100000 in
set_option linter.unusedSimpArgs false in
set_option linter.unusedVariables false in
/-- the document's walk -/
theorem rwalk_any (N : Nat) (w : World) (st : ByteArray) (x : Nat → Int) (ao : Option Addr) (b o cap : Nat) (pv : Nat → Value) (ns : List ND) (f R : Nat) (h : NsAt N w ao b o pv ns) (hN : N ≤ w.heap.size) (h16 : ns.length ≤ 16) (p1 : 1 ≤ ptN ns) (p2 : ptN ns ≤ 64) (hf : f < ptN ns) (hR : x 0 = (R : Int)) (r1 : 1 ≤ R) (r2 : R ≤ 16) :
    Calls Tryd.prog 72 #[.agg (clA st x (.slice ao ns.length cap)), .int .i64 (f : Int)] w fun e w' => ∃ v, e = .returned v ∧ w'.ownsRow w.heap.size 3 1 v (wkR ns (ptN ns) f R).length (ints (nis (wkR ns (ptN ns) f R))) ∧ Below w.heap.size w w' := by
  obtain ⟨P, hP⟩ : ∃ P, P = ptN ns := ⟨_, rfl⟩
  obtain ⟨W0, hW0, hX⟩ := boxed st x cap h hN
  have HX := hide (hX.stand hN)
  have B0 := hide hX.bel
  clear hX h
  have PA := hide (parts_any N W0 st x ao b o cap pv ns HX.out.nd HX.out.le h16)
  rw [← hP] at p1 p2 hf PA ⊢
  clear hP
  obtain ⟨k0, hk0, hx0, hx1, hx2⟩ := info_parts infoInt
  go_enter Tryd.func72, Tryd.ntmps72
  go_upto_region 1 with fail
  rw [← hW0]
  clear hW0
  go_wp2_with (refine wpList_loadCl rfl (.tmp 2) rfl w.heap.size st x _ rfl HX.out.cl ?_)
  refine Calls.mono PA.out ?_
  rintro e W1 ⟨rfl, hb⟩
  have H1 := hide (HX.out.below hb)
  have B1 := hide (B0.out.trans (hb.mono B0.out.size))
  clear hb HX B0 PA
  go_wp2_with fail
  go_loopw [5, 7] (fun vt vi wr => ∃ (i : Nat), i ≤ P ∧ vi = .int .i64 (i : Int) ∧ (wkL ns P f i).length ≤ R ∧ Hid (wr.ownsRow W1.heap.size 3 1 vt (wkL ns P f i).length (ints (nis (wkL ns P f i)))) ∧ Hid (Below W1.heap.size W1 wr)) (fun _ vi _ => P - (intOf vi).toNat)
  case atStart => exact ⟨0, Nat.zero_le _, rfl, by simp [wkL], World.ownsRow_nil _ _ _ _, Below.refl _ _⟩
  case round =>
    obtain ⟨i, hi, rfl, hlt, HO, HB⟩ := hrel
    obtain ⟨ba, cp, hv, _⟩ := own_sl HO.out
    subst hv
    have x0 := (H1.out.cl.below HB.out).x0
    rw [hR] at x0
    by_cases hil : i < P
    case neg =>
      obtain rfl : i = P := by omega
      have HE := hide (wkR_all (ns := ns) (P := i) (f := f) (R := R) hlt)
      go_wp2_with fail
      go_ret
      exact ⟨_, rfl, by rw [HE.out]; exact own_lower HO.out B1.out.size, B1.out.trans (HB.out.mono B1.out.size)⟩
    case pos =>
      have hii : (i : Int) < (P : Int) := by omega
      by_cases hlr : (wkL ns P f i).length < R
      case neg =>
        have HE := hide (wkR_at (ns := ns) (P := P) (f := f) (R := R) (i := i) (by omega) (by omega))
        have hli : ¬ ((wkL ns P f i).length : Int) < (R : Int) := by omega
        generalize wkL ns P f i = L at *
        go_wp2_with fail
        go_ret
        exact ⟨_, rfl, by rw [HE.out]; exact own_lower HO.out B1.out.size, B1.out.trans (HB.out.mono B1.out.size)⟩
      case pos =>
        have hli : ((wkL ns P f i).length : Int) < (R : Int) := by omega
        have HT := hide (frsh_true (ns := ns) (P := P) (f := f) (i := i))
        have HYes : Hid (frsh ns P f i = true → wkL ns P f (i + 1) = wkL ns P f i ++ [plc P f i]) := wkL_yes
        have HNo : Hid (frsh ns P f i = false → wkL ns P f (i + 1) = wkL ns P f i) := wkL_no
        generalize wkL ns P f i = L at *
        go_wp2_with fail
        go_loopw [8, 9] (fun vf vj wq => ∃ (j : Nat), j ≤ i ∧ vj = .int .i64 (j : Int) ∧ vf = .bool ((List.range j).all fun j => !(hm ns (plc P f j) == hm ns (plc P f i))) ∧ Hid (wq.ownsRow W1.heap.size 3 1 (.slice ba L.length cp) L.length (ints (nis L))) ∧ Hid (Below W1.heap.size W1 wq)) (fun _ vj _ => i - (intOf vj).toNat)
        case atStart => exact ⟨0, Nat.zero_le _, rfl, rfl, HO, HB⟩
        case round =>
          clear HO HB x0
          obtain ⟨j, hj, rfl, rfl, HO, HB⟩ := hrel
          by_cases hji : j < i
          case neg =>
            obtain rfl : j = i := by omega
            have hfr : (List.range j).all (fun q => !(hm ns (plc P f q) == hm ns (plc P f j))) = frsh ns P f j := rfl
            rw [hfr]
            clear hfr HT
            cases hc : frsh ns P f j with
            | false =>
              have HE := hide (HNo.out hc)
              clear HNo HYes hc
              go_wp2_with fail
              go_roundw
              case rel => exact ⟨j + 1, by omega, by go_num, by rw [HE.out]; omega, by rw [HE.out]; exact HO, HB⟩
              case measure => simp [intOf]; omega
            | true =>
              have HE := hide (HYes.out hc)
              clear HNo HYes hc
              go_upto_region 5 with (first | refine wpList_addn rfl (.tmp 46) (.tmp 47) rfl f j rfl rfl (by omega) ?_ | refine wpList_plc rfl (.tmp 48) (.tmp 49) rfl P f j rfl rfl (by omega) (by omega) ?_ | (at_builtin; refine wpList_append_own_at _ rfl (.tmp 45) (.tmp 51) 48 rfl W1.heap.size 3 k0 (.int .i64 0) 1 8 Tryd.underlying48 hk0 hx0 hx1 hx2 rfl (by decide) _ _ _ rfl (HO.out.alloc _) ⟨wr.heap.size, 0, none⟩ 1 1 (ints [((plc P f j : Nat) : Int)]) rfl rfl (one_cells wr _) (ints_one _) (by unfold maxLen; omega) (by omega) (by have := HB.out.size; simp; omega) ?_; intro v2 X3 o3 g3 n3 a3; clear n3 a3))
              have B3 : Hid (Below W1.heap.size W1 X3) := (HB.out.alloc HB.out.size _).grown g3 (by have := HB.out.size; simp; omega) (fun j hj => (own_lt HO.out hj).1)
              have O3 : Hid (X3.ownsRow W1.heap.size 3 1 v2 (wkL ns P f (j + 1)).length (ints (nis (wkL ns P f (j + 1))))) := by
                rw [HE.out, List.length_append, nis_append]
                unfold ints at o3 ⊢
                rw [List.map_append]
                exact o3
              have HLn : Hid ((wkL ns P f (j + 1)).length ≤ R) := by
                show _ ≤ _
                rw [HE.out, List.length_append]
                exact hlr
              clear o3 g3 HE
              go_wp2_with fail
              go_roundw
              case rel => exact ⟨j + 1, by omega, by go_num, HLn.out, O3, B3⟩
              case measure => simp [intOf]; omega
          case pos =>
            have hjii : (j : Int) < (i : Int) := by omega
            have HS : Hid ((List.range (j + 1)).all (fun j => !(hm ns (plc P f j) == hm ns (plc P f i))) = ((List.range j).all (fun j => !(hm ns (plc P f j) == hm ns (plc P f i))) && !(hm ns (plc P f j) == hm ns (plc P f i)))) := by
              show _ = _
              rw [List.range_succ, List.all_append]
              simp
            generalize (List.range j).all (fun j => !(hm ns (plc P f j) == hm ns (plc P f i))) = fr at *
            have HC : Hid (∀ Y, Below wr.heap.size wr Y → ClAt Y w.heap.size st x (.slice ao ns.length cap)) := fun Y hY => (H1.out.cl.below HB.out).below hY
            have HH : Hid (∀ Y k, Below wr.heap.size wr Y → Calls Tryd.prog 65 #[.agg (clA st x (.slice ao ns.length cap)), .int .i64 ((k : Nat) : Int)] Y fun e w' => e = .returned (.int .i64 (hm ns k)) ∧ Below Y.heap.size Y w') := fun Y k hY => home_any N Y st x ao b o cap pv ns _ (H1.out.nd.below ((HB.out.trans (hY.mono HB.out.size)).mono H1.out.le)) (Nat.le_trans H1.out.le (Nat.le_trans HB.out.size hY.size))
            go_upto_region 10 with fail
            refine wp_region_held_drew (S := fun Y => Below wr.heap.size wr Y) (by kernel_rfl) ((Below.refl _ _).drew) (fun hHeld => ?_)
            refine wpAnyH_take (i := 0) (v := (.agg (clA st x (.slice ao ns.length cap)))) rfl (by kernel_rfl) (by kernel_rfl) (by kernel_rfl) (fun _ _ _ h => h) (Or.inl ⟨by rfl, ?_⟩) (by assumption) ?_
            · intro w' hSw
              (try dsimp only at hSw)
              exact exec_loadCl (.tmp 2) rfl rfl (HC.out _ hSw)
            (try simp only [Act.put, List.setIfInBounds_toArray, List.set_cons_zero, List.set_cons_succ])
            refine wpAnyH_take (i := 1) (v := (.int .i64 (f : Int))) rfl (by kernel_rfl) (by kernel_rfl) (by kernel_rfl) (fun _ _ _ h => h) (Or.inl ⟨by rfl, ?_⟩) (by assumption) ?_
            · intro w' hSw
              (try dsimp only at hSw)
              exact exec_move (.tmp 1) rfl (by kernel_rfl)
            (try simp only [Act.put, List.setIfInBounds_toArray, List.set_cons_zero, List.set_cons_succ])
            refine wpAnyH_take (i := 2) (v := (.int .i64 (j : Int))) rfl (by kernel_rfl) (by kernel_rfl) (by kernel_rfl) (fun _ _ _ h => h) (Or.inl ⟨by rfl, ?_⟩) (by assumption) ?_
            · intro w' hSw
              (try dsimp only at hSw)
              exact exec_move (.tmp 9) rfl (by kernel_rfl)
            (try simp only [Act.put, List.setIfInBounds_toArray, List.set_cons_zero, List.set_cons_succ])
            refine wpAnyH_take (i := 3) (v := (.int .i64 ((f + j : Nat) : Int))) rfl (by kernel_rfl) (by kernel_rfl) (by kernel_rfl) (fun _ _ _ h => h) (Or.inl ⟨by rfl, ?_⟩) (by assumption) ?_
            · intro w' hSw
              (try dsimp only at hSw)
              exact exec_addn (.tmp 30) (.tmp 31) rfl (by kernel_rfl) (by kernel_rfl) (by omega)
            (try simp only [Act.put, List.setIfInBounds_toArray, List.set_cons_zero, List.set_cons_succ])
            refine wpAnyH_take (i := 4) (v := (.int .i64 (P : Int))) rfl (by kernel_rfl) (by kernel_rfl) (by kernel_rfl) (fun _ _ _ h => h) (Or.inl ⟨by rfl, ?_⟩) (by assumption) ?_
            · intro w' hSw
              (try dsimp only at hSw)
              exact exec_move (.tmp 6) rfl (by kernel_rfl)
            (try simp only [Act.put, List.setIfInBounds_toArray, List.set_cons_zero, List.set_cons_succ])
            refine wpAnyH_take (i := 5) (v := (.int .i64 ((plc P f j : Nat) : Int))) rfl (by kernel_rfl) (by kernel_rfl) (by kernel_rfl) (fun _ _ _ h => h) (Or.inl ⟨by rfl, ?_⟩) (by assumption) ?_
            · intro w' hSw
              (try dsimp only at hSw)
              exact exec_remn (.tmp 32) (.tmp 33) rfl (by kernel_rfl) (by kernel_rfl) (by omega) (by omega)
            (try simp only [Act.put, List.setIfInBounds_toArray, List.set_cons_zero, List.set_cons_succ])
            refine wpAnyH_take (i := 7) (v := (.agg (clA st x (.slice ao ns.length cap)))) rfl (by kernel_rfl) (by kernel_rfl) (by kernel_rfl) (fun _ _ _ h => h) (Or.inl ⟨by rfl, ?_⟩) (by assumption) ?_
            · intro w' hSw
              (try dsimp only at hSw)
              exact exec_loadCl (.tmp 2) rfl rfl (HC.out _ hSw)
            (try simp only [Act.put, List.setIfInBounds_toArray, List.set_cons_zero, List.set_cons_succ])
            refine wpAnyH_take (i := 8) (v := (.int .i64 (f : Int))) rfl (by kernel_rfl) (by kernel_rfl) (by kernel_rfl) (fun _ _ _ h => h) (Or.inl ⟨by rfl, ?_⟩) (by assumption) ?_
            · intro w' hSw
              (try dsimp only at hSw)
              exact exec_move (.tmp 1) rfl (by kernel_rfl)
            (try simp only [Act.put, List.setIfInBounds_toArray, List.set_cons_zero, List.set_cons_succ])
            refine wpAnyH_take (i := 9) (v := (.int .i64 (i : Int))) rfl (by kernel_rfl) (by kernel_rfl) (by kernel_rfl) (fun _ _ _ h => h) (Or.inl ⟨by rfl, ?_⟩) (by assumption) ?_
            · intro w' hSw
              (try dsimp only at hSw)
              exact exec_move (.tmp 7) rfl (by kernel_rfl)
            (try simp only [Act.put, List.setIfInBounds_toArray, List.set_cons_zero, List.set_cons_succ])
            refine wpAnyH_take (i := 10) (v := (.int .i64 ((f + i : Nat) : Int))) rfl (by kernel_rfl) (by kernel_rfl) (by kernel_rfl) (fun _ _ _ h => h) (Or.inl ⟨by rfl, ?_⟩) (by assumption) ?_
            · intro w' hSw
              (try dsimp only at hSw)
              exact exec_addn (.tmp 37) (.tmp 38) rfl (by kernel_rfl) (by kernel_rfl) (by omega)
            (try simp only [Act.put, List.setIfInBounds_toArray, List.set_cons_zero, List.set_cons_succ])
            refine wpAnyH_take (i := 11) (v := (.int .i64 (P : Int))) rfl (by kernel_rfl) (by kernel_rfl) (by kernel_rfl) (fun _ _ _ h => h) (Or.inl ⟨by rfl, ?_⟩) (by assumption) ?_
            · intro w' hSw
              (try dsimp only at hSw)
              exact exec_move (.tmp 6) rfl (by kernel_rfl)
            (try simp only [Act.put, List.setIfInBounds_toArray, List.set_cons_zero, List.set_cons_succ])
            refine wpAnyH_take (i := 12) (v := (.int .i64 ((plc P f i : Nat) : Int))) rfl (by kernel_rfl) (by kernel_rfl) (by kernel_rfl) (fun _ _ _ h => h) (Or.inl ⟨by rfl, ?_⟩) (by assumption) ?_
            · intro w' hSw
              (try dsimp only at hSw)
              exact exec_remn (.tmp 39) (.tmp 40) rfl (by kernel_rfl) (by kernel_rfl) (by omega) (by omega)
            (try simp only [Act.put, List.setIfInBounds_toArray, List.set_cons_zero, List.set_cons_succ])
            refine wpAnyH_ready (rs := [6]) (by kernel_rfl) (by simp) ?_
            refine AllReadyH.cons rfl (fun K hK => ?_) AllReadyH.nil
            go_simp
            refine Calls.mono (HH.out _ (plc P f j) (Below.refl _ _).drew) ?_
            rintro e W3 ⟨rfl, hb⟩
            have B3 : Hid (Below wr.heap.size wr W3) := ⟨hb.os, hb.tape, hb.output, hb.size, hb.block⟩
            clear hb
            refine hK.out _ _ (B3.out) (fun hHeld => ?_)
            clear hK
            (try simp only [Act.put, List.setIfInBounds_toArray, List.set_cons_zero, List.set_cons_succ])
            refine wpAnyH_ready (rs := [13]) (by kernel_rfl) (by simp) ?_
            refine AllReadyH.cons rfl (fun K hK => ?_) AllReadyH.nil
            go_simp
            refine Calls.mono (HH.out _ (plc P f i) B3.out) ?_
            rintro e W4 ⟨rfl, hb⟩
            have B4 : Hid (Below wr.heap.size wr W4) := B3.out.trans (hb.mono B3.out.size)
            clear hb B3
            refine hK.out _ _ (B4.out) (fun hHeld => ?_)
            clear hK
            (try simp only [Act.put, List.setIfInBounds_toArray, List.set_cons_zero, List.set_cons_succ])
            refine wpAnyH_take (i := 14) (v := (.bool (hm ns (plc P f j) == hm ns (plc P f i)))) rfl (by kernel_rfl) (by kernel_rfl) (by kernel_rfl) (fun _ _ _ h => h) (Or.inl ⟨by rfl, ?_⟩) (by assumption) ?_
            · intro w' hSw
              (try dsimp only at hSw)
              exact exec_eqls (.tmp 35) (.tmp 42) rfl (by kernel_rfl) (by kernel_rfl)
            (try simp only [Act.put, List.setIfInBounds_toArray, List.set_cons_zero, List.set_cons_succ])
            refine wpAnyH_done (by kernel_rfl) ?_ _
            clear hHeld HC HH
            have O4 : Hid (W4.ownsRow W1.heap.size 3 1 (.slice ba L.length cp) L.length (ints (nis L))) := own_keep HO.out (fun g hg => B4.out.block g (own_lt HO.out hg).2)
            have B5 := hide (HB.out.trans (B4.out.mono HB.out.size))
            clear HO HB B4
            cases he : (hm ns (plc P f j) == hm ns (plc P f i)) with
            | true =>
              rw [he] at HS
              have HS2 := HS.out
              rw [Bool.not_true, Bool.and_false] at HS2
              have HS3 := hide HS2
              clear HS HS2
              go_wp2_with fail
              go_roundw
              case rel => exact ⟨j + 1, by omega, by go_num, by rw [HS3.out], O4, B5⟩
              case measure => simp [intOf]; omega
            | false =>
              rw [he] at HS
              have HS2 := HS.out
              rw [Bool.not_false, Bool.and_true] at HS2
              have HS3 := hide HS2
              clear HS HS2
              go_wp2_with fail
              go_roundw
              case rel => exact ⟨j + 1, by omega, by go_num, by rw [HS3.out], O4, B5⟩
              case measure => simp [intOf]; omega
end Go.Proofs.YtpoegknmkbnjlaaDoor
namespace Go.Proofs.YtpoegknmkbnjlaaDoor
open Go.RowKit
theorem errP_dl {st : ByteArray} {x : Nat → Int} {ns : List ND} (h : errP st x ns = 0) : Dealt ns := by
  apply Classical.byContradiction
  intro hn
  unfold errP at h
  rw [dlB_false hn] at h
  split at h <;> (try split at h) <;> (try split at h) <;> simp at h
theorem wpList_loadClG {w : World} {ops : Array Oper} {rest : List Oper} {o : Oper} {a : Act} {Q : Exit → Act → World → Prop} (p : Operand) (ho : o.op = .load 24 p) (hw : Region.wanted o (yielded ops a.tmps) = true) (b : Nat) (st : ByteArray) (x : Nat → Int) (nv : Value) (hx : a.eval p = .pointer (some ⟨b, 0, none⟩)) (hO : ClAt w b st x nv)
    (h : wpList Tryd.prog ops Q rest (a.put o.dst (.agg (clA st x nv))) w) : wpList Tryd.prog ops Q (o :: rest) a w := by
  refine wpList_step fun K hK => ?_
  rw [if_pos hw]
  exact wp_exec (exec_loadCl p ho hx hO) (hK _ _ h)
set_option maxHeartbeats 8000000 in
set_option maxRecDepth 100000 in
set_option linter.unusedSimpArgs false in
set_option linter.unusedVariables false in
/-- the document's Walk -/
theorem rWalk_any (N : Nat) (w : World) (st : ByteArray) (x : Nat → Int) (ao : Option Addr) (b o cap : Nat) (pv : Nat → Value) (ns : List ND) (p : Int) (h : NsAt N w ao b o pv ns) (hN : N ≤ w.heap.size) (hs : st.size ≤ 9223372036854775807) (hT : TabG w) :
    Calls Tryd.prog 64 #[.agg (clA st x (.slice ao ns.length cap)), .int .i64 p] w fun e w' => ∃ v, e = .returned (.tuple #[v, .int .i64 (rdE st x ns p)]) ∧ w'.ownsRow w.heap.size 3 1 v (wkE st x ns p).length (ints (nis (wkE st x ns p))) ∧ Below w.heap.size w w' := by
  obtain ⟨L, hL⟩ : ∃ L, L = wkE st x ns p := ⟨_, rfl⟩
  obtain ⟨k, hk⟩ : ∃ k, k = rdE st x ns p := ⟨_, rfl⟩
  rw [← hL, ← hk]
  have HLL := hide hL
  have HKK := hide hk
  obtain ⟨W0, hW0, hX⟩ := boxed st x cap h hN
  have HX := hide (hX.stand hN)
  have B0 := hide hX.bel
  have T0 := hide (hT.below hX.bel)
  clear hX h hk hL hT
  have CK := hide (rcheck_any N W0 st x ao b o cap pv ns HX.out.nd HX.out.le hs T0.out)
  go_enter Tryd.func64, Tryd.ntmps64
  go_upto_region 1 with fail
  rw [← hW0]
  clear hW0
  go_wp2_with (refine wpList_loadCl rfl (.tmp 2) rfl w.heap.size st x _ rfl HX.out.cl ?_)
  refine Calls.mono CK.out ?_
  rintro e W1 ⟨rfl, hb⟩
  have H1 := hide (HX.out.below hb)
  have B1 := hide (B0.out.trans (hb.mono B0.out.size))
  clear hb HX CK T0
  by_cases he : errP st x ns = 0
  case neg =>
    have hk2 : k = errP st x ns := HKK.out.trans (rdE_bad he)
    have hL2 : L = [] := HLL.out.trans (wkE_bad (by rw [rdE_bad he]; exact he))
    rw [← hk2] at he ⊢
    subst hL2
    have HE := hide he
    clear HLL HKK hk2 he
    have hkn : (k == 0) = false := beq_eq_false_iff_ne.2 HE.out
    go_wp2_with fail
    go_ret2
    exact ⟨_, rfl, World.ownsRow_nil _ _ _ _, B1.out⟩
  case pos =>
    have RP := hide (rdE_part (p := p) he)
    have RO := hide (rdE_ok (p := p) he)
    have L0 : 1 ≤ x 0 ∧ x 0 ≤ 16 := sfP_lim (errP_ok he).1 0 (by omega)
    have n16 := nfP_len (errP_ok he).2
    have HD : Hid (1 ≤ ptN ns ∧ ptN ns ≤ 64) := ⟨(errP_dl he).p1, (errP_dl he).p2⟩
    rw [he]
    clear he
    have PA := hide (parts_any N W1 st x ao b o cap pv ns H1.out.nd H1.out.le n16.2)
    by_cases hp0 : p < 0
    · have hk2 : k = 69 := HKK.out.trans (RP.out (Or.inl hp0))
      have hL2 : L = [] := HLL.out.trans (wkE_bad (by rw [RP.out (Or.inl hp0)]; omega))
      subst hL2
      subst hk2
      clear HLL HKK RP RO
      go_wp2_with fail
      go_ret2
      exact ⟨_, rfl, World.ownsRow_nil _ _ _ _, B1.out⟩
    · have hp0' : decide (p < 0) = false := decide_eq_false hp0
      go_upto_region 4 with fail
      go_wp2_with (first | refine wpList_loadClG (.tmp 2) rfl (by rfl) w.heap.size st x _ rfl H1.out.cl ?_)
      refine Calls.mono PA.out ?_
      rintro e W2 ⟨rfl, hb⟩
      have H2 := hide (H1.out.below hb)
      have B2 := hide (B1.out.trans (hb.mono B1.out.size))
      clear hb H1 B1 PA
      by_cases hp1 : (ptN ns : Int) ≤ p
      · have hk2 : k = 69 := HKK.out.trans (RP.out (Or.inr hp1))
        have hL2 : L = [] := HLL.out.trans (wkE_bad (by rw [RP.out (Or.inr hp1)]; omega))
        subst hL2
        subst hk2
        clear HLL HKK RP RO
        go_wp2_with fail
        go_ret2
        exact ⟨_, rfl, World.ownsRow_nil _ _ _ _, B2.out⟩
      · have hr := RO.out (by omega)
        have hk2 : k = 0 := HKK.out.trans hr
        have HL2 : Hid (L = wk x ns p) := HLL.out.trans (wkE_ok hr)
        subst hk2
        clear HLL HKK RP RO hr
        have RW := rwalk_any N W2 st x ao b o cap pv ns p.toNat (x 0).toNat H2.out.nd H2.out.le n16.2 HD.out.1 HD.out.2 (by omega) (by omega) (by omega) (by omega)
        rw [Int.toNat_of_nonneg (by omega)] at RW
        have RW := hide RW
        go_upto_region 6 with fail
        go_wp2_with (refine wpList_loadCl rfl (.tmp 2) rfl w.heap.size st x _ rfl H2.out.cl ?_)
        refine Calls.mono RW.out ?_
        rintro e W3 ⟨v, rfl, o3, hb⟩
        have B3 := hide (B2.out.trans (hb.mono B2.out.size))
        have O3 : Hid (W3.ownsRow w.heap.size 3 1 v L.length (ints (nis L))) := by
          rw [HL2.out]
          exact own_lower o3 B2.out.size
        clear hb o3 RW HL2
        obtain ⟨ba, cp2, hv, _⟩ := own_sl O3.out
        subst hv
        go_wp2_with fail
        go_ret2
        exact ⟨_, rfl, O3.out, B3.out⟩
end Go.Proofs.YtpoegknmkbnjlaaDoor
namespace Go.Proofs.YtpoegknmkbnjlaaDoor
open Go.RowKit
set_option maxHeartbeats 8000000 in
set_option maxRecDepth 100000 in
set_option linter.unusedSimpArgs false in
set_option linter.unusedVariables false in
/-- the document's Owners -/
theorem rOwners_any (N : Nat) (w : World) (st : ByteArray) (x : Nat → Int) (ao : Option Addr) (b o cap : Nat) (pv : Nat → Value) (ns : List ND) (p : Int) (h : NsAt N w ao b o pv ns) (hN : N ≤ w.heap.size) (hs : st.size ≤ 9223372036854775807) (hT : TabG w) :
    Calls Tryd.prog 46 #[.agg (clA st x (.slice ao ns.length cap)), .int .i64 p] w fun e w' => ∃ v, e = .returned (.tuple #[v, .int .i64 (rdE st x ns p)]) ∧ w'.ownsRow w.heap.size 3 1 v (wkE st x ns p).length (ints (owL ns (wkE st x ns p))) ∧ Below w.heap.size w w' := by
  obtain ⟨L, hL⟩ : ∃ L, L = wkE st x ns p := ⟨_, rfl⟩
  obtain ⟨k, hk⟩ : ∃ k, k = rdE st x ns p := ⟨_, rfl⟩
  have hl64 : L.length ≤ 64 := by
    rw [hL]
    by_cases he : rdE st x ns p = 0
    · rw [wkE_ok he]
      have h1 := wk_len x ns p
      have h2 := (errP_dl (rdE_zero he).1).p2
      have h3 : (flat ns).length = ptN ns := rfl
      omega
    · rw [wkE_bad he]
      simp
  have HBad : Hid (k ≠ 0 → L = []) := fun he => hL.trans (wkE_bad (hk ▸ he))
  obtain ⟨W0, hW0, hX⟩ := boxed st x cap h hN
  have HX := hide (hX.stand hN)
  have B0 := hide hX.bel
  have T0 := hide (hT.below hX.bel)
  have RW := hide (rWalk_any N W0 st x ao b o cap pv ns p HX.out.nd HX.out.le hs T0.out)
  rw [← hL, ← hk] at RW ⊢
  clear hX h hk hL hT
  obtain ⟨k0, hk0, hx0, hx1, hx2⟩ := info_parts infoInt
  go_enter Tryd.func46, Tryd.ntmps46
  go_upto_region 1 with fail
  rw [← hW0]
  clear hW0
  go_wp2_with (refine wpList_loadCl rfl (.tmp 2) rfl w.heap.size st x _ rfl HX.out.cl ?_)
  refine Calls.mono RW.out ?_
  rintro e W1 ⟨v, rfl, o1, hb⟩
  have H1 := hide (HX.out.below hb)
  have B1 := hide (B0.out.trans (hb.mono B0.out.size))
  obtain ⟨pa, cl, hv, _⟩ := own_sl o1
  subst hv
  have HP : Hid (∃ pb po, PsAt W1.heap.size W1 pa pb po (nis L)) := by
    obtain ⟨pa', pb, po, pc, e1, hps⟩ := own_ps o1 (nis_len _).symm (by rw [nis_len]; omega)
    injection e1 with e1 e2 e3
    subst e1
    exact ⟨pb, po, hps⟩
  clear hb HX T0 RW o1
  by_cases he : k = 0
  case neg =>
    obtain rfl := HBad.out he
    have hkn : (k == 0) = false := beq_eq_false_iff_ne.2 he
    clear HBad HP
    go_wp2_with fail
    go_ret2
    exact ⟨_, rfl, World.ownsRow_nil _ _ _ _, B1.out⟩
  case pos =>
    subst he
    clear HBad
    obtain ⟨pb, po, hps⟩ := HP.out
    have PP := hide hps
    clear hps HP
    go_wp2_with fail
    go_loopw [8, 9] (fun vt vi wr => ∃ (q : Nat), q ≤ L.length ∧ vi = .int .i64 (q : Int) ∧ Hid (wr.ownsRow W1.heap.size 3 1 vt q (ints (owL ns (L.take q)))) ∧ Hid (Below W1.heap.size W1 wr)) (fun _ vi _ => L.length - (intOf vi).toNat)
    case atStart => exact ⟨0, Nat.zero_le _, rfl, World.ownsRow_nil _ _ _ _, Below.refl _ _⟩
    case round =>
      obtain ⟨q, hq, rfl, HO, HB⟩ := hrel
      obtain ⟨ba, cp, hv, _⟩ := own_sl HO.out
      subst hv
      by_cases hql : q < L.length
      case neg =>
        obtain rfl : q = L.length := by omega
        have HO2 := HO.out
        rw [List.take_length] at HO2
        have HO3 := hide (own_lower HO2 B1.out.size)
        clear HO2 HO
        go_wp2_with fail
        go_ret2
        exact ⟨_, rfl, HO3.out, B1.out.trans (HB.out.mono B1.out.size)⟩
      case pos =>
        have h3 := PP.out.at0 (by rw [nis_len]; omega)
        subst h3
        have hqi : (q : Int) < (L.length : Int) := by omega
        have CC : Hid (∀ Y, Below W1.heap.size W1 Y → ClAt Y w.heap.size st x (.slice ao ns.length cap) ∧ Y.cell? ⟨pb, po + q, none⟩ = some (.int .i64 ((L[q] : Nat) : Int))) := fun Y hY => by
          refine ⟨H1.out.cl.below hY, ?_⟩
          rw [(PP.out.below hY).c q (by rw [nis_len]; omega)]
          simp [nis]
        have HH : Hid (∀ Y k, Below W1.heap.size W1 Y → Calls Tryd.prog 65 #[.agg (clA st x (.slice ao ns.length cap)), .int .i64 ((k : Nat) : Int)] Y fun e w' => e = .returned (.int .i64 (hm ns k)) ∧ Below Y.heap.size Y w') := fun Y k hY => home_any N Y st x ao b o cap pv ns _ (H1.out.nd.below (hY.mono H1.out.le)) (Nat.le_trans H1.out.le hY.size)
        have ET := hide (owL_take (ns := ns) hql)
        generalize L[q] = y at *
        go_upto_region 8 with fail
        refine wp_region_held_drew (S := fun Y => Below W1.heap.size W1 Y) (by kernel_rfl) (HB.out.drew) (fun hHeld => ?_)
        refine wpAnyH_take (i := 0) (v := (.slice ba q cp)) rfl (by kernel_rfl) (by kernel_rfl) (by kernel_rfl) (fun _ _ _ h => h) (Or.inl ⟨by rfl, ?_⟩) (by assumption) ?_
        · intro w' hSw
          (try dsimp only at hSw)
          exact exec_move (.tmp 8) rfl (by kernel_rfl)
        (try simp only [Act.put, List.setIfInBounds_toArray, List.set_cons_zero, List.set_cons_succ])
        refine wpAnyH_take (i := 1) (v := (.agg (clA st x (.slice ao ns.length cap)))) rfl (by kernel_rfl) (by kernel_rfl) (by kernel_rfl) (fun _ _ _ h => h) (Or.inl ⟨by rfl, ?_⟩) (by assumption) ?_
        · intro w' hSw
          (try dsimp only at hSw)
          exact exec_loadCl (.tmp 2) rfl rfl (CC.out _ hSw).1
        (try simp only [Act.put, List.setIfInBounds_toArray, List.set_cons_zero, List.set_cons_succ])
        refine wpAnyH_take (i := 2) (v := (.slice (some ⟨pb, po, none⟩) L.length cl)) rfl (by kernel_rfl) (by kernel_rfl) (by kernel_rfl) (fun _ _ _ h => h) (Or.inl ⟨by rfl, ?_⟩) (by assumption) ?_
        · intro w' hSw
          (try dsimp only at hSw)
          exact exec_move (.tmp 6) rfl (by kernel_rfl)
        (try simp only [Act.put, List.setIfInBounds_toArray, List.set_cons_zero, List.set_cons_succ])
        refine wpAnyH_take (i := 3) (v := (.int .i64 (q : Int))) rfl (by kernel_rfl) (by kernel_rfl) (by kernel_rfl) (fun _ _ _ h => h) (Or.inl ⟨by rfl, ?_⟩) (by assumption) ?_
        · intro w' hSw
          (try dsimp only at hSw)
          exact exec_move (.tmp 9) rfl (by kernel_rfl)
        (try simp only [Act.put, List.setIfInBounds_toArray, List.set_cons_zero, List.set_cons_succ])
        refine wpAnyH_take (i := 4) (v := (.pointer (some ⟨pb, po + q, none⟩))) rfl (by kernel_rfl) (by kernel_rfl) (by kernel_rfl) (fun _ _ _ h => h) (Or.inl ⟨by rfl, ?_⟩) (by assumption) ?_
        · intro w' hSw
          (try dsimp only at hSw)
          exact exec_ixI (n := L.length) (c := cl) (.tmp 27) (.tmp 28) rfl (by kernel_rfl) (by kernel_rfl) hql
        (try simp only [Act.put, List.setIfInBounds_toArray, List.set_cons_zero, List.set_cons_succ])
        refine wpAnyH_take (i := 5) (v := (.int .i64 (y : Int))) rfl (by kernel_rfl) (by kernel_rfl) (by kernel_rfl) (fun _ _ _ h => h) (Or.inl ⟨by rfl, ?_⟩) (by assumption) ?_
        · intro w' hSw
          (try dsimp only at hSw)
          exact exec_ld (.tmp 29) rfl (Or.inl rfl) (by kernel_rfl) (CC.out _ hSw).2
        (try simp only [Act.put, List.setIfInBounds_toArray, List.set_cons_zero, List.set_cons_succ])
        refine wpAnyH_ready (rs := [6]) (by kernel_rfl) (by simp) ?_
        refine AllReadyH.cons rfl (fun K hK => ?_) AllReadyH.nil
        go_simp
        refine Calls.mono (HH.out _ y HB.out.drew) ?_
        rintro e W3 ⟨rfl, hb⟩
        have B3 : Hid (Below W1.heap.size W1 W3) := HB.out.drew.trans (hb.mono HB.out.size)
        have O3 : Hid (W3.ownsRow W1.heap.size 3 1 (.slice ba q cp) q (ints (owL ns (L.take q)))) := own_keep HO.out (fun g hg => hb.block g (own_lt HO.out hg).2)
        clear hb
        refine hK.out _ _ (B3.out) (fun hHeld => ?_)
        clear hK
        (try simp only [Act.put, List.setIfInBounds_toArray, List.set_cons_zero, List.set_cons_succ])
        refine wpAnyH_ready (rs := [7]) (by kernel_rfl) (by simp) ?_
        refine AllReadyH.cons rfl (fun K hK => ?_) AllReadyH.nil
        go_simp
        refine hK.out _ _ ((B3.out.alloc B3.out.size _)) (fun hHeld => ?_)
        clear hK
        (try simp only [Act.put, List.setIfInBounds_toArray, List.set_cons_zero, List.set_cons_succ])
        refine wpAnyH_ready (rs := [8]) (by kernel_rfl) (by simp) ?_
        refine AllReadyH.cons rfl (fun K hK => ?_) AllReadyH.nil
        refine itY (by rfl) ?_
        refine wp_append_own (W3.alloc (.cells #[.int .i64 (hm ns y)] 3)) (.tmp 25) (.tmp 32) 48 ?hAo W1.heap.size 3 k0 (.int .i64 0) 1 8 Tryd.underlying48 hk0 hx0 hx1 hx2 ?hAz (by decide) (.slice ba q cp) q (ints (owL ns (L.take q))) ?hAs (O3.out.alloc _) ⟨W3.heap.size, 0, none⟩ 1 1 (ints [hm ns y]) ?hAx rfl (one_cells W3 _) (ints_one _) (by unfold maxLen; omega) (by omega) (by have := B3.out.size; simp; omega) ?hAk
        case hAo => rfl
        case hAz => rfl
        case hAs => kernel_rfl
        case hAx => kernel_rfl
        intro v2 X3 o3 g3 n3
        clear n3
        have B4 : Hid (Below W1.heap.size W1 X3) := (B3.out.alloc B3.out.size _).grown g3 (by have := B3.out.size; simp; omega) (fun j hj => (own_lt O3.out hj).1)
        have O4 : Hid (X3.ownsRow W1.heap.size 3 1 v2 (q + 1) (ints (owL ns (L.take (q + 1))))) := by
          rw [ET.out]
          unfold ints at o3 ⊢
          rw [List.map_append]
          exact o3
        clear o3 g3 O3 B3 HO HB
        refine hK.out _ _ (B4.out) (fun hHeld => ?_)
        clear hK
        (try simp only [Act.put, List.setIfInBounds_toArray, List.set_cons_zero, List.set_cons_succ])
        refine wpAnyH_ready (rs := [9]) (by kernel_rfl) (by simp) ?_
        refine AllReadyH.cons rfl (fun K hK => ?_) AllReadyH.nil
        go_simp
        refine hK.out _ _ (B4.out) (fun hHeld => ?_)
        clear hK
        (try simp only [Act.put, List.setIfInBounds_toArray, List.set_cons_zero, List.set_cons_succ])
        refine wpAnyH_done (by kernel_rfl) ?_ _
        clear hHeld CC HH
        go_wp2_with fail
        go_roundw
        case rel => exact ⟨q + 1, by omega, by go_num, O4, B4⟩
        case measure => simp [intOf]; omega
end Go.Proofs.YtpoegknmkbnjlaaDoor
