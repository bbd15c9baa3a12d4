import Derived.Test.YteiiolilpemimaaDoorGAeKeep
import Derived.Test.YteiiolilpemimaaDoorAaRep
import Derived.Test.YteiiolilpemimaaDoorGAeLists
import Derived.Test.YteiiolilpemimaaDoorGAaClone
import Derived.Test.YteiiolilpemimaaDoorGGhHold
import Derived.Test.YteiiolilpemimaaDoorGAaBeg
namespace Go.Proofs.YteiiolilpemimaaDoor.Cn
open Go.RowKit
/-- what a node has to tell of a partition -/
structure Ce where
  no : Int
  pt : Int
  en : Int
  er : Int
  dg : ByteArray
def ceV (c : Ce) : Array Value := #[.int .i64 c.no, .int .i64 c.pt, .int .i64 c.en, .int .i64 c.er, .string c.dg]
def dg0 : ByteArray := { data := #[48, 48, 48, 48, 48, 48, 48, 48, 48, 48, 48, 48, 48, 48, 48, 48] }
def tellC (ys : List Ce) (n p : Int) : Ce := (ys.find? (fun c => c.no == n && c.pt == p)).getD ⟨n, p, 0, 0, dg0⟩
theorem ce_info : (Tryd.prog.info? 45).map (·.size) = some 5 := by kernel_rfl
theorem ce_one (c : Ce) : (ceV c).all (·.oneCell') = true := by simp [ceV, Value.oneCell']
theorem find_here {α : Type} {f : α → Bool} {ys : List α} {i : Nat} (hi : i < ys.length) (h : (ys.take i).find? f = none) (hf : f ys[i] = true) : ys.find? f = some ys[i] := by
  conv => lhs; rw [← List.take_append_drop i ys]
  rw [List.find?_append, h, List.drop_eq_getElem_cons hi, List.find?_cons, hf]
  rfl
theorem find_next {α : Type} {f : α → Bool} {ys : List α} {i : Nat} (hi : i < ys.length) (h : (ys.take i).find? f = none) (hf : f ys[i] = false) : (ys.take (i + 1)).find? f = none := by
  rw [List.take_add_one, List.find?_append, h, List.getElem?_eq_getElem hi]
  simp [hf]
set_option maxHeartbeats 8000000 in
set_option maxRecDepth 100000 in
set_option linter.unusedSimpArgs false in
set_option linter.unusedVariables false in
theorem told_a (N : Nat) (w : World) (ao : Option Addr) (b o cap : Nat) (ys : List Ce) (h : RwAt 5 ceV N w ao b o ys) (hN : N ≤ w.heap.size) (n p : Int) :
    Calls Tryd.prog 15 #[.slice ao ys.length cap, .int .i64 n, .int .i64 p] w fun e w' => e = .returned (.agg (ceV (tellC ys n p))) ∧ Kp w w' non := by
  obtain ⟨B, hB⟩ : ∃ B, B = w.heap.size := ⟨_, rfl⟩
  obtain ⟨W0, hW0⟩ : ∃ W0, W0 = w.alloc (.cells #[.int .i64 0, .int .i64 0, .int .i64 0, .int .i64 0, .string ⟨#[]⟩] 45) := ⟨_, rfl⟩
  have k0 : Kp w W0 non := by rw [hW0]; exact (Kp.refl w non).alloc _
  have M0 : Hid (W0.heap[B]? = some (.cells #[.int .i64 0, .int .i64 0, .int .i64 0, .int .i64 0, .string ⟨#[]⟩] 45)) := by rw [hW0, hB]; exact heap_last w _
  have TB : Hid (∀ X, Kp W0 X non → RwAt 5 ceV N X ao b o ys) := fun X hX => h.below ((k0.trans hX (fun _ f => f.elim)).below.mono hN)
  have K0 := hide k0
  have HA := hide h.at0
  have HL := h.len
  have FIN : Hid (∀ X c, Kp W0 X non → X.heap[B]? = some (.cells #[.int .i64 0, .int .i64 0, .int .i64 0, .int .i64 0, .string ⟨#[]⟩] 45) ∧ Kp w (X.setRow B (ceV c)) non) := fun X c hX => by
    have e := (hX.block _ (blk_lt M0.out) (fun f => f)).trans M0.out
    exact ⟨e, (k0.trans hX (fun _ f => f.elim)).row (Or.inr (by omega)) _⟩
  obtain ⟨ln, hln⟩ : ∃ ln, ln = ys.length := ⟨_, rfl⟩
  have HLN := hide hln
  rw [← hln] at HL ⊢
  clear h k0 hln
  go_enter Tryd.func15, Tryd.ntmps15
  go_upto_region 1 with fail
  rw [← hW0, ← hB]
  clear hW0 hB
  go_wp2_with fail
  go_loopw [7] (fun vi wr => ∃ i : Nat, i ≤ ln ∧ vi = .int .i64 (i : Int) ∧ Hid ((ys.take i).find? (fun c => c.no == n && c.pt == p) = none) ∧ Hid (Kp W0 wr non)) (fun vi _ => ln - (intOf vi).toNat)
  case atStart => exact ⟨0, Nat.zero_le _, rfl, rfl, Kp.refl _ _⟩
  case round =>
    obtain ⟨i, hi, rfl, HF, HK⟩ := hrel
    by_cases hin : i < ln
    case neg =>
      obtain rfl : i = ln := by omega
      have ET : Hid (tellC ys n p = ⟨n, p, 0, 0, dg0⟩) := by
        have := HF.out
        rw [HLN.out, List.take_length] at this
        unfold tellC
        rw [this]
        rfl
      have FN := hide (FIN.out wr ⟨n, p, 0, 0, dg0⟩ HK.out)
      go_wp2_with (first | refine wpList_blR rfl 45 _ rfl (ceV ⟨n, p, 0, 0, dg0⟩) (by kernel_rfl) ?_ | refine wpList_stR rfl 45 (.tmp 6) (.tmp 36) rfl B rfl (ceV ⟨n, p, 0, 0, dg0⟩) _ rfl _ FN.out.1 ce_info rfl (ce_one _) ?_)
      refine bodyPost_ret (v := .agg (ceV ⟨n, p, 0, 0, dg0⟩)) (res_row1 Tryd.results15 _ _ _ B rfl _ (setRow_heap _ _ _ _ _ _ FN.out.1) Tryd.underlying45 ce_info) rfl ⟨by rw [ET.out], FN.out.2⟩
    case pos =>
      have hii : (i : Int) < (ln : Int) := by omega
      have hiL : i < ys.length := by rw [← HLN.out]; exact hin
      have RW := TB.out wr HK.out
      obtain rfl : ao = some ⟨b, o, none⟩ := HA.out (by omega)
      obtain ⟨c, hc⟩ : ∃ c, c = ys[i] := ⟨_, rfl⟩
      have RG : Hid (wr.rangeAt b (o + i * 5) (ceV c).toList) := fun j u hj => by
        rw [hc] at hj
        exact RW.c i hiL j u (by simpa using hj)
      have q0 : wr.cell? ⟨b, o + i * 5, none⟩ = some (.int .i64 c.no) := RG.out 0 _ rfl
      have q1 : wr.cell? ⟨b, o + i * 5 + 1, none⟩ = some (.int .i64 c.pt) := RG.out 1 _ rfl
      have HERE : Hid ((c.no == n && c.pt == p) = true → tellC ys n p = c) := fun e => by
        rw [hc] at e ⊢
        unfold tellC
        rw [find_here hiL HF.out e]
        rfl
      have NEXT : Hid ((c.no == n && c.pt == p) = false → (ys.take (i + 1)).find? (fun c => c.no == n && c.pt == p) = none) := fun e => by
        rw [hc] at e
        exact find_next hiL HF.out e
      have FN := hide (FIN.out wr c HK.out)
      clear RW hc hiL HA
      by_cases e1 : c.no = n
      case neg =>
        have z1 : (c.no == n) = false := by simpa using e1
        rw [z1] at NEXT
        go_wp2_with fail
        go_roundw
        case rel => exact ⟨i + 1, by omega, by go_num, NEXT.out rfl, HK.out⟩
        case measure => simp [intOf]; omega
      case pos =>
      have z1 : (c.no == n) = true := by simpa using e1
      by_cases e2 : c.pt = p
      case neg =>
        have z2 : (c.pt == p) = false := by simpa using e2
        rw [z1, z2] at NEXT
        go_wp2_with fail
        go_roundw
        case rel => exact ⟨i + 1, by omega, by go_num, NEXT.out rfl, HK.out⟩
        case measure => simp [intOf]; omega
      case pos =>
        have z2 : (c.pt == p) = true := by simpa using e2
        rw [z1, z2] at HERE
        go_wp2_with (first | refine wpList_load_mid rfl 45 (.tmp 32) rfl b (o + i * 5) rfl (ceV c).toList _ RG.out Tryd.underlying45 rfl ce_info ?_ | refine wpList_stR rfl 45 (.tmp 6) (.tmp 33) rfl B rfl (ceV c) _ rfl _ FN.out.1 ce_info rfl (ce_one _) ?_)
        refine bodyPost_ret (v := .agg (ceV c)) (res_row1 Tryd.results15 _ _ _ B rfl _ (setRow_heap _ _ _ _ _ _ FN.out.1) Tryd.underlying45 ce_info) rfl ⟨by rw [HERE.out rfl], FN.out.2⟩
end Go.Proofs.YteiiolilpemimaaDoor.Cn
namespace Go.Proofs.YteiiolilpemimaaDoor.Cn
open Go.RowKit
def fitB (c : Ce) : Bool := c.er == 0 && c.dg.size == 16
theorem numF (w : World) (n : Int) : Calls Tryd.prog 9 #[.int .i64 n] w fun e w' => e = .returned (.int .i64 n) ∧ w = w' := by
  go_enter Tryd.func9, Tryd.ntmps9
  go_wp2_with fail
  go_ret
  exact ⟨rfl, rfl⟩
set_option maxHeartbeats 8000000 in
set_option maxRecDepth 100000 in
set_option linter.unusedSimpArgs false in
set_option linter.unusedVariables false in
theorem fit_a (w : World) (c : Ce) :
    Calls Tryd.prog 39 #[.agg (ceV c)] w fun e w' => e = .returned (.bool (fitB c)) ∧ Kp w w' non := by
  have NM := hide numF
  obtain ⟨B, hB⟩ : ∃ B, B = w.heap.size := ⟨_, rfl⟩
  obtain ⟨W0, hW0⟩ : ∃ W0, W0 = w.alloc (.cells (ceV c) 45) := ⟨_, rfl⟩
  have K0 : Hid (Kp w W0 non) := by rw [hW0]; exact (Kp.refl w non).alloc _
  have m0 : W0.heap[B]? = some (.cells (ceV c) 45) := by rw [hW0, hB]; exact heap_last w _
  have c3 : W0.cell? ⟨B, 3, none⟩ = some (.int .i64 c.er) := by rw [cell_row m0]; rfl
  have c4 : W0.cell? ⟨B, 4, none⟩ = some (.string c.dg) := by rw [cell_row m0]; rfl
  clear m0
  by_cases e1 : c.er = 0
  case neg =>
    have z1 : (c.er == 0) = false := by simpa using e1
    have EB : Hid (fitB c = false) := by unfold fitB; rw [z1]; rfl
    go_enter Tryd.func39, Tryd.ntmps39
    go_upto_region 1 with fail
    rw [← hW0, ← hB]
    clear hW0 hB
    go_wp2_with (go_at_call 9; refine Calls.mono (NM.out _ _) ?_; rintro e w' ⟨rfl, rfl⟩)
    go_ret
    exact ⟨by rw [EB.out]; rfl, K0.out⟩
  case pos =>
    have z1 : (c.er == 0) = true := by simpa using e1
    obtain ⟨sz, hsz⟩ : ∃ sz : Int, sz = (c.dg.size : Int) := ⟨_, rfl⟩
    have EB : Hid (fitB c = (sz == 16)) := by
      unfold fitB
      rw [z1, hsz, Bool.true_and]
      by_cases h : c.dg.size = 16
      · rw [h]; rfl
      · have h' : ¬ ((c.dg.size : Int) = 16) := by omega
        rw [beq_false_of_ne h, beq_false_of_ne h']
        exact rfl
    go_enter Tryd.func39, Tryd.ntmps39
    go_upto_region 1 with fail
    rw [← hW0, ← hB]
    clear hW0 hB
    go_wp2_with (go_at_call 9; refine Calls.mono (NM.out _ _) ?_; rintro e w' ⟨rfl, rfl⟩)
    go_ret
    exact ⟨by rw [EB.out, hsz]; rfl, K0.out⟩
end Go.Proofs.YteiiolilpemimaaDoor.Cn
namespace Go.Proofs.YteiiolilpemimaaDoor.Cn
open Go.RowKit
/-- cells of a table, one behind the other -/
def ces (l : List Ce) : List Value := l.flatMap fun m => (ceV m).toList
theorem ces_append (a b : List Ce) : ces (a ++ b) = ces a ++ ces b := List.flatMap_append
theorem ces_one (m : Ce) : ces [m] = (ceV m).toList := by unfold ces; rw [List.flatMap_cons, List.flatMap_nil, List.append_nil]
theorem ces_oneCell (L : List Ce) : ∀ u ∈ ces L, u.oneCell' = true := by
  intro u hu
  unfold ces at hu
  obtain ⟨m, _, hm⟩ := List.mem_flatMap.1 hu
  exact Array.all_eq_true_iff_forall_mem.1 (ce_one m) u (by simpa using hm)
theorem ces_at (L : List Ce) (q : Nat) (h : q < L.length) (j : Nat) (hj : j < 5) : (ces L)[q * 5 + j]? = (ceV L[q])[j]? := by
  induction L generalizing q with
  | nil => simp at h
  | cons a r ih =>
    cases q with
    | zero =>
      unfold ces
      rw [List.flatMap_cons, Nat.zero_mul, Nat.zero_add, List.getElem?_append_left (by simpa [ceV] using hj)]
      simp
    | succ q =>
      have h' : q < r.length := by simpa using h
      have := ih q h'
      unfold ces at *
      rw [List.flatMap_cons, show (q + 1) * 5 + j = (ceV a).toList.length + (q * 5 + j) by simp [ceV]; omega, List.getElem?_append_right (by omega), Nat.add_sub_cancel_left]
      exact this
def ce0 : Ce := ⟨0, 0, 0, 0, ⟨#[]⟩⟩
theorem ce_infos : (Tryd.prog.info? 45).map (fun i => (i.zero, i.size, i.bytes)) = some (some (.agg (ceV ce0)), 5, 48) := by kernel_rfl
theorem fill_ce (m : Ce) : Instr.fill (fun i => some (i * 5, 5)) ((Array.range (1 * 5)).map ((Value.agg (ceV ce0)).cells[· % (Value.agg (ceV ce0)).cells.size]!)) [(0, .agg (ceV m))] = some (ceV m) := by kernel_rfl
theorem wp_bsC {w : World} {o : Oper} {a : Act} {K : Act → World → Prop} {Q : Exit → Act → World → Prop} (x : Operand) (ho : o.op = .buildSlice 25 1 #[(0, x)]) (m : Ce) (hx : a.eval x = .agg (ceV m))
    (h : K (a.put o.dst (.slice (some ⟨w.heap.size, 0, none⟩) 1 1)) (w.alloc (.cells (ceV m) 45))) : o.wp Tryd.prog a w K Q := by
  obtain ⟨i0, hi, hz0, hz1, hz2⟩ := mg_parts ce_infos
  refine wp_buildSlice 25 45 1 _ ho (ceV m) i0 _ Tryd.underlying25 hi hz0 (by rw [hz1]; decide) (by rw [hz1]; decide) ?_ h
  rw [hz1]
  simp only [List.map_toArray, List.map_cons, List.map_nil, hx]
  exact fill_ce m
theorem wpList_bsC {w : World} {ops : Array Oper} {rest : List Oper} {o : Oper} {a : Act} {Q : Exit → Act → World → Prop} (hgd : o.guard = none) (x : Operand) (ho : o.op = .buildSlice 25 1 #[(0, x)]) (m : Ce) (hx : a.eval x = .agg (ceV m))
    (h : wpList Tryd.prog ops Q rest (a.put o.dst (.slice (some ⟨w.heap.size, 0, none⟩) 1 1)) (w.alloc (.cells (ceV m) 45))) : wpList Tryd.prog ops Q (o :: rest) a w :=
  wpList_plain hgd fun _ hK => wp_bsC x ho m hx (hK _ _ h)
theorem ce_room {k : Nat} (h : k ≤ 1000000000000) : k + 1 ≤ maxLen ∧ (k + 1) * 48 ≤ 140737488355328 := by unfold maxLen; omega
theorem wpList_apC {w : World} {ops : Array Oper} {rest : List Oper} {o : Oper} {a : Act} {Q : Exit → Act → World → Prop} (hgd : o.guard = none) (x y : Operand) (ho : o.op = .call { callee := .builtin .append, args := #[x, y], argTypes := #[25, 25] }) (base : Nat) (v : Value) (L : List Ce) (hx : a.eval x = v) (hv : w.ownsRow base 45 5 v L.length (ces L)) (g : Nat) (m : Ce) (hy : a.eval y = .slice (some ⟨g, 0, none⟩) 1 1) (hg : w.heap[g]? = some (.cells (ceV m) 45)) (hl : L.length ≤ 1000000000000) (hb : base ≤ w.heap.size)
    (h : ∀ v' w', w'.ownsRow base 45 5 v' (L.length + 1) (ces (L ++ [m])) → w.grownBy w' v.ownBlock → wpList Tryd.prog ops Q rest (a.put o.dst v') w') : wpList Tryd.prog ops Q (o :: rest) a w := by
  obtain ⟨i0, hi, hz0, hz1, hz2⟩ := mg_parts ce_infos
  refine wpList_append_own_at _ hgd _ _ 25 ho base 45 i0 _ 5 48 Tryd.underlying25 hi hz0 hz1 hz2 rfl (by decide) _ _ _ hx hv ⟨g, 0, none⟩ 1 1 (ces [m]) hy (by rw [ces_one]; rfl) ?_ (ces_oneCell _) (ce_room hl).1 (ce_room hl).2 hb ?_
  · rw [ces_one]
    intro j u hj
    rw [Addr.add_mid, Nat.zero_add, cell_row hg]
    simpa using hj
  · intro v' w' h1 h2 _ _
    rw [← ces_append] at h1
    exact h v' w' h1 h2
end Go.Proofs.YteiiolilpemimaaDoor.Cn
namespace Go.Proofs.YteiiolilpemimaaDoor.Cn
open Go.RowKit
theorem er_skip {α : Type} (l : List α) (a : Nat) (h : a < l.length) : (l.take (a + 1)).eraseIdx a = (l.take a).eraseIdx a := by
  have e : (l.take a).length = a := by rw [List.length_take]; omega
  rw [List.take_succ_eq_append_getElem h, List.eraseIdx_append_of_length_le (by omega), List.eraseIdx_of_length_le (l := l.take a) (by omega), e, Nat.sub_self]
  simp
theorem er_next {α : Type} (l : List α) (a i : Nat) (h : i < l.length) (hn : i ≠ a) : (l.take (i + 1)).eraseIdx a = (l.take i).eraseIdx a ++ [l[i]] := by
  rw [List.take_succ_eq_append_getElem h]
  by_cases hl : i < a
  · rw [List.eraseIdx_of_length_le (by rw [List.length_append, List.length_take]; simp; omega), List.eraseIdx_of_length_le (by rw [List.length_take]; omega)]
  · rw [List.eraseIdx_append_of_lt_length (by rw [List.length_take]; omega)]
set_option maxHeartbeats 8000000 in
set_option maxRecDepth 100000 in
set_option linter.unusedSimpArgs false in
set_option linter.unusedVariables false in
theorem without_a {w : World} {b0 : Nat} {v : Value} {l : List Mg} (h : w.ownsRow b0 41 11 v l.length (mgs l)) (hl : l.length ≤ 1000000) (a : Nat) :
    Calls Tryd.prog 13 #[v, .int .i64 (a : Int)] w fun e w' => ∃ u, e = .returned u ∧ w'.ownsRow w.heap.size 41 11 u (l.eraseIdx a).length (mgs (l.eraseIdx a)) ∧ Kp w w' non := by
  obtain ⟨va, vc, rfl⟩ := own_sl h
  have H1 := hide h
  obtain ⟨n, hn⟩ : ∃ n, n = l.length := ⟨_, rfl⟩
  have HN := hide hn
  rw [← hn] at hl ⊢
  clear hn h
  go_enter Tryd.func13, Tryd.ntmps13
  go_wp2_with fail
  go_loopw [5, 6] (fun v5 vi wr => ∃ i : Nat, i ≤ n ∧ vi = .int .i64 (i : Int) ∧ Hid (wr.ownsRow w.heap.size 41 11 v5 ((l.take i).eraseIdx a).length (mgs ((l.take i).eraseIdx a))) ∧ Hid (Kp w wr non)) (fun _ vi _ => n - (intOf vi).toNat)
  case atStart => exact ⟨0, Nat.zero_le _, rfl, World.ownsRow_nil _ _ _ _, Kp.refl _ _⟩
  case round =>
    obtain ⟨i, hi, rfl, HO, HK⟩ := hrel
    by_cases hin : i < n
    case neg =>
      obtain rfl : i = n := by omega
      go_wp2_with fail
      go_ret
      exact ⟨_, rfl, by have := HO.out; rw [HN.out, List.take_length] at this; exact this, HK.out⟩
    case pos =>
      have hii : (i : Int) < (n : Int) := by omega
      have hiL : i < l.length := by rw [← HN.out]; exact hin
      by_cases hia : i = a
      case pos =>
        have ES : Hid ((l.take (i + 1)).eraseIdx a = (l.take i).eraseIdx a) := by rw [hia]; exact er_skip l a (by omega)
        have qz : ((i : Int) != (a : Int)) = false := by simp [hia]
        clear hiL
        go_wp2_with fail
        go_roundw
        case rel => exact ⟨i + 1, by omega, by go_num, by rw [ES.out]; exact HO.out, HK.out⟩
        case measure => simp [intOf]; omega
      case neg =>
        have qz : ((i : Int) != (a : Int)) = true := by simp; omega
        have ES := hide (er_next l a i hiL hia)
        obtain ⟨mm, hmm⟩ : ∃ mm, mm = l[i] := ⟨_, rfl⟩
        obtain ⟨ln, hln⟩ : ∃ ln, ln = (l.take i).eraseIdx a := ⟨_, rfl⟩
        have BL : ln.length ≤ 1000000 := by
          rw [hln]
          have := List.length_eraseIdx_le (l.take i) a
          rw [List.length_take] at this
          omega
        rw [← hmm, ← hln] at ES
        rw [← hln] at HO
        have ow := own_kp H1.out HK.out (fun _ _ f => f)
        have e0 : (mgs l)[i * 11 + 0]? = some (.int .i64 mm.kind) := by rw [mgs_at l i hiL 0 (by omega), hmm]; rfl
        obtain ⟨g, c9, e9, -, -⟩ := own_at ow e0
        injection e9 with e9 _ _
        subst e9
        have RG : Hid (wr.rangeAt g (i * 11) (mgV mm).toList) := fun j u hj => by
          have hj11 : j < 11 := by have := (List.getElem?_eq_some_iff.1 hj).1; simpa [mgV] using this
          have e1 : (mgs l)[i * 11 + j]? = some u := by rw [mgs_at l i hiL j hj11, ← hmm]; simpa using hj
          obtain ⟨g', c', e', q', -⟩ := own_at ow e1
          injection e' with e' _ _
          injection e' with e'
          injection e' with e' _ _
          rw [e']
          exact q'
        clear e0 ow hmm hln hiL
        go_wp2_with (first
          | refine wpList_load_mid rfl 41 (.tmp 19) rfl g (i * 11) rfl (mgV mm).toList _ RG.out Tryd.underlying41 rfl mg_info ?_
          | refine wpList_bsM rfl (.tmp 20) rfl mm rfl ?_
          | (at_builtin
             refine wpList_apM rfl (.tmp 16) (.tmp 21) rfl w.heap.size _ ln rfl (own_kp HO.out ((Kp.refl wr non).alloc _) (fun _ _ f => f)) wr.heap.size mm rfl (heap_last _ _) (by omega) (by rw [World.size_alloc]; have := HK.out.size; omega) ?_
             intro v' w3 o2 g2))
        have own9 := own_kp HO.out ((Kp.refl wr non).alloc (.cells (mgV mm) 41)) (fun _ _ f => f)
        have K11 : Hid (Kp w w3 non) := (HK.out.alloc _).trans (Kp.of_grown g2) (fun k hk => Or.inr (own_ge own9 hk.symm))
        have O11 := hide o2
        clear o2 g2 own9
        go_roundw
        case rel => exact ⟨i + 1, by omega, by go_num, by rw [ES.out, List.length_append]; exact O11.out, K11.out⟩
        case measure => simp [intOf]; omega
end Go.Proofs.YteiiolilpemimaaDoor.Cn
namespace Go.Proofs.YteiiolilpemimaaDoor.Cn
open Go.RowKit
/-- what the node q would tell of a slot -/
def cel (ys : List Ce) (q : Nat) (s : Sl) : Ce := tellC ys (q : Int) (s.1 : Int)
/-- how many of its slots it has told -/
def dnN (k : Ho) : Nat := if k.stt = 0 then k.sl.length else k.pl
/-- how many answers it has given -/
def cnN (k : Ho) : Nat := if k.stt = 0 then k.sl.length else if k.stt = 2 then k.pl + 1 else k.pl
def cnL (L : List Ho) : Nat := (L.map cnN).sum
/-- no slot is held twice -/
structure Uq (hs : List Ho) (n : Nat) : Prop where
  one : ∀ (q q' i i' : Nat) (k k' : Ho) (s : Sl), hs[q]? = some k → hs[q']? = some k' → k.sl[i]? = some s → k'.sl[i']? = some s → q = q' ∧ i = i'
  up : ∀ (q : Nat) (k : Ho), hs[q]? = some k → k.sl.Pairwise (fun a b => a.1 < b.1)
  rep : ∀ (q : Nat) (k : Ho), hs[q]? = some k → ∀ s ∈ k.sl, s.2 < n ∧ s.1 < 64
structure Tn (ys : List Ce) (hs : List Ho) (T : Tl) : Prop where
  fit : ∀ (q : Nat) (k : Ho), hs[q]? = some k → ∀ (i : Nat) (s : Sl), i < dnN k → k.sl[i]? = some s → fitB (cel ys q s) = true
  bad : ∀ (q : Nat) (k : Ho), hs[q]? = some k → k.stt = 2 → ∃ s, k.sl[k.pl]? = some s ∧ fitB (cel ys q s) = false
  tl : ∀ (s : Sl) (c : Ct2), tlk T s = some c ↔ ∃ (q : Nat) (k : Ho) (i : Nat), hs[q]? = some k ∧ i < dnN k ∧ k.sl[i]? = some s ∧ c = ((cel ys q s).dg, (cel ys q s).en)
  nd : (T.map (·.1)).Nodup
/-- the questions that wait for an answer -/
structure Op (v : Au) (O : List Mg) : Prop where
  a : ∀ m ∈ O, ∃ (q : Nat) (k : Ho) (s : Sl), v.hs[q]? = some k ∧ k.stt = 1 ∧ k.sl[k.pl]? = some s ∧ m = qM v q s
  b : ∀ (q : Nat) (k : Ho), v.hs[q]? = some k → k.stt = 1 → ∃ m ∈ O, m.td = (q : Int)
  c : (O.map (·.td)).Nodup
structure Endv (n : Nat) (num ver : Int) (T : Tl) (v : Au) : Prop where
  en : Endd n num T v
  jv : v.jv = ver
theorem left_endv {n : Nat} {v v' : Au} (h : Left n v v') : (busyL v'.hs = true ∧ v' = v) ∨ Endv n v.num v.ver v.told v' := by
  rcases h with ⟨a, rfl⟩ | ⟨a, DL, dv, mv, hd, rfl⟩
  · exact Or.inl ⟨a, rfl⟩
  · exact Or.inr ⟨⟨a, rfl, rfl, rfl, DL, hd, rfl, rfl⟩, rfl⟩
theorem left_ver {n : Nat} {v v' : Au} (h : Left n v v') : v'.ver = v.ver := by
  rcases h with ⟨_, rfl⟩ | ⟨_, DL, dv, mv, _, rfl⟩ <;> rfl
structure Sa (ys : List Ce) (ver : Int) (n : Nat) (v : Au) (O : List Mg) (c : Nat) : Prop where
  uq : Uq v.hs n
  nm : v.num = 1
  ve : v.ver = ver
  op : Op v O
  ct : cnL v.hs = c
  st : ∀ k ∈ v.hs, k.stt = 0 ∨ k.stt = 1 ∨ k.stt = 2
  go : busyL v.hs = true → Tn ys v.hs v.told
  en : busyL v.hs = false → ∃ T, Tn ys v.hs T ∧ Endv n 1 ver T v
theorem tlk_putt (T : Tl) (s : Sl) (c : Ct2) (s' : Sl) : tlk (putt T s c) s' = if s' = s then some c else tlk T s' := by
  unfold tlk putt dele
  by_cases e : s' = s
  · subst e
    rw [if_pos rfl, List.find?_append]
    have : (T.filter (fun p => p.1 ≠ s')).find? (fun p => decide (p.1 = s')) = none := by
      rw [List.find?_eq_none]
      intro x hx
      have := (List.mem_filter.1 hx).2
      simp at this
      simp [this]
    rw [this]
    simp
  · rw [if_neg e, List.find?_append]
    have e2 : ([(s, c)] : Tl).find? (fun p => decide (p.1 = s')) = none := by
      simp
      exact fun q => e q.symm
    rw [e2, Option.or_none]
    congr 1
    induction T with
    | nil => rfl
    | cons a r ih =>
      by_cases h1 : a.1 = s
      · rw [List.filter_cons_of_neg (by simp [h1]), ih, List.find?_cons]
        have : decide (a.1 = s') = false := by simp [h1]; exact fun q => e q.symm
        rw [this]
      · rw [List.filter_cons_of_pos (by simp [h1]), List.find?_cons, List.find?_cons, ih]
theorem putt_nd {T : Tl} (h : (T.map (·.1)).Nodup) (s : Sl) (c : Ct2) : ((putt T s c).map (·.1)).Nodup := by
  unfold putt dele
  rw [List.map_append, List.nodup_append]
  refine ⟨h.sublist (List.filter_sublist.map _), by simp, fun a ha b hb => ?_⟩
  obtain ⟨y, hy, rfl⟩ := List.mem_map.1 ha
  have := (List.mem_filter.1 hy).2
  simp at hb this
  rw [hb]
  exact this
theorem set_get {α : Type} {l : List α} {q j : Nat} {a x : α} (h : (l.set q a)[j]? = some x) : (j = q ∧ x = a) ∨ (j ≠ q ∧ l[j]? = some x) := by
  by_cases e : j = q
  · subst e
    left
    have hl : j < l.length := by
      have := (List.getElem?_eq_some_iff.1 h).1
      rwa [List.length_set] at this
    rw [List.getElem?_set_self hl] at h
    exact ⟨rfl, (Option.some.inj h).symm⟩
  · right
    rw [List.getElem?_set_ne (fun q' => e q'.symm)] at h
    exact ⟨e, h⟩
theorem Uq.set {hs : List Ho} {n q : Nat} {k k' : Ho} (h : Uq hs n) (hk : hs[q]? = some k) (e : k'.sl = k.sl) : Uq (hs.set q k') n := by
  have g : ∀ (j : Nat) (x : Ho), (hs.set q k')[j]? = some x → ∃ y, hs[j]? = some y ∧ y.sl = x.sl := fun j x hx => by
    rcases set_get hx with ⟨rfl, rfl⟩ | ⟨_, hx⟩
    · exact ⟨k, hk, e.symm⟩
    · exact ⟨x, hx, rfl⟩
  refine ⟨fun a b i i' x y s h1 h2 h3 h4 => ?_, fun a x h1 => ?_, fun a x h1 => ?_⟩
  · obtain ⟨x', g1, e1⟩ := g _ _ h1
    obtain ⟨y', g2, e2⟩ := g _ _ h2
    exact h.one a b i i' x' y' s g1 g2 (by rw [e1]; exact h3) (by rw [e2]; exact h4)
  · obtain ⟨x', g1, e1⟩ := g _ _ h1
    rw [← e1]
    exact h.up a x' g1
  · obtain ⟨x', g1, e1⟩ := g _ _ h1
    rw [← e1]
    exact h.rep a x' g1
theorem cnL_set : ∀ (hs : List Ho) (q : Nat) (k k' : Ho) (_h : hs[q]? = some k) (_e : cnN k' = cnN k + 1), cnL (hs.set q k') = cnL hs + 1
  | [], q, k, k', h, _ => by simp at h
  | a :: r, 0, k, k', h, e => by
    simp at h
    subst h
    unfold cnL
    simp only [List.set_cons_zero, List.map_cons, List.sum_cons]
    omega
  | a :: r, q + 1, k, k', h, e => by
    have := cnL_set r q k k' (by simpa using h) e
    unfold cnL at *
    simp only [List.set_cons_succ, List.map_cons, List.sum_cons]
    omega
theorem cnL_le : ∀ (hs : List Ho), (∀ k ∈ hs, cnN k ≤ k.sl.length) → cnL hs ≤ (hs.map fun k => k.sl.length).sum
  | [], _ => by simp [cnL]
  | a :: r, h => by
    have h1 := cnL_le r (fun k hk => h k (List.mem_cons_of_mem _ hk))
    have h2 := h a (by simp)
    unfold cnL at *
    simp only [List.map_cons, List.sum_cons]
    omega
theorem cnL_lt : ∀ (hs : List Ho) (q : Nat) (k : Ho), (∀ k ∈ hs, cnN k ≤ k.sl.length) → hs[q]? = some k → cnN k < k.sl.length → cnL hs < (hs.map fun k => k.sl.length).sum
  | [], q, k, _, h, _ => by simp at h
  | a :: r, 0, k, h, hk, hl => by
    simp at hk
    subst hk
    have h1 := cnL_le r (fun k hk => h k (List.mem_cons_of_mem _ hk))
    unfold cnL at *
    simp only [List.map_cons, List.sum_cons]
    omega
  | a :: r, q + 1, k, h, hk, hl => by
    have h1 := cnL_lt r q k (fun k hk => h k (List.mem_cons_of_mem _ hk)) (by simpa using hk) hl
    have h2 := h a (by simp)
    unfold cnL at *
    simp only [List.map_cons, List.sum_cons]
    omega
/-- the answer to a question -/
def ansM (ys : List Ce) (m : Mg) : Mg := ⟨14, m.td, m.fr, m.id, 0, m.sq, m.ver, (tellC ys m.td m.sq).en, (tellC ys m.td m.sq).er, ⟨#[]⟩, (tellC ys m.td m.sq).dg⟩
theorem ok_fit (ys : List Ce) (m : Mg) : okM (ansM ys m) ↔ fitB (tellC ys m.td m.sq) = true := by
  unfold okM ansM fitB
  simp
theorem ans_here {v : Au} {ys : List Ce} {q : Nat} {k : Ho} {s : Sl} (hk : v.hs[q]? = some k) (h1 : k.stt = 1) (hs : k.sl[k.pl]? = some s) : ansB v (ansM ys (qM v q s)) = true := by
  unfold ansB ansH ansM qM
  simp only [show ¬ ((q : Int) < 0) by omega, if_false, show ((q : Int)).toNat = q by omega, hk, h1, hs]
  simp
theorem ans_not {v : Au} {m : Mg} {q : Nat} {k : Ho} (hf : m.fr = (q : Int)) (hk : v.hs[q]? = some k) (h : k.stt ≠ 1 ∨ ∃ s, k.sl[k.pl]? = some s ∧ m.sq ≠ (s.1 : Int)) : ansB v m = false := by
  unfold ansB ansH
  simp only [hf, show ¬ ((q : Int) < 0) by omega, if_false, show ((q : Int)).toNat = q by omega, hk]
  rcases h with h | ⟨s, h1, h2⟩
  · have : (k.stt == 1) = false := by simpa using h
    simp [this]
  · simp only [h1]
    have : decide (m.sq = (s.1 : Int)) = false := by simpa using h2
    simp [this]
/-- the questions without one of them, and what is asked next -/
theorem nodup_er {α : Type} {l : List α} (h : l.Nodup) (i : Nat) : (l.eraseIdx i).Nodup := h.sublist (List.eraseIdx_sublist _ _)
theorem er_ne : ∀ (O : List Mg), (O.map (·.td)).Nodup → ∀ (i : Nat) (m x : Mg), O[i]? = some m → x ∈ O.eraseIdx i → x.td ≠ m.td
  | [], _, i, m, x, h, _ => by simp at h
  | a :: r, hn, 0, m, x, h, hx => by
    simp at h
    subst h
    simp only [List.map_cons, List.nodup_cons] at hn
    intro e
    exact hn.1 (List.mem_map.2 ⟨x, by simpa using hx, e⟩)
  | a :: r, hn, i + 1, m, x, h, hx => by
    simp only [List.map_cons, List.nodup_cons] at hn
    simp only [List.getElem?_cons_succ] at h
    simp only [List.eraseIdx_cons_succ, List.mem_cons] at hx
    rcases hx with rfl | hx
    · intro e
      exact hn.1 (List.mem_map.2 ⟨m, List.mem_of_getElem? h, e.symm⟩)
    · exact er_ne r hn.2 i m x h hx
theorem er_mem {O : List Mg} {i : Nat} {m x : Mg} (hi : O[i]? = some m) (hx : x ∈ O) (hne : x.td ≠ m.td) : x ∈ O.eraseIdx i := by
  obtain ⟨j, hj⟩ := List.mem_iff_getElem?.1 hx
  have hij : j ≠ i := fun e => by
    subst e
    rw [hi] at hj
    exact hne (by rw [Option.some.inj hj])
  rw [List.mem_iff_getElem?]
  by_cases h : j < i
  · exact ⟨j, by rw [List.getElem?_eraseIdx_of_lt h]; exact hj⟩
  · exact ⟨j - 1, by rw [List.getElem?_eraseIdx_of_ge (by omega), show j - 1 + 1 = j by omega]; exact hj⟩
/-- the node q has answered: its state is k', and its next question, if there is one, is behind the others -/
theorem Op.next {v v' : Au} {O L : List Mg} {i q : Nat} {k k' : Ho} {s : Sl} (h : Op v O) (hk : v.hs[q]? = some k) (hi : O[i]? = some (qM v q s)) (e1 : v'.hs = v.hs.set q k') (e2 : v'.num = v.num) (e3 : v'.ver = v.ver) (hL : (k'.stt ≠ 1 ∧ L = []) ∨ (∃ s', k'.stt = 1 ∧ k'.sl[k'.pl]? = some s' ∧ L = [qM v q s'])) : Op v' (O.eraseIdx i ++ L) := by
  have hq := (List.getElem?_eq_some_iff.1 hk).1
  have eq : ∀ j s, qM v' j s = qM v j s := fun j s => by unfold qM; rw [e2, e3]
  have hself : v'.hs[q]? = some k' := by rw [e1, List.getElem?_set_self hq]
  refine ⟨fun m hm => ?_, fun j y hy h1 => ?_, ?_⟩
  · rcases List.mem_append.1 hm with hm | hm
    · have hne := er_ne O h.c i _ m hi hm
      obtain ⟨j, y, s2, a1, a2, a3, rfl⟩ := h.a m (List.mem_of_mem_eraseIdx hm)
      have hjq : j ≠ q := fun e => hne (by show (j : Int) = (q : Int); omega)
      exact ⟨j, y, s2, by rw [e1, List.getElem?_set_ne (fun e => hjq e.symm)]; exact a1, a2, a3, (eq _ _).symm⟩
    · rcases hL with ⟨_, rfl⟩ | ⟨s', a1, a2, rfl⟩
      · simp at hm
      · simp at hm
        subst hm
        exact ⟨q, k', s', hself, a1, a2, (eq _ _).symm⟩
  · by_cases hj : j = q
    · subst hj
      rw [hself] at hy
      obtain rfl := Option.some.inj hy
      rcases hL with ⟨a1, _⟩ | ⟨s', _, _, rfl⟩
      · exact absurd h1 a1
      · exact ⟨_, List.mem_append.2 (Or.inr (by simp; rfl)), rfl⟩
    · rw [e1, List.getElem?_set_ne (fun e => hj e.symm)] at hy
      obtain ⟨m, hm, ht⟩ := h.b j y hy h1
      exact ⟨m, List.mem_append.2 (Or.inl (er_mem hi hm (by rw [ht]; show (j : Int) ≠ (q : Int); omega))), ht⟩
  · rw [List.map_append]
    have hn : ((O.eraseIdx i).map (·.td)).Nodup := h.c.sublist ((List.eraseIdx_sublist O i).map _)
    rcases hL with ⟨_, rfl⟩ | ⟨s', _, _, rfl⟩
    · simpa using hn
    · rw [List.nodup_append]
      refine ⟨hn, by simp, fun a ha b hb => ?_⟩
      obtain ⟨x, hx, rfl⟩ := List.mem_map.1 ha
      simp at hb
      subst hb
      exact er_ne O h.c i (qM v q s) x hi hx
theorem Tn.say {ys : List Ce} {hs : List Ho} {n q : Nat} {T : Tl} {k k' : Ho} {s : Sl} (u : Uq hs n) (h : Tn ys hs T) (hk : hs[q]? = some k) (h1 : k.stt = 1) (hs' : k.sl[k.pl]? = some s) (e : k'.sl = k.sl) (hd : dnN k' = k.pl + 1) (h2 : k'.stt ≠ 2) (hf : fitB (cel ys q s) = true) : Tn ys (hs.set q k') (putt T s ((cel ys q s).dg, (cel ys q s).en)) := by
  have hq := (List.getElem?_eq_some_iff.1 hk).1
  have hd0 : dnN k = k.pl := by unfold dnN; rw [if_neg (by omega)]
  have hself : (hs.set q k')[q]? = some k' := List.getElem?_set_self hq
  refine ⟨fun j x hx i s2 hi h3 => ?_, fun j x hx h3 => ?_, fun s2 c => ?_, putt_nd h.nd _ _⟩
  · rcases set_get hx with ⟨rfl, rfl⟩ | ⟨_, hx⟩
    · rw [e] at h3
      by_cases hi2 : i < k.pl
      · exact h.fit _ k hk i s2 (by omega) h3
      · have : i = k.pl := by omega
        subst this
        rw [hs'] at h3
        obtain rfl := Option.some.inj h3
        exact hf
    · exact h.fit j x hx i s2 hi h3
  · rcases set_get hx with ⟨rfl, rfl⟩ | ⟨_, hx⟩
    · exact absurd h3 h2
    · exact h.bad j x hx h3
  · rw [tlk_putt]
    by_cases es : s2 = s
    · subst es
      rw [if_pos rfl]
      constructor
      · intro hc
        exact ⟨q, k', k.pl, hself, by omega, by rw [e]; exact hs', (Option.some.inj hc).symm⟩
      · rintro ⟨j, x, i, a1, a2, a3, rfl⟩
        have hj : j = q := by
          rcases set_get a1 with ⟨rfl, _⟩ | ⟨_, a1⟩
          · rfl
          · exact (u.one j q i k.pl x k s2 a1 hk a3 hs').1
        rw [hj]
    · rw [if_neg es, h.tl]
      constructor
      · rintro ⟨j, x, i, a1, a2, a3, rfl⟩
        by_cases hj : j = q
        · subst hj
          rw [hk] at a1
          obtain rfl := Option.some.inj a1
          exact ⟨j, k', i, hself, by omega, by rw [e]; exact a3, rfl⟩
        · exact ⟨j, x, i, by rw [List.getElem?_set_ne (fun q' => hj q'.symm)]; exact a1, a2, a3, rfl⟩
      · rintro ⟨j, x, i, a1, a2, a3, rfl⟩
        rcases set_get a1 with ⟨rfl, rfl⟩ | ⟨_, a1⟩
        · rw [e] at a3
          have hne : i ≠ k.pl := fun q' => by
            subst q'
            rw [hs'] at a3
            exact es (Option.some.inj a3).symm
          exact ⟨_, k, i, hk, by omega, a3, rfl⟩
        · exact ⟨j, x, i, a1, a2, a3, rfl⟩
theorem Tn.miss {ys : List Ce} {hs : List Ho} {q : Nat} {T : Tl} {k k' : Ho} {s : Sl} (h : Tn ys hs T) (hk : hs[q]? = some k) (h1 : k.stt = 1) (hs' : k.sl[k.pl]? = some s) (e : k'.sl = k.sl) (ep : k'.pl = k.pl) (h2 : k'.stt = 2) (hf : fitB (cel ys q s) = false) : Tn ys (hs.set q k') T := by
  have hq := (List.getElem?_eq_some_iff.1 hk).1
  have hd0 : dnN k = k.pl := by unfold dnN; rw [if_neg (by omega)]
  have hd1 : dnN k' = k.pl := by unfold dnN; rw [if_neg (by omega)]; exact ep
  have hself : (hs.set q k')[q]? = some k' := List.getElem?_set_self hq
  refine ⟨fun j x hx i s2 hi h3 => ?_, fun j x hx h3 => ?_, fun s2 c => ?_, h.nd⟩
  · rcases set_get hx with ⟨rfl, rfl⟩ | ⟨_, hx⟩
    · rw [e] at h3
      exact h.fit _ k hk i s2 (by omega) h3
    · exact h.fit j x hx i s2 hi h3
  · rcases set_get hx with ⟨rfl, rfl⟩ | ⟨_, hx⟩
    · exact ⟨s, by rw [e, ep]; exact hs', hf⟩
    · exact h.bad j x hx h3
  · rw [h.tl]
    constructor
    · rintro ⟨j, x, i, a1, a2, a3, rfl⟩
      by_cases hj : j = q
      · subst hj
        rw [hk] at a1
        obtain rfl := Option.some.inj a1
        exact ⟨j, k', i, hself, by omega, by rw [e]; exact a3, rfl⟩
      · exact ⟨j, x, i, by rw [List.getElem?_set_ne (fun q' => hj q'.symm)]; exact a1, a2, a3, rfl⟩
    · rintro ⟨j, x, i, a1, a2, a3, rfl⟩
      rcases set_get a1 with ⟨rfl, rfl⟩ | ⟨_, a1⟩
      · rw [e] at a3
        exact ⟨_, k, i, hk, by omega, a3, rfl⟩
      · exact ⟨j, x, i, a1, a2, a3, rfl⟩
theorem up_lt {l : List Sl} (h : l.Pairwise (fun a b => a.1 < b.1)) {i : Nat} {a b : Sl} (ha : l[i]? = some a) (hb : l[i + 1]? = some b) : a.1 < b.1 := by
  obtain ⟨h1, rfl⟩ := List.getElem?_eq_some_iff.1 ha
  obtain ⟨h2, rfl⟩ := List.getElem?_eq_some_iff.1 hb
  exact List.pairwise_iff_getElem.1 h i (i + 1) h1 h2 (by omega)
/-- one answer -/
theorem Sa.take {ys : List Ce} {ver : Int} {n : Nat} {v v' : Au} {O L : List Mg} {c i : Nat} {m : Mg} (h : Sa ys ver n v O c) (hi : O[i]? = some m) (ht : TakeR n v (ansM ys m) L v') : Sa ys ver n v' (O.eraseIdx i ++ L) (c + 1) ∧ L.length ≤ 1 ∧ ansB v' (ansM ys m) = false := by
  obtain ⟨q, k, s, hk, h1, hs, rfl⟩ := h.op.a m (List.mem_of_getElem? hi)
  have hq := (List.getElem?_eq_some_iff.1 hk).1
  have hb := busy_at hk h1
  have tn := h.go hb
  have hfr : (ansM ys (qM v q s)).fr = (q : Int) := rfl
  have hce : tellC ys (qM v q s).td (qM v q s).sq = cel ys q s := rfl
  have km := List.mem_of_getElem? hk
  rcases ht with ⟨e, _⟩ | ⟨_, q', k2, s2, a1, a2, a3, a4, a5, hr⟩
  · rw [ans_here hk h1 hs] at e
    exact absurd e (by decide)
  have hqq : q' = q := by rw [hfr] at a1; omega
  subst hqq
  rw [hk] at a2
  obtain rfl := Option.some.inj a2
  rw [hs] at a4
  obtain rfl := Option.some.inj a4
  have c1 : cnN k = k.pl := by unfold cnN; rw [if_neg (by omega), if_neg (by omega)]
  have stS : ∀ k', (k'.stt = 0 ∨ k'.stt = 1 ∨ k'.stt = 2) → ∀ y ∈ v.hs.set q' k', y.stt = 0 ∨ y.stt = 1 ∨ y.stt = 2 := fun k' hk' y hy => by
    rcases List.mem_or_eq_of_mem_set hy with hy | rfl
    · exact h.st y hy
    · exact hk'
  rcases hr with ⟨b1, rfl, hl⟩ | ⟨b1, ⟨s', hs', rfl, rfl⟩ | ⟨hn, rfl, hl⟩⟩
  · -- missing
    have hf : fitB (cel ys q' s) = false := by
      rw [ok_fit, hce] at b1
      simpa using b1
    have tn' : Tn ys (v.hs.set q' { k with stt := 2 }) v.told := tn.miss hk h1 hs rfl rfl rfl hf
    obtain ⟨e1, -, -, -, -, e6⟩ := left_hs hl
    have e7 := left_ver hl
    have e1' : v'.hs = v.hs.set q' { k with stt := 2 } := e1
    have hself : v'.hs[q']? = some { k with stt := 2 } := by rw [e1', List.getElem?_set_self hq]
    refine ⟨⟨by rw [e1']; exact h.uq.set hk rfl, e6.trans h.nm, e7.trans h.ve, h.op.next (k' := { k with stt := 2 }) hk hi e1' e6 e7 (Or.inl ⟨by show ¬ (2 : Int) = 1; decide, rfl⟩), ?_, ?_, fun hb' => ?_, fun hb' => ?_⟩, by simp, ans_not hfr hself (Or.inl (by show ¬ (2 : Int) = 1; decide))⟩
    · rw [e1', cnL_set v.hs q' k _ hk (by rw [c1]; unfold cnN; simp), h.ct]
    · rw [e1']
      exact stS _ (Or.inr (Or.inr rfl))
    · rcases left_endv hl with ⟨_, rfl⟩ | z
      · exact tn'
      · rw [z.en.idle] at hb'
        exact absurd hb' (by decide)
    · rcases left_endv hl with ⟨z, rfl⟩ | z
      · rw [z] at hb'
        exact absurd hb' (by decide)
      · refine ⟨_, by rw [e1']; exact tn', ?_⟩
        have y := z
        rw [show (v.put q' k 2).num = 1 from h.nm, show (v.put q' k 2).ver = ver from h.ve] at y
        exact y
  · -- the next one
    have hf : fitB (cel ys q' s) = true := by
      rw [ok_fit, hce] at b1
      exact b1
    have tn' : Tn ys (v.hs.set q' (askH k (k.pl + 1) v.now)) (putt v.told s ((cel ys q' s).dg, (cel ys q' s).en)) := tn.say h.uq hk h1 hs rfl (by unfold dnN askH; simp) (by show ¬ (1 : Int) = 2; decide) hf
    have hself : (v.hs.set q' (askH k (k.pl + 1) v.now))[q']? = some (askH k (k.pl + 1) v.now) := List.getElem?_set_self hq
    have hb2 : busyL (v.hs.set q' (askH k (k.pl + 1) v.now)) = true := busy_at (v := (v.hrd s (ansM ys (qM v q' s))).ask q' k (k.pl + 1)) hself rfl
    refine ⟨⟨h.uq.set hk rfl, h.nm, h.ve, h.op.next (k' := askH k (k.pl + 1) v.now) hk hi rfl rfl rfl (Or.inr ⟨s', rfl, hs', rfl⟩), ?_, stS _ (Or.inr (Or.inl rfl)), fun _ => tn', fun hb' => ?_⟩, by simp, ans_not hfr hself (Or.inr ⟨s', hs', ?_⟩)⟩
    · have := cnL_set v.hs q' k (askH k (k.pl + 1) v.now) hk (by rw [c1]; unfold cnN askH; simp)
      rw [← h.ct]
      exact this
    · have hb3 : busyL (v.hs.set q' (askH k (k.pl + 1) v.now)) = false := hb'
      rw [hb2] at hb3
      exact absurd hb3 (by decide)
    · have := up_lt (h.uq.up q' k hk) hs hs'
      show (s.1 : Int) ≠ (s'.1 : Int)
      omega
  · -- through
    have hf : fitB (cel ys q' s) = true := by
      rw [ok_fit, hce] at b1
      exact b1
    have hlen : k.sl.length = k.pl + 1 := by
      have := (List.getElem?_eq_some_iff.1 hs).1
      have := List.getElem?_eq_none_iff.1 hn
      omega
    have tn' : Tn ys (v.hs.set q' { k with stt := 0 }) (putt v.told s ((cel ys q' s).dg, (cel ys q' s).en)) := tn.say h.uq hk h1 hs rfl (by unfold dnN; simp [hlen]) (by show ¬ (0 : Int) = 2; decide) hf
    obtain ⟨e1, -, -, -, -, e6⟩ := left_hs hl
    have e7 := left_ver hl
    have e1' : v'.hs = v.hs.set q' { k with stt := 0 } := e1
    have hself : v'.hs[q']? = some { k with stt := 0 } := by rw [e1', List.getElem?_set_self hq]
    refine ⟨⟨by rw [e1']; exact h.uq.set hk rfl, e6.trans h.nm, e7.trans h.ve, h.op.next (k' := { k with stt := 0 }) hk hi e1' e6 e7 (Or.inl ⟨by show ¬ (0 : Int) = 1; decide, rfl⟩), ?_, ?_, fun hb' => ?_, fun hb' => ?_⟩, by simp, ans_not hfr hself (Or.inl (by show ¬ (0 : Int) = 1; decide))⟩
    · rw [e1', cnL_set v.hs q' k _ hk (by rw [c1]; unfold cnN; simp [hlen]), h.ct]
    · rw [e1']
      exact stS _ (Or.inl rfl)
    · rcases left_endv hl with ⟨_, rfl⟩ | z
      · exact tn'
      · rw [z.en.idle] at hb'
        exact absurd hb' (by decide)
    · rcases left_endv hl with ⟨z, rfl⟩ | z
      · rw [z] at hb'
        exact absurd hb' (by decide)
      · refine ⟨_, by rw [e1']; exact tn', ?_⟩
        have y := z
        rw [show ((v.hrd s (ansM ys (qM v q' s))).put q' k 0).num = 1 from h.nm, show ((v.hrd s (ansM ys (qM v q' s))).put q' k 0).ver = ver from h.ve] at y
        exact y
end Go.Proofs.YteiiolilpemimaaDoor.Cn
