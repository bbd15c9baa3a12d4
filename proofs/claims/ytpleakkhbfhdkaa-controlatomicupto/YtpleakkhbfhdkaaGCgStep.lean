import Derived.Test.YtpleakkhbfhdkaaGCgStepB
import Derived.Test.YtpleakkhbfhdkaaGCgStepL
import Derived.Test.YtpleakkhbfhdkaaGCgDelD
import Derived.Test.YtpleakkhbfhdkaaGCcRing
import Derived.Test.YtpleakkhbfhdkaaGCaBase
import Derived.Test.YtpleakkhbfhdkaaRows
import Derived.ProofKit
import Derived.OpenShut
import Derived.JoinedOf
import Derived.SizedLaws
import Derived.Lib.SmallJoins
import Derived.Deep.SlicePairs
import Derived.Deep.DeepHandedRow
namespace Go.Proofs.Ytpleakkhbfhdkaa.Cn
open Go.RowKit
theorem step_any {N : Nat} {w : World} {B n : Nat} {p : Pl} (h : PlAt N w B p) (hi : PI n p) (hjb : p.job ≤ 1000000000) (hlt : p.lt.length ≤ 1000000000) (ev : Ev) :
    Calls Try.prog 26 #[.pointer (some ⟨B, 0, none⟩), .agg (evV ev)] w fun e w' => e = .returned (.bool true) ∧ StepQ N w w' B n p := by
  obtain ⟨C, S, nv, lv, fv, bv, av, h⟩ := h
  by_cases k1 : ev.k = 1
  · exact step_begin h hi hjb hlt ev k1
  by_cases k2 : ev.k = 2
  · exact step_tick h hi hjb hlt ev k2
  by_cases k6 : ev.k = 6
  · exact step_stop h hi hjb hlt ev k6
  by_cases k7 : ev.k = 7
  · exact step_revive h hi hjb hlt ev k7
  by_cases k8 : ev.k = 8
  · exact step_sick h hi hjb hlt ev k8
  by_cases k9 : ev.k = 9
  · exact step_deaf h hi hjb hlt ev k9
  by_cases hl : p.lt.length = 0
  · exact step_empty h hi hjb hlt ev k1 k2 k6 k7 k8 k9 hl
  by_cases k3 : ev.k = 3
  · exact step_deliver h hi hjb hlt ev k1 k2 k6 k7 k8 k9 hl k3
  by_cases k4 : ev.k = 4
  · exact step_drop h hi hjb hlt ev k1 k2 k6 k7 k8 k9 hl k4
  by_cases k5 : ev.k = 5
  · exact step_copy h hi hjb hlt ev k1 k2 k6 k7 k8 k9 hl k5
  · exact step_other h hi hjb hlt ev k1 k2 k6 k7 k8 k9 hl k3 k4 k5
end Go.Proofs.Ytpleakkhbfhdkaa.Cn
namespace Go.Proofs.Ytpleakkhbfhdkaa.Cn
open Go.RowKit
set_option maxHeartbeats 8000000 in
set_option maxRecDepth 100000 in
set_option linter.unusedSimpArgs false in
set_option linter.unusedVariables false in
theorem kept_any {N : Nat} {w : World} {B n : Nat} {p : Pl} (h : PlAt N w B p) (hi : PI n p) :
    Calls Try.prog 27 #[.pointer (some ⟨B, 0, none⟩)] w fun e w' => e = .returned (.bool true) ∧ Below w.heap.size w w' := by
  obtain ⟨C, S, nv, lv, fv, bv, av, h⟩ := h
  have n1 := hi.n1
  have n16 := hi.n16
  obtain ⟨ga, ac, rfl⟩ := h.atRow hi.na n1
  obtain ⟨na, nc, hnv⟩ := own_sl h.nd
  rw [hi.nn] at hnv
  have HNV := hide hnv
  have H := hide h
  have HI := hide hi
  clear h hi hnv
  go_enter Try.func27, Try.ntmps27
  go_wp2_with fail
  go_loopw [3] (fun vi wr => ∃ (i : Nat), i ≤ n ∧ vi = .int .i64 (i : Int) ∧ Hid (Kp w wr non)) (fun vi _ => n - (intOf vi).toNat)
  case atStart => exact ⟨0, Nat.zero_le _, rfl, Kp.refl _ _⟩
  case round =>
    obtain ⟨i, hi, rfl, HK⟩ := hrel
    have P := hide (H.out.kp HK.out (fun _ f => f.elim))
    have x1 := P.out.cells.2.1
    have x9 := P.out.cells.2.2.2.2.2.2.2.2.2
    rw [HNV.out] at x1
    by_cases hin : i < n
    case neg =>
      obtain rfl : i = n := by omega
      go_wp2_with fail
      go_ret
      exact ⟨rfl, HK.out.below⟩
    case pos =>
      have hii : (i : Int) < (n : Int) := by omega
      obtain ⟨AC, AF, _, _⟩ := P.out.atCell HI.out.na i hin
      obtain ⟨gn, nc9, hv8, gnlt, _, cn, _⟩ := own_nd P.out.nd i (by rw [HI.out.nn]; exact hin)
      have e7 : na = some ⟨gn, 0, none⟩ := by have q := hv8.symm.trans HNV.out; simp only [Value.slice.injEq] at q; exact q.1.symm
      subst e7
      have AT := HI.out.at_ i hin
      have ec : (ndF p i).cur = (p.nd[i]'(by rw [HI.out.nn]; exact hin)).cur := by unfold ndF; rw [getD_at (by rw [HI.out.nn]; exact hin)]
      obtain ⟨cu, hcu⟩ : ∃ cu, cu = (p.nd[i]'(by rw [HI.out.nn]; exact hin)).cur := ⟨_, rfl⟩
      rw [← hcu] at cn ec
      obtain ⟨aa, haa⟩ : ∃ aa, aa = p.at'.getD i (-1) := ⟨_, rfl⟩
      rw [← haa] at AC
      have AE : 0 ≤ aa → cu = aa := fun z => by
        rw [← ec, haa]
        exact (AT (by show 0 ≤ p.at'.getD i (-1); rw [← haa]; exact z)).1
      clear hv8 hcu haa ec AT gnlt
      by_cases a0 : 0 ≤ aa
      · have q1 : decide (aa ≥ 0) = true := decide_eq_true a0
        have q2 : decide (0 ≤ aa) = true := decide_eq_true a0
        have q3 := AE a0
        subst q3
        clear AE a0
        go_upto_region 4 with fail
        go_quiet (fail)
        go_wp2_with fail
        exact ⟨⟨i + 1, by omega, rfl, HK.out.drewN _⟩, by simp [intOf]; omega⟩
      · have q1 : decide (aa ≥ 0) = false := decide_eq_false a0
        have q2 : decide (0 ≤ aa) = false := decide_eq_false a0
        clear AE a0
        go_upto_region 4 with fail
        go_quiet (fail)
        go_wp2_with fail
        exact ⟨⟨i + 1, by omega, rfl, HK.out.drewN _⟩, by simp [intOf]; omega⟩
set_option maxHeartbeats 8000000 in
set_option maxRecDepth 100000 in
set_option linter.unusedSimpArgs false in
set_option linter.unusedVariables false in
theorem begun_any {N : Nat} {w : World} {B n : Nat} {p : Pl} (h : PlAt N w B p) (hi : PI n p) (hjb : p.job ≤ 1000000000) (hlt : p.lt.length ≤ 1000000000) :
    Calls Try.prog 28 #[.pointer (some ⟨B, 0, none⟩)] w fun e w' => e = .returned (.bool true) ∧ Below N w w' := by
  obtain ⟨C, S, nv, lv, fv, bv, av, h⟩ := h
  have x0 := h.cells.1
  have BU := busy_any h.ct hi.ci.fine.n1
  cases hp : p.c.ph with
  | some x =>
    rw [hp] at BU
    replace BU := hide BU
    clear hp h hi
    go_enter Try.func28, Try.ntmps28
    go_wp2_with fail
    refine Calls.mono BU.out ?_
    rintro e w9 ⟨rfl, rfl⟩
    go_wp2_with fail
    go_ret
    exact ⟨rfl, Below.refl _ _⟩
  | none =>
    rw [hp] at BU
    have BE : Hid (Calls Try.prog 40 #[.pointer (some ⟨B, 0, none⟩), .agg #[.int .i64 1, .int .i64 0, .int .i64 0]] w fun e w' => e = .returned (.bool true) ∧ Below N w w') := (begin_idle h hi hp hjb hlt ⟨1, 0, 0⟩).mono fun _ _ ⟨a, _, _, _, _, _, _, _, b, _⟩ => ⟨a, b⟩
    replace BU := hide BU
    clear hp h hi
    go_enter Try.func28, Try.ntmps28
    go_wp2_with fail
    refine Calls.mono BU.out ?_
    rintro e w9 ⟨rfl, rfl⟩
    go_wp2_with fail
    refine Calls.mono BE.out ?_
    rintro e W1 ⟨rfl, bb⟩
    have HB := hide bb
    clear bb BE
    go_wp2_with fail
    go_ret
    exact ⟨rfl, HB.out⟩
end Go.Proofs.Ytpleakkhbfhdkaa.Cn
namespace Go.Proofs.Ytpleakkhbfhdkaa.Cn
open Go.RowKit
/-- what made makes -/
theorem made_fine {st : ByteArray} {x : Nat → Int} {ns : List ND} {a b c : Int} (hE : errP st x ns = 0) (x14 : x 14 = 1 + a % 1024) (x15 : x 15 = 1 + b % 64) (x16 : x 16 = 1 + c % 65536) (j : Int) (j0 : 0 ≤ j) (j1 : j ≤ 9007199254740992) : ({ ct0 (ruX x ns) with num := j } : Ct).fine := by
  obtain ⟨_, _, hnf, _⟩ := errP_all hE
  have n16 := nfP_len hnf
  have a0 := Int.emod_nonneg a (show (1024 : Int) ≠ 0 by decide)
  have a1 := Int.emod_lt_of_pos a (show (0 : Int) < 1024 by decide)
  have b0 := Int.emod_nonneg b (show (64 : Int) ≠ 0 by decide)
  have b1 := Int.emod_lt_of_pos b (show (0 : Int) < 64 by decide)
  have c0 := Int.emod_nonneg c (show (65536 : Int) ≠ 0 by decide)
  have c1 := Int.emod_lt_of_pos c (show (0 : Int) < 65536 by decide)
  refine ⟨n16.1, n16.2, ?_, ?_, ?_, ?_, ?_, ?_, j0, j1, fun p r e => by simp [ct0] at e, by simp [ct0, rp0]⟩
  · show 1 ≤ x 14; omega
  · show x 14 ≤ 1000000; omega
  · show 1 ≤ x 15; omega
  · show x 15 ≤ 1000000; omega
  · show 1 ≤ x 16; omega
  · show x 16 ≤ 1000000000; omega
end Go.Proofs.Ytpleakkhbfhdkaa.Cn
namespace Go.Proofs.Ytpleakkhbfhdkaa.Cn
open Go.RowKit
theorem nd_infos : (Try.prog.info? 108).map (fun i => (i.zero, i.size, i.bytes)) = some (some (.agg (ndV nd0)), 8, 56) := by kernel_rfl
theorem fill_nd (m : Nd) : Instr.fill (fun i => some (i * 8, 8)) ((Array.range (1 * 8)).map ((Value.agg (ndV nd0)).cells[· % (Value.agg (ndV nd0)).cells.size]!)) [(0, .agg (ndV m))] = some (ndV m) := by kernel_rfl
theorem wpList_bsN {w : World} {ops : Array Oper} {rest : List Oper} {o : Oper} {a : Act} {Q : Exit → Act → World → Prop} (hgd : o.guard = none) (x : Operand) (ho : o.op = .buildSlice 103 1 #[(0, x)]) (m : Nd) (hx : a.eval x = .agg (ndV m))
    (h : wpList Try.prog ops Q rest (a.put o.dst (.slice (some ⟨w.heap.size, 0, none⟩) 1 1)) (w.alloc (.cells (ndV m) 108))) : wpList Try.prog ops Q (o :: rest) a w := by
  refine wpList_plain hgd fun _ hK => ?_
  obtain ⟨i0, hi, hz0, hz1, hz2⟩ := mg_parts nd_infos
  refine wp_buildSlice 103 108 1 _ ho (ndV m) i0 _ Try.underlying103 hi hz0 (by rw [hz1]; decide) (by rw [hz1]; decide) ?_ (hK _ _ h)
  rw [hz1]
  simp only [List.map_toArray, List.map_cons, List.map_nil, hx]
  exact fill_nd m
theorem wpList_apN {w : World} {ops : Array Oper} {rest : List Oper} {o : Oper} {a : Act} {Q : Exit → Act → World → Prop} (hgd : o.guard = none) (x y : Operand) (ho : o.op = .call { callee := .builtin .append, args := #[x, y], argTypes := #[103, 103] }) (base : Nat) (v : Value) (L : List Nd) (hx : a.eval x = v) (hv : w.ownsRow base 108 8 v L.length (nds L)) (g : Nat) (m : Nd) (hy : a.eval y = .slice (some ⟨g, 0, none⟩) 1 1) (hg : w.heap[g]? = some (.cells (ndV m) 108)) (hl : L.length ≤ 1000000000) (hb : base ≤ w.heap.size)
    (h : ∀ v' w', w'.ownsRow base 108 8 v' (L.length + 1) (nds (L ++ [m])) → w.grownBy w' v.ownBlock → (v'.ownBlock = v.ownBlock ∨ v'.ownBlock = some w.heap.size) → wpList Try.prog ops Q rest (a.put o.dst v') w') : wpList Try.prog ops Q (o :: rest) a w := by
  obtain ⟨i0, hi, hz0, hz1, hz2⟩ := mg_parts nd_infos
  refine wpList_append_own_at _ hgd _ _ 103 ho base 108 i0 _ 8 56 Try.underlying103 hi hz0 hz1 hz2 rfl (by decide) _ _ _ hx hv ⟨g, 0, none⟩ 1 1 (nds [m]) hy (by rw [nds_one]; rfl) ?_ (nds_oneCell _) (by unfold maxLen; omega) (by omega) hb ?_
  · rw [nds_one]
    intro j u hj
    rw [Addr.add_mid, Nat.zero_add, cell_row hg]
    simpa using hj
  · intro v' w' h1 h2 _ h4
    rw [← nds_append] at h1
    exact h v' w' h1 h2 h4
theorem wpList_apA {w : World} {ops : Array Oper} {rest : List Oper} {o : Oper} {a : Act} {Q : Exit → Act → World → Prop} (hgd : o.guard = none) (x y : Operand) (ho : o.op = .call { callee := .builtin .append, args := #[x, y], argTypes := #[37, 37] }) (base : Nat) (v : Value) (L : List Int) (hx : a.eval x = v) (hv : w.ownsRow base 3 1 v L.length (ints L)) (g : Nat) (m : Int) (hy : a.eval y = .slice (some ⟨g, 0, none⟩) 1 1) (hg : w.heap[g]? = some (.cells #[.int .i64 m] 3)) (hl : L.length ≤ 1000000000000) (hb : base ≤ w.heap.size)
    (h : ∀ v' w', w'.ownsRow base 3 1 v' (L.length + 1) (ints (L ++ [m])) → w.grownBy w' v.ownBlock → (v'.ownBlock = v.ownBlock ∨ v'.ownBlock = some w.heap.size) → wpList Try.prog ops Q rest (a.put o.dst v') w') : wpList Try.prog ops Q (o :: rest) a w := by
  obtain ⟨i0, hi, hz0, hz1, hz2⟩ := mg_parts int_infos
  refine wpList_append_own_at _ hgd _ _ 37 ho base 3 i0 _ 1 8 Try.underlying37 hi hz0 hz1 hz2 rfl (by decide) _ _ _ hx hv ⟨g, 0, none⟩ 1 1 (ints [m]) hy rfl ?_ (ints_one _) (by unfold maxLen; omega) (by omega) hb ?_
  · intro j u hj
    rw [Addr.add_mid, Nat.zero_add, cell_row hg]
    simpa [ints] using hj
  · intro v' w' h1 h2 _ h4
    rw [← ints_append] at h1
    exact h v' w' h1 h2 h4
/-- a node more -/
theorem PlX.appN {N : Nat} {w w1 : World} {B C : Nat} {S : Nat → Prop} {nv nv' lv fv bv av : Value} {p : Pl} {m : Nd} (h : PlX N w B C S nv lv fv bv av p) (ho : w1.ownsRow N 108 8 nv' (p.nd.length + 1) (nds (p.nd ++ [m]))) (hg : w.grownBy w1 nv.ownBlock) (hn : nv'.ownBlock = nv.ownBlock ∨ nv'.ownBlock = some w.heap.size) :
    w1.heap[B]? = w.heap[B]? ∧ PlX N (w1.setCell ⟨B, 1, none⟩ nv') B C S nv' lv fv bv av { p with nd := p.nd ++ [m] } ∧ Kp w (w1.setCell ⟨B, 1, none⟩ nv') (fun k => k = B ∨ nv.ownBlock = some k) := by
  have kg := Kp.of_grown hg
  have lB : nv.ownBlock ≠ some B := fun e => h.ne.1 B e rfl
  have hB : w1.heap[B]? = w.heap[B]? := kg.block B (blk_lt h.ob) (fun e => lB e.symm)
  have ob1 := hB.trans h.ob
  have kp : Kp w1 (w1.setCell ⟨B, 1, none⟩ nv') (fun k => k = B) := (Kp.refl w1 (fun k => k = B)).set (Or.inl rfl) _ _
  have ap : ∀ {e sz n : Nat} {u : Value} {xs : List Value}, w.ownsRow N e sz u n xs → e ≠ 108 → e ≠ 106 → (w1.setCell ⟨B, 1, none⟩ nv').ownsRow N e sz u n xs := fun hr he hp => by
    refine own_kp (own_kp hr kg (fun k e f => own_apart hr h.nd he k e f.symm)) kp (fun k e f => row_type hr h.ob hp k e f)
  have ls : ∀ k, nv'.ownBlock = some k → ¬ S k := fun k e s => by
    rcases hn with q | q
    · exact h.sn k (q.symm.trans e) s
    · rw [q] at e
      have := h.ct.lt k s
      simp at e
      omega
  refine ⟨hB, ⟨set_row ob1 1 nv', ?_, ?_, ap h.lt (by decide) (by decide), ap h.fe (by decide) (by decide), ap h.ba (by decide) (by decide), ap h.at' (by decide) (by decide), h.sB, ls, h.sl, h.sf, h.sb, h.sa, h.fb, h.gB, h.gS, ?_⟩, ?_⟩
  · exact (h.ct.kp kg (fun k e => h.sn k e.symm)).kp kp (fun k e s => h.sB (e ▸ s))
  · show World.ownsRow _ N _ 8 nv' (p.nd ++ [m]).length _
    rw [List.length_append]
    exact own_kp ho kp (fun k e f => row_type ho ob1 (by decide) k e f)
  · exact Nat.le_trans h.gN (Nat.le_trans kg.size kp.size)
  · exact (kg.mono (fun k e => Or.inr e.symm)).trans kp (fun k e => Or.inl (Or.inl e))
/-- a place more -/
theorem PlX.appA {N : Nat} {w w1 : World} {B C : Nat} {S : Nat → Prop} {nv lv fv bv av av' : Value} {p : Pl} {m : Int} (h : PlX N w B C S nv lv fv bv av p) (ho : w1.ownsRow N 3 1 av' (p.at'.length + 1) (ints (p.at' ++ [m]))) (hg : w.grownBy w1 av.ownBlock) (hn : av'.ownBlock = av.ownBlock ∨ av'.ownBlock = some w.heap.size) :
    w1.heap[B]? = w.heap[B]? ∧ PlX N (w1.setCell ⟨B, 9, none⟩ av') B C S nv lv fv bv av' { p with at' := p.at' ++ [m] } ∧ Kp w (w1.setCell ⟨B, 9, none⟩ av') (fun k => k = B ∨ av.ownBlock = some k) := by
  have kg := Kp.of_grown hg
  have lB : av.ownBlock ≠ some B := fun e => h.ne.2.2.2.2 B e rfl
  have hB : w1.heap[B]? = w.heap[B]? := kg.block B (blk_lt h.ob) (fun e => lB e.symm)
  have ob1 := hB.trans h.ob
  have kp : Kp w1 (w1.setCell ⟨B, 9, none⟩ av') (fun k => k = B) := (Kp.refl w1 (fun k => k = B)).set (Or.inl rfl) _ _
  have ap : ∀ {e sz n : Nat} {u : Value} {xs : List Value}, w.ownsRow N e sz u n xs → e ≠ 3 → e ≠ 106 → (w1.setCell ⟨B, 9, none⟩ av').ownsRow N e sz u n xs := fun hr he hp => by
    refine own_kp (own_kp hr kg (fun k e f => own_apart hr h.at' he k e f.symm)) kp (fun k e f => row_type hr h.ob hp k e f)
  have ls : ∀ k, av'.ownBlock = some k → ¬ S k := fun k e s => by
    rcases hn with q | q
    · exact h.sa k (q.symm.trans e) s
    · rw [q] at e
      have := h.ct.lt k s
      simp at e
      omega
  refine ⟨hB, ⟨set_row ob1 9 av', ?_, ap h.nd (by decide) (by decide), ap h.lt (by decide) (by decide), ap h.fe (by decide) (by decide), ap h.ba (by decide) (by decide), ?_, h.sB, h.sn, h.sl, h.sf, h.sb, ls, h.fb, h.gB, h.gS, ?_⟩, ?_⟩
  · exact (h.ct.kp kg (fun k e => h.sa k e.symm)).kp kp (fun k e s => h.sB (e ▸ s))
  · show World.ownsRow _ N _ 1 av' (p.at' ++ [m]).length _
    rw [List.length_append]
    exact own_kp ho kp (fun k e f => row_type ho ob1 (by decide) k e f)
  · exact Nat.le_trans h.gN (Nat.le_trans kg.size kp.size)
  · exact (kg.mono (fun k e => Or.inr e.symm)).trans kp (fun k e => Or.inl (Or.inl e))
/-- the play as it starts, with i nodes -/
def pl0 (u : Ru) (i : Nat) : Pl := ⟨ct0 u, List.replicate i nd0, [], 0, 0, 0, [], [], false, List.replicate i (-1)⟩
theorem rep_succ {α : Type} (i : Nat) (x : α) : List.replicate i x ++ [x] = List.replicate (i + 1) x := by rw [List.replicate_succ']
theorem pl0_inv {u : Ru} (hf : (ct0 u).fine) : PI u.n (pl0 u u.n) := by
  have e : ∀ i, ndF (pl0 u u.n) i = nd0 := fun i => by
    unfold ndF pl0
    simp only [List.getD_eq_getElem?_getD, List.getElem?_replicate]
    split <;> rfl
  have a : ∀ i, atF (pl0 u u.n).at' i = -1 := fun i => by
    unfold atF pl0
    simp only [List.getD_eq_getElem?_getD, List.getElem?_replicate]
    split <;> rfl
  refine ⟨⟨hf, rfl, rfl, fun _ i _ => ?_, fun i _ => ?_, fun p r q => by simp [pl0, ct0] at q⟩, by simp [pl0], by simp [pl0], fun f => absurd rfl f, fun m hm => by simp [pl0] at hm, fun i _ h => ?_⟩
  · unfold baF pl0; simp
  · rw [e]
    exact ⟨Int.le_refl 0, Int.le_refl 0, fun _ => Or.inr (Or.inr ⟨rfl, rfl⟩), fun _ q => by simp [nd0] at q, fun _ q => by simp [nd0] at q⟩
  · rw [a] at h; omega
theorem pl_built (C : Nat) (u : Ru) : Try.prog.built 106 [(0, .pointer (some ⟨C, 0, none⟩))] = some (plA (pl0 u 0) C (.slice none 0 0) (.slice none 0 0) (.slice none 0 0) (.slice none 0 0) (.slice none 0 0)) := by kernel_rfl
end Go.Proofs.Ytpleakkhbfhdkaa.Cn
namespace Go.Proofs.Ytpleakkhbfhdkaa.Cn
open Go.RowKit
set_option maxHeartbeats 8000000 in
set_option maxRecDepth 100000 in
set_option linter.unusedSimpArgs false in
set_option linter.unusedVariables false in
theorem started_any (N0 : Nat) (w : World) (st : ByteArray) (x : Nat → Int) (ao : Option Addr) (b o cap : Nat) (pv : Nat → Value) (ns : List ND) (h : NsAt N0 w ao b o pv ns) (hN : N0 ≤ w.heap.size) (hs : st.size ≤ 9223372036854775807) (hE : errP st x ns = 0) (hf : (ct0 (ruX x ns)).fine) :
    Calls Try.prog 25 #[.agg (clA st x (.slice ao ns.length cap))] w fun e w' => ∃ B N p, e = .returned (.tuple #[.pointer (some ⟨B, 0, none⟩), .bool true]) ∧ w.heap.size ≤ N ∧ PlAt N w' B p ∧ PI ns.length p ∧ p.job = 0 ∧ p.lt.length = 0 ∧ Below w.heap.size w w' := by
  obtain ⟨cB, hcB⟩ : ∃ cB, cB = w.heap.size := ⟨_, rfl⟩
  obtain ⟨W0, hW0⟩ : ∃ W0, W0 = w.alloc (.cells (clA st x (.slice ao ns.length cap)) 26) := ⟨_, rfl⟩
  have b0 : Below w.heap.size w W0 := by rw [hW0]; exact (Below.refl _ w).alloc (Nat.le_refl _) _
  have s0 : W0.heap.size = cB + 1 := by rw [hW0, hcB]; exact World.size_alloc _ _
  have C0 : Hid (ClAt W0 cB st x (.slice ao ns.length cap)) := by rw [hW0, hcB]; exact new_cl _ _ _ _
  have NE := hide (New_any N0 W0 st x ao b o cap pv ns (h.below (b0.mono hN)) (Nat.le_trans hN b0.size) hs hE)
  have n16 : ns.length ≤ 16 := hf.n16
  have n1 : 1 ≤ ns.length := hf.n1
  obtain ⟨u, hu⟩ : ∃ u, u = ruX x ns := ⟨_, rfl⟩
  rw [← hu] at NE hf
  have UN : Hid (u.n = ns.length) := by rw [hu]; exact rfl
  have HF := hide hf
  have NU := hide (num_any 0)
  have B0 := hide b0
  have S0 := hide s0
  have HCB := hide hcB
  obtain ⟨n, hn⟩ : ∃ n, n = ns.length := ⟨_, rfl⟩
  have HN := hide hn
  rw [← hn] at n16 n1
  clear h hE hu hf b0 s0 hs hn
  go_enter Try.func25, Try.ntmps25
  go_upto_region 1 with fail
  rw [← hW0, ← HCB.out]
  clear hW0 hcB
  go_wp2_with (refine wpList_loadCl rfl (.tmp 1) rfl cB st x _ rfl C0.out ?_)
  refine Calls.mono NE.out ?_
  rintro e W1 ⟨C, rfl, hC, hX, hb⟩
  have X1 := hide hX
  have BU := busy_any hX HF.out.n1
  rw [show (ct0 u).ph.isSome = false from rfl] at BU
  replace BU := hide BU
  have C1 := hide (C0.out.below hb)
  have B1 : Hid (Below w.heap.size w W1) := B0.out.trans (hb.mono B0.out.size)
  have CC := hide hC
  clear hX hb NE hC
  go_wp2_with fail
  refine Calls.mono (NU.out _) ?_
  rintro e w9 ⟨rfl, rfl⟩
  go_wp2_with fail
  refine Calls.mono BU.out ?_
  rintro e w9 ⟨rfl, rfl⟩
  obtain ⟨B, hB⟩ : ∃ B, B = W1.heap.size := ⟨_, rfl⟩
  obtain ⟨W2, hW2⟩ : ∃ X, X = W1.alloc (.cells (plA (pl0 u 0) C (.slice none 0 0) (.slice none 0 0) (.slice none 0 0) (.slice none 0 0) (.slice none 0 0)) 106) := ⟨_, rfl⟩
  have b2 : Below W1.heap.size W1 W2 := by rw [hW2]; exact (Below.refl _ W1).alloc (Nat.le_refl _) _
  have ob2 : W2.heap[B]? = some (.cells (plA (pl0 u 0) C (.slice none 0 0) (.slice none 0 0) (.slice none 0 0) (.slice none 0 0) (.slice none 0 0)) 106) := by rw [hW2, hB]; exact heap_last _ _
  have nob : ∀ k, (Value.slice none 0 0).ownBlock = some k → False := fun k e => by simp [Value.ownBlock] at e
  have gB : W0.heap.size ≤ B := by have a := X1.out.lt C rfl; have b := CC.out; omega
  have P2 : Hid (PlX W0.heap.size W2 B C (fun k => k = C) (.slice none 0 0) (.slice none 0 0) (.slice none 0 0) (.slice none 0 0) (.slice none 0 0) (pl0 u 0)) :=
    ⟨ob2, X1.out.below b2, World.ownsRow_nil _ _ _ _, World.ownsRow_nil _ _ _ _, World.ownsRow_nil _ _ _ _, World.ownsRow_nil _ _ _ _, World.ownsRow_nil _ _ _ _, fun e => by have a := X1.out.lt C rfl; omega, fun k e => (nob k e).elim, fun k e => (nob k e).elim, fun k e => (nob k e).elim, fun k e => (nob k e).elim, fun k e => (nob k e).elim, fun k e => (nob k e).elim, gB, fun k e => by rw [e]; exact CC.out, Nat.le_trans gB (Nat.le_of_lt (blk_lt ob2))⟩
  have C2 := hide (C1.out.below b2)
  have B2 : Hid (Below w.heap.size w W2) := B1.out.trans (b2.mono B1.out.size)
  have HBB := hide hB
  replace hW2 := hide hW2
  clear b2 ob2 nob gB
  go_upto_region 5 with (first | refine wpList_blR rfl 106 #[(0, .tmp 24)] rfl (plA (pl0 u 0) C (.slice none 0 0) (.slice none 0 0) (.slice none 0 0) (.slice none 0 0) (.slice none 0 0)) (by kernel_rfl) ?_)
  rw [← hW2.out, ← HBB.out]
  clear hW2 hB
  go_wp2_with fail
  go_loopw [7] (fun vi wr => ∃ (i : Nat) (nvi avi : Value), i ≤ n ∧ vi = .int .i64 (i : Int) ∧ Hid (PlX W0.heap.size wr B C (fun k => k = C) nvi (.slice none 0 0) (.slice none 0 0) (.slice none 0 0) avi (pl0 u i)) ∧ Hid (ClAt wr cB st x (.slice ao ns.length cap)) ∧ Hid (Below w.heap.size w wr)) (fun vi _ => n - (intOf vi).toNat)
  case atStart => exact ⟨0, _, _, Nat.zero_le _, rfl, P2.out, C2.out, B2.out⟩
  case round =>
    obtain ⟨i, nvi, avi, hi, rfl, HP, HC, HB⟩ := hrel
    have c22 := HC.out.nv
    rw [← HN.out] at c22
    by_cases hin : i < n
    case neg =>
      obtain rfl : i = n := by omega
      go_wp2_with fail
      go_ret2
      have e : u.n = i := UN.out.trans HN.out.symm
      refine ⟨B, W0.heap.size, pl0 u i, rfl, B0.out.size, HP.out.at, ?_, rfl, rfl, HB.out⟩
      rw [← HN.out, ← e]
      exact pl0_inv HF.out
    case pos =>
      have hii : (i : Int) < (n : Int) := by omega
      obtain ⟨na, nc, hnv⟩ := own_sl HP.out.nd
      have enl : (pl0 u i).nd.length = i := by simp [pl0]
      have eal : (pl0 u i).at'.length = i := by simp [pl0]
      obtain ⟨aa, ac, hav⟩ := own_sl HP.out.at'
      rw [enl] at hnv
      rw [eal] at hav
      subst hnv hav
      obtain ⟨W3, hW3⟩ : ∃ X, X = wr.alloc (.cells (ndV nd0) 108) := ⟨_, rfl⟩
      have b3 : Below wr.heap.size wr W3 := by rw [hW3]; exact (Below.refl _ wr).alloc (Nat.le_refl _) _
      have G3 : Hid (W3.heap[wr.heap.size]? = some (.cells (ndV nd0) 108)) := by rw [hW3]; exact heap_last _ _
      have P3 := hide (HP.out.below b3)
      have C3 := hide (HC.out.below b3)
      have B3 : Hid (Below w.heap.size w W3) := HB.out.trans (b3.mono HB.out.size)
      have x1 := HP.out.cells.2.1
      have hln : Hid ((pl0 u i).nd.length ≤ 1000000000) := by rw [enl]; unfold Hid; omega
      have hla : Hid ((pl0 u i).at'.length ≤ 1000000000000) := by rw [eal]; unfold Hid; omega
      have ENL := hide enl
      have EAL := hide eal
      clear enl eal b3
      go_upto_region 9 with (first | refine wpList_blR rfl 108 #[] rfl (ndV nd0) (by kernel_rfl) ?_ | refine wpList_bsN rfl (.tmp 39) rfl nd0 rfl ?_ | (at_builtin; rw [← hW3]; clear hW3; refine wpList_apN rfl (.tmp 38) (.tmp 40) rfl W0.heap.size _ (pl0 u i).nd rfl P3.out.nd wr.heap.size nd0 rfl G3.out hln.out P3.out.gN ?_; intro v4 w4 o4 g4 a4; obtain ⟨hB4, hP4, hK4⟩ := P3.out.appN o4 g4 a4; obtain ⟨g2, cap2, hv4⟩ := own_g o4 (by omega); subst hv4; have k4 : w4.cell? ⟨B, 1, none⟩ = some (.slice na i nc) := (by unfold World.cell?; rw [hB4, P3.out.ob]; rfl); have z4 : w4.frozen? ⟨B, 1, none⟩ = false := (by unfold World.frozen?; rw [hB4, P3.out.ob]; simp); have P4 := hide hP4; have K4 := hide hK4; clear hP4 hK4 hB4 o4 g4 a4 x1))
      obtain ⟨W5, hW5⟩ : ∃ X, X = w4.setCell ⟨B, 1, none⟩ (.slice (some ⟨g2, 0, none⟩) ((pl0 u i).nd.length + 1) cap2) := ⟨_, rfl⟩
      rw [← hW5] at P4 K4 ⊢
      clear hW5 k4 z4
      have kN : ∀ q, (q = B ∨ (Value.slice na i nc).ownBlock = some q) → W0.heap.size ≤ q := fun q e => by
        rcases e with e | e
        · rw [e]; exact P3.out.gB
        · exact own_ge P3.out.nd e
      have cN : Hid (cB < W0.heap.size) := by rw [S0.out]; unfold Hid; omega
      have C5 : Hid (ClAt W5 cB st x (.slice ao ns.length cap)) := getL K4.out C3.out (fun e => by have := kN cB e; have := cN.out; omega)
      have B5 : Hid (Below w.heap.size w W5) := B3.out.trans ((K4.out.toN P3.out.gN kN).mono B0.out.size)
      clear kN K4
      obtain ⟨W6, hW6⟩ : ∃ X, X = W5.alloc (.cells #[.int .i64 (-1)] 3) := ⟨_, rfl⟩
      have b6 : Below W5.heap.size W5 W6 := by rw [hW6]; exact (Below.refl _ W5).alloc (Nat.le_refl _) _
      have G6 : Hid (W6.heap[W5.heap.size]? = some (.cells #[.int .i64 (-1)] 3)) := by rw [hW6]; exact heap_last _ _
      have P6 := hide (P4.out.below b6)
      have C6 := hide (C5.out.below b6)
      have B6 : Hid (Below w.heap.size w W6) := B5.out.trans (b6.mono B5.out.size)
      have x9 := P4.out.cells.2.2.2.2.2.2.2.2.2
      have O6 : Hid (W6.ownsRow W0.heap.size 3 1 (.slice aa i ac) (pl0 u i).at'.length (ints (pl0 u i).at')) := P6.out.at'
      clear b6
      go_upto_region 7 with (at_builtin; rw [← hW6]; clear hW6; refine wpList_apA rfl (.tmp 48) (.tmp 49) rfl W0.heap.size _ (pl0 u i).at' rfl O6.out W5.heap.size (-1) rfl G6.out hla.out P6.out.gN ?_; intro v7 w7 o7 g7 a7; obtain ⟨hB7, hP7, hK7⟩ := P6.out.appA o7 g7 a7; obtain ⟨g3, cap3, hv7⟩ := own_g o7 (by omega); subst hv7; have k7 : w7.cell? ⟨B, 9, none⟩ = some (.slice aa i ac) := (by unfold World.cell?; rw [hB7, P6.out.ob]; rfl); have z7 : w7.frozen? ⟨B, 9, none⟩ = false := (by unfold World.frozen?; rw [hB7, P6.out.ob]; simp); have P7 := hide hP7; have K7 := hide hK7; clear hP7 hK7 hB7 o7 g7 a7 x9)
      obtain ⟨W8, hW8⟩ : ∃ X, X = w7.setCell ⟨B, 9, none⟩ (.slice (some ⟨g3, 0, none⟩) ((pl0 u i).at'.length + 1) cap3) := ⟨_, rfl⟩
      have hW8' : w7.setCell ⟨B, 9, none⟩ (.slice (some ⟨g3, 0, none⟩) ((pl0 u i).at'.length + 1) cap3) = W8 := hW8.symm
      have P7' := P7.out
      have K7' := K7.out
      rw [hW8'] at P7' K7'
      have kN7 : ∀ q, (q = B ∨ (Value.slice aa i ac).ownBlock = some q) → W0.heap.size ≤ q := fun q e => by
        rcases e with e | e
        · rw [e]; exact P6.out.gB
        · exact own_ge P6.out.at' e
      have C8 : Hid (ClAt W8 cB st x (.slice ao ns.length cap)) := getL K7' C6.out (fun e => by have := kN7 cB e; have := cN.out; omega)
      have B8 : Hid (Below w.heap.size w W8) := B6.out.trans ((K7'.toN P6.out.gN kN7).mono B0.out.size)
      have e9 : ({ ({ pl0 u i with nd := (pl0 u i).nd ++ [nd0] } : Pl) with at' := (pl0 u i).at' ++ [-1] } : Pl) = pl0 u (i + 1) := by
        unfold pl0
        simp only [rep_succ]
      have P8 : Hid (PlX W0.heap.size W8 B C (fun k => k = C) (.slice (some ⟨g2, 0, none⟩) ((pl0 u i).nd.length + 1) cap2) (.slice none 0 0) (.slice none 0 0) (.slice none 0 0) (.slice (some ⟨g3, 0, none⟩) ((pl0 u i).at'.length + 1) cap3) (pl0 u (i + 1))) := by
        rw [← e9]
        exact P7'
      rw [hW8']
      clear hW8 hW8' P7' K7' kN7 e9 P7 K7 k7 z7 c22
      go_wp2_with fail
      exact ⟨⟨i + 1, _, _, by omega, rfl, P8.out, C8.out, B8.out⟩, by simp [intOf]; omega⟩
end Go.Proofs.Ytpleakkhbfhdkaa.Cn
namespace Go.Proofs.Ytpleakkhbfhdkaa.Cn
open Go.RowKit
/-- a step of a script -/
structure Sp where
  k : Int
  n : Int
  v : Int
  m : Mg
def spV (s : Sp) : Array Value := #[.int .i64 s.k, .int .i64 s.n, .int .i64 s.v, .int .i64 s.m.kind, .int .i64 s.m.fr, .int .i64 s.m.td, .int .i64 s.m.id, .int .i64 s.m.ep, .int .i64 s.m.sq, .int .i64 s.m.ver, .int .i64 s.m.prev, .int .i64 s.m.code, .string s.m.key, .string s.m.val]
/-- rows of k cells that are handed in -/
structure RwAt {α : Type} (k : Nat) (V : α → Array Value) (N : Nat) (w : World) (ao : Option Addr) (b o : Nat) (L : List α) : Prop where
  at0 : 0 < L.length → ao = some ⟨b, o, none⟩
  lt : 0 < L.length → b < N
  c : ∀ (q : Nat) (h : q < L.length) (j : Nat) (u : Value), (V L[q])[j]? = some u → w.cell? ⟨b, o + q * k + j, none⟩ = some u
  len : L.length ≤ 9223372036854775807
theorem RwAt.below {α : Type} {k : Nat} {V : α → Array Value} {N : Nat} {w w' : World} {ao : Option Addr} {b o : Nat} {L : List α} (h : RwAt k V N w ao b o L) (hb : Below N w w') : RwAt k V N w' ao b o L :=
  ⟨h.at0, h.lt, fun q hq j u hj => (hb.cell (h.lt (by omega))).trans (h.c q hq j u hj), h.len⟩
theorem sp_info : (Try.prog.info? 59).map (·.size) = some 14 := by kernel_rfl
theorem sp_one (s : Sp) : (spV s).all (·.oneCell') = true := by simp [spV, Value.oneCell']
end Go.Proofs.Ytpleakkhbfhdkaa.Cn
namespace Go.Proofs.Ytpleakkhbfhdkaa.Cn
open Go.RowKit
set_option maxHeartbeats 8000000 in
set_option maxRecDepth 100000 in
set_option linter.unusedSimpArgs false in
set_option linter.unusedVariables false in
theorem atomic_any (w : World) (nodes a b c : Int) (ao' : Option Addr) (bb oo cap' : Nat) (L : List Ev) (hL : RwAt 3 evV w.heap.size w ao' bb oo L) (hle : L.length ≤ 1048576) :
    Calls Try.prog 6 #[.int .i64 nodes, .agg #[.int .i64 a, .int .i64 b, .int .i64 c], .slice ao' L.length cap'] w fun e w' => e = .returned (.bool true) ∧ Below w.heap.size w w' := by
  obtain ⟨W0, hW0⟩ : ∃ W0, W0 = w.alloc (.cells #[.int .i64 a, .int .i64 b, .int .i64 c] 23) := ⟨_, rfl⟩
  have b0 : Hid (Below w.heap.size w W0) := by rw [hW0]; exact (Below.refl _ w).alloc (Nat.le_refl _) _
  have m0 : W0.heap[w.heap.size]? = some (.cells #[.int .i64 a, .int .i64 b, .int .i64 c] 23) := by rw [hW0]; exact heap_last _ _
  have t0 : W0.cell? ⟨w.heap.size, 0, none⟩ = some (.int .i64 a) := by rw [cell_row m0]; rfl
  have t1 : W0.cell? ⟨w.heap.size, 1, none⟩ = some (.int .i64 b) := by rw [cell_row m0]; rfl
  have t2 : W0.cell? ⟨w.heap.size, 2, none⟩ = some (.int .i64 c) := by rw [cell_row m0]; rfl
  have MA := hide (made15_any W0 nodes a b c)
  clear m0
  have HLL := hide hL
  obtain ⟨n, hn⟩ : ∃ n, n = L.length := ⟨_, rfl⟩
  have HN := hide hn
  rw [← hn] at hle ⊢
  clear hL hn
  go_enter Try.func6, Try.ntmps6
  go_upto_region 1 with fail
  rw [← hW0]
  clear hW0
  go_wp2_with fail
  refine Calls.mono MA.out ?_
  rintro e W1 ⟨st, x, ns, vl, zs, base, rfl, hz, hT, hE, hs, x14, x15, x16, hb⟩
  obtain ⟨nm_, hsf, hnf, hdl, kp_⟩ := errP_all hE
  have n16 := nfP_len hnf
  obtain ⟨ao, nb, cap, pv, hvl, hns⟩ := tw_read hT hz n16.2 hdl.p2
  subst hvl
  have fx := made_fine hE x14 x15 x16 0 (by omega) (by omega)
  have ST := hide (started_any W1.heap.size W1 st x ao nb 0 cap pv ns hns (Nat.le_refl _) (Nat.le_trans hs (by decide)) hE fx)
  have B1 : Hid (Below w.heap.size w W1) := b0.out.trans (hb.mono b0.out.size)
  clear nm_ kp_ hsf hnf hdl hT hz hE x14 x15 x16 hb hns MA t0 t1 t2 hs fx
  go_wp2_with fail
  refine Calls.mono ST.out ?_
  rintro e W2 ⟨B, N, p0, rfl, hNN, hP, hI, hj, hl, hb2⟩
  have P2 := hide hP
  have I2 := hide hI
  have J2 := hide (And.intro hj hl)
  have B2 : Hid (Below w.heap.size w W2) := B1.out.trans (hb2.mono B1.out.size)
  have hNw : Hid (w.heap.size ≤ N) := Nat.le_trans B1.out.size hNN
  clear hP hI hj hl hb2 ST hNN
  go_wp2_with fail
  go_loopw [9] (fun vi wr => ∃ (i : Nat) (p : Pl), i ≤ n ∧ vi = .int .i64 (i : Int) ∧ Hid (PlAt N wr B p) ∧ Hid (PI ns.length p) ∧ Hid (p.job ≤ (i : Int) ∧ p.lt.length ≤ 16 * i) ∧ Hid (Below w.heap.size w wr)) (fun vi _ => n - (intOf vi).toNat)
  case atStart => exact ⟨0, p0, Nat.zero_le _, rfl, P2.out, I2.out, ⟨by rw [J2.out.1]; exact Int.le_refl _, by rw [J2.out.2]; exact Nat.le_refl _⟩, B2.out⟩
  case round =>
    obtain ⟨i, p, hi, rfl, HP, HI, HJ, HB⟩ := hrel
    have jb : Hid (p.job ≤ 1000000000 ∧ p.lt.length ≤ 1000000000) := by have := HJ.out; unfold Hid; omega
    by_cases hin : i < n
    case neg =>
      obtain rfl : i = n := by omega
      have BE := hide (begun_any HP.out HI.out jb.out.1 jb.out.2)
      go_wp2_with fail
      refine Calls.mono BE.out ?_
      rintro e W4 ⟨rfl, b4⟩
      have B4 : Hid (Below w.heap.size w W4) := HB.out.trans (b4.mono hNw.out)
      clear b4 BE
      go_wp2_with fail
      go_ret
      exact ⟨rfl, B4.out⟩
    case pos =>
      have hii : (i : Int) < (n : Int) := by omega
      have q2 : decide ((i : Int) < 1099511627776) = true := decide_eq_true (by omega)
      have hiL : i < L.length := by rw [← HN.out]; exact hin
      have LB := HLL.out.below HB.out
      have e8 := LB.at0 (by omega)
      have RG : Hid (wr.rangeAt bb (oo + i * 3) (evV L[i]).toList) := fun j u' hj => LB.c i hiL j u' (by simpa using hj)
      obtain ⟨ev, hev⟩ : ∃ ev, ev = L[i] := ⟨_, rfl⟩
      rw [← hev] at RG
      clear hev LB hiL
      subst e8
      have SP := hide (step_any HP.out HI.out jb.out.1 jb.out.2 ev)
      go_wp2_with (refine wpList_load_mid rfl 68 (.tmp 32) rfl bb (oo + i * 3) rfl (evV ev).toList _ RG.out Try.underlying68 rfl ev_info ?_)
      refine Calls.mono SP.out ?_
      rintro e W4 ⟨rfl, p2, hP2, hI2, b4, j4, l4⟩
      have KE := hide (kept_any hP2 hI2)
      have P4 := hide hP2
      have I4 := hide hI2
      have B4 : Hid (Below w.heap.size w W4) := HB.out.trans (b4.mono hNw.out)
      have J4 : Hid (p2.job ≤ ((i + 1 : Nat) : Int) ∧ p2.lt.length ≤ 16 * (i + 1)) := by have := HJ.out; unfold Hid; omega
      clear hP2 hI2 b4 j4 l4 SP RG
      go_wp2_with fail
      refine Calls.mono KE.out ?_
      rintro e W5 ⟨rfl, b5⟩
      have P5 : Hid (PlAt N W5 B p2) := by
        obtain ⟨C, S, nv, lv, fv, bv, av, h⟩ := P4.out
        exact (h.below b5).at
      have B5 : Hid (Below w.heap.size w W5) := B4.out.trans (b5.mono B4.out.size)
      clear b5 KE
      go_wp2_with fail
      exact ⟨⟨i + 1, p2, by omega, rfl, P5.out, I4.out, J4.out, B5.out⟩, by simp [intOf]; omega⟩
end Go.Proofs.Ytpleakkhbfhdkaa.Cn
namespace Go.Proofs.Ytpleakkhbfhdkaa.Cn
open Go.ChangeShapes Go.WideShapes Go.ChangeAt Go.RowKit Go.Deep
open Go.Joins (open_agg3 open_agg2)
theorem cellsI : Try.prog.cellsOf 3 = 1 := by kernel_rfl
theorem cellsTi : Try.prog.cellsOf 23 = 3 := by kernel_rfl
theorem laidOutP : laidOutB Try.prog = true := by kernel_rfl
theorem int_of {n : Int} (h : (Lit.int .i64 n).wf = true) : -9223372036854775808 ≤ n ∧ n < 9223372036854775808 := by
  simp [Lit.wf, IntKind.min, IntKind.max, IntKind.signed, IntKind.bits] at h
  omega
set_option maxRecDepth 100000 in
/-- times that are handed in -/
theorem open_times {H : Type} {enc : TypeId × Value → H} {w : World} {r : Reach} {b0 base : Nat} {spare : Nat → Bool} {held : Bool} {v : Value} {d : DataW H} {p : List MemPlace} (hv : Value.okWide Try.prog w r b0 23 v) (h : DataW.Trod enc Try.prog w base spare held 23 v d p) :
    ∃ x y z : Int, v = .agg #[.int .i64 x, .int .i64 y, .int .i64 z] ∧ p = [] ∧ (Lit.int .i64 x).wf = true ∧ (Lit.int .i64 y).wf = true ∧ (Lit.int .i64 z).wf = true := by
  obtain ⟨a0, a1, a2, y0, y1, y2, n, rfl, rfl, rfl, t0, t1, t2⟩ := open_agg3 Try.underlying23 (by kernel_rfl) cellsTi hv h
  obtain ⟨c0, e0, rfl, w0⟩ := DataW.trod_int Try.underlying3 t0
  obtain ⟨c1, e1, rfl, w1⟩ := DataW.trod_int Try.underlying3 t1
  obtain ⟨c2, e2, rfl, w2⟩ := DataW.trod_int Try.underlying3 t2
  simp only [List.cons.injEq, and_true] at e0 e1 e2
  subst e0 e1 e2
  exact ⟨c0, c1, c2, rfl, rfl, w0, w1, w2⟩
end Go.Proofs.Ytpleakkhbfhdkaa.Cn
namespace Go.Proofs.Ytpleakkhbfhdkaa.Cn
open Go.ChangeShapes Go.WideShapes Go.ChangeAt Go.RowKit Go.Deep
theorem cellsMsg : Try.prog.cellsOf 44 = 11 := by kernel_rfl
theorem cellsErr : Try.prog.cellsOf 31 = 1 := by kernel_rfl
theorem cellsS9 : Try.prog.cellsOf 9 = 1 := by kernel_rfl
theorem cellsSp : Try.prog.cellsOf 59 = 14 := by kernel_rfl
theorem list11 {α : Type} {l : List α} (h : l.length = 11) : ∃ a0 a1 a2 a3 a4 a5 a6 a7 a8 a9 a10, l = [a0, a1, a2, a3, a4, a5, a6, a7, a8, a9, a10] := by
  match l, h with
  | [a0, a1, a2, a3, a4, a5, a6, a7, a8, a9, a10], _ => exact ⟨a0, a1, a2, a3, a4, a5, a6, a7, a8, a9, a10, rfl⟩
theorem list14 {α : Type} {l : List α} (h : l.length = 14) : ∃ a0 a1 a2 a3 a4 a5 a6 a7 a8 a9 a10 a11 a12 a13, l = [a0, a1, a2, a3, a4, a5, a6, a7, a8, a9, a10, a11, a12, a13] := by
  match l, h with
  | [a0, a1, a2, a3, a4, a5, a6, a7, a8, a9, a10, a11, a12, a13], _ => exact ⟨a0, a1, a2, a3, a4, a5, a6, a7, a8, a9, a10, a11, a12, a13, rfl⟩
theorem list4 {α : Type} {l : List α} (h : l.length = 4) : ∃ a0 a1 a2 a3, l = [a0, a1, a2, a3] := by
  match l, h with
  | [a0, a1, a2, a3], _ => exact ⟨a0, a1, a2, a3, rfl⟩
set_option maxRecDepth 100000 in
set_option maxHeartbeats 1000000 in
/-- a message's cells -/
theorem open_mg {H : Type} {enc : TypeId × Value → H} {w : World} {base fuel : Nat} {spare : Nat → Bool} {held : Bool} {cs : List Value} {x : DataW H × List MemPlace} (h : DataW.trod enc Try.prog w base spare held fuel 44 cs = some x) (hl : cs.length = 11) :
    ∃ m : Mg, cs = (mgV m).toList := by
  obtain ⟨c0, c1, c2, c3, c4, c5, c6, c7, c8, c9, c10, rfl⟩ := list11 hl
  obtain ⟨xs2, n2, _, hx2, _, hxl2, hq2⟩ := DataW.trod_struct Try.underlying44 h
  obtain ⟨y0, y1, y2, y3, y4, y5, y6, y7, y8, y9, y10, rfl⟩ := list11 hxl2
  have g0 := hq2 0 _ rfl
  have g1 := hq2 1 _ rfl
  have g2 := hq2 2 _ rfl
  have g3 := hq2 3 _ rfl
  have g4 := hq2 4 _ rfl
  have g5 := hq2 5 _ rfl
  have g6 := hq2 6 _ rfl
  have g7 := hq2 7 _ rfl
  have g8 := hq2 8 _ rfl
  have g9 := hq2 9 _ rfl
  have g10 := hq2 10 _ rfl
  simp [cellsI, cellsS9, cellsErr] at g0 g1 g2 g3 g4 g5 g6 g7 g8 g9 g10
  obtain ⟨n0, f0, z0, w0⟩ := DataW.trod_int Try.underlying3 g0
  obtain ⟨n1, f1, z1, w1⟩ := DataW.trod_int Try.underlying3 g1
  obtain ⟨n2', f2, z2, w2⟩ := DataW.trod_int Try.underlying3 g2
  obtain ⟨n3, f3, z3, w3⟩ := DataW.trod_int Try.underlying3 g3
  obtain ⟨n4, f4, z4, w4⟩ := DataW.trod_int Try.underlying3 g4
  obtain ⟨n5, f5, z5, w5⟩ := DataW.trod_int Try.underlying3 g5
  obtain ⟨n6, f6, z6, w6⟩ := DataW.trod_int Try.underlying3 g6
  obtain ⟨n7, f7, z7, w7⟩ := DataW.trod_int Try.underlying3 g7
  obtain ⟨n8, f8, z8, w8⟩ := DataW.trod_int Try.underlying31 g8
  obtain ⟨s9, f9, z9, w9⟩ := DataW.trod_string Try.underlying9 g9
  obtain ⟨s10, f10, z10, w10⟩ := DataW.trod_string Try.underlying9 g10
  simp only [List.cons.injEq, and_true] at f0 f1 f2 f3 f4 f5 f6 f7 f8 f9 f10
  subst f0 f1 f2 f3 f4 f5 f6 f7 f8 f9 f10
  exact ⟨⟨n0, n1, n2', n3, n4, n5, n6, n7, n8, s9, s10⟩, rfl⟩
set_option maxRecDepth 100000 in
set_option maxHeartbeats 1000000 in
/-- a step's cells -/
theorem open_sp {H : Type} {enc : TypeId × Value → H} {w : World} {base fuel : Nat} {spare : Nat → Bool} {held : Bool} {cs : List Value} {x : DataW H × List MemPlace} (h : DataW.trod enc Try.prog w base spare held fuel 59 cs = some x) (hl : cs.length = 14) :
    ∃ s : Sp, cs = (spV s).toList := by
  obtain ⟨c0, c1, c2, c3, c4, c5, c6, c7, c8, c9, c10, c11, c12, c13, rfl⟩ := list14 hl
  obtain ⟨xs, n, _, hx, _, hxl, hq⟩ := DataW.trod_struct Try.underlying59 h
  obtain ⟨ya, yb, yc, yd, rfl⟩ := list4 hxl
  have ga := hq 0 _ rfl
  have gb := hq 1 _ rfl
  have gc := hq 2 _ rfl
  have gd := hq 3 _ rfl
  simp [cellsMsg, cellsI] at ga gb gc gd
  obtain ⟨n0, f0, z0, w0⟩ := DataW.trod_int Try.underlying3 ga
  obtain ⟨n1, f1, z1, w1⟩ := DataW.trod_int Try.underlying3 gb
  obtain ⟨n2, f2, z2, w2⟩ := DataW.trod_int Try.underlying3 gc
  obtain ⟨m, hm⟩ := open_mg gd rfl
  simp only [List.cons.injEq, and_true] at f0 f1 f2
  subst f0 f1 f2
  refine ⟨⟨n0, n1, n2, m⟩, ?_⟩
  simp only [mgV, List.cons.injEq] at hm
  obtain ⟨h0, h1, h2, h3, h4, h5, h6, h7, h8, h9, h10, _⟩ := hm
  subst h0 h1 h2 h3 h4 h5 h6 h7 h8 h9 h10
  rfl
set_option maxRecDepth 100000 in
/-- rows that are handed in -/
theorem open_rows {H : Type} {α : Type} [Inhabited α] {enc : TypeId × Value → H} {w : World} {base fuel : Nat} {spare : Nat → Bool} {held : Bool} {v : Value} {x : DataW H × List MemPlace} {t e : TypeId} {k : Nat} {V : α → Array Value} (hu : Try.prog.underlying t = some (.slice e)) (hk : Try.prog.cellsOf e = k) (hk1 : 0 < k) (hV : ∀ s, (V s).size = k) (hone : ∀ {fuel : Nat} {cs : List Value} {x : DataW H × List MemPlace}, DataW.trod enc Try.prog w base spare held fuel e cs = some x → cs.length = k → ∃ s : α, cs = (V s).toList)
    (h : DataW.trod enc Try.prog w base spare held fuel t [v] = some x) (hlt : ∀ q ∈ x.2, q.block < w.heap.size) :
    ∃ (ys : List α) (ao : Option Addr) (b o cap : Nat), v = .slice ao ys.length cap ∧ RwAt k V w.heap.size w ao b o ys := by
  rcases open_slice hu h with ⟨h0, _⟩ | ⟨a, len, cap, m, n, D, Pl, hv, hb, hl, hm, hmm, hx, hc⟩
  · simp only [List.cons.injEq, and_true] at h0
    exact ⟨[], none, 0, 0, 0, by rw [h0]; rfl, fun z => absurd z (by simp), fun z => absurd z (by simp), (fun q hq => absurd hq (by simp)), Nat.zero_le _⟩
  · simp only [List.cons.injEq, and_true] at hv
    have hlm : len ≤ m := by rw [hmm]; split <;> omega
    have each : ∀ i, i < len → ∃ q : α, ∀ j u, (V q)[j]? = some u → w.cell? (a.add (i * k + j)) = some u := by
      intro i hi
      obtain ⟨cs', h1, h2⟩ := hc i (by omega)
      rw [hk] at h1
      obtain ⟨_, hlen, hcell⟩ := World.cells?_some h1
      obtain ⟨y, hy⟩ := hone h2 hlen
      refine ⟨y, fun j u hj => ?_⟩
      have hjk : j < k := by
        have := (Array.getElem?_eq_some_iff.1 hj).1
        rwa [hV] at this
      have e := hcell j hjk
      rw [add_add] at e
      rw [e, hy]
      simpa using hj
    obtain ⟨q, hq⟩ := choose_lt each
    have hplen : ((List.range len).map q).length = len := by simp
    obtain ⟨b, off, spot⟩ := a
    have hspot : 0 < len → spot = none := fun hp => by
      have hs : 0 < (V (q 0)).size := by rw [hV]; exact hk1
      have := hq 0 hp 0 _ (Array.getElem?_eq_getElem hs)
      simpa [Addr.add] using World.cell?_spot this
    refine ⟨(List.range len).map q, some ⟨b, off, spot⟩, b, off, cap, by rw [hv, hplen], fun z => ?_, fun z => ?_, fun i hi j u hj => ?_, ?_⟩
    · rw [hplen] at z
      rw [hspot z]
    · rw [hplen] at z
      refine hlt (.cell b off) ?_
      rw [hx]
      refine List.mem_append_left _ (MemPlace.mem_row.2 ⟨0, ?_, by simp⟩)
      rw [hk]
      exact Nat.mul_pos (by omega) hk1
    · rw [hplen] at hi
      rw [List.getElem_map, List.getElem_range] at hj
      have := hq i hi j u hj
      rw [hspot (by omega), Addr.add_mid] at this
      rw [Nat.add_assoc]
      exact this
    · rw [hplen]
      unfold maxLen at hm
      omega
theorem open_steps {H : Type} {enc : TypeId × Value → H} {w : World} {base fuel : Nat} {v : Value} {x : DataW H × List MemPlace} (h : DataW.trod enc Try.prog w base (fun _ => true) true fuel 57 [v] = some x) (hlt : ∀ q ∈ x.2, q.block < w.heap.size) :
    ∃ (ys : List Sp) (ao : Option Addr) (b o cap : Nat), v = .slice ao ys.length cap ∧ RwAt 14 spV w.heap.size w ao b o ys := by
  haveI : Inhabited Sp := ⟨⟨0, 0, 0, mg0⟩⟩
  exact open_rows (k := 14) Try.underlying57 cellsSp (by omega) (fun _ => rfl) (fun h hl => open_sp h hl) h hlt
theorem open_msgs {H : Type} {enc : TypeId × Value → H} {w : World} {base fuel : Nat} {v : Value} {x : DataW H × List MemPlace} (h : DataW.trod enc Try.prog w base (fun _ => true) true fuel 30 [v] = some x) (hlt : ∀ q ∈ x.2, q.block < w.heap.size) :
    ∃ (ys : List Mg) (ao : Option Addr) (b o cap : Nat), v = .slice ao ys.length cap ∧ RwAt 11 mgV w.heap.size w ao b o ys := by
  haveI : Inhabited Mg := ⟨mg0⟩
  exact open_rows (k := 11) Try.underlying30 cellsMsg (by omega) (fun _ => rfl) (fun h hl => open_mg h hl) h hlt
end Go.Proofs.Ytpleakkhbfhdkaa.Cn
