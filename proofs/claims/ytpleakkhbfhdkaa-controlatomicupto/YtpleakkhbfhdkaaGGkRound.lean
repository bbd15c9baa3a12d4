import Derived.Test.YtpleakkhbfhdkaaGGcTwin
import Derived.OrdersHeld
import Derived.Deep.RegionHeld
namespace Go.Proofs.Ytpleakkhbfhdkaa
open Go.RowKit
/-- the error of a walk -/
noncomputable def rdE (st : ByteArray) (x : Nat → Int) (ns : List ND) (p : Int) : Int := if errP st x ns = 0 then (if p < 0 ∨ (ptN ns : Int) ≤ p then 69 else 0) else errP st x ns
/-- the walk from p on -/
def wk (x : Nat → Int) (ns : List ND) (p : Int) : List Nat := wkR ns (ptN ns) p.toNat (x 0).toNat
theorem errP_ok {st : ByteArray} {x : Nat → Int} {ns : List ND} (h : errP st x ns = 0) : sfP x = true ∧ nfP ns = true := by
  unfold errP at h
  constructor
  · cases e : sfP x with
    | true => rfl
    | false => rw [e] at h; split at h <;> simp at h
  · cases e : nfP ns with
    | true => rfl
    | false => rw [e] at h; split at h <;> (try split at h) <;> simp at h
theorem rdE_bad {st : ByteArray} {x : Nat → Int} {ns : List ND} {p : Int} (h : errP st x ns ≠ 0) : rdE st x ns p = errP st x ns := if_neg h
theorem rdE_part {st : ByteArray} {x : Nat → Int} {ns : List ND} {p : Int} (h : errP st x ns = 0) (hp : p < 0 ∨ (ptN ns : Int) ≤ p) : rdE st x ns p = 69 := by unfold rdE; rw [if_pos h, if_pos hp]
theorem rdE_ok {st : ByteArray} {x : Nat → Int} {ns : List ND} {p : Int} (h : errP st x ns = 0) (hp : ¬ (p < 0 ∨ (ptN ns : Int) ≤ p)) : rdE st x ns p = 0 := by unfold rdE; rw [if_pos h, if_neg hp]
theorem rdE_zero {st : ByteArray} {x : Nat → Int} {ns : List ND} {p : Int} (h : rdE st x ns p = 0) : errP st x ns = 0 ∧ 0 ≤ p ∧ p < (ptN ns : Int) := by
  by_cases e : errP st x ns = 0
  · by_cases hp : p < 0 ∨ (ptN ns : Int) ≤ p
    · rw [rdE_part e hp] at h
      omega
    · exact ⟨e, by omega, by omega⟩
  · rw [rdE_bad e] at h
    exact absurd h e
theorem wk_len (x : Nat → Int) (ns : List ND) (p : Int) : (wk x ns p).length ≤ ptN ns := by
  unfold wk wkR
  rw [List.length_take]
  have := wkL_len ns (ptN ns) p.toNat (ptN ns)
  omega
theorem wk_lt {x : Nat → Int} {ns : List ND} {p : Int} (h : 0 < ptN ns) : ∀ k ∈ wk x ns p, k < ptN ns := fun k hk => wkL_lt h _ k (List.mem_of_mem_take hk)
/-- the walk, where there is one -/
noncomputable def wkE (st : ByteArray) (x : Nat → Int) (ns : List ND) (p : Int) : List Nat := if rdE st x ns p = 0 then wk x ns p else []
theorem wkE_ok {st : ByteArray} {x : Nat → Int} {ns : List ND} {p : Int} (h : rdE st x ns p = 0) : wkE st x ns p = wk x ns p := if_pos h
theorem wkE_bad {st : ByteArray} {x : Nat → Int} {ns : List ND} {p : Int} (h : rdE st x ns p ≠ 0) : wkE st x ns p = [] := if_neg h
/-- what round answers -/
structure RdOf (st : ByteArray) (x : Nat → Int) (ns : List ND) (p : Int) (w : World) (e : Ending) (w' : World) : Prop where
  out : ∃ vn vp, e = .returned (.tuple #[vn, vp, .int .i64 (rdE st x ns p)]) ∧ (rdE st x ns p = 0 → Dealt ns ∧ (∃ g, vn = .slice (some ⟨g, 0, none⟩) (ptN ns) (ptN ns) ∧ w'.heap[g]? = some (.cells (outL ns).toArray 3 (0, 0))) ∧ w'.ownsRow w.heap.size 3 1 vp (wk x ns p).length (ints (nis (wk x ns p)))) ∧ (rdE st x ns p ≠ 0 → vn = .slice none 0 0 ∧ vp = .slice none 0 0)
  bel : Below w.heap.size w w'
theorem RdOf.bad {st : ByteArray} {x : Nat → Int} {ns : List ND} {p : Int} {w w' : World} {e : Ending} {k : Int} (he : rdE st x ns p = k) (hk : k ≠ 0) (h : e = .returned (.tuple #[.slice none 0 0, .slice none 0 0, .int .i64 k])) (hb : Below w.heap.size w w') : RdOf st x ns p w e w' :=
  ⟨⟨_, _, by rw [he]; exact h, fun h0 => absurd (he.symm.trans h0) hk, fun _ => ⟨rfl, rfl⟩⟩, hb⟩
end Go.Proofs.Ytpleakkhbfhdkaa
namespace Go.Proofs.Ytpleakkhbfhdkaa
/-- the partitions of node i -/
def mdQ (h : Nat → Int) (i p : Nat) : List Nat := (List.range p).filter fun j => decide (h j = (i : Int))
theorem mdQ_succ (h : Nat → Int) (i p : Nat) : mdQ h i (p + 1) = mdQ h i p ++ (if h p = (i : Int) then [p] else []) := by
  unfold mdQ
  rw [List.range_succ, List.filter_append]
  congr 1
  by_cases e : h p = (i : Int)
  · rw [if_pos e]
    simp [e]
  · rw [if_neg e]
    simp [e]
/-- the nodes that are made: zones, homes -/
def mdN (z : Nat → Int) (h : Nat → Int) (p n : Nat) : List ND := (List.range n).map fun i => ⟨z i, nis (mdQ h i p)⟩
theorem mdN_len (z h : Nat → Int) (p n : Nat) : (mdN z h p n).length = n := by simp [mdN]
theorem mdN_at (z h : Nat → Int) (p n i : Nat) (hi : i < (mdN z h p n).length) : (mdN z h p n)[i] = ⟨z i, nis (mdQ h i p)⟩ := by simp [mdN]
theorem flat_mdN (z h : Nat → Int) (p n : Nat) : flat (mdN z h p n) = nis ((List.range n).flatMap fun i => mdQ h i p) := by
  unfold flat mdN nis
  rw [List.flatMap_map, List.map_flatMap]
theorem one_flat (c : Int) (x n : Nat) : (List.range n).flatMap (fun i : Nat => if c = (i : Int) then [x] else []) = if 0 ≤ c ∧ c < (n : Int) then [x] else [] := by
  induction n with
  | zero => rw [if_neg (by omega)]; rfl
  | succ n ih =>
    rw [List.range_succ, List.flatMap_append, ih]
    by_cases e : c = (n : Int)
    · rw [if_neg (by omega), if_pos (by omega)]
      simp [e]
    · by_cases h : 0 ≤ c ∧ c < (n : Int)
      · rw [if_pos h, if_pos (by omega)]
        simp [e]
      · rw [if_neg h, if_neg (by omega)]
        simp [e]
theorem two_flat (A B : Nat → List Nat) (n : Nat) : ((List.range n).flatMap fun i => A i ++ B i).Perm ((List.range n).flatMap A ++ (List.range n).flatMap B) := by
  induction n with
  | zero => exact List.Perm.refl _
  | succ n ih =>
    rw [List.range_succ, List.flatMap_append, List.flatMap_append, List.flatMap_append]
    simp only [List.flatMap_cons, List.flatMap_nil, List.append_nil]
    refine (ih.append_right _).trans ?_
    simp only [List.append_assoc]
    refine List.Perm.append_left _ ?_
    rw [← List.append_assoc, ← List.append_assoc]
    exact List.Perm.append_right _ List.perm_append_comm
/-- each partition stands once -/
theorem mdQ_all (h : Nat → Int) (p n : Nat) (hh : ∀ j, j < p → 0 ≤ h j ∧ h j < (n : Int)) : ((List.range n).flatMap fun i => mdQ h i p).Perm (List.range p) := by
  induction p with
  | zero => simp [mdQ]
  | succ p ih =>
    have e : (List.range n).flatMap (fun i => mdQ h i (p + 1)) = (List.range n).flatMap (fun i => mdQ h i p ++ (if h p = (i : Int) then [p] else [])) := by
      congr 1
      funext i
      exact mdQ_succ h i p
    rw [e]
    refine (two_flat _ _ n).trans ?_
    rw [one_flat, if_pos (hh p (by omega)), List.range_succ]
    exact (ih fun j hj => hh j (by omega)).append_right _
theorem cnt_range (p i : Nat) (hi : i < p) : cntI (i : Int) (nis (List.range p)) = 1 := by
  induction p with
  | zero => omega
  | succ p ih =>
    rw [List.range_succ, nis_append, cntI_append]
    by_cases e : i = p
    · subst e
      have z : cntI (i : Int) (nis (List.range i)) = 0 := cntI_zero.2 fun hm => by
        simp [nis] at hm
        obtain ⟨a, h1, h2⟩ := hm
        omega
      rw [z]
      simp [nis, cntI]
    · rw [ih (by omega)]
      have : ¬ (p : Int) = (i : Int) := by omega
      simp [nis, cntI, this]
theorem rise_pw {l : List Nat} (h : l.Pairwise (· < ·)) : Rising (nis l) := by
  intro j hj
  rw [nis_len] at hj
  have := List.pairwise_iff_getElem.1 h j (j + 1) (by omega) hj (by omega)
  simp only [nis, List.getElem_map]
  omega
theorem mdQ_rise (h : Nat → Int) (i p : Nat) : Rising (nis (mdQ h i p)) := rise_pw (List.Pairwise.filter _ (List.pairwise_lt_range))
theorem mdN_flen (z h : Nat → Int) (p n : Nat) (hh : ∀ j, j < p → 0 ≤ h j ∧ h j < (n : Int)) : (flat (mdN z h p n)).length = p := by
  rw [flat_mdN, nis_len, (mdQ_all h p n hh).length_eq, List.length_range]
theorem mdN_dealt (z h : Nat → Int) (p n : Nat) (hh : ∀ j, j < p → 0 ≤ h j ∧ h j < (n : Int)) (p1 : 1 ≤ p) (p2 : p ≤ 64) : Dealt (mdN z h p n) := by
  have hl := mdN_flen z h p n hh
  refine ⟨by omega, by omega, fun i hi => ?_, fun nd hn => ?_⟩
  · rw [hl] at hi
    rw [flat_mdN]
    have pm := (mdQ_all h p n hh).map (fun n : Nat => (n : Int))
    exact (cntI_perm pm).trans (cnt_range p i hi)
  · unfold mdN at hn
    obtain ⟨i, _, rfl⟩ := List.mem_map.1 hn
    exact mdQ_rise h i p
theorem kpN_one {ns : List ND} (h : 1 ≤ (flat ns).length) : 1 ≤ kpN ns := by
  apply Classical.byContradiction
  intro hk
  have h0 : kpN ns = 0 := by omega
  unfold kpN at h0
  have h1 := List.length_eq_zero_iff.1 h0
  rw [List.filter_eq_nil_iff] at h1
  have : flat ns = [] := by
    unfold flat
    rw [List.flatMap_eq_nil_iff]
    intro n hn
    have := h1 n hn
    simp [hasP] at this
    exact this
  rw [this] at h
  simp at h
/-- a definition that is valid -/
theorem valid_errP {x : Nat → Int} {ns : List ND} {st : ByteArray} (h0 : nmP st = true) (h1 : sfP x = true) (h2 : nfP ns = true) (h3 : Dealt ns) (h4 : x 0 ≤ (kpN ns : Int)) (h5 : (ptN ns : Int) * x 0 * x 2 ≤ 512) : errP st x ns = 0 := by
  unfold errP
  rw [h0, h1, h2, dlB_true h3, if_neg (by simp), if_neg (by simp), if_neg (by simp), if_neg (by simp), if_neg (by omega), if_neg (by omega)]
/-- how many chunks, replicas there may be -/
theorem md_most {full p m : Int} (h1 : 1 ≤ full) (h2 : 1 ≤ p) (h3 : p ≤ 64) (hm : m = if 512 < full * p then 512 / p else full) : 1 ≤ m ∧ m ≤ full ∧ m * p ≤ 512 := by
  by_cases h : 512 < full * p
  · rw [if_pos h] at hm
    have e1 : 512 / p * p ≤ 512 := Int.ediv_mul_le _ (by omega)
    have e2 : 1 ≤ 512 / p := by
      rw [Int.le_ediv_iff_mul_le (by omega)]
      omega
    have e3 : 512 / p < full := by
      rw [Int.ediv_lt_iff_lt_mul (by omega)]
      omega
    subst hm
    exact ⟨e2, by omega, e1⟩
  · rw [if_neg h] at hm
    subst hm
    exact ⟨h1, Int.le_refl _, by omega⟩
theorem md_chunks {c p r k : Int} (h1 : 1 ≤ c) (h2 : c ≤ 16) (h3 : 1 ≤ p) (h4 : 1 ≤ r) (h5 : p * r ≤ 512) (hk : k = if 512 < c * p * r then 512 / (p * r) else c) : 1 ≤ k ∧ k ≤ 16 ∧ p * r * k ≤ 512 := by
  have hpr : 1 ≤ p * r := by
    have := Int.mul_le_mul h3 h4 (by omega) (by omega)
    omega
  have hc : c * p * r = c * (p * r) := by rw [Int.mul_assoc]
  by_cases h : 512 < c * p * r
  · rw [if_pos h] at hk
    have e1 : 512 / (p * r) * (p * r) ≤ 512 := Int.ediv_mul_le _ (by omega)
    have e2 : 1 ≤ 512 / (p * r) := by
      rw [Int.le_ediv_iff_mul_le (by omega)]
      omega
    have e3 : 512 / (p * r) < c := by
      rw [Int.ediv_lt_iff_lt_mul (by omega), ← hc]
      omega
    rw [Int.mul_comm] at e1
    subst hk
    exact ⟨e2, by omega, e1⟩
  · rw [if_neg h] at hk
    rw [hc, Int.mul_comm] at h
    subst hk
    exact ⟨h1, h2, by omega⟩
end Go.Proofs.Ytpleakkhbfhdkaa
namespace Go.Proofs.Ytpleakkhbfhdkaa
/-- operation o, where it is wanted, is a call that in every world that meets S answers v and leaves that world -/
def CallsIf (P : Program) (ops : Array Oper) (S : World → Prop) (o : Oper) (v : Value) (a : Act) : Prop :=
  Region.wanted o (yielded ops a.tmps) = true ∧ ∃ f args, ∀ w, S w → (execOp a.eval o).run P w = .ok (.enter f args) w ∧ Calls P f args w fun e w' => e = .returned v ∧ w = w'
section
variable {P : Program} {ops : Array Oper} {Q : Exit → Act → World → Prop} {md : Region.Mode} {S : World → Prop}
theorem CallsIf.same {o : Oper} {v : Value} {a a' : Act} (h : CallsIf P ops S o v a) (he : execOp a'.eval o = execOp a.eval o) (hw : Region.wanted o (yielded ops a'.tmps) = Region.wanted o (yielded ops a.tmps)) : CallsIf P ops S o v a' := by
  obtain ⟨h1, f, args, h2⟩ := h
  exact ⟨hw.trans h1, f, args, fun w hS => by rw [he]; exact h2 w hS⟩
theorem CallsIf.op {i : Nat} {o : Oper} {v : Value} {a : Act} (hi : ops[i]? = some o) (h : CallsIf P ops S o v a) {K : Act → World → Prop} {w : World} (hS : S w) (hK : K (a.put o.dst v) w) : wpOp P ops Q i K a w := by
  obtain ⟨h1, f, args, h2⟩ := h
  obtain ⟨h3, h4⟩ := h2 w hS
  unfold wpOp
  simp only [hi, h1, if_true]
  refine .inl ?_
  unfold Oper.wp
  rw [h3]
  refine Calls.mono h4 ?_
  rintro e w' ⟨rfl, rfl⟩
  exact hK
/-- another operation, apart from it, goes with its value laid ahead as it goes without -/
theorem CallsIf.aside {j : Nat} {oi oj : Oper} {v : Value} (hj : ops[j]? = some oj) (hap : oi.apart ops oj = true) (hsi : ∀ cs b, oi.op ≠ .select cs b) (hsj : ∀ cs b, oj.op ≠ .select cs b)
    (hQ : ∀ c a w, Q (.panic c) (a.put oi.dst v) w → Q (.panic c) a w) {K : Act → World → Prop} {a : Act} {w : World} (hy : CallsIf P ops S oi v a) (h : wpOp P ops Q j K (a.put oi.dst v) w) : wpOp P ops Q j (fun a' w' => CallsIf P ops S oi v a' ∧ K (a'.put oi.dst v) w') a w := by
  obtain ⟨h1, h2, h3⟩ := Oper.apart_spec hap
  have put : ∀ (b : Act), CallsIf P ops S oi v b → ∀ u, CallsIf P ops S oi v (b.put oj.dst u) := fun b hb u => hb.same (execOp_put oi hsi b oj.dst u h3) (wanted_put oi b oj.dst u h3)
  unfold wpOp at *
  simp only [hj, wanted_put oj a oi.dst v h1] at *
  by_cases hw : Region.wanted oj (yielded ops a.tmps) = true
  · simp only [hw, if_true] at h ⊢
    rcases h with h | ⟨hasks, hlets⟩
    · refine .inl ?_
      unfold Oper.wp at *
      rw [execOp_put oj hsj a oi.dst v h1] at h
      generalize (execOp a.eval oj).run P w = r at *
      rcases r with ⟨n, w'⟩ | ⟨x, w'⟩
      · cases n <;> simp only [Oper.upon] at h ⊢
        case value u => exact ⟨put a hy u, by rw [← Act.put_comm a v u h2]; exact h⟩
        case skip => exact ⟨put a hy _, by rw [← Act.put_comm a v undef h2]; exact h⟩
        case defer d => exact ⟨put { a with defers := d :: a.defers } (hy.same rfl rfl) _, by rw [← Act.put_comm _ v undef h2, ← Act.put_defers]; exact h⟩
        case enter f args =>
          refine Calls.mono h fun e w'' he => ?_
          rcases e with u | c | _
          · exact ⟨put a hy u, by rw [← Act.put_comm a v u h2]; exact he⟩
          · exact hQ _ _ _ he
          · exact he
        case row row args => exact Rows.mono h fun u w'' he => ⟨put a hy u, by rw [← Act.put_comm a v u h2]; exact he⟩
      · cases x <;> simp only [Oper.upon] at h ⊢
        case panic u => exact hQ _ _ _ h
    · exact .inr ⟨by unfold Oper.asks at *; rw [execOp_put oj hsj a oi.dst v h1] at hasks; exact hasks, hlets⟩
  · simp only [hw] at h ⊢
    exact ⟨put a hy _, by rw [← Act.put_comm a v undef h2]; exact h⟩
/-- such a call may be taken first -/
theorem wpAnyH_takeCall {i : Nat} {oi : Oper} {v : Value} (hi : ops[i]? = some oi) (hs : Region.noSelect ops = true) (hQ : ∀ c a w, Q (.panic c) (a.put oi.dst v) w → Q (.panic c) a w) :
    ∀ (fuel : Nat) (listed : Array Bool) (a : Act) (w : World), (∀ j oj, ops[j]? = some oj → j ≠ i → listed.getD j true = false → (∀ e ∈ oj.after, Region.binds md e = true → e.on ≠ i) → oi.apart ops oj = true) →
      i ∈ Region.ready md ops listed → CallsIf P ops S oi v a → S w → wpAnyH P md ops Q S fuel (listed.setIfInBounds i true) (a.put oi.dst v) w → wpAnyH P md ops Q S (fuel + 1) listed a w := by
  have hsel := Region.noSelect_spec hs
  intro fuel
  induction fuel with
  | zero =>
    intro listed a w _ hr hy hS H
    refine ⟨fun h => absurd hr (by rw [h]; simp), fun j hj => ?_⟩
    by_cases hji : j = i
    · subst hji
      exact hy.op hi hS ⟨hS, H⟩
    · have h0 := ready_mono hj hji
      rw [H.1] at h0
      cases h0
  | succ fuel ih =>
    intro listed a w hfree hr hy hS H
    refine ⟨fun h => absurd hr (by rw [h]; simp), fun j hj => ?_⟩
    by_cases hji : j = i
    · subst hji
      exact hy.op hi hS ⟨hS, H⟩
    · obtain ⟨hun, oj, hoj, hall⟩ := mem_ready.1 hj
      have hno : ∀ e ∈ oj.after, Region.binds md e = true → e.on ≠ i := fun e he hb heq => by
        have k1 := hall e he hb
        have k0 := (mem_ready.1 hr).1
        rw [heq] at k1
        rcases Nat.lt_or_ge i listed.size with hl | hl
        · simp [hl] at k0 k1
          rw [k0] at k1
          cases k1
        · simp [Array.getElem?_eq_none hl] at k1
      have h2 := CallsIf.aside hoj (hfree j oj hoj hji hun hno) (fun cs b => hsel i oi cs b hi) (fun cs b => hsel j oj cs b hoj) hQ hy (H.2 j (ready_mono hj hji))
      refine wpOp_mono (fun a' w' h3 => ⟨h3.2.1, ih _ a' w' (fun k ok hk hki hu hn => hfree k ok hk hki ?_ hn) (ready_mono hr (Ne.symm hji)) h3.1 h3.2.1 ?_⟩) h2
      · by_cases hjk : j = k
        · subst hjk
          exact hun
        · rw [getD_set_ne true hjk] at hu
          exact hu
      · rw [Array.setIfInBounds_comm _ _ hji]
        exact h3.2.2
theorem wpAnyH_callTake {i : Nat} {oi : Oper} {v : Value} {fuel : Nat} {listed : Array Bool} {a : Act} {w : World} (hi : ops[i]? = some oi) (hs : Region.noSelect ops = true) (hf : Region.free md ops listed i = true) (hr : (Region.ready md ops listed).contains i = true)
    (hQ : ∀ c a w, Q (.panic c) (a.put oi.dst v) w → Q (.panic c) a w) (hw : Region.wanted oi (yielded ops a.tmps) = true) (f : FuncId) (args : Array Value) (he : ∀ w, (execOp a.eval oi).run P w = .ok (.enter f args) w) (hc : ∀ w, S w → Calls P f args w fun e w' => e = .returned v ∧ w = w') (hS : S w)
    (h : wpAnyH P md ops Q S fuel (listed.setIfInBounds i true) (a.put oi.dst v) w) : wpAnyH P md ops Q S (fuel + 1) listed a w :=
  wpAnyH_takeCall hi hs hQ fuel listed a w (Region.free_spec hi hf) (by simpa using hr) ⟨hw, f, args, fun w hS => ⟨he w, hc w hS⟩⟩ hS h
end
end Go.Proofs.Ytpleakkhbfhdkaa
namespace Go.Proofs.Ytpleakkhbfhdkaa
open Go.RowKit
theorem exec_muli {ρ : Operand → Value} {op : Oper} {w : World} {a b : Int} {t2 : TypeId} (x y : Operand) (ho : op.op = .binOp .mul 3 x y t2) (hx : ρ x = .int .i64 a) (hy : ρ y = .int .i64 b) (h0 : -9223372036854775808 ≤ a * b) (h1 : a * b < 9223372036854775808) : (execOp ρ op).run Try.prog w = .ok (.value (.int .i64 (a * b))) w := by
  unfold execOp
  simp only [ho, hx, hy]
  go_simp
  exact i64_in h0 h1
theorem wpList_muli {w : World} {ops : Array Oper} {rest : List Oper} {op : Oper} {a : Act} {Q : Exit → Act → World → Prop} (hgd : op.guard = none) {t2 : TypeId} (x y : Operand) (ho : op.op = .binOp .mul 3 x y t2) (A B C : Int) (hx : a.eval x = .int .i64 A) (hy : a.eval y = .int .i64 B) (hC : A * B = C) (h0 : -9223372036854775808 ≤ C) (h1 : C < 9223372036854775808) (h : wpList Try.prog ops Q rest (a.put op.dst (.int .i64 C)) w) : wpList Try.prog ops Q (op :: rest) a w := by
  subst hC
  exact wpList_plain hgd fun _ hK => wp_exec (exec_muli x y ho hx hy h0 h1) (hK _ _ h)
theorem exec_quoi {ρ : Operand → Value} {op : Oper} {w : World} {a b : Int} {t2 : TypeId} (x y : Operand) (ho : op.op = .binOp .quo 3 x y t2) (hx : ρ x = .int .i64 a) (hy : ρ y = .int .i64 b) (ha : 0 ≤ a) (ha2 : a < 9223372036854775808) (hb : 0 < b) : (execOp ρ op).run Try.prog w = .ok (.value (.int .i64 (a / b))) w := by
  unfold execOp
  simp only [ho, hx, hy]
  have hq := Int.tdiv_eq_ediv_of_nonneg (a := a) (b := b) ha
  have hb0 : ¬ b = 0 := by omega
  have hb1 : ¬ b = -1 := by omega
  have q0 : 0 ≤ a / b := Int.ediv_nonneg ha (by omega)
  have q1 : a / b ≤ a := Int.ediv_le_self _ ha
  have e := i64_in (x := a / b) (by omega) (by omega)
  go_simp
  try exact e
  try exact wrap_in (by omega) (by omega)
theorem wpList_quoi {w : World} {ops : Array Oper} {rest : List Oper} {op : Oper} {a : Act} {Q : Exit → Act → World → Prop} (hgd : op.guard = none) {t2 : TypeId} (x y : Operand) (ho : op.op = .binOp .quo 3 x y t2) (A B C : Int) (hx : a.eval x = .int .i64 A) (hy : a.eval y = .int .i64 B) (hC : A / B = C) (ha : 0 ≤ A) (ha2 : A < 9223372036854775808) (hb : 0 < B) (h : wpList Try.prog ops Q rest (a.put op.dst (.int .i64 C)) w) : wpList Try.prog ops Q (op :: rest) a w := by
  subst hC
  exact wpList_plain hgd fun _ hK => wp_exec (exec_quoi x y ho hx hy ha ha2 hb) (hK _ _ h)
/-- one setting anew -/
def upd (x : Nat → Int) (i : Nat) (y : Int) : Nat → Int := fun j => if j = i then y else x j
theorem upd_at (x : Nat → Int) (i : Nat) (y : Int) : upd x i y i = y := by simp [upd]
theorem upd_ne (x : Nat → Int) {i j : Nat} (y : Int) (h : j ≠ i) : upd x i y j = x j := by simp [upd, h]
theorem vA_set (x : Nat → Int) (i : Nat) (y : Int) (h : i < 21) : (vA x).modify i (fun _ => .int .i64 y) = vA (upd x i y) := by
  have : i = 0 ∨ i = 1 ∨ i = 2 ∨ i = 3 ∨ i = 4 ∨ i = 5 ∨ i = 6 ∨ i = 7 ∨ i = 8 ∨ i = 9 ∨ i = 10 ∨ i = 11 ∨ i = 12 ∨ i = 13 ∨ i = 14 ∨ i = 15 ∨ i = 16 ∨ i = 17 ∨ i = 18 ∨ i = 19 ∨ i = 20 := by omega
  clear h
  rcases this with rfl | rfl | rfl | rfl | rfl | rfl | rfl | rfl | rfl | rfl | rfl | rfl | rfl | rfl | rfl | rfl | rfl | rfl | rfl | rfl | rfl <;> rfl
theorem vA_set2 (x : Nat → Int) (i : Nat) (y : Int) (h : i < 21) : (vA x).setIfInBounds i (.int .i64 y) = vA (upd x i y) := by
  have : i = 0 ∨ i = 1 ∨ i = 2 ∨ i = 3 ∨ i = 4 ∨ i = 5 ∨ i = 6 ∨ i = 7 ∨ i = 8 ∨ i = 9 ∨ i = 10 ∨ i = 11 ∨ i = 12 ∨ i = 13 ∨ i = 14 ∨ i = 15 ∨ i = 16 ∨ i = 17 ∨ i = 18 ∨ i = 19 ∨ i = 20 := by omega
  clear h
  rcases this with rfl | rfl | rfl | rfl | rfl | rfl | rfl | rfl | rfl | rfl | rfl | rfl | rfl | rfl | rfl | rfl | rfl | rfl | rfl | rfl | rfl <;> rfl
theorem VAt.set {w : World} {V : Nat} {x : Nat → Int} (h : VAt w V x) (i : Nat) (hi : i < 21) (y : Int) : VAt (w.setCell ⟨V, i, none⟩ (.int .i64 y)) V (upd x i y) := by
  unfold VAt at *
  simp only [World.setCell, Array.getElem?_modify, if_true, h, Option.map_some]
  rw [← vA_set2 x i y hi]
  rfl
theorem VAt.cell {w : World} {V : Nat} {x : Nat → Int} (h : VAt w V x) (i : Nat) (hi : i < 21) : w.cell? ⟨V, i, none⟩ = some (.int .i64 (x i)) := by
  unfold World.cell?
  rw [show w.heap[V]? = _ from h]
  exact vA_at x i hi
theorem VAt.fz {w : World} {V : Nat} {x : Nat → Int} (h : VAt w V x) (i : Nat) : w.frozen? ⟨V, i, none⟩ = false := by
  unfold World.frozen?
  rw [show w.heap[V]? = _ from h]
  simp
theorem wpList_loadV {w : World} {ops : Array Oper} {rest : List Oper} {o : Oper} {a : Act} {Q : Exit → Act → World → Prop} (hgd : o.guard = none) (p : Operand) (ho : o.op = .load 114 p) (b : Nat) (x : Nat → Int) (hx : a.eval p = .pointer (some ⟨b, 0, none⟩)) (hO : VAt w b x)
    (h : wpList Try.prog ops Q rest (a.put o.dst (.agg (vA x))) w) : wpList Try.prog ops Q (o :: rest) a w := by
  refine wpList_plain hgd fun K hK => ?_
  have hl : (Instr.loadAt 114 (.pointer (some ⟨b, 0, none⟩))).run Try.prog w = .ok (.agg (vA x)) w := by
    simp only [Instr.loadAt, Instr.sureAddr, Sem.run_bind, Sem.run_pure, Result.andThen]
    exact run_loadVar_row _ _ 114 114 (vA x) (0, 0) _ hO Try.underlying114 rfl infoV
  unfold Oper.wp execOp
  simp only [ho, Sem.run_bind, Sem.run_pure, Result.andThen_ok, hx, hl]
  exact hK _ _ h
theorem built_cl (st : ByteArray) (x : Nat → Int) (ba : Option Addr) (n c : Nat) : Try.prog.built 26 [(0, .string st), (1, .int .i64 (x 0)), (2, .int .i64 (x 1)), (3, .int .i64 (x 2)), (4, .int .i64 (x 3)), (5, .int .i64 (x 4)), (6, .int .i64 (x 5)), (7, .int .i64 (x 6)), (8, .int .i64 (x 7)), (9, .int .i64 (x 8)), (10, .int .i64 (x 9)), (11, .int .i64 (x 10)), (12, .int .i64 (x 11)), (13, .int .i64 (x 12)), (14, .int .i64 (x 13)), (15, .int .i64 (x 14)), (16, .int .i64 (x 15)), (17, .int .i64 (x 16)), (18, .int .i64 (x 17)), (19, .int .i64 (x 18)), (20, .int .i64 (x 19)), (21, .int .i64 (x 20)), (22, .slice ba n c)] = some (clA st x (.slice ba n c)) := by kernel_rfl
theorem wpList_buildCl {w : World} {ops : Array Oper} {rest : List Oper} {o : Oper} {a : Act} {Q : Exit → Act → World → Prop} (hgd : o.guard = none) (y0 y1 y2 y3 y4 y5 y6 y7 y8 y9 y10 y11 y12 y13 y14 y15 y16 y17 y18 y19 y20 y21 y22 : Operand) (ho : o.op = .build 26 #[(0, y0), (1, y1), (2, y2), (3, y3), (4, y4), (5, y5), (6, y6), (7, y7), (8, y8), (9, y9), (10, y10), (11, y11), (12, y12), (13, y13), (14, y14), (15, y15), (16, y16), (17, y17), (18, y18), (19, y19), (20, y20), (21, y21), (22, y22)]) (st : ByteArray) (x : Nat → Int) (ba : Option Addr) (n c : Nat) (h0 : a.eval y0 = .string st) (h1 : a.eval y1 = .int .i64 (x 0)) (h2 : a.eval y2 = .int .i64 (x 1)) (h3 : a.eval y3 = .int .i64 (x 2)) (h4 : a.eval y4 = .int .i64 (x 3)) (h5 : a.eval y5 = .int .i64 (x 4)) (h6 : a.eval y6 = .int .i64 (x 5)) (h7 : a.eval y7 = .int .i64 (x 6)) (h8 : a.eval y8 = .int .i64 (x 7)) (h9 : a.eval y9 = .int .i64 (x 8)) (h10 : a.eval y10 = .int .i64 (x 9)) (h11 : a.eval y11 = .int .i64 (x 10)) (h12 : a.eval y12 = .int .i64 (x 11)) (h13 : a.eval y13 = .int .i64 (x 12)) (h14 : a.eval y14 = .int .i64 (x 13)) (h15 : a.eval y15 = .int .i64 (x 14)) (h16 : a.eval y16 = .int .i64 (x 15)) (h17 : a.eval y17 = .int .i64 (x 16)) (h18 : a.eval y18 = .int .i64 (x 17)) (h19 : a.eval y19 = .int .i64 (x 18)) (h20 : a.eval y20 = .int .i64 (x 19)) (h21 : a.eval y21 = .int .i64 (x 20)) (h22 : a.eval y22 = .slice ba n c)
    (h : wpList Try.prog ops Q rest (a.put o.dst (.agg (clA st x (.slice ba n c)))) w) : wpList Try.prog ops Q (o :: rest) a w := by
  refine wpList_plain hgd fun K hK => ?_
  unfold Oper.wp execOp
  simp only [ho, List.map_toArray, List.map_cons, List.map_nil, h0, h1, h2, h3, h4, h5, h6, h7, h8, h9, h10, h11, h12, h13, h14, h15, h16, h17, h18, h19, h20, h21, h22, Sem.run_bind, Sem.run_pure, Result.andThen_ok, run_build w 26 _ (clA st x (.slice ba n c)) (built_cl st x ba n c)]
  exact hK _ _ h
set_option maxHeartbeats 8000000 in
set_option maxRecDepth 100000 in
set_option linter.unusedSimpArgs false in
set_option linter.unusedVariables false in
theorem with_any (w : World) (st : ByteArray) (x : Nat → Int) (ba : Option Addr) (n c : Nat) :
    Calls Try.prog 47 #[.string st, .agg (vA x), .slice ba n c] w fun e w' => e = .returned (.agg (clA st x (.slice ba n c))) ∧ Below w.heap.size w w' := by
  obtain ⟨W0, hW0⟩ : ∃ W0, W0 = (w.alloc (.cells (vA x) 114)).alloc (.cells (clA ⟨#[]⟩ zx (.slice none 0 0)) 26) := ⟨_, rfl⟩
  have B0 : Hid (Below w.heap.size w W0) := by rw [hW0]; exact ((Below.refl _ _).alloc (Nat.le_refl _) _).alloc (by simp) _
  have V0 : Hid (VAt W0 w.heap.size x) := by
    show W0.heap[w.heap.size]? = _
    rw [hW0, Below.heap_alloc _ _ _ (by simp)]
    exact heap_last _ _
  have R0 : Hid (ClAt W0 (w.heap.size + 1) ⟨#[]⟩ zx (.slice none 0 0)) := by
    rw [hW0]
    have := new_cl (w.alloc (.cells (vA x) 114)) ⟨#[]⟩ zx (.slice none 0 0)
    simp only [World.size_alloc] at this
    exact this
  go_enter Try.func47, Try.ntmps47
  go_upto_region 1 with fail
  rw [show (w.alloc (.cells (vA x) 114)).alloc (.cells #[.string ⟨#[]⟩, .int .i64 0, .int .i64 0, .int .i64 0, .int .i64 0, .int .i64 0, .int .i64 0, .int .i64 0, .int .i64 0, .int .i64 0, .int .i64 0, .int .i64 0, .int .i64 0, .int .i64 0, .int .i64 0, .int .i64 0, .int .i64 0, .int .i64 0, .int .i64 0, .int .i64 0, .int .i64 0, .int .i64 0, .slice none 0 0] 26) = W0 from hW0.symm]
  clear hW0
  have c0 := V0.out.cell 0 (by omega)
  have c1 := V0.out.cell 1 (by omega)
  have c2 := V0.out.cell 2 (by omega)
  have c3 := V0.out.cell 3 (by omega)
  have c4 := V0.out.cell 4 (by omega)
  have c5 := V0.out.cell 5 (by omega)
  have c6 := V0.out.cell 6 (by omega)
  have c7 := V0.out.cell 7 (by omega)
  have c8 := V0.out.cell 8 (by omega)
  have c9 := V0.out.cell 9 (by omega)
  have c10 := V0.out.cell 10 (by omega)
  have c11 := V0.out.cell 11 (by omega)
  have c12 := V0.out.cell 12 (by omega)
  have c13 := V0.out.cell 13 (by omega)
  have c14 := V0.out.cell 14 (by omega)
  have c15 := V0.out.cell 15 (by omega)
  have c16 := V0.out.cell 16 (by omega)
  have c17 := V0.out.cell 17 (by omega)
  have c18 := V0.out.cell 18 (by omega)
  have c19 := V0.out.cell 19 (by omega)
  have c20 := V0.out.cell 20 (by omega)
  go_wp2_with (first | refine wpList_buildCl rfl (.tmp 7) (.tmp 9) (.tmp 11) (.tmp 13) (.tmp 15) (.tmp 17) (.tmp 19) (.tmp 21) (.tmp 23) (.tmp 25) (.tmp 27) (.tmp 29) (.tmp 31) (.tmp 33) (.tmp 35) (.tmp 37) (.tmp 39) (.tmp 41) (.tmp 43) (.tmp 45) (.tmp 47) (.tmp 49) (.tmp 50) rfl st x ba n c rfl rfl rfl rfl rfl rfl rfl rfl rfl rfl rfl rfl rfl rfl rfl rfl rfl rfl rfl rfl rfl rfl rfl ?_ | (refine wpList_store_row rfl 26 (.tmp 6) (.tmp 51) rfl (w.heap.size + 1) (clA st x (.slice ba n c)) rfl rfl 26 _ R0.out infoCl rfl (clA_one st x rfl) ?_))
  have E6 : ClAt (W0.setRow (w.heap.size + 1) (clA st x (.slice ba n c))) (w.heap.size + 1) st x (.slice ba n c) := setRow_heap W0 (w.heap.size + 1) _ _ 26 _ R0.out
  have B7 : Below w.heap.size w (W0.setRow (w.heap.size + 1) (clA st x (.slice ba n c))) := below_setRow B0.out (by omega) _
  exact bodyPost_ret (v := .agg (clA st x (.slice ba n c))) (res_cl Try.results47 _ st x _ _ (w.heap.size + 1) rfl E6) rfl ⟨rfl, B7⟩
end Go.Proofs.Ytpleakkhbfhdkaa
namespace Go.Proofs.Ytpleakkhbfhdkaa
open Go.RowKit
theorem Tw.step2 {base : Nat} {W X1 X3 : World} {ns : List ND} {vl vl' v1 : Value} {zs : List (Int × Value)} (h : Tw base W ns vl zs) (hi : zs.length < ns.length) (o1 : X1.ownsRow base 3 1 v1 ns[zs.length].ps.length (ints ns[zs.length].ps)) (b1 : Below W.heap.size W X1) (o3 : X3.ownsRow base 91 2 vl' (zs.length + 1) (ndc zs ++ ndc [(ns[zs.length].z, v1)])) (g3 : (X1.alloc (.cells #[.int .i64 ns[zs.length].z, v1] 91)).grownBy X3 vl.ownBlock) : Tw base X3 ns vl' (zs ++ [(ns[zs.length].z, v1)]) :=
  (h.keep b1).step hi o1 (World.grownBy.refl _ _) o3 g3
/-- what Made stands on: the box, the result's place -/
structure MdW (N : Nat) (w W : World) (a b c d : Int) (H Z M : List Int) (aH : Option Addr) (bH oH cH : Nat) (aZ : Option Addr) (bZ oZ cZ : Nat) (aM : Option Addr) (bM oM cM : Nat) : Prop where
  c0 : W.cell? ⟨w.heap.size, 0, none⟩ = some (.int .i64 a)
  c1 : W.cell? ⟨w.heap.size, 1, none⟩ = some (.int .i64 b)
  c2 : W.cell? ⟨w.heap.size, 2, none⟩ = some (.int .i64 c)
  c3 : W.cell? ⟨w.heap.size, 3, none⟩ = some (.int .i64 d)
  c4 : W.cell? ⟨w.heap.size, 4, none⟩ = some (.slice aH H.length cH)
  c5 : W.cell? ⟨w.heap.size, 5, none⟩ = some (.slice aZ Z.length cZ)
  c6 : W.cell? ⟨w.heap.size, 6, none⟩ = some (.slice aM M.length cM)
  res : ClAt W (w.heap.size + 1) ⟨#[]⟩ zx (.slice none 0 0)
  ph : PsAt N W aH bH oH H
  pz : PsAt N W aZ bZ oZ Z
  pm : PsAt N W aM bM oM M
  le : N ≤ W.heap.size
  lt : w.heap.size + 2 ≤ W.heap.size
theorem MdW.below {N : Nat} {w W W' : World} {a b c d : Int} {H Z M : List Int} {aH : Option Addr} {bH oH cH : Nat} {aZ : Option Addr} {bZ oZ cZ : Nat} {aM : Option Addr} {bM oM cM : Nat} (h : MdW N w W a b c d H Z M aH bH oH cH aZ bZ oZ cZ aM bM oM cM) (hb : Below W.heap.size W W') : MdW N w W' a b c d H Z M aH bH oH cH aZ bZ oZ cZ aM bM oM cM := by
  have hl := h.lt
  have k : ∀ j v, W.cell? ⟨w.heap.size, j, none⟩ = some v → W'.cell? ⟨w.heap.size, j, none⟩ = some v := fun j v e => (hb.cell (p := ⟨w.heap.size, j, none⟩) (by show w.heap.size < _; omega)).trans e
  exact ⟨k _ _ h.c0, k _ _ h.c1, k _ _ h.c2, k _ _ h.c3, k _ _ h.c4, k _ _ h.c5, k _ _ h.c6, h.res.below hb, h.ph.below (hb.mono h.le), h.pz.below (hb.mono h.le), h.pm.below (hb.mono h.le), Nat.le_trans h.le hb.size, Nat.le_trans hl hb.size⟩
theorem MdW.below2 {N : Nat} {w W W' : World} {a b c d : Int} {H Z M : List Int} {aH : Option Addr} {bH oH cH : Nat} {aZ : Option Addr} {bZ oZ cZ : Nat} {aM : Option Addr} {bM oM cM : Nat} (h : MdW N w W a b c d H Z M aH bH oH cH aZ bZ oZ cZ aM bM oM cM) (hb : Below (w.heap.size + 2) W W') (hN : N ≤ w.heap.size) : MdW N w W' a b c d H Z M aH bH oH cH aZ bZ oZ cZ aM bM oM cM := by
  have k : ∀ j v, W.cell? ⟨w.heap.size, j, none⟩ = some v → W'.cell? ⟨w.heap.size, j, none⟩ = some v := fun j v e => (hb.cell (p := ⟨w.heap.size, j, none⟩) (by show w.heap.size < _; omega)).trans e
  have hb2 := hb.mono (B' := N) (by omega)
  exact ⟨k _ _ h.c0, k _ _ h.c1, k _ _ h.c2, k _ _ h.c3, k _ _ h.c4, k _ _ h.c5, k _ _ h.c6, (hb.block _ (by omega)).trans h.res, h.ph.below hb2, h.pz.below hb2, h.pm.below hb2, Nat.le_trans h.le hb.size, Nat.le_trans h.lt hb.size⟩
theorem kpN_mdN {z h : Nat → Int} {p n i : Nat} (hi : i < n) : kpN ((mdN z h p n).take (i + 1)) = kpN ((mdN z h p n).take i) + (if 0 < (mdQ h i p).length then 1 else 0) := by
  rw [kpN_take (by rw [mdN_len]; exact hi), mdN_at, nis_len]
theorem Tw.step3 {base : Nat} {W X3 : World} {ns : List ND} {vl vl' v1 : Value} {zs : List (Int × Value)} {z : Int} {ps : List Int} (h : Tw base W ns vl zs) (hi : zs.length < ns.length) (hn : ns[zs.length] = ⟨z, ps⟩) (o1 : W.ownsRow base 3 1 v1 ps.length (ints ps)) (o3 : X3.ownsRow base 91 2 vl' (zs.length + 1) (ndc zs ++ ndc [(z, v1)])) (g3 : (W.alloc (.cells #[.int .i64 z, v1] 91)).grownBy X3 vl.ownBlock) : Tw base X3 ns vl' (zs ++ [(z, v1)]) := by
  have e1 : ns[zs.length].z = z := by rw [hn]
  have e2 : ns[zs.length].ps = ps := by rw [hn]
  subst e1
  subst e2
  exact h.step hi o1 (World.grownBy.refl _ _) o3 g3
theorem wpList_bsNd {w : World} {ops : Array Oper} {rest : List Oper} {op : Oper} {a : Act} {Q : Exit → Act → World → Prop} (hgd : op.guard = none) (x : Operand) (ho : op.op = .buildSlice 24 1 #[(0, x)]) {z : Int} {ba : Option Addr} {n c : Nat} (hx : a.eval x = .agg #[.int .i64 z, .slice ba n c])
    (h : wpList Try.prog ops Q rest (a.put op.dst (.slice (some ⟨w.heap.size, 0, none⟩) 1 1)) (w.alloc (.cells #[.int .i64 z, .slice ba n c] 91))) : wpList Try.prog ops Q (op :: rest) a w :=
  wpList_plain hgd fun _ hK => wp_bsNd x ho hx (hK _ _ h)
theorem nd_set {w : World} {D : Nat} {z : Int} {v v' : Value} (h : w.heap[D]? = some (.cells #[.int .i64 z, v] 91)) : (w.setCell ⟨D, 1, none⟩ v').heap[D]? = some (.cells #[.int .i64 z, v'] 91) := by
  simp only [World.setCell, Array.getElem?_modify, if_true, h, Option.map_some]
  rfl
theorem nd_grown {w X : World} {D : Nat} {z : Int} {v u : Value} {n : Nat} {xs : List Value} {o : Obj} (h : w.heap[D]? = some (.cells #[.int .i64 z, v] 91)) (ho : w.ownsRow (D + 1) 3 1 u n xs) (hg : (w.alloc o).grownBy X u.ownBlock) : X.heap[D]? = some (.cells #[.int .i64 z, v] 91) := by
  have hl := blk_lt h
  rw [hg.block D (by simp; omega) (fun e => by have := (own_lt ho e.symm).1; omega), Below.heap_alloc _ _ _ hl]
  exact h
theorem nd_facts {w : World} {D : Nat} {z : Int} {v : Value} (h : w.heap[D]? = some (.cells #[.int .i64 z, v] 91)) : w.cell? ⟨D, 1, none⟩ = some v ∧ w.frozen? ⟨D, 1, none⟩ = false := by
  constructor
  · unfold World.cell?
    rw [h]
    rfl
  · unfold World.frozen?
    rw [h]
    simp
end Go.Proofs.Ytpleakkhbfhdkaa
