import Derived.Test.YtbmhllcbkeblfaaGEwLeave
namespace Go.Proofs.Ytbmhllcbkeblfaa.Cn
open Go.RowKit
theorem ite_yes {p : Prop} [Decidable p] {A B : Prop} (hp : p) (h : A) : if p then A else B := by rw [if_pos hp]; exact h
theorem wp_apM {w : World} {o : Oper} {a : Act} {K : Act → World → Prop} {Q : Exit → Act → World → Prop} (x y : Operand) (ho : o.op = .call { callee := .builtin .append, args := #[x, y], argTypes := #[39, 39] }) (base : Nat) (v : Value) (L : List Mg) (hx : a.eval x = v) (hv : w.ownsRow base 36 11 v L.length (mgs L)) (g : Nat) (m : Mg) (hy : a.eval y = .slice (some ⟨g, 0, none⟩) 1 1) (hg : w.heap[g]? = some (.cells (mgV m) 36)) (hl : L.length ≤ 1000000000000) (hb : base ≤ w.heap.size)
    (h : ∀ v' w', w'.ownsRow base 36 11 v' (L.length + 1) (mgs (L ++ [m])) → w.grownBy w' v.ownBlock → (v'.ownBlock = v.ownBlock ∨ v'.ownBlock = some w.heap.size) → K (a.put o.dst v') w') : o.wp Try.prog a w K Q := by
  obtain ⟨i0, hi, hz0, hz1, hz2⟩ := mg_parts mg_infos
  obtain ⟨v', w', hr, h2, h3, _, h5⟩ := run_append_own_at (P := Try.prog) w base 39 o.type 36 i0 _ 11 104 Try.underlying39 hi hz0 hz1 hz2 rfl (by decide) v L.length (mgs L) hv ⟨g, 0, none⟩ 1 1 (mgs [m]) (by rw [mgs_one]; rfl) (by
    rw [mgs_one]
    intro j u hj
    rw [Addr.add_mid, Nat.zero_add, cell_row hg]
    simpa using hj) (mgs_oneCell _) (mg_room hl).1 (mg_room hl).2 hb
  rw [← mgs_append] at h2
  unfold Oper.wp execOp
  simp only [ho, resolve, invoke, builtin, Sem.run_bind, Sem.run_pure, Result.andThen_ok, List.map_toArray, List.map_cons, List.map_nil, hx, hy, hr]
  exact h v' w' h2 h3 h5
theorem kp_bel {N : Nat} {w w' : World} {S : Nat → Prop} (hk : Kp w w' S) (hS : ∀ k, S k → N ≤ k) (hN : N ≤ w.heap.size) : Below N w w' :=
  ⟨hk.os, hk.tape, hk.output, hk.size, fun k hk' => hk.block k (Nat.lt_of_lt_of_le hk' hN) (fun e => by have := hS k e; omega)⟩
/-- an exporter and its talk, behind what was there -/
structure St (N : Nat) (w0 w : World) (T X : Nat) (v : Ex) (Z : Zz) (t : Tk) (ov mv : Value) : Prop where
  bo : Bo w T X v Z t ov mv
  ge : ∀ k, (Ap X Z k ∨ k = T ∨ ov.ownBlock = some k ∨ mv.ownBlock = some k) → N ≤ k
  bel : Below N w0 w
  le : N ≤ w.heap.size
def Wr (T X : Nat) (Z : Zz) (mv : Value) (k : Nat) : Prop := Ap X Z k ∨ k = T ∨ mv.ownBlock = some k
section
variable {N : Nat} {w0 w w' : World} {T X : Nat} {v v' : Ex} {Z Z' : Zz} {t t' : Tk} {ov mv mv' : Value} {S : Nat → Prop}
theorem St.wr (h : St N w0 w T X v Z t ov mv) {k : Nat} (e : Wr T X Z mv k) : N ≤ k := by
  rcases e with e | e | e
  · exact h.ge k (Or.inl e)
  · exact h.ge k (Or.inr (Or.inl e))
  · exact h.ge k (Or.inr (Or.inr (Or.inr e)))
theorem St.kb (h : St N w0 w T X v Z t ov mv) (hk : Kp w w' S) (hS : ∀ k, S k → Wr T X Z mv k) : Below N w0 w' := h.bel.trans (kp_bel hk (fun k e => h.wr (hS k e)) h.le)
theorem St.lv (h : St N w0 w T X v Z t ov mv) (l : Lv w w' X Z v' Z') : St N w0 w' T X v' Z' t ov mv :=
  ⟨h.bo.lv l, fun k e => by
    rcases e with e | e
    · rcases l.gr k e with s | s
      · exact h.ge k (Or.inl s)
      · exact Nat.le_trans h.le s
    · exact h.ge k (Or.inr e), h.kb l.kp (fun _ e => Or.inl (Or.inl e)), Nat.le_trans h.le l.kp.size⟩
theorem St.talk (h : St N w0 w T X v Z t ov mv) (hk : Kp w w' (fun k => k = T)) (ht : TkAt w' T X t' ov mv) : St N w0 w' T X v Z t' ov mv :=
  ⟨h.bo.talk hk ht, h.ge, h.kb hk (fun _ e => Or.inr (Or.inl e)), Nat.le_trans h.le hk.size⟩
theorem St.same (h : St N w0 w T X v Z t ov mv) (hk : Kp w w' non) : St N w0 w' T X v Z t ov mv :=
  ⟨h.bo.same hk, h.ge, h.kb hk (fun _ f => f.elim), Nat.le_trans h.le hk.size⟩
theorem St.lvt (h : St N w0 w T X v Z t ov mv) (l : LvT w w' T X v Z t' ov mv) : ∃ mv', St N w0 w' T X v Z t' ov mv' ∧ Kp w w' (fun q => q = T ∨ mv.ownBlock = some q) := by
  obtain ⟨mv', b, k, g⟩ := l
  refine ⟨mv', ⟨b, fun q e => ?_, h.kb k (fun _ e => Or.inr e), Nat.le_trans h.le k.size⟩, k⟩
  rcases e with e | e | e | e
  · exact h.ge q (Or.inl e)
  · exact h.ge q (Or.inr (Or.inl e))
  · exact h.ge q (Or.inr (Or.inr (Or.inl e)))
  · rcases g q e with s | s
    · exact h.ge q (Or.inr (Or.inr (Or.inr s)))
    · exact Nat.le_trans h.le s
theorem St.tick (h : St N w0 w T X v Z t ov mv) (b : Bo w' T X v' Z' t' ov mv) (k : Kp w w' (fun q => Ap X Z q ∨ q = T)) (g : ∀ q, Ap X Z' q → Ap X Z q ∨ w.heap.size ≤ q) : St N w0 w' T X v' Z' t' ov mv :=
  ⟨b, fun q e => by
    rcases e with e | e
    · rcases g q e with s | s
      · exact h.ge q (Or.inl s)
      · exact Nat.le_trans h.le s
    · exact h.ge q (Or.inr e), h.kb k (fun _ e => by rcases e with e | e; exact Or.inl e; exact Or.inr (Or.inl e)), Nat.le_trans h.le k.size⟩
theorem Bo.off (h : Bo w T X v Z t ov mv) {k : Nat} {C : Array Value} {ty : TypeId} {fr : Nat × Nat} (hk : w.heap[k]? = some (.cells C ty fr)) (ht : (ty ≠ 86 ∧ ty ≠ 3 ∧ ty ≠ 47 ∧ ty ≠ 75) ∧ ty ≠ 57) : ¬ Wr T X Z mv k := fun e => by
  rcases e with e | e | e
  · exact h.ex.not hk ht.1 e
  · rw [e, h.tk.blk] at hk
    injection hk with hk
    injection hk with _ hk
    exact ht.2 hk.symm
  · obtain ⟨c, hc⟩ := own_typ h.tk.mv e
    rw [hc] at hk
    injection hk with hk
    injection hk with _ hk
    exact ht.1.2.1 hk.symm
/-- an act's own blocks: the definition, the act, the question, the answer -/
structure Pf (w : World) (B M : Nat) (st : ByteArray) (x : Nat → Int) (nv : Value) (A : Array Value) (q m : Mg) (ov : Value) : Prop where
  cl : ClAt w B st x nv
  ac : w.heap[B + 1]? = some (.cells A 61)
  q : MgAt w (B + 2) q
  m : MgAt w M m
  no : ov.ownBlock ≠ some (B + 2) ∧ ov.ownBlock ≠ some M ∧ M ≠ B + 2
variable {B M : Nat} {st : ByteArray} {x : Nat → Int} {nv : Value} {A : Array Value} {q m : Mg}
theorem Pf.kp (h : Pf w B M st x nv A q m ov) (b : Bo w T X v Z t ov mv) (hk : Kp w w' S) (hS : ∀ k, S k → Wr T X Z mv k) : Pf w' B M st x nv A q m ov := by
  have c := h.cl
  have d := h.q
  have e := h.m
  unfold ClAt at c
  unfold MgAt at d e
  exact ⟨(hk.block _ (blk_lt c) (fun s => b.off c (by decide) (hS _ s))).trans c, (hk.block _ (blk_lt h.ac) (fun s => b.off h.ac (by decide) (hS _ s))).trans h.ac, (hk.block _ (blk_lt d) (fun s => b.off d (by decide) (hS _ s))).trans d, (hk.block _ (blk_lt e) (fun s => b.off e (by decide) (hS _ s))).trans e, h.no⟩
theorem exec_ldMg {ρ : Operand → Value} {o : Oper} {w : World} {b : Nat} {m : Mg} (p : Operand) (ho : o.op = .load 36 p) (hx : ρ p = .pointer (some ⟨b, 0, none⟩)) (hO : MgAt w b m) : (execOp ρ o).run Try.prog w = .ok (.value (.agg (mgV m))) w := by
  have hl : (Instr.loadAt 36 (.pointer (some ⟨b, 0, none⟩))).run Try.prog w = .ok (.agg (mgV m)) w := by
    simp only [Instr.loadAt, Instr.sureAddr, Sem.run_bind, Sem.run_pure, Result.andThen]
    exact run_loadVar_row _ _ 36 36 (mgV m) (0, 0) _ hO Try.underlying36 rfl mg_info
  unfold execOp
  simp only [ho, hx, Sem.run_bind, hl, Result.andThen_ok, Sem.run_pure]
theorem exec_ldMm {ρ : Operand → Value} {o : Oper} {w : World} {b off : Nat} {m : Mg} (p : Operand) (ho : o.op = .load 36 p) (hx : ρ p = .pointer (some ⟨b, off, none⟩)) (hO : w.rangeAt b off (mgV m).toList) : (execOp ρ o).run Try.prog w = .ok (.value (.agg (mgV m))) w := by
  have hl := run_loadAt_mid (P := Try.prog) w b off 36 (mgV m).toList _ hO Try.underlying36 rfl mg_info
  unfold execOp
  simp only [ho, hx, Sem.run_bind, hl, Result.andThen_ok, Sem.run_pure]
theorem tk_c (h : w.heap[T]? = some (.cells (tkA X t ov mv) 57)) : w.cell? ⟨T, 0, none⟩ = some (.pointer (some ⟨X, 0, none⟩)) ∧ w.cell? ⟨T, 13, none⟩ = some ov := by
  simp only [cell_row h]
  exact ⟨rfl, rfl⟩
theorem ac_c {a b c d : Int} (h : w.heap[B]? = some (.cells #[.int .i64 a, .int .i64 b, .int .i64 c, .int .i64 d] 61)) : w.cell? ⟨B, 0, none⟩ = some (.int .i64 a) ∧ w.cell? ⟨B, 1, none⟩ = some (.int .i64 b) ∧ w.cell? ⟨B, 2, none⟩ = some (.int .i64 c) ∧ w.cell? ⟨B, 3, none⟩ = some (.int .i64 d) := by
  simp only [cell_row h]
  exact ⟨rfl, rfl, rfl, rfl⟩
/-- an answer more among the old ones -/
theorem St.olds (h : St N w0 w T X v Z t ov mv) (p : Pf w B M st x nv A q m ov) {ov' : Value} {m9 : Mg} (ho : w'.ownsRow N 36 11 ov' (t.old.length + 1) (mgs (t.old ++ [m9]))) (hg : w.grownBy w' ov.ownBlock) (hn : ov'.ownBlock = ov.ownBlock ∨ ov'.ownBlock = some w.heap.size) :
    (w'.frozen? ⟨T, 13, none⟩ = false ∧ w'.cell? ⟨T, 13, none⟩ = some ov) ∧ St N w0 (w'.setCell ⟨T, 13, none⟩ ov') T X v Z { t with old := t.old ++ [m9] } ov' mv ∧ Pf (w'.setCell ⟨T, 13, none⟩ ov') B M st x nv A q m ov' := by
  have kg := Kp.of_grown hg
  have bo := h.bo
  have b3 : w'.heap[T]? = some (.cells (tkA X t ov mv) 57) := (kg.block _ (blk_lt bo.tk.blk) (fun e => bo.tk.nO T e.symm rfl)).trans bo.tk.blk
  have b4 : (w'.setCell ⟨T, 13, none⟩ ov').heap[T]? = some (.cells (tkA X { t with old := t.old ++ [m9] } ov' mv) 57) := set_row b3 13 _
  have ks : Kp w' (w'.setCell ⟨T, 13, none⟩ ov') (fun q => q = T) := (Kp.refl w' (fun q => q = T)).set (Or.inl rfl) _ _
  have kk : Kp w (w'.setCell ⟨T, 13, none⟩ ov') (fun q => q = T ∨ ov.ownBlock = some q) := (kg.mono (T := fun q => q = T ∨ ov.ownBlock = some q) (fun _ e => Or.inr e.symm)).trans ks (fun _ e => Or.inl (Or.inl e))
  have e3 := bo.ex.kp kk (fun k e q => by
    rcases q with q | q
    · exact bo.nT (q ▸ e)
    · exact bo.nO k q e)
  have mo := own_kp bo.tk.mv kk (fun k e q => by
    rcases q with q | q
    · exact bo.tk.nM k e q
    · obtain ⟨c1, h1⟩ := own_typ bo.tk.ov q
      obtain ⟨c2, h2⟩ := own_typ bo.tk.mv e
      rw [h1] at h2
      simp at h2)
  have gov : ∀ k, ov.ownBlock = some k → N ≤ k := fun k e => h.ge k (Or.inr (Or.inr (Or.inl e)))
  have oo : (w'.setCell ⟨T, 13, none⟩ ov').ownsRow 0 36 11 ov' (t.old ++ [m9]).length (mgs (t.old ++ [m9])) := by
    rw [List.length_append]
    exact own_base (own_kp ho ks (fun k e q => by
      obtain ⟨c1, h1⟩ := own_typ ho e
      rw [q, b3] at h1
      simp at h1)) (Nat.zero_le _)
  refine ⟨⟨fz_row b3 13, by rw [cell_row b3]; rfl⟩, ⟨⟨e3, ⟨b4, oo, mo⟩, bo.ap⟩, fun k e => ?_, h.bel.trans (kp_bel kk (fun k e => ?_) h.le), Nat.le_trans h.le kk.size⟩, ?_⟩
  · rcases e with e | e | e | e
    · exact h.ge k (Or.inl e)
    · exact h.ge k (Or.inr (Or.inl e))
    · exact own_ge ho e
    · exact h.ge k (Or.inr (Or.inr (Or.inr e)))
  · rcases e with e | e
    · exact h.ge k (Or.inr (Or.inl e))
    · exact gov k e
  · have c := p.cl
    have d := p.q
    have f := p.m
    unfold ClAt at c
    unfold MgAt at d f
    have nt : ∀ {k : Nat} {C : Array Value} {ty : TypeId}, w.heap[k]? = some (.cells C ty) → ty ≠ 57 → k ≠ T := fun hk ht e => by
      rw [e, bo.tk.blk] at hk
      injection hk with hk
      injection hk with _ hk
      exact ht hk.symm
    have nm : ∀ {k : Nat} {C : Array Value} {ty : TypeId}, w.heap[k]? = some (.cells C ty) → ty ≠ 36 → ¬ ov.ownBlock = some k := fun hk ht e => by
      obtain ⟨c1, h1⟩ := own_typ bo.tk.ov e
      rw [h1] at hk
      injection hk with hk
      injection hk with _ hk
      exact ht hk.symm
    refine ⟨(kk.block _ (blk_lt c) (fun s => by rcases s with s | s; exact nt c (by decide) s; exact nm c (by decide) s)).trans c, (kk.block _ (blk_lt p.ac) (fun s => by rcases s with s | s; exact nt p.ac (by decide) s; exact nm p.ac (by decide) s)).trans p.ac, (kk.block _ (blk_lt d) (fun s => by rcases s with s | s; exact nt d (by decide) s; exact p.no.1 s)).trans d, (kk.block _ (blk_lt f) (fun s => by rcases s with s | s; exact nt f (by decide) s; exact p.no.2.1 s)).trans f, ?_, ?_, p.no.2.2⟩
    · rcases hn with e | e
      · rw [e]; exact p.no.1
      · rw [e]; intro z; injection z with z; have := blk_lt d; omega
    · rcases hn with e | e
      · rw [e]; exact p.no.2.1
      · rw [e]; intro z; injection z with z; have := blk_lt f; omega
end
end Go.Proofs.Ytbmhllcbkeblfaa.Cn
namespace Go.Proofs.Ytbmhllcbkeblfaa.Cn
open Go.RowKit
structure ActP where
  wt : Int
  tk : Int
  od : Int
  cd : Int
def actA (a : ActP) : Array Value := #[.int .i64 a.wt, .int .i64 a.tk, .int .i64 a.od, .int .i64 a.cd]
def AcR (N : Nat) (w0 w' : World) (T X : Nat) (t : Tk) (v : Ex) (tb : List (List Pr)) (ver : Int) (R n : Nat) : Prop := ∃ v' Z' t' ov' mv', St N w0 w' T X v' Z' t' ov' mv' ∧ Ac tb ver R n t t' v v'
theorem act_c {w : World} {B : Nat} {a : ActP} (h : w.heap[B]? = some (.cells (actA a) 61)) : w.cell? ⟨B, 0, none⟩ = some (.int .i64 a.wt) ∧ w.cell? ⟨B, 1, none⟩ = some (.int .i64 a.tk) ∧ w.cell? ⟨B, 2, none⟩ = some (.int .i64 a.od) ∧ w.cell? ⟨B, 3, none⟩ = some (.int .i64 a.cd) := by
  simp only [cell_row h]
  exact ⟨rfl, rfl, rfl, rfl⟩
set_option maxHeartbeats 16000000 in
set_option maxRecDepth 100000 in
set_option linter.unusedSimpArgs false in
set_option linter.unusedVariables false in
theorem act_1 {N : Nat} {w : World} {T X : Nat} {v : Ex} {Z : Zz} {t : Tk} {ov mv : Value} (h : St N w w T X v Z t ov mv) {ao : Option Addr} {b o cap : Nat} {pv : Nat → Value} {tb : List (List Pr)} (tbl : TbAt N w ao b o pv tb) {ver : Int} {R n : Nat} (j : Tj tb ver R n v t.old t.ms) (st : ByteArray) (x : Nat → Int) (nv : Value) (a0 : ActP) (hq : t.q = askM v) (hlf : t.lf = (v.left : Int)) (hR : x 0 = (R : Int)) (hgw : x 17 = v.gw) (h0 : v.at_ = v.now) {KS : Nat} (hKS : v.gw + 1 ≤ (KS : Int)) (hn : n ≤ 10000000000) (hol : t.old.length ≤ 1000000) (hsz : ∀ m, m ∈ t.old ∨ m = rightM tb (askM v) → m.key.size ≤ 281474976710656 ∧ m.val.size ≤ 281474976710656) (hw : a0.wt = 1) :
    Calls Try.prog 19 #[.pointer (some ⟨T, 0, none⟩), .agg (clA st x nv), .slice ao tb.length cap, .agg (actA a0)] w fun e w' => e = .returned (.bool true) ∧ AcR N w w' T X t v tb ver R (n + KS) := by
  obtain ⟨B, hB⟩ : ∃ B, B = w.heap.size := ⟨_, rfl⟩
  obtain ⟨q, hqq⟩ : ∃ q, q = askM v := ⟨_, rfl⟩
  obtain ⟨m, hm⟩ : ∃ m, m = rightM tb q := ⟨_, rfl⟩
  obtain ⟨W0, hW0⟩ : ∃ W0, W0 = w.alloc (.cells (clA st x nv) 24) := ⟨_, rfl⟩
  obtain ⟨W1, hW1⟩ : ∃ W1, W1 = W0.alloc (.cells (actA a0) 61) := ⟨_, rfl⟩
  obtain ⟨W2, hW2⟩ : ∃ W2, W2 = W1.alloc (.cells (mgV q) 36) := ⟨_, rfl⟩
  obtain ⟨W3, hW3⟩ : ∃ W3, W3 = W2.setCell ⟨T, 12, none⟩ (.bool false) := ⟨_, rfl⟩
  have z0 : W0.heap.size = B + 1 := by rw [hW0, hB]; simp
  have z1 : W1.heap.size = B + 2 := by rw [hW1]; simp [z0]
  have z2 : W2.heap.size = B + 3 := by rw [hW2]; simp [z1]
  have k0 : Kp w W0 non := by rw [hW0]; exact (Kp.refl w non).alloc _
  have k1 : Kp W0 W1 non := by rw [hW1]; exact (Kp.refl W0 non).alloc _
  have k2 : Kp W1 W2 non := by rw [hW2]; exact (Kp.refl W1 non).alloc _
  have k3 : Kp W2 W3 (fun k => k = T) := by rw [hW3]; exact (Kp.refl W2 (fun k => k = T)).set (Or.inl rfl) _ _
  have s1 := (h.same k0).same k1
  have s2 := s1.same k2
  have tlt : T < B := by rw [hB]; exact blk_lt h.bo.tk.blk
  have olt : ∀ k, ov.ownBlock = some k → k < B := fun k e => by rw [hB]; exact own_lt h.bo.tk.ov e
  have cl2 : ClAt W2 B st x nv := by
    have c : ClAt W0 B st x nv := by rw [hW0, hB]; exact new_cl _ _ _ _
    unfold ClAt at c ⊢
    exact k2.blk0 (k1.blk0 c)
  have ac2 : W2.heap[B + 1]? = some (.cells (actA a0) 61) := by
    have c : W1.heap[B + 1]? = some (.cells (actA a0) 61) := by rw [hW1, ← z0]; exact heap_last _ _
    exact k2.blk0 c
  have q2 : MgAt W2 (B + 2) q := by rw [hW2, ← z1]; exact MgAt.new W1 q
  have b3 : W3.heap[T]? = some (.cells (tkA X { t with op := false } ov mv) 57) := by rw [hW3]; exact set_row s2.bo.tk.blk 12 _
  have s3 := s2.talk k3 (s2.bo.tk.setT k3 b3 rfl rfl)
  have nb : ∀ k, B ≤ k → k ≠ T := fun k e z => by omega
  have cl3 : ClAt W3 B st x nv := by
    have c := cl2
    unfold ClAt at c ⊢
    exact (k3.block _ (blk_lt c) (nb _ (Nat.le_refl _))).trans c
  have ac3 : W3.heap[B + 1]? = some (.cells (actA a0) 61) := (k3.block _ (blk_lt ac2) (nb _ (by omega))).trans ac2
  have q3 : MgAt W3 (B + 2) q := by
    have c := q2
    unfold MgAt at c ⊢
    exact (k3.block _ (blk_lt c) (nb _ (by omega))).trans c
  have z3 : B + 3 ≤ W3.heap.size := by rw [← z2]; exact k3.size
  have RG : Hid (W1.rangeAt T 1 (mgV q).toList) := by
    have hb := s1.bo.tk.blk
    intro i u hi
    have hl : i < 11 := by
      have := (List.getElem?_eq_some_iff.1 hi).1
      simpa [mgV] using this
    rw [cell_row hb]
    rw [hqq, ← hq] at hi
    match i, hl with
    | 0, _ | 1, _ | 2, _ | 3, _ | 4, _ | 5, _ | 6, _ | 7, _ | 8, _ | 9, _ | 10, _ => exact hi
  have jj := j.ok.job j.b
  have jp := jj.pt
  have p64 := j.ok.p1
  have j5 := jj.rl
  have hqs : 0 ≤ q.sq ∧ q.sq ≤ 1000000 := by rw [hqq]; show 0 ≤ (v.part : Int) ∧ (v.part : Int) ≤ _; omega
  have hqp : 0 ≤ q.prev ∧ q.prev ≤ 1000000 := by rw [hqq]; show 0 ≤ (v.rd.length : Int) ∧ (v.rd.length : Int) ≤ _; omega
  have RT := right_t (cap := cap) (tbl.below s3.bel) s3.le q hqs hqp
  rw [← hm] at RT
  have RT := hide RT
  have HS : Hid ((W1.alloc (.cells #[.int .i64 0, .int .i64 0, .int .i64 0, .int .i64 0, .int .i64 0, .int .i64 0, .int .i64 0, .int .i64 0, .int .i64 0, .string ⟨#[]⟩, .string ⟨#[]⟩] 36)).setRow (B + 2) (mgV q) = W2) := by
    rw [hW2, ← z1]
    exact World.setRow_alloc_new _ _ _ _
  have HL : Hid ((W1.alloc (.cells #[.int .i64 0, .int .i64 0, .int .i64 0, .int .i64 0, .int .i64 0, .int .i64 0, .int .i64 0, .int .i64 0, .int .i64 0, .string ⟨#[]⟩, .string ⟨#[]⟩] 36)).heap[B + 2]? = some (.cells #[.int .i64 0, .int .i64 0, .int .i64 0, .int .i64 0, .int .i64 0, .int .i64 0, .int .i64 0, .int .i64 0, .int .i64 0, .string ⟨#[]⟩, .string ⟨#[]⟩] 36)) := by
    rw [← z1]
    exact heap_last _ _
  have MI := hide mg_info
  have MO := hide (mg_one q)
  have MOm := hide (mg_one m)
  have HW0 := hide hW0
  have HW1 := hide hW1
  have HW3 := hide hW3
  have HB := hide hB
  have S3 := hide s3
  have C3 := hide (And.intro cl3 (And.intro ac3 q3))
  have Z3 := hide z3
  have c12 : W2.cell? ⟨T, 12, none⟩ = some (.bool t.op) := by rw [cell_row s2.bo.tk.blk]; rfl
  have f12 := fz_row s2.bo.tk.blk 12
  have CF := hide (And.intro c12 f12)
  have QQ := hide hqq
  have HM := hide hm
  have J := hide j
  have TL := hide tlt
  have OLT := hide olt
  have HY := hide (And.intro hlf (And.intro hR (And.intro hgw (And.intro h0 (And.intro hn (And.intro hol hsz))))))
  have KB : Hid (2 ≤ KS ∧ v.gw + 1 ≤ (KS : Int)) := ⟨by have := j.ok.gw; omega, hKS⟩
  have MQ : Hid (q.sq = (v.part : Int)) := by rw [hqq]; exact rfl
  clear hKS h tbl hW0 hW1 hW2 hW3 z0 z2 z3 k0 k1 k2 k3 s1 s2 s3 tlt cl2 ac2 q2 b3 nb cl3 ac3 q3 hB hq j jj jp p64 j5 hqs hqp c12 f12 hqq hm hlf hR hgw h0 hn hol hsz olt
  go_enter Try.func19, Try.ntmps19
  go_upto_region 1 with fail
  rw [← HW0.out, show W0.alloc (.cells (actA a0) 61) = W1 from HW1.out.symm, ← HB.out]
  go_upto_region 2 with (first | refine wpList_load_mid rfl 36 (.tmp 21) rfl T 1 rfl (mgV q).toList _ RG.out Try.underlying36 rfl MI.out ?_ | (refine wpList_stR rfl 36 (.tmp 9) (.tmp 22) rfl (B + 2) rfl (mgV q) #[.int .i64 0, .int .i64 0, .int .i64 0, .int .i64 0, .int .i64 0, .int .i64 0, .int .i64 0, .int .i64 0, .int .i64 0, .string ⟨#[]⟩, .string ⟨#[]⟩] rfl _ HL.out MI.out rfl MO.out ?_; rw [HS.out]))
  obtain ⟨c12, f12⟩ := CF.out
  go_upto_region 3 with fail
  rw [← HW3.out]
  clear c12 f12 RG HS HL CF
  go_wp2_with (refine wpList_ldM rfl (.tmp 9) rfl q (B + 2) rfl C3.out.2.2 ?_)
  refine Calls.mono RT.out ?_
  rintro e W4 ⟨rfl, k4⟩
  obtain ⟨M, hMM⟩ : ∃ M, M = W4.heap.size := ⟨_, rfl⟩
  obtain ⟨W5, hW5⟩ : ∃ W5, W5 = W4.alloc (.cells (mgV m) 36) := ⟨_, rfl⟩
  have k5 : Kp W4 W5 non := by rw [hW5]; exact (Kp.refl W4 non).alloc _
  have k35 : Kp W3 W5 non := k4.trans k5 (fun _ f => f.elim)
  have ST5 := hide (S3.out.same k35)
  have MB : Hid (B + 3 ≤ M) := by rw [hMM]; exact Nat.le_trans Z3.out k4.size
  have PF5 : Hid (Pf W5 B M st x nv (actA a0) q m ov) := by
    have c := C3.out.1
    unfold ClAt at c
    have d := C3.out.2.2
    unfold MgAt at d
    refine ⟨k35.blk0 c, k35.blk0 C3.out.2.1, k35.blk0 d, by rw [hW5, hMM]; exact MgAt.new W4 m, fun e => ?_, fun e => ?_, by have := MB.out; omega⟩
    · have := OLT.out _ e
      omega
    · have := OLT.out _ e
      have := MB.out
      omega
  have HS5 : Hid ((W4.alloc (.cells #[.int .i64 0, .int .i64 0, .int .i64 0, .int .i64 0, .int .i64 0, .int .i64 0, .int .i64 0, .int .i64 0, .int .i64 0, .string ⟨#[]⟩, .string ⟨#[]⟩] 36)).setRow M (mgV m) = W5) := by
    rw [hW5, hMM]
    exact World.setRow_alloc_new _ _ _ _
  have HL5 : Hid ((W4.alloc (.cells #[.int .i64 0, .int .i64 0, .int .i64 0, .int .i64 0, .int .i64 0, .int .i64 0, .int .i64 0, .int .i64 0, .int .i64 0, .string ⟨#[]⟩, .string ⟨#[]⟩] 36)).heap[M]? = some (.cells #[.int .i64 0, .int .i64 0, .int .i64 0, .int .i64 0, .int .i64 0, .int .i64 0, .int .i64 0, .int .i64 0, .int .i64 0, .string ⟨#[]⟩, .string ⟨#[]⟩] 36)) := by
    rw [hMM]
    exact heap_last _ _
  have HMM := hide hMM
  have MN : Hid (N ≤ M ∧ B + 2 < M) := ⟨by rw [hMM]; exact Nat.le_trans S3.out.le k4.size, by have := MB.out; omega⟩
  clear k4 k5 k35 hW5 hMM S3 C3 Z3 RT TL OLT MB
  go_upto_region 4 with (refine wpList_stR rfl 36 (.tmp 10) (.tmp 28) rfl M (by rw [HMM.out]; rfl) (mgV m) #[.int .i64 0, .int .i64 0, .int .i64 0, .int .i64 0, .int .i64 0, .int .i64 0, .int .i64 0, .int .i64 0, .int .i64 0, .string ⟨#[]⟩, .string ⟨#[]⟩] rfl _ HL5.out MI.out rfl MOm.out ?_; rw [HS5.out])
  rw [← HMM.out]
  have c0 : W5.cell? ⟨B + 1, 0, none⟩ = some (.int .i64 1) := by rw [← hw]; exact (act_c PF5.out.ac).1
  have c5 : W5.cell? ⟨B + 2, 5, none⟩ = some (.int .i64 (v.part : Int)) := by rw [← MQ.out]; exact PF5.out.q.cells.2.2.2.2.2.1
  have c18 : ∀ Y, Pf Y B M st x nv (actA a0) q m ov → Y.cell? ⟨B, 18, none⟩ = some (.int .i64 v.gw) := fun Y hY => by rw [← HY.out.2.2.1]; exact hY.cl.x 17 (by omega)
  have C18 := hide c18
  have LE := hide (leaves_t ST5.out.bo st x nv (v.part : Int) (by show 0 ≤ t.lf ∧ t.lf ≤ 1000; rw [HY.out.1]; have := (J.out.ok.job J.out.b).lf; have := J.out.ok.r1; omega) (by show t.ms.length ≤ 1000; rw [J.out.msq]; have := (J.out.ok.job J.out.b).ml; have := (J.out.ok.job J.out.b).pt; have := J.out.ok.p1; omega))
  clear c18
  go_upto_region 5 with fail
  clear c0
  go_wp2_with (refine wpList_loadCl rfl (.tmp 5) rfl B st x _ rfl PF5.out.cl ?_)
  refine Calls.mono LE.out ?_
  rintro e W6 ⟨rfl, l6⟩
  obtain ⟨mv6, s6, k6⟩ := ST5.out.lvt l6
  have P6 := hide (PF5.out.kp ST5.out.bo k6 (fun _ e => Or.inr e))
  have S6 := hide s6
  have c18 := C18.out W6 P6.out
  have G1 : 1 ≤ v.gw ∧ v.gw ≤ 1000000000 := J.out.ok.gw
  obtain ⟨kk, hkk⟩ : ∃ kk : Nat, (kk : Int) + 1 = v.gw := ⟨(v.gw - 1).toNat, by omega⟩
  have TI := ticks_last s6.bo J.out HY.out.2.2.2.1 kk hkk (by have := HY.out.2.2.2.2.1; omega)
  have GE : ((kk + 1 : Nat) : Int) = v.gw := by rw [← hkk]; rfl
  rw [GE] at TI
  have TI := hide TI
  have HK := hide hkk
  clear l6 s6 k6 LE c5 hkk GE
  go_wp2_with fail
  refine Calls.mono TI.out ?_
  rintro e W7 ⟨rfl, Z7, b7, k7, g7⟩
  have S7 := hide (S6.out.tick b7 k7 g7)
  clear b7 k7 g7 TI
  go_wp2_with fail
  go_ret
  refine ⟨rfl, _, _, _, _, _, S7.out, ?_⟩
  obtain ⟨e1, e2, e3, e4, e5, e6⟩ := leaves_lf (t := { t with op := false }) (p := (v.part : Int)) (x := x 0) HY.out.1 HY.out.2.1
  refine Ac.of (n := n + kk + 2) (by rw [e2, e3]; exact fin_tick J.out HY.out.2.2.2.1 kk HK.out) (by have := HK.out; have := KB.out; omega) e4 e5 ⟨(tick_rows _).1, (tick_rows _).2⟩ (by rw [e3]; exact Nat.le_succ _) (by rw [e3]; exact fun m hm => Or.inl hm) e6 e1
end Go.Proofs.Ytbmhllcbkeblfaa.Cn
