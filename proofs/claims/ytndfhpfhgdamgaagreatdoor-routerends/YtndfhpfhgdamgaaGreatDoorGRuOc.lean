import Derived.Test.YtndfhpfhgdamgaaGreatDoorGCaBase
import Derived.Test.YtndfhpfhgdamgaaGreatDoorGDeMem
import Derived.Test.YtndfhpfhgdamgaaGreatDoorGGcName
namespace Go.Proofs.YtndfhpfhgdamgaaGreatDoor.Cn
open Go.RowKit
/-- an outcome -/
structure Oc where
  tk : Int
  key : ByteArray
  code : Int
  node : Int
  ver : Int
  val : ByteArray
def ocV (m : Oc) : Array Value := #[.int .i64 m.tk, .string m.key, .int .i64 m.code, .int .i64 m.node, .int .i64 m.ver, .string m.val]
def oc0 : Oc := ⟨0, ⟨#[]⟩, 0, 0, 0, ⟨#[]⟩⟩
theorem oc_info : (Tryz.prog.info? 96).map (·.size) = some 6 := by kernel_rfl
theorem oc_infos : (Tryz.prog.info? 96).map (fun i => (i.zero, i.size, i.bytes)) = some (some (.agg (ocV oc0)), 6, 64) := by kernel_rfl
theorem oc_one (m : Oc) : (ocV m).all (·.oneCell') = true := by simp [ocV, Value.oneCell']
def OcAt (w : World) (b : Nat) (m : Oc) : Prop := w.heap[b]? = some (.cells (ocV m) 96)
theorem OcAt.keep {w w' : World} {b : Nat} {m : Oc} {S : Nat → Prop} (h : OcAt w b m) (hk : Kp w w' S) (hs : ¬ S b) : OcAt w' b m := (hk.block b (blk_lt h) hs).trans h
theorem OcAt.new (w : World) (m : Oc) : OcAt (w.alloc (.cells (ocV m) 96)) w.heap.size m := heap_last _ _
/-- messages, as cells -/
def ocs (l : List Oc) : List Value := l.flatMap fun m => (ocV m).toList
theorem ocs_append (a b : List Oc) : ocs (a ++ b) = ocs a ++ ocs b := List.flatMap_append
theorem ocs_one (m : Oc) : ocs [m] = (ocV m).toList := by unfold ocs; rw [List.flatMap_cons, List.flatMap_nil, List.append_nil]
theorem ocs_len (L : List Oc) : (ocs L).length = L.length * 6 := by
  induction L with
  | nil => rfl
  | cons a r ih =>
    unfold ocs at *
    rw [List.flatMap_cons, List.length_append, ih]
    simp only [List.length_cons, ocV, List.length_nil]
    omega
theorem ocs_oneCell (L : List Oc) : ∀ u ∈ ocs L, u.oneCell' = true := by
  intro u hu
  unfold ocs at hu
  obtain ⟨m, _, hm⟩ := List.mem_flatMap.1 hu
  have := Array.all_eq_true_iff_forall_mem.1 (oc_one m) u (by simpa using hm)
  exact this
theorem ocs_at (L : List Oc) (q : Nat) (h : q < L.length) (j : Nat) (hj : j < 6) : (ocs L)[q * 6 + j]? = (ocV L[q])[j]? := by
  induction L generalizing q with
  | nil => simp at h
  | cons a r ih =>
    cases q with
    | zero =>
      unfold ocs
      rw [List.flatMap_cons, Nat.zero_mul, Nat.zero_add, List.getElem?_append_left (by simpa [ocV] using hj)]
      simp
    | succ q =>
      have h' : q < r.length := by simpa using h
      have := ih q h'
      unfold ocs at *
      rw [List.flatMap_cons, show (q + 1) * 6 + j = (ocV a).toList.length + (q * 6 + j) by simp [ocV]; omega, List.getElem?_append_right (by omega), Nat.add_sub_cancel_left]
      exact this
theorem fill_oc (m : Oc) : Instr.fill (fun i => some (i * 6, 6)) ((Array.range (1 * 6)).map ((Value.agg (ocV oc0)).cells[· % (Value.agg (ocV oc0)).cells.size]!)) [(0, .agg (ocV m))] = some (ocV m) := by kernel_rfl
theorem wp_bsO {w : World} {o : Oper} {a : Act} {K : Act → World → Prop} {Q : Exit → Act → World → Prop} (x : Operand) (ho : o.op = .buildSlice 71 1 #[(0, x)]) (m : Oc) (hx : a.eval x = .agg (ocV m))
    (h : K (a.put o.dst (.slice (some ⟨w.heap.size, 0, none⟩) 1 1)) (w.alloc (.cells (ocV m) 96))) : o.wp Tryz.prog a w K Q := by
  obtain ⟨i0, hi, hz0, hz1, hz2⟩ := mg_parts oc_infos
  refine wp_buildSlice 71 96 1 _ ho (ocV m) i0 _ Tryz.underlying71 hi hz0 (by rw [hz1]; decide) (by rw [hz1]; decide) ?_ h
  rw [hz1]
  simp only [List.map_toArray, List.map_cons, List.map_nil, hx]
  exact fill_oc m
theorem wpList_bsO {w : World} {ops : Array Oper} {rest : List Oper} {o : Oper} {a : Act} {Q : Exit → Act → World → Prop} (hgd : o.guard = none) (x : Operand) (ho : o.op = .buildSlice 71 1 #[(0, x)]) (m : Oc) (hx : a.eval x = .agg (ocV m))
    (h : wpList Tryz.prog ops Q rest (a.put o.dst (.slice (some ⟨w.heap.size, 0, none⟩) 1 1)) (w.alloc (.cells (ocV m) 96))) : wpList Tryz.prog ops Q (o :: rest) a w :=
  wpList_plain hgd fun _ hK => wp_bsO x ho m hx (hK _ _ h)
theorem oc_cell (w : World) (m : Oc) : ∀ j u, (ocs [m])[j]? = some u → (w.alloc (.cells (ocV m) 96)).cell? ((⟨w.heap.size, 0, none⟩ : Addr).add j) = some u := by
  rw [ocs_one]
  intro j u hj
  rw [Addr.add_mid, Nat.zero_add, cell_row (heap_last w _)]
  simpa using hj
theorem oc_room {k : Nat} (h : k ≤ 1000000000000) : k + 1 ≤ maxLen ∧ (k + 1) * 64 ≤ 140737488355328 := by unfold maxLen; omega
theorem wpList_apO {w : World} {ops : Array Oper} {rest : List Oper} {o : Oper} {a : Act} {Q : Exit → Act → World → Prop} (hgd : o.guard = none) (x y : Operand) (ho : o.op = .call { callee := .builtin .append, args := #[x, y], argTypes := #[71, 71] }) (base : Nat) (v : Value) (L : List Oc) (hx : a.eval x = v) (hv : w.ownsRow base 96 6 v L.length (ocs L)) (g : Nat) (m : Oc) (hy : a.eval y = .slice (some ⟨g, 0, none⟩) 1 1) (hg : w.heap[g]? = some (.cells (ocV m) 96)) (hl : L.length ≤ 1000000000000) (hb : base ≤ w.heap.size)
    (h : ∀ v' w', w'.ownsRow base 96 6 v' (L.length + 1) (ocs (L ++ [m])) → w.grownBy w' v.ownBlock → wpList Tryz.prog ops Q rest (a.put o.dst v') w') : wpList Tryz.prog ops Q (o :: rest) a w := by
  obtain ⟨i0, hi, hz0, hz1, hz2⟩ := mg_parts oc_infos
  refine wpList_append_own_at _ hgd _ _ 71 ho base 96 i0 _ 6 64 Tryz.underlying71 hi hz0 hz1 hz2 rfl (by decide) _ _ _ hx hv ⟨g, 0, none⟩ 1 1 (ocs [m]) hy (by rw [ocs_one]; rfl) ?_ (ocs_oneCell _) (oc_room hl).1 (oc_room hl).2 hb ?_
  · rw [ocs_one]
    intro j u hj
    rw [Addr.add_mid, Nat.zero_add, cell_row hg]
    simpa using hj
  · intro v' w' h1 h2 _ _
    rw [← ocs_append] at h1
    exact h v' w' h1 h2
theorem wp_apM {w : World} {o : Oper} {a : Act} {K : Act → World → Prop} {Q : Exit → Act → World → Prop} (x y : Operand) (ho : o.op = .call { callee := .builtin .append, args := #[x, y], argTypes := #[35, 35] }) (base : Nat) (v : Value) (L : List Mg) (hx : a.eval x = v) (hv : w.ownsRow base 58 11 v L.length (mgs L)) (g : Nat) (m : Mg) (hy : a.eval y = .slice (some ⟨g, 0, none⟩) 1 1) (hg : w.heap[g]? = some (.cells (mgV m) 58)) (hl : L.length ≤ 1000000000000) (hb : base ≤ w.heap.size)
    (h : ∀ v' w', w'.ownsRow base 58 11 v' (L.length + 1) (mgs (L ++ [m])) → w.grownBy w' v.ownBlock → (v'.ownBlock = v.ownBlock ∨ v'.ownBlock = some w.heap.size) → K (a.put o.dst v') w') : o.wp Tryz.prog a w K Q := by
  obtain ⟨i0, hi, hz0, hz1, hz2⟩ := mg_parts mg_infos
  obtain ⟨v', w', hr, h2, h3, _, h5⟩ := run_append_own_at (P := Tryz.prog) w base 35 o.type 58 i0 _ 11 104 Tryz.underlying35 hi hz0 hz1 hz2 rfl (by decide) v L.length (mgs L) hv ⟨g, 0, none⟩ 1 1 (mgs [m]) (by rw [mgs_one]; rfl) (by
    rw [mgs_one]
    intro j u hj
    rw [Addr.add_mid, Nat.zero_add, cell_row hg]
    simpa using hj) (mgs_oneCell _) (mg_room hl).1 (mg_room hl).2 hb
  rw [← mgs_append] at h2
  unfold Oper.wp execOp
  simp only [ho, resolve, invoke, builtin, Sem.run_bind, Sem.run_pure, Result.andThen_ok, List.map_toArray, List.map_cons, List.map_nil, hx, hy, hr]
  exact h v' w' h2 h3 h5
theorem wp_apO {w : World} {o : Oper} {a : Act} {K : Act → World → Prop} {Q : Exit → Act → World → Prop} (x y : Operand) (ho : o.op = .call { callee := .builtin .append, args := #[x, y], argTypes := #[71, 71] }) (base : Nat) (v : Value) (L : List Oc) (hx : a.eval x = v) (hv : w.ownsRow base 96 6 v L.length (ocs L)) (g : Nat) (m : Oc) (hy : a.eval y = .slice (some ⟨g, 0, none⟩) 1 1) (hg : w.heap[g]? = some (.cells (ocV m) 96)) (hl : L.length ≤ 1000000000000) (hb : base ≤ w.heap.size)
    (h : ∀ v' w', w'.ownsRow base 96 6 v' (L.length + 1) (ocs (L ++ [m])) → w.grownBy w' v.ownBlock → (v'.ownBlock = v.ownBlock ∨ v'.ownBlock = some w.heap.size) → K (a.put o.dst v') w') : o.wp Tryz.prog a w K Q := by
  obtain ⟨i0, hi, hz0, hz1, hz2⟩ := mg_parts oc_infos
  obtain ⟨v', w', hr, h2, h3, _, h5⟩ := run_append_own_at (P := Tryz.prog) w base 71 o.type 96 i0 _ 6 64 Tryz.underlying71 hi hz0 hz1 hz2 rfl (by decide) v L.length (ocs L) hv ⟨g, 0, none⟩ 1 1 (ocs [m]) (by rw [ocs_one]; rfl) (by
    rw [ocs_one]
    intro j u hj
    rw [Addr.add_mid, Nat.zero_add, cell_row hg]
    simpa using hj) (ocs_oneCell _) (oc_room hl).1 (oc_room hl).2 hb
  rw [← ocs_append] at h2
  unfold Oper.wp execOp
  simp only [ho, resolve, invoke, builtin, Sem.run_bind, Sem.run_pure, Result.andThen_ok, List.map_toArray, List.map_cons, List.map_nil, hx, hy, hr]
  exact h v' w' h2 h3 h5
end Go.Proofs.YtndfhpfhgdamgaaGreatDoor.Cn
namespace Go.Proofs.YtndfhpfhgdamgaaGreatDoor.Cn
open Go.RowKit
/-- a get -/
structure Gt where
  tk : Int
  key : ByteArray
  ow : List Int
  asked : Nat
  since : Int
/-- a get, where it lies: its block, its owners' block -/
structure Gp where
  g : Gt
  b : Nat
  c : Nat
def gtA (p : Gp) : Array Value := #[.int .i64 p.g.tk, .string p.g.key, .slice (some ⟨p.c, 0, none⟩) p.g.ow.length p.g.ow.length, .int .i64 (p.g.asked : Int), .int .i64 p.g.since]
structure GpAt (w : World) (p : Gp) : Prop where
  blk : w.heap[p.b]? = some (.cells (gtA p) 139)
  row : Rw w p.c p.g.ow
/-- a cluster -/
structure Cl where
  st : ByteArray
  x : Nat → Int
  ns : List ND
/-- what a router has besides its cluster and its gets -/
structure Rv where
  d : Dt
  now : Int
  last : Int
def rtA (c : Cl) (nv : Value) (D M : Nat) (v : Rv) : Array Value := #[.string c.st, .int .i64 (c.x 0), .int .i64 (c.x 1), .int .i64 (c.x 2), .int .i64 (c.x 3), .int .i64 (c.x 4), .int .i64 (c.x 5), .int .i64 (c.x 6), .int .i64 (c.x 7), .int .i64 (c.x 8), .int .i64 (c.x 9), .int .i64 (c.x 10), .int .i64 (c.x 11), .int .i64 (c.x 12), .int .i64 (c.x 13), .int .i64 (c.x 14), .int .i64 (c.x 15), .int .i64 (c.x 16), .int .i64 (c.x 17), .int .i64 (c.x 18), .int .i64 (c.x 19), .int .i64 (c.x 20), nv, .pointer (some ⟨D, 0, none⟩), .int .i64 v.now, .int .i64 v.last, .map (some M)]
/-- nodes that stand in the blocks K -/
structure NsK (w : World) (K : Nat → Prop) (ao : Option Addr) (b o : Nat) (pv : Nat → Value) (ns : List ND) : Prop where
  keep : ∀ w' : World, w.heap.size ≤ w'.heap.size → (∀ k, K k → w'.heap[k]? = w.heap[k]?) → NsAt w'.heap.size w' ao b o pv ns
  kind : ∀ k, K k → ∃ A t fr, w.heap[k]? = some (.cells A t fr) ∧ (t = 87 ∨ t = 3)
theorem NsK.at {w : World} {K : Nat → Prop} {ao : Option Addr} {b o : Nat} {pv : Nat → Value} {ns : List ND} (h : NsK w K ao b o pv ns) : NsAt w.heap.size w ao b o pv ns := h.keep w (Nat.le_refl _) (fun _ _ => rfl)
theorem NsK.same {w w' : World} {K : Nat → Prop} {ao : Option Addr} {b o : Nat} {pv : Nat → Value} {ns : List ND} (h : NsK w K ao b o pv ns) (hs : w.heap.size ≤ w'.heap.size) (he : ∀ k, K k → w'.heap[k]? = w.heap[k]?) : NsK w' K ao b o pv ns :=
  ⟨fun w2 h2 e2 => h.keep w2 (Nat.le_trans hs h2) (fun k hk => (e2 k hk).trans (he k hk)), fun k hk => by rw [he k hk]; exact h.kind k hk⟩
theorem NsK.lt {w : World} {K : Nat → Prop} {ao : Option Addr} {b o : Nat} {pv : Nat → Value} {ns : List ND} (h : NsK w K ao b o pv ns) {k : Nat} (hk : K k) : k < w.heap.size := by
  obtain ⟨A, t, fr, e, _⟩ := h.kind k hk
  exact blk_lt e
theorem NsK.kp {w w' : World} {K S : Nat → Prop} {ao : Option Addr} {b o : Nat} {pv : Nat → Value} {ns : List ND} (h : NsK w K ao b o pv ns) (hk : Kp w w' S) (hS : ∀ k, K k → ¬ S k) : NsK w' K ao b o pv ns :=
  h.same hk.size (fun k q => hk.block k (h.lt q) (hS k q))
def gtE (P : List Gp) : List (Int × Value) := P.map fun p => (p.g.tk, .pointer (some ⟨p.b, 0, none⟩))
/-- where a router lies -/
structure RtX (w : World) (R : Nat) (c : Cl) (P : List Gp) (v : Rv) (D M : Nat) (S1 K : Nat → Prop) (ao : Option Addr) (nb no ncap : Nat) (pv : Nat → Value) : Prop where
  blk : w.heap[R]? = some (.cells (rtA c (.slice ao c.ns.length ncap) D M v) 85)
  det : DtAt w S1 D v.d
  map : Mp IT w M (gtE P)
  nM : ¬ S1 M
  gts : ∀ p ∈ P, GpAt w p
  nod : NsK w K ao nb no pv c.ns
def RtS (R M : Nat) (S1 K : Nat → Prop) (P : List Gp) : Nat → Prop := fun k => k = R ∨ S1 k ∨ k = M ∨ K k ∨ ∃ p ∈ P, k = p.b ∨ k = p.c
def RtAt (w : World) (S : Nat → Prop) (R : Nat) (c : Cl) (P : List Gp) (v : Rv) : Prop := ∃ D M S1 K ao nb no ncap pv, RtX w R c P v D M S1 K ao nb no ncap pv ∧ ∀ k, S k ↔ RtS R M S1 K P k
/-- the kinds of a router's blocks -/
inductive RtKind : Obj → Prop
  | map (es cl) : RtKind (.map es cl)
  | cells (A t fr) (h : t = 85 ∨ t = 121 ∨ t = 139 ∨ t = 87 ∨ t = 3) : RtKind (.cells A t fr)
inductive DtKind : Obj → Prop
  | map (es cl) : DtKind (.map es cl)
  | cells (A fr) : DtKind (.cells A 121 fr)
section
variable {w w' : World} {R : Nat} {c : Cl} {P : List Gp} {v : Rv} {D M : Nat} {S S1 K : Nat → Prop} {ao : Option Addr} {nb no ncap : Nat} {pv : Nat → Value} {d : Dt}
theorem DtAt.kind (h : DtAt w S D d) {k : Nat} (hk : S k) : ∃ o, w.heap[k]? = some o ∧ DtKind o := by
  obtain ⟨M1, M2, L1, L2, hi, hS⟩ := h
  rcases (hS k).1 hk with rfl | rfl | rfl
  · exact ⟨_, hi.blk, .cells _ _⟩
  · obtain ⟨es, cl, hb, _⟩ := hi.m1
    exact ⟨_, hb, .map _ _⟩
  · obtain ⟨es, cl, hb, _⟩ := hi.m2
    exact ⟨_, hb, .map _ _⟩
theorem DtAt.not (h : DtAt w S D d) {k : Nat} {A : Array Value} {t : TypeId} {fr : Nat × Nat} (hk : w.heap[k]? = some (.cells A t fr)) (ht : t ≠ 121) : ¬ S k := fun hs => by
  obtain ⟨o, ho, hq⟩ := h.kind hs
  rw [hk] at ho
  cases hq with
  | map es cl => simp at ho
  | cells A' fr' => simp only [Option.some.injEq, Obj.cells.injEq] at ho; exact ht ho.2.1
theorem RtX.kind (h : RtX w R c P v D M S1 K ao nb no ncap pv) {k : Nat} (hk : RtS R M S1 K P k) : ∃ o, w.heap[k]? = some o ∧ RtKind o := by
  rcases hk with rfl | hk | rfl | hk | ⟨p, hp, rfl | rfl⟩
  · exact ⟨_, h.blk, .cells _ _ _ (Or.inl rfl)⟩
  · obtain ⟨o, ho, hq⟩ := h.det.kind hk
    refine ⟨o, ho, ?_⟩
    cases hq with
    | map es cl => exact .map _ _
    | cells A fr => exact .cells _ _ _ (Or.inr (Or.inl rfl))
  · obtain ⟨es, cl, hb, _⟩ := h.map
    exact ⟨_, hb, .map _ _⟩
  · obtain ⟨A, t, fr, e, ht⟩ := h.nod.kind k hk
    exact ⟨_, e, .cells _ _ _ (Or.inr (Or.inr (Or.inr ht)))⟩
  · exact ⟨_, (h.gts p hp).blk, .cells _ _ _ (Or.inr (Or.inr (Or.inl rfl)))⟩
  · exact ⟨_, (h.gts p hp).row, .cells _ _ _ (Or.inr (Or.inr (Or.inr (Or.inr rfl))))⟩
theorem RtAt.kind (h : RtAt w S R c P v) {k : Nat} (hk : S k) : ∃ o, w.heap[k]? = some o ∧ RtKind o := by
  obtain ⟨D, M, S1, K, ao, nb, no, ncap, pv, hx, hS⟩ := h
  exact hx.kind ((hS k).1 hk)
/-- a block of another kind is none of its blocks -/
theorem RtAt.not (h : RtAt w S R c P v) {k : Nat} {A : Array Value} {t : TypeId} {fr : Nat × Nat} (hk : w.heap[k]? = some (.cells A t fr)) (ht : ¬ (t = 85 ∨ t = 121 ∨ t = 139 ∨ t = 87 ∨ t = 3)) : ¬ S k := fun hs => by
  obtain ⟨o, ho, hq⟩ := h.kind hs
  rw [hk] at ho
  cases hq with
  | map es cl => simp at ho
  | cells A' t' fr' h' => simp only [Option.some.injEq, Obj.cells.injEq] at ho; rw [← ho.2.1] at h'; exact ht h'
theorem RtAt.lt (h : RtAt w S R c P v) {k : Nat} (hk : S k) : k < w.heap.size := by
  obtain ⟨o, ho, _⟩ := h.kind hk
  exact blk_lt ho
theorem GpAt.kp {p : Gp} {T : Nat → Prop} (h : GpAt w p) (hk : Kp w w' T) (h1 : ¬ T p.b) (h2 : ¬ T p.c) : GpAt w' p := ⟨(hk.block _ (blk_lt h.blk) h1).trans h.blk, (hk.block _ (blk_lt h.row) h2).trans h.row⟩
theorem RtX.kp (h : RtX w R c P v D M S1 K ao nb no ncap pv) {T : Nat → Prop} (hk : Kp w w' T) (hT : ∀ k, RtS R M S1 K P k → ¬ T k) : RtX w' R c P v D M S1 K ao nb no ncap pv :=
  ⟨(hk.block _ (blk_lt h.blk) (hT _ (Or.inl rfl))).trans h.blk, h.det.kp hk (fun k q => hT k (Or.inr (Or.inl q))), h.map.kp hk (hT _ (Or.inr (Or.inr (Or.inl rfl)))), h.nM, fun p hp => (h.gts p hp).kp hk (hT _ (Or.inr (Or.inr (Or.inr (Or.inr ⟨p, hp, Or.inl rfl⟩))))) (hT _ (Or.inr (Or.inr (Or.inr (Or.inr ⟨p, hp, Or.inr rfl⟩))))), h.nod.kp hk (fun k q => hT k (Or.inr (Or.inr (Or.inr (Or.inl q)))))⟩
theorem RtAt.kp (h : RtAt w S R c P v) {T : Nat → Prop} (hk : Kp w w' T) (hT : ∀ k, S k → ¬ T k) : RtAt w' S R c P v := by
  obtain ⟨D, M, S1, K, ao, nb, no, ncap, pv, hx, hS⟩ := h
  exact ⟨D, M, S1, K, ao, nb, no, ncap, pv, hx.kp hk (fun k q => hT k ((hS k).2 q)), hS⟩
theorem RtAt.self (h : RtAt w S R c P v) : S R := by
  obtain ⟨D, M, S1, K, ao, nb, no, ncap, pv, hx, hS⟩ := h
  exact (hS R).2 (Or.inl rfl)
/-- the detector has changed -/
theorem RtX.watch (h : RtX w R c P v D M S1 K ao nb no ncap pv) {d' : Dt} (hd : DtAt w' S1 D d') (hk : Kp w w' S1) : RtX w' R c P { v with d := d' } D M S1 K ao nb no ncap pv := by
  have nR : ¬ S1 R := h.det.not h.blk (by decide)
  have nK : ∀ k, K k → ¬ S1 k := fun k hK => by
    obtain ⟨A, t, fr, e, ht⟩ := h.nod.kind k hK
    exact h.det.not e (by rcases ht with rfl | rfl <;> decide)
  exact ⟨(hk.block _ (blk_lt h.blk) nR).trans h.blk, hd, h.map.kp hk h.nM, h.nM, fun p hp => (h.gts p hp).kp hk (h.det.not (h.gts p hp).blk (by decide)) (h.det.not (h.gts p hp).row (by decide)), h.nod.kp hk nK⟩
theorem RtX.cells (h : RtX w R c P v D M S1 K ao nb no ncap pv) : w.cell? ⟨R, 18, none⟩ = some (.int .i64 (c.x 17)) ∧ w.cell? ⟨R, 21, none⟩ = some (.int .i64 (c.x 20)) ∧ w.cell? ⟨R, 22, none⟩ = some (.slice ao c.ns.length ncap) ∧ w.cell? ⟨R, 23, none⟩ = some (.pointer (some ⟨D, 0, none⟩)) ∧ w.cell? ⟨R, 24, none⟩ = some (.int .i64 v.now) ∧ w.cell? ⟨R, 25, none⟩ = some (.int .i64 v.last) ∧ w.cell? ⟨R, 26, none⟩ = some (.map (some M)) := by
  simp only [cell_row h.blk]
  exact ⟨rfl, rfl, rfl, rfl, rfl, rfl, rfl⟩
theorem RtX.fz (h : RtX w R c P v D M S1 K ao nb no ncap pv) (i : Nat) : w.frozen? ⟨R, i, none⟩ = false := fz_row h.blk i
theorem GpAt.cells {p : Gp} (h : GpAt w p) : w.cell? ⟨p.b, 0, none⟩ = some (.int .i64 p.g.tk) ∧ w.cell? ⟨p.b, 1, none⟩ = some (.string p.g.key) ∧ w.cell? ⟨p.b, 2, none⟩ = some (.slice (some ⟨p.c, 0, none⟩) p.g.ow.length p.g.ow.length) ∧ w.cell? ⟨p.b, 3, none⟩ = some (.int .i64 (p.g.asked : Int)) ∧ w.cell? ⟨p.b, 4, none⟩ = some (.int .i64 p.g.since) := by
  simp only [cell_row h.blk]
  exact ⟨rfl, rfl, rfl, rfl, rfl⟩
theorem GpAt.fz {p : Gp} (h : GpAt w p) (i : Nat) : w.frozen? ⟨p.b, i, none⟩ = false := fz_row h.blk i
end
/-- what comes of a call -/
structure NwX (w : World) (base Nb : Nat) (vo ve : Value) (L : List Mg) (E : List Oc) : Prop where
  blk : w.heap[Nb]? = some (.cells #[vo, ve] 102)
  ge : base ≤ Nb
  out : w.ownsRow base 58 11 vo L.length (mgs L)
  ends : w.ownsRow base 96 6 ve E.length (ocs E)
def NwS (Nb : Nat) (vo ve : Value) : Nat → Prop := fun k => k = Nb ∨ vo.ownBlock = some k ∨ ve.ownBlock = some k
def NwAt (w : World) (base : Nat) (N : Nat → Prop) (Nb : Nat) (L : List Mg) (E : List Oc) : Prop := ∃ vo ve, NwX w base Nb vo ve L E ∧ ∀ k, N k ↔ NwS Nb vo ve k
section
variable {w w' : World} {base Nb : Nat} {vo ve : Value} {L : List Mg} {E : List Oc} {N S : Nat → Prop} {R : Nat} {c : Cl} {P : List Gp} {v : Rv}
theorem own_cells {X : World} {b0 e sz n g : Nat} {v : Value} {xs : List Value} (h : X.ownsRow b0 e sz v n xs) (hg : v.ownBlock = some g) : b0 ≤ g ∧ ∃ cur, X.heap[g]? = some (.cells cur e) := ⟨own_ge h hg, own_typ h hg⟩
theorem NwX.kind (h : NwX w base Nb vo ve L E) {k : Nat} (hk : NwS Nb vo ve k) : base ≤ k ∧ ∃ A t, w.heap[k]? = some (.cells A t) ∧ (t = 102 ∨ t = 58 ∨ t = 96) := by
  rcases hk with rfl | hk | hk
  · exact ⟨h.ge, _, _, h.blk, Or.inl rfl⟩
  · obtain ⟨h1, cur, h2⟩ := own_cells h.out hk
    exact ⟨h1, _, _, h2, Or.inr (Or.inl rfl)⟩
  · obtain ⟨h1, cur, h2⟩ := own_cells h.ends hk
    exact ⟨h1, _, _, h2, Or.inr (Or.inr rfl)⟩
theorem NwX.kp (h : NwX w base Nb vo ve L E) {T : Nat → Prop} (hk : Kp w w' T) (hT : ∀ k, NwS Nb vo ve k → ¬ T k) : NwX w' base Nb vo ve L E :=
  ⟨(hk.block _ (blk_lt h.blk) (hT _ (Or.inl rfl))).trans h.blk, h.ge, own_kp h.out hk (fun k q => hT k (Or.inr (Or.inl q))), own_kp h.ends hk (fun k q => hT k (Or.inr (Or.inr q)))⟩
theorem NwAt.kind (h : NwAt w base N Nb L E) {k : Nat} (hk : N k) : base ≤ k ∧ ∃ A t, w.heap[k]? = some (.cells A t) ∧ (t = 102 ∨ t = 58 ∨ t = 96) := by
  obtain ⟨vo, ve, hx, hN⟩ := h
  exact hx.kind ((hN k).1 hk)
theorem NwAt.kp (h : NwAt w base N Nb L E) {T : Nat → Prop} (hk : Kp w w' T) (hT : ∀ k, N k → ¬ T k) : NwAt w' base N Nb L E := by
  obtain ⟨vo, ve, hx, hN⟩ := h
  exact ⟨vo, ve, hx.kp hk (fun k q => hT k ((hN k).2 q)), hN⟩
theorem RtAt.apart (h : RtAt w S R c P v) (hn : NwAt w base N Nb L E) : ∀ k, S k → ¬ N k := fun k hs hk => by
  obtain ⟨_, A, t, e, ht⟩ := hn.kind hk
  exact h.not e (by rcases ht with rfl | rfl | rfl <;> decide) hs
theorem NwX.ne_out (h : NwX w base Nb vo ve L E) : vo.ownBlock ≠ some Nb := fun e => by
  obtain ⟨_, cur, h2⟩ := own_cells h.out e
  have := h.blk.symm.trans h2
  simp at this
theorem NwX.ne_ends (h : NwX w base Nb vo ve L E) : ve.ownBlock ≠ some Nb := fun e => by
  obtain ⟨_, cur, h2⟩ := own_cells h.ends e
  have := h.blk.symm.trans h2
  simp at this
theorem NwX.ne_two (h : NwX w base Nb vo ve L E) {k : Nat} (h1 : vo.ownBlock = some k) : ve.ownBlock ≠ some k := fun e => by
  obtain ⟨_, cur, h2⟩ := own_cells h.out h1
  obtain ⟨_, cur', h3⟩ := own_cells h.ends e
  have := h2.symm.trans h3
  simp at this
/-- a message goes out: it was appended, and the list put down -/
theorem NwX.app (h : NwX w base Nb vo ve L E) {m : Mg} {w1 : World} {vo' : Value} (ho : w1.ownsRow base 58 11 vo' (L.length + 1) (mgs (L ++ [m]))) (hg : w.grownBy w1 vo.ownBlock) (hn : vo'.ownBlock = vo.ownBlock ∨ vo'.ownBlock = some w.heap.size) :
    w1.heap[Nb]? = w.heap[Nb]? ∧ NwX (w1.setCell ⟨Nb, 0, none⟩ vo') base Nb vo' ve (L ++ [m]) E ∧ Kp w (w1.setCell ⟨Nb, 0, none⟩ vo') (NwS Nb vo ve) ∧ ∀ k, NwS Nb vo' ve k → NwS Nb vo ve k ∨ w.heap.size ≤ k := by
  have k1 := Kp.of_grown hg
  have e1 : w1.heap[Nb]? = w.heap[Nb]? := k1.block _ (blk_lt h.blk) (fun e => h.ne_out e.symm)
  have b1 := e1.trans h.blk
  have k2 : Kp w1 (w1.setCell ⟨Nb, 0, none⟩ vo') (fun k => k = Nb) := (Kp.refl w1 (fun k => k = Nb)).set (Or.inl rfl) _ _
  have hne : vo'.ownBlock ≠ some Nb := fun e => by
    rcases hn with q | q
    · exact h.ne_out (q.symm.trans e)
    · have := blk_lt h.blk
      rw [e] at q
      simp at q
      omega
  refine ⟨e1, ⟨?_, h.ge, ?_, ?_⟩, (k1.mono (T := NwS Nb vo ve) (fun k q => Or.inr (Or.inl q.symm))).trans k2 (fun k q => Or.inl (Or.inl q)), fun k q => ?_⟩
  · rw [heap_setCell _ _ _ _ _ _ _ b1]; rfl
  · rw [List.length_append]
    exact own_kp ho k2 (fun k e q => hne (q ▸ e))
  · exact own_kp (own_kp h.ends k1 (fun k e q => h.ne_two q.symm e)) k2 (fun k e q => h.ne_ends (q ▸ e))
  · rcases q with q | q | q
    · exact Or.inl (Or.inl q)
    · rcases hn with r | r
      · exact Or.inl (Or.inr (Or.inl (r.symm.trans q)))
      · rw [q] at r
        simp at r
        exact Or.inr (by omega)
    · exact Or.inl (Or.inr (Or.inr q))
/-- an outcome more -/
theorem NwX.end1 (h : NwX w base Nb vo ve L E) {m : Oc} {w1 : World} {ve' : Value} (ho : w1.ownsRow base 96 6 ve' (E.length + 1) (ocs (E ++ [m]))) (hg : w.grownBy w1 ve.ownBlock) (hn : ve'.ownBlock = ve.ownBlock ∨ ve'.ownBlock = some w.heap.size) :
    w1.heap[Nb]? = w.heap[Nb]? ∧ NwX (w1.setCell ⟨Nb, 1, none⟩ ve') base Nb vo ve' L (E ++ [m]) ∧ Kp w (w1.setCell ⟨Nb, 1, none⟩ ve') (NwS Nb vo ve) ∧ ∀ k, NwS Nb vo ve' k → NwS Nb vo ve k ∨ w.heap.size ≤ k := by
  have k1 := Kp.of_grown hg
  have e1 : w1.heap[Nb]? = w.heap[Nb]? := k1.block _ (blk_lt h.blk) (fun e => h.ne_ends e.symm)
  have b1 := e1.trans h.blk
  have k2 : Kp w1 (w1.setCell ⟨Nb, 1, none⟩ ve') (fun k => k = Nb) := (Kp.refl w1 (fun k => k = Nb)).set (Or.inl rfl) _ _
  have hne : ve'.ownBlock ≠ some Nb := fun e => by
    rcases hn with q | q
    · exact h.ne_ends (q.symm.trans e)
    · have := blk_lt h.blk
      rw [e] at q
      simp at q
      omega
  refine ⟨e1, ⟨?_, h.ge, ?_, ?_⟩, (k1.mono (T := NwS Nb vo ve) (fun k q => Or.inr (Or.inr q.symm))).trans k2 (fun k q => Or.inl (Or.inl q)), fun k q => ?_⟩
  · rw [heap_setCell _ _ _ _ _ _ _ b1]; rfl
  · exact own_kp (own_kp h.out k1 (fun k e q => h.ne_two e q.symm)) k2 (fun k e q => h.ne_out (q ▸ e))
  · rw [List.length_append]
    exact own_kp ho k2 (fun k e q => hne (q ▸ e))
  · rcases q with q | q | q
    · exact Or.inl (Or.inl q)
    · exact Or.inl (Or.inr (Or.inl q))
    · rcases hn with r | r
      · exact Or.inl (Or.inr (Or.inr (r.symm.trans q)))
      · rw [q] at r
        simp at r
        exact Or.inr (by omega)
end
end Go.Proofs.YtndfhpfhgdamgaaGreatDoor.Cn
namespace Go.Proofs.YtndfhpfhgdamgaaGreatDoor.Cn
open Go.RowKit
def askG (now : Int) (g : Gt) : Gt := { g with asked := g.asked + 1, since := now }
def lastA (g : Gt) : Int := atL g.ow (g.asked - 1)
def getMg (g : Gt) : Mg := ⟨11, 65, lastA g, g.tk, 0, 0, 0, 0, 0, g.key, ⟨#[]⟩⟩
def noOc (g : Gt) : Oc := ⟨g.tk, g.key, 171, -1, 0, ⟨#[]⟩⟩
def gone (gs : List Gt) (t : Int) : List Gt := gs.filter fun g => decide (g.tk ≠ t)
def askd (gs : List Gt) (t now : Int) : List Gt := gs.map fun g => if g.tk = t then askG now g else g
def goneP (P : List Gp) (t : Int) : List Gp := P.filter fun p => decide (p.g.tk ≠ t)
def askdP (P : List Gp) (t now : Int) : List Gp := P.map fun p => if p.g.tk = t then { p with g := askG now p.g } else p
theorem goneP_g (P : List Gp) (t : Int) : (goneP P t).map (·.g) = gone (P.map (·.g)) t := by
  unfold goneP gone
  rw [List.filter_map]
  rfl
theorem askdP_g (P : List Gp) (t now : Int) : (askdP P t now).map (·.g) = askd (P.map (·.g)) t now := by
  unfold askdP askd
  rw [List.map_map, List.map_map]
  congr 1
  funext p
  simp only [Function.comp_apply]
  split <;> rfl
theorem gtE_gone (P : List Gp) (t : Int) : gtE (goneP P t) = dele (gtE P) t := by
  unfold gtE goneP dele
  rw [List.filter_map]
  rfl
theorem gtE_askd (P : List Gp) (t now : Int) : gtE (askdP P t now) = gtE P := by
  unfold gtE askdP
  rw [List.map_map]
  congr 1
  funext p
  simp only [Function.comp_apply]
  split <;> rfl
theorem RtX.nd {w : World} {R : Nat} {c : Cl} {P : List Gp} {v : Rv} {D M : Nat} {S1 K : Nat → Prop} {ao : Option Addr} {nb no ncap : Nat} {pv : Nat → Value} (h : RtX w R c P v D M S1 K ao nb no ncap pv) : (P.map fun p => p.g.tk).Nodup := by
  have := h.map.nd
  unfold gtE at this
  rw [List.map_map] at this
  exact this
theorem nd_inj {P : List Gp} (h : (P.map fun p => p.g.tk).Nodup) {p q : Gp} (hp : p ∈ P) (hq : q ∈ P) (e : p.g.tk = q.g.tk) : p = q := by
  induction P with
  | nil => simp at hp
  | cons a r ih =>
    rw [List.map_cons, List.nodup_cons] at h
    rcases List.mem_cons.1 hp with rfl | hp'
    · rcases List.mem_cons.1 hq with rfl | hq'
      · rfl
      · exact absurd (List.mem_map.2 ⟨q, hq', e.symm⟩) h.1
    · rcases List.mem_cons.1 hq with rfl | hq'
      · exact absurd (List.mem_map.2 ⟨p, hp', e⟩) h.1
      · exact ih h.2 hp' hq'
section
variable {w w' : World} {R : Nat} {c : Cl} {P : List Gp} {v : Rv} {D M : Nat} {S S1 K : Nat → Prop} {ao : Option Addr} {nb no ncap : Nat} {pv : Nat → Value} {p : Gp}
theorem RtX.ne_b (h : RtX w R c P v D M S1 K ao nb no ncap pv) (hp : p ∈ P) : R ≠ p.b ∧ R ≠ p.c ∧ R ≠ M ∧ p.b ≠ M ∧ p.c ≠ M ∧ ¬ S1 R ∧ ¬ S1 p.b ∧ ¬ S1 p.c ∧ p.b ≠ p.c := by
  have hg := h.gts p hp
  refine ⟨fun e => ?_, fun e => ?_, fun e => ?_, fun e => ?_, fun e => ?_, h.det.not h.blk (by decide), h.det.not hg.blk (by decide), h.det.not hg.row (by decide), fun e => ?_⟩
  · have := h.blk.symm.trans (e ▸ hg.blk)
    simp at this
  · have := h.blk.symm.trans (e ▸ hg.row)
    simp at this
  · exact h.map.kind (e ▸ h.blk)
  · exact h.map.kind (e ▸ hg.blk)
  · exact h.map.kind (e ▸ hg.row)
  · have := hg.blk.symm.trans (e ▸ hg.row)
    simp at this
theorem RtX.nK (h : RtX w R c P v D M S1 K ao nb no ncap pv) {k : Nat} (hk : K k) : k ≠ R ∧ k ≠ M ∧ ¬ S1 k ∧ ∀ p ∈ P, k ≠ p.b := by
  obtain ⟨A, t, fr, e, ht⟩ := h.nod.kind k hk
  refine ⟨fun q => ?_, fun q => ?_, h.det.not e (by rcases ht with rfl | rfl <;> decide), fun p hp q => ?_⟩
  · have := e.symm.trans (q ▸ h.blk)
    simp only [Option.some.injEq, Obj.cells.injEq] at this
    rcases ht with rfl | rfl <;> simp at this
  · exact h.map.kind (q ▸ e)
  · have := e.symm.trans (q ▸ (h.gts p hp).blk)
    simp only [Option.some.injEq, Obj.cells.injEq] at this
    rcases ht with rfl | rfl <;> simp at this
/-- two gets do not share a block -/
theorem RtX.inj (h : RtX w R c P v D M S1 K ao nb no ncap pv) {q : Gp} (hp : p ∈ P) (hq : q ∈ P) (hne : q.g.tk ≠ p.g.tk) : q.b ≠ p.b ∧ q.c ≠ p.b := by
  refine ⟨fun e => ?_, fun e => ?_⟩
  · have := (h.gts q hq).blk.symm.trans (e ▸ (h.gts p hp).blk)
    simp only [Option.some.injEq, Obj.cells.injEq] at this
    have := this.1
    unfold gtA at this
    simp at this
    exact hne this.1
  · have := (h.gts q hq).row.symm.trans (e ▸ (h.gts p hp).blk)
    simp at this
/-- the get is asked on: two cells of its block -/
theorem RtX.ask (h : RtX w R c P v D M S1 K ao nb no ncap pv) (hp : p ∈ P) : RtX ((w.setCell ⟨p.b, 3, none⟩ (.int .i64 ((p.g.asked : Int) + 1))).setCell ⟨p.b, 4, none⟩ (.int .i64 v.now)) R c (askdP P p.g.tk v.now) v D M S1 K ao nb no ncap pv ∧ GpAt ((w.setCell ⟨p.b, 3, none⟩ (.int .i64 ((p.g.asked : Int) + 1))).setCell ⟨p.b, 4, none⟩ (.int .i64 v.now)) { p with g := askG v.now p.g } := by
  have hk : Kp w ((w.setCell ⟨p.b, 3, none⟩ (.int .i64 ((p.g.asked : Int) + 1))).setCell ⟨p.b, 4, none⟩ (.int .i64 v.now)) (fun k => k = p.b) := ((Kp.refl w (fun k => k = p.b)).set (Or.inl rfl) _ _).set (Or.inl rfl) _ _
  have hg := h.gts p hp
  obtain ⟨n1, n2, n3, n4, n5, n6, n7, n8, n9⟩ := h.ne_b hp
  have hG : GpAt ((w.setCell ⟨p.b, 3, none⟩ (.int .i64 ((p.g.asked : Int) + 1))).setCell ⟨p.b, 4, none⟩ (.int .i64 v.now)) { p with g := askG v.now p.g } := by
    refine ⟨?_, (hk.block _ (blk_lt hg.row) (fun e => n9 e.symm)).trans hg.row⟩
    have e1 := heap_setCell w p.b 3 (.int .i64 ((p.g.asked : Int) + 1)) _ _ _ hg.blk
    have e2 := heap_setCell _ p.b 4 (.int .i64 v.now) _ _ _ e1
    refine e2.trans ?_
    unfold gtA askG
    simp
  refine ⟨⟨(hk.block _ (blk_lt h.blk) n1).trans h.blk, h.det.kp hk (fun k q e => n7 (e ▸ q)), by rw [gtE_askd]; exact h.map.kp hk (fun e => n4 e.symm), h.nM, fun q hq => ?_, h.nod.kp hk (fun k q e => (h.nK q).2.2.2 p hp e)⟩, hG⟩
  obtain ⟨q0, hq0, rfl⟩ := List.mem_map.1 hq
  by_cases e : q0.g.tk = p.g.tk
  · rw [if_pos e]
    have := nd_inj h.nd hq0 hp e
    subst this
    exact hG
  · rw [if_neg e]
    obtain ⟨m1, m2⟩ := h.inj hp hq0 e
    exact (h.gts q0 hq0).kp hk m1 m2
theorem RtS.ask {k : Nat} {t now : Int} : RtS R M S1 K (askdP P t now) k ↔ RtS R M S1 K P k := by
  unfold RtS askdP
  have : (∃ p ∈ List.map (fun p : Gp => if p.g.tk = t then { p with g := askG now p.g } else p) P, k = p.b ∨ k = p.c) ↔ ∃ p ∈ P, k = p.b ∨ k = p.c := by
    constructor
    · rintro ⟨q, hq, e⟩
      obtain ⟨q0, h0, rfl⟩ := List.mem_map.1 hq
      refine ⟨q0, h0, ?_⟩
      split at e <;> exact e
    · rintro ⟨q, hq, e⟩
      refine ⟨_, List.mem_map.2 ⟨q, hq, rfl⟩, ?_⟩
      split <;> exact e
  rw [this]
/-- the get is gone -/
theorem RtX.del (h : RtX w R c P v D M S1 K ao nb no ncap pv) {t : Int} (hm : Mp IT w' M (dele (gtE P) t)) (hk : Kp w w' (fun b => b = M)) : RtX w' R c (goneP P t) v D M S1 K ao nb no ncap pv := by
  refine ⟨(hk.block _ (blk_lt h.blk) (fun e => h.map.kind (e ▸ h.blk))).trans h.blk, h.det.kp hk (fun k q e => h.nM (e ▸ q)), by rw [gtE_gone]; exact hm, h.nM, fun q hq => ?_, h.nod.kp hk (fun k q e => (h.nK q).2.1 e)⟩
  have hq' := (List.mem_filter.1 hq).1
  obtain ⟨n1, n2, n3, n4, n5, n6, n7, n8, n9⟩ := h.ne_b hq'
  exact (h.gts q hq').kp hk n4 n5
theorem RtS.del {k : Nat} {t : Int} (hk : RtS R M S1 K (goneP P t) k) : RtS R M S1 K P k := by
  rcases hk with h | h | h | h | ⟨q, hq, h⟩
  · exact Or.inl h
  · exact Or.inr (Or.inl h)
  · exact Or.inr (Or.inr (Or.inl h))
  · exact Or.inr (Or.inr (Or.inr (Or.inl h)))
  · exact Or.inr (Or.inr (Or.inr (Or.inr ⟨q, (List.mem_filter.1 hq).1, h⟩)))
end
set_option maxHeartbeats 4000000 in
set_option maxRecDepth 100000 in
set_option linter.unusedSimpArgs false in
set_option linter.unusedVariables false in
theorem lastAsked_any {w : World} {p : Gp} (h : GpAt w p) (h1 : 1 ≤ p.g.asked) (h2 : p.g.asked ≤ p.g.ow.length) (hl : p.g.ow.length ≤ 300) :
    Calls Tryz.prog 52 #[.pointer (some ⟨p.b, 0, none⟩)] w fun e w' => e = .returned (.int .i64 (lastA p.g)) ∧ ∃ n, w' = w.drewN n := by
  have c2 := h.cells.2.2.1
  have c3 := h.cells.2.2.2.1
  have cc := h.row.cell (i := p.g.asked - 1) (by omega)
  have HV : Hid (lastA p.g = atL p.g.ow (p.g.asked - 1)) := rfl
  generalize lastA p.g = la at *
  obtain ⟨q, hq⟩ : ∃ q, p.g.asked = q + 1 := ⟨p.g.asked - 1, by omega⟩
  rw [hq] at c3 cc h1 h2 HV
  rw [show q + 1 - 1 = q by omega] at cc HV
  have ec : ((q + 1 : Nat) : Int) = (q : Int) + 1 := by omega
  rw [ec] at c3
  have hw := wrap_in (x := (q : Int) + 1 - 1) (by omega) (by omega)
  have hlt : (q : Int) < (p.g.ow.length : Int) := by omega
  generalize p.g.ow.length = n at *
  generalize atL p.g.ow q = z at *
  generalize p.b = b at *
  generalize p.c = cb at *
  clear h hq
  go_enter Tryz.func52, Tryz.ntmps52
  go_wp2_with fail
  go_quiet (fail)
  go_wp2_with fail
  go_ret
  exact ⟨by rw [HV.out]; rfl, nq, rfl⟩
end Go.Proofs.YtndfhpfhgdamgaaGreatDoor.Cn
