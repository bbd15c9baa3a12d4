import Derived.Test.YtpleakkhbfhdkaaProg
import Derived.WalkKit
import Derived.WalkSpells
import Derived.WalkLawsBesides
import Derived.Laws.OwnMore
import Derived.Laws.MakeOwn
import Derived.Laws.CopyOwn
import Derived.Below
import Derived.Lib.MinMax
import Derived.Deep.RegionHeld3
import Derived.Deep.QuietTactic
import Derived.BigQuiet
import Derived.Deep.DeepCutAuto
import Derived.Maps.AppendAt
import Derived.Deep.WholeRow
import Derived.Great.BuildSlice
import Derived.Deep.MidRow
import Derived.Laws.AppendOwnNone
import Derived.Carry
namespace Go.Proofs.Ytpleakkhbfhdkaa.Cn
open Go.RowKit
theorem hide {p : Prop} (h : p) : Hid p := h
theorem i64_in {x : Int} (h0 : -9223372036854775808 ≤ x) (h1 : x < 9223372036854775808) : IntKind.i64.wrap x = x := by
  simp [IntKind.wrap, IntKind.signed, IntKind.bits]; omega
theorem wrap_in {x : Int} (h0 : -9223372036854775808 ≤ x) (h1 : x < 9223372036854775808) : wrap64 x = x := by unfold wrap64; omega
theorem via {P Q : Prop} {R : Prop} (f : R → P ∧ Q) (r : R) : P ∧ Q := f r
theorem blk_lt {w : World} {b : Nat} {o : Obj} (h : w.heap[b]? = some o) : b < w.heap.size := (Array.getElem?_eq_some_iff.1 h).1
theorem heap_last (w : World) (o : Obj) : (w.alloc o).heap[w.heap.size]? = some o := by
  unfold World.alloc
  exact Array.getElem?_push_size
theorem heap_setCell (w : World) (b o : Nat) (v : Value) (c : Array Value) (t : TypeId) (fr : Nat × Nat) (h : w.heap[b]? = some (.cells c t fr)) : (w.setCell ⟨b, o, none⟩ v).heap[b]? = some (.cells (c.setIfInBounds o v) t fr) := by
  simp only [World.setCell, Array.getElem?_modify, if_true, h, Option.map_some]
  rfl
/-- what has happened: all but the blocks of S are as they were -/
structure Kp (w w' : World) (S : Nat → Prop) : Prop where
  os : w'.os = w.os
  tape : w'.tape = w.tape
  output : w'.output = w.output
  size : w.heap.size ≤ w'.heap.size
  block : ∀ k, k < w.heap.size → ¬ S k → w'.heap[k]? = w.heap[k]?
def non : Nat → Prop := fun _ => False
theorem Kp.refl (w : World) (S : Nat → Prop) : Kp w w S := ⟨rfl, rfl, rfl, Nat.le_refl _, fun _ _ _ => rfl⟩
theorem Kp.trans {w w1 w2 : World} {S T : Nat → Prop} (h : Kp w w1 S) (h' : Kp w1 w2 T) (hT : ∀ k, T k → S k ∨ w.heap.size ≤ k) : Kp w w2 S :=
  ⟨h'.os.trans h.os, h'.tape.trans h.tape, h'.output.trans h.output, Nat.le_trans h.size h'.size, fun k hk hs => (h'.block k (Nat.lt_of_lt_of_le hk h.size) (fun t => by rcases hT k t with a | a; exact hs a; omega)).trans (h.block k hk hs)⟩
theorem Kp.mono {w w' : World} {S T : Nat → Prop} (h : Kp w w' S) (hT : ∀ k, S k → T k) : Kp w w' T := ⟨h.os, h.tape, h.output, h.size, fun k hk hs => h.block k hk (fun s => hs (hT k s))⟩
theorem Kp.of_below {w w' : World} (h : Below w.heap.size w w') (S : Nat → Prop) : Kp w w' S := ⟨h.os, h.tape, h.output, h.size, fun k hk _ => h.block k hk⟩
theorem Kp.below {w w' : World} (h : Kp w w' non) : Below w.heap.size w w' := ⟨h.os, h.tape, h.output, h.size, fun k hk => h.block k hk (fun f => f)⟩
theorem Kp.of_grown {w w' : World} {r : Option Nat} (h : w.grownBy w' r) : Kp w w' (fun k => some k = r) := ⟨h.os, h.tape, h.output, h.size, fun k hk hs => h.block k hk hs⟩
theorem Kp.drewN {w w' : World} {S : Nat → Prop} (h : Kp w w' S) (n : Nat) : Kp w (w'.drewN n) S := ⟨h.os, h.tape, h.output, h.size, h.block⟩
theorem Kp.drew {w w' : World} {S : Nat → Prop} (h : Kp w w' S) : Kp w w'.drew S := ⟨h.os, h.tape, h.output, h.size, h.block⟩
theorem Kp.alloc {w w' : World} {S : Nat → Prop} (h : Kp w w' S) (o : Obj) : Kp w (w'.alloc o) S := h.trans (Kp.of_below ((Below.refl _ w').alloc (Nat.le_refl _) o) S) (fun _ hk => Or.inl hk)
theorem Kp.set {w w' : World} {S : Nat → Prop} {R : Nat} (h : Kp w w' S) (hR : S R ∨ w.heap.size ≤ R) (j : Nat) (v : Value) : Kp w (w'.setCell ⟨R, j, none⟩ v) S :=
  h.trans (T := fun k => k = R) ⟨rfl, rfl, rfl, by rw [World.size_setCell]; exact Nat.le_refl _, fun k _ hs => Below.heap_setCell _ _ _ k (fun e => hs (e.symm ▸ rfl))⟩ (fun _ hk => by subst hk; exact hR)
theorem Kp.cell {w w' : World} {S : Nat → Prop} (h : Kp w w' S) {b o : Nat} (hb : b < w.heap.size) (hs : ¬ S b) : w'.cell? ⟨b, o, none⟩ = w.cell? ⟨b, o, none⟩ := by
  unfold World.cell?
  rw [h.block b hb hs]
/-- a whole row is loaded, stored, built, answered -/
theorem wpList_ldR {w : World} {ops : Array Oper} {rest : List Oper} {o : Oper} {a : Act} {Q : Exit → Act → World → Prop} (hgd : o.guard = none) (ty : TypeId) (x : Operand) (ho : o.op = .load ty x) (b : Nat) (hx : a.eval x = .pointer (some ⟨b, 0, none⟩)) (t : TypeId) (A : Array Value) (hO : w.heap[b]? = some (.cells A t)) {fs} (hu : Try.prog.underlying ty = some (.struct fs)) (hi : (Try.prog.info? ty).map (·.size) = some A.size)
    (h : wpList Try.prog ops Q rest (a.put o.dst (.agg A)) w) : wpList Try.prog ops Q (o :: rest) a w := by
  have hl : (Instr.loadAt ty (.pointer (some ⟨b, 0, none⟩))).run Try.prog w = .ok (.agg A) w := by
    simp only [Instr.loadAt, Instr.sureAddr, Sem.run_bind, Sem.run_pure, Result.andThen]
    exact run_loadVar_row _ _ t ty A (0, 0) _ hO hu rfl hi
  refine wpList_plain hgd fun K hK => ?_
  unfold Oper.wp execOp
  simp only [ho, Sem.run_bind, Sem.run_pure, Result.andThen_ok, hx, hl]
  exact hK _ _ h
theorem wpList_stR {w : World} {ops : Array Oper} {rest : List Oper} {o : Oper} {a : Act} {Q : Exit → Act → World → Prop} (hgd : o.guard = none) (ty : TypeId) (p x : Operand) (ho : o.op = .store ty p x) (b : Nat) (hp : a.eval p = .pointer (some ⟨b, 0, none⟩)) (A A0 : Array Value) (hx : a.eval x = .agg A) (t : TypeId) (hO : w.heap[b]? = some (.cells A0 t)) (hi : (Try.prog.info? ty).map (·.size) = some A.size) (hs : A0.size = A.size) (h1 : A.all (·.oneCell') = true)
    (h : wpList Try.prog ops Q rest (a.put o.dst undef) (w.setRow b A)) : wpList Try.prog ops Q (o :: rest) a w :=
  wpList_plain hgd fun _ hK => wp_store_row ty p x ho b A hp hx t A0 hO hi hs h1 (hK _ _ h)
theorem wpList_blR {w : World} {ops : Array Oper} {rest : List Oper} {o : Oper} {a : Act} {Q : Exit → Act → World → Prop} (hgd : o.guard = none) (ty : TypeId) (parts : Array (Nat × Operand)) (ho : o.op = .build ty parts) (A : Array Value) (hb : Try.prog.built ty (parts.map fun (i, x) => (i, a.eval x)).toList = some A)
    (h : wpList Try.prog ops Q rest (a.put o.dst (.agg A)) w) : wpList Try.prog ops Q (o :: rest) a w := by
  refine wpList_plain hgd fun K hK => ?_
  unfold Oper.wp execOp
  simp only [ho, Sem.run_bind, Sem.run_pure]
  have := run_build w ty _ A hb
  rw [this]
  exact hK _ _ h
theorem res_row1 {fn : Func} {p : Tmp} {ty : TypeId} (h : fn.results = #[.cell p ty]) (tmps : Array Value) (A : Array Value) (w : World) (b : Nat) (ht : tmps.getD p undef = .pointer (some ⟨b, 0, none⟩)) (t : TypeId) (hO : w.heap[b]? = some (.cells A t)) {fs} (hu : Try.prog.underlying ty = some (.struct fs)) (hi : (Try.prog.info? ty).map (·.size) = some A.size) : (results fn tmps).run Try.prog w = .ok (.agg A) w := by
  have hl : (loadVar ty ⟨b, 0, none⟩).run Try.prog w = .ok (.agg A) w := run_loadVar_row _ _ t ty A (0, 0) _ hO hu rfl hi
  have ht' : tmps[p]?.getD undef = .pointer (some ⟨b, 0, none⟩) := by simpa using ht
  unfold results
  rw [h]
  simp [ht', asAddr, hl]
theorem res_row2 {fn : Func} {p q : Tmp} {ty : TypeId} (h : fn.results = #[.cell p ty, .tmp q]) (tmps : Array Value) (A : Array Value) (w : World) (b : Nat) (ht : tmps.getD p undef = .pointer (some ⟨b, 0, none⟩)) (v : Value) (hv : tmps.getD q undef = v) (t : TypeId) (hO : w.heap[b]? = some (.cells A t)) {fs} (hu : Try.prog.underlying ty = some (.struct fs)) (hi : (Try.prog.info? ty).map (·.size) = some A.size) : (results fn tmps).run Try.prog w = .ok (.tuple #[.agg A, v]) w := by
  have hl : (loadVar ty ⟨b, 0, none⟩).run Try.prog w = .ok (.agg A) w := run_loadVar_row _ _ t ty A (0, 0) _ hO hu rfl hi
  have ht' : tmps[p]?.getD undef = .pointer (some ⟨b, 0, none⟩) := by simpa using ht
  have hv' : tmps[q]?.getD undef = v := by simpa using hv
  unfold results
  rw [h]
  simp [ht', hv', asAddr, hl]
theorem cell_row {w : World} {b : Nat} {A : Array Value} {t : TypeId} (h : w.heap[b]? = some (.cells A t)) (i : Nat) : w.cell? ⟨b, i, none⟩ = A[i]? := by
  unfold World.cell?; rw [h]; rfl
theorem fz_row {w : World} {b : Nat} {A : Array Value} {t : TypeId} (h : w.heap[b]? = some (.cells A t)) (i : Nat) : w.frozen? ⟨b, i, none⟩ = false := by
  unfold World.frozen?; rw [h]; simp
/-- a message -/
structure Mg where
  kind : Int
  fr : Int
  td : Int
  id : Int
  ep : Int
  sq : Int
  ver : Int
  prev : Int
  code : Int
  key : ByteArray
  val : ByteArray
def mgV (m : Mg) : Array Value := #[.int .i64 m.kind, .int .i64 m.fr, .int .i64 m.td, .int .i64 m.id, .int .i64 m.ep, .int .i64 m.sq, .int .i64 m.ver, .int .i64 m.prev, .int .i64 m.code, .string m.key, .string m.val]
def mg0 : Mg := ⟨0, 0, 0, 0, 0, 0, 0, 0, 0, ⟨#[]⟩, ⟨#[]⟩⟩
theorem mg_info : (Try.prog.info? 44).map (·.size) = some 11 := by kernel_rfl
theorem mg_infos : (Try.prog.info? 44).map (fun i => (i.zero, i.size, i.bytes)) = some (some (.agg (mgV mg0)), 11, 104) := by kernel_rfl
theorem mg_one (m : Mg) : (mgV m).all (·.oneCell') = true := by simp [mgV, Value.oneCell']
def MgAt (w : World) (b : Nat) (m : Mg) : Prop := w.heap[b]? = some (.cells (mgV m) 44)
theorem MgAt.cells {w : World} {Q : Nat} {m : Mg} (h : MgAt w Q m) : w.cell? ⟨Q, 0, none⟩ = some (.int .i64 m.kind) ∧ w.cell? ⟨Q, 1, none⟩ = some (.int .i64 m.fr) ∧ w.cell? ⟨Q, 2, none⟩ = some (.int .i64 m.td) ∧ w.cell? ⟨Q, 3, none⟩ = some (.int .i64 m.id) ∧ w.cell? ⟨Q, 4, none⟩ = some (.int .i64 m.ep) ∧ w.cell? ⟨Q, 5, none⟩ = some (.int .i64 m.sq) ∧ w.cell? ⟨Q, 6, none⟩ = some (.int .i64 m.ver) ∧ w.cell? ⟨Q, 7, none⟩ = some (.int .i64 m.prev) ∧ w.cell? ⟨Q, 8, none⟩ = some (.int .i64 m.code) ∧ w.cell? ⟨Q, 9, none⟩ = some (.string m.key) ∧ w.cell? ⟨Q, 10, none⟩ = some (.string m.val) := by
  unfold MgAt at h
  simp only [cell_row h]
  exact ⟨rfl, rfl, rfl, rfl, rfl, rfl, rfl, rfl, rfl, rfl, rfl⟩
theorem MgAt.keep {w w' : World} {b : Nat} {m : Mg} {S : Nat → Prop} (h : MgAt w b m) (hk : Kp w w' S) (hs : ¬ S b) : MgAt w' b m := (hk.block b (blk_lt h) hs).trans h
theorem MgAt.new (w : World) (m : Mg) : MgAt (w.alloc (.cells (mgV m) 44)) w.heap.size m := heap_last _ _
theorem wpList_ldM {w : World} {ops : Array Oper} {rest : List Oper} {o : Oper} {a : Act} {Q : Exit → Act → World → Prop} (hgd : o.guard = none) (x : Operand) (ho : o.op = .load 44 x) (m : Mg) (b : Nat) (hx : a.eval x = .pointer (some ⟨b, 0, none⟩)) (hO : MgAt w b m)
    (h : wpList Try.prog ops Q rest (a.put o.dst (.agg (mgV m))) w) : wpList Try.prog ops Q (o :: rest) a w :=
  wpList_ldR hgd _ x ho b hx _ _ hO Try.underlying44 mg_info h
/-- messages, as cells -/
def mgs (l : List Mg) : List Value := l.flatMap fun m => (mgV m).toList
theorem mgs_append (a b : List Mg) : mgs (a ++ b) = mgs a ++ mgs b := List.flatMap_append
theorem mgs_one (m : Mg) : mgs [m] = (mgV m).toList := by unfold mgs; rw [List.flatMap_cons, List.flatMap_nil, List.append_nil]
theorem mgs_len (L : List Mg) : (mgs L).length = L.length * 11 := by
  induction L with
  | nil => rfl
  | cons a r ih =>
    unfold mgs at *
    rw [List.flatMap_cons, List.length_append, ih]
    simp only [List.length_cons, mgV, List.length_nil]
    omega
theorem mgs_oneCell (L : List Mg) : ∀ u ∈ mgs L, u.oneCell' = true := by
  intro u hu
  unfold mgs at hu
  obtain ⟨m, _, hm⟩ := List.mem_flatMap.1 hu
  have := Array.all_eq_true_iff_forall_mem.1 (mg_one m) u (by simpa using hm)
  exact this
theorem mgs_at (L : List Mg) (q : Nat) (h : q < L.length) (j : Nat) (hj : j < 11) : (mgs L)[q * 11 + j]? = (mgV L[q])[j]? := by
  induction L generalizing q with
  | nil => simp at h
  | cons a r ih =>
    cases q with
    | zero =>
      unfold mgs
      rw [List.flatMap_cons, Nat.zero_mul, Nat.zero_add, List.getElem?_append_left (by simpa [mgV] using hj)]
      simp
    | succ q =>
      have h' : q < r.length := by simpa using h
      have := ih q h'
      unfold mgs at *
      rw [List.flatMap_cons, show (q + 1) * 11 + j = (mgV a).toList.length + (q * 11 + j) by simp [mgV]; omega, List.getElem?_append_right (by omega), Nat.add_sub_cancel_left]
      exact this
theorem fill_mg (m : Mg) : Instr.fill (fun i => some (i * 11, 11)) ((Array.range (1 * 11)).map ((Value.agg (mgV mg0)).cells[· % (Value.agg (mgV mg0)).cells.size]!)) [(0, .agg (mgV m))] = some (mgV m) := by kernel_rfl
theorem mg_parts {t : TypeId} {z : Value} {k by' : Nat} (h : (Try.prog.info? t).map (fun i => (i.zero, i.size, i.bytes)) = some (some z, k, by')) : ∃ i0, Try.prog.info? t = some i0 ∧ i0.zero = some z ∧ i0.size = k ∧ i0.bytes = by' := by
  cases hq : Try.prog.info? t with
  | none => simp [hq] at h
  | some i => simp [hq] at h; exact ⟨i, rfl, h.1, h.2.1, h.2.2⟩
theorem wp_bsM {w : World} {o : Oper} {a : Act} {K : Act → World → Prop} {Q : Exit → Act → World → Prop} (x : Operand) (ho : o.op = .buildSlice 30 1 #[(0, x)]) (m : Mg) (hx : a.eval x = .agg (mgV m))
    (h : K (a.put o.dst (.slice (some ⟨w.heap.size, 0, none⟩) 1 1)) (w.alloc (.cells (mgV m) 44))) : o.wp Try.prog a w K Q := by
  obtain ⟨i0, hi, hz0, hz1, hz2⟩ := mg_parts mg_infos
  refine wp_buildSlice 30 44 1 _ ho (mgV m) i0 _ Try.underlying30 hi hz0 (by rw [hz1]; decide) (by rw [hz1]; decide) ?_ h
  rw [hz1]
  simp only [List.map_toArray, List.map_cons, List.map_nil, hx]
  exact fill_mg m
theorem wpList_bsM {w : World} {ops : Array Oper} {rest : List Oper} {o : Oper} {a : Act} {Q : Exit → Act → World → Prop} (hgd : o.guard = none) (x : Operand) (ho : o.op = .buildSlice 30 1 #[(0, x)]) (m : Mg) (hx : a.eval x = .agg (mgV m))
    (h : wpList Try.prog ops Q rest (a.put o.dst (.slice (some ⟨w.heap.size, 0, none⟩) 1 1)) (w.alloc (.cells (mgV m) 44))) : wpList Try.prog ops Q (o :: rest) a w :=
  wpList_plain hgd fun _ hK => wp_bsM x ho m hx (hK _ _ h)
theorem mg_cell (w : World) (m : Mg) : ∀ j u, (mgs [m])[j]? = some u → (w.alloc (.cells (mgV m) 44)).cell? ((⟨w.heap.size, 0, none⟩ : Addr).add j) = some u := by
  rw [mgs_one]
  intro j u hj
  rw [Addr.add_mid, Nat.zero_add, cell_row (heap_last w _)]
  simpa using hj
theorem mg_room {k : Nat} (h : k ≤ 1000000000000) : k + 1 ≤ maxLen ∧ (k + 1) * 104 ≤ 140737488355328 := by unfold maxLen; omega
/-- append(list, m) -/
theorem wpList_apM {w : World} {ops : Array Oper} {rest : List Oper} {o : Oper} {a : Act} {Q : Exit → Act → World → Prop} (hgd : o.guard = none) (x y : Operand) (ho : o.op = .call { callee := .builtin .append, args := #[x, y], argTypes := #[30, 30] }) (base : Nat) (v : Value) (L : List Mg) (hx : a.eval x = v) (hv : w.ownsRow base 44 11 v L.length (mgs L)) (g : Nat) (m : Mg) (hy : a.eval y = .slice (some ⟨g, 0, none⟩) 1 1) (hg : w.heap[g]? = some (.cells (mgV m) 44)) (hl : L.length ≤ 1000000000000) (hb : base ≤ w.heap.size)
    (h : ∀ v' w', w'.ownsRow base 44 11 v' (L.length + 1) (mgs (L ++ [m])) → w.grownBy w' v.ownBlock → wpList Try.prog ops Q rest (a.put o.dst v') w') : wpList Try.prog ops Q (o :: rest) a w := by
  obtain ⟨i0, hi, hz0, hz1, hz2⟩ := mg_parts mg_infos
  refine wpList_append_own_at _ hgd _ _ 30 ho base 44 i0 _ 11 104 Try.underlying30 hi hz0 hz1 hz2 rfl (by decide) _ _ _ hx hv ⟨g, 0, none⟩ 1 1 (mgs [m]) hy (by rw [mgs_one]; rfl) ?_ (mgs_oneCell _) (mg_room hl).1 (mg_room hl).2 hb ?_
  · rw [mgs_one]
    intro j u hj
    rw [Addr.add_mid, Nat.zero_add, cell_row hg]
    simpa using hj
  · intro v' w' h1 h2 _ _
    rw [← mgs_append] at h1
    exact h v' w' h1 h2
theorem own_sl {w : World} {base e sz n : Nat} {v : Value} {xs : List Value} (h : w.ownsRow base e sz v n xs) : ∃ ba cap, v = .slice ba n cap := by
  rcases h.2 with ⟨hv, hz⟩ | ⟨g, cap, cur, hv, _⟩
  · exact ⟨none, 0, by rw [hv, hz]⟩
  · exact ⟨_, _, hv⟩
theorem own_g {w : World} {base e sz n : Nat} {v : Value} {xs : List Value} (h : w.ownsRow base e sz v n xs) (hn : 0 < n) : ∃ g cap, v = .slice (some ⟨g, 0, none⟩) n cap := by
  rcases h.2 with ⟨hv, hz⟩ | ⟨g, cap, cur, hv, _⟩
  · omega
  · exact ⟨_, _, hv⟩
theorem own_kp {w w' : World} {S : Nat → Prop} {base e sz n : Nat} {v : Value} {xs : List Value} (h : w.ownsRow base e sz v n xs) (hk : Kp w w' S) (hne : ∀ k, v.ownBlock = some k → ¬ S k) : w'.ownsRow base e sz v n xs := by
  refine ⟨h.1, ?_⟩
  rcases h.2 with ⟨hv, hz⟩ | ⟨g, cap, cur, rfl, h1, h2, h3⟩
  · exact .inl ⟨hv, hz⟩
  · exact .inr ⟨g, cap, cur, rfl, h1, (hk.block g (blk_lt h2) (hne g rfl)).trans h2, h3⟩
end Go.Proofs.Ytpleakkhbfhdkaa.Cn
namespace Go.Proofs.Ytpleakkhbfhdkaa.Cn
/-- a node as the law plays it -/
structure Nd where
  cur : Int
  prev : Int
  ep : Int
  sq : Int
  sw : Int
  was : Int
  sick : Bool
  deaf : Bool
def nd0 : Nd := ⟨0, 0, 0, 0, 0, 0, false, false⟩
def belN (n : Nd) (m : Mg) : Prop := m.ep < n.ep ∨ (m.ep = n.ep ∧ m.sq < n.sq)
def sameN (n : Nd) (m : Mg) : Prop := m.ep = n.ep ∧ m.sq = n.sq
instance (n : Nd) (m : Mg) : Decidable (belN n m) := by unfold belN; infer_instance
instance (n : Nd) (m : Mg) : Decidable (sameN n m) := by unfold sameN; infer_instance
def ordN (n : Nd) (m : Mg) : Nd :=
  if belN n m ∨ (sameN n m ∧ (m.kind = 5 ∧ n.cur ≠ m.ver)) then n
  else if sameN n m then n
  else if m.kind = 5 then { n with was := n.cur, sw := m.ep, prev := n.cur, cur := m.ver, ep := m.ep, sq := m.sq }
  else if n.ep = m.ep then { n with cur := n.prev, prev := n.prev, ep := m.ep, sq := m.sq } else { n with prev := n.cur, ep := m.ep, sq := m.sq }
def ordE (n : Nd) (m : Mg) : Int := if belN n m ∨ (sameN n m ∧ (m.kind = 5 ∧ n.cur ≠ m.ver)) then 122 else 0
/-- what a node becomes, and what it answers -/
def doesN (n : Nd) (m : Mg) : Nd := if m.kind = 3 ∨ m.kind = 9 ∨ n.sick = true then n else ordN n m
def doesA (n : Nd) (m : Mg) : Mg :=
  if m.kind = 3 then { mg0 with kind := m.kind + 1, fr := m.td, td := m.fr, id := m.id, ep := m.ep, sq := m.sq, ver := m.ver, code := if n.sick = true then 99 else 0 }
  else if m.kind = 9 then { mg0 with kind := m.kind + 1, fr := m.td, td := m.fr, id := m.id, ep := n.ep, sq := n.sq, ver := n.cur, prev := n.prev }
  else if n.sick = true then { mg0 with kind := m.kind + 1, fr := m.td, td := m.fr, id := m.id, ep := m.ep, sq := m.sq, code := 99, ver := n.cur, prev := n.prev }
  else { mg0 with kind := m.kind + 1, fr := m.td, td := m.fr, id := m.id, ep := m.ep, sq := m.sq, code := ordE n m, ver := (ordN n m).cur, prev := (ordN n m).prev }
/-- a node, in the job j to the version V; bk: a Back has gone out -/
structure NdI (j V : Int) (bk : Bool) (n : Nd) : Prop where
  ep : n.ep ≤ j
  sw : n.sw ≤ n.ep
  at1 : n.ep = j → n.sq = 1 ∨ (n.sq = 2 ∧ bk = true) ∨ (n.sq = 0 ∧ n.prev = n.was)
  one : n.ep = j → n.sq = 1 → n.sw = j ∧ n.cur = V ∧ n.prev = n.was
  two : n.ep = j → n.sq = 2 → n.sw = j → n.cur = n.was
/-- a message to a node -/
structure RqI (j V : Int) (bk : Bool) (m : Mg) : Prop where
  kd : m.kind = 3 ∨ m.kind = 5 ∨ m.kind = 7
  id : m.id = m.ep
  ep : m.ep ≤ j
  fr : m.fr = 64
  sw : m.ep = j → m.kind = 5 → m.sq = 1 ∧ m.ver = V
  fe : m.ep = j → m.kind = 3 → m.sq = 0 ∧ m.ver = V
  ba : m.ep = j → m.kind = 7 → m.sq = 2 ∧ bk = true
/-- an answer of the node n -/
structure AnI (j V : Int) (bk : Bool) (n : Nd) (m : Mg) : Prop where
  kd : m.kind = 4 ∨ m.kind = 6 ∨ m.kind = 8
  id : m.id = m.ep
  ep : m.ep ≤ j
  td : m.td = 64
  fe : m.ep = j → m.kind = 4 → m.sq = 0 ∧ m.ver = V
  sw : m.ep = j → m.kind = 6 → m.sq = 1 ∧ (m.code = 0 → m.ver = V ∧ (bk = false → n.ep = j ∧ n.sq = 1))
  ba : m.ep = j → m.kind = 8 → m.sq = 2 ∧ bk = true ∧ (m.code = 0 → n.ep = j ∧ n.sq = 2 ∧ m.ver = n.cur)
/-- what a message of the job, or a late one, does to a node -/
theorem ord_inv {j V : Int} {bk : Bool} {n : Nd} {m : Mg} (h : NdI j V bk n) (r : RqI j V bk m) (hk : m.kind ≠ 3) :
    NdI j V bk (ordN n m) ∧ (n.ep = j → n.sq = 2 → ordN n m = n) ∧ (bk = false → n.ep = j → n.sq = 1 → (ordN n m).ep = j ∧ (ordN n m).sq = 1) ∧
    (m.ep = j → ordE n m = 0 → (m.kind = 5 → (ordN n m).cur = V ∧ (bk = false → (ordN n m).ep = j ∧ (ordN n m).sq = 1)) ∧ (m.kind = 7 → (ordN n m).ep = j ∧ (ordN n m).sq = 2)) := by
  have hep := h.ep
  have hsw := h.sw
  have rep := r.ep
  unfold ordE
  by_cases b : belN n m ∨ (sameN n m ∧ (m.kind = 5 ∧ n.cur ≠ m.ver))
  · have e : ordN n m = n := by unfold ordN; rw [if_pos b]
    rw [e, if_pos b]
    exact ⟨h, fun _ _ => rfl, fun _ a c => ⟨a, c⟩, fun _ f => by omega⟩
  · rw [if_neg b]
    by_cases s : sameN n m
    · have e : ordN n m = n := by unfold ordN; rw [if_neg b, if_pos s]
      rw [e]
      obtain ⟨s1, s2⟩ := s
      refine ⟨h, fun _ _ => rfl, fun _ a c => ⟨a, c⟩, fun mj _ => ⟨fun k5 => ?_, fun k7 => ?_⟩⟩
      · obtain ⟨q1, q2⟩ := r.sw mj k5
        have hc : n.cur = V := (h.one (by omega) (by omega)).2.1
        exact ⟨hc, fun _ => ⟨by omega, by omega⟩⟩
      · obtain ⟨q1, q2⟩ := r.ba mj k7
        exact ⟨by omega, by omega⟩
    · have nb : ¬ belN n m := fun q => b (Or.inl q)
      have up : n.ep < m.ep ∨ (n.ep = m.ep ∧ n.sq < m.sq) := by
        unfold belN at nb
        unfold sameN at s
        omega
      by_cases k5 : m.kind = 5
      · have e : ordN n m = { n with was := n.cur, sw := m.ep, prev := n.cur, cur := m.ver, ep := m.ep, sq := m.sq } := by unfold ordN; rw [if_neg b, if_neg s, if_pos k5]
        rw [e]
        refine ⟨⟨rep, Int.le_refl _, fun a => Or.inl (r.sw a k5).1, fun a _ => ⟨a, (r.sw a k5).2, rfl⟩, fun a c _ => by have := (r.sw a k5).1; dsimp at c; omega⟩, fun a c => ?_, fun _ a c => ?_, fun mj _ => ⟨fun _ => ⟨(r.sw mj k5).2, fun _ => ⟨mj, (r.sw mj k5).1⟩⟩, fun k7 => by omega⟩⟩
        · exfalso
          have mj : m.ep = j := by omega
          have := (r.sw mj k5).1
          omega
        · have mj : m.ep = j := by omega
          exact ⟨mj, (r.sw mj k5).1⟩
      · have k7 : m.kind = 7 := by have := r.kd; omega
        by_cases c : n.ep = m.ep
        · have e : ordN n m = { n with cur := n.prev, prev := n.prev, ep := m.ep, sq := m.sq } := by unfold ordN; rw [if_neg b, if_neg s, if_neg k5, if_pos c]
          rw [e]
          refine ⟨⟨rep, by dsimp; omega, fun a => Or.inr (Or.inl ⟨(r.ba a k7).1, (r.ba a k7).2⟩), fun a d => by have := (r.ba a k7).1; dsimp at d; omega, fun a d f => ?_⟩, fun a d => ?_, fun f a d => ?_, fun mj _ => ⟨fun q => absurd q k5, fun _ => ⟨mj, (r.ba mj k7).1⟩⟩⟩
          · have q := (r.ba a k7).1
            dsimp
            dsimp at a
            rcases h.at1 (by omega) with g | g | g
            · exact (h.one (by omega) g).2.2
            · omega
            · exact g.2
          · exfalso
            have := (r.ba (by omega) k7).1
            omega
          · exfalso
            have := (r.ba (by omega) k7).2
            rw [f] at this
            exact absurd this (by simp)
        · have e : ordN n m = { n with prev := n.cur, ep := m.ep, sq := m.sq } := by unfold ordN; rw [if_neg b, if_neg s, if_neg k5, if_neg c]
          rw [e]
          refine ⟨⟨rep, by dsimp; omega, fun a => Or.inr (Or.inl ⟨(r.ba a k7).1, (r.ba a k7).2⟩), fun a d => by have := (r.ba a k7).1; dsimp at d; omega, fun a d f => ?_⟩, fun a d => ?_, fun f a d => ?_, fun mj _ => ⟨fun q => absurd q k5, fun _ => ⟨mj, (r.ba mj k7).1⟩⟩⟩
          · exfalso
            dsimp at a f
            omega
          · exfalso
            omega
          · exfalso
            omega
/-- a node that is told something: what it becomes, what it answers, and what stays -/
theorem does_inv {j V : Int} {bk : Bool} {n : Nd} {m : Mg} (h : NdI j V bk n) (r : RqI j V bk m) :
    NdI j V bk (doesN n m) ∧ AnI j V bk (doesN n m) (doesA n m) ∧ (n.ep = j → n.sq = 2 → doesN n m = n) ∧ (bk = false → n.ep = j → n.sq = 1 → (doesN n m).ep = j ∧ (doesN n m).sq = 1) := by
  have kd := r.kd
  unfold doesN doesA
  by_cases k3 : m.kind = 3
  · rw [if_pos (Or.inl k3), if_pos k3]
    refine ⟨h, ⟨Or.inl (by dsimp; omega), r.id, r.ep, r.fr, fun a _ => r.fe a k3, fun _ f => by dsimp at f; omega, fun _ f => by dsimp at f; omega⟩, fun _ _ => rfl, fun _ a c => ⟨a, c⟩⟩
  · have k9 : m.kind ≠ 9 := by omega
    rw [if_neg k3, if_neg k9]
    by_cases sk : n.sick = true
    · rw [if_pos (Or.inr (Or.inr sk)), if_pos sk]
      refine ⟨h, ⟨by dsimp; omega, r.id, r.ep, r.fr, fun _ f => by dsimp at f; omega, fun a f => ⟨(r.sw a (by dsimp at f; omega)).1, fun z => by dsimp at z; omega⟩, fun a f => ⟨(r.ba a (by dsimp at f; omega)).1, (r.ba a (by dsimp at f; omega)).2, fun z => by dsimp at z; omega⟩⟩, fun _ _ => rfl, fun _ a c => ⟨a, c⟩⟩
    · have nn : ¬ (m.kind = 3 ∨ m.kind = 9 ∨ n.sick = true) := fun q => by rcases q with q | q | q; exact k3 q; exact k9 q; exact sk q
      rw [if_neg nn, if_neg sk]
      obtain ⟨o1, o2, o3, o4⟩ := ord_inv h r k3
      refine ⟨o1, ⟨by dsimp; omega, r.id, r.ep, r.fr, fun _ f => by dsimp at f; omega, fun a f => ?_, fun a f => ?_⟩, o2, o3⟩
      · have k5 : m.kind = 5 := by dsimp at f; omega
        exact ⟨(r.sw a k5).1, fun z => (o4 a z).1 k5⟩
      · have k7 : m.kind = 7 := by dsimp at f; omega
        exact ⟨(r.ba a k7).1, (r.ba a k7).2, fun z => ⟨((o4 a z).2 k7).1, ((o4 a z).2 k7).2, rfl⟩⟩
/-- what an answer says stays so, whatever the node is told later in the same job -/
theorem ans_stays {j V : Int} {bk : Bool} {n : Nd} {m x : Mg} (h : NdI j V bk n) (r : RqI j V bk m) (a : AnI j V bk n x) : AnI j V bk (doesN n m) x := by
  obtain ⟨_, _, d2, d1⟩ := does_inv h r
  refine ⟨a.kd, a.id, a.ep, a.td, a.fe, fun e k => ?_, fun e k => ?_⟩
  · obtain ⟨p1, p2⟩ := a.sw e k
    refine ⟨p1, fun z => ⟨(p2 z).1, fun f => ?_⟩⟩
    obtain ⟨q1, q2⟩ := (p2 z).2 f
    exact d1 f q1 q2
  · obtain ⟨p1, p2, p3⟩ := a.ba e k
    refine ⟨p1, p2, fun z => ?_⟩
    obtain ⟨q1, q2, q3⟩ := p3 z
    rw [d2 q1 q2]
    exact ⟨q1, q2, q3⟩
end Go.Proofs.Ytpleakkhbfhdkaa.Cn
namespace Go.Proofs.Ytpleakkhbfhdkaa.Cn
open Go.RowKit
/-- what a controller goes by -/
structure Ru where
  n : Nat
  rs : Int
  lm : Int
  pt : Int
/-- a phase's round -/
structure Rd where
  num : Int
  kind : Int
  ver : Int
  al : List (Bool × Int)
  tk : Int
  sd : Int
def ruA (u : Ru) : Array Value := #[.int .i64 (u.n : Int), .int .i64 u.rs, .int .i64 u.lm, .int .i64 u.pt]
def jbA (num kind ver : Int) : Array Value := #[.int .i64 num, .int .i64 kind, .int .i64 ver]
def rdA (u : Ru) (r : Rd) (A : Nat) : Array Value := #[.int .i64 (u.n : Int), .int .i64 u.rs, .int .i64 u.lm, .int .i64 u.pt, .int .i64 r.num, .int .i64 r.kind, .int .i64 r.ver, .slice (some ⟨A, 0, none⟩) u.n u.n, .int .i64 r.tk, .int .i64 r.sd]
/-- answers, as cells -/
def anc (L : List (Bool × Int)) : List Value := L.flatMap fun x => [.bool x.1, .int .i64 x.2]
theorem anc_len (L : List (Bool × Int)) : (anc L).length = L.length * 2 := by
  induction L with
  | nil => rfl
  | cons a r ih =>
    unfold anc at *
    rw [List.flatMap_cons, List.length_append, ih]
    simp only [List.length_cons, List.length_nil]
    omega
theorem anc_append (a b : List (Bool × Int)) : anc (a ++ b) = anc a ++ anc b := List.flatMap_append
theorem anc_at (L : List (Bool × Int)) (q : Nat) (h : q < L.length) : (anc L)[q * 2]? = some (.bool L[q].1) ∧ (anc L)[q * 2 + 1]? = some (.int .i64 L[q].2) := by
  induction L generalizing q with
  | nil => simp at h
  | cons a r ih =>
    cases q with
    | zero => exact ⟨rfl, rfl⟩
    | succ q =>
      have h' : q < r.length := by simpa using h
      obtain ⟨e1, e2⟩ := ih q h'
      unfold anc at *
      simp only [List.flatMap_cons, List.getElem_cons_succ]
      rw [show (q + 1) * 2 = q * 2 + 2 by omega, show q * 2 + 2 + 1 = (q * 2 + 1) + 2 by omega]
      exact ⟨e1, e2⟩
theorem anc_set (L : List (Bool × Int)) (q : Nat) (h : q < L.length) (b : Bool) (x : Int) : ((anc L).set (q * 2) (.bool b)).set (q * 2 + 1) (.int .i64 x) = anc (L.set q (b, x)) := by
  induction L generalizing q with
  | nil => simp at h
  | cons a r ih =>
    cases q with
    | zero => rfl
    | succ q =>
      have h' : q < r.length := by simpa using h
      have := ih q h'
      unfold anc at *
      simp only [List.flatMap_cons, List.set_cons_succ]
      rw [show (q + 1) * 2 = q * 2 + 2 by omega, show q * 2 + 2 + 1 = (q * 2 + 1) + 2 by omega]
      simp only [List.cons_append, List.nil_append, List.set_cons_succ]
      rw [this]
/-- a round that lies in a block -/
structure RdAt (w : World) (P A : Nat) (ty : TypeId) (u : Ru) (r : Rd) : Prop where
  ob : w.heap[P]? = some (.cells (rdA u r A) ty)
  an : w.heap[A]? = some (.cells (anc r.al).toArray 134)
  len : r.al.length = u.n
  ne : P ≠ A
theorem RdAt.cells {w : World} {P A : Nat} {ty : TypeId} {u : Ru} {r : Rd} (h : RdAt w P A ty u r) : w.cell? ⟨P, 0, none⟩ = some (.int .i64 (u.n : Int)) ∧ w.cell? ⟨P, 1, none⟩ = some (.int .i64 u.rs) ∧ w.cell? ⟨P, 2, none⟩ = some (.int .i64 u.lm) ∧ w.cell? ⟨P, 3, none⟩ = some (.int .i64 u.pt) ∧ w.cell? ⟨P, 4, none⟩ = some (.int .i64 r.num) ∧ w.cell? ⟨P, 5, none⟩ = some (.int .i64 r.kind) ∧ w.cell? ⟨P, 6, none⟩ = some (.int .i64 r.ver) ∧ w.cell? ⟨P, 7, none⟩ = some (.slice (some ⟨A, 0, none⟩) u.n u.n) ∧ w.cell? ⟨P, 8, none⟩ = some (.int .i64 r.tk) ∧ w.cell? ⟨P, 9, none⟩ = some (.int .i64 r.sd) := by
  simp only [cell_row h.ob]
  exact ⟨rfl, rfl, rfl, rfl, rfl, rfl, rfl, rfl, rfl, rfl⟩
theorem RdAt.ans {w : World} {P A : Nat} {ty : TypeId} {u : Ru} {r : Rd} (h : RdAt w P A ty u r) (q : Nat) (hq : q < r.al.length) : w.cell? ⟨A, q * 2, none⟩ = some (.bool r.al[q].1) ∧ w.cell? ⟨A, q * 2 + 1, none⟩ = some (.int .i64 r.al[q].2) := by
  simp only [cell_row h.an]
  simpa using anc_at r.al q hq
theorem RdAt.keep {w w' : World} {P A : Nat} {ty : TypeId} {u : Ru} {r : Rd} {S : Nat → Prop} (h : RdAt w P A ty u r) (hk : Kp w w' S) (h1 : ¬ S P) (h2 : ¬ S A) : RdAt w' P A ty u r :=
  ⟨(hk.block P (blk_lt h.ob) h1).trans h.ob, (hk.block A (blk_lt h.an) h2).trans h.an, h.len, h.ne⟩
theorem RdAt.below {w w' : World} {P A : Nat} {ty : TypeId} {u : Ru} {r : Rd} (h : RdAt w P A ty u r) (hb : Below w.heap.size w w') : RdAt w' P A ty u r := h.keep (Kp.of_below hb non) (fun f => f) (fun f => f)
def rd0 (u : Ru) (num kind ver : Int) : Rd := ⟨num, kind, ver, List.replicate u.n (false, -1), 0, 0⟩
theorem rd_built (u : Ru) (num kind ver : Int) (A : Nat) : Try.prog.built 86 [(0, .agg (ruA u)), (1, .agg (jbA num kind ver)), (2, .slice (some ⟨A, 0, none⟩) u.n u.n)] = some (rdA u (rd0 u num kind ver) A) := by kernel_rfl
theorem rd_info : (Try.prog.info? 86).map (·.size) = some 10 := by kernel_rfl
theorem ru_info : (Try.prog.info? 75).map (·.size) = some 4 := by kernel_rfl
theorem jb_info : (Try.prog.info? 83).map (·.size) = some 3 := by kernel_rfl
theorem an_infos : (Try.prog.info? 134).map (fun i => (i.zero, i.size, i.bytes)) = some (some (.agg #[.bool false, .int .i64 0]), 2, 16) := by kernel_rfl
theorem rd_one (u : Ru) (r : Rd) (A : Nat) : (rdA u r A).all (·.oneCell') = true := by simp [rdA, Value.oneCell']
end Go.Proofs.Ytpleakkhbfhdkaa.Cn
namespace Go.Proofs.Ytpleakkhbfhdkaa.Cn
open Go.RowKit
theorem set_row {w : World} {b : Nat} {A : Array Value} {t : TypeId} (h : w.heap[b]? = some (.cells A t)) (i : Nat) (v : Value) : (w.setCell ⟨b, i, none⟩ v).heap[b]? = some (.cells (A.setIfInBounds i v) t) := heap_setCell _ _ _ _ _ _ _ h
/-- answers so far -/
def anN (n i : Nat) : List (Bool × Int) := List.replicate i (false, -1) ++ List.replicate (n - i) (false, 0)
theorem anN_len (n i : Nat) (h : i ≤ n) : (anN n i).length = n := by simp [anN]; omega
theorem anN_set (n i : Nat) (h : i < n) : (anN n i).set i (false, -1) = anN n (i + 1) := by
  unfold anN
  rw [List.set_append_right _ _ (by simp), List.length_replicate, Nat.sub_self, show n - i = (n - (i + 1)) + 1 by omega, List.replicate_succ, List.set_cons_zero, List.replicate_succ' (n := i)]
  simp
theorem anc_hold (L : List (Bool × Int)) (q : Nat) (h : q < L.length) (x : Int) : (anc L).set (q * 2 + 1) (.int .i64 x) = anc (L.set q (L[q].1, x)) := by
  rw [← anc_set L q h]
  congr 1
  obtain ⟨hlt, e⟩ := List.getElem?_eq_some_iff.1 (anc_at L q h).1
  rw [← e, List.set_getElem_self]
theorem made_an (n : Nat) : madeCells (Value.agg #[.bool false, .int .i64 0]).cells (n * 2) = (anc (anN n 0)).toArray := by
  apply Array.ext
  · rw [size_madeCells]; simp [anc_len, anN]
  · intro i h1 h2
    rw [size_madeCells] at h1
    have hl : (anN n 0).length = n := anN_len n 0 (by omega)
    have hq : i / 2 < (anN n 0).length := by omega
    obtain ⟨e1, e2⟩ := anc_at (anN n 0) (i / 2) hq
    have ev : (anN n 0)[i / 2] = (false, 0) := by simp [anN]
    rw [ev] at e1 e2
    rcases Nat.mod_two_eq_zero_or_one i with hm | hm
    · rw [show i / 2 * 2 = i by omega] at e1
      obtain ⟨_, e⟩ := List.getElem?_eq_some_iff.1 e1
      simp [madeCells, hm, Value.cells, e]
    · rw [show i / 2 * 2 + 1 = i by omega] at e2
      obtain ⟨_, e⟩ := List.getElem?_eq_some_iff.1 e2
      simp [madeCells, hm, Value.cells, e]
theorem Kp.row {w w' : World} {S : Nat → Prop} {b : Nat} (h : Kp w w' S) (hb : S b ∨ w.heap.size ≤ b) (A : Array Value) : Kp w (w'.setRow b A) S :=
  h.trans (T := fun k => k = b) ⟨rfl, rfl, rfl, by simp [World.setRow], fun k _ hk => setRow_other _ _ _ _ hk⟩ (fun k hk => by subst hk; exact hb)
def rdZ : Array Value := #[.int .i64 0, .int .i64 0, .int .i64 0, .int .i64 0, .int .i64 0, .int .i64 0, .int .i64 0, .slice none 0 0, .int .i64 0, .int .i64 0]
theorem getL {w w' : World} {S : Nat → Prop} (h : Kp w w' S) {b : Nat} {o : Obj} (hb : w.heap[b]? = some o) (hs : ¬ S b) : w'.heap[b]? = some o := (h.block b (blk_lt hb) hs).trans hb
set_option maxHeartbeats 4000000 in
set_option maxRecDepth 100000 in
set_option linter.unusedSimpArgs false in
set_option linter.unusedVariables false in
theorem newRound_any (u : Ru) (num kind ver : Int) (w : World) (h1 : 1 ≤ u.n) (h16 : u.n ≤ 16) :
    Calls Try.prog 50 #[.agg (ruA u), .agg (jbA num kind ver)] w fun e w' => ∃ A, e = .returned (.agg (rdA u (rd0 u num kind ver) A)) ∧ w'.heap[A]? = some (.cells (anc (rd0 u num kind ver).al).toArray 134) ∧ w.heap.size ≤ A ∧ Below w.heap.size w w' := by
  obtain ⟨i0, hi0, hz0, hz1, hz2⟩ := mg_parts an_infos
  obtain ⟨n, hn⟩ : ∃ n, n = u.n := ⟨_, rfl⟩
  rw [← hn] at h1 h16
  obtain ⟨W0, hW0⟩ : ∃ W0, W0 = ((w.alloc (.cells (ruA u) 75)).alloc (.cells (jbA num kind ver) 83)).alloc (.cells rdZ 86) := ⟨_, rfl⟩
  have b0 : Below w.heap.size w W0 := by rw [hW0]; exact (((Below.refl _ w).alloc (Nat.le_refl _) _).alloc (by simp) _).alloc (by simp; omega) _
  have s0 : W0.heap.size = w.heap.size + 3 := by rw [hW0]; simp
  have hA : W0.heap[w.heap.size]? = some (.cells (ruA u) 75) := by
    rw [hW0, Below.heap_alloc _ _ _ (by simp; omega), Below.heap_alloc _ _ _ (by simp)]
    exact heap_last w _
  have hB : W0.heap[w.heap.size + 1]? = some (.cells (jbA num kind ver) 83) := by
    rw [hW0, Below.heap_alloc _ _ _ (by simp)]
    have := heap_last (w.alloc (.cells (ruA u) 75)) (.cells (jbA num kind ver) 83)
    rwa [World.size_alloc] at this
  have hC : W0.heap[w.heap.size + 2]? = some (.cells rdZ 86) := by
    have := heap_last ((w.alloc (.cells (ruA u) 75)).alloc (.cells (jbA num kind ver) 83)) (.cells rdZ 86)
    rw [World.size_alloc, World.size_alloc, ← hW0] at this
    exact this
  obtain ⟨W1, hW1⟩ : ∃ W1, W1 = W0.alloc (.cells (anc (anN n 0)).toArray 134) := ⟨_, rfl⟩
  have hmk : (Instr.makeSlice 84 (.int .i64 (n : Int)) (.int .i64 (n : Int))).run Try.prog W0 = .ok (.slice (some ⟨W0.heap.size, 0, none⟩) n n) W1 := by
    have h := run_make (P := Try.prog) W0 84 134 i0 _ Try.underlying84 hi0 hz0 .i64 .i64 (n : Int) (n : Int) (by omega) (by omega) (by rw [hz2]; omega) (by omega)
    rw [hz1, Int.toNat_natCast, made_an, ← hW1] at h
    exact h
  have b1 : Below W0.heap.size W0 W1 := by rw [hW1]; exact (Below.refl _ W0).alloc (Nat.le_refl _) _
  have hD : W1.heap[W0.heap.size]? = some (.cells (anc (anN n 0)).toArray 134) := by rw [hW1]; exact heap_last _ _
  have cA : W0.cell? ⟨w.heap.size, 0, none⟩ = some (.int .i64 (n : Int)) := by rw [cell_row hA, hn]; rfl
  have HA := hide ((b1.block _ (blk_lt hA)).trans hA)
  have HB := hide ((b1.block _ (blk_lt hB)).trans hB)
  have HC := hide ((b1.block _ (blk_lt hC)).trans hC)
  have HD := hide hD
  have hB1 := hide (b0.trans (b1.mono b0.size))
  have HN := hide hn
  obtain ⟨A, hAe⟩ : ∃ A, A = W0.heap.size := ⟨_, rfl⟩
  have HAe : Hid (w.heap.size + 3 = A) := by rw [hAe, s0]; rfl
  rw [← hAe] at hmk HD
  clear hD hA hB hC b0 b1 hW1 s0 hAe hi0 hz0 hz1 hz2 hn
  go_enter Try.func50, Try.ntmps50
  go_upto_region 1 with fail
  rw [show (#[.int .i64 0, .int .i64 0, .int .i64 0, .int .i64 0, .int .i64 0, .int .i64 0, .int .i64 0, .slice none 0 0, .int .i64 0, .int .i64 0] : Array Value) = rdZ from rfl]
  rw [← hW0]
  clear hW0
  go_wp2_with fail
  clear cA hmk
  go_loopw [12] (fun vi wr => ∃ (i : Nat), i ≤ n ∧ vi = .int .i64 (i : Int) ∧ Hid (wr.heap[A]? = some (.cells (anc (anN n i)).toArray 134)) ∧ Hid (Kp W1 wr (fun k => k = A))) (fun vi _ => n - (intOf vi).toNat)
  case atStart => exact ⟨0, Nat.zero_le _, rfl, HD.out, Kp.refl _ _⟩
  case round =>
    obtain ⟨i, hi, rfl, HR, HK⟩ := hrel
    have HL := hide (anN_len n i hi)
    by_cases hin : i < n
    case pos =>
      have hii : (i : Int) < (n : Int) := by omega
      have c1 : wr.cell? ⟨A, i * 2 + 1, none⟩ = some (.int .i64 ((anN n i)[i]'(by rw [HL.out]; exact hin)).2) := by rw [cell_row HR.out, List.getElem?_toArray]; exact (anc_at _ i (by rw [HL.out]; exact hin)).2
      have z1 : wr.frozen? ⟨A, i * 2 + 1, none⟩ = false := fz_row HR.out _
      go_wp2_with fail
      refine ⟨⟨i + 1, by omega, rfl, ?_, HK.out.set (Or.inl rfl) _ _⟩, by simp [intOf]; omega⟩
      have e := set_row HR.out (i * 2 + 1) (.int .i64 (-1))
      rw [List.setIfInBounds_toArray, anc_hold _ i (by rw [HL.out]; exact hin)] at e
      have e2 : ((anN n i)[i]'(by rw [HL.out]; exact hin)).1 = false := by simp [anN]
      rw [e2, anN_set n i hin] at e
      exact e
    case neg =>
      obtain rfl : i = n := by omega
      have KA : Hid (wr.heap[w.heap.size]? = some (.cells (ruA u) 75)) := getL HK.out HA.out (by have := HAe.out; omega)
      have KB : Hid (wr.heap[w.heap.size + 1]? = some (.cells (jbA num kind ver) 83)) := getL HK.out HB.out (by have := HAe.out; omega)
      have KC : Hid (wr.heap[w.heap.size + 2]? = some (.cells rdZ 86)) := getL HK.out HC.out (by have := HAe.out; omega)
      have HNn := HN.out
      subst HNn
      go_wp2_with (first | refine wpList_ldR rfl 75 (.tmp 2) rfl w.heap.size rfl _ _ KA.out Try.underlying75 ru_info ?_ | refine wpList_ldR rfl 83 (.tmp 3) rfl (w.heap.size + 1) rfl _ _ KB.out Try.underlying83 jb_info ?_ | refine wpList_blR rfl 86 #[(0, .tmp 20), (1, .tmp 21), (2, .tmp 22)] rfl (rdA u (rd0 u num kind ver) A) (by kernel_rfl) ?_ | refine wpList_stR rfl 86 (.tmp 4) (.tmp 23) rfl (w.heap.size + 2) rfl (rdA u (rd0 u num kind ver) A) rdZ rfl _ KC.out rd_info rfl (rd_one _ _ _) ?_)
      refine bodyPost_ret (v := .agg (rdA u (rd0 u num kind ver) A)) (res_row1 Try.results50 _ _ _ (w.heap.size + 2) rfl _ (setRow_heap _ _ _ _ _ _ KC.out) Try.underlying86 rd_info) rfl ⟨A, rfl, ?_, ?_, ?_⟩
      · rw [setRow_other _ _ _ _ (by have := HAe.out; omega)]
        have e : anN u.n u.n = (rd0 u num kind ver).al := by simp [anN, rd0]
        rw [← e]
        exact HR.out
      · have := HAe.out; omega
      · have k1 : Kp w wr non := (Kp.of_below hB1.out non).trans HK.out (fun k hk => Or.inr (by have := HAe.out; omega))
        exact (k1.row (Or.inr (by omega)) _).below
end Go.Proofs.Ytpleakkhbfhdkaa.Cn
