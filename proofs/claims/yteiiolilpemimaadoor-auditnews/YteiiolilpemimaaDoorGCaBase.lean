import Derived.Test.YteiiolilpemimaaDoorProg
import Derived.WalkKit
import Derived.WalkSpells
import Derived.WalkLawsBesides
import Derived.Laws.OwnMore
import Derived.Laws.MakeOwn
import Derived.Laws.CopyOwn
import Derived.Below
import Derived.Lib.MinMax
import Derived.Deep.RegionHeld3
import Derived.Deep.QuietTactic
import Derived.BigQuiet
import Derived.Deep.DeepCutAuto
import Derived.Maps.AppendAt
import Derived.Deep.WholeRow
import Derived.Great.BuildSlice
import Derived.Deep.MidRow
import Derived.Laws.AppendOwnNone
import Derived.Carry
import Derived.Maps.Own
import Derived.Maps.OwnSet
import Derived.Maps.Views
import Derived.DeepKeys4
import Derived.Maps.Keyed
import Derived.Maps.RangeRun
namespace Go.Proofs.YteiiolilpemimaaDoor.Cn
open Go.RowKit
theorem hide {p : Prop} (h : p) : Hid p := h
theorem i64_in {x : Int} (h0 : -9223372036854775808 ≤ x) (h1 : x < 9223372036854775808) : IntKind.i64.wrap x = x := by
  simp [IntKind.wrap, IntKind.signed, IntKind.bits]; omega
theorem wrap_in {x : Int} (h0 : -9223372036854775808 ≤ x) (h1 : x < 9223372036854775808) : wrap64 x = x := by unfold wrap64; omega
theorem via {P Q : Prop} {R : Prop} (f : R → P ∧ Q) (r : R) : P ∧ Q := f r
theorem blk_lt {w : World} {b : Nat} {o : Obj} (h : w.heap[b]? = some o) : b < w.heap.size := (Array.getElem?_eq_some_iff.1 h).1
theorem heap_last (w : World) (o : Obj) : (w.alloc o).heap[w.heap.size]? = some o := by
  unfold World.alloc
  exact Array.getElem?_push_size
theorem heap_setCell (w : World) (b o : Nat) (v : Value) (c : Array Value) (t : TypeId) (fr : Nat × Nat) (h : w.heap[b]? = some (.cells c t fr)) : (w.setCell ⟨b, o, none⟩ v).heap[b]? = some (.cells (c.setIfInBounds o v) t fr) := by
  simp only [World.setCell, Array.getElem?_modify, if_true, h, Option.map_some]
  rfl
/-- what has happened: all but the blocks of S are as they were -/
structure Kp (w w' : World) (S : Nat → Prop) : Prop where
  os : w'.os = w.os
  tape : w'.tape = w.tape
  output : w'.output = w.output
  size : w.heap.size ≤ w'.heap.size
  block : ∀ k, k < w.heap.size → ¬ S k → w'.heap[k]? = w.heap[k]?
def non : Nat → Prop := fun _ => False
theorem Kp.refl (w : World) (S : Nat → Prop) : Kp w w S := ⟨rfl, rfl, rfl, Nat.le_refl _, fun _ _ _ => rfl⟩
theorem Kp.trans {w w1 w2 : World} {S T : Nat → Prop} (h : Kp w w1 S) (h' : Kp w1 w2 T) (hT : ∀ k, T k → S k ∨ w.heap.size ≤ k) : Kp w w2 S :=
  ⟨h'.os.trans h.os, h'.tape.trans h.tape, h'.output.trans h.output, Nat.le_trans h.size h'.size, fun k hk hs => (h'.block k (Nat.lt_of_lt_of_le hk h.size) (fun t => by rcases hT k t with a | a; exact hs a; omega)).trans (h.block k hk hs)⟩
theorem Kp.mono {w w' : World} {S T : Nat → Prop} (h : Kp w w' S) (hT : ∀ k, S k → T k) : Kp w w' T := ⟨h.os, h.tape, h.output, h.size, fun k hk hs => h.block k hk (fun s => hs (hT k s))⟩
theorem Kp.of_below {w w' : World} (h : Below w.heap.size w w') (S : Nat → Prop) : Kp w w' S := ⟨h.os, h.tape, h.output, h.size, fun k hk _ => h.block k hk⟩
theorem Kp.below {w w' : World} (h : Kp w w' non) : Below w.heap.size w w' := ⟨h.os, h.tape, h.output, h.size, fun k hk => h.block k hk (fun f => f)⟩
theorem Kp.of_grown {w w' : World} {r : Option Nat} (h : w.grownBy w' r) : Kp w w' (fun k => some k = r) := ⟨h.os, h.tape, h.output, h.size, fun k hk hs => h.block k hk hs⟩
theorem Kp.drewN {w w' : World} {S : Nat → Prop} (h : Kp w w' S) (n : Nat) : Kp w (w'.drewN n) S := ⟨h.os, h.tape, h.output, h.size, h.block⟩
theorem Kp.drew {w w' : World} {S : Nat → Prop} (h : Kp w w' S) : Kp w w'.drew S := ⟨h.os, h.tape, h.output, h.size, h.block⟩
theorem Kp.alloc {w w' : World} {S : Nat → Prop} (h : Kp w w' S) (o : Obj) : Kp w (w'.alloc o) S := h.trans (Kp.of_below ((Below.refl _ w').alloc (Nat.le_refl _) o) S) (fun _ hk => Or.inl hk)
theorem Kp.set {w w' : World} {S : Nat → Prop} {R : Nat} (h : Kp w w' S) (hR : S R ∨ w.heap.size ≤ R) (j : Nat) (v : Value) : Kp w (w'.setCell ⟨R, j, none⟩ v) S :=
  h.trans (T := fun k => k = R) ⟨rfl, rfl, rfl, by rw [World.size_setCell]; exact Nat.le_refl _, fun k _ hs => Below.heap_setCell _ _ _ k (fun e => hs (e.symm ▸ rfl))⟩ (fun _ hk => by subst hk; exact hR)
theorem Kp.cell {w w' : World} {S : Nat → Prop} (h : Kp w w' S) {b o : Nat} (hb : b < w.heap.size) (hs : ¬ S b) : w'.cell? ⟨b, o, none⟩ = w.cell? ⟨b, o, none⟩ := by
  unfold World.cell?
  rw [h.block b hb hs]
/-- a whole row is loaded, stored, built, answered -/
theorem wpList_ldR {w : World} {ops : Array Oper} {rest : List Oper} {o : Oper} {a : Act} {Q : Exit → Act → World → Prop} (hgd : o.guard = none) (ty : TypeId) (x : Operand) (ho : o.op = .load ty x) (b : Nat) (hx : a.eval x = .pointer (some ⟨b, 0, none⟩)) (t : TypeId) (A : Array Value) (hO : w.heap[b]? = some (.cells A t)) {fs} (hu : Tryd.prog.underlying ty = some (.struct fs)) (hi : (Tryd.prog.info? ty).map (·.size) = some A.size)
    (h : wpList Tryd.prog ops Q rest (a.put o.dst (.agg A)) w) : wpList Tryd.prog ops Q (o :: rest) a w := by
  have hl : (Instr.loadAt ty (.pointer (some ⟨b, 0, none⟩))).run Tryd.prog w = .ok (.agg A) w := by
    simp only [Instr.loadAt, Instr.sureAddr, Sem.run_bind, Sem.run_pure, Result.andThen]
    exact run_loadVar_row _ _ t ty A (0, 0) _ hO hu rfl hi
  refine wpList_plain hgd fun K hK => ?_
  unfold Oper.wp execOp
  simp only [ho, Sem.run_bind, Sem.run_pure, Result.andThen_ok, hx, hl]
  exact hK _ _ h
theorem wpList_stR {w : World} {ops : Array Oper} {rest : List Oper} {o : Oper} {a : Act} {Q : Exit → Act → World → Prop} (hgd : o.guard = none) (ty : TypeId) (p x : Operand) (ho : o.op = .store ty p x) (b : Nat) (hp : a.eval p = .pointer (some ⟨b, 0, none⟩)) (A A0 : Array Value) (hx : a.eval x = .agg A) (t : TypeId) (hO : w.heap[b]? = some (.cells A0 t)) (hi : (Tryd.prog.info? ty).map (·.size) = some A.size) (hs : A0.size = A.size) (h1 : A.all (·.oneCell') = true)
    (h : wpList Tryd.prog ops Q rest (a.put o.dst undef) (w.setRow b A)) : wpList Tryd.prog ops Q (o :: rest) a w :=
  wpList_plain hgd fun _ hK => wp_store_row ty p x ho b A hp hx t A0 hO hi hs h1 (hK _ _ h)
theorem wpList_blR {w : World} {ops : Array Oper} {rest : List Oper} {o : Oper} {a : Act} {Q : Exit → Act → World → Prop} (hgd : o.guard = none) (ty : TypeId) (parts : Array (Nat × Operand)) (ho : o.op = .build ty parts) (A : Array Value) (hb : Tryd.prog.built ty (parts.map fun (i, x) => (i, a.eval x)).toList = some A)
    (h : wpList Tryd.prog ops Q rest (a.put o.dst (.agg A)) w) : wpList Tryd.prog ops Q (o :: rest) a w := by
  refine wpList_plain hgd fun K hK => ?_
  unfold Oper.wp execOp
  simp only [ho, Sem.run_bind, Sem.run_pure]
  have := run_build w ty _ A hb
  rw [this]
  exact hK _ _ h
theorem res_row1 {fn : Func} {p : Tmp} {ty : TypeId} (h : fn.results = #[.cell p ty]) (tmps : Array Value) (A : Array Value) (w : World) (b : Nat) (ht : tmps.getD p undef = .pointer (some ⟨b, 0, none⟩)) (t : TypeId) (hO : w.heap[b]? = some (.cells A t)) {fs} (hu : Tryd.prog.underlying ty = some (.struct fs)) (hi : (Tryd.prog.info? ty).map (·.size) = some A.size) : (results fn tmps).run Tryd.prog w = .ok (.agg A) w := by
  have hl : (loadVar ty ⟨b, 0, none⟩).run Tryd.prog w = .ok (.agg A) w := run_loadVar_row _ _ t ty A (0, 0) _ hO hu rfl hi
  have ht' : tmps[p]?.getD undef = .pointer (some ⟨b, 0, none⟩) := by simpa using ht
  unfold results
  rw [h]
  simp [ht', asAddr, hl]
theorem res_row2 {fn : Func} {p q : Tmp} {ty : TypeId} (h : fn.results = #[.cell p ty, .tmp q]) (tmps : Array Value) (A : Array Value) (w : World) (b : Nat) (ht : tmps.getD p undef = .pointer (some ⟨b, 0, none⟩)) (v : Value) (hv : tmps.getD q undef = v) (t : TypeId) (hO : w.heap[b]? = some (.cells A t)) {fs} (hu : Tryd.prog.underlying ty = some (.struct fs)) (hi : (Tryd.prog.info? ty).map (·.size) = some A.size) : (results fn tmps).run Tryd.prog w = .ok (.tuple #[.agg A, v]) w := by
  have hl : (loadVar ty ⟨b, 0, none⟩).run Tryd.prog w = .ok (.agg A) w := run_loadVar_row _ _ t ty A (0, 0) _ hO hu rfl hi
  have ht' : tmps[p]?.getD undef = .pointer (some ⟨b, 0, none⟩) := by simpa using ht
  have hv' : tmps[q]?.getD undef = v := by simpa using hv
  unfold results
  rw [h]
  simp [ht', hv', asAddr, hl]
theorem cell_row {w : World} {b : Nat} {A : Array Value} {t : TypeId} (h : w.heap[b]? = some (.cells A t)) (i : Nat) : w.cell? ⟨b, i, none⟩ = A[i]? := by
  unfold World.cell?; rw [h]; rfl
theorem fz_row {w : World} {b : Nat} {A : Array Value} {t : TypeId} (h : w.heap[b]? = some (.cells A t)) (i : Nat) : w.frozen? ⟨b, i, none⟩ = false := by
  unfold World.frozen?; rw [h]; simp
/-- a message -/
structure Mg where
  kind : Int
  fr : Int
  td : Int
  id : Int
  ep : Int
  sq : Int
  ver : Int
  prev : Int
  code : Int
  key : ByteArray
  val : ByteArray
def mgV (m : Mg) : Array Value := #[.int .i64 m.kind, .int .i64 m.fr, .int .i64 m.td, .int .i64 m.id, .int .i64 m.ep, .int .i64 m.sq, .int .i64 m.ver, .int .i64 m.prev, .int .i64 m.code, .string m.key, .string m.val]
def mg0 : Mg := ⟨0, 0, 0, 0, 0, 0, 0, 0, 0, ⟨#[]⟩, ⟨#[]⟩⟩
theorem mg_info : (Tryd.prog.info? 41).map (·.size) = some 11 := by kernel_rfl
theorem mg_infos : (Tryd.prog.info? 41).map (fun i => (i.zero, i.size, i.bytes)) = some (some (.agg (mgV mg0)), 11, 104) := by kernel_rfl
theorem mg_one (m : Mg) : (mgV m).all (·.oneCell') = true := by simp [mgV, Value.oneCell']
def MgAt (w : World) (b : Nat) (m : Mg) : Prop := w.heap[b]? = some (.cells (mgV m) 41)
theorem MgAt.cells {w : World} {Q : Nat} {m : Mg} (h : MgAt w Q m) : w.cell? ⟨Q, 0, none⟩ = some (.int .i64 m.kind) ∧ w.cell? ⟨Q, 1, none⟩ = some (.int .i64 m.fr) ∧ w.cell? ⟨Q, 2, none⟩ = some (.int .i64 m.td) ∧ w.cell? ⟨Q, 3, none⟩ = some (.int .i64 m.id) ∧ w.cell? ⟨Q, 4, none⟩ = some (.int .i64 m.ep) ∧ w.cell? ⟨Q, 5, none⟩ = some (.int .i64 m.sq) ∧ w.cell? ⟨Q, 6, none⟩ = some (.int .i64 m.ver) ∧ w.cell? ⟨Q, 7, none⟩ = some (.int .i64 m.prev) ∧ w.cell? ⟨Q, 8, none⟩ = some (.int .i64 m.code) ∧ w.cell? ⟨Q, 9, none⟩ = some (.string m.key) ∧ w.cell? ⟨Q, 10, none⟩ = some (.string m.val) := by
  unfold MgAt at h
  simp only [cell_row h]
  exact ⟨rfl, rfl, rfl, rfl, rfl, rfl, rfl, rfl, rfl, rfl, rfl⟩
theorem MgAt.keep {w w' : World} {b : Nat} {m : Mg} {S : Nat → Prop} (h : MgAt w b m) (hk : Kp w w' S) (hs : ¬ S b) : MgAt w' b m := (hk.block b (blk_lt h) hs).trans h
theorem MgAt.new (w : World) (m : Mg) : MgAt (w.alloc (.cells (mgV m) 41)) w.heap.size m := heap_last _ _
theorem wpList_ldM {w : World} {ops : Array Oper} {rest : List Oper} {o : Oper} {a : Act} {Q : Exit → Act → World → Prop} (hgd : o.guard = none) (x : Operand) (ho : o.op = .load 41 x) (m : Mg) (b : Nat) (hx : a.eval x = .pointer (some ⟨b, 0, none⟩)) (hO : MgAt w b m)
    (h : wpList Tryd.prog ops Q rest (a.put o.dst (.agg (mgV m))) w) : wpList Tryd.prog ops Q (o :: rest) a w :=
  wpList_ldR hgd _ x ho b hx _ _ hO Tryd.underlying41 mg_info h
/-- messages, as cells -/
def mgs (l : List Mg) : List Value := l.flatMap fun m => (mgV m).toList
theorem mgs_append (a b : List Mg) : mgs (a ++ b) = mgs a ++ mgs b := List.flatMap_append
theorem mgs_one (m : Mg) : mgs [m] = (mgV m).toList := by unfold mgs; rw [List.flatMap_cons, List.flatMap_nil, List.append_nil]
theorem mgs_len (L : List Mg) : (mgs L).length = L.length * 11 := by
  induction L with
  | nil => rfl
  | cons a r ih =>
    unfold mgs at *
    rw [List.flatMap_cons, List.length_append, ih]
    simp only [List.length_cons, mgV, List.length_nil]
    omega
theorem mgs_oneCell (L : List Mg) : ∀ u ∈ mgs L, u.oneCell' = true := by
  intro u hu
  unfold mgs at hu
  obtain ⟨m, _, hm⟩ := List.mem_flatMap.1 hu
  have := Array.all_eq_true_iff_forall_mem.1 (mg_one m) u (by simpa using hm)
  exact this
theorem mgs_at (L : List Mg) (q : Nat) (h : q < L.length) (j : Nat) (hj : j < 11) : (mgs L)[q * 11 + j]? = (mgV L[q])[j]? := by
  induction L generalizing q with
  | nil => simp at h
  | cons a r ih =>
    cases q with
    | zero =>
      unfold mgs
      rw [List.flatMap_cons, Nat.zero_mul, Nat.zero_add, List.getElem?_append_left (by simpa [mgV] using hj)]
      simp
    | succ q =>
      have h' : q < r.length := by simpa using h
      have := ih q h'
      unfold mgs at *
      rw [List.flatMap_cons, show (q + 1) * 11 + j = (mgV a).toList.length + (q * 11 + j) by simp [mgV]; omega, List.getElem?_append_right (by omega), Nat.add_sub_cancel_left]
      exact this
theorem fill_mg (m : Mg) : Instr.fill (fun i => some (i * 11, 11)) ((Array.range (1 * 11)).map ((Value.agg (mgV mg0)).cells[· % (Value.agg (mgV mg0)).cells.size]!)) [(0, .agg (mgV m))] = some (mgV m) := by kernel_rfl
theorem mg_parts {t : TypeId} {z : Value} {k by' : Nat} (h : (Tryd.prog.info? t).map (fun i => (i.zero, i.size, i.bytes)) = some (some z, k, by')) : ∃ i0, Tryd.prog.info? t = some i0 ∧ i0.zero = some z ∧ i0.size = k ∧ i0.bytes = by' := by
  cases hq : Tryd.prog.info? t with
  | none => simp [hq] at h
  | some i => simp [hq] at h; exact ⟨i, rfl, h.1, h.2.1, h.2.2⟩
theorem wp_bsM {w : World} {o : Oper} {a : Act} {K : Act → World → Prop} {Q : Exit → Act → World → Prop} (x : Operand) (ho : o.op = .buildSlice 34 1 #[(0, x)]) (m : Mg) (hx : a.eval x = .agg (mgV m))
    (h : K (a.put o.dst (.slice (some ⟨w.heap.size, 0, none⟩) 1 1)) (w.alloc (.cells (mgV m) 41))) : o.wp Tryd.prog a w K Q := by
  obtain ⟨i0, hi, hz0, hz1, hz2⟩ := mg_parts mg_infos
  refine wp_buildSlice 34 41 1 _ ho (mgV m) i0 _ Tryd.underlying34 hi hz0 (by rw [hz1]; decide) (by rw [hz1]; decide) ?_ h
  rw [hz1]
  simp only [List.map_toArray, List.map_cons, List.map_nil, hx]
  exact fill_mg m
theorem wpList_bsM {w : World} {ops : Array Oper} {rest : List Oper} {o : Oper} {a : Act} {Q : Exit → Act → World → Prop} (hgd : o.guard = none) (x : Operand) (ho : o.op = .buildSlice 34 1 #[(0, x)]) (m : Mg) (hx : a.eval x = .agg (mgV m))
    (h : wpList Tryd.prog ops Q rest (a.put o.dst (.slice (some ⟨w.heap.size, 0, none⟩) 1 1)) (w.alloc (.cells (mgV m) 41))) : wpList Tryd.prog ops Q (o :: rest) a w :=
  wpList_plain hgd fun _ hK => wp_bsM x ho m hx (hK _ _ h)
theorem mg_cell (w : World) (m : Mg) : ∀ j u, (mgs [m])[j]? = some u → (w.alloc (.cells (mgV m) 41)).cell? ((⟨w.heap.size, 0, none⟩ : Addr).add j) = some u := by
  rw [mgs_one]
  intro j u hj
  rw [Addr.add_mid, Nat.zero_add, cell_row (heap_last w _)]
  simpa using hj
theorem mg_room {k : Nat} (h : k ≤ 1000000000000) : k + 1 ≤ maxLen ∧ (k + 1) * 104 ≤ 140737488355328 := by unfold maxLen; omega
/-- append(list, m) -/
theorem wpList_apM {w : World} {ops : Array Oper} {rest : List Oper} {o : Oper} {a : Act} {Q : Exit → Act → World → Prop} (hgd : o.guard = none) (x y : Operand) (ho : o.op = .call { callee := .builtin .append, args := #[x, y], argTypes := #[34, 34] }) (base : Nat) (v : Value) (L : List Mg) (hx : a.eval x = v) (hv : w.ownsRow base 41 11 v L.length (mgs L)) (g : Nat) (m : Mg) (hy : a.eval y = .slice (some ⟨g, 0, none⟩) 1 1) (hg : w.heap[g]? = some (.cells (mgV m) 41)) (hl : L.length ≤ 1000000000000) (hb : base ≤ w.heap.size)
    (h : ∀ v' w', w'.ownsRow base 41 11 v' (L.length + 1) (mgs (L ++ [m])) → w.grownBy w' v.ownBlock → wpList Tryd.prog ops Q rest (a.put o.dst v') w') : wpList Tryd.prog ops Q (o :: rest) a w := by
  obtain ⟨i0, hi, hz0, hz1, hz2⟩ := mg_parts mg_infos
  refine wpList_append_own_at _ hgd _ _ 34 ho base 41 i0 _ 11 104 Tryd.underlying34 hi hz0 hz1 hz2 rfl (by decide) _ _ _ hx hv ⟨g, 0, none⟩ 1 1 (mgs [m]) hy (by rw [mgs_one]; rfl) ?_ (mgs_oneCell _) (mg_room hl).1 (mg_room hl).2 hb ?_
  · rw [mgs_one]
    intro j u hj
    rw [Addr.add_mid, Nat.zero_add, cell_row hg]
    simpa using hj
  · intro v' w' h1 h2 _ _
    rw [← mgs_append] at h1
    exact h v' w' h1 h2
theorem own_sl {w : World} {base e sz n : Nat} {v : Value} {xs : List Value} (h : w.ownsRow base e sz v n xs) : ∃ ba cap, v = .slice ba n cap := by
  rcases h.2 with ⟨hv, hz⟩ | ⟨g, cap, cur, hv, _⟩
  · exact ⟨none, 0, by rw [hv, hz]⟩
  · exact ⟨_, _, hv⟩
theorem own_g {w : World} {base e sz n : Nat} {v : Value} {xs : List Value} (h : w.ownsRow base e sz v n xs) (hn : 0 < n) : ∃ g cap, v = .slice (some ⟨g, 0, none⟩) n cap := by
  rcases h.2 with ⟨hv, hz⟩ | ⟨g, cap, cur, hv, _⟩
  · omega
  · exact ⟨_, _, hv⟩
theorem own_kp {w w' : World} {S : Nat → Prop} {base e sz n : Nat} {v : Value} {xs : List Value} (h : w.ownsRow base e sz v n xs) (hk : Kp w w' S) (hne : ∀ k, v.ownBlock = some k → ¬ S k) : w'.ownsRow base e sz v n xs := by
  refine ⟨h.1, ?_⟩
  rcases h.2 with ⟨hv, hz⟩ | ⟨g, cap, cur, rfl, h1, h2, h3⟩
  · exact .inl ⟨hv, hz⟩
  · exact .inr ⟨g, cap, cur, rfl, h1, (hk.block g (blk_lt h2) (hne g rfl)).trans h2, h3⟩
end Go.Proofs.YteiiolilpemimaaDoor.Cn
namespace Go.Proofs.YteiiolilpemimaaDoor.Cn
end Go.Proofs.YteiiolilpemimaaDoor.Cn
namespace Go.Proofs.YteiiolilpemimaaDoor.Cn
open Go.RowKit Go.MapKept Go.Maps
open Go.ChangeMaps (setBlock heap_setBlock_same heap_setBlock_other modify_eq_set set_perm)
/-- how keys of a kind lie there -/
structure KeyT (kt : TypeId) (κ : Type) where
  enc : κ → Value
  ok : κ → Prop
  law : Keyed Tryd.prog kt
  key : ∀ k, ok k → ∃ l, keyOf Tryd.prog kt (enc k) = some l
  inj : ∀ a b, enc a = enc b → a = b
variable {kt : TypeId} {κ : Type}
def enL (T : KeyT kt κ) (L : List (κ × Value)) : List (Value × Value) := L.map fun p => (T.enc p.1, p.2)
def kvs (es : Array MapEntry) : List (Value × Value) := es.toList.map fun x => (x.key, x.val)
/-- the entries of a map, in some order -/
structure Raw (T : KeyT kt κ) (es : Array MapEntry) (clock : Nat) (L : List (κ × Value)) : Prop where
  st : Stamped es clock
  sz : es.size ≤ maxLen
  ks : ∀ p ∈ L, T.ok p.1
  pm : (kvs es).Perm (enL T L)
def Mp (T : KeyT kt κ) (w : World) (M : Nat) (L : List (κ × Value)) : Prop := ∃ es clock, w.heap[M]? = some (.map es clock) ∧ Raw T es clock L
section
variable {T : KeyT kt κ} {es : Array MapEntry} {clock : Nat} {L : List (κ × Value)} {w w' : World} {M : Nat}
theorem Raw.mem (h : Raw T es clock L) {x : MapEntry} (hx : x ∈ es.toList) : ∃ p ∈ L, x.key = T.enc p.1 ∧ x.val = p.2 := by
  have : (x.key, x.val) ∈ enL T L := h.pm.mem_iff.1 (List.mem_map.2 ⟨x, hx, rfl⟩)
  obtain ⟨p, hp, e⟩ := List.mem_map.1 this
  simp only [Prod.mk.injEq] at e
  exact ⟨p, hp, e.1.symm, e.2.symm⟩
theorem Raw.mem' (h : Raw T es clock L) {p : κ × Value} (hp : p ∈ L) : ∃ x ∈ es.toList, x.key = T.enc p.1 ∧ x.val = p.2 := by
  have : (T.enc p.1, p.2) ∈ kvs es := h.pm.mem_iff.2 (List.mem_map.2 ⟨p, hp, rfl⟩)
  obtain ⟨x, hx, e⟩ := List.mem_map.1 this
  simp only [Prod.mk.injEq] at e
  exact ⟨x, hx, e.1, e.2⟩
theorem Raw.keys (h : Raw T es clock L) : ∀ x ∈ es.toList, ∃ l, keyOf Tryd.prog kt x.key = some l := fun x hx => by
  obtain ⟨p, hp, e, _⟩ := h.mem hx
  rw [e]
  exact T.key _ (h.ks p hp)
theorem Raw.nd (h : Raw T es clock L) : (L.map (·.1)).Nodup := by
  have h1 : ((kvs es).map (·.1)).Nodup := by
    have := ((stamped_iff es clock).1 h.st).2.2
    unfold kvs List.Nodup
    rw [List.map_map, List.pairwise_map]
    exact this
  have h2 : ((enL T L).map (·.1)).Nodup := (h.pm.map _).nodup_iff.1 h1
  unfold enL at h2
  rw [List.map_map] at h2
  have e : ((fun p : Value × Value => p.1) ∘ fun p : κ × Value => (T.enc p.1, p.2)) = T.enc ∘ (fun p : κ × Value => p.1) := rfl
  rw [e, ← List.map_map] at h2
  exact (List.pairwise_map.1 h2).imp (fun h e => h (by rw [e]))
theorem Mp.nd (h : Mp T w M L) : (L.map (·.1)).Nodup := by
  obtain ⟨es, clock, _, hr⟩ := h
  exact hr.nd
theorem Mp.lt (h : Mp T w M L) : M < w.heap.size := by
  obtain ⟨es, clock, hb, _⟩ := h
  exact blk_lt hb
theorem Mp.same (h : Mp T w M L) (e : w'.heap[M]? = w.heap[M]?) : Mp T w' M L := by
  obtain ⟨es, clock, hb, hr⟩ := h
  exact ⟨es, clock, e.trans hb, hr⟩
theorem Mp.kp {S : Nat → Prop} (h : Mp T w M L) (hk : Kp w w' S) (hM : ¬ S M) : Mp T w' M L := h.same (hk.block _ h.lt hM)
theorem Mp.kind (h : Mp T w M L) {c : Array Value} {t : TypeId} {f : Nat × Nat} : w.heap[M]? ≠ some (.cells c t f) := by
  obtain ⟨es, clock, hb, _⟩ := h
  rw [hb]
  simp
theorem Mp.perm (h : Mp T w M L) {L' : List (κ × Value)} (hp : L.Perm L') : Mp T w M L' := by
  obtain ⟨es, clock, hb, hr⟩ := h
  exact ⟨es, clock, hb, hr.st, hr.sz, fun p q => hr.ks p (hp.mem_iff.2 q), hr.pm.trans (hp.map _)⟩
theorem Mp.made (T : KeyT kt κ) (w : World) : Mp T (w.alloc (.map #[] 0)) w.heap.size [] := ⟨#[], 0, heap_last _ _, stamped_empty 0, by simp, by simp, List.Perm.refl _⟩
theorem setB_at {X : World} {o o' : Obj} (h : X.heap[M]? = some o) : (setBlock X M o').heap[M]? = some o' := by
  simp [setBlock, (Array.getElem?_eq_some_iff.1 h).1]
theorem setB_kp {X : World} {o' : Obj} : Kp X (setBlock X M o') (fun k => k = M) := ⟨rfl, rfl, rfl, by simp [setBlock], fun i _ hi => by
  simp only [setBlock]
  rw [Array.getElem?_setIfInBounds_ne (fun e => hi e.symm)]⟩
theorem Mp.ok (h : Mp T w M L) : ∀ p ∈ L, T.ok p.1 := by
  obtain ⟨es, clock, hb, hr⟩ := h
  exact hr.ks
end
theorem perm_at {α : Type} {l : List α} {j : Nat} {x : α} (h : l[j]? = some x) : l.Perm (x :: l.eraseIdx j) := by
  induction l generalizing j with
  | nil => simp at h
  | cons a r ih =>
    cases j with
    | zero =>
      simp only [List.getElem?_cons_zero, Option.some.injEq] at h
      subst h
      exact List.Perm.refl _
    | succ j =>
      rw [List.getElem?_cons_succ] at h
      exact (List.Perm.cons a (ih h)).trans (List.Perm.swap _ _ _)
variable [DecidableEq κ]
def look (L : List (κ × Value)) (k : κ) : Option Value := (L.find? (fun p => p.1 = k)).map (·.2)
def dele {α : Type} (L : List (κ × α)) (k : κ) : List (κ × α) := L.filter (fun p => p.1 ≠ k)
def putt {α : Type} (L : List (κ × α)) (k : κ) (v : α) : List (κ × α) := dele L k ++ [(k, v)]
section
variable {T : KeyT kt κ} {es : Array MapEntry} {clock : Nat} {L : List (κ × Value)} {w w' : World} {M : Nat}
theorem nd_find {α : Type} {L : List (κ × α)} (h : (L.map (·.1)).Nodup) {p : κ × α} (hp : p ∈ L) : L.find? (fun q => decide (q.1 = p.1)) = some p := by
  induction L with
  | nil => simp at hp
  | cons a r ih =>
    rw [List.map_cons, List.nodup_cons] at h
    rcases List.mem_cons.1 hp with rfl | hp'
    · simp
    · have hne : a.1 ≠ p.1 := fun e => h.1 (e ▸ List.mem_map.2 ⟨p, hp', rfl⟩)
      simp [hne, ih h.2 hp']
theorem look_mem (h : (L.map (·.1)).Nodup) {p : κ × Value} (hp : p ∈ L) : look L p.1 = some p.2 := by
  unfold look
  rw [nd_find h hp]
  rfl
theorem look_none {k : κ} (h : ∀ p ∈ L, p.1 ≠ k) : look L k = none := by
  unfold look
  rw [List.find?_eq_none.2 (by simpa using h)]
  rfl
/-- 'm[k]' -/
theorem Mp.lookup {t e : TypeId} {z : Value} (h : Mp T w M L) (ht : Tryd.prog.underlying t = some (.map kt e)) (hz : ∀ X, (zeroValue e).run Tryd.prog X = .ok z X) {k : κ} (hk : T.ok k) :
    (Instr.lookup t (.map (some M)) (T.enc k) false).run Tryd.prog w = .ok ((look L k).getD z) w := by
  obtain ⟨es, clock, hb, hr⟩ := h
  obtain ⟨kl, hkey⟩ := T.key k hk
  rcases T.law.find w hkey es.toList hr.keys with ⟨h1, h2⟩ | ⟨j, e0, h1, h2, h3⟩
  · have hn : look L k = none := look_none (fun p hp ep => by
      obtain ⟨x, hx, ex, _⟩ := hr.mem' hp
      exact h2 x hx (by rw [ex, ep]))
    rw [hn]
    simp [Instr.lookup, run_underlying ht, MapKept.run_getObj_map hb, T.law.check w _ hkey, h1, hz]
  · have hx : e0 ∈ es.toList := List.mem_of_getElem? h2
    obtain ⟨p, hp, ep, ev⟩ := hr.mem hx
    have : p.1 = k := T.inj _ _ (ep.symm.trans h3)
    have hl := look_mem hr.nd hp
    rw [this] at hl
    rw [hl]
    simp [Instr.lookup, run_underlying ht, MapKept.run_getObj_map hb, T.law.check w _ hkey, h1, ev]
theorem filter_ne_all {α : Type} {L : List (κ × α)} {k : κ} (h : ∀ p ∈ L, p.1 ≠ k) : dele L k = L := List.filter_eq_self.2 (by simpa using h)
theorem enL_dele (T : KeyT kt κ) (L : List (κ × Value)) (k : κ) : ∀ p ∈ enL T (dele L k), p.1 ≠ T.enc k := fun p hp => by
  obtain ⟨q, hq, rfl⟩ := List.mem_map.1 hp
  simp only [dele, ne_eq, decide_not, List.mem_filter, Bool.not_eq_true', decide_eq_false_iff_not] at hq
  exact fun e => hq.2 (T.inj _ _ e)
theorem perm_split {α : Type} {L : List (κ × α)} (hn : (L.map (·.1)).Nodup) {p : κ × α} (hp : p ∈ L) : L.Perm (p :: dele L p.1) := by
  induction L with
  | nil => simp at hp
  | cons a r ih =>
    rw [List.map_cons, List.nodup_cons] at hn
    by_cases e : a.1 = p.1
    · have ea : a = p := by
        rcases List.mem_cons.1 hp with rfl | hp'
        · rfl
        · exact absurd (List.mem_map.2 ⟨p, hp', e.symm⟩) hn.1
      subst ea
      have : dele (a :: r) a.1 = r := by
        unfold dele
        rw [List.filter_cons_of_neg (by simp)]
        exact filter_ne_all (fun q hq eq => hn.1 (List.mem_map.2 ⟨q, hq, eq⟩))
      rw [this]
    · have hp' : p ∈ r := by
        rcases List.mem_cons.1 hp with rfl | hp'
        · exact absurd rfl e
        · exact hp'
      have : dele (a :: r) p.1 = a :: dele r p.1 := by
        unfold dele
        rw [List.filter_cons_of_pos (by simpa using e)]
      rw [this]
      exact (List.Perm.cons a (ih hn.2 hp')).trans (List.Perm.swap _ _ _)
theorem len_dele {α : Type} (L : List (κ × α)) (k : κ) : (dele L k).length ≤ L.length := List.length_filter_le _ _
/-- 'm[k] = v' -/
theorem Mp.put {t e : TypeId} (h : Mp T w M L) (ht : Tryd.prog.underlying t = some (.map kt e)) {k : κ} (hk : T.ok k) (v : Value) (hl : L.length < maxLen) :
    ∃ X, (Instr.mapUpdate t (.map (some M)) (T.enc k) v).run Tryd.prog w = .ok () X ∧ Mp T X M (putt L k v) ∧ Kp w X (fun b => b = M) := by
  obtain ⟨es, clock, hb, hr⟩ := h
  obtain ⟨kl, hkey⟩ := T.key k hk
  have hsz : es.size = L.length := by
    have := hr.pm.length_eq
    simpa [kvs, enL] using this
  have oks : ∀ p ∈ putt L k v, T.ok p.1 := fun p hp => by
    rcases List.mem_append.1 hp with hp | hp
    · exact hr.ks p (List.mem_filter.1 hp).1
    · rw [List.mem_singleton.1 hp]; exact hk
  rcases T.law.find w hkey es.toList hr.keys with ⟨h1, h2⟩ | ⟨j, e0, h1, h2, h3⟩
  · refine ⟨setBlock w M (.map (es.push ⟨T.enc k, v, clock⟩) (clock + 1)), ?_, ⟨_, _, setB_at hb, stamped_push hr.st h2, by simp; omega, oks, ?_⟩, setB_kp⟩
    · simp [Instr.mapUpdate, run_underlying ht, MapKept.run_getObj_map hb, T.law.check w false hkey, h1, MapKept.run_setObj_map _ hb, Result.andThen, setBlock]
    · have hn : dele L k = L := filter_ne_all (fun p hp ep => by
        obtain ⟨x, hx, ex, _⟩ := hr.mem' hp
        exact h2 x hx (by rw [ex, ep]))
      unfold putt
      rw [hn]
      have := hr.pm
      unfold kvs enL at *
      simp only [Array.toList_push, List.map_append, List.map_cons, List.map_nil]
      exact this.append_right _
  · have hj : es[j]? = some e0 := by simpa using h2
    have hjl : j < es.toList.length := (List.getElem?_eq_some_iff.1 h2).1
    have hlist : (es.modify j (fun e' => { e' with key := T.enc k, val := v })).toList = es.toList.set j { e0 with key := T.enc k, val := v } := by rw [Array.toList_modify, modify_eq_set _ _ _ _ h2]
    refine ⟨setBlock w M (.map (es.modify j (fun e' => { e' with key := T.enc k, val := v })) clock), ?_, ⟨_, _, setB_at hb, stamped_modify hr.st _ _ (fun _ _ => rfl) (fun e' _ he' => by rw [hj] at he'; cases he'; exact h3.symm), by simpa using hr.sz, oks, ?_⟩, setB_kp⟩
    · simp [Instr.mapUpdate, run_underlying ht, MapKept.run_getObj_map hb, T.law.check w false hkey, h1, hj, h3, T.law.stays w hkey, MapKept.run_setObj_map _ hb, Result.andThen, setBlock]
    · have hx : e0 ∈ es.toList := List.mem_of_getElem? h2
      obtain ⟨p, hp, ep, ev⟩ := hr.mem hx
      have pk : p.1 = k := T.inj _ _ (ep.symm.trans h3)
      unfold kvs
      rw [hlist, List.map_set]
      refine (set_perm _ _ (by simpa using hjl) _).trans ?_
      have e1 : ((es.toList.map fun x => (x.key, x.val)).eraseIdx j).Perm (enL T (dele L k)) := by
        have a1 : (es.toList.map fun x => (x.key, x.val)).Perm ((e0.key, e0.val) :: (es.toList.map fun x => (x.key, x.val)).eraseIdx j) := perm_at (by simp [h2])
        have a2 : (enL T L).Perm ((e0.key, e0.val) :: enL T (dele L k)) := by
          have := (perm_split hr.nd hp).map (fun p : κ × Value => (T.enc p.1, p.2))
          rw [List.map_cons, ← ep, ← ev, pk] at this
          exact this
        exact (a1.symm.trans (hr.pm.trans a2)).cons_inv
      unfold putt enL
      rw [List.map_append]
      exact (List.Perm.cons _ e1).trans (List.perm_append_singleton _ _).symm
/-- 'delete(m, k)' -/
theorem Mp.del {t e ty : TypeId} (h : Mp T w M L) (ht : Tryd.prog.underlying t = some (.map kt e)) {k : κ} (hk : T.ok k) :
    ∃ X, (Builtin.delete_ #[t, kt] ty #[.map (some M), T.enc k]).run Tryd.prog w = .ok (.tuple #[]) X ∧ Mp T X M (dele L k) ∧ Kp w X (fun b => b = M) := by
  obtain ⟨es, clock, hb, hr⟩ := h
  obtain ⟨kl, hkey⟩ := T.key k hk
  have oks : ∀ p ∈ dele L k, T.ok p.1 := fun p hp => hr.ks p (List.mem_filter.1 hp).1
  rcases T.law.find w hkey es.toList hr.keys with ⟨h1, h2⟩ | ⟨j, e0, h1, h2, h3⟩
  · have hn : dele L k = L := filter_ne_all (fun p hp ep => by
      obtain ⟨x, hx, ex, _⟩ := hr.mem' hp
      exact h2 x hx (by rw [ex, ep]))
    rw [hn]
    refine ⟨setBlock w M (.map es clock), ?_, ⟨_, _, setB_at hb, hr⟩, setB_kp⟩
    simp [Builtin.delete_, run_underlying ht, MapKept.run_getObj_map hb, T.law.check w _ hkey, h1, MapKept.run_setObj_map _ hb, Result.andThen, setBlock]
  · have hjl : j < es.toList.length := (List.getElem?_eq_some_iff.1 h2).1
    have hjs : j < es.size := by simpa using hjl
    have hsub : (es.eraseIdxIfInBounds j).toList = es.toList.eraseIdx j := by
      unfold Array.eraseIdxIfInBounds
      rw [dif_pos hjs]
      simp
    refine ⟨setBlock w M (.map (es.eraseIdxIfInBounds j) clock), ?_, ⟨_, _, setB_at hb, stamped_erase hr.st j, Nat.le_trans (MapFrom.size_erase es j) hr.sz, oks, ?_⟩, setB_kp⟩
    · simp [Builtin.delete_, run_underlying ht, MapKept.run_getObj_map hb, T.law.check w _ hkey, h1, MapKept.run_setObj_map _ hb, Result.andThen, setBlock]
    · have hx : e0 ∈ es.toList := List.mem_of_getElem? h2
      obtain ⟨p, hp, ep, ev⟩ := hr.mem hx
      have pk : p.1 = k := T.inj _ _ (ep.symm.trans h3)
      unfold kvs
      rw [hsub, Go.ChangeMaps.map_eraseIdx]
      have a1 : (es.toList.map fun x => (x.key, x.val)).Perm ((e0.key, e0.val) :: (es.toList.map fun x => (x.key, x.val)).eraseIdx j) := perm_at (by simp [h2])
      have a2 : (enL T L).Perm ((e0.key, e0.val) :: enL T (dele L k)) := by
        have := (perm_split hr.nd hp).map (fun p : κ × Value => (T.enc p.1, p.2))
        rw [List.map_cons, ← ep, ← ev, pk] at this
        exact this
      exact (a1.symm.trans (hr.pm.trans a2)).cons_inv
end
end Go.Proofs.YteiiolilpemimaaDoor.Cn
