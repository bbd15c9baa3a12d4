import Derived.Test.YtndfhpfhgdamgaaGreatDoorProg
import Derived.WalkKit
import Derived.WalkSpells
import Derived.WalkLawsBesides
import Derived.Laws.OwnMore
import Derived.Laws.MakeOwn
import Derived.Laws.CopyOwn
import Derived.Below
import Derived.Lib.MinMax
import Derived.Deep.RegionHeld3
import Derived.Deep.QuietTactic
import Derived.BigQuiet
import Derived.Deep.DeepCutAuto
import Derived.Maps.AppendAt
import Derived.Deep.WholeRow
import Derived.Great.BuildSlice
import Derived.Deep.MidRow
import Derived.Laws.AppendOwnNone
import Derived.Carry
import Derived.Maps.Own
import Derived.Maps.OwnSet
import Derived.Maps.Views
import Derived.DeepKeys4
import Derived.Maps.Keyed
import Derived.Maps.RangeRun
namespace Go.Proofs.YtndfhpfhgdamgaaGreatDoor.Cn
open Go.RowKit
theorem hide {p : Prop} (h : p) : Hid p := h
theorem i64_in {x : Int} (h0 : -9223372036854775808 ≤ x) (h1 : x < 9223372036854775808) : IntKind.i64.wrap x = x := by
  simp [IntKind.wrap, IntKind.signed, IntKind.bits]; omega
theorem wrap_in {x : Int} (h0 : -9223372036854775808 ≤ x) (h1 : x < 9223372036854775808) : wrap64 x = x := by unfold wrap64; omega
theorem via {P Q : Prop} {R : Prop} (f : R → P ∧ Q) (r : R) : P ∧ Q := f r
theorem blk_lt {w : World} {b : Nat} {o : Obj} (h : w.heap[b]? = some o) : b < w.heap.size := (Array.getElem?_eq_some_iff.1 h).1
theorem heap_last (w : World) (o : Obj) : (w.alloc o).heap[w.heap.size]? = some o := by
  unfold World.alloc
  exact Array.getElem?_push_size
theorem heap_setCell (w : World) (b o : Nat) (v : Value) (c : Array Value) (t : TypeId) (fr : Nat × Nat) (h : w.heap[b]? = some (.cells c t fr)) : (w.setCell ⟨b, o, none⟩ v).heap[b]? = some (.cells (c.setIfInBounds o v) t fr) := by
  simp only [World.setCell, Array.getElem?_modify, if_true, h, Option.map_some]
  rfl
/-- what has happened: all but the blocks of S are as they were -/
structure Kp (w w' : World) (S : Nat → Prop) : Prop where
  os : w'.os = w.os
  tape : w'.tape = w.tape
  output : w'.output = w.output
  size : w.heap.size ≤ w'.heap.size
  block : ∀ k, k < w.heap.size → ¬ S k → w'.heap[k]? = w.heap[k]?
def non : Nat → Prop := fun _ => False
theorem Kp.refl (w : World) (S : Nat → Prop) : Kp w w S := ⟨rfl, rfl, rfl, Nat.le_refl _, fun _ _ _ => rfl⟩
theorem Kp.trans {w w1 w2 : World} {S T : Nat → Prop} (h : Kp w w1 S) (h' : Kp w1 w2 T) (hT : ∀ k, T k → S k ∨ w.heap.size ≤ k) : Kp w w2 S :=
  ⟨h'.os.trans h.os, h'.tape.trans h.tape, h'.output.trans h.output, Nat.le_trans h.size h'.size, fun k hk hs => (h'.block k (Nat.lt_of_lt_of_le hk h.size) (fun t => by rcases hT k t with a | a; exact hs a; omega)).trans (h.block k hk hs)⟩
theorem Kp.mono {w w' : World} {S T : Nat → Prop} (h : Kp w w' S) (hT : ∀ k, S k → T k) : Kp w w' T := ⟨h.os, h.tape, h.output, h.size, fun k hk hs => h.block k hk (fun s => hs (hT k s))⟩
theorem Kp.of_below {w w' : World} (h : Below w.heap.size w w') (S : Nat → Prop) : Kp w w' S := ⟨h.os, h.tape, h.output, h.size, fun k hk _ => h.block k hk⟩
theorem Kp.below {w w' : World} (h : Kp w w' non) : Below w.heap.size w w' := ⟨h.os, h.tape, h.output, h.size, fun k hk => h.block k hk (fun f => f)⟩
theorem Kp.of_grown {w w' : World} {r : Option Nat} (h : w.grownBy w' r) : Kp w w' (fun k => some k = r) := ⟨h.os, h.tape, h.output, h.size, fun k hk hs => h.block k hk hs⟩
theorem Kp.drewN {w w' : World} {S : Nat → Prop} (h : Kp w w' S) (n : Nat) : Kp w (w'.drewN n) S := ⟨h.os, h.tape, h.output, h.size, h.block⟩
theorem Kp.drew {w w' : World} {S : Nat → Prop} (h : Kp w w' S) : Kp w w'.drew S := ⟨h.os, h.tape, h.output, h.size, h.block⟩
theorem Kp.alloc {w w' : World} {S : Nat → Prop} (h : Kp w w' S) (o : Obj) : Kp w (w'.alloc o) S := h.trans (Kp.of_below ((Below.refl _ w').alloc (Nat.le_refl _) o) S) (fun _ hk => Or.inl hk)
theorem Kp.set {w w' : World} {S : Nat → Prop} {R : Nat} (h : Kp w w' S) (hR : S R ∨ w.heap.size ≤ R) (j : Nat) (v : Value) : Kp w (w'.setCell ⟨R, j, none⟩ v) S :=
  h.trans (T := fun k => k = R) ⟨rfl, rfl, rfl, by rw [World.size_setCell]; exact Nat.le_refl _, fun k _ hs => Below.heap_setCell _ _ _ k (fun e => hs (e.symm ▸ rfl))⟩ (fun _ hk => by subst hk; exact hR)
theorem Kp.cell {w w' : World} {S : Nat → Prop} (h : Kp w w' S) {b o : Nat} (hb : b < w.heap.size) (hs : ¬ S b) : w'.cell? ⟨b, o, none⟩ = w.cell? ⟨b, o, none⟩ := by
  unfold World.cell?
  rw [h.block b hb hs]
/-- a whole row is loaded, stored, built, answered -/
theorem wpList_ldR {w : World} {ops : Array Oper} {rest : List Oper} {o : Oper} {a : Act} {Q : Exit → Act → World → Prop} (hgd : o.guard = none) (ty : TypeId) (x : Operand) (ho : o.op = .load ty x) (b : Nat) (hx : a.eval x = .pointer (some ⟨b, 0, none⟩)) (t : TypeId) (A : Array Value) (hO : w.heap[b]? = some (.cells A t)) {fs} (hu : Tryz.prog.underlying ty = some (.struct fs)) (hi : (Tryz.prog.info? ty).map (·.size) = some A.size)
    (h : wpList Tryz.prog ops Q rest (a.put o.dst (.agg A)) w) : wpList Tryz.prog ops Q (o :: rest) a w := by
  have hl : (Instr.loadAt ty (.pointer (some ⟨b, 0, none⟩))).run Tryz.prog w = .ok (.agg A) w := by
    simp only [Instr.loadAt, Instr.sureAddr, Sem.run_bind, Sem.run_pure, Result.andThen]
    exact run_loadVar_row _ _ t ty A (0, 0) _ hO hu rfl hi
  refine wpList_plain hgd fun K hK => ?_
  unfold Oper.wp execOp
  simp only [ho, Sem.run_bind, Sem.run_pure, Result.andThen_ok, hx, hl]
  exact hK _ _ h
theorem wpList_stR {w : World} {ops : Array Oper} {rest : List Oper} {o : Oper} {a : Act} {Q : Exit → Act → World → Prop} (hgd : o.guard = none) (ty : TypeId) (p x : Operand) (ho : o.op = .store ty p x) (b : Nat) (hp : a.eval p = .pointer (some ⟨b, 0, none⟩)) (A A0 : Array Value) (hx : a.eval x = .agg A) (t : TypeId) (hO : w.heap[b]? = some (.cells A0 t)) (hi : (Tryz.prog.info? ty).map (·.size) = some A.size) (hs : A0.size = A.size) (h1 : A.all (·.oneCell') = true)
    (h : wpList Tryz.prog ops Q rest (a.put o.dst undef) (w.setRow b A)) : wpList Tryz.prog ops Q (o :: rest) a w :=
  wpList_plain hgd fun _ hK => wp_store_row ty p x ho b A hp hx t A0 hO hi hs h1 (hK _ _ h)
theorem wpList_blR {w : World} {ops : Array Oper} {rest : List Oper} {o : Oper} {a : Act} {Q : Exit → Act → World → Prop} (hgd : o.guard = none) (ty : TypeId) (parts : Array (Nat × Operand)) (ho : o.op = .build ty parts) (A : Array Value) (hb : Tryz.prog.built ty (parts.map fun (i, x) => (i, a.eval x)).toList = some A)
    (h : wpList Tryz.prog ops Q rest (a.put o.dst (.agg A)) w) : wpList Tryz.prog ops Q (o :: rest) a w := by
  refine wpList_plain hgd fun K hK => ?_
  unfold Oper.wp execOp
  simp only [ho, Sem.run_bind, Sem.run_pure]
  have := run_build w ty _ A hb
  rw [this]
  exact hK _ _ h
theorem res_row1 {fn : Func} {p : Tmp} {ty : TypeId} (h : fn.results = #[.cell p ty]) (tmps : Array Value) (A : Array Value) (w : World) (b : Nat) (ht : tmps.getD p undef = .pointer (some ⟨b, 0, none⟩)) (t : TypeId) (hO : w.heap[b]? = some (.cells A t)) {fs} (hu : Tryz.prog.underlying ty = some (.struct fs)) (hi : (Tryz.prog.info? ty).map (·.size) = some A.size) : (results fn tmps).run Tryz.prog w = .ok (.agg A) w := by
  have hl : (loadVar ty ⟨b, 0, none⟩).run Tryz.prog w = .ok (.agg A) w := run_loadVar_row _ _ t ty A (0, 0) _ hO hu rfl hi
  have ht' : tmps[p]?.getD undef = .pointer (some ⟨b, 0, none⟩) := by simpa using ht
  unfold results
  rw [h]
  simp [ht', asAddr, hl]
theorem res_row2 {fn : Func} {p q : Tmp} {ty : TypeId} (h : fn.results = #[.cell p ty, .tmp q]) (tmps : Array Value) (A : Array Value) (w : World) (b : Nat) (ht : tmps.getD p undef = .pointer (some ⟨b, 0, none⟩)) (v : Value) (hv : tmps.getD q undef = v) (t : TypeId) (hO : w.heap[b]? = some (.cells A t)) {fs} (hu : Tryz.prog.underlying ty = some (.struct fs)) (hi : (Tryz.prog.info? ty).map (·.size) = some A.size) : (results fn tmps).run Tryz.prog w = .ok (.tuple #[.agg A, v]) w := by
  have hl : (loadVar ty ⟨b, 0, none⟩).run Tryz.prog w = .ok (.agg A) w := run_loadVar_row _ _ t ty A (0, 0) _ hO hu rfl hi
  have ht' : tmps[p]?.getD undef = .pointer (some ⟨b, 0, none⟩) := by simpa using ht
  have hv' : tmps[q]?.getD undef = v := by simpa using hv
  unfold results
  rw [h]
  simp [ht', hv', asAddr, hl]
theorem cell_row {w : World} {b : Nat} {A : Array Value} {t : TypeId} (h : w.heap[b]? = some (.cells A t)) (i : Nat) : w.cell? ⟨b, i, none⟩ = A[i]? := by
  unfold World.cell?; rw [h]; rfl
theorem fz_row {w : World} {b : Nat} {A : Array Value} {t : TypeId} (h : w.heap[b]? = some (.cells A t)) (i : Nat) : w.frozen? ⟨b, i, none⟩ = false := by
  unfold World.frozen?; rw [h]; simp
/-- a message -/
structure Mg where
  kind : Int
  fr : Int
  td : Int
  id : Int
  ep : Int
  sq : Int
  ver : Int
  prev : Int
  code : Int
  key : ByteArray
  val : ByteArray
def mgV (m : Mg) : Array Value := #[.int .i64 m.kind, .int .i64 m.fr, .int .i64 m.td, .int .i64 m.id, .int .i64 m.ep, .int .i64 m.sq, .int .i64 m.ver, .int .i64 m.prev, .int .i64 m.code, .string m.key, .string m.val]
def mg0 : Mg := ⟨0, 0, 0, 0, 0, 0, 0, 0, 0, ⟨#[]⟩, ⟨#[]⟩⟩
theorem mg_info : (Tryz.prog.info? 58).map (·.size) = some 11 := by kernel_rfl
theorem mg_infos : (Tryz.prog.info? 58).map (fun i => (i.zero, i.size, i.bytes)) = some (some (.agg (mgV mg0)), 11, 104) := by kernel_rfl
theorem mg_one (m : Mg) : (mgV m).all (·.oneCell') = true := by simp [mgV, Value.oneCell']
def MgAt (w : World) (b : Nat) (m : Mg) : Prop := w.heap[b]? = some (.cells (mgV m) 58)
theorem MgAt.cells {w : World} {Q : Nat} {m : Mg} (h : MgAt w Q m) : w.cell? ⟨Q, 0, none⟩ = some (.int .i64 m.kind) ∧ w.cell? ⟨Q, 1, none⟩ = some (.int .i64 m.fr) ∧ w.cell? ⟨Q, 2, none⟩ = some (.int .i64 m.td) ∧ w.cell? ⟨Q, 3, none⟩ = some (.int .i64 m.id) ∧ w.cell? ⟨Q, 4, none⟩ = some (.int .i64 m.ep) ∧ w.cell? ⟨Q, 5, none⟩ = some (.int .i64 m.sq) ∧ w.cell? ⟨Q, 6, none⟩ = some (.int .i64 m.ver) ∧ w.cell? ⟨Q, 7, none⟩ = some (.int .i64 m.prev) ∧ w.cell? ⟨Q, 8, none⟩ = some (.int .i64 m.code) ∧ w.cell? ⟨Q, 9, none⟩ = some (.string m.key) ∧ w.cell? ⟨Q, 10, none⟩ = some (.string m.val) := by
  unfold MgAt at h
  simp only [cell_row h]
  exact ⟨rfl, rfl, rfl, rfl, rfl, rfl, rfl, rfl, rfl, rfl, rfl⟩
theorem MgAt.keep {w w' : World} {b : Nat} {m : Mg} {S : Nat → Prop} (h : MgAt w b m) (hk : Kp w w' S) (hs : ¬ S b) : MgAt w' b m := (hk.block b (blk_lt h) hs).trans h
theorem MgAt.new (w : World) (m : Mg) : MgAt (w.alloc (.cells (mgV m) 58)) w.heap.size m := heap_last _ _
theorem wpList_ldM {w : World} {ops : Array Oper} {rest : List Oper} {o : Oper} {a : Act} {Q : Exit → Act → World → Prop} (hgd : o.guard = none) (x : Operand) (ho : o.op = .load 58 x) (m : Mg) (b : Nat) (hx : a.eval x = .pointer (some ⟨b, 0, none⟩)) (hO : MgAt w b m)
    (h : wpList Tryz.prog ops Q rest (a.put o.dst (.agg (mgV m))) w) : wpList Tryz.prog ops Q (o :: rest) a w :=
  wpList_ldR hgd _ x ho b hx _ _ hO Tryz.underlying58 mg_info h
/-- messages, as cells -/
def mgs (l : List Mg) : List Value := l.flatMap fun m => (mgV m).toList
theorem mgs_append (a b : List Mg) : mgs (a ++ b) = mgs a ++ mgs b := List.flatMap_append
theorem mgs_one (m : Mg) : mgs [m] = (mgV m).toList := by unfold mgs; rw [List.flatMap_cons, List.flatMap_nil, List.append_nil]
theorem mgs_len (L : List Mg) : (mgs L).length = L.length * 11 := by
  induction L with
  | nil => rfl
  | cons a r ih =>
    unfold mgs at *
    rw [List.flatMap_cons, List.length_append, ih]
    simp only [List.length_cons, mgV, List.length_nil]
    omega
theorem mgs_oneCell (L : List Mg) : ∀ u ∈ mgs L, u.oneCell' = true := by
  intro u hu
  unfold mgs at hu
  obtain ⟨m, _, hm⟩ := List.mem_flatMap.1 hu
  have := Array.all_eq_true_iff_forall_mem.1 (mg_one m) u (by simpa using hm)
  exact this
theorem mgs_at (L : List Mg) (q : Nat) (h : q < L.length) (j : Nat) (hj : j < 11) : (mgs L)[q * 11 + j]? = (mgV L[q])[j]? := by
  induction L generalizing q with
  | nil => simp at h
  | cons a r ih =>
    cases q with
    | zero =>
      unfold mgs
      rw [List.flatMap_cons, Nat.zero_mul, Nat.zero_add, List.getElem?_append_left (by simpa [mgV] using hj)]
      simp
    | succ q =>
      have h' : q < r.length := by simpa using h
      have := ih q h'
      unfold mgs at *
      rw [List.flatMap_cons, show (q + 1) * 11 + j = (mgV a).toList.length + (q * 11 + j) by simp [mgV]; omega, List.getElem?_append_right (by omega), Nat.add_sub_cancel_left]
      exact this
theorem fill_mg (m : Mg) : Instr.fill (fun i => some (i * 11, 11)) ((Array.range (1 * 11)).map ((Value.agg (mgV mg0)).cells[· % (Value.agg (mgV mg0)).cells.size]!)) [(0, .agg (mgV m))] = some (mgV m) := by kernel_rfl
theorem mg_parts {t : TypeId} {z : Value} {k by' : Nat} (h : (Tryz.prog.info? t).map (fun i => (i.zero, i.size, i.bytes)) = some (some z, k, by')) : ∃ i0, Tryz.prog.info? t = some i0 ∧ i0.zero = some z ∧ i0.size = k ∧ i0.bytes = by' := by
  cases hq : Tryz.prog.info? t with
  | none => simp [hq] at h
  | some i => simp [hq] at h; exact ⟨i, rfl, h.1, h.2.1, h.2.2⟩
theorem wp_bsM {w : World} {o : Oper} {a : Act} {K : Act → World → Prop} {Q : Exit → Act → World → Prop} (x : Operand) (ho : o.op = .buildSlice 35 1 #[(0, x)]) (m : Mg) (hx : a.eval x = .agg (mgV m))
    (h : K (a.put o.dst (.slice (some ⟨w.heap.size, 0, none⟩) 1 1)) (w.alloc (.cells (mgV m) 58))) : o.wp Tryz.prog a w K Q := by
  obtain ⟨i0, hi, hz0, hz1, hz2⟩ := mg_parts mg_infos
  refine wp_buildSlice 35 58 1 _ ho (mgV m) i0 _ Tryz.underlying35 hi hz0 (by rw [hz1]; decide) (by rw [hz1]; decide) ?_ h
  rw [hz1]
  simp only [List.map_toArray, List.map_cons, List.map_nil, hx]
  exact fill_mg m
theorem wpList_bsM {w : World} {ops : Array Oper} {rest : List Oper} {o : Oper} {a : Act} {Q : Exit → Act → World → Prop} (hgd : o.guard = none) (x : Operand) (ho : o.op = .buildSlice 35 1 #[(0, x)]) (m : Mg) (hx : a.eval x = .agg (mgV m))
    (h : wpList Tryz.prog ops Q rest (a.put o.dst (.slice (some ⟨w.heap.size, 0, none⟩) 1 1)) (w.alloc (.cells (mgV m) 58))) : wpList Tryz.prog ops Q (o :: rest) a w :=
  wpList_plain hgd fun _ hK => wp_bsM x ho m hx (hK _ _ h)
theorem mg_cell (w : World) (m : Mg) : ∀ j u, (mgs [m])[j]? = some u → (w.alloc (.cells (mgV m) 58)).cell? ((⟨w.heap.size, 0, none⟩ : Addr).add j) = some u := by
  rw [mgs_one]
  intro j u hj
  rw [Addr.add_mid, Nat.zero_add, cell_row (heap_last w _)]
  simpa using hj
theorem mg_room {k : Nat} (h : k ≤ 1000000000000) : k + 1 ≤ maxLen ∧ (k + 1) * 104 ≤ 140737488355328 := by unfold maxLen; omega
/-- append(list, m) -/
theorem wpList_apM {w : World} {ops : Array Oper} {rest : List Oper} {o : Oper} {a : Act} {Q : Exit → Act → World → Prop} (hgd : o.guard = none) (x y : Operand) (ho : o.op = .call { callee := .builtin .append, args := #[x, y], argTypes := #[35, 35] }) (base : Nat) (v : Value) (L : List Mg) (hx : a.eval x = v) (hv : w.ownsRow base 58 11 v L.length (mgs L)) (g : Nat) (m : Mg) (hy : a.eval y = .slice (some ⟨g, 0, none⟩) 1 1) (hg : w.heap[g]? = some (.cells (mgV m) 58)) (hl : L.length ≤ 1000000000000) (hb : base ≤ w.heap.size)
    (h : ∀ v' w', w'.ownsRow base 58 11 v' (L.length + 1) (mgs (L ++ [m])) → w.grownBy w' v.ownBlock → wpList Tryz.prog ops Q rest (a.put o.dst v') w') : wpList Tryz.prog ops Q (o :: rest) a w := by
  obtain ⟨i0, hi, hz0, hz1, hz2⟩ := mg_parts mg_infos
  refine wpList_append_own_at _ hgd _ _ 35 ho base 58 i0 _ 11 104 Tryz.underlying35 hi hz0 hz1 hz2 rfl (by decide) _ _ _ hx hv ⟨g, 0, none⟩ 1 1 (mgs [m]) hy (by rw [mgs_one]; rfl) ?_ (mgs_oneCell _) (mg_room hl).1 (mg_room hl).2 hb ?_
  · rw [mgs_one]
    intro j u hj
    rw [Addr.add_mid, Nat.zero_add, cell_row hg]
    simpa using hj
  · intro v' w' h1 h2 _ _
    rw [← mgs_append] at h1
    exact h v' w' h1 h2
theorem own_sl {w : World} {base e sz n : Nat} {v : Value} {xs : List Value} (h : w.ownsRow base e sz v n xs) : ∃ ba cap, v = .slice ba n cap := by
  rcases h.2 with ⟨hv, hz⟩ | ⟨g, cap, cur, hv, _⟩
  · exact ⟨none, 0, by rw [hv, hz]⟩
  · exact ⟨_, _, hv⟩
theorem own_g {w : World} {base e sz n : Nat} {v : Value} {xs : List Value} (h : w.ownsRow base e sz v n xs) (hn : 0 < n) : ∃ g cap, v = .slice (some ⟨g, 0, none⟩) n cap := by
  rcases h.2 with ⟨hv, hz⟩ | ⟨g, cap, cur, hv, _⟩
  · omega
  · exact ⟨_, _, hv⟩
theorem own_kp {w w' : World} {S : Nat → Prop} {base e sz n : Nat} {v : Value} {xs : List Value} (h : w.ownsRow base e sz v n xs) (hk : Kp w w' S) (hne : ∀ k, v.ownBlock = some k → ¬ S k) : w'.ownsRow base e sz v n xs := by
  refine ⟨h.1, ?_⟩
  rcases h.2 with ⟨hv, hz⟩ | ⟨g, cap, cur, rfl, h1, h2, h3⟩
  · exact .inl ⟨hv, hz⟩
  · exact .inr ⟨g, cap, cur, rfl, h1, (hk.block g (blk_lt h2) (hne g rfl)).trans h2, h3⟩
end Go.Proofs.YtndfhpfhgdamgaaGreatDoor.Cn
namespace Go.Proofs.YtndfhpfhgdamgaaGreatDoor.Cn
end Go.Proofs.YtndfhpfhgdamgaaGreatDoor.Cn
namespace Go.Proofs.YtndfhpfhgdamgaaGreatDoor.Cn
/-- an element of a list, 0 behind its end -/
def atL (d : List Int) (i : Nat) : Int := d.getD i 0
theorem atL_get {d : List Int} {i : Nat} (h : i < d.length) : atL d i = d[i] := by
  unfold atL
  rw [List.getD_eq_getElem?_getD, List.getElem?_eq_getElem h]
  rfl
theorem atL_some {d : List Int} {i : Nat} (h : i < d.length) : d[i]? = some (atL d i) := by
  rw [atL_get h, List.getElem?_eq_getElem h]
theorem atL_ext {d e : List Int} (hl : d.length = e.length) (h : ∀ i, i < d.length → atL d i = atL e i) : d = e := by
  apply List.ext_getElem hl
  intro i h1 h2
  have := h i h1
  rwa [atL_get h1, atL_get h2] at this
theorem atL_set (d : List Int) (i j : Nat) (x : Int) (hi : i < d.length) : atL (d.set i x) j = if j = i then x else atL d j := by
  unfold atL
  rw [List.getD_eq_getElem?_getD, List.getD_eq_getElem?_getD, List.getElem?_set]
  by_cases e : i = j
  · subst e
    simp [hi]
  · rw [if_neg e, if_neg (fun q => e q.symm)]
/-- two elements change places -/
def swp (d : List Int) (i j : Nat) : List Int := (d.set i (atL d j)).set j (atL d i)
theorem swp_len (d : List Int) (i j : Nat) : (swp d i j).length = d.length := by simp [swp]
theorem atL_swp (d : List Int) {i j : Nat} (hi : i < d.length) (hj : j < d.length) (k : Nat) : atL (swp d i j) k = if k = j then atL d i else if k = i then atL d j else atL d k := by
  unfold swp
  rw [atL_set _ _ _ _ (by simpa using hj)]
  split
  · rfl
  · rw [atL_set _ _ _ _ hi]
variable (K : Int → Int)
/-- those of each key stand in the same order -/
def EqF (d e : List Int) : Prop := ∀ v, d.filter (fun x => K x == v) = e.filter (fun x => K x == v)
variable {K}
theorem EqF.refl (d : List Int) : EqF K d d := fun _ => rfl
theorem EqF.trans {d e f : List Int} (h : EqF K d e) (h' : EqF K e f) : EqF K d f := fun v => (h v).trans (h' v)
theorem EqF.symm {d e : List Int} (h : EqF K d e) : EqF K e d := fun v => (h v).symm
theorem EqF.mem {d e : List Int} (h : EqF K d e) {x : Int} : x ∈ e ↔ x ∈ d := by
  have := h (K x)
  constructor
  · intro hx
    have : x ∈ e.filter (fun y => K y == K x) := List.mem_filter.2 ⟨hx, by simp⟩
    rw [← h (K x)] at this
    exact (List.mem_filter.1 this).1
  · intro hx
    have : x ∈ d.filter (fun y => K y == K x) := List.mem_filter.2 ⟨hx, by simp⟩
    rw [h (K x)] at this
    exact (List.mem_filter.1 this).1
theorem EqF.cons {d e : List Int} (x : Int) (h : EqF K d e) : EqF K (x :: d) (x :: e) := fun v => by
  simp only [List.filter_cons, h v]
/-- two stretches of unlike keys change places -/
theorem eqf_blocks (P X Y Q : List Int) (h : ∀ x ∈ X, ∀ y ∈ Y, K x ≠ K y) : EqF K (P ++ X ++ Y ++ Q) (P ++ Y ++ X ++ Q) := fun v => by
  simp only [List.filter_append]
  have : X.filter (fun x => K x == v) = [] ∨ Y.filter (fun x => K x == v) = [] := by
    cases hx : X.filter (fun x => K x == v) with
    | nil => exact Or.inl rfl
    | cons a r =>
      refine Or.inr (List.filter_eq_nil_iff.2 fun y hy => ?_)
      have ha : a ∈ X.filter (fun x => K x == v) := by rw [hx]; exact List.mem_cons_self
      have h1 := List.mem_filter.1 ha
      have h2 := h a h1.1 y hy
      simp only [beq_iff_eq] at h1 ⊢
      rw [← h1.2]
      exact fun q => h2 q.symm
  rcases this with e | e <;> simp [e]
/-- what has become of a stretch -/
structure Seg (K : Int → Int) (d e : List Int) (a b : Nat) : Prop where
  len : e.length = d.length
  out : ∀ i, i < a ∨ b ≤ i → atL e i = atL d i
  ins : ∀ i, a ≤ i → i < b → ∃ j, a ≤ j ∧ j < b ∧ atL e i = atL d j
  eqf : EqF K d e
theorem Seg.refl (d : List Int) (a b : Nat) : Seg K d d a b := ⟨rfl, fun _ _ => rfl, fun i h1 h2 => ⟨i, h1, h2, rfl⟩, EqF.refl d⟩
theorem Seg.trans {d e f : List Int} {a b : Nat} (h : Seg K d e a b) (h' : Seg K e f a b) : Seg K d f a b := by
  refine ⟨h'.len.trans h.len, fun i hi => (h'.out i hi).trans (h.out i hi), fun i h1 h2 => ?_, h.eqf.trans h'.eqf⟩
  obtain ⟨j, j1, j2, j3⟩ := h'.ins i h1 h2
  obtain ⟨k, k1, k2, k3⟩ := h.ins j j1 j2
  exact ⟨k, k1, k2, j3.trans k3⟩
theorem Seg.mono {d e : List Int} {a b a' b' : Nat} (h : Seg K d e a b) (h1 : a' ≤ a) (h2 : b ≤ b') : Seg K d e a' b' := by
  refine ⟨h.len, fun i hi => h.out i (by omega), fun i i1 i2 => ?_, h.eqf⟩
  by_cases q : a ≤ i ∧ i < b
  · obtain ⟨j, j1, j2, j3⟩ := h.ins i q.1 q.2
    exact ⟨j, by omega, by omega, j3⟩
  · exact ⟨i, i1, i2, h.out i (by omega)⟩
/-- a stretch is sorted -/
def Srt (K : Int → Int) (d : List Int) (a b : Nat) : Prop := ∀ i j, a ≤ i → i < j → j < b → K (atL d i) ≤ K (atL d j)
theorem Seg.srt {d e : List Int} {a b l r : Nat} (h : Seg K d e a b) (hs : Srt K d l r) (hd : r ≤ a ∨ b ≤ l) : Srt K e l r := fun i j h1 h2 h3 => by
  rw [h.out i (by omega), h.out j (by omega)]
  exact hs i j h1 h2 h3
theorem Srt.sub {d : List Int} {a b a' b' : Nat} (h : Srt K d a b) (h1 : a ≤ a') (h2 : b' ≤ b) : Srt K d a' b' := fun i j i1 i2 i3 => h i j (by omega) i2 (by omega)
theorem Srt.le {d : List Int} {a b : Nat} (h : Srt K d a b) {i j : Nat} (h1 : a ≤ i) (h2 : i ≤ j) (h3 : j < b) : K (atL d i) ≤ K (atL d j) := by
  by_cases e : i = j
  · subst e; exact Int.le_refl _
  · exact h i j h1 (by omega) h3
theorem Srt.tiny (d : List Int) {a b : Nat} (h : b ≤ a + 1) : Srt K d a b := fun i j h1 h2 h3 => by omega
theorem Srt.join {d : List Int} {a m b : Nat} (h1 : Srt K d a m) (h2 : Srt K d m b) (h : ∀ i j, a ≤ i → i < m → m ≤ j → j < b → K (atL d i) ≤ K (atL d j)) : Srt K d a b := fun i j i1 i2 i3 => by
  by_cases q : j < m
  · exact h1 i j i1 i2 q
  · by_cases q2 : m ≤ i
    · exact h2 i j q2 i2 i3
    · exact h i j i1 (by omega) (by omega) i3
/-- neighbours of unlike keys change places -/
theorem eqf_swp : ∀ (d : List Int) (i : Nat), i + 1 < d.length → K (atL d i) ≠ K (atL d (i + 1)) → EqF K d (swp d i (i + 1))
  | [], i, h, _ => absurd h (by simp)
  | [x], i, h, _ => absurd h (by simp)
  | x :: y :: r, 0, _, hk => eqf_blocks [] [x] [y] r (by simpa [atL] using hk)
  | x :: y :: r, i + 1, h, hk => by
    have ih := eqf_swp (y :: r) i (by simpa using h) (by simpa [atL] using hk)
    have e : swp (x :: y :: r) (i + 1) (i + 1 + 1) = x :: swp (y :: r) i (i + 1) := by simp [swp, atL]
    rw [e]
    exact ih.cons x
theorem seg_swp {d : List Int} {i : Nat} (h : i + 1 < d.length) (hk : K (atL d i) ≠ K (atL d (i + 1))) : Seg K d (swp d i (i + 1)) i (i + 2) := by
  refine ⟨swp_len _ _ _, fun k hk => ?_, fun k h1 h2 => ?_, eqf_swp d i h hk⟩
  · rw [atL_swp d (by omega) h, if_neg (by omega), if_neg (by omega)]
  · rw [atL_swp d (by omega) h]
    by_cases q : k = i + 1
    · rw [if_pos q]; exact ⟨i, by omega, by omega, rfl⟩
    · rw [if_neg q, if_pos (by omega)]; exact ⟨i + 1, by omega, by omega, rfl⟩
theorem swp_comm (d : List Int) {i j : Nat} (hi : i < d.length) (hj : j < d.length) : swp d i j = swp d j i := by
  refine atL_ext (by simp [swp]) fun k _ => ?_
  rw [atL_swp d hi hj, atL_swp d hj hi]
  by_cases e1 : k = j
  · by_cases e2 : k = i
    · subst e1; rw [if_pos rfl, if_pos e2, e2]
    · rw [if_pos e1, if_neg e2, if_pos e1]
  · by_cases e2 : k = i
    · rw [if_neg e1, if_pos e2, if_pos e2]
    · rw [if_neg e1, if_neg e2, if_neg e2, if_neg e1]
/-- what a turn of three places makes -/
def rotF (d : List Int) (s m e t : Nat) : Int := if t < s then atL d t else if t < s + (e - m) then atL d (m + (t - s)) else if t < e then atL d (s + (t - (s + (e - m)))) else atL d t
set_option linter.unusedVariables false in
theorem take_drop_at (d : List Int) (a b t : Nat) (hb : b ≤ d.length) (ht : a + t < b) : atL ((d.take b).drop a) t = atL d (a + t) := by
  unfold atL
  rw [List.getD_eq_getElem?_getD, List.getD_eq_getElem?_getD, List.getElem?_drop, List.getElem?_take, if_pos ht]
theorem atL_app_l {a b : List Int} {t : Nat} (h : t < a.length) : atL (a ++ b) t = atL a t := by
  unfold atL
  rw [List.getD_eq_getElem?_getD, List.getD_eq_getElem?_getD, List.getElem?_append_left h]
theorem atL_app_r {a b : List Int} {t : Nat} (h : a.length ≤ t) : atL (a ++ b) t = atL b (t - a.length) := by
  unfold atL
  rw [List.getD_eq_getElem?_getD, List.getD_eq_getElem?_getD, List.getElem?_append_right h]
theorem rot_list {d f : List Int} {s m e : Nat} (h1 : s ≤ m) (h2 : m ≤ e) (h3 : e ≤ d.length) (hl : f.length = d.length) (h : ∀ t, atL f t = rotF d s m e t) :
    f = d.take s ++ (d.take e).drop m ++ (d.take m).drop s ++ d.drop e := by
  refine atL_ext (by simp; omega) fun t ht => ?_
  rw [h]
  unfold rotF
  have l1 : (d.take s).length = s := by simp; omega
  have l2 : ((d.take e).drop m).length = e - m := by simp; omega
  have l3 : ((d.take m).drop s).length = m - s := by simp; omega
  by_cases q1 : t < s
  · rw [if_pos q1, List.append_assoc, List.append_assoc, atL_app_l (by omega)]
    have := take_drop_at d 0 s t (by omega) (by omega)
    simp only [List.drop_zero, Nat.zero_add] at this
    exact this.symm
  · rw [if_neg q1]
    by_cases q2 : t < s + (e - m)
    · rw [if_pos q2, List.append_assoc, atL_app_l (by rw [List.length_append]; omega), atL_app_r (by omega), take_drop_at d m e _ h3 (by omega), l1]
    · rw [if_neg q2]
      by_cases q3 : t < e
      · rw [if_pos q3, atL_app_l (by rw [List.length_append, List.length_append]; omega), atL_app_r (by rw [List.length_append]; omega), List.length_append, l1, l2, take_drop_at d s m _ (by omega) (by omega)]
      · rw [if_neg q3, atL_app_r (by rw [List.length_append, List.length_append]; omega), List.length_append, List.length_append, l1, l2, l3]
        unfold atL
        rw [List.getD_eq_getElem?_getD, List.getD_eq_getElem?_getD, List.getElem?_drop]
        congr 2
        omega
theorem mem_mid {d : List Int} {a b : Nat} (hb : b ≤ d.length) {x : Int} (hx : x ∈ (d.take b).drop a) : ∃ t, a ≤ t ∧ t < b ∧ x = atL d t := by
  obtain ⟨i, hi, e⟩ := List.getElem_of_mem hx
  have hl : ((d.take b).drop a).length = b - a := by simp; omega
  refine ⟨a + i, by omega, by omega, ?_⟩
  rw [← take_drop_at d a b i hb (by omega), atL_get hi, e]
set_option linter.unusedVariables false in
theorem split4 {d : List Int} {s m e : Nat} (h1 : s ≤ m) (h2 : m ≤ e) (h3 : e ≤ d.length) : d = d.take s ++ (d.take m).drop s ++ (d.take e).drop m ++ d.drop e := by
  have a1 : (d.take m).take s ++ (d.take m).drop s = d.take m := List.take_append_drop s _
  have a2 : (d.take e).take m ++ (d.take e).drop m = d.take e := List.take_append_drop m _
  rw [List.take_take, Nat.min_eq_left h1] at a1
  rw [List.take_take, Nat.min_eq_left h2] at a2
  rw [a1, a2, List.take_append_drop]
/-- a turn of two sorted-apart stretches -/
theorem seg_rot {d f : List Int} {s m e : Nat} (h1 : s ≤ m) (h2 : m ≤ e) (h3 : e ≤ d.length) (hl : f.length = d.length) (h : ∀ t, atL f t = rotF d s m e t) (hk : ∀ t u, s ≤ t → t < m → m ≤ u → u < e → K (atL d u) < K (atL d t)) : Seg K d f s e := by
  refine ⟨hl, fun i hi => ?_, fun i i1 i2 => ?_, ?_⟩
  · rw [h]
    unfold rotF
    by_cases q : i < s
    · rw [if_pos q]
    · rw [if_neg q, if_neg (by omega), if_neg (by omega)]
  · rw [h]
    unfold rotF
    rw [if_neg (by omega)]
    by_cases q : i < s + (e - m)
    · rw [if_pos q]; exact ⟨_, by omega, by omega, rfl⟩
    · rw [if_neg q, if_pos i2]; exact ⟨_, by omega, by omega, rfl⟩
  · rw [rot_list h1 h2 h3 hl h]
    have := eqf_blocks (K := K) (d.take s) ((d.take m).drop s) ((d.take e).drop m) (d.drop e) (fun x hx y hy => by
      obtain ⟨t, t1, t2, rfl⟩ := mem_mid (by omega) hx
      obtain ⟨u, u1, u2, rfl⟩ := mem_mid h3 hy
      have := hk t u t1 t2 u1 u2
      omega)
    rw [← split4 h1 h2 h3] at this
    exact this
/-- stretches of n change places -/
def swpR (d : List Int) (a b : Nat) : Nat → List Int
  | 0 => d
  | i + 1 => swp (swpR d a b i) (a + i) (b + i)
theorem swpR_len (d : List Int) (a b n : Nat) : (swpR d a b n).length = d.length := by
  induction n with
  | zero => rfl
  | succ n ih => rw [swpR, swp_len, ih]
theorem atL_swpR (d : List Int) {a b : Nat} : ∀ (n : Nat), a + n ≤ b → b + n ≤ d.length → ∀ t, atL (swpR d a b n) t = if a ≤ t ∧ t < a + n then atL d (b + (t - a)) else if b ≤ t ∧ t < b + n then atL d (a + (t - b)) else atL d t
  | 0, _, _, t => by rw [swpR, if_neg (by omega), if_neg (by omega)]
  | n + 1, h1, h2, t => by
    have ih := atL_swpR d (a := a) (b := b) n (by omega) (by omega)
    rw [swpR, atL_swp _ (by rw [swpR_len]; omega) (by rw [swpR_len]; omega), ih (a + n), ih (b + n), ih t]
    repeat' split
    all_goals first | omega | (congr 1; omega) | rfl
/-- one round of a turn -/
theorem rot_gt {d : List Int} {m i j : Nat} (hi : i ≤ m) (hj : m + j ≤ d.length) (h : j < i) (t : Nat) : rotF (swpR d (m - i) m j) (m - (i - j)) m (m + j) t = rotF d (m - i) m (m + j) t := by
  unfold rotF
  simp only [atL_swpR d (a := m - i) (b := m) j (by omega) (by omega)]
  repeat' split
  all_goals first | omega | (congr 1; omega) | rfl
theorem rot_lt {d : List Int} {m i j : Nat} (hi : i ≤ m) (hj : m + j ≤ d.length) (h : i < j) (t : Nat) : rotF (swpR d (m - i) (m + j - i) i) (m - i) m (m + (j - i)) t = rotF d (m - i) m (m + j) t := by
  unfold rotF
  simp only [atL_swpR d (a := m - i) (b := m + j - i) i (by omega) (by omega)]
  repeat' split
  all_goals first | omega | (congr 1; omega) | rfl
theorem rot_eq {d : List Int} {m i : Nat} (hi : i ≤ m) (hj : m + i ≤ d.length) (t : Nat) : atL (swpR d (m - i) m i) t = rotF d (m - i) m (m + i) t := by
  unfold rotF
  simp only [atL_swpR d (a := m - i) (b := m) i (by omega) (by omega)]
  repeat' split
  all_goals first | omega | (congr 1; omega) | rfl
end Go.Proofs.YtndfhpfhgdamgaaGreatDoor.Cn
namespace Go.Proofs.YtndfhpfhgdamgaaGreatDoor.Cn
variable {K : Int → Int}
/-- the insertion under way: the element at j is not in its place yet -/
structure Ins (K : Int → Int) (d : List Int) (a i j : Nat) : Prop where
  aj : a ≤ j
  ji : j ≤ i
  oth : ∀ p q, a ≤ p → p < q → q < i + 1 → p ≠ j → q ≠ j → K (atL d p) ≤ K (atL d q)
  beh : ∀ q, j < q → q < i + 1 → K (atL d j) < K (atL d q)
theorem Ins.start {d : List Int} {a i : Nat} (h : Srt K d a i) (ha : a ≤ i) : Ins K d a i i := ⟨ha, Nat.le_refl _, fun p q h1 h2 h3 h4 h5 => h p q h1 h2 (by omega), fun q h1 h2 => by omega⟩
theorem Ins.step {d : List Int} {a i j : Nat} (h : Ins K d a i (j + 1)) (hi : i < d.length) (haj : a ≤ j) (hlt : K (atL d (j + 1)) < K (atL d j)) : Ins K (swp d j (j + 1)) a i j := by
  have ji := h.ji
  have s := atL_swp d (i := j) (j := j + 1) (by omega) (by omega)
  refine ⟨haj, by omega, fun p q h1 h2 h3 h4 h5 => ?_, fun q h1 h2 => ?_⟩
  · rw [s, s]
    by_cases e1 : p = j + 1
    · rw [if_pos e1, if_neg (by omega), if_neg h5]
      exact h.oth j q haj (by omega) h3 (by omega) (by omega)
    · rw [if_neg e1, if_neg h4]
      by_cases e2 : q = j + 1
      · rw [if_pos e2]
        exact h.oth p j h1 (by omega) (by omega) e1 (by omega)
      · rw [if_neg e2, if_neg h5]
        exact h.oth p q h1 h2 h3 e1 e2
  · rw [s, s, if_neg (by omega), if_pos rfl]
    by_cases e2 : q = j + 1
    · rw [if_pos e2]
      exact hlt
    · rw [if_neg e2, if_neg (by omega)]
      exact h.beh q (by omega) h2
theorem Ins.done {d : List Int} {a i j : Nat} (h : Ins K d a i j) (hs : j = a ∨ (a < j ∧ ¬ K (atL d j) < K (atL d (j - 1)))) : Srt K d a (i + 1) := fun p q h1 h2 h3 => by
  by_cases e1 : p = j
  · subst e1
    have := h.beh q h2 h3
    omega
  · by_cases e2 : q = j
    · subst e2
      rcases hs with hs | ⟨hs, hn⟩
      · omega
      · by_cases e3 : p = q - 1
        · subst e3; omega
        · have := h.oth p (q - 1) h1 (by omega) (by omega) e1 (by omega)
          omega
    · exact h.oth p q h1 h2 h3 e1 e2
/-- one element is carried up -/
structure Up (d0 d : List Int) (a k : Nat) : Prop where
  len : d.length = d0.length
  lo : ∀ t, t < a → atL d t = atL d0 t
  mi : ∀ t, a ≤ t → t < k → atL d t = atL d0 (t + 1)
  at_ : atL d k = atL d0 a
  hi : ∀ t, k < t → atL d t = atL d0 t
theorem Up.start (d : List Int) (a : Nat) : Up d d a a := ⟨rfl, fun _ _ => rfl, fun t h1 h2 => by omega, rfl, fun _ _ => rfl⟩
theorem Up.step {d0 d : List Int} {a k : Nat} (h : Up d0 d a k) (ha : a ≤ k) (hk : k + 1 < d0.length) : Up d0 (swp d k (k + 1)) a (k + 1) := by
  have hl := h.len
  have s := atL_swp d (i := k) (j := k + 1) (by omega) (by omega)
  refine ⟨(swp_len _ _ _).trans hl, fun t ht => ?_, fun t h1 h2 => ?_, ?_, fun t ht => ?_⟩
  · rw [s, if_neg (by omega), if_neg (by omega)]; exact h.lo t ht
  · rw [s, if_neg (by omega)]
    by_cases e : t = k
    · rw [if_pos e, h.hi (k + 1) (by omega), e]
    · rw [if_neg e]; exact h.mi t h1 (by omega)
  · rw [s, if_pos rfl]; exact h.at_
  · rw [s, if_neg (by omega), if_neg (by omega)]; exact h.hi t (by omega)
/-- one element is carried down -/
structure Dn (d0 d : List Int) (m k : Nat) : Prop where
  len : d.length = d0.length
  lo : ∀ t, t < k → atL d t = atL d0 t
  at_ : atL d k = atL d0 m
  mi : ∀ t, k < t → t ≤ m → atL d t = atL d0 (t - 1)
  hi : ∀ t, m < t → atL d t = atL d0 t
theorem Dn.start (d : List Int) (m : Nat) : Dn d d m m := ⟨rfl, fun _ _ => rfl, rfl, fun t h1 h2 => by omega, fun _ _ => rfl⟩
theorem Dn.step {d0 d : List Int} {m k : Nat} (h : Dn d0 d m (k + 1)) (hk : k + 1 ≤ m) (hm : m < d0.length) : Dn d0 (swp d k (k + 1)) m k := by
  have hl := h.len
  have s := atL_swp d (i := k) (j := k + 1) (by omega) (by omega)
  refine ⟨(swp_len _ _ _).trans hl, fun t ht => ?_, ?_, fun t h1 h2 => ?_, fun t ht => ?_⟩
  · rw [s, if_neg (by omega), if_neg (by omega)]; exact h.lo t (by omega)
  · rw [s, if_neg (by omega), if_pos rfl]; exact h.at_
  · rw [s]
    by_cases e : t = k + 1
    · rw [if_pos e, h.lo k (by omega), e]; rfl
    · rw [if_neg e, if_neg (by omega)]; exact h.mi t (by omega) h2
  · rw [s, if_neg (by omega), if_neg (by omega)]; exact h.hi t ht
theorem up_sorted {d0 d : List Int} {a i b : Nat} (h : Up d0 d a (i - 1)) (hs : Srt K d0 (a + 1) b) (h1 : a + 1 ≤ i) (h2 : i ≤ b) (lo : ∀ t, a + 1 ≤ t → t < i → K (atL d0 t) < K (atL d0 a)) (hi : ∀ t, i ≤ t → t < b → K (atL d0 a) ≤ K (atL d0 t)) : Srt K d a b := fun p q p1 p2 p3 => by
  have val : ∀ t, a ≤ t → atL d t = if t < i - 1 then atL d0 (t + 1) else if t = i - 1 then atL d0 a else atL d0 t := fun t ht => by
    by_cases e : t < i - 1
    · rw [if_pos e]; exact h.mi t ht e
    · rw [if_neg e]
      by_cases e2 : t = i - 1
      · rw [if_pos e2, e2]; exact h.at_
      · rw [if_neg e2]; exact h.hi t (by omega)
  rw [val p p1, val q (by omega)]
  by_cases a1 : p < i - 1
  · rw [if_pos a1]
    by_cases b1 : q < i - 1
    · rw [if_pos b1]; exact hs (p + 1) (q + 1) (by omega) (by omega) (by omega)
    · rw [if_neg b1]
      by_cases b2 : q = i - 1
      · rw [if_pos b2]; have := lo (p + 1) (by omega) (by omega); omega
      · rw [if_neg b2]; exact hs (p + 1) q (by omega) (by omega) (by omega)
  · rw [if_neg a1, if_neg (by omega : ¬ q < i - 1), if_neg (by omega : ¬ q = i - 1)]
    by_cases a2 : p = i - 1
    · rw [if_pos a2]; exact hi q (by omega) p3
    · rw [if_neg a2]; exact hs p q (by omega) p2 p3
theorem dn_sorted {d0 d : List Int} {a i m : Nat} (h : Dn d0 d m i) (hs : Srt K d0 a m) (h1 : a ≤ i) (h2 : i ≤ m) (lo : ∀ t, a ≤ t → t < i → K (atL d0 t) ≤ K (atL d0 m)) (hi : ∀ t, i ≤ t → t < m → K (atL d0 m) < K (atL d0 t)) : Srt K d a (m + 1) := fun p q p1 p2 p3 => by
  have val : ∀ t, t ≤ m → atL d t = if t < i then atL d0 t else if t = i then atL d0 m else atL d0 (t - 1) := fun t ht => by
    by_cases e : t < i
    · rw [if_pos e]; exact h.lo t e
    · rw [if_neg e]
      by_cases e2 : t = i
      · rw [if_pos e2, e2]; exact h.at_
      · rw [if_neg e2]; exact h.mi t (by omega) ht
  rw [val p (by omega), val q (by omega)]
  by_cases a1 : p < i
  · rw [if_pos a1]
    by_cases b1 : q < i
    · rw [if_pos b1]; exact hs p q p1 p2 (by omega)
    · rw [if_neg b1]
      by_cases b2 : q = i
      · rw [if_pos b2]; exact lo p p1 a1
      · rw [if_neg b2]; exact hs.le p1 (by omega) (by omega)
  · rw [if_neg a1, if_neg (by omega : ¬ q < i), if_neg (by omega : ¬ q = i)]
    by_cases a2 : p = i
    · rw [if_pos a2]; have := hi (q - 1) (by omega) (by omega); omega
    · rw [if_neg a2]; exact hs.le (by omega) (by omega) (by omega)
/-- where symMerge parts: what is found -/
structure Cutd (K : Int → Int) (d : List Int) (a m b s e mid : Nat) : Prop where
  s1 : a ≤ s
  s2 : s ≤ m
  e1 : m ≤ e
  e2 : e ≤ b
  sum : s + e = mid + m
  m1 : a ≤ mid
  m2 : mid ≤ b
  f1 : ∀ t u, a ≤ t → t < s → e ≤ u → u < b → K (atL d t) ≤ K (atL d u)
  f2 : ∀ t u, s ≤ t → t < m → m ≤ u → u < e → K (atL d u) < K (atL d t)
theorem cut_of {d : List Int} {a m b s lo hi mid : Nat} (sa : Srt K d a m) (sb : Srt K d m b) (ham : a < m) (hmb : m < b) (hmid : mid = (a + b) / 2) (hlo : lo = if mid < m then mid + m - b else a) (hhi : hi = if mid < m then mid else m) (h1 : lo ≤ s) (h2 : s ≤ hi)
    (l1 : lo < s → K (atL d (s - 1)) ≤ K (atL d (mid + m - s))) (l2 : s < hi → K (atL d (mid + m - 1 - s)) < K (atL d s)) : Cutd K d a m b s (mid + m - s) mid := by
  have hb : a ≤ lo ∧ hi ≤ m ∧ lo ≤ hi ∧ mid + m - lo ≤ b ∧ m ≤ mid + m - hi ∧ hi ≤ mid := by
    by_cases q : mid < m
    · rw [if_pos q] at hlo hhi; omega
    · rw [if_neg q] at hlo hhi; omega
  have z1 : lo = a ∨ mid + m - lo = b := by
    by_cases q : mid < m
    · rw [if_pos q] at hlo; omega
    · rw [if_neg q] at hlo; omega
  have z2 : hi = m ∨ mid + m - hi = m := by
    by_cases q : mid < m
    · rw [if_pos q] at hhi; omega
    · rw [if_neg q] at hhi; omega
  refine ⟨by omega, by omega, by omega, by omega, by omega, by omega, by omega, fun t u t1 t2 u1 u2 => ?_, fun t u t1 t2 u1 u2 => ?_⟩
  · by_cases q : lo < s
    · have w1 := l1 q
      have w2 := sa.le (i := t) (j := s - 1) t1 (by omega) (by omega)
      have w3 := sb.le (i := mid + m - s) (j := u) (by omega) u1 u2
      omega
    · omega
  · by_cases q : s < hi
    · have w1 := l2 q
      have w2 := sa.le (i := s) (j := t) (by omega) t1 t2
      have w3 := sb.le (i := u) (j := mid + m - 1 - s) u1 (by omega) (by omega)
      omega
    · omega
/-- behind the turn -/
theorem cut_turned {d f : List Int} {a m b s e mid : Nat} (h : Cutd K d a m b s e mid) (sa : Srt K d a m) (sb : Srt K d m b) (hl : f.length = d.length) (hb : b ≤ d.length) (hf : ∀ t, atL f t = rotF d s m e t) :
    Seg K d f a b ∧ Srt K f a s ∧ Srt K f s mid ∧ Srt K f mid e ∧ Srt K f e b ∧ ∀ t u, a ≤ t → t < mid → mid ≤ u → u < b → K (atL f t) ≤ K (atL f u) := by
  have s1 := h.s1
  have s2 := h.s2
  have e1 := h.e1
  have e2 := h.e2
  have sum := h.sum
  have val : ∀ t, atL f t = if t < s then atL d t else if t < mid then atL d (m + (t - s)) else if t < e then atL d (s + (t - mid)) else atL d t := fun t => by
    rw [hf]
    unfold rotF
    rw [show s + (e - m) = mid by omega]
  refine ⟨(seg_rot (K := K) s2 e1 (by omega) hl hf h.f2).mono s1 e2, fun i j i1 i2 i3 => ?_, fun i j i1 i2 i3 => ?_, fun i j i1 i2 i3 => ?_, fun i j i1 i2 i3 => ?_, fun t u t1 t2 u1 u2 => ?_⟩
  · rw [val, val, if_pos (by omega), if_pos i3]; exact sa i j i1 i2 (by omega)
  · rw [val, val, if_neg (by omega), if_pos (by omega), if_neg (by omega), if_pos (by omega)]; exact sb _ _ (by omega) (by omega) (by omega)
  · rw [val, val, if_neg (by omega), if_neg (by omega), if_pos (by omega), if_neg (by omega), if_neg (by omega), if_pos (by omega)]; exact sa _ _ (by omega) (by omega) (by omega)
  · rw [val, val, if_neg (by omega), if_neg (by omega), if_neg (by omega), if_neg (by omega), if_neg (by omega), if_neg (by omega)]; exact sb _ _ (by omega) (by omega) (by omega)
  · rw [val t, val u]
    rw [if_neg (by omega : ¬ u < s), if_neg (by omega : ¬ u < mid)]
    by_cases q1 : t < s
    · rw [if_pos q1]
      by_cases q2 : u < e
      · rw [if_pos q2]; exact sa _ _ t1 (by omega) (by omega)
      · rw [if_neg q2]; exact h.f1 t u t1 q1 (by omega) u2
    · rw [if_neg q1, if_pos t2]
      by_cases q2 : u < e
      · rw [if_pos q2]; have := h.f2 (s + (u - mid)) (m + (t - s)) (by omega) (by omega) (by omega) (by omega); omega
      · rw [if_neg q2]; exact sb _ _ (by omega) (by omega) (by omega)
/-- behind both halves -/
theorem cut_joined {d f g h : List Int} {a mid b : Nat} (sf : Seg K d f a b) (apart : ∀ t u, a ≤ t → t < mid → mid ≤ u → u < b → K (atL f t) ≤ K (atL f u)) (h1 : a ≤ mid) (h2 : mid ≤ b) (sg : Seg K f g a mid) (rg : Srt K g a mid) (sh : Seg K g h mid b) (rh : Srt K h mid b) : Seg K d h a b ∧ Srt K h a b := by
  refine ⟨(sf.trans (sg.mono (Nat.le_refl _) h2)).trans (sh.mono h1 (Nat.le_refl _)), (sh.srt rg (Or.inl (Nat.le_refl _))).join rh fun i j i1 i2 j1 j2 => ?_⟩
  rw [sh.out i (Or.inl i2)]
  obtain ⟨p, p1, p2, p3⟩ := sg.ins i i1 i2
  obtain ⟨q, q1, q2, q3⟩ := sh.ins j j1 j2
  rw [p3, q3, sg.out q (Or.inr q1)]
  exact apart p q p1 p2 q1 q2
/-- the one order -/
theorem eqf_unique : ∀ {d e : List Int}, EqF K d e → d.Pairwise (fun x y => K x ≤ K y) → e.Pairwise (fun x y => K x ≤ K y) → d = e
  | [], e, h, _, _ => by
    cases e with
    | nil => rfl
    | cons y r =>
      have := (h.mem (x := y)).1 List.mem_cons_self
      simp at this
  | x :: r, [], h, _, _ => by
    have := (h.mem (x := x)).2 List.mem_cons_self
    simp at this
  | x :: r, y :: s, h, h1, h2 => by
    have k1 : K x = K y := by
      have a1 : x ∈ y :: s := (h.mem (x := x)).2 List.mem_cons_self
      have a2 : y ∈ x :: r := (h.mem (x := y)).1 List.mem_cons_self
      have b1 : K y ≤ K x := by
        rcases List.mem_cons.1 a1 with q | q
        · rw [q]; exact Int.le_refl _
        · exact (List.pairwise_cons.1 h2).1 x q
      have b2 : K x ≤ K y := by
        rcases List.mem_cons.1 a2 with q | q
        · rw [q]; exact Int.le_refl _
        · exact (List.pairwise_cons.1 h1).1 y q
      omega
    have e0 := h (K x)
    rw [List.filter_cons_of_pos (by simp), List.filter_cons_of_pos (by simp [k1])] at e0
    injection e0 with e1 e2
    subst e1
    have : EqF K r s := fun v => by
      have := h v
      simp only [List.filter_cons] at this
      split at this
      · injection this
      · exact this
    rw [eqf_unique this (List.pairwise_cons.1 h1).2 (List.pairwise_cons.1 h2).2]
theorem srt_pairwise {d : List Int} (h : Srt K d 0 d.length) : d.Pairwise (fun x y => K x ≤ K y) := by
  rw [List.pairwise_iff_getElem]
  intro i j hi hj hij
  have := h i j (Nat.zero_le _) hij hj
  rwa [atL_get hi, atL_get hj] at this
/-- sorted within stretches of k -/
def SrtB (K : Int → Int) (d : List Int) (k lo hi : Nat) : Prop := ∀ i j, lo ≤ i → i < j → j < hi → i / k = j / k → K (atL d i) ≤ K (atL d j)
end Go.Proofs.YtndfhpfhgdamgaaGreatDoor.Cn
