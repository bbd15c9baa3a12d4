import Derived.Test.YtbmhllcbkeblfaaProg
import Derived.WalkKit
import Derived.WalkSpells
import Derived.WalkLawsBesides
import Derived.Laws.OwnMore
import Derived.Laws.MakeOwn
import Derived.Laws.CopyOwn
import Derived.Below
import Derived.Lib.MinMax
import Derived.Deep.RegionHeld3
import Derived.Deep.QuietTactic
import Derived.BigQuiet
import Derived.Deep.DeepCutAuto
import Derived.Maps.AppendAt
import Derived.Deep.WholeRow
import Derived.Great.BuildSlice
import Derived.Deep.MidRow
import Derived.Laws.AppendOwnNone
import Derived.Carry
namespace Go.Proofs.Ytbmhllcbkeblfaa.Cn
open Go.RowKit
theorem hide {p : Prop} (h : p) : Hid p := h
theorem i64_in {x : Int} (h0 : -9223372036854775808 ≤ x) (h1 : x < 9223372036854775808) : IntKind.i64.wrap x = x := by
  simp [IntKind.wrap, IntKind.signed, IntKind.bits]; omega
theorem wrap_in {x : Int} (h0 : -9223372036854775808 ≤ x) (h1 : x < 9223372036854775808) : wrap64 x = x := by unfold wrap64; omega
theorem via {P Q : Prop} {R : Prop} (f : R → P ∧ Q) (r : R) : P ∧ Q := f r
theorem blk_lt {w : World} {b : Nat} {o : Obj} (h : w.heap[b]? = some o) : b < w.heap.size := (Array.getElem?_eq_some_iff.1 h).1
theorem heap_last (w : World) (o : Obj) : (w.alloc o).heap[w.heap.size]? = some o := by
  unfold World.alloc
  exact Array.getElem?_push_size
theorem heap_setCell (w : World) (b o : Nat) (v : Value) (c : Array Value) (t : TypeId) (fr : Nat × Nat) (h : w.heap[b]? = some (.cells c t fr)) : (w.setCell ⟨b, o, none⟩ v).heap[b]? = some (.cells (c.setIfInBounds o v) t fr) := by
  simp only [World.setCell, Array.getElem?_modify, if_true, h, Option.map_some]
  rfl
/-- what has happened: all but the blocks of S are as they were -/
structure Kp (w w' : World) (S : Nat → Prop) : Prop where
  os : w'.os = w.os
  tape : w'.tape = w.tape
  output : w'.output = w.output
  size : w.heap.size ≤ w'.heap.size
  block : ∀ k, k < w.heap.size → ¬ S k → w'.heap[k]? = w.heap[k]?
def non : Nat → Prop := fun _ => False
theorem Kp.refl (w : World) (S : Nat → Prop) : Kp w w S := ⟨rfl, rfl, rfl, Nat.le_refl _, fun _ _ _ => rfl⟩
theorem Kp.trans {w w1 w2 : World} {S T : Nat → Prop} (h : Kp w w1 S) (h' : Kp w1 w2 T) (hT : ∀ k, T k → S k ∨ w.heap.size ≤ k) : Kp w w2 S :=
  ⟨h'.os.trans h.os, h'.tape.trans h.tape, h'.output.trans h.output, Nat.le_trans h.size h'.size, fun k hk hs => (h'.block k (Nat.lt_of_lt_of_le hk h.size) (fun t => by rcases hT k t with a | a; exact hs a; omega)).trans (h.block k hk hs)⟩
theorem Kp.mono {w w' : World} {S T : Nat → Prop} (h : Kp w w' S) (hT : ∀ k, S k → T k) : Kp w w' T := ⟨h.os, h.tape, h.output, h.size, fun k hk hs => h.block k hk (fun s => hs (hT k s))⟩
theorem Kp.of_below {w w' : World} (h : Below w.heap.size w w') (S : Nat → Prop) : Kp w w' S := ⟨h.os, h.tape, h.output, h.size, fun k hk _ => h.block k hk⟩
theorem Kp.below {w w' : World} (h : Kp w w' non) : Below w.heap.size w w' := ⟨h.os, h.tape, h.output, h.size, fun k hk => h.block k hk (fun f => f)⟩
theorem Kp.of_grown {w w' : World} {r : Option Nat} (h : w.grownBy w' r) : Kp w w' (fun k => some k = r) := ⟨h.os, h.tape, h.output, h.size, fun k hk hs => h.block k hk hs⟩
theorem Kp.drewN {w w' : World} {S : Nat → Prop} (h : Kp w w' S) (n : Nat) : Kp w (w'.drewN n) S := ⟨h.os, h.tape, h.output, h.size, h.block⟩
theorem Kp.drew {w w' : World} {S : Nat → Prop} (h : Kp w w' S) : Kp w w'.drew S := ⟨h.os, h.tape, h.output, h.size, h.block⟩
theorem Kp.alloc {w w' : World} {S : Nat → Prop} (h : Kp w w' S) (o : Obj) : Kp w (w'.alloc o) S := h.trans (Kp.of_below ((Below.refl _ w').alloc (Nat.le_refl _) o) S) (fun _ hk => Or.inl hk)
theorem Kp.set {w w' : World} {S : Nat → Prop} {R : Nat} (h : Kp w w' S) (hR : S R ∨ w.heap.size ≤ R) (j : Nat) (v : Value) : Kp w (w'.setCell ⟨R, j, none⟩ v) S :=
  h.trans (T := fun k => k = R) ⟨rfl, rfl, rfl, by rw [World.size_setCell]; exact Nat.le_refl _, fun k _ hs => Below.heap_setCell _ _ _ k (fun e => hs (e.symm ▸ rfl))⟩ (fun _ hk => by subst hk; exact hR)
theorem Kp.cell {w w' : World} {S : Nat → Prop} (h : Kp w w' S) {b o : Nat} (hb : b < w.heap.size) (hs : ¬ S b) : w'.cell? ⟨b, o, none⟩ = w.cell? ⟨b, o, none⟩ := by
  unfold World.cell?
  rw [h.block b hb hs]
/-- a whole row is loaded, stored, built, answered -/
theorem wpList_ldR {w : World} {ops : Array Oper} {rest : List Oper} {o : Oper} {a : Act} {Q : Exit → Act → World → Prop} (hgd : o.guard = none) (ty : TypeId) (x : Operand) (ho : o.op = .load ty x) (b : Nat) (hx : a.eval x = .pointer (some ⟨b, 0, none⟩)) (t : TypeId) (A : Array Value) (hO : w.heap[b]? = some (.cells A t)) {fs} (hu : Try.prog.underlying ty = some (.struct fs)) (hi : (Try.prog.info? ty).map (·.size) = some A.size)
    (h : wpList Try.prog ops Q rest (a.put o.dst (.agg A)) w) : wpList Try.prog ops Q (o :: rest) a w := by
  have hl : (Instr.loadAt ty (.pointer (some ⟨b, 0, none⟩))).run Try.prog w = .ok (.agg A) w := by
    simp only [Instr.loadAt, Instr.sureAddr, Sem.run_bind, Sem.run_pure, Result.andThen]
    exact run_loadVar_row _ _ t ty A (0, 0) _ hO hu rfl hi
  refine wpList_plain hgd fun K hK => ?_
  unfold Oper.wp execOp
  simp only [ho, Sem.run_bind, Sem.run_pure, Result.andThen_ok, hx, hl]
  exact hK _ _ h
theorem wpList_stR {w : World} {ops : Array Oper} {rest : List Oper} {o : Oper} {a : Act} {Q : Exit → Act → World → Prop} (hgd : o.guard = none) (ty : TypeId) (p x : Operand) (ho : o.op = .store ty p x) (b : Nat) (hp : a.eval p = .pointer (some ⟨b, 0, none⟩)) (A A0 : Array Value) (hx : a.eval x = .agg A) (t : TypeId) (hO : w.heap[b]? = some (.cells A0 t)) (hi : (Try.prog.info? ty).map (·.size) = some A.size) (hs : A0.size = A.size) (h1 : A.all (·.oneCell') = true)
    (h : wpList Try.prog ops Q rest (a.put o.dst undef) (w.setRow b A)) : wpList Try.prog ops Q (o :: rest) a w :=
  wpList_plain hgd fun _ hK => wp_store_row ty p x ho b A hp hx t A0 hO hi hs h1 (hK _ _ h)
theorem wpList_blR {w : World} {ops : Array Oper} {rest : List Oper} {o : Oper} {a : Act} {Q : Exit → Act → World → Prop} (hgd : o.guard = none) (ty : TypeId) (parts : Array (Nat × Operand)) (ho : o.op = .build ty parts) (A : Array Value) (hb : Try.prog.built ty (parts.map fun (i, x) => (i, a.eval x)).toList = some A)
    (h : wpList Try.prog ops Q rest (a.put o.dst (.agg A)) w) : wpList Try.prog ops Q (o :: rest) a w := by
  refine wpList_plain hgd fun K hK => ?_
  unfold Oper.wp execOp
  simp only [ho, Sem.run_bind, Sem.run_pure]
  have := run_build w ty _ A hb
  rw [this]
  exact hK _ _ h
theorem res_row1 {fn : Func} {p : Tmp} {ty : TypeId} (h : fn.results = #[.cell p ty]) (tmps : Array Value) (A : Array Value) (w : World) (b : Nat) (ht : tmps.getD p undef = .pointer (some ⟨b, 0, none⟩)) (t : TypeId) (hO : w.heap[b]? = some (.cells A t)) {fs} (hu : Try.prog.underlying ty = some (.struct fs)) (hi : (Try.prog.info? ty).map (·.size) = some A.size) : (results fn tmps).run Try.prog w = .ok (.agg A) w := by
  have hl : (loadVar ty ⟨b, 0, none⟩).run Try.prog w = .ok (.agg A) w := run_loadVar_row _ _ t ty A (0, 0) _ hO hu rfl hi
  have ht' : tmps[p]?.getD undef = .pointer (some ⟨b, 0, none⟩) := by simpa using ht
  unfold results
  rw [h]
  simp [ht', asAddr, hl]
theorem res_row2 {fn : Func} {p q : Tmp} {ty : TypeId} (h : fn.results = #[.cell p ty, .tmp q]) (tmps : Array Value) (A : Array Value) (w : World) (b : Nat) (ht : tmps.getD p undef = .pointer (some ⟨b, 0, none⟩)) (v : Value) (hv : tmps.getD q undef = v) (t : TypeId) (hO : w.heap[b]? = some (.cells A t)) {fs} (hu : Try.prog.underlying ty = some (.struct fs)) (hi : (Try.prog.info? ty).map (·.size) = some A.size) : (results fn tmps).run Try.prog w = .ok (.tuple #[.agg A, v]) w := by
  have hl : (loadVar ty ⟨b, 0, none⟩).run Try.prog w = .ok (.agg A) w := run_loadVar_row _ _ t ty A (0, 0) _ hO hu rfl hi
  have ht' : tmps[p]?.getD undef = .pointer (some ⟨b, 0, none⟩) := by simpa using ht
  have hv' : tmps[q]?.getD undef = v := by simpa using hv
  unfold results
  rw [h]
  simp [ht', hv', asAddr, hl]
theorem cell_row {w : World} {b : Nat} {A : Array Value} {t : TypeId} (h : w.heap[b]? = some (.cells A t)) (i : Nat) : w.cell? ⟨b, i, none⟩ = A[i]? := by
  unfold World.cell?; rw [h]; rfl
theorem fz_row {w : World} {b : Nat} {A : Array Value} {t : TypeId} (h : w.heap[b]? = some (.cells A t)) (i : Nat) : w.frozen? ⟨b, i, none⟩ = false := by
  unfold World.frozen?; rw [h]; simp
/-- a message -/
structure Mg where
  kind : Int
  fr : Int
  td : Int
  id : Int
  ep : Int
  sq : Int
  ver : Int
  prev : Int
  code : Int
  key : ByteArray
  val : ByteArray
def mgV (m : Mg) : Array Value := #[.int .i64 m.kind, .int .i64 m.fr, .int .i64 m.td, .int .i64 m.id, .int .i64 m.ep, .int .i64 m.sq, .int .i64 m.ver, .int .i64 m.prev, .int .i64 m.code, .string m.key, .string m.val]
def mg0 : Mg := ⟨0, 0, 0, 0, 0, 0, 0, 0, 0, ⟨#[]⟩, ⟨#[]⟩⟩
theorem mg_info : (Try.prog.info? 36).map (·.size) = some 11 := by kernel_rfl
theorem mg_infos : (Try.prog.info? 36).map (fun i => (i.zero, i.size, i.bytes)) = some (some (.agg (mgV mg0)), 11, 104) := by kernel_rfl
theorem mg_one (m : Mg) : (mgV m).all (·.oneCell') = true := by simp [mgV, Value.oneCell']
def MgAt (w : World) (b : Nat) (m : Mg) : Prop := w.heap[b]? = some (.cells (mgV m) 36)
theorem MgAt.cells {w : World} {Q : Nat} {m : Mg} (h : MgAt w Q m) : w.cell? ⟨Q, 0, none⟩ = some (.int .i64 m.kind) ∧ w.cell? ⟨Q, 1, none⟩ = some (.int .i64 m.fr) ∧ w.cell? ⟨Q, 2, none⟩ = some (.int .i64 m.td) ∧ w.cell? ⟨Q, 3, none⟩ = some (.int .i64 m.id) ∧ w.cell? ⟨Q, 4, none⟩ = some (.int .i64 m.ep) ∧ w.cell? ⟨Q, 5, none⟩ = some (.int .i64 m.sq) ∧ w.cell? ⟨Q, 6, none⟩ = some (.int .i64 m.ver) ∧ w.cell? ⟨Q, 7, none⟩ = some (.int .i64 m.prev) ∧ w.cell? ⟨Q, 8, none⟩ = some (.int .i64 m.code) ∧ w.cell? ⟨Q, 9, none⟩ = some (.string m.key) ∧ w.cell? ⟨Q, 10, none⟩ = some (.string m.val) := by
  unfold MgAt at h
  simp only [cell_row h]
  exact ⟨rfl, rfl, rfl, rfl, rfl, rfl, rfl, rfl, rfl, rfl, rfl⟩
theorem MgAt.keep {w w' : World} {b : Nat} {m : Mg} {S : Nat → Prop} (h : MgAt w b m) (hk : Kp w w' S) (hs : ¬ S b) : MgAt w' b m := (hk.block b (blk_lt h) hs).trans h
theorem MgAt.new (w : World) (m : Mg) : MgAt (w.alloc (.cells (mgV m) 36)) w.heap.size m := heap_last _ _
theorem wpList_ldM {w : World} {ops : Array Oper} {rest : List Oper} {o : Oper} {a : Act} {Q : Exit → Act → World → Prop} (hgd : o.guard = none) (x : Operand) (ho : o.op = .load 36 x) (m : Mg) (b : Nat) (hx : a.eval x = .pointer (some ⟨b, 0, none⟩)) (hO : MgAt w b m)
    (h : wpList Try.prog ops Q rest (a.put o.dst (.agg (mgV m))) w) : wpList Try.prog ops Q (o :: rest) a w :=
  wpList_ldR hgd _ x ho b hx _ _ hO Try.underlying36 mg_info h
/-- messages, as cells -/
def mgs (l : List Mg) : List Value := l.flatMap fun m => (mgV m).toList
theorem mgs_append (a b : List Mg) : mgs (a ++ b) = mgs a ++ mgs b := List.flatMap_append
theorem mgs_one (m : Mg) : mgs [m] = (mgV m).toList := by unfold mgs; rw [List.flatMap_cons, List.flatMap_nil, List.append_nil]
theorem mgs_len (L : List Mg) : (mgs L).length = L.length * 11 := by
  induction L with
  | nil => rfl
  | cons a r ih =>
    unfold mgs at *
    rw [List.flatMap_cons, List.length_append, ih]
    simp only [List.length_cons, mgV, List.length_nil]
    omega
theorem mgs_oneCell (L : List Mg) : ∀ u ∈ mgs L, u.oneCell' = true := by
  intro u hu
  unfold mgs at hu
  obtain ⟨m, _, hm⟩ := List.mem_flatMap.1 hu
  have := Array.all_eq_true_iff_forall_mem.1 (mg_one m) u (by simpa using hm)
  exact this
theorem mgs_at (L : List Mg) (q : Nat) (h : q < L.length) (j : Nat) (hj : j < 11) : (mgs L)[q * 11 + j]? = (mgV L[q])[j]? := by
  induction L generalizing q with
  | nil => simp at h
  | cons a r ih =>
    cases q with
    | zero =>
      unfold mgs
      rw [List.flatMap_cons, Nat.zero_mul, Nat.zero_add, List.getElem?_append_left (by simpa [mgV] using hj)]
      simp
    | succ q =>
      have h' : q < r.length := by simpa using h
      have := ih q h'
      unfold mgs at *
      rw [List.flatMap_cons, show (q + 1) * 11 + j = (mgV a).toList.length + (q * 11 + j) by simp [mgV]; omega, List.getElem?_append_right (by omega), Nat.add_sub_cancel_left]
      exact this
theorem fill_mg (m : Mg) : Instr.fill (fun i => some (i * 11, 11)) ((Array.range (1 * 11)).map ((Value.agg (mgV mg0)).cells[· % (Value.agg (mgV mg0)).cells.size]!)) [(0, .agg (mgV m))] = some (mgV m) := by kernel_rfl
theorem mg_parts {t : TypeId} {z : Value} {k by' : Nat} (h : (Try.prog.info? t).map (fun i => (i.zero, i.size, i.bytes)) = some (some z, k, by')) : ∃ i0, Try.prog.info? t = some i0 ∧ i0.zero = some z ∧ i0.size = k ∧ i0.bytes = by' := by
  cases hq : Try.prog.info? t with
  | none => simp [hq] at h
  | some i => simp [hq] at h; exact ⟨i, rfl, h.1, h.2.1, h.2.2⟩
theorem wp_bsM {w : World} {o : Oper} {a : Act} {K : Act → World → Prop} {Q : Exit → Act → World → Prop} (x : Operand) (ho : o.op = .buildSlice 39 1 #[(0, x)]) (m : Mg) (hx : a.eval x = .agg (mgV m))
    (h : K (a.put o.dst (.slice (some ⟨w.heap.size, 0, none⟩) 1 1)) (w.alloc (.cells (mgV m) 36))) : o.wp Try.prog a w K Q := by
  obtain ⟨i0, hi, hz0, hz1, hz2⟩ := mg_parts mg_infos
  refine wp_buildSlice 39 36 1 _ ho (mgV m) i0 _ Try.underlying39 hi hz0 (by rw [hz1]; decide) (by rw [hz1]; decide) ?_ h
  rw [hz1]
  simp only [List.map_toArray, List.map_cons, List.map_nil, hx]
  exact fill_mg m
theorem wpList_bsM {w : World} {ops : Array Oper} {rest : List Oper} {o : Oper} {a : Act} {Q : Exit → Act → World → Prop} (hgd : o.guard = none) (x : Operand) (ho : o.op = .buildSlice 39 1 #[(0, x)]) (m : Mg) (hx : a.eval x = .agg (mgV m))
    (h : wpList Try.prog ops Q rest (a.put o.dst (.slice (some ⟨w.heap.size, 0, none⟩) 1 1)) (w.alloc (.cells (mgV m) 36))) : wpList Try.prog ops Q (o :: rest) a w :=
  wpList_plain hgd fun _ hK => wp_bsM x ho m hx (hK _ _ h)
theorem mg_cell (w : World) (m : Mg) : ∀ j u, (mgs [m])[j]? = some u → (w.alloc (.cells (mgV m) 36)).cell? ((⟨w.heap.size, 0, none⟩ : Addr).add j) = some u := by
  rw [mgs_one]
  intro j u hj
  rw [Addr.add_mid, Nat.zero_add, cell_row (heap_last w _)]
  simpa using hj
theorem mg_room {k : Nat} (h : k ≤ 1000000000000) : k + 1 ≤ maxLen ∧ (k + 1) * 104 ≤ 140737488355328 := by unfold maxLen; omega
/-- append(list, m) -/
theorem wpList_apM {w : World} {ops : Array Oper} {rest : List Oper} {o : Oper} {a : Act} {Q : Exit → Act → World → Prop} (hgd : o.guard = none) (x y : Operand) (ho : o.op = .call { callee := .builtin .append, args := #[x, y], argTypes := #[39, 39] }) (base : Nat) (v : Value) (L : List Mg) (hx : a.eval x = v) (hv : w.ownsRow base 36 11 v L.length (mgs L)) (g : Nat) (m : Mg) (hy : a.eval y = .slice (some ⟨g, 0, none⟩) 1 1) (hg : w.heap[g]? = some (.cells (mgV m) 36)) (hl : L.length ≤ 1000000000000) (hb : base ≤ w.heap.size)
    (h : ∀ v' w', w'.ownsRow base 36 11 v' (L.length + 1) (mgs (L ++ [m])) → w.grownBy w' v.ownBlock → wpList Try.prog ops Q rest (a.put o.dst v') w') : wpList Try.prog ops Q (o :: rest) a w := by
  obtain ⟨i0, hi, hz0, hz1, hz2⟩ := mg_parts mg_infos
  refine wpList_append_own_at _ hgd _ _ 39 ho base 36 i0 _ 11 104 Try.underlying39 hi hz0 hz1 hz2 rfl (by decide) _ _ _ hx hv ⟨g, 0, none⟩ 1 1 (mgs [m]) hy (by rw [mgs_one]; rfl) ?_ (mgs_oneCell _) (mg_room hl).1 (mg_room hl).2 hb ?_
  · rw [mgs_one]
    intro j u hj
    rw [Addr.add_mid, Nat.zero_add, cell_row hg]
    simpa using hj
  · intro v' w' h1 h2 _ _
    rw [← mgs_append] at h1
    exact h v' w' h1 h2
theorem own_sl {w : World} {base e sz n : Nat} {v : Value} {xs : List Value} (h : w.ownsRow base e sz v n xs) : ∃ ba cap, v = .slice ba n cap := by
  rcases h.2 with ⟨hv, hz⟩ | ⟨g, cap, cur, hv, _⟩
  · exact ⟨none, 0, by rw [hv, hz]⟩
  · exact ⟨_, _, hv⟩
theorem own_g {w : World} {base e sz n : Nat} {v : Value} {xs : List Value} (h : w.ownsRow base e sz v n xs) (hn : 0 < n) : ∃ g cap, v = .slice (some ⟨g, 0, none⟩) n cap := by
  rcases h.2 with ⟨hv, hz⟩ | ⟨g, cap, cur, hv, _⟩
  · omega
  · exact ⟨_, _, hv⟩
theorem own_kp {w w' : World} {S : Nat → Prop} {base e sz n : Nat} {v : Value} {xs : List Value} (h : w.ownsRow base e sz v n xs) (hk : Kp w w' S) (hne : ∀ k, v.ownBlock = some k → ¬ S k) : w'.ownsRow base e sz v n xs := by
  refine ⟨h.1, ?_⟩
  rcases h.2 with ⟨hv, hz⟩ | ⟨g, cap, cur, rfl, h1, h2, h3⟩
  · exact .inl ⟨hv, hz⟩
  · exact .inr ⟨g, cap, cur, rfl, h1, (hk.block g (blk_lt h2) (hne g rfl)).trans h2, h3⟩
end Go.Proofs.Ytbmhllcbkeblfaa.Cn
namespace Go.Proofs.Ytbmhllcbkeblfaa.Cn
open Go.RowKit
/-- a pair -/
structure Pr where
  k : ByteArray
  v : ByteArray
/-- a report -/
structure Rp where
  jb : Int
  vr : Int
  ps : List Pr
  ms : List Int
def rp0 : Rp := ⟨0, 0, [], []⟩
/-- an exporter, as a value -/
structure Ex where
  gw : Int
  rows : List (List Int)
  now : Int
  told : Rp
  part : Nat
  left : Nat
  rd : List Pr
  wf : Int
  wj : Int
  wp : Int
  wv : Int
  wl : Int
  at_ : Int
  last : Rp
def rowAt (e : Ex) (p : Nat) : List Int := (e.rows[p]?).getD []
def ownr (e : Ex) : Int := ((rowAt e e.part)[e.left]?).getD 0
def askX (e : Ex) : Ex := { e with wf := ownr e, wj := e.told.jb, wp := (e.part : Int), wv := e.told.vr, wl := (e.rd.length : Int), at_ := e.now }
def askM (e : Ex) : Mg := ⟨15, 67, ownr e, e.told.jb, 0, (e.part : Int), e.told.vr, (e.rd.length : Int), 0, ⟨#[]⟩, ⟨#[]⟩⟩
def endX (e : Ex) : Ex := { e with told := rp0, part := 0, left := 0, rd := [], wf := 0, wj := 0, wp := 0, wv := 0, wl := 0, at_ := 0, last := e.told }
def setP (e : Ex) (p : Nat) : Ex := { e with part := p, left := 0, rd := [] }
def upX (e : Ex) (p : Nat) : Ex := if p = e.rows.length then endX e else askX (setP e p)
def upL (e : Ex) (p : Nat) : List Mg := if p = e.rows.length then [] else [askM (setP e p)]
def nxtX (e : Ex) : Ex := { e with left := e.left + 1 }
def missX (e : Ex) : Ex := { e with left := e.left + 1, told := { e.told with ms := e.told.ms ++ [(e.part : Int)] } }
def lvX (e : Ex) : Ex := if e.left + 1 < (rowAt e e.part).length then askX (nxtX e) else upX (missX e) (e.part + 1)
def lvL (e : Ex) : List Mg := if e.left + 1 < (rowAt e e.part).length then [askM (nxtX e)] else upL (missX e) (e.part + 1)
def doneX (e : Ex) : Ex := { e with told := { e.told with ps := e.told.ps ++ e.rd } }
def readX (e : Ex) (m : Mg) : Ex := { e with rd := e.rd ++ [⟨m.key, m.val⟩] }
def hearX (e : Ex) (m : Mg) : Ex := if m.code = 16 then upX (doneX e) (e.part + 1) else if m.code = 0 ∧ e.rd.length < 512 then askX (readX e m) else lvX e
def hearL (e : Ex) (m : Mg) : List Mg := if m.code = 16 then upL (doneX e) (e.part + 1) else if m.code = 0 ∧ e.rd.length < 512 then [askM (readX e m)] else lvL e
def busyB (e : Ex) : Bool := e.told.jb != 0
def isAns (e : Ex) (m : Mg) : Bool := busyB e && (m.kind == 16 && (m.fr == e.wf && m.id == e.wj && m.sq == e.wp && m.ver == e.wv && m.prev == e.wl))
def takeX (e : Ex) (m : Mg) : Ex := if isAns e m then hearX e m else e
def takeL (e : Ex) (m : Mg) : List Mg := if isAns e m then hearL e m else []
def nowX (e : Ex) : Ex := { e with now := e.now + 1 }
def dueB (e : Ex) : Bool := busyB e && (e.now - e.at_ == e.gw)
def tickX (e : Ex) : Ex := if dueB (nowX e) then lvX (nowX e) else nowX e
def tickL (e : Ex) : List Mg := if dueB (nowX e) then lvL (nowX e) else []
def verB (v : Int) : Bool := decide (1 ≤ v ∧ v ≤ 999999)
def jobX (e : Ex) (v : Int) : Ex := { e with told := ⟨e.last.jb + 1, v, [], []⟩, part := 0, left := 0, rd := [], wf := 0, wj := 0, wp := 0, wv := 0, wl := 0, at_ := 0 }
def begE (e : Ex) (v : Int) : Int := if busyB e then 150 else if verB v then 0 else 80
def begX (e : Ex) (v : Int) : Ex := if begE e v = 0 then upX (jobX e v) 0 else e
def begL (e : Ex) (v : Int) : List Mg := if begE e v = 0 then upL (jobX e v) 0 else []
/-- what a job that goes on keeps -/
structure Jok (e : Ex) (R : Nat) : Prop where
  pt : e.part < e.rows.length
  lf : e.left < R
  a1 : e.at_ ≤ e.now
  a2 : e.now - e.at_ < e.gw
  rl : e.rd.length ≤ 512
  pl : e.told.ps.length ≤ 512 * e.part
  ml : e.told.ms.length ≤ e.part
  w : e.wf = ownr e ∧ e.wj = e.told.jb ∧ e.wp = (e.part : Int) ∧ e.wv = e.told.vr ∧ e.wl = (e.rd.length : Int)
/-- what an exporter keeps; n: how many calls at most there were -/
structure Eok (e : Ex) (R n : Nat) : Prop where
  p1 : 1 ≤ e.rows.length ∧ e.rows.length ≤ 64
  rw_ : ∀ r ∈ e.rows, r.length = R
  r1 : 1 ≤ R ∧ R ≤ 16
  gw : 1 ≤ e.gw ∧ e.gw ≤ 1000000000
  nw : 0 ≤ e.now ∧ e.now ≤ (n : Int)
  lj : 0 ≤ e.last.jb ∧ e.last.jb ≤ (n : Int)
  ll : e.last.ps.length ≤ 32768 ∧ e.last.ms.length ≤ 64
  idle : busyB e = false → e.told.ps = [] ∧ e.told.ms = [] ∧ e.rd = []
  jn : busyB e = true → e.told.jb = e.last.jb + 1
  job : busyB e = true → Jok e R
theorem rowAt_len {e : Ex} {R n : Nat} (h : Eok e R n) {p : Nat} (hp : p < e.rows.length) : (rowAt e p).length = R := by
  unfold rowAt
  rw [List.getElem?_eq_getElem hp]
  exact h.rw_ _ (List.getElem_mem hp)
/-- a job in the midst of a call: all but the question -/
structure Mok (e : Ex) (R n : Nat) : Prop where
  p1 : 1 ≤ e.rows.length ∧ e.rows.length ≤ 64
  rw_ : ∀ r ∈ e.rows, r.length = R
  r1 : 1 ≤ R ∧ R ≤ 16
  gw : 1 ≤ e.gw ∧ e.gw ≤ 1000000000
  nw : 0 ≤ e.now ∧ e.now ≤ (n : Int)
  lj : 0 ≤ e.last.jb ∧ e.last.jb ≤ (n : Int)
  ll : e.last.ps.length ≤ 32768 ∧ e.last.ms.length ≤ 64
  jn : e.told.jb = e.last.jb + 1
theorem Eok.mok {e : Ex} {R n : Nat} (h : Eok e R n) (hb : busyB e = true) : Mok e R n := ⟨h.p1, h.rw_, h.r1, h.gw, h.nw, h.lj, h.ll, h.jn hb⟩
theorem busy_iff {e : Ex} : busyB e = true ↔ e.told.jb ≠ 0 := by unfold busyB; simp
theorem busy_no {e : Ex} : busyB e = false ↔ e.told.jb = 0 := by unfold busyB; simp
theorem askX_ok {e : Ex} {R n : Nat} (h : Mok e R n) (h1 : e.part < e.rows.length) (h2 : e.left < R) (h3 : e.rd.length ≤ 512) (h4 : e.told.ps.length ≤ 512 * e.part) (h5 : e.told.ms.length ≤ e.part) : Eok (askX e) R n :=
  ⟨h.p1, h.rw_, h.r1, h.gw, h.nw, h.lj, h.ll, fun hb => by
    rw [busy_no] at hb
    have : e.told.jb = 0 := hb
    have := h.jn
    have := h.lj
    omega, fun _ => h.jn, fun _ => ⟨h1, h2, Int.le_refl _, by show e.now - e.now < e.gw; have := h.gw; omega, h3, h4, h5, rfl, rfl, rfl, rfl, rfl⟩⟩
theorem endX_ok {e : Ex} {R n : Nat} (h : Mok e R n) (h4 : e.told.ps.length ≤ 32768) (h5 : e.told.ms.length ≤ 64) : Eok (endX e) R (n + 1) :=
  ⟨h.p1, h.rw_, h.r1, h.gw, by have := h.nw; show 0 ≤ e.now ∧ e.now ≤ _; omega, by have := h.jn; have := h.lj; show 0 ≤ e.told.jb ∧ e.told.jb ≤ _; omega, ⟨h4, h5⟩, fun _ => ⟨rfl, rfl, rfl⟩, fun hb => by simp [busyB, endX, rp0] at hb, fun hb => by simp [busyB, endX, rp0] at hb⟩
theorem Eok.more {e : Ex} {R n n' : Nat} (h : Eok e R n) (hn : n ≤ n') : Eok e R n' :=
  ⟨h.p1, h.rw_, h.r1, h.gw, by have := h.nw; omega, by have := h.lj; omega, h.ll, h.idle, h.jn, h.job⟩
theorem upX_ok {e : Ex} {R n p : Nat} (h : Mok e R n) (hp : p ≤ e.rows.length) (h4 : e.told.ps.length ≤ 512 * p) (h5 : e.told.ms.length ≤ p) : Eok (upX e p) R (n + 1) := by
  have p1 := h.p1
  unfold upX
  by_cases q : p = e.rows.length
  · rw [if_pos q]
    exact endX_ok h (by omega) (by omega)
  · rw [if_neg q]
    exact (askX_ok (e := setP e p) ⟨h.p1, h.rw_, h.r1, h.gw, h.nw, h.lj, h.ll, h.jn⟩ (by show p < e.rows.length; omega) (by show 0 < R; have := h.r1; omega) (by show 0 ≤ 512; omega) h4 h5).more (by omega)
theorem lvX_ok {e : Ex} {R n : Nat} (h : Mok e R n) (h1 : e.part < e.rows.length) (h3 : e.rd.length ≤ 512) (h4 : e.told.ps.length ≤ 512 * e.part) (h5 : e.told.ms.length ≤ e.part) : Eok (lvX e) R (n + 1) := by
  have hr : (rowAt e e.part).length = R := by
    unfold rowAt
    rw [List.getElem?_eq_getElem h1]
    exact h.rw_ _ (List.getElem_mem h1)
  unfold lvX
  rw [hr]
  by_cases q : e.left + 1 < R
  · rw [if_pos q]
    exact (askX_ok (e := nxtX e) ⟨h.p1, h.rw_, h.r1, h.gw, h.nw, h.lj, h.ll, h.jn⟩ h1 q h3 h4 h5).more (by omega)
  · rw [if_neg q]
    exact upX_ok (e := missX e) ⟨h.p1, h.rw_, h.r1, h.gw, h.nw, h.lj, h.ll, h.jn⟩ (by show _ ≤ e.rows.length; omega) (by show e.told.ps.length ≤ _; omega) (by show (e.told.ms ++ _).length ≤ _; simp; omega)
theorem hearX_ok {e : Ex} {R n : Nat} (h : Eok e R n) (hb : busyB e = true) (m : Mg) : Eok (hearX e m) R (n + 1) := by
  have j := h.job hb
  have k := h.mok hb
  have j1 := j.pt; have j2 := j.rl; have j3 := j.pl; have j4 := j.ml; have j5 := j.lf
  unfold hearX
  by_cases q : m.code = 16
  · rw [if_pos q]
    exact upX_ok (e := doneX e) ⟨k.p1, k.rw_, k.r1, k.gw, k.nw, k.lj, k.ll, k.jn⟩ (by show _ ≤ e.rows.length; omega) (by show (e.told.ps ++ e.rd).length ≤ _; simp; omega) (by show e.told.ms.length ≤ _; omega)
  · rw [if_neg q]
    by_cases q2 : m.code = 0 ∧ e.rd.length < 512
    · rw [if_pos q2]
      exact (askX_ok (e := readX e m) ⟨k.p1, k.rw_, k.r1, k.gw, k.nw, k.lj, k.ll, k.jn⟩ j1 j5 (by show (e.rd ++ _).length ≤ _; simp; omega) j3 j4).more (by omega)
    · rw [if_neg q2]
      exact lvX_ok k j1 j2 j3 j4
theorem takeX_ok {e : Ex} {R n : Nat} (h : Eok e R n) (m : Mg) : Eok (takeX e m) R (n + 1) := by
  unfold takeX
  by_cases q : isAns e m = true
  · rw [if_pos q]
    have hb : busyB e = true := by unfold isAns at q; simp at q; exact q.1
    exact hearX_ok h hb m
  · rw [if_neg q]
    exact h.more (by omega)
theorem tickX_ok {e : Ex} {R n : Nat} (h : Eok e R n) : Eok (tickX e) R (n + 2) := by
  have nw := h.nw
  have lj := h.lj
  have mk : busyB e = true → Mok (nowX e) R (n + 1) := fun hb => ⟨h.p1, h.rw_, h.r1, h.gw, by show 0 ≤ e.now + 1 ∧ e.now + 1 ≤ _; omega, by show 0 ≤ e.last.jb ∧ e.last.jb ≤ _; omega, h.ll, h.jn hb⟩
  unfold tickX
  by_cases q : dueB (nowX e) = true
  · rw [if_pos q]
    have hb : busyB e = true := by unfold dueB at q; rw [Bool.and_eq_true] at q; exact q.1
    have j := h.job hb
    exact lvX_ok (mk hb) j.pt j.rl j.pl j.ml
  · rw [if_neg q]
    refine ⟨h.p1, h.rw_, h.r1, h.gw, by show 0 ≤ e.now + 1 ∧ e.now + 1 ≤ _; omega, by show 0 ≤ e.last.jb ∧ e.last.jb ≤ _; omega, h.ll, h.idle, h.jn, fun hb => ?_⟩
    have hb' : busyB e = true := hb
    have j := h.job hb'
    have d : ¬ (e.now + 1 - e.at_ = e.gw) := fun x => q (by unfold dueB; rw [Bool.and_eq_true]; exact ⟨hb, by simp [nowX]; exact x⟩)
    have a1 := j.a1; have a2 := j.a2
    exact ⟨j.pt, j.lf, by show e.at_ ≤ e.now + 1; omega, by show e.now + 1 - e.at_ < e.gw; omega, j.rl, j.pl, j.ml, j.w⟩
theorem begX_ok {e : Ex} {R n : Nat} (h : Eok e R n) (v : Int) : Eok (begX e v) R (n + 1) := by
  unfold begX
  by_cases q : begE e v = 0
  · rw [if_pos q]
    exact upX_ok (e := jobX e v) ⟨h.p1, h.rw_, h.r1, h.gw, h.nw, h.lj, h.ll, rfl⟩ (Nat.zero_le _) (Nat.zero_le _) (Nat.zero_le _)
  · rw [if_neg q]
    exact h.more (by omega)
/-- how many questions are left, the one of now among them -/
def cntQ (e : Ex) (R : Nat) : Nat := (e.rows.length - 1 - e.part) * R + (R - e.left)
/-- how many ticks are left -/
def tlft (e : Ex) (R : Nat) : Int := if busyB e then (cntQ e R : Int) * e.gw - (e.now - e.at_) else 0
theorem tl_pos {e : Ex} {R n : Nat} (h : Eok e R n) (hb : busyB e = true) : 1 ≤ tlft e R := by
  have j := h.job hb
  have a1 := j.a1; have a2 := j.a2; have a3 := j.lf
  unfold tlft
  rw [if_pos hb]
  have : 1 ≤ cntQ e R := by unfold cntQ; omega
  have : 1 * e.gw ≤ (cntQ e R : Int) * e.gw := Int.mul_le_mul_of_nonneg_right (by omega) (by have := h.gw; omega)
  omega
theorem tl_most {e : Ex} {R n : Nat} (h : Eok e R n) : tlft e R ≤ ((e.rows.length * R : Nat) : Int) * e.gw := by
  have hp : (0 : Int) ≤ ((e.rows.length * R : Nat) : Int) * e.gw := Int.mul_nonneg (by omega) (by have := h.gw; omega)
  unfold tlft
  by_cases hb : busyB e = true
  · rw [if_pos hb]
    have j := h.job hb
    have a1 := j.a1; have a2 := j.a2; have a3 := j.lf; have a4 := j.pt
    have : cntQ e R ≤ e.rows.length * R := by
      unfold cntQ
      have h1 : (e.rows.length - 1 - e.part) * R ≤ (e.rows.length - 1) * R := Nat.mul_le_mul_right _ (by omega)
      have h2 : e.rows.length * R = (e.rows.length - 1) * R + R := by
        have : e.rows.length = (e.rows.length - 1) + 1 := by omega
        rw [this, Nat.succ_mul]; simp
      omega
    have : (cntQ e R : Int) * e.gw ≤ ((e.rows.length * R : Nat) : Int) * e.gw := Int.mul_le_mul_of_nonneg_right (by omega) (by have := h.gw; omega)
    omega
  · rw [if_neg hb]
    exact hp
theorem tl_ask (e : Ex) (R : Nat) (hb : e.told.jb ≠ 0) : tlft (askX e) R = (cntQ e R : Int) * e.gw := by
  have hb' : busyB (askX e) = true := busy_iff.2 hb
  unfold tlft
  rw [if_pos hb']
  show (cntQ e R : Int) * e.gw - (e.now - e.now) = _
  omega
theorem tl_tick {e : Ex} {R n : Nat} (h : Eok e R n) (hb : busyB e = true) : tlft (tickX e) R = tlft e R - 1 := by
  have j := h.job hb
  have a1 := j.a1; have a2 := j.a2; have a3 := j.lf; have a4 := j.pt
  have hj := busy_iff.1 hb
  have hl : tlft e R = (cntQ e R : Int) * e.gw - (e.now - e.at_) := by unfold tlft; rw [if_pos hb]
  have hr : (rowAt (nowX e) (nowX e).part).length = R := rowAt_len h a4
  unfold tickX
  by_cases q : dueB (nowX e) = true
  · rw [if_pos q]
    have d : e.now + 1 - e.at_ = e.gw := by
      unfold dueB at q; rw [Bool.and_eq_true] at q
      have := q.2
      simp [nowX] at this
      exact this
    unfold lvX
    rw [hr]
    by_cases q1 : (nowX e).left + 1 < R
    · rw [if_pos q1, tl_ask (nxtX (nowX e)) R hj, hl]
      have : cntQ e R = cntQ (nxtX (nowX e)) R + 1 := by
        show (e.rows.length - 1 - e.part) * R + (R - e.left) = (e.rows.length - 1 - e.part) * R + (R - (e.left + 1)) + 1
        have : e.left + 1 < R := q1
        omega
      rw [this]
      show (cntQ (nxtX (nowX e)) R : Int) * e.gw = ((cntQ (nxtX (nowX e)) R + 1 : Nat) : Int) * e.gw - (e.now - e.at_) - 1
      rw [Int.natCast_add, Int.add_mul]
      omega
    · rw [if_neg q1]
      have q2 : e.left + 1 = R := by have : ¬ e.left + 1 < R := q1; omega
      unfold upX
      by_cases q3 : (nowX e).part + 1 = (missX (nowX e)).rows.length
      · rw [if_pos q3]
        have q4 : e.part + 1 = e.rows.length := q3
        have : cntQ e R = 1 := by
          unfold cntQ
          rw [show e.rows.length - 1 - e.part = 0 by omega]
          omega
        rw [hl, this]
        show (if busyB (endX (missX (nowX e))) = true then _ else (0 : Int)) = _
        rw [if_neg (by simp [busyB, endX, rp0])]
        omega
      · rw [if_neg q3, tl_ask (setP (missX (nowX e)) ((nowX e).part + 1)) R hj, hl]
        have q4 : ¬ e.part + 1 = e.rows.length := q3
        have : cntQ e R = cntQ (setP (missX (nowX e)) ((nowX e).part + 1)) R + 1 := by
          show (e.rows.length - 1 - e.part) * R + (R - e.left) = (e.rows.length - 1 - (e.part + 1)) * R + (R - 0) + 1
          have : e.rows.length - 1 - e.part = (e.rows.length - 1 - (e.part + 1)) + 1 := by omega
          rw [this, Nat.succ_mul]
          omega
        rw [this]
        show (cntQ (setP (missX (nowX e)) ((nowX e).part + 1)) R : Int) * e.gw = ((cntQ (setP (missX (nowX e)) ((nowX e).part + 1)) R + 1 : Nat) : Int) * e.gw - (e.now - e.at_) - 1
        rw [Int.natCast_add, Int.add_mul]
        omega
  · rw [if_neg q]
    have hb2 : busyB (nowX e) = true := hb
    show tlft (nowX e) R = _
    rw [hl]
    unfold tlft
    rw [if_pos hb2]
    show (cntQ e R : Int) * e.gw - (e.now + 1 - e.at_) = _
    omega
def rng (n : Nat) : List Int := (List.range n).map fun k : Nat => (k : Int)
theorem rng_succ (n : Nat) : rng (n + 1) = rng n ++ [(n : Int)] := by unfold rng; rw [List.range_succ]; simp
theorem rng_len (n : Nat) : (rng n).length = n := by simp [rng]
theorem rng_at {n i : Nat} (h : i < n) : (rng n)[i]? = some (i : Int) := by simp [rng, h]
/-- an export to which nothing ever came: q questions were left, the one of now was sent r ticks ago -/
structure Sil (e : Ex) (R q r : Nat) : Prop where
  b : busyB e = true
  q_ : e.part * R + e.left = q
  r_ : e.now - e.at_ = (r : Int)
  ps : e.told.ps = []
  ms : e.told.ms = rng e.part
  rd : e.rd = []
/-- it has ended: all is missing -/
structure Fnd (e : Ex) (P : Nat) : Prop where
  b : busyB e = false
  ps : e.last.ps = []
  ms : e.last.ms = rng P
  jb : e.last.jb ≠ 0
theorem sil_wait {e : Ex} {R q r : Nat} (s : Sil e R q r) (hr : (r : Int) + 1 < e.gw) : Sil (tickX e) R q (r + 1) ∧ tickL e = [] := by
  have d : dueB (nowX e) = false := by
    unfold dueB
    have := s.r_
    have : ((nowX e).now - (nowX e).at_ == (nowX e).gw) = false := by
      rw [beq_eq_false_iff_ne]
      show e.now + 1 - e.at_ ≠ e.gw
      omega
    rw [this, Bool.and_false]
  unfold tickX tickL
  rw [if_neg (by rw [d]; simp), if_neg (by rw [d]; simp)]
  exact ⟨⟨s.b, s.q_, by have := s.r_; show e.now + 1 - e.at_ = ((r + 1 : Nat) : Int); omega, s.ps, s.ms, s.rd⟩, rfl⟩
theorem sil_due {e : Ex} {R n q r : Nat} (h : Eok e R n) (s : Sil e R q r) (hr : (r : Int) + 1 = e.gw) : (q + 1 < e.rows.length * R ∧ Sil (tickX e) R (q + 1) 0 ∧ ∃ m, tickL e = [m]) ∨ (q + 1 = e.rows.length * R ∧ Fnd (tickX e) e.rows.length ∧ tickL e = []) := by
  have d : dueB (nowX e) = true := by
    unfold dueB
    rw [Bool.and_eq_true]
    refine ⟨s.b, ?_⟩
    have := s.r_
    rw [beq_iff_eq]
    show e.now + 1 - e.at_ = e.gw
    omega
  have j := h.job s.b
  have a3 := j.lf; have a4 := j.pt
  have hq := s.q_
  have hrw : (rowAt (nowX e) (nowX e).part).length = R := rowAt_len h a4
  unfold tickX tickL
  rw [if_pos d, if_pos d]
  unfold lvX lvL
  rw [hrw]
  have hP : (e.part + 1) * R ≤ e.rows.length * R := Nat.mul_le_mul_right _ (by omega)
  rw [Nat.succ_mul] at hP
  by_cases q1 : (nowX e).left + 1 < R
  · rw [if_pos q1, if_pos q1]
    have q2 : e.left + 1 < R := q1
    exact .inl ⟨by omega, ⟨s.b, by show e.part * R + (e.left + 1) = _; omega, Int.sub_self _, s.ps, s.ms, s.rd⟩, _, rfl⟩
  · rw [if_neg q1, if_neg q1]
    have q2 : e.left + 1 = R := by have : ¬ e.left + 1 < R := q1; omega
    have hm : (missX (nowX e)).told.ms = rng (e.part + 1) := by
      show e.told.ms ++ [(e.part : Int)] = _
      rw [s.ms, rng_succ]
    unfold upX upL
    by_cases q3 : (nowX e).part + 1 = (missX (nowX e)).rows.length
    · rw [if_pos q3, if_pos q3]
      have q4 : e.part + 1 = e.rows.length := q3
      refine .inr ⟨?_, ⟨by simp [busyB, endX, rp0], s.ps, ?_, busy_iff.1 s.b⟩, rfl⟩
      · rw [← q4, Nat.succ_mul]
        omega
      · show (missX (nowX e)).told.ms = _
        rw [hm, q4]
    · rw [if_neg q3, if_neg q3]
      have q4 : ¬ e.part + 1 = e.rows.length := q3
      have : (e.part + 1 + 1) * R ≤ e.rows.length * R := Nat.mul_le_mul_right _ (by omega)
      have hR := h.r1
      rw [Nat.succ_mul, Nat.succ_mul] at this
      exact .inl ⟨by omega, ⟨s.b, by show (e.part + 1) * R + 0 = _; rw [Nat.succ_mul]; omega, Int.sub_self _, s.ps, hm, rfl⟩, _, rfl⟩
/-- behind i silent ticks -/
def Sit (e : Ex) (R P g i a : Nat) : Prop := (∃ q r, i = q * g + r ∧ r < g ∧ a = q + 1 ∧ q < P * R ∧ Sil e R q r) ∨ (i = P * R * g ∧ a = P * R ∧ Fnd e P)
theorem sit_step {e : Ex} {R n P g i a : Nat} (h : Eok e R n) (hP : e.rows.length = P) (hg : e.gw = (g : Int)) (hi : i < P * R * g) (s : Sit e R P g i a) : busyB e = true ∧ ∃ k, (tickL e).length = k ∧ k ≤ 1 ∧ (k = 1 → (i + 1) % g = 0) ∧ Sit (tickX e) R P g (i + 1) (a + k) := by
  rcases s with ⟨q, r, hq, hr, ha, hlt, s⟩ | ⟨hq, _⟩
  · refine ⟨s.b, ?_⟩
    by_cases q1 : r + 1 < g
    · obtain ⟨s', e'⟩ := sil_wait s (by omega)
      exact ⟨0, by rw [e']; rfl, by omega, by omega, .inl ⟨q, r + 1, by omega, q1, by omega, hlt, s'⟩⟩
    · have hg1 : r + 1 = g := by omega
      have hm : i + 1 = (q + 1) * g := by rw [Nat.succ_mul]; omega
      rcases sil_due h s (by omega) with ⟨l1, s', m, e'⟩ | ⟨l1, s', e'⟩
      · exact ⟨1, by rw [e']; rfl, by omega, fun _ => by rw [hm]; exact Nat.mul_mod_left _ _, .inl ⟨q + 1, 0, by omega, by omega, by omega, by rw [← hP]; exact l1, s'⟩⟩
      · rw [hP] at l1 s'
        exact ⟨0, by rw [e']; rfl, by omega, by omega, .inr ⟨by rw [hm, l1], by omega, s'⟩⟩
  · omega
theorem sit_end {e : Ex} {R P g a : Nat} (s : Sit e R P g (P * R * g) a) : a = P * R ∧ Fnd e P := by
  rcases s with ⟨q, r, hq, hr, ha, hlt, s⟩ | ⟨_, ha, f⟩
  · exfalso
    have : (q + 1) * g ≤ P * R * g := Nat.mul_le_mul_right _ (by omega)
    rw [Nat.succ_mul] at this
    omega
  · exact ⟨ha, f⟩
/-- a new export has just begun -/
theorem sit_start {e : Ex} {R n P g : Nat} (h : Eok e R n) (hb : busyB e = false) (hP : e.rows.length = P) (hg : 1 ≤ g) : begE e 1 = 0 ∧ (∃ m, begL e 1 = [m]) ∧ Sit (begX e 1) R P g 0 1 := by
  have e0 : begE e 1 = 0 := by unfold begE; rw [hb]; simp [verB]
  have p1 := h.p1
  have np : ¬ (0 = (jobX e 1).rows.length) := by show ¬ 0 = e.rows.length; omega
  refine ⟨e0, ?_, ?_⟩
  · unfold begL upL
    rw [if_pos e0, if_neg np]
    exact ⟨_, rfl⟩
  · unfold begX upX
    rw [if_pos e0, if_neg np]
    refine .inl ⟨0, 0, by omega, by omega, rfl, ?_, ?_, by show 0 * R + 0 = 0; omega, Int.sub_self _, rfl, rfl, rfl⟩
    · have := h.r1
      have : 1 * 1 ≤ P * R := Nat.mul_le_mul (by omega) (by omega)
      omega
    · rw [busy_iff]
      show e.last.jb + 1 ≠ 0
      have := h.lj
      omega
end Go.Proofs.Ytbmhllcbkeblfaa.Cn
