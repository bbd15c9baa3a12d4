import Derived.Test.YtpoegknmkbnjlaaDoorProg
import Derived.WalkKit
import Derived.WalkSpells
import Derived.WalkLawsBesides
import Derived.Laws.OwnMore
import Derived.Laws.MakeOwn
import Derived.Laws.CopyOwn
import Derived.Below
import Derived.Lib.MinMax
import Derived.Deep.RegionHeld3
import Derived.Deep.QuietTactic
import Derived.BigQuiet
import Derived.Deep.DeepCutAuto
import Derived.Maps.AppendAt
import Derived.Deep.WholeRow
import Derived.Great.BuildSlice
import Derived.Deep.MidRow
import Derived.Laws.AppendOwnNone
import Derived.Carry
import Derived.Maps.Own
import Derived.Maps.OwnSet
import Derived.Maps.Views
import Derived.DeepKeys4
import Derived.Maps.Keyed
import Derived.Maps.RangeRun
namespace Go.Proofs.YtpoegknmkbnjlaaDoor.Cn
open Go.RowKit
theorem hide {p : Prop} (h : p) : Hid p := h
theorem i64_in {x : Int} (h0 : -9223372036854775808 ≤ x) (h1 : x < 9223372036854775808) : IntKind.i64.wrap x = x := by
  simp [IntKind.wrap, IntKind.signed, IntKind.bits]; omega
theorem wrap_in {x : Int} (h0 : -9223372036854775808 ≤ x) (h1 : x < 9223372036854775808) : wrap64 x = x := by unfold wrap64; omega
theorem blk_lt {w : World} {b : Nat} {o : Obj} (h : w.heap[b]? = some o) : b < w.heap.size := (Array.getElem?_eq_some_iff.1 h).1
theorem heap_last (w : World) (o : Obj) : (w.alloc o).heap[w.heap.size]? = some o := by
  unfold World.alloc
  exact Array.getElem?_push_size
theorem heap_setCell (w : World) (b o : Nat) (v : Value) (c : Array Value) (t : TypeId) (fr : Nat × Nat) (h : w.heap[b]? = some (.cells c t fr)) : (w.setCell ⟨b, o, none⟩ v).heap[b]? = some (.cells (c.setIfInBounds o v) t fr) := by
  simp only [World.setCell, Array.getElem?_modify, if_true, h, Option.map_some]
  rfl
/-- what has happened: all but the blocks of S are as they were -/
structure Kp (w w' : World) (S : Nat → Prop) : Prop where
  os : w'.os = w.os
  tape : w'.tape = w.tape
  output : w'.output = w.output
  size : w.heap.size ≤ w'.heap.size
  block : ∀ k, k < w.heap.size → ¬ S k → w'.heap[k]? = w.heap[k]?
def non : Nat → Prop := fun _ => False
theorem Kp.refl (w : World) (S : Nat → Prop) : Kp w w S := ⟨rfl, rfl, rfl, Nat.le_refl _, fun _ _ _ => rfl⟩
theorem Kp.trans {w w1 w2 : World} {S T : Nat → Prop} (h : Kp w w1 S) (h' : Kp w1 w2 T) (hT : ∀ k, T k → S k ∨ w.heap.size ≤ k) : Kp w w2 S :=
  ⟨h'.os.trans h.os, h'.tape.trans h.tape, h'.output.trans h.output, Nat.le_trans h.size h'.size, fun k hk hs => (h'.block k (Nat.lt_of_lt_of_le hk h.size) (fun t => by rcases hT k t with a | a; exact hs a; omega)).trans (h.block k hk hs)⟩
theorem Kp.mono {w w' : World} {S T : Nat → Prop} (h : Kp w w' S) (hT : ∀ k, S k → T k) : Kp w w' T := ⟨h.os, h.tape, h.output, h.size, fun k hk hs => h.block k hk (fun s => hs (hT k s))⟩
theorem Kp.of_below {w w' : World} (h : Below w.heap.size w w') (S : Nat → Prop) : Kp w w' S := ⟨h.os, h.tape, h.output, h.size, fun k hk _ => h.block k hk⟩
theorem Kp.below {w w' : World} (h : Kp w w' non) : Below w.heap.size w w' := ⟨h.os, h.tape, h.output, h.size, fun k hk => h.block k hk (fun f => f)⟩
theorem Kp.of_grown {w w' : World} {r : Option Nat} (h : w.grownBy w' r) : Kp w w' (fun k => some k = r) := ⟨h.os, h.tape, h.output, h.size, fun k hk hs => h.block k hk hs⟩
theorem Kp.drewN {w w' : World} {S : Nat → Prop} (h : Kp w w' S) (n : Nat) : Kp w (w'.drewN n) S := ⟨h.os, h.tape, h.output, h.size, h.block⟩
theorem Kp.drew {w w' : World} {S : Nat → Prop} (h : Kp w w' S) : Kp w w'.drew S := ⟨h.os, h.tape, h.output, h.size, h.block⟩
theorem Kp.alloc {w w' : World} {S : Nat → Prop} (h : Kp w w' S) (o : Obj) : Kp w (w'.alloc o) S := h.trans (Kp.of_below ((Below.refl _ w').alloc (Nat.le_refl _) o) S) (fun _ hk => Or.inl hk)
theorem Kp.set {w w' : World} {S : Nat → Prop} {R : Nat} (h : Kp w w' S) (hR : S R ∨ w.heap.size ≤ R) (j : Nat) (v : Value) : Kp w (w'.setCell ⟨R, j, none⟩ v) S :=
  h.trans (T := fun k => k = R) ⟨rfl, rfl, rfl, by rw [World.size_setCell]; exact Nat.le_refl _, fun k _ hs => Below.heap_setCell _ _ _ k (fun e => hs (e.symm ▸ rfl))⟩ (fun _ hk => by subst hk; exact hR)
theorem Kp.cell {w w' : World} {S : Nat → Prop} (h : Kp w w' S) {b o : Nat} (hb : b < w.heap.size) (hs : ¬ S b) : w'.cell? ⟨b, o, none⟩ = w.cell? ⟨b, o, none⟩ := by
  unfold World.cell?
  rw [h.block b hb hs]
/-- a whole row is loaded, stored, built, answered -/
theorem wpList_ldR {w : World} {ops : Array Oper} {rest : List Oper} {o : Oper} {a : Act} {Q : Exit → Act → World → Prop} (hgd : o.guard = none) (ty : TypeId) (x : Operand) (ho : o.op = .load ty x) (b : Nat) (hx : a.eval x = .pointer (some ⟨b, 0, none⟩)) (t : TypeId) (A : Array Value) (hO : w.heap[b]? = some (.cells A t)) {fs} (hu : Tryd.prog.underlying ty = some (.struct fs)) (hi : (Tryd.prog.info? ty).map (·.size) = some A.size)
    (h : wpList Tryd.prog ops Q rest (a.put o.dst (.agg A)) w) : wpList Tryd.prog ops Q (o :: rest) a w := by
  have hl : (Instr.loadAt ty (.pointer (some ⟨b, 0, none⟩))).run Tryd.prog w = .ok (.agg A) w := by
    simp only [Instr.loadAt, Instr.sureAddr, Sem.run_bind, Sem.run_pure, Result.andThen]
    exact run_loadVar_row _ _ t ty A (0, 0) _ hO hu rfl hi
  refine wpList_plain hgd fun K hK => ?_
  unfold Oper.wp execOp
  simp only [ho, Sem.run_bind, Sem.run_pure, Result.andThen_ok, hx, hl]
  exact hK _ _ h
theorem wpList_stR {w : World} {ops : Array Oper} {rest : List Oper} {o : Oper} {a : Act} {Q : Exit → Act → World → Prop} (hgd : o.guard = none) (ty : TypeId) (p x : Operand) (ho : o.op = .store ty p x) (b : Nat) (hp : a.eval p = .pointer (some ⟨b, 0, none⟩)) (A A0 : Array Value) (hx : a.eval x = .agg A) (t : TypeId) (hO : w.heap[b]? = some (.cells A0 t)) (hi : (Tryd.prog.info? ty).map (·.size) = some A.size) (hs : A0.size = A.size) (h1 : A.all (·.oneCell') = true)
    (h : wpList Tryd.prog ops Q rest (a.put o.dst undef) (w.setRow b A)) : wpList Tryd.prog ops Q (o :: rest) a w :=
  wpList_plain hgd fun _ hK => wp_store_row ty p x ho b A hp hx t A0 hO hi hs h1 (hK _ _ h)
theorem wpList_blR {w : World} {ops : Array Oper} {rest : List Oper} {o : Oper} {a : Act} {Q : Exit → Act → World → Prop} (hgd : o.guard = none) (ty : TypeId) (parts : Array (Nat × Operand)) (ho : o.op = .build ty parts) (A : Array Value) (hb : Tryd.prog.built ty (parts.map fun (i, x) => (i, a.eval x)).toList = some A)
    (h : wpList Tryd.prog ops Q rest (a.put o.dst (.agg A)) w) : wpList Tryd.prog ops Q (o :: rest) a w := by
  refine wpList_plain hgd fun K hK => ?_
  unfold Oper.wp execOp
  simp only [ho, Sem.run_bind, Sem.run_pure]
  have := run_build w ty _ A hb
  rw [this]
  exact hK _ _ h
theorem res_row1 {fn : Func} {p : Tmp} {ty : TypeId} (h : fn.results = #[.cell p ty]) (tmps : Array Value) (A : Array Value) (w : World) (b : Nat) (ht : tmps.getD p undef = .pointer (some ⟨b, 0, none⟩)) (t : TypeId) (hO : w.heap[b]? = some (.cells A t)) {fs} (hu : Tryd.prog.underlying ty = some (.struct fs)) (hi : (Tryd.prog.info? ty).map (·.size) = some A.size) : (results fn tmps).run Tryd.prog w = .ok (.agg A) w := by
  have hl : (loadVar ty ⟨b, 0, none⟩).run Tryd.prog w = .ok (.agg A) w := run_loadVar_row _ _ t ty A (0, 0) _ hO hu rfl hi
  have ht' : tmps[p]?.getD undef = .pointer (some ⟨b, 0, none⟩) := by simpa using ht
  unfold results
  rw [h]
  simp [ht', asAddr, hl]
theorem res_row2 {fn : Func} {p q : Tmp} {ty : TypeId} (h : fn.results = #[.cell p ty, .tmp q]) (tmps : Array Value) (A : Array Value) (w : World) (b : Nat) (ht : tmps.getD p undef = .pointer (some ⟨b, 0, none⟩)) (v : Value) (hv : tmps.getD q undef = v) (t : TypeId) (hO : w.heap[b]? = some (.cells A t)) {fs} (hu : Tryd.prog.underlying ty = some (.struct fs)) (hi : (Tryd.prog.info? ty).map (·.size) = some A.size) : (results fn tmps).run Tryd.prog w = .ok (.tuple #[.agg A, v]) w := by
  have hl : (loadVar ty ⟨b, 0, none⟩).run Tryd.prog w = .ok (.agg A) w := run_loadVar_row _ _ t ty A (0, 0) _ hO hu rfl hi
  have ht' : tmps[p]?.getD undef = .pointer (some ⟨b, 0, none⟩) := by simpa using ht
  have hv' : tmps[q]?.getD undef = v := by simpa using hv
  unfold results
  rw [h]
  simp [ht', hv', asAddr, hl]
theorem cell_row {w : World} {b : Nat} {A : Array Value} {t : TypeId} (h : w.heap[b]? = some (.cells A t)) (i : Nat) : w.cell? ⟨b, i, none⟩ = A[i]? := by
  unfold World.cell?; rw [h]; rfl
theorem fz_row {w : World} {b : Nat} {A : Array Value} {t : TypeId} (h : w.heap[b]? = some (.cells A t)) (i : Nat) : w.frozen? ⟨b, i, none⟩ = false := by
  unfold World.frozen?; rw [h]; simp
/-- a message -/
structure Mg where
  kind : Int
  fr : Int
  td : Int
  id : Int
  ep : Int
  sq : Int
  ver : Int
  prev : Int
  code : Int
  key : ByteArray
  val : ByteArray
def mgV (m : Mg) : Array Value := #[.int .i64 m.kind, .int .i64 m.fr, .int .i64 m.td, .int .i64 m.id, .int .i64 m.ep, .int .i64 m.sq, .int .i64 m.ver, .int .i64 m.prev, .int .i64 m.code, .string m.key, .string m.val]
def mg0 : Mg := ⟨0, 0, 0, 0, 0, 0, 0, 0, 0, ⟨#[]⟩, ⟨#[]⟩⟩
theorem mg_info : (Tryd.prog.info? 36).map (·.size) = some 11 := by kernel_rfl
theorem mg_infos : (Tryd.prog.info? 36).map (fun i => (i.zero, i.size, i.bytes)) = some (some (.agg (mgV mg0)), 11, 104) := by kernel_rfl
theorem mg_one (m : Mg) : (mgV m).all (·.oneCell') = true := by simp [mgV, Value.oneCell']
def MgAt (w : World) (b : Nat) (m : Mg) : Prop := w.heap[b]? = some (.cells (mgV m) 36)
theorem MgAt.cells {w : World} {Q : Nat} {m : Mg} (h : MgAt w Q m) : w.cell? ⟨Q, 0, none⟩ = some (.int .i64 m.kind) ∧ w.cell? ⟨Q, 1, none⟩ = some (.int .i64 m.fr) ∧ w.cell? ⟨Q, 2, none⟩ = some (.int .i64 m.td) ∧ w.cell? ⟨Q, 3, none⟩ = some (.int .i64 m.id) ∧ w.cell? ⟨Q, 4, none⟩ = some (.int .i64 m.ep) ∧ w.cell? ⟨Q, 5, none⟩ = some (.int .i64 m.sq) ∧ w.cell? ⟨Q, 6, none⟩ = some (.int .i64 m.ver) ∧ w.cell? ⟨Q, 7, none⟩ = some (.int .i64 m.prev) ∧ w.cell? ⟨Q, 8, none⟩ = some (.int .i64 m.code) ∧ w.cell? ⟨Q, 9, none⟩ = some (.string m.key) ∧ w.cell? ⟨Q, 10, none⟩ = some (.string m.val) := by
  unfold MgAt at h
  simp only [cell_row h]
  exact ⟨rfl, rfl, rfl, rfl, rfl, rfl, rfl, rfl, rfl, rfl, rfl⟩
theorem MgAt.keep {w w' : World} {b : Nat} {m : Mg} {S : Nat → Prop} (h : MgAt w b m) (hk : Kp w w' S) (hs : ¬ S b) : MgAt w' b m := (hk.block b (blk_lt h) hs).trans h
theorem MgAt.new (w : World) (m : Mg) : MgAt (w.alloc (.cells (mgV m) 36)) w.heap.size m := heap_last _ _
theorem wpList_ldM {w : World} {ops : Array Oper} {rest : List Oper} {o : Oper} {a : Act} {Q : Exit → Act → World → Prop} (hgd : o.guard = none) (x : Operand) (ho : o.op = .load 36 x) (m : Mg) (b : Nat) (hx : a.eval x = .pointer (some ⟨b, 0, none⟩)) (hO : MgAt w b m)
    (h : wpList Tryd.prog ops Q rest (a.put o.dst (.agg (mgV m))) w) : wpList Tryd.prog ops Q (o :: rest) a w :=
  wpList_ldR hgd _ x ho b hx _ _ hO Tryd.underlying36 mg_info h
/-- messages, as cells -/
def mgs (l : List Mg) : List Value := l.flatMap fun m => (mgV m).toList
theorem mgs_append (a b : List Mg) : mgs (a ++ b) = mgs a ++ mgs b := List.flatMap_append
theorem mgs_one (m : Mg) : mgs [m] = (mgV m).toList := by unfold mgs; rw [List.flatMap_cons, List.flatMap_nil, List.append_nil]
theorem mgs_len (L : List Mg) : (mgs L).length = L.length * 11 := by
  induction L with
  | nil => rfl
  | cons a r ih =>
    unfold mgs at *
    rw [List.flatMap_cons, List.length_append, ih]
    simp only [List.length_cons, mgV, List.length_nil]
    omega
theorem mgs_oneCell (L : List Mg) : ∀ u ∈ mgs L, u.oneCell' = true := by
  intro u hu
  unfold mgs at hu
  obtain ⟨m, _, hm⟩ := List.mem_flatMap.1 hu
  have := Array.all_eq_true_iff_forall_mem.1 (mg_one m) u (by simpa using hm)
  exact this
theorem mgs_at (L : List Mg) (q : Nat) (h : q < L.length) (j : Nat) (hj : j < 11) : (mgs L)[q * 11 + j]? = (mgV L[q])[j]? := by
  induction L generalizing q with
  | nil => simp at h
  | cons a r ih =>
    cases q with
    | zero =>
      unfold mgs
      rw [List.flatMap_cons, Nat.zero_mul, Nat.zero_add, List.getElem?_append_left (by simpa [mgV] using hj)]
      simp
    | succ q =>
      have h' : q < r.length := by simpa using h
      have := ih q h'
      unfold mgs at *
      rw [List.flatMap_cons, show (q + 1) * 11 + j = (mgV a).toList.length + (q * 11 + j) by simp [mgV]; omega, List.getElem?_append_right (by omega), Nat.add_sub_cancel_left]
      exact this
theorem fill_mg (m : Mg) : Instr.fill (fun i => some (i * 11, 11)) ((Array.range (1 * 11)).map ((Value.agg (mgV mg0)).cells[· % (Value.agg (mgV mg0)).cells.size]!)) [(0, .agg (mgV m))] = some (mgV m) := by kernel_rfl
theorem mg_parts {t : TypeId} {z : Value} {k by' : Nat} (h : (Tryd.prog.info? t).map (fun i => (i.zero, i.size, i.bytes)) = some (some z, k, by')) : ∃ i0, Tryd.prog.info? t = some i0 ∧ i0.zero = some z ∧ i0.size = k ∧ i0.bytes = by' := by
  cases hq : Tryd.prog.info? t with
  | none => simp [hq] at h
  | some i => simp [hq] at h; exact ⟨i, rfl, h.1, h.2.1, h.2.2⟩
theorem wp_bsM {w : World} {o : Oper} {a : Act} {K : Act → World → Prop} {Q : Exit → Act → World → Prop} (x : Operand) (ho : o.op = .buildSlice 29 1 #[(0, x)]) (m : Mg) (hx : a.eval x = .agg (mgV m))
    (h : K (a.put o.dst (.slice (some ⟨w.heap.size, 0, none⟩) 1 1)) (w.alloc (.cells (mgV m) 36))) : o.wp Tryd.prog a w K Q := by
  obtain ⟨i0, hi, hz0, hz1, hz2⟩ := mg_parts mg_infos
  refine wp_buildSlice 29 36 1 _ ho (mgV m) i0 _ Tryd.underlying29 hi hz0 (by rw [hz1]; decide) (by rw [hz1]; decide) ?_ h
  rw [hz1]
  simp only [List.map_toArray, List.map_cons, List.map_nil, hx]
  exact fill_mg m
theorem wpList_bsM {w : World} {ops : Array Oper} {rest : List Oper} {o : Oper} {a : Act} {Q : Exit → Act → World → Prop} (hgd : o.guard = none) (x : Operand) (ho : o.op = .buildSlice 29 1 #[(0, x)]) (m : Mg) (hx : a.eval x = .agg (mgV m))
    (h : wpList Tryd.prog ops Q rest (a.put o.dst (.slice (some ⟨w.heap.size, 0, none⟩) 1 1)) (w.alloc (.cells (mgV m) 36))) : wpList Tryd.prog ops Q (o :: rest) a w :=
  wpList_plain hgd fun _ hK => wp_bsM x ho m hx (hK _ _ h)
theorem mg_room {k : Nat} (h : k ≤ 1000000000000) : k + 1 ≤ maxLen ∧ (k + 1) * 104 ≤ 140737488355328 := by unfold maxLen; omega
theorem own_sl {w : World} {base e sz n : Nat} {v : Value} {xs : List Value} (h : w.ownsRow base e sz v n xs) : ∃ ba cap, v = .slice ba n cap := by
  rcases h.2 with ⟨hv, hz⟩ | ⟨g, cap, cur, hv, _⟩
  · exact ⟨none, 0, by rw [hv, hz]⟩
  · exact ⟨_, _, hv⟩
theorem own_g {w : World} {base e sz n : Nat} {v : Value} {xs : List Value} (h : w.ownsRow base e sz v n xs) (hn : 0 < n) : ∃ g cap, v = .slice (some ⟨g, 0, none⟩) n cap := by
  rcases h.2 with ⟨hv, hz⟩ | ⟨g, cap, cur, hv, _⟩
  · omega
  · exact ⟨_, _, hv⟩
theorem own_kp {w w' : World} {S : Nat → Prop} {base e sz n : Nat} {v : Value} {xs : List Value} (h : w.ownsRow base e sz v n xs) (hk : Kp w w' S) (hne : ∀ k, v.ownBlock = some k → ¬ S k) : w'.ownsRow base e sz v n xs := by
  refine ⟨h.1, ?_⟩
  rcases h.2 with ⟨hv, hz⟩ | ⟨g, cap, cur, rfl, h1, h2, h3⟩
  · exact .inl ⟨hv, hz⟩
  · exact .inr ⟨g, cap, cur, rfl, h1, (hk.block g (blk_lt h2) (hne g rfl)).trans h2, h3⟩
theorem wTk {P : Program} {md : Region.Mode} {ops : Array Oper} {Q : Exit → Act → World → Prop} {S : World → Prop} {i : Nat} {oi : Oper} {v : Value} {fuel : Nat} {listed : Array Bool} {a : Act} {w : World} (hi : ops[i]? = some oi) (hv : ∀ w', S w' → (execOp a.eval oi).run P w' = .ok (.value v) w') (h : wpAnyH P md ops Q S fuel (listed.setIfInBounds i true) (a.put oi.dst v) w) (hs : Region.noSelect ops = true := by kernel_rfl) (hf : Region.free md ops listed i = true := by kernel_rfl) (hr : (Region.ready md ops listed).contains i = true := by kernel_rfl) (hg : Region.wanted oi (yielded ops a.tmps) = true := by kernel_rfl) (hQ : ∀ c a w, Q (.panic c) (a.put oi.dst v) w → Q (.panic c) a w := by exact fun _ _ _ h => h) (hS : S w := by assumption) : wpAnyH P md ops Q S (fuel + 1) listed a w :=
  wpAnyH_take hi hs hf hr hQ (Or.inl ⟨hg, hv⟩) hS h
theorem wTu {P : Program} {md : Region.Mode} {ops : Array Oper} {Q : Exit → Act → World → Prop} {S : World → Prop} {i : Nat} {oi : Oper} {fuel : Nat} {listed : Array Bool} {a : Act} {w : World} (hi : ops[i]? = some oi) (h : wpAnyH P md ops Q S fuel (listed.setIfInBounds i true) (a.put oi.dst undef) w) (hs : Region.noSelect ops = true := by kernel_rfl) (hf : Region.free md ops listed i = true := by kernel_rfl) (hr : (Region.ready md ops listed).contains i = true := by kernel_rfl) (hg : Region.wanted oi (yielded ops a.tmps) = false := by kernel_rfl) (hQ : ∀ c a w, Q (.panic c) (a.put oi.dst undef) w → Q (.panic c) a w := by exact fun _ _ _ h => h) (hS : S w := by assumption) : wpAnyH P md ops Q S (fuel + 1) listed a w :=
  wpAnyH_take hi hs hf hr hQ (Or.inr ⟨hg, rfl⟩) hS h
end Go.Proofs.YtpoegknmkbnjlaaDoor.Cn
namespace Go.Proofs.YtpoegknmkbnjlaaDoor.Cn
open Go.RowKit
/-- a pair -/
structure Pr where
  k : ByteArray
  v : ByteArray
/-- a report -/
structure Rp where
  jb : Int
  vr : Int
  ps : List Pr
  ms : List Int
def rp0 : Rp := ⟨0, 0, [], []⟩
/-- an exporter, as a value -/
structure Ex where
  gw : Int
  rows : List (List Int)
  now : Int
  told : Rp
  part : Nat
  left : Nat
  rd : List Pr
  wf : Int
  wj : Int
  wp : Int
  wv : Int
  wl : Int
  at_ : Int
  last : Rp
def rowAt (e : Ex) (p : Nat) : List Int := (e.rows[p]?).getD []
def ownr (e : Ex) : Int := ((rowAt e e.part)[e.left]?).getD 0
def askX (e : Ex) : Ex := { e with wf := ownr e, wj := e.told.jb, wp := (e.part : Int), wv := e.told.vr, wl := (e.rd.length : Int), at_ := e.now }
def askM (e : Ex) : Mg := ⟨15, 67, ownr e, e.told.jb, 0, (e.part : Int), e.told.vr, (e.rd.length : Int), 0, ⟨#[]⟩, ⟨#[]⟩⟩
def endX (e : Ex) : Ex := { e with told := rp0, part := 0, left := 0, rd := [], wf := 0, wj := 0, wp := 0, wv := 0, wl := 0, at_ := 0, last := e.told }
def setP (e : Ex) (p : Nat) : Ex := { e with part := p, left := 0, rd := [] }
def upX (e : Ex) (p : Nat) : Ex := if p = e.rows.length then endX e else askX (setP e p)
def upL (e : Ex) (p : Nat) : List Mg := if p = e.rows.length then [] else [askM (setP e p)]
def nxtX (e : Ex) : Ex := { e with left := e.left + 1 }
def missX (e : Ex) : Ex := { e with left := e.left + 1, told := { e.told with ms := e.told.ms ++ [(e.part : Int)] } }
def lvX (e : Ex) : Ex := if e.left + 1 < (rowAt e e.part).length then askX (nxtX e) else upX (missX e) (e.part + 1)
def lvL (e : Ex) : List Mg := if e.left + 1 < (rowAt e e.part).length then [askM (nxtX e)] else upL (missX e) (e.part + 1)
def doneX (e : Ex) : Ex := { e with told := { e.told with ps := e.told.ps ++ e.rd } }
def readX (e : Ex) (m : Mg) : Ex := { e with rd := e.rd ++ [⟨m.key, m.val⟩] }
def hearX (e : Ex) (m : Mg) : Ex := if m.code = 16 then upX (doneX e) (e.part + 1) else if m.code = 0 ∧ e.rd.length < 512 then askX (readX e m) else lvX e
def hearL (e : Ex) (m : Mg) : List Mg := if m.code = 16 then upL (doneX e) (e.part + 1) else if m.code = 0 ∧ e.rd.length < 512 then [askM (readX e m)] else lvL e
def busyB (e : Ex) : Bool := e.told.jb != 0
def isAns (e : Ex) (m : Mg) : Bool := busyB e && (m.kind == 16 && (m.fr == e.wf && m.id == e.wj && m.sq == e.wp && m.ver == e.wv && m.prev == e.wl))
def takeX (e : Ex) (m : Mg) : Ex := if isAns e m then hearX e m else e
def takeL (e : Ex) (m : Mg) : List Mg := if isAns e m then hearL e m else []
def nowX (e : Ex) : Ex := { e with now := e.now + 1 }
def dueB (e : Ex) : Bool := busyB e && (e.now - e.at_ == e.gw)
def tickX (e : Ex) : Ex := if dueB (nowX e) then lvX (nowX e) else nowX e
def tickL (e : Ex) : List Mg := if dueB (nowX e) then lvL (nowX e) else []
def verB (v : Int) : Bool := decide (1 ≤ v ∧ v ≤ 999999)
def jobX (e : Ex) (v : Int) : Ex := { e with told := ⟨e.last.jb + 1, v, [], []⟩, part := 0, left := 0, rd := [], wf := 0, wj := 0, wp := 0, wv := 0, wl := 0, at_ := 0 }
def begE (e : Ex) (v : Int) : Int := if busyB e then 150 else if verB v then 0 else 80
def begX (e : Ex) (v : Int) : Ex := if begE e v = 0 then upX (jobX e v) 0 else e
def begL (e : Ex) (v : Int) : List Mg := if begE e v = 0 then upL (jobX e v) 0 else []
/-- what a job that goes on keeps -/
structure Jok (e : Ex) (R : Nat) : Prop where
  pt : e.part < e.rows.length
  lf : e.left < R
  a1 : e.at_ ≤ e.now
  a2 : e.now - e.at_ < e.gw
  rl : e.rd.length ≤ 512
  pl : e.told.ps.length ≤ 512 * e.part
  ml : e.told.ms.length ≤ e.part
  w : e.wf = ownr e ∧ e.wj = e.told.jb ∧ e.wp = (e.part : Int) ∧ e.wv = e.told.vr ∧ e.wl = (e.rd.length : Int)
/-- what an exporter keeps; n: how many calls at most there were -/
structure Eok (e : Ex) (R n : Nat) : Prop where
  p1 : 1 ≤ e.rows.length ∧ e.rows.length ≤ 64
  rw_ : ∀ r ∈ e.rows, r.length = R
  r1 : 1 ≤ R ∧ R ≤ 16
  gw : 1 ≤ e.gw ∧ e.gw ≤ 1000000000
  nw : 0 ≤ e.now ∧ e.now ≤ (n : Int)
  lj : 0 ≤ e.last.jb ∧ e.last.jb ≤ (n : Int)
  ll : e.last.ps.length ≤ 32768 ∧ e.last.ms.length ≤ 64
  idle : busyB e = false → e.told.ps = [] ∧ e.told.ms = [] ∧ e.rd = []
  jn : busyB e = true → e.told.jb = e.last.jb + 1
  job : busyB e = true → Jok e R
theorem rowAt_len {e : Ex} {R n : Nat} (h : Eok e R n) {p : Nat} (hp : p < e.rows.length) : (rowAt e p).length = R := by
  unfold rowAt
  rw [List.getElem?_eq_getElem hp]
  exact h.rw_ _ (List.getElem_mem hp)
/-- a job in the midst of a call: all but the question -/
structure Mok (e : Ex) (R n : Nat) : Prop where
  p1 : 1 ≤ e.rows.length ∧ e.rows.length ≤ 64
  rw_ : ∀ r ∈ e.rows, r.length = R
  r1 : 1 ≤ R ∧ R ≤ 16
  gw : 1 ≤ e.gw ∧ e.gw ≤ 1000000000
  nw : 0 ≤ e.now ∧ e.now ≤ (n : Int)
  lj : 0 ≤ e.last.jb ∧ e.last.jb ≤ (n : Int)
  ll : e.last.ps.length ≤ 32768 ∧ e.last.ms.length ≤ 64
  jn : e.told.jb = e.last.jb + 1
theorem Eok.mok {e : Ex} {R n : Nat} (h : Eok e R n) (hb : busyB e = true) : Mok e R n := ⟨h.p1, h.rw_, h.r1, h.gw, h.nw, h.lj, h.ll, h.jn hb⟩
theorem busy_iff {e : Ex} : busyB e = true ↔ e.told.jb ≠ 0 := by unfold busyB; simp
theorem busy_no {e : Ex} : busyB e = false ↔ e.told.jb = 0 := by unfold busyB; simp
theorem askX_ok {e : Ex} {R n : Nat} (h : Mok e R n) (h1 : e.part < e.rows.length) (h2 : e.left < R) (h3 : e.rd.length ≤ 512) (h4 : e.told.ps.length ≤ 512 * e.part) (h5 : e.told.ms.length ≤ e.part) : Eok (askX e) R n :=
  ⟨h.p1, h.rw_, h.r1, h.gw, h.nw, h.lj, h.ll, fun hb => by
    rw [busy_no] at hb
    have : e.told.jb = 0 := hb
    have := h.jn
    have := h.lj
    omega, fun _ => h.jn, fun _ => ⟨h1, h2, Int.le_refl _, by show e.now - e.now < e.gw; have := h.gw; omega, h3, h4, h5, rfl, rfl, rfl, rfl, rfl⟩⟩
theorem endX_ok {e : Ex} {R n : Nat} (h : Mok e R n) (h4 : e.told.ps.length ≤ 32768) (h5 : e.told.ms.length ≤ 64) : Eok (endX e) R (n + 1) :=
  ⟨h.p1, h.rw_, h.r1, h.gw, by have := h.nw; show 0 ≤ e.now ∧ e.now ≤ _; omega, by have := h.jn; have := h.lj; show 0 ≤ e.told.jb ∧ e.told.jb ≤ _; omega, ⟨h4, h5⟩, fun _ => ⟨rfl, rfl, rfl⟩, fun hb => by simp [busyB, endX, rp0] at hb, fun hb => by simp [busyB, endX, rp0] at hb⟩
theorem Eok.more {e : Ex} {R n n' : Nat} (h : Eok e R n) (hn : n ≤ n') : Eok e R n' :=
  ⟨h.p1, h.rw_, h.r1, h.gw, by have := h.nw; omega, by have := h.lj; omega, h.ll, h.idle, h.jn, h.job⟩
theorem upX_ok {e : Ex} {R n p : Nat} (h : Mok e R n) (hp : p ≤ e.rows.length) (h4 : e.told.ps.length ≤ 512 * p) (h5 : e.told.ms.length ≤ p) : Eok (upX e p) R (n + 1) := by
  have p1 := h.p1
  unfold upX
  by_cases q : p = e.rows.length
  · rw [if_pos q]
    exact endX_ok h (by omega) (by omega)
  · rw [if_neg q]
    exact (askX_ok (e := setP e p) ⟨h.p1, h.rw_, h.r1, h.gw, h.nw, h.lj, h.ll, h.jn⟩ (by show p < e.rows.length; omega) (by show 0 < R; have := h.r1; omega) (by show 0 ≤ 512; omega) h4 h5).more (by omega)
theorem lvX_ok {e : Ex} {R n : Nat} (h : Mok e R n) (h1 : e.part < e.rows.length) (h3 : e.rd.length ≤ 512) (h4 : e.told.ps.length ≤ 512 * e.part) (h5 : e.told.ms.length ≤ e.part) : Eok (lvX e) R (n + 1) := by
  have hr : (rowAt e e.part).length = R := by
    unfold rowAt
    rw [List.getElem?_eq_getElem h1]
    exact h.rw_ _ (List.getElem_mem h1)
  unfold lvX
  rw [hr]
  by_cases q : e.left + 1 < R
  · rw [if_pos q]
    exact (askX_ok (e := nxtX e) ⟨h.p1, h.rw_, h.r1, h.gw, h.nw, h.lj, h.ll, h.jn⟩ h1 q h3 h4 h5).more (by omega)
  · rw [if_neg q]
    exact upX_ok (e := missX e) ⟨h.p1, h.rw_, h.r1, h.gw, h.nw, h.lj, h.ll, h.jn⟩ (by show _ ≤ e.rows.length; omega) (by show e.told.ps.length ≤ _; omega) (by show (e.told.ms ++ _).length ≤ _; simp; omega)
theorem hearX_ok {e : Ex} {R n : Nat} (h : Eok e R n) (hb : busyB e = true) (m : Mg) : Eok (hearX e m) R (n + 1) := by
  have j := h.job hb
  have k := h.mok hb
  have j1 := j.pt; have j2 := j.rl; have j3 := j.pl; have j4 := j.ml; have j5 := j.lf
  unfold hearX
  by_cases q : m.code = 16
  · rw [if_pos q]
    exact upX_ok (e := doneX e) ⟨k.p1, k.rw_, k.r1, k.gw, k.nw, k.lj, k.ll, k.jn⟩ (by show _ ≤ e.rows.length; omega) (by show (e.told.ps ++ e.rd).length ≤ _; simp; omega) (by show e.told.ms.length ≤ _; omega)
  · rw [if_neg q]
    by_cases q2 : m.code = 0 ∧ e.rd.length < 512
    · rw [if_pos q2]
      exact (askX_ok (e := readX e m) ⟨k.p1, k.rw_, k.r1, k.gw, k.nw, k.lj, k.ll, k.jn⟩ j1 j5 (by show (e.rd ++ _).length ≤ _; simp; omega) j3 j4).more (by omega)
    · rw [if_neg q2]
      exact lvX_ok k j1 j2 j3 j4
theorem takeX_ok {e : Ex} {R n : Nat} (h : Eok e R n) (m : Mg) : Eok (takeX e m) R (n + 1) := by
  unfold takeX
  by_cases q : isAns e m = true
  · rw [if_pos q]
    have hb : busyB e = true := by unfold isAns at q; simp at q; exact q.1
    exact hearX_ok h hb m
  · rw [if_neg q]
    exact h.more (by omega)
theorem tickX_ok {e : Ex} {R n : Nat} (h : Eok e R n) : Eok (tickX e) R (n + 2) := by
  have nw := h.nw
  have lj := h.lj
  have mk : busyB e = true → Mok (nowX e) R (n + 1) := fun hb => ⟨h.p1, h.rw_, h.r1, h.gw, by show 0 ≤ e.now + 1 ∧ e.now + 1 ≤ _; omega, by show 0 ≤ e.last.jb ∧ e.last.jb ≤ _; omega, h.ll, h.jn hb⟩
  unfold tickX
  by_cases q : dueB (nowX e) = true
  · rw [if_pos q]
    have hb : busyB e = true := by unfold dueB at q; rw [Bool.and_eq_true] at q; exact q.1
    have j := h.job hb
    exact lvX_ok (mk hb) j.pt j.rl j.pl j.ml
  · rw [if_neg q]
    refine ⟨h.p1, h.rw_, h.r1, h.gw, by show 0 ≤ e.now + 1 ∧ e.now + 1 ≤ _; omega, by show 0 ≤ e.last.jb ∧ e.last.jb ≤ _; omega, h.ll, h.idle, h.jn, fun hb => ?_⟩
    have hb' : busyB e = true := hb
    have j := h.job hb'
    have d : ¬ (e.now + 1 - e.at_ = e.gw) := fun x => q (by unfold dueB; rw [Bool.and_eq_true]; exact ⟨hb, by simp [nowX]; exact x⟩)
    have a1 := j.a1; have a2 := j.a2
    exact ⟨j.pt, j.lf, by show e.at_ ≤ e.now + 1; omega, by show e.now + 1 - e.at_ < e.gw; omega, j.rl, j.pl, j.ml, j.w⟩
theorem begX_ok {e : Ex} {R n : Nat} (h : Eok e R n) (v : Int) : Eok (begX e v) R (n + 1) := by
  unfold begX
  by_cases q : begE e v = 0
  · rw [if_pos q]
    exact upX_ok (e := jobX e v) ⟨h.p1, h.rw_, h.r1, h.gw, h.nw, h.lj, h.ll, rfl⟩ (Nat.zero_le _) (Nat.zero_le _) (Nat.zero_le _)
  · rw [if_neg q]
    exact h.more (by omega)
def rng (n : Nat) : List Int := (List.range n).map fun k : Nat => (k : Int)
end Go.Proofs.YtpoegknmkbnjlaaDoor.Cn
namespace Go.Proofs.YtpoegknmkbnjlaaDoor.Cn
open Go.RowKit
/-- the document's exporter, as a value -/
structure Rx where
  rows : List (List Int)
  wt : Int
  now : Int
  job : Int
  ver : Int
  on : Bool
  en : Bool
  part : Nat
  left : Nat
  sent : Int
  rd : List Pr
  of_ : List Int
  lost : List Int
  last : Rp
def cntR (r : Rx) : Nat := r.of_.countP (fun k => k == (r.part : Int))
def rowR (r : Rx) : List Int := (r.rows[r.part]?).getD []
def ownR (r : Rx) : Int := ((rowR r)[r.left]?).getD 0
def sentR (r : Rx) : Rx := { r with sent := r.now }
def qR (r : Rx) : Mg := ⟨15, 67, ownR r, r.job, 0, (r.part : Int), r.ver, (cntR r : Int), 0, ⟨#[]⟩, ⟨#[]⟩⟩
def nextR (r : Rx) : Rx := { r with part := r.part + 1, left := 0 }
def endR (r : Rx) : Rx := { r with on := false, en := true, last := ⟨r.job, r.ver, r.rd, r.lost⟩ }
def goR (r : Rx) : Rx := if r.part + 1 < r.rows.length then sentR (nextR r) else endR (nextR r)
def goRL (r : Rx) : List Mg := if r.part + 1 < r.rows.length then [qR (nextR r)] else []
def keepP : List Pr → List Int → Int → List Pr
  | p :: ps, k :: ks, x => if k = x then keepP ps ks x else p :: keepP ps ks x
  | _, _, _ => []
def keepO (l : List Int) (x : Int) : List Int := l.filter (fun k => k != x)
def lostR (r : Rx) : Rx := { r with left := r.left + 1, rd := keepP r.rd r.of_ (r.part : Int), of_ := keepO r.of_ (r.part : Int), lost := r.lost ++ [(r.part : Int)] }
def lftR (r : Rx) : Rx := { r with left := r.left + 1 }
def leaveR (r : Rx) : Rx := if r.left + 1 < (rowR r).length then sentR (lftR r) else goR (lostR r)
def leaveRL (r : Rx) : List Mg := if r.left + 1 < (rowR r).length then [qR (lftR r)] else goRL (lostR r)
def startR (r : Rx) (v : Int) : Rx := { r with on := true, job := r.job + 1, ver := v, part := 0, left := 0, rd := [], of_ := [], lost := [] }
def begRE (r : Rx) (v : Int) : Int := if r.on then 150 else if verB v then 0 else 80
def begR (r : Rx) (v : Int) : Rx := if begRE r v = 0 then sentR (startR r v) else r
def begRL (r : Rx) (v : Int) : List Mg := if begRE r v = 0 then [qR (startR r v)] else []
def isR (r : Rx) (m : Mg) : Bool := r.on && (m.kind == 16 && (m.fr == ownR r && m.id == r.job && m.sq == (r.part : Int) && m.ver == r.ver && m.prev == (cntR r : Int)))
def readR (r : Rx) (m : Mg) : Rx := { r with rd := r.rd ++ [⟨m.key, m.val⟩], of_ := r.of_ ++ [(r.part : Int)] }
def hearR (r : Rx) (m : Mg) : Rx := if m.code = 16 then goR r else if m.code = 0 ∧ cntR r < 512 then sentR (readR r m) else leaveR r
def hearRL (r : Rx) (m : Mg) : List Mg := if m.code = 16 then goRL r else if m.code = 0 ∧ cntR r < 512 then [qR (readR r m)] else leaveRL r
def takeR (r : Rx) (m : Mg) : Rx := if isR r m then hearR r m else r
def takeRL (r : Rx) (m : Mg) : List Mg := if isR r m then hearRL r m else []
def nowR (r : Rx) : Rx := { r with now := r.now + 1 }
def dueR (r : Rx) : Bool := r.on && (r.sent == r.now - r.wt)
def tickR (r : Rx) : Rx := if dueR (nowR r) then leaveR (nowR r) else nowR r
def tickRL (r : Rx) : List Mg := if dueR (nowR r) then leaveRL (nowR r) else []
/-- both stand alike -/
structure Go (e : Ex) (r : Rx) : Prop where
  ver : r.ver = e.told.vr
  part : r.part = e.part
  left : r.left = e.left
  rd : r.rd = e.told.ps ++ e.rd
  of_ : ∃ o : List Int, r.of_ = o ++ List.replicate e.rd.length (e.part : Int) ∧ o.length = e.told.ps.length ∧ ∀ k ∈ o, k < (e.part : Int)
  lost : r.lost = e.told.ms
structure Rl0 (e : Ex) (r : Rx) : Prop where
  rows : r.rows = e.rows
  wt : r.wt = e.gw
  now : r.now = e.now
structure Rel (e : Ex) (r : Rx) : Prop where
  b : Rl0 e r
  on : r.on = busyB e
  en : r.en = (e.last.jb != 0)
  job : r.job = if busyB e then e.told.jb else e.last.jb
  last : r.last = e.last
  go : busyB e = true → Go e r
  sent : busyB e = true → r.sent = e.at_
theorem cnt_rep (o : List Int) (n : Nat) (p : Int) (h : ∀ k ∈ o, k < p) : (o ++ List.replicate n p).countP (fun k => k == p) = n := by
  rw [List.countP_append, List.countP_eq_zero.2 (fun k hk => by
    have := h k hk
    simp
    omega), Nat.zero_add, List.countP_replicate]
  simp
theorem Go.cnt {e : Ex} {r : Rx} (h : Go e r) : cntR r = e.rd.length := by
  obtain ⟨o, h1, h2, h3⟩ := h.of_
  unfold cntR
  rw [h1, h.part]
  exact cnt_rep o _ _ h3
theorem keepP_app : ∀ (a : List Pr) (o : List Int) (b : List Pr) (x : Int), o.length = a.length → (∀ k ∈ o, k < x) → keepP (a ++ b) (o ++ List.replicate b.length x) x = a
  | [], [], [], _, _, _ => rfl
  | [], [], p :: b, x, _, _ => by
    show keepP (p :: b) (x :: List.replicate b.length x) x = []
    unfold keepP
    rw [if_pos rfl]
    exact keepP_app [] [] b x rfl (fun k hk => absurd hk (by simp))
  | p :: a, k :: o, b, x, hl, h => by
    show keepP (p :: (a ++ b)) (k :: (o ++ List.replicate b.length x)) x = p :: a
    unfold keepP
    have := h k (by simp)
    rw [if_neg (by omega), keepP_app a o b x (by simpa using hl) (fun k hk => h k (by simp [hk]))]
  | p :: a, [], b, x, hl, _ => by simp at hl
  | [], k :: o, b, x, hl, _ => by simp at hl
theorem keepO_app (o : List Int) (n : Nat) (x : Int) (h : ∀ k ∈ o, k < x) : keepO (o ++ List.replicate n x) x = o := by
  unfold keepO
  rw [List.filter_append, List.filter_eq_self.2 (fun k hk => by
    have := h k hk
    simp
    omega), List.filter_eq_nil_iff.2 (fun k hk => by
    rw [(List.mem_replicate.1 hk).2]
    simp), List.append_nil]
theorem Rl0.row {e : Ex} {r : Rx} (h : Rl0 e r) (g : Go e r) : rowR r = rowAt e e.part := by
  unfold rowR rowAt
  rw [h.rows, g.part]
theorem Rl0.own {e : Ex} {r : Rx} (h : Rl0 e r) (g : Go e r) : ownR r = ownr e := by
  unfold ownR ownr
  rw [h.row g, g.left]
/-- the question that goes out -/
theorem q_same {e : Ex} {r : Rx} (h : Rl0 e r) (g : Go e r) (hj : r.job = e.told.jb) : qR r = askM e := by
  unfold qR askM
  rw [h.own g, hj, g.part, g.ver, g.cnt]
/-- a question is sent: both go on -/
theorem rel_ask {e : Ex} {r : Rx} (h : Rl0 e r) (g : Go e r) (hj : r.job = e.told.jb) (hb : e.told.jb ≠ 0) (ho : r.on = true) (hen : r.en = (e.last.jb != 0)) (hl : r.last = e.last) : Rel (askX e) (sentR r) := by
  have b : busyB (askX e) = true := busy_iff.2 hb
  exact ⟨⟨h.rows, h.wt, h.now⟩, by rw [b]; exact ho, hen, by rw [b]; exact hj, hl, fun _ => ⟨g.ver, g.part, g.left, g.rd, g.of_, g.lost⟩, fun _ => h.now⟩
/-- a partition is done -/
theorem rel_up {e : Ex} {r : Rx} {p : Nat} (h : Rl0 e r) (hp : p < e.rows.length) (hj : r.job = e.told.jb) (hb : e.told.jb ≠ 0) (ho : r.on = true) (hen : r.en = (e.last.jb != 0)) (hl : r.last = e.last) (hpt : r.part = p) (hv : r.ver = e.told.vr) (hrd : r.rd = e.told.ps) (hof : r.of_.length = e.told.ps.length ∧ ∀ k ∈ r.of_, k < ((p + 1 : Nat) : Int)) (hlo : r.lost = e.told.ms) : Rel (upX e (p + 1)) (goR r) ∧ upL e (p + 1) = goRL r := by
  have hr : r.rows.length = e.rows.length := by rw [h.rows]
  by_cases q : p + 1 = e.rows.length
  · have e1 : upX e (p + 1) = endX e := if_pos q
    have e2 : upL e (p + 1) = [] := if_pos q
    have e3 : goR r = endR (nextR r) := if_neg (by rw [hr, hpt]; omega)
    have e4 : goRL r = [] := if_neg (by rw [hr, hpt]; omega)
    rw [e1, e2, e3, e4]
    have b : busyB (endX e) = false := by simp [busyB, endX, rp0]
    refine ⟨⟨⟨h.rows, h.wt, h.now⟩, by rw [b]; rfl, ?_, by rw [b]; exact hj, ?_, fun z => by rw [b] at z; simp at z, fun z => by rw [b] at z; simp at z⟩, rfl⟩
    · show true = (e.told.jb != 0)
      simp [hb]
    · show (⟨r.job, r.ver, r.rd, r.lost⟩ : Rp) = e.told
      rw [hj, hv, hrd, hlo]
  · have e1 : upX e (p + 1) = askX (setP e (p + 1)) := if_neg q
    have e2 : upL e (p + 1) = [askM (setP e (p + 1))] := if_neg q
    have e3 : goR r = sentR (nextR r) := if_pos (by rw [hr, hpt]; omega)
    have e4 : goRL r = [qR (nextR r)] := if_pos (by rw [hr, hpt]; omega)
    rw [e1, e2, e3, e4]
    have g : Go (setP e (p + 1)) (nextR r) := ⟨hv, by show r.part + 1 = p + 1; rw [hpt], rfl, by show r.rd = e.told.ps ++ []; rw [hrd, List.append_nil], ⟨r.of_, by show r.of_ = r.of_ ++ []; simp, hof.1, hof.2⟩, hlo⟩
    have h' : Rl0 (setP e (p + 1)) (nextR r) := ⟨h.rows, h.wt, h.now⟩
    exact ⟨rel_ask h' g hj hb ho hen hl, by rw [q_same h' g hj]⟩
theorem rel_lv {e : Ex} {r : Rx} (h : Rl0 e r) (g : Go e r) (hp : e.part < e.rows.length) (hj : r.job = e.told.jb) (hb : e.told.jb ≠ 0) (ho : r.on = true) (hen : r.en = (e.last.jb != 0)) (hl : r.last = e.last) : Rel (lvX e) (leaveR r) ∧ lvL e = leaveRL r := by
  unfold lvX lvL leaveR leaveRL
  rw [h.row g, g.left]
  by_cases q : e.left + 1 < (rowAt e e.part).length
  · rw [if_pos q, if_pos q, if_pos q, if_pos q]
    have h' : Rl0 (nxtX e) (lftR r) := ⟨h.rows, h.wt, h.now⟩
    have g' : Go (nxtX e) (lftR r) := ⟨g.ver, g.part, by show r.left + 1 = e.left + 1; rw [g.left], g.rd, g.of_, g.lost⟩
    exact ⟨rel_ask h' g' hj hb ho hen hl, by rw [q_same h' g' hj]⟩
  · rw [if_neg q, if_neg q, if_neg q, if_neg q]
    obtain ⟨o, h1, h2, h3⟩ := g.of_
    have k1 : keepP r.rd r.of_ (r.part : Int) = e.told.ps := by rw [g.rd, h1, g.part]; exact keepP_app _ _ _ _ h2 h3
    have k2 : keepO r.of_ (r.part : Int) = o := by rw [h1, g.part]; exact keepO_app _ _ _ h3
    have z := rel_up (e := missX e) (r := lostR r) (p := e.part) ⟨h.rows, h.wt, h.now⟩ hp hj hb ho hen hl g.part g.ver (by show keepP r.rd r.of_ _ = _; exact k1) ⟨by show (keepO r.of_ _).length = _; rw [k2]; exact h2, by
      show ∀ k ∈ keepO r.of_ (r.part : Int), _
      rw [k2]
      intro k hk
      have := h3 k hk
      omega⟩ (by show r.lost ++ [(r.part : Int)] = e.told.ms ++ [(e.part : Int)]; rw [g.lost, g.part])
    exact z
theorem rel_is {e : Ex} {r : Rx} {R n : Nat} (ok : Eok e R n) (h : Rel e r) (m : Mg) : isR r m = isAns e m := by
  unfold isR isAns
  rw [h.on]
  cases hb : busyB e with
  | false => rfl
  | true =>
    have g := h.go hb
    obtain ⟨w1, w2, w3, w4, w5⟩ := (ok.job hb).w
    have hj := h.job
    rw [hb, if_pos rfl] at hj
    rw [h.b.own g, hj, g.part, g.ver, g.cnt, w1, w2, w3, w4, w5]
theorem rel_take {e : Ex} {r : Rx} {R n : Nat} (ok : Eok e R n) (h : Rel e r) (m : Mg) : Rel (takeX e m) (takeR r m) ∧ takeL e m = takeRL r m := by
  unfold takeX takeL takeR takeRL
  rw [rel_is ok h m]
  cases hi : isAns e m with
  | false => exact ⟨h, rfl⟩
  | true =>
    have hb : busyB e = true := by unfold isAns at hi; rw [Bool.and_eq_true] at hi; exact hi.1
    have g := h.go hb
    have j := ok.job hb
    have j1 := j.pt
    have hj := h.job
    rw [hb, if_pos rfl] at hj
    have hb0 := busy_iff.1 hb
    have ho : r.on = true := by rw [h.on]; exact hb
    rw [if_pos rfl, if_pos rfl, if_pos rfl, if_pos rfl]
    unfold hearX hearL hearR hearRL
    rw [g.cnt]
    by_cases q : m.code = 16
    · rw [if_pos q, if_pos q, if_pos q, if_pos q]
      obtain ⟨o, h1, h2, h3⟩ := g.of_
      exact rel_up (e := doneX e) (p := e.part) ⟨h.b.rows, h.b.wt, h.b.now⟩ j1 hj hb0 ho h.en h.last g.part g.ver g.rd ⟨by
        show r.of_.length = (e.told.ps ++ e.rd).length
        rw [h1, List.length_append, List.length_append, h2, List.length_replicate], by
        rw [h1]
        intro k hk
        rcases List.mem_append.1 hk with z | z
        · have := h3 k z
          omega
        · rw [(List.mem_replicate.1 z).2]
          omega⟩ g.lost
    · rw [if_neg q, if_neg q, if_neg q, if_neg q]
      by_cases q2 : m.code = 0 ∧ e.rd.length < 512
      · rw [if_pos q2, if_pos q2, if_pos q2, if_pos q2]
        obtain ⟨o, h1, h2, h3⟩ := g.of_
        have h' : Rl0 (readX e m) (readR r m) := ⟨h.b.rows, h.b.wt, h.b.now⟩
        have g' : Go (readX e m) (readR r m) := ⟨g.ver, g.part, g.left, by show r.rd ++ [_] = e.told.ps ++ (e.rd ++ [_]); rw [g.rd, List.append_assoc], ⟨o, by
          show r.of_ ++ [(r.part : Int)] = o ++ List.replicate (e.rd ++ [_]).length (e.part : Int)
          rw [h1, g.part, List.length_append, List.append_assoc]
          congr 1
          exact List.replicate_succ'.symm, h2, h3⟩, g.lost⟩
        exact ⟨rel_ask h' g' hj hb0 ho h.en h.last, by rw [q_same h' g' hj]⟩
      · rw [if_neg q2, if_neg q2, if_neg q2, if_neg q2]
        exact rel_lv h.b g j1 hj hb0 ho h.en h.last
theorem rel_now {e : Ex} {r : Rx} (h : Rel e r) : Rel (nowX e) (nowR r) :=
  ⟨⟨h.b.rows, h.b.wt, by show r.now + 1 = e.now + 1; rw [h.b.now]⟩, h.on, h.en, h.job, h.last, fun hb => by
    have g := h.go hb
    exact ⟨g.ver, g.part, g.left, g.rd, g.of_, g.lost⟩, fun hb => h.sent hb⟩
theorem rel_tick {e : Ex} {r : Rx} {R n : Nat} (ok : Eok e R n) (h : Rel e r) : Rel (tickX e) (tickR r) ∧ tickL e = tickRL r := by
  have h1 := rel_now h
  have hd : dueR (nowR r) = dueB (nowX e) := by
    unfold dueR dueB
    rw [h1.on]
    cases hb : busyB (nowX e) with
    | false => rfl
    | true =>
      rw [h1.sent hb, h1.b.now, h1.b.wt]
      rw [Bool.true_and, Bool.true_and]
      rw [Bool.eq_iff_iff, beq_iff_eq, beq_iff_eq]
      omega
  unfold tickX tickL tickR tickRL
  rw [hd]
  cases hu : dueB (nowX e) with
  | false => exact ⟨h1, rfl⟩
  | true =>
    have hb : busyB (nowX e) = true := by unfold dueB at hu; rw [Bool.and_eq_true] at hu; exact hu.1
    have hb' : busyB e = true := hb
    have hj := h1.job
    rw [hb, if_pos rfl] at hj
    exact rel_lv h1.b (h1.go hb) (ok.job hb').pt hj (busy_iff.1 hb) (by rw [h1.on]; exact hb) h1.en h1.last
theorem rel_beg {e : Ex} {r : Rx} {R n : Nat} (ok : Eok e R n) (h : Rel e r) (v : Int) : Rel (begX e v) (begR r v) ∧ begL e v = begRL r v ∧ begE e v = begRE r v := by
  have he : begE e v = begRE r v := by unfold begE begRE; rw [h.on]
  unfold begX begL begR begRL
  rw [← he]
  by_cases q : begE e v = 0
  · rw [if_pos q, if_pos q, if_pos q, if_pos q]
    have hb : busyB e = false := by
      cases hb : busyB e with
      | false => rfl
      | true => unfold begE at q; rw [hb, if_pos rfl] at q; simp at q
    have hj := h.job
    rw [hb, if_neg (by simp)] at hj
    have p := ok.p1
    have nq : ¬ 0 = (jobX e v).rows.length := by show ¬ 0 = e.rows.length; omega
    have e1 : upX (jobX e v) 0 = askX (setP (jobX e v) 0) := if_neg nq
    have e2 : upL (jobX e v) 0 = [askM (setP (jobX e v) 0)] := if_neg nq
    rw [e1, e2]
    have h' : Rl0 (setP (jobX e v) 0) (startR r v) := ⟨h.b.rows, h.b.wt, h.b.now⟩
    have g' : Go (setP (jobX e v) 0) (startR r v) := ⟨rfl, rfl, rfl, rfl, ⟨[], rfl, rfl, fun k hk => absurd hk (by simp)⟩, rfl⟩
    have hj' : (startR r v).job = (setP (jobX e v) 0).told.jb := by show r.job + 1 = e.last.jb + 1; rw [hj]
    have l := ok.lj
    exact ⟨rel_ask h' g' hj' (by show e.last.jb + 1 ≠ 0; omega) rfl h.en h.last, by rw [q_same h' g' hj'], rfl⟩
  · rw [if_neg q, if_neg q, if_neg q, if_neg q]
    exact ⟨h, rfl, rfl⟩
end Go.Proofs.YtpoegknmkbnjlaaDoor.Cn
namespace Go.Proofs.YtpoegknmkbnjlaaDoor.Cn
end Go.Proofs.YtpoegknmkbnjlaaDoor.Cn
