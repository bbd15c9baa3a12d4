import Derived.Test.YtedfonpmjengkaaProg
import Derived.WalkKit
import Derived.WalkSpells
import Derived.WalkLawsBesides
import Derived.Laws.OwnMore
import Derived.Laws.MakeOwn
import Derived.Laws.CopyOwn
import Derived.Below
import Derived.Lib.MinMax
import Derived.Deep.RegionHeld3
import Derived.Deep.QuietTactic
import Derived.BigQuiet
import Derived.Deep.DeepCutAuto
import Derived.Maps.AppendAt
import Derived.Deep.WholeRow
import Derived.Great.BuildSlice
import Derived.Deep.MidRow
import Derived.Laws.AppendOwnNone
import Derived.Carry
namespace Go.Proofs.Ytedfonpmjengkaa.Cn
open Go.RowKit
theorem hide {p : Prop} (h : p) : Hid p := h
theorem i64_in {x : Int} (h0 : -9223372036854775808 ≤ x) (h1 : x < 9223372036854775808) : IntKind.i64.wrap x = x := by
  simp [IntKind.wrap, IntKind.signed, IntKind.bits]; omega
theorem wrap_in {x : Int} (h0 : -9223372036854775808 ≤ x) (h1 : x < 9223372036854775808) : wrap64 x = x := by unfold wrap64; omega
theorem via {P Q : Prop} {R : Prop} (f : R → P ∧ Q) (r : R) : P ∧ Q := f r
theorem blk_lt {w : World} {b : Nat} {o : Obj} (h : w.heap[b]? = some o) : b < w.heap.size := (Array.getElem?_eq_some_iff.1 h).1
theorem heap_last (w : World) (o : Obj) : (w.alloc o).heap[w.heap.size]? = some o := by
  unfold World.alloc
  exact Array.getElem?_push_size
theorem heap_setCell (w : World) (b o : Nat) (v : Value) (c : Array Value) (t : TypeId) (fr : Nat × Nat) (h : w.heap[b]? = some (.cells c t fr)) : (w.setCell ⟨b, o, none⟩ v).heap[b]? = some (.cells (c.setIfInBounds o v) t fr) := by
  simp only [World.setCell, Array.getElem?_modify, if_true, h, Option.map_some]
  rfl
/-- what has happened: all but the blocks of S are as they were -/
structure Kp (w w' : World) (S : Nat → Prop) : Prop where
  os : w'.os = w.os
  tape : w'.tape = w.tape
  output : w'.output = w.output
  size : w.heap.size ≤ w'.heap.size
  block : ∀ k, k < w.heap.size → ¬ S k → w'.heap[k]? = w.heap[k]?
def non : Nat → Prop := fun _ => False
theorem Kp.refl (w : World) (S : Nat → Prop) : Kp w w S := ⟨rfl, rfl, rfl, Nat.le_refl _, fun _ _ _ => rfl⟩
theorem Kp.trans {w w1 w2 : World} {S T : Nat → Prop} (h : Kp w w1 S) (h' : Kp w1 w2 T) (hT : ∀ k, T k → S k ∨ w.heap.size ≤ k) : Kp w w2 S :=
  ⟨h'.os.trans h.os, h'.tape.trans h.tape, h'.output.trans h.output, Nat.le_trans h.size h'.size, fun k hk hs => (h'.block k (Nat.lt_of_lt_of_le hk h.size) (fun t => by rcases hT k t with a | a; exact hs a; omega)).trans (h.block k hk hs)⟩
theorem Kp.mono {w w' : World} {S T : Nat → Prop} (h : Kp w w' S) (hT : ∀ k, S k → T k) : Kp w w' T := ⟨h.os, h.tape, h.output, h.size, fun k hk hs => h.block k hk (fun s => hs (hT k s))⟩
theorem Kp.of_below {w w' : World} (h : Below w.heap.size w w') (S : Nat → Prop) : Kp w w' S := ⟨h.os, h.tape, h.output, h.size, fun k hk _ => h.block k hk⟩
theorem Kp.below {w w' : World} (h : Kp w w' non) : Below w.heap.size w w' := ⟨h.os, h.tape, h.output, h.size, fun k hk => h.block k hk (fun f => f)⟩
theorem Kp.of_grown {w w' : World} {r : Option Nat} (h : w.grownBy w' r) : Kp w w' (fun k => some k = r) := ⟨h.os, h.tape, h.output, h.size, fun k hk hs => h.block k hk hs⟩
theorem Kp.drewN {w w' : World} {S : Nat → Prop} (h : Kp w w' S) (n : Nat) : Kp w (w'.drewN n) S := ⟨h.os, h.tape, h.output, h.size, h.block⟩
theorem Kp.drew {w w' : World} {S : Nat → Prop} (h : Kp w w' S) : Kp w w'.drew S := ⟨h.os, h.tape, h.output, h.size, h.block⟩
theorem Kp.alloc {w w' : World} {S : Nat → Prop} (h : Kp w w' S) (o : Obj) : Kp w (w'.alloc o) S := h.trans (Kp.of_below ((Below.refl _ w').alloc (Nat.le_refl _) o) S) (fun _ hk => Or.inl hk)
theorem Kp.set {w w' : World} {S : Nat → Prop} {R : Nat} (h : Kp w w' S) (hR : S R ∨ w.heap.size ≤ R) (j : Nat) (v : Value) : Kp w (w'.setCell ⟨R, j, none⟩ v) S :=
  h.trans (T := fun k => k = R) ⟨rfl, rfl, rfl, by rw [World.size_setCell]; exact Nat.le_refl _, fun k _ hs => Below.heap_setCell _ _ _ k (fun e => hs (e.symm ▸ rfl))⟩ (fun _ hk => by subst hk; exact hR)
theorem Kp.cell {w w' : World} {S : Nat → Prop} (h : Kp w w' S) {b o : Nat} (hb : b < w.heap.size) (hs : ¬ S b) : w'.cell? ⟨b, o, none⟩ = w.cell? ⟨b, o, none⟩ := by
  unfold World.cell?
  rw [h.block b hb hs]
/-- a whole row is loaded, stored, built, answered -/
theorem wpList_ldR {w : World} {ops : Array Oper} {rest : List Oper} {o : Oper} {a : Act} {Q : Exit → Act → World → Prop} (hgd : o.guard = none) (ty : TypeId) (x : Operand) (ho : o.op = .load ty x) (b : Nat) (hx : a.eval x = .pointer (some ⟨b, 0, none⟩)) (t : TypeId) (A : Array Value) (hO : w.heap[b]? = some (.cells A t)) {fs} (hu : Try.prog.underlying ty = some (.struct fs)) (hi : (Try.prog.info? ty).map (·.size) = some A.size)
    (h : wpList Try.prog ops Q rest (a.put o.dst (.agg A)) w) : wpList Try.prog ops Q (o :: rest) a w := by
  have hl : (Instr.loadAt ty (.pointer (some ⟨b, 0, none⟩))).run Try.prog w = .ok (.agg A) w := by
    simp only [Instr.loadAt, Instr.sureAddr, Sem.run_bind, Sem.run_pure, Result.andThen]
    exact run_loadVar_row _ _ t ty A (0, 0) _ hO hu rfl hi
  refine wpList_plain hgd fun K hK => ?_
  unfold Oper.wp execOp
  simp only [ho, Sem.run_bind, Sem.run_pure, Result.andThen_ok, hx, hl]
  exact hK _ _ h
theorem wpList_stR {w : World} {ops : Array Oper} {rest : List Oper} {o : Oper} {a : Act} {Q : Exit → Act → World → Prop} (hgd : o.guard = none) (ty : TypeId) (p x : Operand) (ho : o.op = .store ty p x) (b : Nat) (hp : a.eval p = .pointer (some ⟨b, 0, none⟩)) (A A0 : Array Value) (hx : a.eval x = .agg A) (t : TypeId) (hO : w.heap[b]? = some (.cells A0 t)) (hi : (Try.prog.info? ty).map (·.size) = some A.size) (hs : A0.size = A.size) (h1 : A.all (·.oneCell') = true)
    (h : wpList Try.prog ops Q rest (a.put o.dst undef) (w.setRow b A)) : wpList Try.prog ops Q (o :: rest) a w :=
  wpList_plain hgd fun _ hK => wp_store_row ty p x ho b A hp hx t A0 hO hi hs h1 (hK _ _ h)
theorem wpList_blR {w : World} {ops : Array Oper} {rest : List Oper} {o : Oper} {a : Act} {Q : Exit → Act → World → Prop} (hgd : o.guard = none) (ty : TypeId) (parts : Array (Nat × Operand)) (ho : o.op = .build ty parts) (A : Array Value) (hb : Try.prog.built ty (parts.map fun (i, x) => (i, a.eval x)).toList = some A)
    (h : wpList Try.prog ops Q rest (a.put o.dst (.agg A)) w) : wpList Try.prog ops Q (o :: rest) a w := by
  refine wpList_plain hgd fun K hK => ?_
  unfold Oper.wp execOp
  simp only [ho, Sem.run_bind, Sem.run_pure]
  have := run_build w ty _ A hb
  rw [this]
  exact hK _ _ h
theorem res_row1 {fn : Func} {p : Tmp} {ty : TypeId} (h : fn.results = #[.cell p ty]) (tmps : Array Value) (A : Array Value) (w : World) (b : Nat) (ht : tmps.getD p undef = .pointer (some ⟨b, 0, none⟩)) (t : TypeId) (hO : w.heap[b]? = some (.cells A t)) {fs} (hu : Try.prog.underlying ty = some (.struct fs)) (hi : (Try.prog.info? ty).map (·.size) = some A.size) : (results fn tmps).run Try.prog w = .ok (.agg A) w := by
  have hl : (loadVar ty ⟨b, 0, none⟩).run Try.prog w = .ok (.agg A) w := run_loadVar_row _ _ t ty A (0, 0) _ hO hu rfl hi
  have ht' : tmps[p]?.getD undef = .pointer (some ⟨b, 0, none⟩) := by simpa using ht
  unfold results
  rw [h]
  simp [ht', asAddr, hl]
theorem res_row2 {fn : Func} {p q : Tmp} {ty : TypeId} (h : fn.results = #[.cell p ty, .tmp q]) (tmps : Array Value) (A : Array Value) (w : World) (b : Nat) (ht : tmps.getD p undef = .pointer (some ⟨b, 0, none⟩)) (v : Value) (hv : tmps.getD q undef = v) (t : TypeId) (hO : w.heap[b]? = some (.cells A t)) {fs} (hu : Try.prog.underlying ty = some (.struct fs)) (hi : (Try.prog.info? ty).map (·.size) = some A.size) : (results fn tmps).run Try.prog w = .ok (.tuple #[.agg A, v]) w := by
  have hl : (loadVar ty ⟨b, 0, none⟩).run Try.prog w = .ok (.agg A) w := run_loadVar_row _ _ t ty A (0, 0) _ hO hu rfl hi
  have ht' : tmps[p]?.getD undef = .pointer (some ⟨b, 0, none⟩) := by simpa using ht
  have hv' : tmps[q]?.getD undef = v := by simpa using hv
  unfold results
  rw [h]
  simp [ht', hv', asAddr, hl]
theorem cell_row {w : World} {b : Nat} {A : Array Value} {t : TypeId} (h : w.heap[b]? = some (.cells A t)) (i : Nat) : w.cell? ⟨b, i, none⟩ = A[i]? := by
  unfold World.cell?; rw [h]; rfl
theorem fz_row {w : World} {b : Nat} {A : Array Value} {t : TypeId} (h : w.heap[b]? = some (.cells A t)) (i : Nat) : w.frozen? ⟨b, i, none⟩ = false := by
  unfold World.frozen?; rw [h]; simp
/-- a message -/
structure Mg where
  kind : Int
  fr : Int
  td : Int
  id : Int
  ep : Int
  sq : Int
  ver : Int
  prev : Int
  code : Int
  key : ByteArray
  val : ByteArray
def mgV (m : Mg) : Array Value := #[.int .i64 m.kind, .int .i64 m.fr, .int .i64 m.td, .int .i64 m.id, .int .i64 m.ep, .int .i64 m.sq, .int .i64 m.ver, .int .i64 m.prev, .int .i64 m.code, .string m.key, .string m.val]
def mg0 : Mg := ⟨0, 0, 0, 0, 0, 0, 0, 0, 0, ⟨#[]⟩, ⟨#[]⟩⟩
theorem mg_one (m : Mg) : (mgV m).all (·.oneCell') = true := by simp [mgV, Value.oneCell']
/-- messages, as cells -/
def mgs (l : List Mg) : List Value := l.flatMap fun m => (mgV m).toList
theorem mgs_append (a b : List Mg) : mgs (a ++ b) = mgs a ++ mgs b := List.flatMap_append
theorem mgs_one (m : Mg) : mgs [m] = (mgV m).toList := by unfold mgs; rw [List.flatMap_cons, List.flatMap_nil, List.append_nil]
theorem mgs_len (L : List Mg) : (mgs L).length = L.length * 11 := by
  induction L with
  | nil => rfl
  | cons a r ih =>
    unfold mgs at *
    rw [List.flatMap_cons, List.length_append, ih]
    simp only [List.length_cons, mgV, List.length_nil]
    omega
theorem mgs_oneCell (L : List Mg) : ∀ u ∈ mgs L, u.oneCell' = true := by
  intro u hu
  unfold mgs at hu
  obtain ⟨m, _, hm⟩ := List.mem_flatMap.1 hu
  have := Array.all_eq_true_iff_forall_mem.1 (mg_one m) u (by simpa using hm)
  exact this
theorem mgs_at (L : List Mg) (q : Nat) (h : q < L.length) (j : Nat) (hj : j < 11) : (mgs L)[q * 11 + j]? = (mgV L[q])[j]? := by
  induction L generalizing q with
  | nil => simp at h
  | cons a r ih =>
    cases q with
    | zero =>
      unfold mgs
      rw [List.flatMap_cons, Nat.zero_mul, Nat.zero_add, List.getElem?_append_left (by simpa [mgV] using hj)]
      simp
    | succ q =>
      have h' : q < r.length := by simpa using h
      have := ih q h'
      unfold mgs at *
      rw [List.flatMap_cons, show (q + 1) * 11 + j = (mgV a).toList.length + (q * 11 + j) by simp [mgV]; omega, List.getElem?_append_right (by omega), Nat.add_sub_cancel_left]
      exact this
theorem fill_mg (m : Mg) : Instr.fill (fun i => some (i * 11, 11)) ((Array.range (1 * 11)).map ((Value.agg (mgV mg0)).cells[· % (Value.agg (mgV mg0)).cells.size]!)) [(0, .agg (mgV m))] = some (mgV m) := by kernel_rfl
theorem mg_parts {t : TypeId} {z : Value} {k by' : Nat} (h : (Try.prog.info? t).map (fun i => (i.zero, i.size, i.bytes)) = some (some z, k, by')) : ∃ i0, Try.prog.info? t = some i0 ∧ i0.zero = some z ∧ i0.size = k ∧ i0.bytes = by' := by
  cases hq : Try.prog.info? t with
  | none => simp [hq] at h
  | some i => simp [hq] at h; exact ⟨i, rfl, h.1, h.2.1, h.2.2⟩
theorem mg_room {k : Nat} (h : k ≤ 1000000000000) : k + 1 ≤ maxLen ∧ (k + 1) * 104 ≤ 140737488355328 := by unfold maxLen; omega
theorem own_sl {w : World} {base e sz n : Nat} {v : Value} {xs : List Value} (h : w.ownsRow base e sz v n xs) : ∃ ba cap, v = .slice ba n cap := by
  rcases h.2 with ⟨hv, hz⟩ | ⟨g, cap, cur, hv, _⟩
  · exact ⟨none, 0, by rw [hv, hz]⟩
  · exact ⟨_, _, hv⟩
theorem own_g {w : World} {base e sz n : Nat} {v : Value} {xs : List Value} (h : w.ownsRow base e sz v n xs) (hn : 0 < n) : ∃ g cap, v = .slice (some ⟨g, 0, none⟩) n cap := by
  rcases h.2 with ⟨hv, hz⟩ | ⟨g, cap, cur, hv, _⟩
  · omega
  · exact ⟨_, _, hv⟩
theorem own_kp {w w' : World} {S : Nat → Prop} {base e sz n : Nat} {v : Value} {xs : List Value} (h : w.ownsRow base e sz v n xs) (hk : Kp w w' S) (hne : ∀ k, v.ownBlock = some k → ¬ S k) : w'.ownsRow base e sz v n xs := by
  refine ⟨h.1, ?_⟩
  rcases h.2 with ⟨hv, hz⟩ | ⟨g, cap, cur, rfl, h1, h2, h3⟩
  · exact .inl ⟨hv, hz⟩
  · exact .inr ⟨g, cap, cur, rfl, h1, (hk.block g (blk_lt h2) (hne g rfl)).trans h2, h3⟩
end Go.Proofs.Ytedfonpmjengkaa.Cn
namespace Go.Proofs.Ytedfonpmjengkaa.Cn
open Go.RowKit
theorem iv_at {X : World} {base e sz n : Nat} {v : Value} {xs : List Value} (h : X.ownsRow base e sz v n xs) {j : Nat} {u : Value} (hj : xs[j]? = some u) : ∃ g cap, v = .slice (some ⟨g, 0, none⟩) n cap ∧ X.cell? ⟨g, j, none⟩ = some u ∧ X.frozen? ⟨g, j, none⟩ = false := by
  have hl := (List.getElem?_eq_some_iff.1 hj).1
  rcases h.2 with ⟨_, hz⟩ | ⟨g, cap, cur, rfl, h1, h2, h3, h4, h5, h6⟩
  · have := h.1
    rw [hz] at this
    omega
  · refine ⟨g, cap, rfl, ?_, ?_⟩
    · rw [cell_row h2]
      rw [← h6, List.getElem?_take] at hj
      split at hj
      · simpa using hj
      · simp at hj
    · exact fz_row h2 j
theorem iv_set {w : World} {base e sz n g cap : Nat} {xs : List Value} (h : w.ownsRow base e sz (.slice (some ⟨g, 0, none⟩) n cap) n xs) (k : Nat) (u : Value) : (w.setCell ⟨g, k, none⟩ u).ownsRow base e sz (.slice (some ⟨g, 0, none⟩) n cap) n (xs.set k u) := by
  refine ⟨by rw [List.length_set]; exact h.1, ?_⟩
  rcases h.2 with ⟨hv, _⟩ | ⟨g', cap', cur, hv, h1, h2, h3, h4, h5, h6⟩
  · cases hv
  · injection hv with e1 e2 e3
    injection e1 with e1
    injection e1 with e1
    subst e1 e3
    refine .inr ⟨g, cap, cur.setIfInBounds k u, rfl, h1, heap_setCell _ _ _ _ _ _ _ h2, h3, h4, by simpa using h5, ?_⟩
    rw [Array.toList_setIfInBounds, List.take_set, h6]
/-- a finding -/
structure Fd where
  p : ByteArray
  k : Int
  c : Int
  v : Int
  n : Int
def fdV (f : Fd) : Array Value := #[.string f.p, .int .i64 f.k, .int .i64 f.c, .int .i64 f.v, .int .i64 f.n]
def fd0 : Fd := ⟨⟨#[]⟩, 0, 0, 0, 0⟩
def fds (l : List Fd) : List Value := l.flatMap fun f => (fdV f).toList
theorem fds_len (L : List Fd) : (fds L).length = L.length * 5 := by
  induction L with
  | nil => rfl
  | cons a L ih =>
    have e : fds (a :: L) = (fdV a).toList ++ fds L := by unfold fds; rw [List.flatMap_cons]
    rw [e, List.length_append, ih, List.length_cons]
    have : (fdV a).toList.length = 5 := rfl
    omega
theorem fds_one (L : List Fd) : ∀ u ∈ fds L, u.oneCell' = true := by
  intro u hu
  unfold fds at hu
  rw [List.mem_flatMap] at hu
  obtain ⟨m, _, hm⟩ := hu
  have : (fdV m).all (·.oneCell') = true := by simp [fdV, Value.oneCell']
  rw [← Array.all_toList, List.all_eq_true] at this
  exact this u hm
theorem fds_at : ∀ (L : List Fd) (q : Nat) (h : q < L.length) (j : Nat) (_ : j < 5), (fds L)[q * 5 + j]? = (fdV L[q])[j]? := by
  intro L
  induction L with
  | nil => intro q hq; simp at hq
  | cons p L ih =>
    intro q hq j hj
    have e : fds (p :: L) = (fdV p).toList ++ fds L := by unfold fds; rw [List.flatMap_cons]
    have l5 : (fdV p).toList.length = 5 := rfl
    rw [e]
    cases q with
    | zero => rw [Nat.zero_mul, Nat.zero_add, List.getElem?_append_left (by rw [l5]; exact hj)]; simp
    | succ q =>
      rw [List.getElem?_append_right (by rw [l5]; omega), l5, show (q + 1) * 5 + j - 5 = q * 5 + j by omega]
      exact ih q (by simpa using hq) j hj
/-- a finding's kind is written over -/
theorem fds_set : ∀ (L : List Fd) (q : Nat) (h : q < L.length) (x : Int), (fds L).set (q * 5 + 1) (.int .i64 x) = fds (L.set q { L[q] with k := x }) := by
  intro L
  induction L with
  | nil => intro q hq; simp at hq
  | cons p L ih =>
    intro q hq x
    have e : ∀ p L, fds (p :: L) = (fdV p).toList ++ fds L := fun p L => by unfold fds; rw [List.flatMap_cons]
    cases q with
    | zero => rw [List.set_cons_zero, e, e]; rfl
    | succ q =>
      rw [List.set_cons_succ, e, e, show (q + 1) * 5 + 1 = (fdV p).toList.length + (q * 5 + 1) by have : (fdV p).toList.length = 5 := rfl; omega, List.set_append_right _ _ (by omega), Nat.add_sub_cancel_left]
      rw [ih q (by simpa using hq) x]
      rfl
/-- findings in memory -/
structure FdsAt (N : Nat) (w : World) (ao : Option Addr) (b o : Nat) (L : List Fd) : Prop where
  at0 : 0 < L.length → ao = some ⟨b, o, none⟩
  lt : 0 < L.length → b < N
  c : ∀ (q : Nat) (h : q < L.length) (j : Nat) (u : Value), (fdV L[q])[j]? = some u → w.cell? ⟨b, o + q * 5 + j, none⟩ = some u
theorem FdsAt.kp {w w' : World} {ao : Option Addr} {b o : Nat} {L : List Fd} (h : FdsAt w.heap.size w ao b o L) (hk : Kp w w' non) : FdsAt w'.heap.size w' ao b o L :=
  ⟨h.at0, fun z => Nat.lt_of_lt_of_le (h.lt z) hk.size, fun q hq j u hu => (hk.cell (h.lt (by omega)) (fun f => f)).trans (h.c q hq j u hu)⟩
theorem FdsAt.cells {N : Nat} {w : World} {ao : Option Addr} {b o : Nat} {L : List Fd} (h : FdsAt N w ao b o L) (q : Nat) (hq : q < L.length) :
    w.cell? ⟨b, o + q * 5, none⟩ = some (.string L[q].p) ∧ w.cell? ⟨b, o + q * 5 + 1, none⟩ = some (.int .i64 L[q].k) ∧ w.cell? ⟨b, o + q * 5 + 2, none⟩ = some (.int .i64 L[q].c) ∧ w.cell? ⟨b, o + q * 5 + 3, none⟩ = some (.int .i64 L[q].v) ∧ w.cell? ⟨b, o + q * 5 + 4, none⟩ = some (.int .i64 L[q].n) :=
  ⟨h.c q hq 0 _ rfl, h.c q hq 1 _ rfl, h.c q hq 2 _ rfl, h.c q hq 3 _ rfl, h.c q hq 4 _ rfl⟩
/-- an own list -/
theorem FdsAt.own {w : World} {base : Nat} {v : Value} {L : List Fd} (h : w.ownsRow base 27 5 v L.length (fds L)) : ∃ ao b cap, v = .slice ao L.length cap ∧ FdsAt w.heap.size w ao b 0 L ∧ (ao = none → L.length = 0 ∧ cap = 0) := by
  have h' := h
  rcases h.2 with ⟨hv, hz⟩ | ⟨g, cap, cur, hv, h1, h2, h3⟩
  · refine ⟨none, 0, 0, by rw [hv, hz], ⟨fun z => by omega, fun z => by omega, fun q hq => by omega⟩, fun _ => ⟨hz, rfl⟩⟩
  · refine ⟨some ⟨g, 0, none⟩, g, cap, hv, ⟨fun _ => rfl, fun _ => blk_lt h2, fun q hq j u hu => ?_⟩, fun z => by cases z⟩
    have hj : j < 5 := (Array.getElem?_eq_some_iff.1 hu).1
    obtain ⟨g', c', e1, hc, _⟩ := iv_at h' (j := q * 5 + j) (u := u) (by rw [fds_at L q hq j hj]; exact hu)
    rw [hv] at e1
    injection e1 with e1
    injection e1 with e1
    injection e1 with e1
    rw [e1, Nat.zero_add]
    exact hc
theorem take_snoc {α : Type} (l : List α) (q : Nat) (h : q < l.length) : l.take (q + 1) = l.take q ++ [l[q]] := by rw [List.take_succ_eq_append_getElem h]
/-- the worst of them -/
def verd (l : List Fd) : Int := l.foldl (fun m f => max m f.k) 0
theorem fold_ge (l : List Fd) : ∀ m : Int, m ≤ l.foldl (fun m f => max m f.k) m ∧ (∀ f ∈ l, f.k ≤ l.foldl (fun m f => max m f.k) m) ∧ (l.foldl (fun m f => max m f.k) m = m ∨ ∃ f ∈ l, f.k = l.foldl (fun m f => max m f.k) m) := by
  induction l with
  | nil => intro m; exact ⟨Int.le_refl _, fun f hf => absurd hf (by simp), Or.inl rfl⟩
  | cons a l ih =>
    intro m
    rw [List.foldl_cons]
    obtain ⟨h1, h2, h3⟩ := ih (max m a.k)
    refine ⟨by omega, fun f hf => ?_, ?_⟩
    · rcases List.mem_cons.1 hf with rfl | hf
      · omega
      · exact h2 f hf
    · rcases h3 with h3 | ⟨f, hf, h3⟩
      · by_cases hm : a.k ≤ m
        · left; rw [h3]; omega
        · right; exact ⟨a, List.mem_cons_self, by rw [h3]; omega⟩
      · exact Or.inr ⟨f, List.mem_cons_of_mem _ hf, h3⟩
theorem verd_nn (l : List Fd) : 0 ≤ verd l := (fold_ge l 0).1
theorem verd_le {l : List Fd} {f : Fd} (h : f ∈ l) : f.k ≤ verd l := (fold_ge l 0).2.1 f h
theorem verd_is (l : List Fd) : verd l = 0 ∨ ∃ f ∈ l, f.k = verd l := (fold_ge l 0).2.2
theorem verd_take (l : List Fd) (q : Nat) (h : q < l.length) : verd (l.take (q + 1)) = max (verd (l.take q)) l[q].k := by
  unfold verd
  rw [take_snoc l q h, List.foldl_append, List.foldl_cons, List.foldl_nil]
/-- all kinds written over -/
def brk (f : Fd) : Fd := { f with k := 6 }
theorem verd_brk (l : List Fd) (h : 0 < l.length) : verd (l.map brk) = 6 := by
  have h6 : ∀ f ∈ l.map brk, f.k = 6 := by
    intro f hf
    obtain ⟨g, _, rfl⟩ := List.mem_map.1 hf
    rfl
  obtain ⟨a, l', rfl⟩ : ∃ a l', l = a :: l' := by cases l; exact absurd h (by simp); exact ⟨_, _, rfl⟩
  have := verd_le (l := (a :: l').map brk) (f := brk a) (by simp)
  rcases verd_is ((a :: l').map brk) with e | ⟨f, hf, e⟩
  · rw [e] at this; simp [brk] at this
  · rw [← e, h6 f hf]
def half (l : List Fd) (q : Nat) : List Fd := (l.take q).map brk ++ l.drop q
theorem half_len (l : List Fd) (q : Nat) (_ : q ≤ l.length) : (half l q).length = l.length := by unfold half; simp; omega
theorem half_set (l : List Fd) (q : Nat) (h : q < l.length) : ∃ h' : q < (half l q).length, (half l q).set q { (half l q)[q] with k := 6 } = half l (q + 1) := by
  have hl : ((l.take q).map brk).length = q := by simp; omega
  refine ⟨by rw [half_len l q (by omega)]; exact h, ?_⟩
  have e : (half l q)[q]'(by rw [half_len l q (by omega)]; exact h) = l[q] := by
    unfold half
    rw [List.getElem_append_right (by omega), List.getElem_drop]
    congr 1
    omega
  rw [e]
  unfold half
  rw [List.set_append_right _ _ (by omega), hl, Nat.sub_self, List.drop_eq_getElem_cons h, List.set_cons_zero, take_snoc l q h, List.map_append, List.append_assoc]
  rfl
theorem half_all (l : List Fd) : half l l.length = l.map brk := by unfold half; simp
theorem infoFd : (Try.prog.info? 27).map (fun i => (i.zero, i.size, i.bytes)) = some (some (.agg (fdV fd0)), 5, 48) := by kernel_rfl
theorem fd_parts {t : TypeId} {z : Value} {k by' : Nat} (h : (Try.prog.info? t).map (fun i => (i.zero, i.size, i.bytes)) = some (some z, k, by')) : ∃ i0, Try.prog.info? t = some i0 ∧ i0.zero = some z ∧ i0.size = k ∧ i0.bytes = by' := by
  obtain ⟨i0, h1, h2⟩ := Option.map_eq_some_iff.1 h
  injection h2 with h2 h3
  injection h3 with h3 h4
  exact ⟨i0, h1, h2, h3, h4⟩
/-- append([]api.Finding(nil), l...) -/
theorem wpList_apFd {w : World} {ops : Array Oper} {rest : List Oper} {o : Oper} {a : Act} {Q : Exit → Act → World → Prop} (hgd : o.guard = none) (s x : Operand) (ho : o.op = .call { callee := .builtin .append, args := #[s, x], argTypes := #[22, 22] })
    {ao : Option Addr} {b of_ cap : Nat} {L : List Fd} (hs : a.eval s = .slice none 0 0) (hx : a.eval x = .slice ao L.length cap) (hL : FdsAt w.heap.size w ao b of_ L) (hn : ao = none → L.length = 0 ∧ cap = 0) (hl : L.length ≤ 2932031007317)
    (h : ∀ v' w', w'.ownsRow w.heap.size 27 5 v' L.length (fds L) → Kp w w' non → wpList Try.prog ops Q rest (a.put o.dst v') w') : wpList Try.prog ops Q (o :: rest) a w := by
  obtain ⟨i0, hi0, hz0, hz1, hz2⟩ := fd_parts infoFd
  have own0 : w.ownsRow w.heap.size 27 5 (.slice none 0 0) 0 [] := ⟨rfl, Or.inl ⟨rfl, rfl⟩⟩
  cases hao : ao with
  | none =>
    obtain ⟨h1, h2⟩ := hn hao
    rw [hao, h1, h2] at hx
    refine wpList_append_own_none hgd s x 22 ho w.heap.size 27 i0 5 Try.underlying22 hi0 _ 0 [] hs own0 hx ?_
    refine h _ _ ?_ (Kp.refl w non)
    have e : L = [] := List.eq_nil_of_length_eq_zero h1
    rw [e]
    exact own0
  | some ad =>
    rw [hao] at hx
    refine wpList_append_own w hgd s x 22 ho w.heap.size 27 i0 _ 5 48 Try.underlying22 hi0 hz0 hz1 hz2 rfl (by decide) _ 0 [] hs own0 ad L.length cap (fds L) hx (fds_len L) ?_ (fds_one L) (by unfold maxLen; omega) (by omega) (Nat.le_refl _) ?_
    · intro j u hj
      have hj' : j < (fds L).length := (List.getElem?_eq_some_iff.1 hj).1
      rw [fds_len] at hj'
      have e0 := hL.at0 (by omega)
      rw [hao] at e0
      injection e0 with e0
      rw [e0, Addr.add_mid]
      have hq : j / 5 < L.length := by omega
      have := fds_at L (j / 5) hq (j % 5) (Nat.mod_lt _ (by decide))
      rw [show j / 5 * 5 + j % 5 = j by omega, hj] at this
      have := hL.c (j / 5) hq (j % 5) u this.symm
      rwa [show of_ + j / 5 * 5 + j % 5 = of_ + j by omega] at this
    · intro v' w' h1 h2 _
      rw [Nat.zero_add, List.nil_append] at h1
      exact h v' w' h1 ((Kp.of_grown h2).mono fun k hk => by cases hk)
end Go.Proofs.Ytedfonpmjengkaa.Cn
namespace Go.Proofs.Ytedfonpmjengkaa.Cn
open Go.RowKit
theorem num22_any (n : Int) (w : World) : Calls Try.prog 6 #[.int .i64 n] w fun e w' => e = .returned (.int .i64 n) ∧ w' = w := by
  go_enter Try.func6, Try.ntmps6
  go_wp2_with fail
  go_ret
  exact ⟨rfl, rfl⟩
set_option maxHeartbeats 4000000 in
set_option maxRecDepth 100000 in
/-- Verdict -/
theorem verdict_any {w : World} {ao : Option Addr} {b o cap : Nat} {L : List Fd} (h : FdsAt w.heap.size w ao b o L) (hl : L.length ≤ 2932031007317) :
    Calls Try.prog 4 #[.slice ao L.length cap] w fun e w' => e = .returned (.int .i64 (verd L)) ∧ Kp w w' non := by
  have HL := hide h
  obtain ⟨n, hn⟩ : ∃ n, n = L.length := ⟨_, rfl⟩
  rw [← hn] at hl ⊢
  have hat : 0 < n → ao = some ⟨b, o, none⟩ := fun z => h.at0 (by omega)
  have HN := hide hn
  clear h hn
  go_enter Try.func4, Try.ntmps4
  go_wp2_with fail
  go_loopw [3, 8] (fun v3 v8 wr => ∃ i : Nat, i ≤ n ∧ v8 = .int .i64 (i : Int) ∧ ∃ z : Int, v3 = .int .i64 z ∧ Hid (z = verd (L.take i)) ∧ Hid (Kp w wr non)) (fun _ v8 _ => n - (intOf v8).toNat)
  case atStart => exact ⟨0, Nat.zero_le _, rfl, 0, rfl, rfl, Kp.refl _ _⟩
  case round =>
    obtain ⟨i, hi, rfl, z, rfl, ZI, KI⟩ := hrel
    by_cases hin : i < n
    case pos =>
      have hii : (i : Int) < (n : Int) := by omega
      have hiL : i < L.length := by rw [← HN.out]; exact hin
      obtain rfl := hat (by omega)
      obtain ⟨x0, x1, x2, x3, x4⟩ := (HL.out.kp KI.out).cells i hiL
      have ZN : Hid (verd (L.take (i + 1)) = max z L[i].k) := by show _ = _; rw [verd_take L i hiL, ← ZI.out]
      generalize L[i].p = y0 at *
      generalize L[i].k = y1 at *
      generalize L[i].c = y2 at *
      generalize L[i].v = y3 at *
      generalize L[i].n = y4 at *
      clear hiL
      go_wp2_with fail
      go_roundw
      case rel => exact ⟨i + 1, by omega, by go_num, _, rfl, ZN.out.symm, by first | exact KI.out.alloc _ | exact (KI.out.alloc _).set (Or.inr KI.out.size) _ _⟩
      case measure => simp [intOf]; omega
    case neg =>
      obtain rfl : i = n := by omega
      go_wp2_with fail
      go_ret
      refine ⟨?_, KI.out⟩
      rw [ZI.out, HN.out, List.take_length]
      rfl
set_option maxHeartbeats 4000000 in
set_option maxRecDepth 100000 in
/-- same, of two lists that are alike -/
theorem same22_any {w : World} {a1 a2 : Option Addr} {b1 o1 c1 b2 o2 c2 : Nat} {L : List Fd} (l1 : FdsAt w.heap.size w a1 b1 o1 L) (l2 : FdsAt w.heap.size w a2 b2 o2 L) (hl : L.length ≤ 2932031007317) :
    Calls Try.prog 5 #[.slice a1 L.length c1, .slice a2 L.length c2] w fun e w' => e = .returned (.bool true) ∧ Kp w w' non := by
  obtain ⟨n, hn⟩ : ∃ n, n = L.length := ⟨_, rfl⟩
  rw [← hn] at hl ⊢
  have h1 : 0 < n → a1 = some ⟨b1, o1, none⟩ := fun z => l1.at0 (by omega)
  have h2 : 0 < n → a2 = some ⟨b2, o2, none⟩ := fun z => l2.at0 (by omega)
  have L1 := hide l1
  have L2 := hide l2
  have HN := hide hn
  clear l1 l2 hn
  go_enter Try.func5, Try.ntmps5
  go_wp2_with fail
  go_loopw [5] (fun vi wr => ∃ k : Nat, k ≤ n ∧ vi = .int .i64 (k : Int) ∧ Hid (Kp w wr non)) (fun vi _ => n - (intOf vi).toNat)
  case atStart => exact ⟨0, Nat.zero_le _, rfl, Kp.refl _ _⟩
  case round =>
    obtain ⟨k, hk, rfl, KI⟩ := hrel
    by_cases hlt : k < n
    case pos =>
      obtain rfl := h1 (by omega)
      obtain rfl := h2 (by omega)
      have hkL : k < L.length := by rw [← HN.out]; exact hlt
      obtain ⟨d0, d1, d2, d3, d4⟩ := (L1.out.kp KI.out).cells k hkL
      obtain ⟨e0, e1, e2, e3, e4⟩ := (L2.out.kp KI.out).cells k hkL
      have hk1 : (k : Int) < (n : Int) := by omega
      clear h1 h2
      generalize L[k].p = Y0 at *
      generalize L[k].k = Y1 at *
      generalize L[k].c = Y2 at *
      generalize L[k].v = Y3 at *
      generalize L[k].n = Y4 at *
      clear hkL
      go_wp2_with fail
      go_quiet ((go_at_call 6; exact Calls.quiet_of_same (num22_any _ _)))
      go_wp2
      go_roundw
      case rel => exact ⟨k + 1, by omega, by go_num, KI.out.drewN _⟩
      case measure => simp [intOf]; omega
    case neg =>
      go_wp2
      go_ret
      exact ⟨rfl, KI.out⟩
end Go.Proofs.Ytedfonpmjengkaa.Cn
namespace Go.Proofs.Ytedfonpmjengkaa.Cn
open Go.RowKit
theorem any_snoc (L : List Fd) (q : Nat) (h : q < L.length) (z : Int) : (L.take (q + 1)).any (fun f => f.k == z) = ((L.take q).any (fun f => f.k == z) || (L[q].k == z)) := by
  rw [take_snoc L q h, List.any_append, List.any_cons, List.any_nil, Bool.or_false]
def Thr (L : List Fd) (vd : Int) (i : Nat) (bb : Bool) : Prop := bb = ((vd == 0) || (L.take i).any (fun f => f.k == vd))
theorem verd_there (L : List Fd) : ((verd L == 0) || L.any (fun f => f.k == verd L)) = true := by
  rcases verd_is L with h | ⟨f, hf, h⟩
  · rw [h]; rfl
  · rw [List.any_eq_true.2 ⟨f, hf, by simpa using h⟩, Bool.or_true]
set_option maxHeartbeats 8000000 in
set_option maxRecDepth 100000 in
set_option linter.unusedSimpArgs false in
theorem verdicts_any {w : World} {ao : Option Addr} {b o cap : Nat} {L : List Fd} (h : FdsAt w.heap.size w ao b o L) (hn : ao = none → L.length = 0 ∧ cap = 0) (hl : L.length ≤ 2932031007317) :
    Calls Try.prog 3 #[.slice ao L.length cap] w fun e w' => e = .returned (.bool true) ∧ Kp w w' non := by
  obtain ⟨W, hW⟩ : ∃ W, W = w := ⟨_, rfl⟩
  rw [← hW]
  rw [← hW] at h
  clear hW
  go_enter Try.func3, Try.ntmps3
  go_wp2_with (refine wpList_apFd rfl _ _ rfl rfl rfl h hn hl (fun v1 w1 O1 K1 => ?_))
  obtain ⟨a1, b1, c1, rfl, F1, _⟩ := FdsAt.own O1
  have F0 := hide (h.kp K1)
  have HF1 := hide F1
  have HO1 := hide O1
  have HK1 := hide K1
  have V1 := hide (verdict_any (cap := c1) F1 hl)
  have S1 := hide fun X (hX : Kp w1 X non) => same22_any (c1 := c1) (c2 := cap) (F1.kp hX) (F0.out.kp hX) hl
  have hat : 0 < L.length → ao = some ⟨b, o, none⟩ := fun z => h.at0 z
  clear O1 K1 F1 h hn
  obtain ⟨n, hnn⟩ : ∃ n, n = L.length := ⟨_, rfl⟩
  rw [← hnn] at hl hat V1 S1 ⊢
  have HN := hide hnn
  clear hnn
  refine Calls.mono V1.out ?_
  rintro e w2 ⟨rfl, K2⟩
  have S2 := hide (S1.out w2 K2)
  have HK2 := hide K2
  obtain ⟨vd, hvd⟩ : ∃ vd, vd = verd L := ⟨_, rfl⟩
  rw [← hvd]
  have hv0 : 0 ≤ vd := by rw [hvd]; exact verd_nn L
  have HV := hide hvd
  clear S1 V1 K2 hvd
  have hvl : decide (vd < 0) = false := by simpa using hv0
  go_wp2_with fail
  refine Calls.mono S2.out ?_
  rintro e w3 ⟨rfl, k3⟩
  have K3 : Hid (Kp w1 w3 non) := HK2.out.trans k3 (fun _ f => f.elim)
  clear k3 S2 HK2
  go_wp2_with fail
  go_loopw [5, 6] (fun v5 vi wr => ∃ i : Nat, i ≤ n ∧ vi = .int .i64 (i : Int) ∧ ∃ bb : Bool, v5 = .bool bb ∧ Thr L vd i bb ∧ Hid (Kp w1 wr non)) (fun _ vi _ => n - (intOf vi).toNat)
  case atStart => exact ⟨0, Nat.zero_le _, rfl, _, rfl, by unfold Thr; simp, K3.out⟩
  case round =>
    obtain ⟨i, hi, rfl, bb, rfl, HB, KI⟩ := hrel
    by_cases hin : i < n
    case pos =>
      have hii : (i : Int) < (n : Int) := by omega
      have hiL : i < L.length := by rw [← HN.out]; exact hin
      obtain rfl := hat (by omega)
      obtain ⟨x0, x1, x2, x3, x4⟩ := (F0.out.kp KI.out).cells i hiL
      have hle : L[i].k ≤ vd := by rw [HV.out]; exact verd_le (List.getElem_mem hiL)
      have HS := hide (any_snoc L i hiL vd)
      generalize L[i].k = y1 at *
      clear x0 x2 x3 x4 hiL
      have hgt : decide (vd < y1) = false := by simp; omega
      cases hq : (y1 == vd)
      case true =>
        have T2 : Thr L vd (i + 1) true := by
          unfold Thr at HB ⊢
          rw [HS.out, hq, Bool.or_true, Bool.or_true]
        cases bb
        case true =>
          go_wp2_with fail
          go_roundw
          case rel => exact ⟨i + 1, by omega, by go_num, _, rfl, T2, KI.out⟩
          case measure => simp [intOf]; omega
        case false =>
          go_wp2_with fail
          go_roundw
          case rel => exact ⟨i + 1, by omega, by go_num, _, rfl, T2, KI.out⟩
          case measure => simp [intOf]; omega
      case false =>
        have T2 : Thr L vd (i + 1) bb := by
          unfold Thr at HB ⊢
          rw [HS.out, hq, Bool.or_false]
          exact HB
        cases bb
        case true =>
          go_wp2_with fail
          go_roundw
          case rel => exact ⟨i + 1, by omega, by go_num, _, rfl, T2, KI.out⟩
          case measure => simp [intOf]; omega
        case false =>
          go_wp2_with fail
          go_roundw
          case rel => exact ⟨i + 1, by omega, by go_num, _, rfl, T2, KI.out⟩
          case measure => simp [intOf]; omega
    case neg =>
      obtain rfl : i = n := by omega
      have BT : Hid (bb = true) := by
        show _ = _
        rw [show bb = _ from HB, HN.out, List.take_length, HV.out]
        exact verd_there L
      obtain rfl : bb = true := BT.out
      clear HB hin hi F0 hat BT K3 hv0 hvl
      have K4 : Hid (Kp W wr non) := HK1.out.trans KI.out (fun _ f => f.elim)
      have O4 : Hid (wr.ownsRow W.heap.size 27 5 (.slice a1 i c1) i (fds (half L 0))) := by
        have e : half L 0 = L := by unfold half; simp
        rw [e, HN.out]
        exact own_kp HO1.out KI.out (fun _ _ f => f)
      clear KI HO1 HF1 HK1
      go_wp2_with fail
      go_loopw [7] (fun vi wy => ∃ k : Nat, k ≤ i ∧ vi = .int .i64 (k : Int) ∧ Hid (wy.ownsRow W.heap.size 27 5 (.slice a1 i c1) i (fds (half L k))) ∧ Hid (Kp W wy non)) (fun vi _ => i - (intOf vi).toNat)
      case atStart => exact ⟨0, Nat.zero_le _, rfl, O4.out, K4.out⟩
      case round =>
        obtain ⟨k, hk, rfl, OK, KK⟩ := hrel
        clear O4 K4
        by_cases hkn : k < i
        case pos =>
          have hkk : (k : Int) < (i : Int) := by omega
          obtain ⟨g, cg, hg⟩ := own_g OK.out (by omega)
          injection hg with hg _ hgc
          subst hg hgc
          obtain ⟨hq, hset⟩ := half_set L k (by rw [← HN.out]; exact hkn)
          have hcl : (fds (half L k))[k * 5 + 1]? = some (.int .i64 (half L k)[k].k) := by rw [fds_at _ k hq 1 (by omega)]; rfl
          obtain ⟨g', c', e1, hc, hf⟩ := iv_at OK.out hcl
          injection e1 with e1
          injection e1 with e1
          injection e1 with e1
          subst e1
          have O5 := iv_set OK.out (k * 5 + 1) (.int .i64 6)
          rw [fds_set _ k hq 6, hset] at O5
          have hgW : W.heap.size ≤ g := by
            rcases OK.out.2 with ⟨hv, _⟩ | ⟨g', cap', cur, hv, h1, _⟩
            · cases hv
            · injection hv with e1
              injection e1 with e1
              injection e1 with e1
              rw [e1]; exact h1
          have HO5 := hide O5
          have K5 := hide (KK.out.set (Or.inr hgW) (k * 5 + 1) (.int .i64 6))
          clear O5 hset hcl
          generalize (half L k)[k].k = yy at hc
          clear hq
          go_wp2_with fail
          go_roundw
          case rel => exact ⟨k + 1, by omega, by go_num, HO5.out, K5.out⟩
          case measure => simp [intOf]; omega
        case neg =>
          obtain rfl : k = i := by omega
          have e6 : half L k = L.map brk := by
            have := half_all L
            rwa [← HN.out] at this
          have hlen : (L.map brk).length = k := by rw [List.length_map, HN.out]
          have OB := OK.out
          rw [e6] at OB
          by_cases h0 : 0 < k
          case pos =>
            have h0' : (0 : Int) < (k : Int) := by omega
            have V6 : verd (L.map brk) = 6 := verd_brk L (by rw [← HN.out]; exact h0)
            rw [← hlen] at OB
            obtain ⟨a9, b9, c9, e9, F9, _⟩ := FdsAt.own OB
            rw [hlen] at e9
            injection e9 with e9 _ e9c
            subst e9 e9c
            have VC := verdict_any (cap := c1) F9 (by rw [hlen]; exact hl)
            rw [hlen, V6] at VC
            have HVC := hide VC
            clear VC F9 OB V6 e6 hlen
            go_wp2_with fail
            refine Calls.mono HVC.out ?_
            rintro e wz ⟨rfl, kz⟩
            have KZ : Hid (Kp W wz non) := KK.out.trans kz (fun _ f => f.elim)
            clear kz
            go_wp2_with fail
            go_ret
            exact ⟨rfl, KZ.out⟩
          case neg =>
            obtain rfl : k = 0 := by omega
            clear OB e6 hlen
            go_wp2_with fail
            go_ret
            exact ⟨rfl, KK.out⟩
end Go.Proofs.Ytedfonpmjengkaa.Cn
