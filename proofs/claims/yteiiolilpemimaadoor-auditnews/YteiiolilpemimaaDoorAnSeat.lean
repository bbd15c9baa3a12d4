import Derived.Test.YteiiolilpemimaaDoorGAeLists
namespace Go.Proofs.YteiiolilpemimaaDoor.Cn
open Go.RowKit
/-- a node, as the document's auditor sees it -/
structure Se where
  l : List Int
  lv : Value
  pl : Nat
  gone : Bool
  sent : Int
  when : Int
def seV (s : Se) : Array Value := #[s.lv, .int .i64 (s.pl : Int), .bool s.gone, .int .i64 s.sent, .int .i64 s.when]
def ses (l : List Se) : List Value := l.flatMap fun m => (seV m).toList
theorem ses_append (a b : List Se) : ses (a ++ b) = ses a ++ ses b := List.flatMap_append
theorem ses_one (m : Se) : ses [m] = (seV m).toList := by unfold ses; rw [List.flatMap_cons, List.flatMap_nil, List.append_nil]
theorem ses_len (L : List Se) : (ses L).length = L.length * 5 := by
  induction L with
  | nil => rfl
  | cons a r ih =>
    unfold ses at *
    rw [List.flatMap_cons, List.length_append, ih]
    simp only [List.length_cons, seV, List.length_nil]
    omega
theorem ses_at (L : List Se) (q : Nat) (h : q < L.length) (j : Nat) (hj : j < 5) : (ses L)[q * 5 + j]? = (seV L[q])[j]? := by
  induction L generalizing q with
  | nil => simp at h
  | cons a r ih =>
    cases q with
    | zero =>
      unfold ses
      rw [List.flatMap_cons, Nat.zero_mul, Nat.zero_add, List.getElem?_append_left (by simpa [seV] using hj)]
      simp
    | succ q =>
      have h' : q < r.length := by simpa using h
      have := ih q h'
      unfold ses at *
      rw [List.flatMap_cons, show (q + 1) * 5 + j = (seV a).toList.length + (q * 5 + j) by simp [seV]; omega, List.getElem?_append_right (by omega), Nat.add_sub_cancel_left]
      exact this
theorem se_info : (Tryd.prog.info? 123).map (·.size) = some 5 := by kernel_rfl
theorem se_infos : (Tryd.prog.info? 123).map (fun i => (i.zero, i.size, i.bytes)) = some (some (.agg (seV ⟨[], .slice none 0 0, 0, false, 0, 0⟩)), 5, 56) := by kernel_rfl
theorem se_one (s : Se) (h : ∃ a n c, s.lv = .slice a n c) : (seV s).all (·.oneCell') = true := by
  obtain ⟨a, n, c, e⟩ := h
  simp [seV, e, Value.oneCell']
theorem fill_se (m : Se) : Instr.fill (fun i => some (i * 5, 5)) ((Array.range (1 * 5)).map ((Value.agg (seV ⟨[], .slice none 0 0, 0, false, 0, 0⟩)).cells[· % (Value.agg (seV ⟨[], .slice none 0 0, 0, false, 0, 0⟩)).cells.size]!)) [(0, .agg (seV m))] = some (seV m) := by kernel_rfl
theorem wpList_bsSe {w : World} {ops : Array Oper} {rest : List Oper} {o : Oper} {a : Act} {Q : Exit → Act → World → Prop} (hgd : o.guard = none) (x : Operand) (ho : o.op = .buildSlice 118 1 #[(0, x)]) (m : Se) (A : Array Value) (hA : seV m = A) (hx : a.eval x = .agg A)
    (h : wpList Tryd.prog ops Q rest (a.put o.dst (.slice (some ⟨w.heap.size, 0, none⟩) 1 1)) (w.alloc (.cells (seV m) 123))) : wpList Tryd.prog ops Q (o :: rest) a w := by
  subst hA
  obtain ⟨i0, hi, hz0, hz1, hz2⟩ := mg_parts se_infos
  refine wpList_plain hgd fun _ hK => ?_
  refine wp_buildSlice 118 123 1 _ ho (seV m) i0 _ Tryd.underlying118 hi hz0 (by rw [hz1]; decide) (by rw [hz1]; decide) ?_ (hK _ _ h)
  rw [hz1]
  simp only [List.map_toArray, List.map_cons, List.map_nil, hx]
  exact fill_se m
theorem wpList_apSe {w : World} {ops : Array Oper} {rest : List Oper} {o : Oper} {a : Act} {Q : Exit → Act → World → Prop} (hgd : o.guard = none) (x y : Operand) (ho : o.op = .call { callee := .builtin .append, args := #[x, y], argTypes := #[118, 118] }) (base : Nat) (v : Value) (n : Nat) (L : List Se) (hx : a.eval x = v) (hv : w.ownsRow base 123 5 v n (ses L)) (g : Nat) (m : Se) (h1 : ∃ a n c, m.lv = .slice a n c) (hy : a.eval y = .slice (some ⟨g, 0, none⟩) 1 1) (hg : w.heap[g]? = some (.cells (seV m) 123)) (hl : n ≤ 1000) (hb : base ≤ w.heap.size)
    (h : ∀ v' w', w'.ownsRow base 123 5 v' (n + 1) (ses (L ++ [m])) → w.grownBy w' v.ownBlock → wpList Tryd.prog ops Q rest (a.put o.dst v') w') : wpList Tryd.prog ops Q (o :: rest) a w := by
  obtain ⟨i0, hi, hz0, hz1, hz2⟩ := mg_parts se_infos
  refine wpList_append_own_at _ hgd _ _ 118 ho base 123 i0 _ 5 56 Tryd.underlying118 hi hz0 hz1 hz2 rfl (by decide) _ _ _ hx hv ⟨g, 0, none⟩ 1 1 (ses [m]) hy (by rw [ses_one]; rfl) ?_ (fun u hu => ?_) (by unfold maxLen; omega) (by omega) hb ?_
  · rw [ses_one]
    intro j u hj
    rw [Addr.add_mid, Nat.zero_add, cell_row hg]
    simpa using hj
  · rw [ses_one] at hu
    exact Array.all_eq_true_iff_forall_mem.1 (se_one m h1) u (by simpa using hu)
  · intro v' w' a1 a2 _ _
    rw [← ses_append] at a1
    exact h v' w' a1 a2
/-- the document's auditor -/
structure Ra where
  rs : Int
  lm : Int
  now : Int
  job : Int
  on : Bool
  ver : Int
  seats : List Se
  ended : Bool
  jb : Int
  jv : Int
  jo : Int
def raA (r : Ra) (sv wv dv mv : Value) : Array Value := #[.string ⟨#[]⟩, .int .i64 0, .int .i64 0, .int .i64 0, .int .i64 0, .int .i64 0, .int .i64 0, .int .i64 0, .int .i64 0, .int .i64 0, .int .i64 0, .int .i64 0, .int .i64 0, .int .i64 0, .int .i64 0, .int .i64 r.rs, .int .i64 r.lm, .int .i64 0, .int .i64 0, .int .i64 0, .int .i64 0, .int .i64 0, .slice none 0 0, .int .i64 r.now, .int .i64 r.job, .bool r.on, .int .i64 r.ver, sv, wv, .bool r.ended, .int .i64 r.jb, .int .i64 r.jv, .int .i64 r.jo, dv, mv]
theorem ra_info : (Tryd.prog.info? 121).map (·.size) = some 35 := by kernel_rfl
/-- a new one: its seats -/
noncomputable def newSe (st : ByteArray) (x : Nat → Int) (ns : List ND) (j : Nat) (s : Se) : Prop := s.l = ptsL (hdS st x ns (j : Int)) ∧ s.pl = 0 ∧ s.gone = false ∧ s.sent = 0 ∧ s.when = 0
structure RnAt (w : World) (B base : Nat) (r : Ra) (sv : Value) : Prop where
  blk : w.heap[B]? = some (.cells (raA r sv (.slice none 0 0) (.slice none 0 0) (.slice none 0 0)) 121)
  row : w.ownsRow base 123 5 sv r.seats.length (ses r.seats)
  ls : ∀ s ∈ r.seats, w.ownsRow base 3 1 s.lv s.l.length (ints s.l)
theorem RnAt.kp {w w' : World} {B base : Nat} {r : Ra} {sv : Value} (h : RnAt w B base r sv) (hk : Kp w w' non) : RnAt w' B base r sv := ⟨(hk.block _ (blk_lt h.blk) (fun f => f)).trans h.blk, own_kp h.row hk (fun _ _ f => f), fun s hs => own_kp (h.ls s hs) hk (fun _ _ f => f)⟩
end Go.Proofs.YteiiolilpemimaaDoor.Cn
