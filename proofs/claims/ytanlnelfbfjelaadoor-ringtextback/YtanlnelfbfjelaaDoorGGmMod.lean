import Derived.Test.YtanlnelfbfjelaaDoorGGcSame
import Derived.Test.YtanlnelfbfjelaaDoorGcSpr2
import Derived.Test.YtanlnelfbfjelaaDoorGGcChk
import Derived.WalkMore
import Derived.Test.YtanlnelfbfjelaaDoorGGcTwin2
import Derived.OrdersHeld
import Derived.Deep.RegionHeld
namespace Go.Proofs.YtanlnelfbfjelaaDoor
open Go.RowKit
theorem tm_facts (n : Int) (d : Int) (hd : 0 < d) : (n.tmod d < 0 → n % d = n.tmod d + d) ∧ (0 ≤ n.tmod d → n % d = n.tmod d) ∧ -d < n.tmod d ∧ n.tmod d < d := by
  have h := @Int.tmod_eq_emod n d
  have h1 := Int.emod_nonneg n (show d ≠ 0 by omega)
  have h2 := Int.emod_lt_of_pos n hd
  split at h
  · omega
  · rename_i hh
    have : n % d ≠ 0 := fun e => hh (Or.inr (Int.dvd_of_emod_eq_zero e))
    omega
theorem tm_twice (n m : Int) (h : 0 < m) : (n.tmod m + m).tmod m = n % m := by
  obtain ⟨t1, t2, t3, t4⟩ := tm_facts n m h
  obtain ⟨u1, u2, u3, u4⟩ := tm_facts (n.tmod m + m) m h
  have hq := Int.tmod_eq_emod_of_nonneg (a := n.tmod m + m) (b := m) (by omega)
  rw [hq, Int.add_emod_right]
  by_cases hs : n.tmod m < 0
  · have e := t1 hs
    have : (n.tmod m + m) % m = n.tmod m + m := Int.emod_eq_of_lt (by omega) (by omega)
    rw [Int.add_emod_right] at this
    rw [this, e]
  · rw [t2 (by omega)]
    exact Int.emod_eq_of_lt (by omega) (by omega)
theorem exec_remi {ρ : Operand → Value} {op : Oper} {w : World} {a b : Int} {t2 : TypeId} (x y : Operand) (ho : op.op = .binOp .rem 3 x y t2) (hx : ρ x = .int .i64 a) (hy : ρ y = .int .i64 b) (h0 : 0 < b) (h1 : b < 9223372036854775808) : (execOp ρ op).run Tryd.prog w = .ok (.value (.int .i64 (a.tmod b))) w := by
  unfold execOp
  simp only [ho, hx, hy]
  obtain ⟨_, _, t3, t4⟩ := tm_facts a b h0
  have hb0 : ¬ b = 0 := by omega
  have hb1 : ¬ b = -1 := by omega
  have e := wrap_in (x := a.tmod b) (by omega) (by omega)
  go_simp
theorem exec_addii {ρ : Operand → Value} {op : Oper} {w : World} {a b : Int} {t2 : TypeId} (x y : Operand) (ho : op.op = .binOp .add 3 x y t2) (hx : ρ x = .int .i64 a) (hy : ρ y = .int .i64 b) (h0 : -9223372036854775808 ≤ a + b) (h1 : a + b < 9223372036854775808) : (execOp ρ op).run Tryd.prog w = .ok (.value (.int .i64 (a + b))) w := by
  unfold execOp
  simp only [ho, hx, hy]
  go_simp
  exact i64_in (by omega) (by omega)
theorem wpList_addii {w : World} {ops : Array Oper} {rest : List Oper} {op : Oper} {a : Act} {Q : Exit → Act → World → Prop} (hgd : op.guard = none) {t2 : TypeId} (x y : Operand) (ho : op.op = .binOp .add 3 x y t2) (A B : Int) (hx : a.eval x = .int .i64 A) (hy : a.eval y = .int .i64 B) (h0 : -9223372036854775808 ≤ A + B) (h1 : A + B < 9223372036854775808) (h : wpList Tryd.prog ops Q rest (a.put op.dst (.int .i64 (A + B))) w) : wpList Tryd.prog ops Q (op :: rest) a w :=
  wpList_plain hgd fun _ hK => wp_exec (exec_addii x y ho hx hy h0 h1) (hK _ _ h)
theorem wpList_remi {w : World} {ops : Array Oper} {rest : List Oper} {op : Oper} {a : Act} {Q : Exit → Act → World → Prop} (hgd : op.guard = none) {t2 : TypeId} (x y : Operand) (ho : op.op = .binOp .rem 3 x y t2) (A B : Int) (hx : a.eval x = .int .i64 A) (hy : a.eval y = .int .i64 B) (h0 : 0 < B) (h1 : B < 9223372036854775808) (h : wpList Tryd.prog ops Q rest (a.put op.dst (.int .i64 (A.tmod B))) w) : wpList Tryd.prog ops Q (op :: rest) a w :=
  wpList_plain hgd fun _ hK => wp_exec (exec_remi x y ho hx hy h0 h1) (hK _ _ h)
set_option maxRecDepth 100000 in
theorem mod_any (n m : Int) (h1 : 1 ≤ m) (h2 : m ≤ 1099511627776) (w : World) :
    Calls Tryd.prog 13 #[.int .i64 n, .int .i64 m] w fun e w' => e = .returned (.int .i64 (n % m)) ∧ w = w' := by
  have HT : Hid ((n.tmod m + m) % m = n % m) := by
    obtain ⟨_, _, t3, t4⟩ := tm_facts n m (by omega)
    have := tm_twice n m (by omega)
    rw [Int.tmod_eq_emod_of_nonneg (by omega)] at this
    exact this
  obtain ⟨_, _, t3, t4⟩ := tm_facts n m (by omega)
  go_enter Tryd.func13, Tryd.ntmps13
  go_wp2_with (first | refine wpList_remi rfl (.tmp 5) (.tmp 6) rfl n m rfl rfl (by omega) (by omega) ?_ | refine wpList_addii rfl (.tmp 7) (.tmp 8) rfl (n.tmod m) m rfl rfl (by omega) (by omega) ?_ | refine wpList_remi rfl (.tmp 9) (.tmp 10) rfl (n.tmod m + m) m rfl rfl (by omega) (by omega) ?_)
  go_ret
  exact ⟨by rw [← HT.out]; rfl, rfl⟩
/-- a list of numbers taken round -/
def atL (L : List Int) (i : Nat) : Int := if h : 0 < L.length then L[i % L.length]'(Nat.mod_lt _ h) else 0
set_option maxRecDepth 100000 in
set_option linter.unusedVariables false in
theorem at_any (N : Nat) (w : World) (ao : Option Addr) (b o cap : Nat) (L : List Int) (i : Nat) (h : PsAt N w ao b o L) (hi : i < 9223372036854775808) :
    Calls Tryd.prog 23 #[.slice ao L.length cap, .int .i64 (i : Int)] w fun e w' => e = .returned (.int .i64 (atL L i)) ∧ w = w' := by
  have hl := h.len
  by_cases h0 : 0 < L.length
  · obtain rfl := h.at0 h0
    have hlt : i % L.length < L.length := Nat.mod_lt _ h0
    have c := h.c (i % L.length) hlt
    have HA : Hid (atL L i = L[i % L.length]'hlt) := by show _ = _; unfold atL; rw [dif_pos h0]
    have hz : ¬ (L.length : Int) = 0 := by omega
    have hm : (i : Int).tmod (L.length : Int) = ((i % L.length : Nat) : Int) := by rw [Int.tmod_eq_emod_of_nonneg (by omega)]; rfl
    generalize L[i % L.length] = y at *
    generalize i % L.length = r at *
    have hr : (r : Int) < (L.length : Int) := by omega
    have HM := hide hm
    clear h hm
    go_enter Tryd.func23, Tryd.ntmps23
    go_wp2_with (refine wpList_remi rfl (.tmp 9) (.tmp 11) rfl (i : Int) (L.length : Int) rfl rfl (by omega) (by omega) ?_; rw [HM.out])
    go_ret
    exact ⟨by rw [HA.out]; rfl, rfl⟩
  · have hl0 : L.length = 0 := by omega
    have HA : Hid (atL L i = 0) := by show _ = _; unfold atL; rw [dif_neg h0]
    rw [hl0]
    clear h
    go_enter Tryd.func23, Tryd.ntmps23
    go_wp2_with fail
    go_ret
    exact ⟨by rw [HA.out]; rfl, rfl⟩
end Go.Proofs.YtanlnelfbfjelaaDoor
namespace Go.Proofs.YtanlnelfbfjelaaDoor
/-- the node that has the partition k -/
def hm (ns : List ND) (k : Nat) : Int := ownF (k : Int) 0 ns
/-- the place i round the ring from f on -/
def plc (P f i : Nat) : Nat := (f + i) % P
/-- no place ahead of i has the node of the place i -/
def frsh (ns : List ND) (P f i : Nat) : Bool := (List.range i).all fun j => !(hm ns (plc P f j) == hm ns (plc P f i))
/-- what is taken of the first i places -/
def wkL (ns : List ND) (P f : Nat) : Nat → List Nat
  | 0 => []
  | i + 1 => if frsh ns P f i = true then wkL ns P f i ++ [plc P f i] else wkL ns P f i
theorem wkL_yes {ns : List ND} {P f i : Nat} (h : frsh ns P f i = true) : wkL ns P f (i + 1) = wkL ns P f i ++ [plc P f i] := by simp [wkL, h]
theorem wkL_no {ns : List ND} {P f i : Nat} (h : frsh ns P f i = false) : wkL ns P f (i + 1) = wkL ns P f i := by simp [wkL, h]
theorem wkL_len (ns : List ND) (P f : Nat) (i : Nat) : (wkL ns P f i).length ≤ i := by
  induction i with
  | zero => simp [wkL]
  | succ i ih =>
    cases h : frsh ns P f i with
    | true => rw [wkL_yes h]; simp; exact ih
    | false => rw [wkL_no h]; omega
theorem wkL_pre (ns : List ND) (P f i k : Nat) : ∃ r, wkL ns P f (i + k) = wkL ns P f i ++ r := by
  induction k with
  | zero => exact ⟨[], by simp⟩
  | succ k ih =>
    obtain ⟨r, hr⟩ := ih
    rw [← Nat.add_assoc]
    cases h : frsh ns P f (i + k) with
    | true => exact ⟨r ++ [plc P f (i + k)], by rw [wkL_yes h, hr, List.append_assoc]⟩
    | false => exact ⟨r, by rw [wkL_no h, hr]⟩
/-- the walk: the first R of all that is taken -/
def wkR (ns : List ND) (P f R : Nat) : List Nat := (wkL ns P f P).take R
theorem wkR_at {ns : List ND} {P f R i : Nat} (hi : i ≤ P) (h : (wkL ns P f i).length = R) : wkR ns P f R = wkL ns P f i := by
  obtain ⟨r, hr⟩ := wkL_pre ns P f i (P - i)
  rw [show i + (P - i) = P by omega] at hr
  unfold wkR
  rw [hr, ← h, List.take_left]
theorem wkR_all {ns : List ND} {P f R : Nat} (h : (wkL ns P f P).length ≤ R) : wkR ns P f R = wkL ns P f P := List.take_of_length_le h
theorem plc_lt {P f i : Nat} (h : 0 < P) : plc P f i < P := Nat.mod_lt _ h
theorem wkL_lt {ns : List ND} {P f : Nat} (hP : 0 < P) (i : Nat) : ∀ p ∈ wkL ns P f i, p < P := by
  induction i with
  | zero => intro p hp; simp [wkL] at hp
  | succ i ih =>
    cases h : frsh ns P f i with
    | true =>
      rw [wkL_yes h]
      intro p hp
      rcases List.mem_append.1 hp with hp | hp
      · exact ih p hp
      · simp at hp
        subst hp
        exact plc_lt hP
    | false => rw [wkL_no h]; exact ih
theorem wkL_from {ns : List ND} {P f : Nat} (i : Nat) : ∀ p ∈ wkL ns P f i, ∃ j, j < i ∧ p = plc P f j := by
  induction i with
  | zero => intro p hp; simp [wkL] at hp
  | succ i ih =>
    intro p hp
    cases h : frsh ns P f i with
    | true =>
      rw [wkL_yes h] at hp
      rcases List.mem_append.1 hp with hp | hp
      · obtain ⟨j, hj, e⟩ := ih p hp
        exact ⟨j, by omega, e⟩
      · simp at hp
        exact ⟨i, by omega, hp⟩
    | false =>
      rw [wkL_no h] at hp
      obtain ⟨j, hj, e⟩ := ih p hp
      exact ⟨j, by omega, e⟩
theorem frsh_true {ns : List ND} {P f i : Nat} : frsh ns P f i = true ↔ ∀ j, j < i → hm ns (plc P f j) ≠ hm ns (plc P f i) := by
  unfold frsh
  rw [List.all_eq_true]
  constructor
  · intro h j hj
    have := h j (List.mem_range.2 hj)
    simpa using this
  · intro h j hj
    have := h j (List.mem_range.1 hj)
    simpa using this
theorem wkL_homes {ns : List ND} {P f : Nat} (i : Nat) : ∀ j, j < i → ∃ p ∈ wkL ns P f i, hm ns p = hm ns (plc P f j) := by
  induction i with
  | zero => intro j hj; omega
  | succ i ih =>
    intro j hj
    cases h : frsh ns P f i with
    | true =>
      rw [wkL_yes h]
      by_cases e : j = i
      · subst e
        exact ⟨plc P f j, by simp, rfl⟩
      · obtain ⟨p, hp, ep⟩ := ih j (by omega)
        exact ⟨p, List.mem_append_left _ hp, ep⟩
    | false =>
      rw [wkL_no h]
      by_cases e : j = i
      · subst e
        have hn : ¬ ∀ k, k < j → hm ns (plc P f k) ≠ hm ns (plc P f j) := fun hc => by rw [frsh_true.2 hc] at h; exact absurd h (by simp)
        obtain ⟨k, hk⟩ := Classical.not_forall.1 hn
        obtain ⟨hk1, hk2⟩ := Classical.not_imp.1 hk
        obtain ⟨p, hp, ep⟩ := ih k hk1
        exact ⟨p, hp, ep.trans (Classical.not_not.1 hk2)⟩
      · exact ih j (by omega)
/-- fresh: none of those that were taken has its node -/
theorem frsh_taken {ns : List ND} {P f i : Nat} : frsh ns P f i = true ↔ ∀ p ∈ wkL ns P f i, hm ns p ≠ hm ns (plc P f i) := by
  rw [frsh_true]
  constructor
  · intro h p hp
    obtain ⟨j, hj, rfl⟩ := wkL_from i p hp
    exact h j hj
  · intro h j hj e
    obtain ⟨p, hp, ep⟩ := wkL_homes (ns := ns) (P := P) (f := f) i j hj
    exact h p hp (ep.trans e)
theorem frsh_no {ns : List ND} {P f i p : Nat} (hp : p ∈ wkL ns P f i) (e : hm ns p = hm ns (plc P f i)) : frsh ns P f i = false := by
  cases h : frsh ns P f i with
  | false => rfl
  | true => exact absurd e (frsh_taken.1 h p hp)
/-- numbers as ints -/
def nis (l : List Nat) : List Int := l.map fun n : Nat => (n : Int)
theorem nis_len (l : List Nat) : (nis l).length = l.length := by simp [nis]
theorem nis_append (a b : List Nat) : nis (a ++ b) = nis a ++ nis b := by simp [nis]
/-- the owners of those places -/
def owL (ns : List ND) (l : List Nat) : List Int := l.map fun p => hm ns p
theorem owL_len (ns : List ND) (l : List Nat) : (owL ns l).length = l.length := by simp [owL]
theorem owL_take {ns : List ND} {l : List Nat} {q : Nat} (h : q < l.length) : owL ns (l.take (q + 1)) = owL ns (l.take q) ++ [hm ns l[q]] := by
  unfold owL
  rw [List.take_succ_eq_append_getElem h, List.map_append]
  rfl
end Go.Proofs.YtanlnelfbfjelaaDoor
namespace Go.Proofs.YtanlnelfbfjelaaDoor
open Go.RowKit
theorem outL_cell {w : World} {g k : Nat} {ns : List ND} (h : w.heap[g]? = some (.cells (outL ns).toArray 3 (0, 0))) (hk : k < (flat ns).length) : w.cell? ⟨g, k, none⟩ = some (.int .i64 (hm ns k)) := by
  unfold World.cell?
  simp only [h]
  simp [outL, hm, hk]
theorem one_cells (w : World) (n : Int) : ∀ j u, (ints [n])[j]? = some u → (w.alloc (.cells #[.int .i64 n] 3)).cell? ((⟨w.heap.size, 0, none⟩ : Addr).add j) = some u := cell_one_new w (.int .i64 n) 3
theorem own_cell {w : World} {base n cap g : Nat} {L : List Int} {q : Nat} (h : w.ownsRow base 3 1 (.slice (some ⟨g, 0, none⟩) n cap) n (ints L)) (hn : n = L.length) (hq : q < L.length) : w.cell? ⟨g, q, none⟩ = some (.int .i64 L[q]) := by
  subst hn
  rw [h.cellAt q (by omega), ints_at, List.getElem?_eq_getElem hq]
  rfl
theorem plc_int {P f i : Nat} : (((f : Int) + (i : Int)) % (P : Int)) = ((plc P f i : Nat) : Int) := by
  unfold plc
  rw [← Int.natCast_add]
  rfl
end Go.Proofs.YtanlnelfbfjelaaDoor
namespace Go.Proofs.YtanlnelfbfjelaaDoor
open Go.RowKit
end Go.Proofs.YtanlnelfbfjelaaDoor
namespace Go.Proofs.YtanlnelfbfjelaaDoor
open Go.RowKit
/-- the error of a walk -/
noncomputable def rdE (st : ByteArray) (x : Nat → Int) (ns : List ND) (p : Int) : Int := if errP st x ns = 0 then (if p < 0 ∨ (ptN ns : Int) ≤ p then 69 else 0) else errP st x ns
/-- the walk from p on -/
def wk (x : Nat → Int) (ns : List ND) (p : Int) : List Nat := wkR ns (ptN ns) p.toNat (x 0).toNat
theorem errP_ok {st : ByteArray} {x : Nat → Int} {ns : List ND} (h : errP st x ns = 0) : sfP x = true ∧ nfP ns = true := by
  unfold errP at h
  constructor
  · cases e : sfP x with
    | true => rfl
    | false => rw [e] at h; split at h <;> simp at h
  · cases e : nfP ns with
    | true => rfl
    | false => rw [e] at h; split at h <;> (try split at h) <;> simp at h
theorem rdE_bad {st : ByteArray} {x : Nat → Int} {ns : List ND} {p : Int} (h : errP st x ns ≠ 0) : rdE st x ns p = errP st x ns := if_neg h
theorem rdE_part {st : ByteArray} {x : Nat → Int} {ns : List ND} {p : Int} (h : errP st x ns = 0) (hp : p < 0 ∨ (ptN ns : Int) ≤ p) : rdE st x ns p = 69 := by unfold rdE; rw [if_pos h, if_pos hp]
theorem rdE_ok {st : ByteArray} {x : Nat → Int} {ns : List ND} {p : Int} (h : errP st x ns = 0) (hp : ¬ (p < 0 ∨ (ptN ns : Int) ≤ p)) : rdE st x ns p = 0 := by unfold rdE; rw [if_pos h, if_neg hp]
theorem rdE_zero {st : ByteArray} {x : Nat → Int} {ns : List ND} {p : Int} (h : rdE st x ns p = 0) : errP st x ns = 0 ∧ 0 ≤ p ∧ p < (ptN ns : Int) := by
  by_cases e : errP st x ns = 0
  · by_cases hp : p < 0 ∨ (ptN ns : Int) ≤ p
    · rw [rdE_part e hp] at h
      omega
    · exact ⟨e, by omega, by omega⟩
  · rw [rdE_bad e] at h
    exact absurd h e
theorem wk_len (x : Nat → Int) (ns : List ND) (p : Int) : (wk x ns p).length ≤ ptN ns := by
  unfold wk wkR
  rw [List.length_take]
  have := wkL_len ns (ptN ns) p.toNat (ptN ns)
  omega
theorem wk_lt {x : Nat → Int} {ns : List ND} {p : Int} (h : 0 < ptN ns) : ∀ k ∈ wk x ns p, k < ptN ns := fun k hk => wkL_lt h _ k (List.mem_of_mem_take hk)
/-- the walk, where there is one -/
noncomputable def wkE (st : ByteArray) (x : Nat → Int) (ns : List ND) (p : Int) : List Nat := if rdE st x ns p = 0 then wk x ns p else []
theorem wkE_ok {st : ByteArray} {x : Nat → Int} {ns : List ND} {p : Int} (h : rdE st x ns p = 0) : wkE st x ns p = wk x ns p := if_pos h
theorem wkE_bad {st : ByteArray} {x : Nat → Int} {ns : List ND} {p : Int} (h : rdE st x ns p ≠ 0) : wkE st x ns p = [] := if_neg h
/-- what round answers -/
structure RdOf (st : ByteArray) (x : Nat → Int) (ns : List ND) (p : Int) (w : World) (e : Ending) (w' : World) : Prop where
  out : ∃ vn vp, e = .returned (.tuple #[vn, vp, .int .i64 (rdE st x ns p)]) ∧ (rdE st x ns p = 0 → Dealt ns ∧ (∃ g, vn = .slice (some ⟨g, 0, none⟩) (ptN ns) (ptN ns) ∧ w'.heap[g]? = some (.cells (outL ns).toArray 3 (0, 0))) ∧ w'.ownsRow w.heap.size 3 1 vp (wk x ns p).length (ints (nis (wk x ns p)))) ∧ (rdE st x ns p ≠ 0 → vn = .slice none 0 0 ∧ vp = .slice none 0 0)
  bel : Below w.heap.size w w'
theorem RdOf.bad {st : ByteArray} {x : Nat → Int} {ns : List ND} {p : Int} {w w' : World} {e : Ending} {k : Int} (he : rdE st x ns p = k) (hk : k ≠ 0) (h : e = .returned (.tuple #[.slice none 0 0, .slice none 0 0, .int .i64 k])) (hb : Below w.heap.size w w') : RdOf st x ns p w e w' :=
  ⟨⟨_, _, by rw [he]; exact h, fun h0 => absurd (he.symm.trans h0) hk, fun _ => ⟨rfl, rfl⟩⟩, hb⟩
end Go.Proofs.YtanlnelfbfjelaaDoor
namespace Go.Proofs.YtanlnelfbfjelaaDoor
/-- the partitions of node i -/
def mdQ (h : Nat → Int) (i p : Nat) : List Nat := (List.range p).filter fun j => decide (h j = (i : Int))
theorem mdQ_succ (h : Nat → Int) (i p : Nat) : mdQ h i (p + 1) = mdQ h i p ++ (if h p = (i : Int) then [p] else []) := by
  unfold mdQ
  rw [List.range_succ, List.filter_append]
  congr 1
  by_cases e : h p = (i : Int)
  · rw [if_pos e]
    simp [e]
  · rw [if_neg e]
    simp [e]
/-- the nodes that are made: zones, homes -/
def mdN (z : Nat → Int) (h : Nat → Int) (p n : Nat) : List ND := (List.range n).map fun i => ⟨z i, nis (mdQ h i p)⟩
theorem mdN_len (z h : Nat → Int) (p n : Nat) : (mdN z h p n).length = n := by simp [mdN]
theorem mdN_at (z h : Nat → Int) (p n i : Nat) (hi : i < (mdN z h p n).length) : (mdN z h p n)[i] = ⟨z i, nis (mdQ h i p)⟩ := by simp [mdN]
theorem flat_mdN (z h : Nat → Int) (p n : Nat) : flat (mdN z h p n) = nis ((List.range n).flatMap fun i => mdQ h i p) := by
  unfold flat mdN nis
  rw [List.flatMap_map, List.map_flatMap]
theorem one_flat (c : Int) (x n : Nat) : (List.range n).flatMap (fun i : Nat => if c = (i : Int) then [x] else []) = if 0 ≤ c ∧ c < (n : Int) then [x] else [] := by
  induction n with
  | zero => rw [if_neg (by omega)]; rfl
  | succ n ih =>
    rw [List.range_succ, List.flatMap_append, ih]
    by_cases e : c = (n : Int)
    · rw [if_neg (by omega), if_pos (by omega)]
      simp [e]
    · by_cases h : 0 ≤ c ∧ c < (n : Int)
      · rw [if_pos h, if_pos (by omega)]
        simp [e]
      · rw [if_neg h, if_neg (by omega)]
        simp [e]
theorem two_flat (A B : Nat → List Nat) (n : Nat) : ((List.range n).flatMap fun i => A i ++ B i).Perm ((List.range n).flatMap A ++ (List.range n).flatMap B) := by
  induction n with
  | zero => exact List.Perm.refl _
  | succ n ih =>
    rw [List.range_succ, List.flatMap_append, List.flatMap_append, List.flatMap_append]
    simp only [List.flatMap_cons, List.flatMap_nil, List.append_nil]
    refine (ih.append_right _).trans ?_
    simp only [List.append_assoc]
    refine List.Perm.append_left _ ?_
    rw [← List.append_assoc, ← List.append_assoc]
    exact List.Perm.append_right _ List.perm_append_comm
/-- each partition stands once -/
theorem mdQ_all (h : Nat → Int) (p n : Nat) (hh : ∀ j, j < p → 0 ≤ h j ∧ h j < (n : Int)) : ((List.range n).flatMap fun i => mdQ h i p).Perm (List.range p) := by
  induction p with
  | zero => simp [mdQ]
  | succ p ih =>
    have e : (List.range n).flatMap (fun i => mdQ h i (p + 1)) = (List.range n).flatMap (fun i => mdQ h i p ++ (if h p = (i : Int) then [p] else [])) := by
      congr 1
      funext i
      exact mdQ_succ h i p
    rw [e]
    refine (two_flat _ _ n).trans ?_
    rw [one_flat, if_pos (hh p (by omega)), List.range_succ]
    exact (ih fun j hj => hh j (by omega)).append_right _
theorem cnt_range (p i : Nat) (hi : i < p) : cntI (i : Int) (nis (List.range p)) = 1 := by
  induction p with
  | zero => omega
  | succ p ih =>
    rw [List.range_succ, nis_append, cntI_append]
    by_cases e : i = p
    · subst e
      have z : cntI (i : Int) (nis (List.range i)) = 0 := cntI_zero.2 fun hm => by
        simp [nis] at hm
        obtain ⟨a, h1, h2⟩ := hm
        omega
      rw [z]
      simp [nis, cntI]
    · rw [ih (by omega)]
      have : ¬ (p : Int) = (i : Int) := by omega
      simp [nis, cntI, this]
theorem rise_pw {l : List Nat} (h : l.Pairwise (· < ·)) : Rising (nis l) := by
  intro j hj
  rw [nis_len] at hj
  have := List.pairwise_iff_getElem.1 h j (j + 1) (by omega) hj (by omega)
  simp only [nis, List.getElem_map]
  omega
theorem mdQ_rise (h : Nat → Int) (i p : Nat) : Rising (nis (mdQ h i p)) := rise_pw (List.Pairwise.filter _ (List.pairwise_lt_range))
theorem mdN_flen (z h : Nat → Int) (p n : Nat) (hh : ∀ j, j < p → 0 ≤ h j ∧ h j < (n : Int)) : (flat (mdN z h p n)).length = p := by
  rw [flat_mdN, nis_len, (mdQ_all h p n hh).length_eq, List.length_range]
theorem mdN_dealt (z h : Nat → Int) (p n : Nat) (hh : ∀ j, j < p → 0 ≤ h j ∧ h j < (n : Int)) (p1 : 1 ≤ p) (p2 : p ≤ 64) : Dealt (mdN z h p n) := by
  have hl := mdN_flen z h p n hh
  refine ⟨by omega, by omega, fun i hi => ?_, fun nd hn => ?_⟩
  · rw [hl] at hi
    rw [flat_mdN]
    have pm := (mdQ_all h p n hh).map (fun n : Nat => (n : Int))
    exact (cntI_perm pm).trans (cnt_range p i hi)
  · unfold mdN at hn
    obtain ⟨i, _, rfl⟩ := List.mem_map.1 hn
    exact mdQ_rise h i p
theorem kpN_one {ns : List ND} (h : 1 ≤ (flat ns).length) : 1 ≤ kpN ns := by
  apply Classical.byContradiction
  intro hk
  have h0 : kpN ns = 0 := by omega
  unfold kpN at h0
  have h1 := List.length_eq_zero_iff.1 h0
  rw [List.filter_eq_nil_iff] at h1
  have : flat ns = [] := by
    unfold flat
    rw [List.flatMap_eq_nil_iff]
    intro n hn
    have := h1 n hn
    simp [hasP] at this
    exact this
  rw [this] at h
  simp at h
/-- a definition that is valid -/
theorem valid_errP {x : Nat → Int} {ns : List ND} {st : ByteArray} (h0 : nmP st = true) (h1 : sfP x = true) (h2 : nfP ns = true) (h3 : Dealt ns) (h4 : x 0 ≤ (kpN ns : Int)) (h5 : (ptN ns : Int) * x 0 * x 2 ≤ 512) : errP st x ns = 0 := by
  unfold errP
  rw [h0, h1, h2, dlB_true h3, if_neg (by simp), if_neg (by simp), if_neg (by simp), if_neg (by simp), if_neg (by omega), if_neg (by omega)]
/-- how many chunks, replicas there may be -/
theorem md_most {full p m : Int} (h1 : 1 ≤ full) (h2 : 1 ≤ p) (h3 : p ≤ 64) (hm : m = if 512 < full * p then 512 / p else full) : 1 ≤ m ∧ m ≤ full ∧ m * p ≤ 512 := by
  by_cases h : 512 < full * p
  · rw [if_pos h] at hm
    have e1 : 512 / p * p ≤ 512 := Int.ediv_mul_le _ (by omega)
    have e2 : 1 ≤ 512 / p := by
      rw [Int.le_ediv_iff_mul_le (by omega)]
      omega
    have e3 : 512 / p < full := by
      rw [Int.ediv_lt_iff_lt_mul (by omega)]
      omega
    subst hm
    exact ⟨e2, by omega, e1⟩
  · rw [if_neg h] at hm
    subst hm
    exact ⟨h1, Int.le_refl _, by omega⟩
theorem md_chunks {c p r k : Int} (h1 : 1 ≤ c) (h2 : c ≤ 16) (h3 : 1 ≤ p) (h4 : 1 ≤ r) (h5 : p * r ≤ 512) (hk : k = if 512 < c * p * r then 512 / (p * r) else c) : 1 ≤ k ∧ k ≤ 16 ∧ p * r * k ≤ 512 := by
  have hpr : 1 ≤ p * r := by
    have := Int.mul_le_mul h3 h4 (by omega) (by omega)
    omega
  have hc : c * p * r = c * (p * r) := by rw [Int.mul_assoc]
  by_cases h : 512 < c * p * r
  · rw [if_pos h] at hk
    have e1 : 512 / (p * r) * (p * r) ≤ 512 := Int.ediv_mul_le _ (by omega)
    have e2 : 1 ≤ 512 / (p * r) := by
      rw [Int.le_ediv_iff_mul_le (by omega)]
      omega
    have e3 : 512 / (p * r) < c := by
      rw [Int.ediv_lt_iff_lt_mul (by omega), ← hc]
      omega
    rw [Int.mul_comm] at e1
    subst hk
    exact ⟨e2, by omega, e1⟩
  · rw [if_neg h] at hk
    rw [hc, Int.mul_comm] at h
    subst hk
    exact ⟨h1, h2, by omega⟩
end Go.Proofs.YtanlnelfbfjelaaDoor
namespace Go.Proofs.YtanlnelfbfjelaaDoor
/-- operation o, where it is wanted, is a call that in every world that meets S answers v and leaves that world -/
def CallsIf (P : Program) (ops : Array Oper) (S : World → Prop) (o : Oper) (v : Value) (a : Act) : Prop :=
  Region.wanted o (yielded ops a.tmps) = true ∧ ∃ f args, ∀ w, S w → (execOp a.eval o).run P w = .ok (.enter f args) w ∧ Calls P f args w fun e w' => e = .returned v ∧ w = w'
section
variable {P : Program} {ops : Array Oper} {Q : Exit → Act → World → Prop} {md : Region.Mode} {S : World → Prop}
theorem CallsIf.same {o : Oper} {v : Value} {a a' : Act} (h : CallsIf P ops S o v a) (he : execOp a'.eval o = execOp a.eval o) (hw : Region.wanted o (yielded ops a'.tmps) = Region.wanted o (yielded ops a.tmps)) : CallsIf P ops S o v a' := by
  obtain ⟨h1, f, args, h2⟩ := h
  exact ⟨hw.trans h1, f, args, fun w hS => by rw [he]; exact h2 w hS⟩
theorem CallsIf.op {i : Nat} {o : Oper} {v : Value} {a : Act} (hi : ops[i]? = some o) (h : CallsIf P ops S o v a) {K : Act → World → Prop} {w : World} (hS : S w) (hK : K (a.put o.dst v) w) : wpOp P ops Q i K a w := by
  obtain ⟨h1, f, args, h2⟩ := h
  obtain ⟨h3, h4⟩ := h2 w hS
  unfold wpOp
  simp only [hi, h1, if_true]
  refine .inl ?_
  unfold Oper.wp
  rw [h3]
  refine Calls.mono h4 ?_
  rintro e w' ⟨rfl, rfl⟩
  exact hK
/-- another operation, apart from it, goes with its value laid ahead as it goes without -/
theorem CallsIf.aside {j : Nat} {oi oj : Oper} {v : Value} (hj : ops[j]? = some oj) (hap : oi.apart ops oj = true) (hsi : ∀ cs b, oi.op ≠ .select cs b) (hsj : ∀ cs b, oj.op ≠ .select cs b)
    (hQ : ∀ c a w, Q (.panic c) (a.put oi.dst v) w → Q (.panic c) a w) {K : Act → World → Prop} {a : Act} {w : World} (hy : CallsIf P ops S oi v a) (h : wpOp P ops Q j K (a.put oi.dst v) w) : wpOp P ops Q j (fun a' w' => CallsIf P ops S oi v a' ∧ K (a'.put oi.dst v) w') a w := by
  obtain ⟨h1, h2, h3⟩ := Oper.apart_spec hap
  have put : ∀ (b : Act), CallsIf P ops S oi v b → ∀ u, CallsIf P ops S oi v (b.put oj.dst u) := fun b hb u => hb.same (execOp_put oi hsi b oj.dst u h3) (wanted_put oi b oj.dst u h3)
  unfold wpOp at *
  simp only [hj, wanted_put oj a oi.dst v h1] at *
  by_cases hw : Region.wanted oj (yielded ops a.tmps) = true
  · simp only [hw, if_true] at h ⊢
    rcases h with h | ⟨hasks, hlets⟩
    · refine .inl ?_
      unfold Oper.wp at *
      rw [execOp_put oj hsj a oi.dst v h1] at h
      generalize (execOp a.eval oj).run P w = r at *
      rcases r with ⟨n, w'⟩ | ⟨x, w'⟩
      · cases n <;> simp only [Oper.upon] at h ⊢
        case value u => exact ⟨put a hy u, by rw [← Act.put_comm a v u h2]; exact h⟩
        case skip => exact ⟨put a hy _, by rw [← Act.put_comm a v undef h2]; exact h⟩
        case defer d => exact ⟨put { a with defers := d :: a.defers } (hy.same rfl rfl) _, by rw [← Act.put_comm _ v undef h2, ← Act.put_defers]; exact h⟩
        case enter f args =>
          refine Calls.mono h fun e w'' he => ?_
          rcases e with u | c | _
          · exact ⟨put a hy u, by rw [← Act.put_comm a v u h2]; exact he⟩
          · exact hQ _ _ _ he
          · exact he
        case row row args => exact Rows.mono h fun u w'' he => ⟨put a hy u, by rw [← Act.put_comm a v u h2]; exact he⟩
      · cases x <;> simp only [Oper.upon] at h ⊢
        case panic u => exact hQ _ _ _ h
    · exact .inr ⟨by unfold Oper.asks at *; rw [execOp_put oj hsj a oi.dst v h1] at hasks; exact hasks, hlets⟩
  · simp only [hw] at h ⊢
    exact ⟨put a hy _, by rw [← Act.put_comm a v undef h2]; exact h⟩
/-- such a call may be taken first -/
theorem wpAnyH_takeCall {i : Nat} {oi : Oper} {v : Value} (hi : ops[i]? = some oi) (hs : Region.noSelect ops = true) (hQ : ∀ c a w, Q (.panic c) (a.put oi.dst v) w → Q (.panic c) a w) :
    ∀ (fuel : Nat) (listed : Array Bool) (a : Act) (w : World), (∀ j oj, ops[j]? = some oj → j ≠ i → listed.getD j true = false → (∀ e ∈ oj.after, Region.binds md e = true → e.on ≠ i) → oi.apart ops oj = true) →
      i ∈ Region.ready md ops listed → CallsIf P ops S oi v a → S w → wpAnyH P md ops Q S fuel (listed.setIfInBounds i true) (a.put oi.dst v) w → wpAnyH P md ops Q S (fuel + 1) listed a w := by
  have hsel := Region.noSelect_spec hs
  intro fuel
  induction fuel with
  | zero =>
    intro listed a w _ hr hy hS H
    refine ⟨fun h => absurd hr (by rw [h]; simp), fun j hj => ?_⟩
    by_cases hji : j = i
    · subst hji
      exact hy.op hi hS ⟨hS, H⟩
    · have h0 := ready_mono hj hji
      rw [H.1] at h0
      cases h0
  | succ fuel ih =>
    intro listed a w hfree hr hy hS H
    refine ⟨fun h => absurd hr (by rw [h]; simp), fun j hj => ?_⟩
    by_cases hji : j = i
    · subst hji
      exact hy.op hi hS ⟨hS, H⟩
    · obtain ⟨hun, oj, hoj, hall⟩ := mem_ready.1 hj
      have hno : ∀ e ∈ oj.after, Region.binds md e = true → e.on ≠ i := fun e he hb heq => by
        have k1 := hall e he hb
        have k0 := (mem_ready.1 hr).1
        rw [heq] at k1
        rcases Nat.lt_or_ge i listed.size with hl | hl
        · simp [hl] at k0 k1
          rw [k0] at k1
          cases k1
        · simp [Array.getElem?_eq_none hl] at k1
      have h2 := CallsIf.aside hoj (hfree j oj hoj hji hun hno) (fun cs b => hsel i oi cs b hi) (fun cs b => hsel j oj cs b hoj) hQ hy (H.2 j (ready_mono hj hji))
      refine wpOp_mono (fun a' w' h3 => ⟨h3.2.1, ih _ a' w' (fun k ok hk hki hu hn => hfree k ok hk hki ?_ hn) (ready_mono hr (Ne.symm hji)) h3.1 h3.2.1 ?_⟩) h2
      · by_cases hjk : j = k
        · subst hjk
          exact hun
        · rw [getD_set_ne true hjk] at hu
          exact hu
      · rw [Array.setIfInBounds_comm _ _ hji]
        exact h3.2.2
theorem wpAnyH_callTake {i : Nat} {oi : Oper} {v : Value} {fuel : Nat} {listed : Array Bool} {a : Act} {w : World} (hi : ops[i]? = some oi) (hs : Region.noSelect ops = true) (hf : Region.free md ops listed i = true) (hr : (Region.ready md ops listed).contains i = true)
    (hQ : ∀ c a w, Q (.panic c) (a.put oi.dst v) w → Q (.panic c) a w) (hw : Region.wanted oi (yielded ops a.tmps) = true) (f : FuncId) (args : Array Value) (he : ∀ w, (execOp a.eval oi).run P w = .ok (.enter f args) w) (hc : ∀ w, S w → Calls P f args w fun e w' => e = .returned v ∧ w = w') (hS : S w)
    (h : wpAnyH P md ops Q S fuel (listed.setIfInBounds i true) (a.put oi.dst v) w) : wpAnyH P md ops Q S (fuel + 1) listed a w :=
  wpAnyH_takeCall hi hs hQ fuel listed a w (Region.free_spec hi hf) (by simpa using hr) ⟨hw, f, args, fun w hS => ⟨he w, hc w hS⟩⟩ hS h
end
end Go.Proofs.YtanlnelfbfjelaaDoor
