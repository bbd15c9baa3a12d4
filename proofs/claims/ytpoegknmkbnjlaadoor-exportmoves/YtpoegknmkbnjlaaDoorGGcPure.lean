import Derived.WalkKit
import Derived.Shelf.Small.Strs
import Derived.Shelf.LaysM
import Derived.Shelf.Strings.Search1
import Derived.Shelf.Bits.Mul64
import Derived.Test.YtpoegknmkbnjlaaDoorProg
import Derived.WalkSpells
import Derived.WalkLawsBesides
import Derived.Laws.OwnMore
import Derived.Laws.CopyOwn
import Derived.Below
import Derived.Deep.RegionHeld3
import Derived.Deep.QuietTactic
import Derived.BigQuiet
import Derived.Deep.DeepCutAuto
import Derived.Deep.WholeRow
import Derived.Maps.AppendAt
namespace Go.Proofs.YtpoegknmkbnjlaaDoor
/-- a node: its zone, its partitions -/
structure ND where
  z : Int
  ps : List Int
instance : Inhabited ND := ⟨⟨0, []⟩⟩
def flat (ns : List ND) : List Int := ns.flatMap fun n => n.ps
theorem flat_append (a b : List ND) : flat (a ++ b) = flat a ++ flat b := List.flatMap_append
theorem flat_one (n : ND) : flat [n] = n.ps := by simp [flat]
def cntI (k : Int) : List Int → Nat
  | [] => 0
  | x :: r => (if x = k then 1 else 0) + cntI k r
theorem cntI_append (k : Int) (a b : List Int) : cntI k (a ++ b) = cntI k a + cntI k b := by
  induction a with
  | nil => simp [cntI]
  | cons x r ih => simp only [List.cons_append, cntI, ih]; omega
theorem cntI_mem {k : Int} {l : List Int} : 0 < cntI k l ↔ k ∈ l := by
  induction l with
  | nil => simp [cntI]
  | cons x r ih =>
    simp only [cntI, List.mem_cons]
    by_cases e : x = k
    · rw [if_pos e]
      constructor
      · intro _
        exact Or.inl e.symm
      · intro _
        omega
    · rw [if_neg e, Nat.zero_add, ih]
      constructor
      · exact Or.inr
      · rintro (h | h)
        · exact absurd h.symm e
        · exact h
theorem cntI_zero {k : Int} {l : List Int} : cntI k l = 0 ↔ k ∉ l := by
  rw [← cntI_mem]
  omega
theorem cntI_perm {k : Int} {a b : List Int} (h : a.Perm b) : cntI k a = cntI k b := by
  induction h with
  | nil => rfl
  | cons x _ ih => simp only [cntI, ih]
  | swap x y l => simp only [cntI]; omega
  | trans _ _ i j => exact i.trans j
/-- all of 0 to p - 1 stand in a list of p: then it has nothing else, and nothing twice -/
theorem all_once : ∀ (p : Nat) (l : List Int), l.length = p → (∀ i : Nat, i < p → (i : Int) ∈ l) → (∀ x ∈ l, 0 ≤ x ∧ x < (p : Int)) ∧ ∀ k, cntI k l ≤ 1 := by
  intro p
  induction p with
  | zero =>
    intro l hl _
    obtain rfl := List.length_eq_zero_iff.1 hl
    exact ⟨fun x hx => by simp at hx, fun k => by simp [cntI]⟩
  | succ p ih =>
    intro l hl hm
    have hp : (p : Int) ∈ l := hm p (by omega)
    have pe := List.perm_cons_erase hp
    have le : (l.erase (p : Int)).length = p := by
      have := pe.length_eq
      simp at this
      omega
    have hm' : ∀ i : Nat, i < p → (i : Int) ∈ l.erase (p : Int) := fun i hi => by
      have := pe.mem_iff.1 (hm i (by omega))
      rcases List.mem_cons.1 this with h | h
      · omega
      · exact h
    obtain ⟨r1, r2⟩ := ih _ le hm'
    refine ⟨fun x hx => ?_, fun k => ?_⟩
    · rcases List.mem_cons.1 (pe.mem_iff.1 hx) with h | h
      · omega
      · have := r1 x h
        omega
    · rw [cntI_perm pe]
      simp only [cntI]
      by_cases e : (p : Int) = k
      · rw [if_pos e, cntI_zero.2 (fun h => by have := r1 k h; omega)]
        omega
      · rw [if_neg e]
        have := r2 k
        omega
theorem few_in : ∀ (p : Nat) (l : List Int), (∀ x ∈ l, 0 ≤ x ∧ x < (p : Int)) → (∀ k, cntI k l ≤ 1) → l.length ≤ p := by
  intro p
  induction p with
  | zero =>
    intro l h _
    cases l with
    | nil => exact Nat.le_refl _
    | cons x r => have := h x (by simp); omega
  | succ p ih =>
    intro l h1 h2
    by_cases hp : (p : Int) ∈ l
    · have pe := List.perm_cons_erase hp
      have le : l.length = (l.erase (p : Int)).length + 1 := by
        have := pe.length_eq
        simpa using this
      have k2 : ∀ k, cntI k (l.erase (p : Int)) ≤ 1 := fun k => by
        have := h2 k
        rw [cntI_perm pe] at this
        simp only [cntI] at this
        omega
      have np : (p : Int) ∉ l.erase (p : Int) := by
        have := h2 (p : Int)
        rw [cntI_perm pe] at this
        simp only [cntI, if_true] at this
        exact cntI_zero.1 (by omega)
      have k1 : ∀ x ∈ l.erase (p : Int), 0 ≤ x ∧ x < (p : Int) := fun x hx => by
        have := h1 x (List.mem_of_mem_erase hx)
        have ne : x ≠ (p : Int) := fun e => np (e ▸ hx)
        omega
      have := ih _ k1 k2
      omega
    · have := ih l (fun x hx => by
        have := h1 x hx
        have ne : x ≠ (p : Int) := fun e => hp (e ▸ hx)
        omega) h2
      omega
theorem once_all : ∀ (p : Nat) (l : List Int), l.length = p → (∀ x ∈ l, 0 ≤ x ∧ x < (p : Int)) → (∀ k, cntI k l ≤ 1) → ∀ i : Nat, i < p → cntI (i : Int) l = 1 := by
  intro p l hl h1 h2 i hi
  have : 0 < cntI (i : Int) l := by
    apply Classical.byContradiction
    intro hn
    have hz : cntI (i : Int) l = 0 := by omega
    -- i :: l has p + 1 of p
    have := few_in p ((i : Int) :: l) (fun x hx => by
      rcases List.mem_cons.1 hx with e | e
      · omega
      · exact h1 x e) (fun k => by
      simp only [cntI]
      by_cases e : (i : Int) = k
      · subst e
        rw [if_pos rfl, hz]
        omega
      · rw [if_neg e]
        have := h2 k
        omega)
    simp at this
    omega
  have := h2 (i : Int)
  omega
def Rising (l : List Int) : Prop := ∀ j (h : j + 1 < l.length), l[j] < l[j + 1]
/-- the document's dealt -/
structure Dealt (ns : List ND) : Prop where
  p1 : 1 ≤ (flat ns).length
  p2 : (flat ns).length ≤ 64
  once : ∀ i : Nat, i < (flat ns).length → cntI (i : Int) (flat ns) = 1
  rise : ∀ n ∈ ns, Rising n.ps
/-- the node that has a partition in its list; -1: none has -/
def ownF (k : Int) : Nat → List ND → Int
  | _, [] => -1
  | i, n :: r => if k ∈ n.ps then (i : Int) else ownF k (i + 1) r
theorem ownF_in {k : Int} {i : Nat} {n : ND} {r : List ND} (h : k ∈ n.ps) : ownF k i (n :: r) = (i : Int) := by simp [ownF, h]
theorem ownF_out {k : Int} {i : Nat} {n : ND} {r : List ND} (h : k ∉ n.ps) : ownF k i (n :: r) = ownF k (i + 1) r := by simp [ownF, h]
theorem flat_cons (n : ND) (r : List ND) : flat (n :: r) = n.ps ++ flat r := by simp [flat]
theorem ownF_none {k : Int} {i : Nat} {ns : List ND} : ownF k i ns = -1 ↔ k ∉ flat ns := by
  induction ns generalizing i with
  | nil => simp [ownF, flat]
  | cons n r ih =>
    rw [flat_cons, List.mem_append]
    by_cases e : k ∈ n.ps
    · rw [ownF_in e]
      constructor
      · intro h
        omega
      · intro h
        exact absurd (Or.inl e) h
    · rw [ownF_out e, ih]
      constructor
      · rintro h (h' | h')
        · exact e h'
        · exact h h'
      · intro h h'
        exact h (Or.inr h')
theorem ownF_append (k : Int) (i : Nat) (ns : List ND) (n : ND) : ownF k i (ns ++ [n]) = if ownF k i ns = -1 then (if k ∈ n.ps then ((i + ns.length : Nat) : Int) else -1) else ownF k i ns := by
  induction ns generalizing i with
  | nil => simp [ownF]
  | cons m r ih =>
    rw [List.cons_append]
    by_cases e : k ∈ m.ps
    · rw [ownF_in e, ownF_in e, if_neg (by omega)]
    · rw [ownF_out e, ownF_out e, ih, show i + 1 + r.length = i + (m :: r).length by simp; omega]
/-- nodes up to i, and j partitions of the node i -/
def preN (ns : List ND) (i j : Nat) : List ND := ns.take i ++ [⟨0, (ns[i]?.getD default).ps.take j⟩]
/-- so far all is well -/
structure Fine (ns : List ND) (i j : Nat) : Prop where
  rng : ∀ x ∈ flat (preN ns i j), 0 ≤ x ∧ x < ((flat ns).length : Int)
  one : ∀ k, cntI k (flat (preN ns i j)) ≤ 1
  ris : ∀ q (h : q < ns.length), q < i → Rising ns[q].ps
  now : Rising ((ns[i]?.getD default).ps.take j)
def lastP (ns : List ND) (i j : Nat) : Int := if j = 0 then -1 else (ns[i]?.getD default).ps[j - 1]?.getD 0
theorem Fine.start (ns : List ND) : Fine ns 0 0 := by
  refine ⟨fun x hx => ?_, fun k => ?_, fun q _ h => by omega, fun j h => ?_⟩
  · simp [preN, flat] at hx
  · simp [preN, flat, cntI]
  · simp at h
theorem preN_next {ns : List ND} {i : Nat} (hi : i < ns.length) : flat (preN ns i ns[i].ps.length) = flat (preN ns (i + 1) 0) := by
  unfold preN
  rw [List.getElem?_eq_getElem hi, Option.getD_some, List.take_length, flat_append, flat_append, flat_one, flat_one, List.take_succ_eq_append_getElem hi, flat_append, flat_one]
  simp
theorem Fine.next {ns : List ND} {i : Nat} (hi : i < ns.length) (h : Fine ns i ns[i].ps.length) : Fine ns (i + 1) 0 := by
  have e := preN_next hi
  refine ⟨fun x hx => h.rng x (by rw [e]; exact hx), fun k => by rw [← e]; exact h.one k, fun q hq hqi => ?_, fun j hj => ?_⟩
  · by_cases hq' : q < i
    · exact h.ris q hq hq'
    · obtain rfl : q = i := by omega
      have := h.now
      rw [List.getElem?_eq_getElem hi, Option.getD_some, List.take_length] at this
      exact this
  · simp at hj
theorem preN_step {ns : List ND} {i j : Nat} (hi : i < ns.length) (hj : j < ns[i].ps.length) : flat (preN ns i (j + 1)) = flat (preN ns i j) ++ [ns[i].ps[j]] := by
  unfold preN
  rw [List.getElem?_eq_getElem hi, Option.getD_some, flat_append, flat_append, flat_one, flat_one, List.take_succ_eq_append_getElem hj, List.append_assoc]
theorem Fine.step {ns : List ND} {i j : Nat} (h : Fine ns i j) (hi : i < ns.length) (hj : j < ns[i].ps.length) (h1 : lastP ns i j < ns[i].ps[j]) (h2 : ns[i].ps[j] < ((flat ns).length : Int)) (h3 : ownF ns[i].ps[j] 0 (preN ns i j) = -1) : Fine ns i (j + 1) := by
  have hge : 0 ≤ ns[i].ps[j] := by
    unfold lastP at h1
    by_cases j0 : j = 0
    · rw [if_pos j0] at h1
      omega
    · rw [if_neg j0, List.getElem?_eq_getElem hi, Option.getD_some, List.getElem?_eq_getElem (by omega), Option.getD_some] at h1
      have hm : ns[i].ps[j - 1] ∈ flat (preN ns i j) := by
        unfold preN
        rw [List.getElem?_eq_getElem hi, Option.getD_some, flat_append, flat_one]
        refine List.mem_append_right _ ?_
        rw [List.mem_take_iff_getElem]
        exact ⟨j - 1, by omega, rfl⟩
      have := (h.rng _ hm).1
      omega
  have e := preN_step hi hj
  refine ⟨fun x hx => ?_, fun k => ?_, h.ris, ?_⟩
  · rw [e] at hx
    rcases List.mem_append.1 hx with hx | hx
    · exact h.rng x hx
    · simp at hx
      subst hx
      exact ⟨hge, h2⟩
  · rw [e, cntI_append]
    have k1 := h.one k
    simp only [cntI]
    by_cases ek : ns[i].ps[j] = k
    · rw [if_pos ek, ← ek, cntI_zero.2 (ownF_none.1 h3)]
      omega
    · rw [if_neg ek]
      omega
  · have hnow := h.now
    rw [List.getElem?_eq_getElem hi, Option.getD_some] at hnow ⊢
    intro q hq
    have hl : (ns[i].ps.take (j + 1)).length = j + 1 := by rw [List.length_take]; omega
    rw [hl] at hq
    rw [List.getElem_take, List.getElem_take]
    by_cases hqj : q + 1 < j
    · have := hnow q (by rw [List.length_take]; omega)
      rw [List.getElem_take, List.getElem_take] at this
      exact this
    · have hq1 : q + 1 = j := by omega
      subst hq1
      unfold lastP at h1
      rw [if_neg (by omega), List.getElem?_eq_getElem hi, Option.getD_some, Nat.add_sub_cancel, List.getElem?_eq_getElem (by omega), Option.getD_some] at h1
      exact h1
theorem flat_pre_all (ns : List ND) : flat (preN ns ns.length 0) = flat ns := by
  unfold preN
  rw [flat_append, flat_one, List.take_length]
  simp
/-- all went well: then each is dealt once -/
theorem Fine.dealt {ns : List ND} (h : Fine ns ns.length 0) (p1 : 1 ≤ (flat ns).length) (p2 : (flat ns).length ≤ 64) : Dealt ns := by
  refine ⟨p1, p2, ?_, fun n hn => ?_⟩
  · exact once_all _ _ rfl (fun x hx => h.rng x (by rw [flat_pre_all]; exact hx)) (fun k => by have := h.one k; rw [flat_pre_all] at this; exact this)
  · obtain ⟨q, hq, rfl⟩ := List.getElem_of_mem hn
    exact h.ris q hq hq
theorem Dealt.all {ns : List ND} (h : Dealt ns) : (∀ x ∈ flat ns, 0 ≤ x ∧ x < ((flat ns).length : Int)) ∧ ∀ k, cntI k (flat ns) ≤ 1 :=
  all_once _ _ rfl (fun i hi => cntI_mem.1 (by rw [h.once i hi]; omega))
theorem mem_flat {ns : List ND} {i j : Nat} (hi : i < ns.length) (hj : j < ns[i].ps.length) : ns[i].ps[j] ∈ flat ns := by
  unfold flat
  exact List.mem_flatMap.2 ⟨ns[i], List.getElem_mem hi, List.getElem_mem hj⟩
theorem flat_split {ns : List ND} {i : Nat} (hi : i < ns.length) (j : Nat) : ∃ r, flat ns = flat (preN ns i j) ++ (ns[i].ps.drop j ++ r) := by
  refine ⟨flat (ns.drop (i + 1)), ?_⟩
  unfold preN
  rw [List.getElem?_eq_getElem hi, Option.getD_some, flat_append, flat_one, List.append_assoc, ← List.append_assoc (ns[i].ps.take j), List.take_append_drop]
  have : ns = ns.take i ++ ([ns[i]] ++ ns.drop (i + 1)) := by
    rw [← List.append_assoc, ← List.take_succ_eq_append_getElem hi, List.take_append_drop]
  conv => lhs; rw [this, flat_append, flat_append, flat_one]
/-- one went ill: then they are not dealt -/
theorem not_dealt {ns : List ND} {i j : Nat} (hi : i < ns.length) (hj : j < ns[i].ps.length) (hb : ns[i].ps[j] ≤ lastP ns i j ∨ ((flat ns).length : Int) ≤ ns[i].ps[j] ∨ ownF ns[i].ps[j] 0 (preN ns i j) ≠ -1) : ¬ Dealt ns := by
  intro h
  obtain ⟨a1, a2⟩ := h.all
  have hm := a1 _ (mem_flat hi hj)
  rcases hb with hb | hb | hb
  · unfold lastP at hb
    by_cases j0 : j = 0
    · rw [if_pos j0] at hb
      omega
    · rw [if_neg j0, List.getElem?_eq_getElem hi, Option.getD_some, List.getElem?_eq_getElem (by omega), Option.getD_some] at hb
      have := h.rise ns[i] (List.getElem_mem hi) (j - 1) (by omega)
      have e : j - 1 + 1 = j := by omega
      simp only [e] at this
      omega
  · omega
  · have hin : ns[i].ps[j] ∈ flat (preN ns i j) := by
      apply Classical.byContradiction
      intro hn
      exact hb (ownF_none.2 hn)
    obtain ⟨r, hr⟩ := flat_split hi j
    have c := a2 ns[i].ps[j]
    rw [hr, cntI_append, cntI_append] at c
    have c1 := cntI_mem.2 hin
    have c2 : 0 < cntI ns[i].ps[j] (ns[i].ps.drop j) := cntI_mem.2 (by
      rw [List.mem_drop_iff_getElem]
      exact ⟨0, by omega, by simp⟩)
    omega
end Go.Proofs.YtpoegknmkbnjlaaDoor
namespace Go.Proofs
open Go.Shelf Go.RowKit
def Tryd.lays137_ren : Go.Shelf.Ren := ⟨fun | 137 => 74 | 217 => 76 | 266 => 79 | n => n, fun | 9 => 9 | 5 => 5 | 3 => 3 | n => n, fun | n => n⟩
theorem Tryd.lays137 : Go.Proofs.Lays.n137 Tryd.prog Tryd.lays137_ren := {
  mixed := by kernel_rfl
  f137 := Tryd.func74.trans (congrArg some (by kernel_rfl))
  f217 := Tryd.func76.trans (congrArg some (by kernel_rfl))
  f266 := Tryd.func79.trans (congrArg some (by kernel_rfl))
  t3 := Tryd.underlying3
  a3 := Tryd.isAgg3
  z3 := Tryd.sizeOf3
  v3 := Tryd.zeroValue3
  t5 := Tryd.underlying5
  a5 := Tryd.isAgg5
  z5 := Tryd.sizeOf5
  v5 := Tryd.zeroValue5
  t9 := Tryd.underlying9
  a9 := Tryd.isAgg9
  z9 := Tryd.sizeOf9
  v9 := Tryd.zeroValue9 }
open Go.RowKit in
theorem Tryd.strings_IndexByte (s : ByteArray) (c : Int) (w : World) :
    Calls Tryd.prog 74 #[.string s, .int .u8 c] w fun e w' => e = .returned (.int .i64 (Lib.indexByte s.data.toList c.toNat.toUInt8)) ∧ w' = w := Any.strings_IndexByte Tryd.lays137 s c w
def Tryd.lays212_ren : Go.Shelf.Ren := ⟨fun | 212 => 75 | 263 => 77 | 264 => 78 | n => n, fun | 46 => 125 | 51 => 130 | 146 => 131 | 53 => 133 | 148 => 134 | n => n, fun | n => n⟩
theorem Tryd.lays212 : Go.Proofs.Lays.n212 Tryd.prog Tryd.lays212_ren := {
  mixed := by kernel_rfl
  f212 := Tryd.func75.trans (congrArg some (by kernel_rfl))
  f263 := Tryd.func77.trans (congrArg some (by kernel_rfl))
  f264 := Tryd.func78.trans (congrArg some (by kernel_rfl))
  t46 := Tryd.underlying125
  a46 := Tryd.isAgg125
  z46 := Tryd.sizeOf125
  v46 := Tryd.zeroValue125
  t51 := Tryd.underlying130
  a51 := Tryd.isAgg130
  z51 := Tryd.sizeOf130
  v51 := Tryd.zeroValue130
  t53 := Tryd.underlying133
  a53 := Tryd.isAgg133
  z53 := Tryd.sizeOf133
  v53 := Tryd.zeroValue133
  t146 := Tryd.underlying131
  a146 := Tryd.isAgg131
  z146 := Tryd.sizeOf131
  v146 := Tryd.zeroValue131
  t148 := Tryd.underlying134
  a148 := Tryd.isAgg134
  z148 := Tryd.sizeOf134
  v148 := Tryd.zeroValue134 }
open Go.RowKit Go.Lib in
theorem Tryd.bits_Mul (x y : Nat) (hx : x < 18446744073709551616) (hy : y < 18446744073709551616) (w : World) :
    Calls Tryd.prog 75 #[.int .u64 x, .int .u64 y] w fun e w' => e = .returned (.tuple #[.int .u64 ((x * y / 18446744073709551616 : Nat) : Int), .int .u64 ((x * y % 18446744073709551616 : Nat) : Int)]) ∧ w' = w := Any.bits_Mul Tryd.lays212 x y hx hy w
end Go.Proofs
namespace Go.Proofs.YtpoegknmkbnjlaaDoor
open Go.RowKit
theorem hide {p : Prop} (h : p) : Hid p := h
theorem i64_in {x : Int} (h0 : -9223372036854775808 ≤ x) (h1 : x < 9223372036854775808) : IntKind.i64.wrap x = x := by
  simp [IntKind.wrap, IntKind.signed, IntKind.bits]; omega
theorem wrap_in {x : Int} (h0 : -9223372036854775808 ≤ x) (h1 : x < 9223372036854775808) : wrap64 x = x := by unfold wrap64; omega
theorem blk_lt {w : World} {b : Nat} {o : Obj} (h : w.heap[b]? = some o) : b < w.heap.size := (Array.getElem?_eq_some_iff.1 h).1
theorem heap_last (w : World) (o : Obj) : (w.alloc o).heap[w.heap.size]? = some o := by
  unfold World.alloc
  exact Array.getElem?_push_size
theorem ret_bool {a b : Bool} (h : a = b) : (Ending.returned (.bool a)) = .returned (.bool b) := by rw [h]
/-- partitions, as they lie there -/
structure PsAt (N : Nat) (w : World) (ao : Option Addr) (b o : Nat) (L : List Int) : Prop where
  at0 : 0 < L.length → ao = some ⟨b, o, none⟩
  lt : 0 < L.length → b < N
  c : ∀ (q : Nat) (h : q < L.length), w.cell? ⟨b, o + q, none⟩ = some (.int .i64 L[q])
  len : L.length ≤ 17592186043904
def Pv (N : Nat) (w : World) (v : Value) (L : List Int) : Prop := ∃ ao b o cap, v = .slice ao L.length cap ∧ PsAt N w ao b o L
/-- nodes, as they lie there -/
structure NsAt (N : Nat) (w : World) (ao : Option Addr) (b o : Nat) (pv : Nat → Value) (ns : List ND) : Prop where
  at0 : 0 < ns.length → ao = some ⟨b, o, none⟩
  lt : 0 < ns.length → b < N
  cz : ∀ (q : Nat) (h : q < ns.length), w.cell? ⟨b, o + q * 2, none⟩ = some (.int .i64 ns[q].z)
  cp : ∀ (q : Nat) (_ : q < ns.length), w.cell? ⟨b, o + q * 2 + 1, none⟩ = some (pv q)
  ps : ∀ (q : Nat) (h : q < ns.length), Pv N w (pv q) ns[q].ps
  len : ns.length ≤ 4398046510976
  nl : ∀ (q : Nat) (h : q < ns.length) (c : Nat), pv q = .slice none ns[q].ps.length c → c = 0
theorem PsAt.below {N : Nat} {w w' : World} {ao : Option Addr} {b o : Nat} {L : List Int} (h : PsAt N w ao b o L) (hb : Below N w w') : PsAt N w' ao b o L :=
  ⟨h.at0, h.lt, fun q hq => (hb.cell (h.lt (by omega))).trans (h.c q hq), h.len⟩
theorem Pv.below {N : Nat} {w w' : World} {v : Value} {L : List Int} (h : Pv N w v L) (hb : Below N w w') : Pv N w' v L := by
  obtain ⟨ao, b, o, cap, e, hp⟩ := h
  exact ⟨ao, b, o, cap, e, hp.below hb⟩
theorem NsAt.below {N : Nat} {w w' : World} {ao : Option Addr} {b o : Nat} {pv : Nat → Value} {ns : List ND} (h : NsAt N w ao b o pv ns) (hb : Below N w w') : NsAt N w' ao b o pv ns :=
  ⟨h.at0, h.lt, fun q hq => (hb.cell (h.lt (by omega))).trans (h.cz q hq), fun q hq => (hb.cell (h.lt (by omega))).trans (h.cp q hq), fun q hq => (h.ps q hq).below hb, h.len, h.nl⟩
theorem PsAt.more {N N' : Nat} {w : World} {ao : Option Addr} {b o : Nat} {L : List Int} (h : PsAt N w ao b o L) (hN : N ≤ N') : PsAt N' w ao b o L :=
  ⟨h.at0, fun q => Nat.lt_of_lt_of_le (h.lt q) hN, h.c, h.len⟩
theorem Pv.more {N N' : Nat} {w : World} {v : Value} {L : List Int} (h : Pv N w v L) (hN : N ≤ N') : Pv N' w v L := by
  obtain ⟨ao, b, o, cap, e, hp⟩ := h
  exact ⟨ao, b, o, cap, e, hp.more hN⟩
theorem NsAt.more {N N' : Nat} {w : World} {ao : Option Addr} {b o : Nat} {pv : Nat → Value} {ns : List ND} (h : NsAt N w ao b o pv ns) (hN : N ≤ N') : NsAt N' w ao b o pv ns :=
  ⟨h.at0, fun q => Nat.lt_of_lt_of_le (h.lt q) hN, h.cz, h.cp, fun q hq => (h.ps q hq).more hN, h.len, h.nl⟩
/-- a zone that may be -/
def zOk (n : ND) : Bool := decide (0 ≤ n.z) && decide (n.z ≤ 7)
def nfP (ns : List ND) : Bool := decide (1 ≤ ns.length) && decide (ns.length ≤ 16) && ns.all zOk
set_option linter.unusedVariables false in
theorem all_take {α : Type} {f : α → Bool} {l : List α} {q : Nat} (h : q < l.length) (hq : (l.take q).all f = true) (hf : f l[q] = true) : (l.take (q + 1)).all f = true := by
  rw [List.take_succ_eq_append_getElem h, List.all_append, hq]
  simp [hf]
set_option linter.unusedVariables false in
theorem all_no {α : Type} {f : α → Bool} {l : List α} {q : Nat} (h : q < l.length) (hf : f l[q] = false) : l.all f = false := List.all_eq_false.2 ⟨l[q], List.getElem_mem h, by rw [hf]; simp⟩
set_option maxHeartbeats 8000000 in
set_option maxRecDepth 100000 in
set_option linter.unusedSimpArgs false in
set_option linter.unusedVariables false in
theorem nodesFit_any (N : Nat) (w : World) (ao : Option Addr) (b o cap : Nat) (pv : Nat → Value) (ns : List ND) (h : NsAt N w ao b o pv ns) (hN : N ≤ w.heap.size) :
    Calls Tryd.prog 58 #[.slice ao ns.length cap] w fun e w' => e = .returned (.bool (nfP ns)) ∧ Below w.heap.size w w' := by
  have hmx : ns.length ≤ 9223372036854775807 := by have := h.len; omega
  by_cases h1 : ns.length < 1
  · have hr : nfP ns = false := by unfold nfP; rw [decide_eq_false (by omega)]; rfl
    have h1' : (ns.length : Int) < 1 := by omega
    rw [hr]
    clear hr h
    go_enter Tryd.func58, Tryd.ntmps58
    go_wp2_with fail
    go_ret
    exact ⟨rfl, Below.refl _ _⟩
  by_cases h2 : 16 < ns.length
  · have hr : nfP ns = false := by unfold nfP; rw [decide_eq_false (by omega : ¬ ns.length ≤ 16), Bool.and_false]; rfl
    have h1' : ¬ (ns.length : Int) < 1 := by omega
    have h2' : (16 : Int) < (ns.length : Int) := by omega
    rw [hr]
    clear hr h
    go_enter Tryd.func58, Tryd.ntmps58
    go_wp2_with fail
    go_ret
    exact ⟨rfl, Below.refl _ _⟩
  have hr : nfP ns = ns.all zOk := by unfold nfP; rw [decide_eq_true (by omega), decide_eq_true (by omega)]; rfl
  rw [hr]
  have h1' : ¬ (ns.length : Int) < 1 := by omega
  have h2' : ¬ (16 : Int) < (ns.length : Int) := by omega
  have HN := hide h
  clear hr h
  obtain ⟨R, hR⟩ : ∃ R, R = ns.all zOk := ⟨_, rfl⟩
  rw [← hR]
  have HR := hide hR
  clear hR
  go_enter Tryd.func58, Tryd.ntmps58
  go_wp2_with fail
  go_loopw [15] (fun vi wr => ∃ (q : Nat), q ≤ ns.length ∧ vi = .int .i64 (q : Int) ∧ Hid ((ns.take q).all zOk = true) ∧ Below w.heap.size w wr) (fun vi _ => ns.length - (intOf vi).toNat)
  case atStart => exact ⟨0, Nat.zero_le _, rfl, rfl, Below.refl _ _⟩
  case round =>
    obtain ⟨q, hq, rfl, hA, hB⟩ := hrel
    have HB := hide hB
    clear hB
    by_cases hql : q < ns.length
    case pos =>
      have hao := HN.out.at0 (by omega)
      subst hao
      have hqi : (q : Int) < (ns.length : Int) := by omega
      have NW := HN.out.below (HB.out.mono hN)
      have e0 := NW.cz q hql
      have e1 := NW.cp q hql
      have HT := hide (all_take hql hA.out)
      have HF := hide (all_no (f := zOk) hql)
      obtain ⟨pa, pb, po, pc, hpv, _⟩ := NW.ps q hql
      rw [hpv] at e1
      clear NW hpv
      have hz : Hid (zOk ns[q] = (decide (0 ≤ ns[q].z) && decide (ns[q].z ≤ 7))) := rfl
      generalize ns[q].z = z at *
      generalize ns[q].ps.length = pl at *
      by_cases z0 : z < 0
      · have HZ := hide (HF.out (by rw [hz.out, decide_eq_false (by omega)]; rfl))
        have BZ := hide (HB.out.alloc HB.out.size (.cells #[.int .i64 z, .slice pa pl pc] 50))
        go_wp2_with fail
        go_ret
        exact ⟨by rw [HR.out, HZ.out]; rfl, BZ.out⟩
      · by_cases z1 : 7 < z
        · have HZ := hide (HF.out (by rw [hz.out, decide_eq_false (by omega : ¬ z ≤ 7), Bool.and_false]))
          have BZ := hide (HB.out.alloc HB.out.size (.cells #[.int .i64 z, .slice pa pl pc] 50))
          go_wp2_with fail
          go_ret
          exact ⟨by rw [HR.out, HZ.out]; rfl, BZ.out⟩
        · have HZ := hide (HT.out (by rw [hz.out, decide_eq_true (by omega), decide_eq_true (by omega)]; rfl))
          have BZ := hide (HB.out.alloc HB.out.size (.cells #[.int .i64 z, .slice pa pl pc] 50))
          go_wp2_with fail
          go_roundw
          case rel => exact ⟨q + 1, by omega, by go_num, HZ.out, BZ.out⟩
          case measure => simp [intOf]; omega
    case neg =>
      obtain rfl : q = ns.length := by omega
      have hA' := hA.out
      rw [List.take_length] at hA'
      have HA := hide hA'
      clear hA' hA
      go_wp2_with fail
      go_ret
      exact ⟨by rw [HR.out, HA.out]; rfl, HB.out⟩
end Go.Proofs.YtpoegknmkbnjlaaDoor
namespace Go.Proofs.YtpoegknmkbnjlaaDoor
open Go.RowKit
/-- n of p cells are -1 -/
def repN (n p : Nat) : List Value := List.replicate n (.int .i64 (-1)) ++ List.replicate (p - n) (.int .i64 0)
theorem repN_len (n p : Nat) (h : n ≤ p) : (repN n p).length = p := by simp [repN]; omega
theorem repN_at (n p j : Nat) (h : j < n) : (repN n p)[j]? = some (.int .i64 (-1)) := by
  unfold repN
  rw [List.getElem?_append_left (by simpa using h), List.getElem?_replicate, if_pos h]
set_option linter.unusedVariables false in
theorem repN_splice (n m p : Nat) (h : n + m ≤ p) : splice (repN n p) n (List.replicate m (.int .i64 (-1))) = repN (n + m) p := by
  unfold splice repN
  have e1 : (List.replicate n (Value.int .i64 (-1)) ++ List.replicate (p - n) (Value.int .i64 0)).take n = List.replicate n (Value.int .i64 (-1)) := by
    rw [List.take_append_of_le_length (by simp)]
    simp
  have e2 : (List.replicate n (Value.int .i64 (-1)) ++ List.replicate (p - n) (Value.int .i64 0)).drop (n + (List.replicate m (Value.int .i64 (-1))).length) = List.replicate (p - (n + m)) (Value.int .i64 0) := by
    rw [List.length_replicate, List.drop_append]
    simp
    omega
  rw [e1, e2, ← List.append_assoc, List.replicate_append_replicate]
theorem row_whole {w : World} {base e g n : Nat} {xs : List Value} (h : w.ownsRow base e 1 (.slice (some ⟨g, 0, none⟩) n n) n xs) : w.heap[g]? = some (.cells xs.toArray e (0, 0)) := by
  rcases h.2 with ⟨hv, _⟩ | ⟨g', cap, cur, hv, _, hg, hnc, _, hcs, htake⟩
  · simp at hv
  · simp only [Value.slice.injEq, Option.some.injEq, Addr.mk.injEq, and_true, true_and] at hv
    obtain ⟨rfl, rfl⟩ := hv
    have : cur = xs.toArray := by
      rw [Nat.mul_one] at htake hcs
      have e1 : cur.toList = xs := by
        rw [← htake, List.take_of_length_le (by simp [hcs])]
      rw [← e1]
    rw [← this]
    exact hg
theorem infoInt : (Tryd.prog.info? 3).map (fun i => (i.zero, i.size, i.bytes)) = some (some (.int .i64 0), 1, 8) := by kernel_rfl
theorem info_parts {P : Program} {t : TypeId} {z : Option Value} {n b : Nat} (h : (P.info? t).map (fun i => (i.zero, i.size, i.bytes)) = some (z, n, b)) : ∃ i, P.info? t = some i ∧ i.zero = z ∧ i.size = n ∧ i.bytes = b := by
  obtain ⟨i, hi, hx⟩ := Option.map_eq_some_iff.1 h
  simp only [Prod.mk.injEq] at hx
  exact ⟨i, hi, hx.1, hx.2.1, hx.2.2⟩
theorem made_rep (p : Nat) : (madeCells (Value.int .i64 0).cells (p * 1)).toList = repN 0 p := by
  unfold repN madeCells
  simp [Value.cells]
  apply List.ext_getElem
  · simp
  · intro j h1 h2
    simp [Nat.mod_one]
set_option maxHeartbeats 8000000 in
set_option maxRecDepth 100000 in
set_option linter.unusedSimpArgs false in
set_option linter.unusedVariables false in
theorem repeat_any (w : World) (b0 c1 p : Nat) (hx : w.cell? ⟨b0, 0, none⟩ = some (.int .i64 (-1))) (hb : b0 < w.heap.size) (h1 : 1 ≤ p) (h2 : p ≤ 64) :
    Calls Tryd.prog 71 #[.slice (some ⟨b0, 0, none⟩) 1 c1, .int .i64 (p : Int)] w fun e w' => ∃ g, e = .returned (.slice (some ⟨g, 0, none⟩) p p) ∧ w'.heap[g]? = some (.cells (repN p p).toArray 3 (0, 0)) ∧ w.heap.size ≤ g ∧ Below w.heap.size w w' := by
  have MU := Tryd.bits_Mul 1 p (by omega) (by omega) w
  rw [Nat.one_mul, show p / 18446744073709551616 = 0 by omega, show p % 18446744073709551616 = p by omega] at MU
  have MU := hide MU
  rename_i MU0
  clear MU0
  obtain ⟨i0, hi0, hz0, hz1, hz2⟩ := info_parts infoInt
  have u1 : IntKind.u64.wrap (p : Int) = (p : Int) := by rw [IntKind.wrap_u64]; omega
  have u2 : IntKind.i64.wrap (p : Int) = (p : Int) := i64_in (by omega) (by omega)
  have p0 : ¬ (p : Int) < 0 := by omega
  have p1 : ¬ (9223372036854775807 : Int) < (p : Int) := by omega
  have HX := hide hx
  clear hx
  go_enter Tryd.func71, Tryd.ntmps71
  go_upto_region 7 with (first | (go_at_call 75; refine Calls.mono MU.out ?_; rintro e w1 ⟨rfl, hw⟩; have hw := hw.symm; subst hw; clear MU) | (at_make; refine wpList_make_full _ rfl _ _ 48 rfl w.heap.size 3 i0 (.int .i64 0) 1 Tryd.underlying48 hi0 hz0 hz1 _ _ _ _ p rfl rfl (by omega) (by omega) (by rw [hz2]; omega) (by unfold maxLen; omega) (Nat.le_refl _) ?_; intro w1 o1 g1; rw [made_rep] at o1; replace o1 := row_whole o1))
  have B1 : Hid (Below w.heap.size w w1) := ⟨g1.os, g1.tape, g1.output, g1.size, fun i hi => g1.block i hi (by simp)⟩
  have O1 := hide o1
  have XC : Hid (w1.cell? ⟨b0, 0, none⟩ = some (.int .i64 (-1))) := (B1.out.cell hb).trans HX.out
  clear g1 o1
  have s1 : Hid ((List.replicate 1 (Value.int .i64 (-1))).length = Nat.min 1 p) := by show _ = _; rw [List.length_replicate]; exact (Nat.min_eq_left h1).symm
  have s2 : Hid (0 + (List.replicate 1 (Value.int .i64 (-1))).length ≤ (repN 0 p).length) := by show _ ≤ _; rw [repN_len _ _ (by omega), List.length_replicate]; omega
  have s3 : Hid (∀ v ∈ List.replicate 1 (Value.int .i64 (-1)), v.oneCell' = true) := by intro v hv; rw [List.mem_replicate] at hv; rw [hv.2]; rfl
  have s4 : Hid (∀ j v, (List.replicate 1 (Value.int .i64 (-1)))[j]? = some v → w1.cell? ((⟨b0, 0, none⟩ : Addr).add j) = some v) := by
    intro j v hv
    rw [List.getElem?_replicate] at hv
    split at hv
    · obtain rfl : j = 0 := by omega
      rw [← hv]
      exact XC.out
    · cases hv
  go_wp2_with (refine wpList_copy_splice (by rfl) (.tmp 31) (.tmp 32) 48 48 (by rfl) 3 Tryd.underlying48 (by kernel_rfl) (some ⟨w.heap.size, 0, none⟩) (some ⟨b0, 0, none⟩) p p 1 c1 (by rfl) (by rfl) w.heap.size 0 (repN 0 p) 3 O1.out (List.replicate 1 (.int .i64 (-1))) s1.out (fun _ => ⟨rfl, _, rfl, s4.out⟩) s2.out s3.out w.heap.size w B1.out (Nat.le_refl _) ?_; intro w2 g2 b2)
  rw [repN_splice 0 1 p (by omega), Nat.zero_add] at g2
  have O2 := hide g2.out
  have B2 := hide b2
  clear g2 b2 O1 B1 XC s1 s2 s3 s4
  go_loopw [8] (fun vn wr => ∃ (n : Nat), 1 ≤ n ∧ n ≤ p ∧ vn = .int .i64 (n : Int) ∧ wr.heap[w.heap.size]? = some (.cells (repN n p).toArray 3 (0, 0)) ∧ Below w.heap.size w wr) (fun vn _ => p - (intOf vn).toNat)
  case atStart => exact ⟨1, by omega, by omega, rfl, O2.out, B2.out⟩
  case round =>
    clear O2 B2
    obtain ⟨n, n1, n2, rfl, hO, hB⟩ := hrel
    have OW := hide hO
    have BW := hide hB
    clear hO hB
    by_cases hn : n < p
    case pos =>
      have hni : (n : Int) < (p : Int) := by omega
      go_wp2_with fail
      obtain ⟨m, hm⟩ : ∃ m, m = Nat.min n (p - n) := ⟨_, rfl⟩
      have m1 : 1 ≤ m ∧ n + m ≤ p := by
        rw [hm]
        show 1 ≤ min n (p - n) ∧ n + min n (p - n) ≤ p
        omega
      have s1 : Hid ((List.replicate m (Value.int .i64 (-1))).length = Nat.min n (p - n)) := by show _ = _; rw [List.length_replicate]; exact hm
      have s2 : Hid (n + (List.replicate m (Value.int .i64 (-1))).length ≤ (repN n p).length) := by show _ ≤ _; rw [repN_len _ _ (by omega), List.length_replicate]; omega
      have s3 : Hid (∀ v ∈ List.replicate m (Value.int .i64 (-1)), v.oneCell' = true) := by intro v hv; rw [List.mem_replicate] at hv; rw [hv.2]; rfl
      have hmn : m ≤ n := by
        rw [hm]
        show min n (p - n) ≤ n
        omega
      have s4 : Hid (∀ j v, (List.replicate m (Value.int .i64 (-1)))[j]? = some v → wr.drew.cell? ((⟨w.heap.size, 0, none⟩ : Addr).add j) = some v) := by
        intro j v hv
        rw [List.getElem?_replicate] at hv
        split at hv
        · rw [← hv, Addr.add_mid, Nat.zero_add]
          have := repN_at n p j (by omega)
          unfold World.cell?
          rw [show wr.drew.heap[w.heap.size]? = _ from OW.out]
          simpa using this
        · cases hv
      have e1 : (p - n : Nat) = p - n := rfl
      have ew : IntKind.i64.wrap ((n : Int) + (m : Int)) = (n : Int) + (m : Int) := i64_in (by omega) (by omega)
      clear hm
      refine wp_region_held_drew (S := fun _ => True) (by kernel_rfl) trivial (fun hHeld => ?_)
      refine wpAnyH_take (i := 0) (v := (.int .i64 (n : Int))) rfl (by kernel_rfl) (by kernel_rfl) (by kernel_rfl) (fun _ _ _ h => h) (Or.inl ⟨by rfl, ?_⟩) (by assumption) ?_
      · intro w' hSw
        (try dsimp only at hSw)
        go_simp
      (try simp only [Act.put, List.setIfInBounds_toArray, List.set_cons_zero, List.set_cons_succ])
      refine wpAnyH_take (i := 1) (v := (.slice (some ⟨w.heap.size, 0, none⟩) p p)) rfl (by kernel_rfl) (by kernel_rfl) (by kernel_rfl) (fun _ _ _ h => h) (Or.inl ⟨by rfl, ?_⟩) (by assumption) ?_
      · intro w' hSw
        (try dsimp only at hSw)
        go_simp
      (try simp only [Act.put, List.setIfInBounds_toArray, List.set_cons_zero, List.set_cons_succ])
      refine wpAnyH_take (i := 2) (v := (.int .i64 (n : Int))) rfl (by kernel_rfl) (by kernel_rfl) (by kernel_rfl) (fun _ _ _ h => h) (Or.inl ⟨by rfl, ?_⟩) (by assumption) ?_
      · intro w' hSw
        (try dsimp only at hSw)
        go_simp
      (try simp only [Act.put, List.setIfInBounds_toArray, List.set_cons_zero, List.set_cons_succ])
      refine wpAnyH_take (i := 3) (v := (.slice (some ⟨w.heap.size, n, none⟩) (p - n) (p - n))) rfl (by kernel_rfl) (by kernel_rfl) (by kernel_rfl) (fun _ _ _ h => h) (Or.inl ⟨by rfl, ?_⟩) (by assumption) ?_
      · intro w' hSw
        (try dsimp only at hSw)
        (go_simp; try omega)
      (try simp only [Act.put, List.setIfInBounds_toArray, List.set_cons_zero, List.set_cons_succ])
      refine wpAnyH_take (i := 4) (v := (.slice (some ⟨w.heap.size, 0, none⟩) p p)) rfl (by kernel_rfl) (by kernel_rfl) (by kernel_rfl) (fun _ _ _ h => h) (Or.inl ⟨by rfl, ?_⟩) (by assumption) ?_
      · intro w' hSw
        (try dsimp only at hSw)
        go_simp
      (try simp only [Act.put, List.setIfInBounds_toArray, List.set_cons_zero, List.set_cons_succ])
      refine wpAnyH_take (i := 5) (v := (.int .i64 (n : Int))) rfl (by kernel_rfl) (by kernel_rfl) (by kernel_rfl) (fun _ _ _ h => h) (Or.inl ⟨by rfl, ?_⟩) (by assumption) ?_
      · intro w' hSw
        (try dsimp only at hSw)
        go_simp
      (try simp only [Act.put, List.setIfInBounds_toArray, List.set_cons_zero, List.set_cons_succ])
      refine wpAnyH_take (i := 6) (v := (.slice (some ⟨w.heap.size, 0, none⟩) n p)) rfl (by kernel_rfl) (by kernel_rfl) (by kernel_rfl) (fun _ _ _ h => h) (Or.inl ⟨by rfl, ?_⟩) (by assumption) ?_
      · intro w' hSw
        (try dsimp only at hSw)
        (go_simp; try omega)
      (try simp only [Act.put, List.setIfInBounds_toArray, List.set_cons_zero, List.set_cons_succ])
      refine wpAnyH_ready (rs := [7]) (by kernel_rfl) (by simp) ?_
      refine AllReadyH.cons rfl (fun K hK => ?_) AllReadyH.nil
      refine step_copy_splice (by rfl) (.tmp 41) (.tmp 44) 48 48 (by rfl) 3 Tryd.underlying48 (by kernel_rfl) (some ⟨w.heap.size, n, none⟩) (some ⟨w.heap.size, 0, none⟩) (p - n) (p - n) n p (by kernel_rfl) (by kernel_rfl) w.heap.size n (repN n p) 3 OW.out (List.replicate m (.int .i64 (-1))) s1.out (fun _ => ⟨rfl, _, rfl, s4.out⟩) s2.out s3.out w.heap.size w (BW.out.trans ⟨rfl, rfl, rfl, Nat.le_refl _, fun _ _ => rfl⟩) (Nat.le_refl _) ?_
      intro w2 g2 b2
      rw [repN_splice n m p m1.2] at g2
      rw [List.length_replicate]
      refine hK.out _ _ (trivial) (fun hHeld => ?_)
      clear hK
      (try simp only [Act.put, List.setIfInBounds_toArray, List.set_cons_zero, List.set_cons_succ])
      refine wpAnyH_take (i := 8) (v := (.int .i64 ((n : Int) + (m : Int)))) rfl (by kernel_rfl) (by kernel_rfl) (by kernel_rfl) (fun _ _ _ h => h) (Or.inl ⟨by rfl, ?_⟩) (by assumption) ?_
      · intro w' hSw
        (try dsimp only at hSw)
        go_simp
      (try simp only [Act.put, List.setIfInBounds_toArray, List.set_cons_zero, List.set_cons_succ])
      refine wpAnyH_ready (rs := [9]) (by kernel_rfl) (by simp) ?_
      refine AllReadyH.cons rfl (fun K hK => ?_) AllReadyH.nil
      go_simp
      refine hK.out _ _ (trivial) (fun hHeld => ?_)
      clear hK
      (try simp only [Act.put, List.setIfInBounds_toArray, List.set_cons_zero, List.set_cons_succ])
      refine wpAnyH_done (by kernel_rfl) ?_ _
      clear hHeld s1 s2 s3 s4 OW BW
      go_wp2_with fail
      go_roundw
      case rel => exact ⟨n + m, by omega, by omega, by go_num, g2.out, b2⟩
      case measure => simp [intOf]; omega
    case neg =>
      obtain rfl : n = p := by omega
      have hni : ¬ (n : Int) < (n : Int) := by omega
      go_wp2_with fail
      go_ret
      exact ⟨_, rfl, OW.out, Nat.le_refl _, BW.out⟩
end Go.Proofs.YtpoegknmkbnjlaaDoor
namespace Go.Proofs.YtpoegknmkbnjlaaDoor
open Go.RowKit
/-- the nodes that have a partition -/
def hasP (n : ND) : Bool := decide (0 < n.ps.length)
def kpN (ns : List ND) : Nat := (ns.filter hasP).length
theorem kpN_le (ns : List ND) : kpN ns ≤ ns.length := List.length_filter_le _ _
theorem kpN_take {ns : List ND} {q : Nat} (h : q < ns.length) : kpN (ns.take (q + 1)) = kpN (ns.take q) + (if 0 < ns[q].ps.length then 1 else 0) := by
  unfold kpN
  rw [List.take_succ_eq_append_getElem h, List.filter_append, List.length_append]
  congr 1
  unfold hasP
  rw [List.filter_cons]
  by_cases e : 0 < ns[q].ps.length
  · rw [if_pos (by simpa using e), if_pos e]
    rfl
  · rw [if_neg (by simpa using e), if_neg e]
    rfl
set_option maxHeartbeats 8000000 in
set_option maxRecDepth 100000 in
set_option linter.unusedSimpArgs false in
set_option linter.unusedVariables false in
theorem keeping_any (N : Nat) (w : World) (ao : Option Addr) (b o cap : Nat) (pv : Nat → Value) (ns : List ND) (h : NsAt N w ao b o pv ns) (hN : N ≤ w.heap.size) :
    Calls Tryd.prog 60 #[.slice ao ns.length cap] w fun e w' => e = .returned (.int .i64 (kpN ns : Int)) ∧ Below w.heap.size w w' := by
  have hmx : ns.length ≤ 9223372036854775807 := by have := h.len; omega
  have HN := hide h
  clear h
  go_enter Tryd.func60, Tryd.ntmps60
  go_wp2_with fail
  go_loopw [3, 8] (fun vc vi wr => ∃ (q : Nat), q ≤ ns.length ∧ vi = .int .i64 (q : Int) ∧ vc = .int .i64 (kpN (ns.take q) : Int) ∧ Below w.heap.size w wr) (fun _ vi _ => ns.length - (intOf vi).toNat)
  case atStart => exact ⟨0, Nat.zero_le _, rfl, rfl, Below.refl _ _⟩
  case round =>
    obtain ⟨q, hq, rfl, rfl, hB⟩ := hrel
    have HB := hide hB
    clear hB
    by_cases hql : q < ns.length
    case pos =>
      have hao := HN.out.at0 (by omega)
      subst hao
      have hqi : (q : Int) < (ns.length : Int) := by omega
      have NW := HN.out.below (HB.out.mono hN)
      have e0 := NW.cz q hql
      have e1 := NW.cp q hql
      have HT := hide (kpN_take hql)
      have hk := kpN_le (ns.take q)
      rw [List.length_take] at hk
      obtain ⟨pa, pb, po, pc, hpv, hp⟩ := NW.ps q hql
      have hpl := hp.len
      rw [hpv] at e1
      clear NW hpv hp
      generalize ns[q].z = z at *
      generalize ns[q].ps.length = pl at *
      have BZ := hide (HB.out.alloc HB.out.size (.cells #[.int .i64 z, .slice pa pl pc] 50))
      by_cases p0 : 0 < pl
      · have hT := HT.out
        rw [if_pos p0] at hT
        have HT2 := hide hT
        clear hT HT
        have p0' : (0 : Int) < (pl : Int) := by omega
        go_wp2_with fail
        go_roundw
        case rel => exact ⟨q + 1, by omega, by go_num, by rw [HT2.out]; simp, BZ.out⟩
        case measure => simp [intOf]; omega
      · have hT := HT.out
        rw [if_neg p0, Nat.add_zero] at hT
        have HT2 := hide hT
        clear hT HT
        have p0' : ¬ (0 : Int) < (pl : Int) := by omega
        go_wp2_with fail
        go_roundw
        case rel => exact ⟨q + 1, by omega, by go_num, by rw [HT2.out]; rfl, BZ.out⟩
        case measure => simp [intOf]; omega
    case neg =>
      obtain rfl : q = ns.length := by omega
      rw [List.take_length]
      go_wp2_with fail
      go_ret
      exact ⟨rfl, HB.out⟩
/-- the owners so far -/
def outP (ns : List ND) (i j : Nat) : List Value := (List.range (flat ns).length).map fun k : Nat => .int .i64 (ownF (k : Int) 0 (preN ns i j))
def outL (ns : List ND) : List Value := (List.range (flat ns).length).map fun k : Nat => .int .i64 (ownF (k : Int) 0 ns)
theorem outP_len (ns : List ND) (i j : Nat) : (outP ns i j).length = (flat ns).length := by simp [outP]
theorem outP_at (ns : List ND) (i j k : Nat) (h : k < (flat ns).length) : (outP ns i j)[k]? = some (.int .i64 (ownF (k : Int) 0 (preN ns i j))) := by
  unfold outP
  rw [List.getElem?_map, List.getElem?_range h]
  rfl
theorem outP_start (ns : List ND) : outP ns 0 0 = repN (flat ns).length (flat ns).length := by
  unfold outP repN
  rw [Nat.sub_self, List.replicate_zero, List.append_nil]
  apply List.ext_getElem
  · simp
  · intro k h1 h2
    simp [preN, ownF]
theorem own_pre (ns : List ND) (i j : Nat) (hi : i < ns.length) (k : Int) : ownF k 0 (preN ns i j) = if ownF k 0 (ns.take i) = -1 then (if k ∈ ns[i].ps.take j then (i : Int) else -1) else ownF k 0 (ns.take i) := by
  unfold preN
  rw [List.getElem?_eq_getElem hi, Option.getD_some, ownF_append, List.length_take, Nat.zero_add, Nat.min_eq_left (Nat.le_of_lt hi)]
theorem own_next (ns : List ND) (i : Nat) (hi : i < ns.length) (k : Int) : ownF k 0 (preN ns i ns[i].ps.length) = ownF k 0 (ns.take (i + 1)) := by
  rw [own_pre ns i _ hi, List.take_length, List.take_succ_eq_append_getElem hi, ownF_append, List.length_take, Nat.zero_add, Nat.min_eq_left (Nat.le_of_lt hi)]
theorem own_zero (ns : List ND) (i : Nat) (k : Int) : ownF k 0 (preN ns i 0) = ownF k 0 (ns.take i) := by
  unfold preN
  rw [List.take_zero, ownF_append]
  simp only [List.not_mem_nil, if_false]
  split <;> simp_all
theorem outP_next (ns : List ND) (i : Nat) (hi : i < ns.length) : outP ns i ns[i].ps.length = outP ns (i + 1) 0 := by
  unfold outP
  congr 1
  funext k
  rw [own_next ns i hi, own_zero]
theorem outP_end (ns : List ND) : outP ns ns.length 0 = outL ns := by
  unfold outP outL
  congr 1
  funext k
  rw [own_zero, List.take_length]
theorem outP_step (ns : List ND) (i j k : Nat) (hi : i < ns.length) (hj : j < ns[i].ps.length) (hk : ns[i].ps[j] = (k : Int)) (h : ownF (k : Int) 0 (preN ns i j) = -1) : (outP ns i j).set k (.int .i64 (i : Int)) = outP ns i (j + 1) := by
  apply List.ext_getElem?
  intro q
  rw [List.getElem?_set]
  have hp := own_pre ns i j hi
  have hp1 := own_pre ns i (j + 1) hi
  by_cases hq : q < (flat ns).length
  · rw [outP_at _ _ _ _ hq]
    by_cases e : k = q
    · subst e
      rw [if_pos rfl, if_pos (by rw [outP_len]; exact hq), outP_at _ _ _ _ hq, hp1]
      rw [hp] at h
      have h0 : ownF (k : Int) 0 (ns.take i) = -1 := by
        split at h
        · assumption
        · exact h
      rw [if_pos h0, if_pos]
      rw [List.take_succ_eq_append_getElem hj, hk]
      simp
    · rw [if_neg e, outP_at _ _ _ _ hq, hp, hp1]
      have : ((q : Int) ∈ ns[i].ps.take (j + 1)) ↔ ((q : Int) ∈ ns[i].ps.take j) := by
        rw [List.take_succ_eq_append_getElem hj, hk, List.mem_append, List.mem_singleton]
        constructor
        · rintro (h' | h')
          · exact h'
          · omega
        · exact Or.inl
      simp only [this]
  · rw [List.getElem?_eq_none (by rw [outP_len]; omega), List.getElem?_eq_none (by rw [outP_len]; omega)]
    split
    · rw [if_neg (by rw [outP_len]; omega)]
    · rfl
theorem flat_take_succ {ns : List ND} {q : Nat} (h : q < ns.length) : (flat (ns.take (q + 1))).length = (flat (ns.take q)).length + ns[q].ps.length := by
  rw [List.take_succ_eq_append_getElem h, flat_append, List.length_append, flat_one]
end Go.Proofs.YtpoegknmkbnjlaaDoor
