import Derived.WalkKit
import Derived.WalkSpells
import Derived.WalkLawsBesides
import Derived.Laws.BytesArg
import Derived.Laws.IdiomStrings
import Derived.Maps.AppendAt
import Derived.Laws.OwnMore
import Derived.Shelf.Small.Strs
import Derived.Shelf.LaysM
import Derived.Shelf.Strings.Search1
import Derived.Shelf.Bits.Mul64
import Derived.Test.YtndfhpfhgdamgaaGreatDoorProg
import Derived.Laws.CopyOwn
import Derived.Below
import Derived.Deep.RegionHeld3
import Derived.Deep.QuietTactic
import Derived.BigQuiet
import Derived.Deep.DeepCutAuto
import Derived.Deep.WholeRow
namespace Go.Proofs.YtndfhpfhgdamgaaGreatDoor
open Go.RowKit
theorem hide {p : Prop} (h : p) : Hid p := h
theorem unh {p : Prop} (h : Hid p) : p := h
theorem ret_bool {a b : Bool} (h : a = b) : Ending.returned (.bool a) = .returned (.bool b) := by rw [h]
theorem ret_str {a b : ByteArray} (h : a = b) : Ending.returned (.string a) = .returned (.string b) := by rw [h]
theorem u8_in {x : Int} (h0 : 0 ≤ x) (h1 : x < 256) : IntKind.u8.wrap x = x := by
  simp [IntKind.wrap, IntKind.signed, IntKind.bits]; omega
theorem u32_in {x : Int} (h0 : 0 ≤ x) (h1 : x < 4294967296) : IntKind.u32.wrap x = x := by
  simp [IntKind.wrap, IntKind.signed, IntKind.bits]; omega
theorem u32_add (x y : Nat) : IntKind.u32.wrap ((x : Int) + (y : Int)) = (((x + y) % 4294967296 : Nat) : Int) := by
  simp [IntKind.wrap, IntKind.signed, IntKind.bits]
/-- a byte as a cell -/
def ub (b : UInt8) : Value := .int .u8 (b.toNat : Int)
def strOf (l : List UInt8) : ByteArray := ⟨l.toArray⟩
theorem strOf_data (l : List UInt8) : (strOf l).data.toList = l := rfl
theorem strOf_size (l : List UInt8) : (strOf l).size = l.length := by simp [strOf, ByteArray.size]
theorem strOf_toList (s : ByteArray) : strOf s.data.toList = s := by cases s; rfl
theorem strOf_inj {a b : List UInt8} (h : strOf a = strOf b) : a = b := by
  have := congrArg (fun x => x.data.toList) h
  simpa [strOf] using this
theorem size_data (s : ByteArray) : s.data.toList.length = s.size := by simp
theorem eq_beq (a b : ByteArray) : (a.toList == b.toList) = decide (a = b) := by
  rw [ByteArray.toList_eq, ByteArray.toList_eq, Bool.eq_iff_iff]
  simp
  constructor
  · intro h
    cases a; cases b; simp at h; rw [h]
  · intro h; rw [h]
theorem oneCells (l : List UInt8) : ∀ u ∈ l.map ub, u.oneCell' = true := by
  intro u hu
  obtain ⟨x, _, rfl⟩ := List.mem_map.1 hu
  rfl
theorem cell_two_new (w : World) (x y : Value) (t : TypeId) : ∀ j u, [x, y][j]? = some u → (w.alloc (.cells #[x, y] t)).cell? ((⟨w.heap.size, 0, none⟩ : Addr).add j) = some u := by
  intro j u hj
  match j, hj with
  | 0, hj => simp at hj; subst hj; simp [Addr.add]
  | 1, hj => simp at hj; subst hj; simp [Addr.add]
  | (j + 2), hj => simp at hj
/-- string(out), out a row of the call's own -/
theorem own_conv {P : Program} {w : World} {base e src dst n : Nat} {v : Value} {l : List UInt8} (h : w.ownsRow base e 1 v n (l.map ub)) (hn : n = l.length) (hs : P.underlying src = some (.slice e)) (he : P.underlying e = some (.int .u8)) (hd : P.underlying dst = some .string) :
    (convert src dst v).run P w = .ok (.string (strOf l)) w := by
  subst hn
  rcases h.2 with ⟨hv, h0⟩ | ⟨g, cap, cur, hv, hg, hblk, hn, hc, hcs, htake⟩
  · subst hv
    rw [run_convert_bytes_nil w src e hs he 0 0 dst hd]
    have : l = [] := by
      have := h.1
      cases l with
      | nil => rfl
      | cons a t => simp at h0
    subst this
    rfl
  · subst hv
    exact run_convert_bytes_back w src dst e ⟨g, 0, none⟩ cap l hs he hd (fun j hj => by
      have := h.cellAt j (by simpa using hj)
      have e0 : (⟨g, 0, none⟩ : Addr).add j = ⟨g, j, none⟩ := by simp [Addr.add]; omega
      rw [e0]
      simpa [hj, ub] using this)
/-- the digit of a half byte -/
def hd (n : Nat) : UInt8 := if n < 10 then UInt8.ofNat (48 + n) else UInt8.ofNat (87 + n)
def hexL : List UInt8 → List UInt8
  | [] => []
  | b :: r => hd (b.toNat / 16) :: hd (b.toNat % 16) :: hexL r
theorem hexL_len (l : List UInt8) : (hexL l).length = 2 * l.length := by
  induction l with
  | nil => rfl
  | cons b r ih => simp only [hexL, List.length_cons, ih]; omega
theorem hexL_append (a b : List UInt8) : hexL (a ++ b) = hexL a ++ hexL b := by
  induction a with
  | nil => rfl
  | cons x r ih => simp [hexL, ih]
theorem hexL_snoc (l : List UInt8) (k : Nat) (h : k < l.length) : hexL (l.take (k + 1)) = hexL (l.take k) ++ [hd (l[k].toNat / 16), hd (l[k].toNat % 16)] := by
  rw [List.take_succ_eq_append_getElem h, hexL_append]
  rfl
def digs : ByteArray := ⟨#[48, 49, 50, 51, 52, 53, 54, 55, 56, 57, 97, 98, 99, 100, 101, 102]⟩
theorem digs_get (n : Nat) (h : n < 16) (h' : n < digs.size) : digs[n] = hd n := by
  have : ∀ m : Fin 16, digs[m.1]'(by simp [digs, ByteArray.size]) = hd m.1 := by decide
  exact this ⟨n, h⟩
/-- the half byte that a digit stands for -/
def unhd (c : UInt8) : Option Nat := if 48 ≤ c.toNat ∧ c.toNat ≤ 57 then some (c.toNat - 48) else if 97 ≤ c.toNat ∧ c.toNat ≤ 102 then some (c.toNat - 87) else none
def unhexL : List UInt8 → Option (List UInt8)
  | [] => some []
  | [_] => none
  | a :: b :: r => match unhd a, unhd b, unhexL r with
    | some x, some y, some t => some (UInt8.ofNat (16 * x + y) :: t)
    | _, _, _ => none
theorem unhd_lt {c : UInt8} {x : Nat} (h : unhd c = some x) : x < 16 := by
  unfold unhd at h
  split at h
  · simp at h; omega
  · split at h
    · simp at h; omega
    · simp at h
theorem unhd_hd : ∀ n : Fin 16, unhd (hd n.1) = some n.1 := by decide
theorem unhex_hex (l : List UInt8) : unhexL (hexL l) = some l := by
  induction l with
  | nil => rfl
  | cons b r ih =>
    have hb := b.toNat_lt
    have h1 : unhd (hd (b.toNat / 16)) = some (b.toNat / 16) := unhd_hd ⟨b.toNat / 16, by omega⟩
    have h2 : unhd (hd (b.toNat % 16)) = some (b.toNat % 16) := unhd_hd ⟨b.toNat % 16, by omega⟩
    simp only [hexL, unhexL, h1, h2, ih]
    congr 2
    rw [← UInt8.toNat_inj, UInt8.toNat_ofNat']
    omega
theorem unhex_odd (l : List UInt8) (h : l.length % 2 = 1) : unhexL l = none := by
  induction h' : l.length using Nat.strongRecOn generalizing l with
  | ind n ih =>
    match l with
    | [] => simp at h
    | [_] => rfl
    | a :: b :: r =>
      simp only [List.length_cons] at h h'
      have := ih r.length (by omega) r (by omega) rfl
      simp only [unhexL, this]
      cases unhd a <;> cases unhd b <;> rfl
/-- the value that both Unhex answer -/
def unS (l : List UInt8) : ByteArray := strOf ((unhexL l).getD [])
def unE (l : List UInt8) : Int := if (unhexL l).isSome then 0 else 20
/-- the first k pairs read well -/
theorem unhexL_append (a b : List UInt8) (h : a.length % 2 = 0) : unhexL (a ++ b) = (unhexL a).bind fun x => (unhexL b).map (x ++ ·) := by
  induction h' : a.length using Nat.strongRecOn generalizing a with
  | ind n ih =>
    match a with
    | [] => simp [unhexL]
    | [_] => simp at h
    | x :: y :: r =>
      simp only [List.length_cons] at h h'
      have := ih r.length (by omega) r (by omega) rfl
      simp only [List.cons_append, unhexL, this]
      cases unhd x <;> cases unhd y <;> cases unhexL r <;> cases unhexL b <;> simp
theorem take_two (l : List UInt8) (k : Nat) (h : 2 * k + 1 < l.length) : l.take (2 * (k + 1)) = l.take (2 * k) ++ [l[2 * k], l[2 * k + 1]] := by
  rw [show 2 * (k + 1) = 2 * k + 1 + 1 by omega, List.take_succ_eq_append_getElem h, List.take_succ_eq_append_getElem (show 2 * k < l.length by omega), List.append_assoc]
  rfl
theorem unhex_step (l : List UInt8) (k : Nat) (h : 2 * k + 1 < l.length) {t : List UInt8} {x y : Nat} (ht : unhexL (l.take (2 * k)) = some t) (hx : unhd l[2 * k] = some x) (hy : unhd l[2 * k + 1] = some y) :
    unhexL (l.take (2 * (k + 1))) = some (t ++ [UInt8.ofNat (16 * x + y)]) := by
  rw [take_two l k h, unhexL_append _ _ (by rw [List.length_take]; omega), ht]
  simp [unhexL, hx, hy]
theorem unhex_bad (l : List UInt8) (k : Nat) (h : 2 * k + 1 < l.length) (hb : unhd l[2 * k] = none ∨ unhd l[2 * k + 1] = none) : unhexL l = none := by
  have e : l = l.take (2 * k) ++ (l[2 * k] :: l[2 * k + 1] :: l.drop (2 * k + 2)) := by
    conv => lhs; rw [← List.take_append_drop (2 * k) l, List.drop_eq_getElem_cons (by omega), List.drop_eq_getElem_cons (by omega)]
  rw [e, unhexL_append _ _ (by rw [List.length_take]; omega)]
  have : unhexL (l[2 * k] :: l[2 * k + 1] :: l.drop (2 * k + 2)) = none := by
    unfold unhexL
    rcases hb with hb | hb <;> rw [hb]
    cases unhd l[2 * k] <;> rfl
  rw [this]
  cases unhexL (l.take (2 * k)) <;> rfl
theorem unhex_len {l t : List UInt8} (h : unhexL l = some t) : l.length = 2 * t.length := by
  induction h' : l.length using Nat.strongRecOn generalizing l t with
  | ind n ih =>
    match l with
    | [] => simp [unhexL] at h; subst h; simp at h'; simp; omega
    | [_] => simp [unhexL] at h
    | a :: b :: r =>
      simp only [List.length_cons] at h'
      unfold unhexL at h
      split at h
      · rename_i x y t' h1 h2 h3
        have := ih r.length (by omega) h3 rfl
        simp at h
        subst h
        simp only [List.length_cons]
        omega
      · simp at h
theorem hd_unhd {c : UInt8} {x : Nat} (h : unhd c = some x) : hd x = c := by
  unfold unhd at h
  rw [← UInt8.toNat_inj]
  have := c.toNat_lt
  split at h
  · simp at h; subst h
    unfold hd; rw [if_pos (by omega), UInt8.toNat_ofNat']; omega
  · split at h
    · simp at h; subst h
      unfold hd; rw [if_neg (by omega), UInt8.toNat_ofNat']; omega
    · simp at h
theorem hex_unhex {l t : List UInt8} (h : unhexL l = some t) : hexL t = l := by
  induction h' : l.length using Nat.strongRecOn generalizing l t with
  | ind n ih =>
    match l with
    | [] => simp [unhexL] at h; subst h; rfl
    | [_] => simp [unhexL] at h
    | a :: b :: r =>
      simp only [List.length_cons] at h'
      unfold unhexL at h
      split at h
      · rename_i x y t' h1 h2 h3
        have h4 := ih r.length (by omega) h3 rfl
        have hx := unhd_lt h1
        have hy := unhd_lt h2
        replace h := Option.some.inj h
        subst h
        have e : (UInt8.ofNat (16 * x + y)).toNat = 16 * x + y := by rw [UInt8.toNat_ofNat']; omega
        simp only [hexL, e, h4]
        rw [show (16 * x + y) / 16 = x by omega, show (16 * x + y) % 16 = y by omega, hd_unhd h1, hd_unhd h2]
      · simp at h
end Go.Proofs.YtndfhpfhgdamgaaGreatDoor
namespace Go.Proofs.YtndfhpfhgdamgaaGreatDoor
/-- a node: its zone, its partitions -/
structure ND where
  z : Int
  ps : List Int
instance : Inhabited ND := ⟨⟨0, []⟩⟩
def flat (ns : List ND) : List Int := ns.flatMap fun n => n.ps
theorem flat_append (a b : List ND) : flat (a ++ b) = flat a ++ flat b := List.flatMap_append
theorem flat_one (n : ND) : flat [n] = n.ps := by simp [flat]
def cntI (k : Int) : List Int → Nat
  | [] => 0
  | x :: r => (if x = k then 1 else 0) + cntI k r
theorem cntI_append (k : Int) (a b : List Int) : cntI k (a ++ b) = cntI k a + cntI k b := by
  induction a with
  | nil => simp [cntI]
  | cons x r ih => simp only [List.cons_append, cntI, ih]; omega
theorem cntI_mem {k : Int} {l : List Int} : 0 < cntI k l ↔ k ∈ l := by
  induction l with
  | nil => simp [cntI]
  | cons x r ih =>
    simp only [cntI, List.mem_cons]
    by_cases e : x = k
    · rw [if_pos e]
      constructor
      · intro _
        exact Or.inl e.symm
      · intro _
        omega
    · rw [if_neg e, Nat.zero_add, ih]
      constructor
      · exact Or.inr
      · rintro (h | h)
        · exact absurd h.symm e
        · exact h
theorem cntI_zero {k : Int} {l : List Int} : cntI k l = 0 ↔ k ∉ l := by
  rw [← cntI_mem]
  omega
theorem cntI_perm {k : Int} {a b : List Int} (h : a.Perm b) : cntI k a = cntI k b := by
  induction h with
  | nil => rfl
  | cons x _ ih => simp only [cntI, ih]
  | swap x y l => simp only [cntI]; omega
  | trans _ _ i j => exact i.trans j
/-- all of 0 to p - 1 stand in a list of p: then it has nothing else, and nothing twice -/
theorem all_once : ∀ (p : Nat) (l : List Int), l.length = p → (∀ i : Nat, i < p → (i : Int) ∈ l) → (∀ x ∈ l, 0 ≤ x ∧ x < (p : Int)) ∧ ∀ k, cntI k l ≤ 1 := by
  intro p
  induction p with
  | zero =>
    intro l hl _
    obtain rfl := List.length_eq_zero_iff.1 hl
    exact ⟨fun x hx => by simp at hx, fun k => by simp [cntI]⟩
  | succ p ih =>
    intro l hl hm
    have hp : (p : Int) ∈ l := hm p (by omega)
    have pe := List.perm_cons_erase hp
    have le : (l.erase (p : Int)).length = p := by
      have := pe.length_eq
      simp at this
      omega
    have hm' : ∀ i : Nat, i < p → (i : Int) ∈ l.erase (p : Int) := fun i hi => by
      have := pe.mem_iff.1 (hm i (by omega))
      rcases List.mem_cons.1 this with h | h
      · omega
      · exact h
    obtain ⟨r1, r2⟩ := ih _ le hm'
    refine ⟨fun x hx => ?_, fun k => ?_⟩
    · rcases List.mem_cons.1 (pe.mem_iff.1 hx) with h | h
      · omega
      · have := r1 x h
        omega
    · rw [cntI_perm pe]
      simp only [cntI]
      by_cases e : (p : Int) = k
      · rw [if_pos e, cntI_zero.2 (fun h => by have := r1 k h; omega)]
        omega
      · rw [if_neg e]
        have := r2 k
        omega
theorem few_in : ∀ (p : Nat) (l : List Int), (∀ x ∈ l, 0 ≤ x ∧ x < (p : Int)) → (∀ k, cntI k l ≤ 1) → l.length ≤ p := by
  intro p
  induction p with
  | zero =>
    intro l h _
    cases l with
    | nil => exact Nat.le_refl _
    | cons x r => have := h x (by simp); omega
  | succ p ih =>
    intro l h1 h2
    by_cases hp : (p : Int) ∈ l
    · have pe := List.perm_cons_erase hp
      have le : l.length = (l.erase (p : Int)).length + 1 := by
        have := pe.length_eq
        simpa using this
      have k2 : ∀ k, cntI k (l.erase (p : Int)) ≤ 1 := fun k => by
        have := h2 k
        rw [cntI_perm pe] at this
        simp only [cntI] at this
        omega
      have np : (p : Int) ∉ l.erase (p : Int) := by
        have := h2 (p : Int)
        rw [cntI_perm pe] at this
        simp only [cntI, if_true] at this
        exact cntI_zero.1 (by omega)
      have k1 : ∀ x ∈ l.erase (p : Int), 0 ≤ x ∧ x < (p : Int) := fun x hx => by
        have := h1 x (List.mem_of_mem_erase hx)
        have ne : x ≠ (p : Int) := fun e => np (e ▸ hx)
        omega
      have := ih _ k1 k2
      omega
    · have := ih l (fun x hx => by
        have := h1 x hx
        have ne : x ≠ (p : Int) := fun e => hp (e ▸ hx)
        omega) h2
      omega
theorem once_all : ∀ (p : Nat) (l : List Int), l.length = p → (∀ x ∈ l, 0 ≤ x ∧ x < (p : Int)) → (∀ k, cntI k l ≤ 1) → ∀ i : Nat, i < p → cntI (i : Int) l = 1 := by
  intro p l hl h1 h2 i hi
  have : 0 < cntI (i : Int) l := by
    apply Classical.byContradiction
    intro hn
    have hz : cntI (i : Int) l = 0 := by omega
    -- i :: l has p + 1 of p
    have := few_in p ((i : Int) :: l) (fun x hx => by
      rcases List.mem_cons.1 hx with e | e
      · omega
      · exact h1 x e) (fun k => by
      simp only [cntI]
      by_cases e : (i : Int) = k
      · subst e
        rw [if_pos rfl, hz]
        omega
      · rw [if_neg e]
        have := h2 k
        omega)
    simp at this
    omega
  have := h2 (i : Int)
  omega
def Rising (l : List Int) : Prop := ∀ j (h : j + 1 < l.length), l[j] < l[j + 1]
/-- the document's dealt -/
structure Dealt (ns : List ND) : Prop where
  p1 : 1 ≤ (flat ns).length
  p2 : (flat ns).length ≤ 64
  once : ∀ i : Nat, i < (flat ns).length → cntI (i : Int) (flat ns) = 1
  rise : ∀ n ∈ ns, Rising n.ps
/-- the node that has a partition in its list; -1: none has -/
def ownF (k : Int) : Nat → List ND → Int
  | _, [] => -1
  | i, n :: r => if k ∈ n.ps then (i : Int) else ownF k (i + 1) r
theorem ownF_in {k : Int} {i : Nat} {n : ND} {r : List ND} (h : k ∈ n.ps) : ownF k i (n :: r) = (i : Int) := by simp [ownF, h]
theorem ownF_out {k : Int} {i : Nat} {n : ND} {r : List ND} (h : k ∉ n.ps) : ownF k i (n :: r) = ownF k (i + 1) r := by simp [ownF, h]
theorem flat_cons (n : ND) (r : List ND) : flat (n :: r) = n.ps ++ flat r := by simp [flat]
theorem ownF_none {k : Int} {i : Nat} {ns : List ND} : ownF k i ns = -1 ↔ k ∉ flat ns := by
  induction ns generalizing i with
  | nil => simp [ownF, flat]
  | cons n r ih =>
    rw [flat_cons, List.mem_append]
    by_cases e : k ∈ n.ps
    · rw [ownF_in e]
      constructor
      · intro h
        omega
      · intro h
        exact absurd (Or.inl e) h
    · rw [ownF_out e, ih]
      constructor
      · rintro h (h' | h')
        · exact e h'
        · exact h h'
      · intro h h'
        exact h (Or.inr h')
theorem ownF_append (k : Int) (i : Nat) (ns : List ND) (n : ND) : ownF k i (ns ++ [n]) = if ownF k i ns = -1 then (if k ∈ n.ps then ((i + ns.length : Nat) : Int) else -1) else ownF k i ns := by
  induction ns generalizing i with
  | nil => simp [ownF]
  | cons m r ih =>
    rw [List.cons_append]
    by_cases e : k ∈ m.ps
    · rw [ownF_in e, ownF_in e, if_neg (by omega)]
    · rw [ownF_out e, ownF_out e, ih, show i + 1 + r.length = i + (m :: r).length by simp; omega]
theorem ownF_range (k : Int) (i : Nat) (ns : List ND) : ownF k i ns = -1 ∨ ((i : Int) ≤ ownF k i ns ∧ ownF k i ns < ((i + ns.length : Nat) : Int)) := by
  induction ns generalizing i with
  | nil => exact Or.inl rfl
  | cons n r ih =>
    by_cases e : k ∈ n.ps
    · rw [ownF_in e]
      exact Or.inr ⟨Int.le_refl _, by simp; omega⟩
    · rw [ownF_out e]
      rcases ih (i + 1) with h | h
      · exact Or.inl h
      · refine Or.inr ⟨by omega, ?_⟩
        have := h.2
        simp at this ⊢
        omega
/-- nodes up to i, and j partitions of the node i -/
def preN (ns : List ND) (i j : Nat) : List ND := ns.take i ++ [⟨0, (ns[i]?.getD default).ps.take j⟩]
/-- so far all is well -/
structure Fine (ns : List ND) (i j : Nat) : Prop where
  rng : ∀ x ∈ flat (preN ns i j), 0 ≤ x ∧ x < ((flat ns).length : Int)
  one : ∀ k, cntI k (flat (preN ns i j)) ≤ 1
  ris : ∀ q (h : q < ns.length), q < i → Rising ns[q].ps
  now : Rising ((ns[i]?.getD default).ps.take j)
def lastP (ns : List ND) (i j : Nat) : Int := if j = 0 then -1 else (ns[i]?.getD default).ps[j - 1]?.getD 0
theorem Fine.start (ns : List ND) : Fine ns 0 0 := by
  refine ⟨fun x hx => ?_, fun k => ?_, fun q _ h => by omega, fun j h => ?_⟩
  · simp [preN, flat] at hx
  · simp [preN, flat, cntI]
  · simp at h
theorem preN_next {ns : List ND} {i : Nat} (hi : i < ns.length) : flat (preN ns i ns[i].ps.length) = flat (preN ns (i + 1) 0) := by
  unfold preN
  rw [List.getElem?_eq_getElem hi, Option.getD_some, List.take_length, flat_append, flat_append, flat_one, flat_one, List.take_succ_eq_append_getElem hi, flat_append, flat_one]
  simp
theorem Fine.next {ns : List ND} {i : Nat} (hi : i < ns.length) (h : Fine ns i ns[i].ps.length) : Fine ns (i + 1) 0 := by
  have e := preN_next hi
  refine ⟨fun x hx => h.rng x (by rw [e]; exact hx), fun k => by rw [← e]; exact h.one k, fun q hq hqi => ?_, fun j hj => ?_⟩
  · by_cases hq' : q < i
    · exact h.ris q hq hq'
    · obtain rfl : q = i := by omega
      have := h.now
      rw [List.getElem?_eq_getElem hi, Option.getD_some, List.take_length] at this
      exact this
  · simp at hj
theorem preN_step {ns : List ND} {i j : Nat} (hi : i < ns.length) (hj : j < ns[i].ps.length) : flat (preN ns i (j + 1)) = flat (preN ns i j) ++ [ns[i].ps[j]] := by
  unfold preN
  rw [List.getElem?_eq_getElem hi, Option.getD_some, flat_append, flat_append, flat_one, flat_one, List.take_succ_eq_append_getElem hj, List.append_assoc]
theorem Fine.step {ns : List ND} {i j : Nat} (h : Fine ns i j) (hi : i < ns.length) (hj : j < ns[i].ps.length) (h1 : lastP ns i j < ns[i].ps[j]) (h2 : ns[i].ps[j] < ((flat ns).length : Int)) (h3 : ownF ns[i].ps[j] 0 (preN ns i j) = -1) : Fine ns i (j + 1) := by
  have hge : 0 ≤ ns[i].ps[j] := by
    unfold lastP at h1
    by_cases j0 : j = 0
    · rw [if_pos j0] at h1
      omega
    · rw [if_neg j0, List.getElem?_eq_getElem hi, Option.getD_some, List.getElem?_eq_getElem (by omega), Option.getD_some] at h1
      have hm : ns[i].ps[j - 1] ∈ flat (preN ns i j) := by
        unfold preN
        rw [List.getElem?_eq_getElem hi, Option.getD_some, flat_append, flat_one]
        refine List.mem_append_right _ ?_
        rw [List.mem_take_iff_getElem]
        exact ⟨j - 1, by omega, rfl⟩
      have := (h.rng _ hm).1
      omega
  have e := preN_step hi hj
  refine ⟨fun x hx => ?_, fun k => ?_, h.ris, ?_⟩
  · rw [e] at hx
    rcases List.mem_append.1 hx with hx | hx
    · exact h.rng x hx
    · simp at hx
      subst hx
      exact ⟨hge, h2⟩
  · rw [e, cntI_append]
    have k1 := h.one k
    simp only [cntI]
    by_cases ek : ns[i].ps[j] = k
    · rw [if_pos ek, ← ek, cntI_zero.2 (ownF_none.1 h3)]
      omega
    · rw [if_neg ek]
      omega
  · have hnow := h.now
    rw [List.getElem?_eq_getElem hi, Option.getD_some] at hnow ⊢
    intro q hq
    have hl : (ns[i].ps.take (j + 1)).length = j + 1 := by rw [List.length_take]; omega
    rw [hl] at hq
    rw [List.getElem_take, List.getElem_take]
    by_cases hqj : q + 1 < j
    · have := hnow q (by rw [List.length_take]; omega)
      rw [List.getElem_take, List.getElem_take] at this
      exact this
    · have hq1 : q + 1 = j := by omega
      subst hq1
      unfold lastP at h1
      rw [if_neg (by omega), List.getElem?_eq_getElem hi, Option.getD_some, Nat.add_sub_cancel, List.getElem?_eq_getElem (by omega), Option.getD_some] at h1
      exact h1
theorem flat_pre_all (ns : List ND) : flat (preN ns ns.length 0) = flat ns := by
  unfold preN
  rw [flat_append, flat_one, List.take_length]
  simp
/-- all went well: then each is dealt once -/
theorem Fine.dealt {ns : List ND} (h : Fine ns ns.length 0) (p1 : 1 ≤ (flat ns).length) (p2 : (flat ns).length ≤ 64) : Dealt ns := by
  refine ⟨p1, p2, ?_, fun n hn => ?_⟩
  · exact once_all _ _ rfl (fun x hx => h.rng x (by rw [flat_pre_all]; exact hx)) (fun k => by have := h.one k; rw [flat_pre_all] at this; exact this)
  · obtain ⟨q, hq, rfl⟩ := List.getElem_of_mem hn
    exact h.ris q hq hq
theorem Dealt.all {ns : List ND} (h : Dealt ns) : (∀ x ∈ flat ns, 0 ≤ x ∧ x < ((flat ns).length : Int)) ∧ ∀ k, cntI k (flat ns) ≤ 1 :=
  all_once _ _ rfl (fun i hi => cntI_mem.1 (by rw [h.once i hi]; omega))
theorem mem_flat {ns : List ND} {i j : Nat} (hi : i < ns.length) (hj : j < ns[i].ps.length) : ns[i].ps[j] ∈ flat ns := by
  unfold flat
  exact List.mem_flatMap.2 ⟨ns[i], List.getElem_mem hi, List.getElem_mem hj⟩
theorem flat_split {ns : List ND} {i : Nat} (hi : i < ns.length) (j : Nat) : ∃ r, flat ns = flat (preN ns i j) ++ (ns[i].ps.drop j ++ r) := by
  refine ⟨flat (ns.drop (i + 1)), ?_⟩
  unfold preN
  rw [List.getElem?_eq_getElem hi, Option.getD_some, flat_append, flat_one, List.append_assoc, ← List.append_assoc (ns[i].ps.take j), List.take_append_drop]
  have : ns = ns.take i ++ ([ns[i]] ++ ns.drop (i + 1)) := by
    rw [← List.append_assoc, ← List.take_succ_eq_append_getElem hi, List.take_append_drop]
  conv => lhs; rw [this, flat_append, flat_append, flat_one]
/-- one went ill: then they are not dealt -/
theorem not_dealt {ns : List ND} {i j : Nat} (hi : i < ns.length) (hj : j < ns[i].ps.length) (hb : ns[i].ps[j] ≤ lastP ns i j ∨ ((flat ns).length : Int) ≤ ns[i].ps[j] ∨ ownF ns[i].ps[j] 0 (preN ns i j) ≠ -1) : ¬ Dealt ns := by
  intro h
  obtain ⟨a1, a2⟩ := h.all
  have hm := a1 _ (mem_flat hi hj)
  rcases hb with hb | hb | hb
  · unfold lastP at hb
    by_cases j0 : j = 0
    · rw [if_pos j0] at hb
      omega
    · rw [if_neg j0, List.getElem?_eq_getElem hi, Option.getD_some, List.getElem?_eq_getElem (by omega), Option.getD_some] at hb
      have := h.rise ns[i] (List.getElem_mem hi) (j - 1) (by omega)
      have e : j - 1 + 1 = j := by omega
      simp only [e] at this
      omega
  · omega
  · have hin : ns[i].ps[j] ∈ flat (preN ns i j) := by
      apply Classical.byContradiction
      intro hn
      exact hb (ownF_none.2 hn)
    obtain ⟨r, hr⟩ := flat_split hi j
    have c := a2 ns[i].ps[j]
    rw [hr, cntI_append, cntI_append] at c
    have c1 := cntI_mem.2 hin
    have c2 : 0 < cntI ns[i].ps[j] (ns[i].ps.drop j) := cntI_mem.2 (by
      rw [List.mem_drop_iff_getElem]
      exact ⟨0, by omega, by simp⟩)
    omega
end Go.Proofs.YtndfhpfhgdamgaaGreatDoor
namespace Go.Proofs
open Go.Shelf Go.RowKit
def Tryz.lays137_ren : Go.Shelf.Ren := ⟨fun | 137 => 91 | 217 => 114 | 266 => 127 | n => n, fun | 9 => 9 | 5 => 5 | 3 => 3 | n => n, fun | n => n⟩
theorem Tryz.lays137 : Go.Proofs.Lays.n137 Tryz.prog Tryz.lays137_ren := {
  mixed := by kernel_rfl
  f137 := Tryz.func91.trans (congrArg some (by kernel_rfl))
  f217 := Tryz.func114.trans (congrArg some (by kernel_rfl))
  f266 := Tryz.func127.trans (congrArg some (by kernel_rfl))
  t3 := Tryz.underlying3
  a3 := Tryz.isAgg3
  z3 := Tryz.sizeOf3
  v3 := Tryz.zeroValue3
  t5 := Tryz.underlying5
  a5 := Tryz.isAgg5
  z5 := Tryz.sizeOf5
  v5 := Tryz.zeroValue5
  t9 := Tryz.underlying9
  a9 := Tryz.isAgg9
  z9 := Tryz.sizeOf9
  v9 := Tryz.zeroValue9 }
open Go.RowKit in
theorem Tryz.strings_IndexByte (s : ByteArray) (c : Int) (w : World) :
    Calls Tryz.prog 91 #[.string s, .int .u8 c] w fun e w' => e = .returned (.int .i64 (Lib.indexByte s.data.toList c.toNat.toUInt8)) ∧ w' = w := Any.strings_IndexByte Tryz.lays137 s c w
def Tryz.lays264_ren : Go.Shelf.Ren := ⟨fun | 264 => 116 | n => n, fun | 53 => 159 | 46 => 133 | n => n, fun | n => n⟩
theorem Tryz.lays264 : Go.Proofs.Lays.n264 Tryz.prog Tryz.lays264_ren := {
  mixed := by kernel_rfl
  f264 := Tryz.func116.trans (congrArg some (by kernel_rfl))
  t46 := Tryz.underlying133
  a46 := Tryz.isAgg133
  z46 := Tryz.sizeOf133
  v46 := Tryz.zeroValue133
  t53 := Tryz.underlying159
  a53 := Tryz.isAgg159
  z53 := Tryz.sizeOf159
  v53 := Tryz.zeroValue159 }
open Go.RowKit Go.Lib in
theorem Tryz.bits_Mul64 (x y : Nat) (hx : x < 18446744073709551616) (hy : y < 18446744073709551616) (w : World) :
    Calls Tryz.prog 116 #[.int .u64 x, .int .u64 y] w fun e w' => e = .returned (.tuple #[.int .u64 ((x * y / 18446744073709551616 : Nat) : Int), .int .u64 ((x * y % 18446744073709551616 : Nat) : Int)]) ∧ w' = w := Any.bits_Mul64 Tryz.lays264 x y hx hy w
def Tryz.lays212_ren : Go.Shelf.Ren := ⟨fun | 212 => 92 | 263 => 115 | 264 => 116 | n => n, fun | 46 => 133 | 51 => 125 | 146 => 197 | 53 => 159 | 148 => 199 | n => n, fun | n => n⟩
theorem Tryz.lays212 : Go.Proofs.Lays.n212 Tryz.prog Tryz.lays212_ren := {
  mixed := by kernel_rfl
  f212 := Tryz.func92.trans (congrArg some (by kernel_rfl))
  f263 := Tryz.func115.trans (congrArg some (by kernel_rfl))
  f264 := Tryz.func116.trans (congrArg some (by kernel_rfl))
  t46 := Tryz.underlying133
  a46 := Tryz.isAgg133
  z46 := Tryz.sizeOf133
  v46 := Tryz.zeroValue133
  t51 := Tryz.underlying125
  a51 := Tryz.isAgg125
  z51 := Tryz.sizeOf125
  v51 := Tryz.zeroValue125
  t53 := Tryz.underlying159
  a53 := Tryz.isAgg159
  z53 := Tryz.sizeOf159
  v53 := Tryz.zeroValue159
  t146 := Tryz.underlying197
  a146 := Tryz.isAgg197
  z146 := Tryz.sizeOf197
  v146 := Tryz.zeroValue197
  t148 := Tryz.underlying199
  a148 := Tryz.isAgg199
  z148 := Tryz.sizeOf199
  v148 := Tryz.zeroValue199 }
open Go.RowKit Go.Lib in
theorem Tryz.bits_Mul (x y : Nat) (hx : x < 18446744073709551616) (hy : y < 18446744073709551616) (w : World) :
    Calls Tryz.prog 92 #[.int .u64 x, .int .u64 y] w fun e w' => e = .returned (.tuple #[.int .u64 ((x * y / 18446744073709551616 : Nat) : Int), .int .u64 ((x * y % 18446744073709551616 : Nat) : Int)]) ∧ w' = w := Any.bits_Mul Tryz.lays212 x y hx hy w
def Tryz.lays217_ren : Go.Shelf.Ren := ⟨fun | 217 => 114 | 266 => 127 | n => n, fun | 9 => 9 | 5 => 5 | 3 => 3 | n => n, fun | n => n⟩
theorem Tryz.lays217 : Go.Proofs.Lays.n217 Tryz.prog Tryz.lays217_ren := {
  mixed := by kernel_rfl
  f217 := Tryz.func114.trans (congrArg some (by kernel_rfl))
  f266 := Tryz.func127.trans (congrArg some (by kernel_rfl))
  t3 := Tryz.underlying3
  a3 := Tryz.isAgg3
  z3 := Tryz.sizeOf3
  v3 := Tryz.zeroValue3
  t5 := Tryz.underlying5
  a5 := Tryz.isAgg5
  z5 := Tryz.sizeOf5
  v5 := Tryz.zeroValue5
  t9 := Tryz.underlying9
  a9 := Tryz.isAgg9
  z9 := Tryz.sizeOf9
  v9 := Tryz.zeroValue9 }
open Go.RowKit Go.Lib in
theorem Tryz.stringslite_IndexByte (s : ByteArray) (c : Int) (w : World) :
    Calls Tryz.prog 114 #[.string s, .int .u8 c] w fun e w' => e = .returned (.int .i64 (Lib.indexByte s.data.toList c.toNat.toUInt8)) ∧ w' = w := Any.stringslite_IndexByte Tryz.lays217 s c w
end Go.Proofs
namespace Go.Proofs.YtndfhpfhgdamgaaGreatDoor
open Go.RowKit
theorem i64_in {x : Int} (h0 : -9223372036854775808 ≤ x) (h1 : x < 9223372036854775808) : IntKind.i64.wrap x = x := by
  simp [IntKind.wrap, IntKind.signed, IntKind.bits]; omega
theorem wrap_in {x : Int} (h0 : -9223372036854775808 ≤ x) (h1 : x < 9223372036854775808) : wrap64 x = x := by unfold wrap64; omega
theorem blk_lt {w : World} {b : Nat} {o : Obj} (h : w.heap[b]? = some o) : b < w.heap.size := (Array.getElem?_eq_some_iff.1 h).1
theorem heap_last (w : World) (o : Obj) : (w.alloc o).heap[w.heap.size]? = some o := by
  unfold World.alloc
  exact Array.getElem?_push_size
/-- partitions, as they lie there -/
structure PsAt (N : Nat) (w : World) (ao : Option Addr) (b o : Nat) (L : List Int) : Prop where
  at0 : 0 < L.length → ao = some ⟨b, o, none⟩
  lt : 0 < L.length → b < N
  c : ∀ (q : Nat) (h : q < L.length), w.cell? ⟨b, o + q, none⟩ = some (.int .i64 L[q])
  len : L.length ≤ 17592186043904
def Pv (N : Nat) (w : World) (v : Value) (L : List Int) : Prop := ∃ ao b o cap, v = .slice ao L.length cap ∧ PsAt N w ao b o L
/-- nodes, as they lie there -/
structure NsAt (N : Nat) (w : World) (ao : Option Addr) (b o : Nat) (pv : Nat → Value) (ns : List ND) : Prop where
  at0 : 0 < ns.length → ao = some ⟨b, o, none⟩
  lt : 0 < ns.length → b < N
  cz : ∀ (q : Nat) (h : q < ns.length), w.cell? ⟨b, o + q * 2, none⟩ = some (.int .i64 ns[q].z)
  cp : ∀ (q : Nat) (_ : q < ns.length), w.cell? ⟨b, o + q * 2 + 1, none⟩ = some (pv q)
  ps : ∀ (q : Nat) (h : q < ns.length), Pv N w (pv q) ns[q].ps
  len : ns.length ≤ 4398046510976
  nl : ∀ (q : Nat) (h : q < ns.length) (c : Nat), pv q = .slice none ns[q].ps.length c → c = 0
theorem PsAt.below {N : Nat} {w w' : World} {ao : Option Addr} {b o : Nat} {L : List Int} (h : PsAt N w ao b o L) (hb : Below N w w') : PsAt N w' ao b o L :=
  ⟨h.at0, h.lt, fun q hq => (hb.cell (h.lt (by omega))).trans (h.c q hq), h.len⟩
theorem Pv.below {N : Nat} {w w' : World} {v : Value} {L : List Int} (h : Pv N w v L) (hb : Below N w w') : Pv N w' v L := by
  obtain ⟨ao, b, o, cap, e, hp⟩ := h
  exact ⟨ao, b, o, cap, e, hp.below hb⟩
theorem NsAt.below {N : Nat} {w w' : World} {ao : Option Addr} {b o : Nat} {pv : Nat → Value} {ns : List ND} (h : NsAt N w ao b o pv ns) (hb : Below N w w') : NsAt N w' ao b o pv ns :=
  ⟨h.at0, h.lt, fun q hq => (hb.cell (h.lt (by omega))).trans (h.cz q hq), fun q hq => (hb.cell (h.lt (by omega))).trans (h.cp q hq), fun q hq => (h.ps q hq).below hb, h.len, h.nl⟩
theorem PsAt.more {N N' : Nat} {w : World} {ao : Option Addr} {b o : Nat} {L : List Int} (h : PsAt N w ao b o L) (hN : N ≤ N') : PsAt N' w ao b o L :=
  ⟨h.at0, fun q => Nat.lt_of_lt_of_le (h.lt q) hN, h.c, h.len⟩
theorem Pv.more {N N' : Nat} {w : World} {v : Value} {L : List Int} (h : Pv N w v L) (hN : N ≤ N') : Pv N' w v L := by
  obtain ⟨ao, b, o, cap, e, hp⟩ := h
  exact ⟨ao, b, o, cap, e, hp.more hN⟩
theorem NsAt.more {N N' : Nat} {w : World} {ao : Option Addr} {b o : Nat} {pv : Nat → Value} {ns : List ND} (h : NsAt N w ao b o pv ns) (hN : N ≤ N') : NsAt N' w ao b o pv ns :=
  ⟨h.at0, fun q => Nat.lt_of_lt_of_le (h.lt q) hN, h.cz, h.cp, fun q hq => (h.ps q hq).more hN, h.len, h.nl⟩
/-- a zone that may be -/
def zOk (n : ND) : Bool := decide (0 ≤ n.z) && decide (n.z ≤ 7)
def nfP (ns : List ND) : Bool := decide (1 ≤ ns.length) && decide (ns.length ≤ 16) && ns.all zOk
set_option linter.unusedVariables false in
theorem all_take {α : Type} {f : α → Bool} {l : List α} {q : Nat} (h : q < l.length) (hq : (l.take q).all f = true) (hf : f l[q] = true) : (l.take (q + 1)).all f = true := by
  rw [List.take_succ_eq_append_getElem h, List.all_append, hq]
  simp [hf]
set_option linter.unusedVariables false in
theorem all_no {α : Type} {f : α → Bool} {l : List α} {q : Nat} (h : q < l.length) (hf : f l[q] = false) : l.all f = false := List.all_eq_false.2 ⟨l[q], List.getElem_mem h, by rw [hf]; simp⟩
set_option maxHeartbeats 8000000 in
set_option maxRecDepth 100000 in
set_option linter.unusedSimpArgs false in
set_option linter.unusedVariables false in
theorem nodesFit_any (N : Nat) (w : World) (ao : Option Addr) (b o cap : Nat) (pv : Nat → Value) (ns : List ND) (h : NsAt N w ao b o pv ns) (hN : N ≤ w.heap.size) :
    Calls Tryz.prog 59 #[.slice ao ns.length cap] w fun e w' => e = .returned (.bool (nfP ns)) ∧ Below w.heap.size w w' := by
  have hmx : ns.length ≤ 9223372036854775807 := by have := h.len; omega
  by_cases h1 : ns.length < 1
  · have hr : nfP ns = false := by unfold nfP; rw [decide_eq_false (by omega)]; rfl
    have h1' : (ns.length : Int) < 1 := by omega
    rw [hr]
    clear hr h
    go_enter Tryz.func59, Tryz.ntmps59
    go_wp2_with fail
    go_ret
    exact ⟨rfl, Below.refl _ _⟩
  by_cases h2 : 16 < ns.length
  · have hr : nfP ns = false := by unfold nfP; rw [decide_eq_false (by omega : ¬ ns.length ≤ 16), Bool.and_false]; rfl
    have h1' : ¬ (ns.length : Int) < 1 := by omega
    have h2' : (16 : Int) < (ns.length : Int) := by omega
    rw [hr]
    clear hr h
    go_enter Tryz.func59, Tryz.ntmps59
    go_wp2_with fail
    go_ret
    exact ⟨rfl, Below.refl _ _⟩
  have hr : nfP ns = ns.all zOk := by unfold nfP; rw [decide_eq_true (by omega), decide_eq_true (by omega)]; rfl
  rw [hr]
  have h1' : ¬ (ns.length : Int) < 1 := by omega
  have h2' : ¬ (16 : Int) < (ns.length : Int) := by omega
  have HN := hide h
  clear hr h
  obtain ⟨R, hR⟩ : ∃ R, R = ns.all zOk := ⟨_, rfl⟩
  rw [← hR]
  have HR := hide hR
  clear hR
  go_enter Tryz.func59, Tryz.ntmps59
  go_wp2_with fail
  go_loopw [15] (fun vi wr => ∃ (q : Nat), q ≤ ns.length ∧ vi = .int .i64 (q : Int) ∧ Hid ((ns.take q).all zOk = true) ∧ Below w.heap.size w wr) (fun vi _ => ns.length - (intOf vi).toNat)
  case atStart => exact ⟨0, Nat.zero_le _, rfl, rfl, Below.refl _ _⟩
  case round =>
    obtain ⟨q, hq, rfl, hA, hB⟩ := hrel
    have HB := hide hB
    clear hB
    by_cases hql : q < ns.length
    case pos =>
      have hao := HN.out.at0 (by omega)
      subst hao
      have hqi : (q : Int) < (ns.length : Int) := by omega
      have NW := HN.out.below (HB.out.mono hN)
      have e0 := NW.cz q hql
      have e1 := NW.cp q hql
      have HT := hide (all_take hql hA.out)
      have HF := hide (all_no (f := zOk) hql)
      obtain ⟨pa, pb, po, pc, hpv, _⟩ := NW.ps q hql
      rw [hpv] at e1
      clear NW hpv
      have hz : Hid (zOk ns[q] = (decide (0 ≤ ns[q].z) && decide (ns[q].z ≤ 7))) := rfl
      generalize ns[q].z = z at *
      generalize ns[q].ps.length = pl at *
      by_cases z0 : z < 0
      · have HZ := hide (HF.out (by rw [hz.out, decide_eq_false (by omega)]; rfl))
        have BZ := hide (HB.out.alloc HB.out.size (.cells #[.int .i64 z, .slice pa pl pc] 87))
        go_wp2_with fail
        go_ret
        exact ⟨by rw [HR.out, HZ.out]; rfl, BZ.out⟩
      · by_cases z1 : 7 < z
        · have HZ := hide (HF.out (by rw [hz.out, decide_eq_false (by omega : ¬ z ≤ 7), Bool.and_false]))
          have BZ := hide (HB.out.alloc HB.out.size (.cells #[.int .i64 z, .slice pa pl pc] 87))
          go_wp2_with fail
          go_ret
          exact ⟨by rw [HR.out, HZ.out]; rfl, BZ.out⟩
        · have HZ := hide (HT.out (by rw [hz.out, decide_eq_true (by omega), decide_eq_true (by omega)]; rfl))
          have BZ := hide (HB.out.alloc HB.out.size (.cells #[.int .i64 z, .slice pa pl pc] 87))
          go_wp2_with fail
          go_roundw
          case rel => exact ⟨q + 1, by omega, by go_num, HZ.out, BZ.out⟩
          case measure => simp [intOf]; omega
    case neg =>
      obtain rfl : q = ns.length := by omega
      have hA' := hA.out
      rw [List.take_length] at hA'
      have HA := hide hA'
      clear hA' hA
      go_wp2_with fail
      go_ret
      exact ⟨by rw [HR.out, HA.out]; rfl, HB.out⟩
end Go.Proofs.YtndfhpfhgdamgaaGreatDoor
