import Derived.Test.YtfmmfophdfjopaaGRpCmp
import Derived.Laws.ResultCell
import Derived.Test.YtfmmfophdfjopaaGDgPlain
import Derived.OpenShut
import Derived.SizedLaws
import Derived.Deep.QuietTactic
import Derived.BigQuiet
import Derived.WalkSmall
import Derived.Laws.AppendOwnNone
namespace Go.Proofs.Ytfmmfophdfjopaa
open Go.RowKit
theorem less_irrefl (a : List UInt8) : Op.bytesLess a a = false := by
  induction a with
  | nil => rfl
  | cons x a ih => unfold Op.bytesLess; simp [ih]
theorem less_trans {a b c : List UInt8} (h1 : Op.bytesLess a b = true) (h2 : Op.bytesLess b c = true) : Op.bytesLess a c = true := by
  induction a generalizing b c with
  | nil =>
    cases c with
    | nil => cases b with
      | nil => exact h1
      | cons y b => simp [Op.bytesLess] at h2
    | cons z c => rfl
  | cons x a ih =>
    cases b with
    | nil => simp [Op.bytesLess] at h1
    | cons y b =>
      cases c with
      | nil => simp [Op.bytesLess] at h2
      | cons z c =>
        unfold Op.bytesLess at h1 h2 ⊢
        simp only [Bool.or_eq_true, decide_eq_true_eq, Bool.and_eq_true, beq_iff_eq, UInt8.lt_iff_toNat_lt] at h1 h2 ⊢
        rcases h1 with h1 | ⟨rfl, h1⟩
        · rcases h2 with h2 | ⟨rfl, h2⟩
          · left; omega
          · left; exact h1
        · rcases h2 with h2 | ⟨rfl, h2⟩
          · left; exact h2
          · right; exact ⟨rfl, ih h1 h2⟩
theorem less_total (a b : List UInt8) : a = b ∨ Op.bytesLess a b = true ∨ Op.bytesLess b a = true := by
  induction a generalizing b with
  | nil => cases b with
    | nil => exact .inl rfl
    | cons y b => exact .inr (.inl rfl)
  | cons x a ih =>
    cases b with
    | nil => exact .inr (.inr rfl)
    | cons y b =>
      unfold Op.bytesLess
      simp only [Bool.or_eq_true, decide_eq_true_eq, Bool.and_eq_true, beq_iff_eq, UInt8.lt_iff_toNat_lt]
      rcases Nat.lt_trichotomy x.toNat y.toNat with h | h | h
      · exact .inr (.inl (.inl h))
      · rw [UInt8.toNat_inj] at h
        subst h
        rcases ih b with rfl | h | h
        · exact .inl rfl
        · exact .inr (.inl (.inr ⟨rfl, h⟩))
        · exact .inr (.inr (.inr ⟨rfl, h⟩))
      · exact .inr (.inr (.inl h))
theorem toList_inj {a b : ByteArray} (h : a.toList = b.toList) : a = b := by
  rw [ByteArray.toList_eq, ByteArray.toList_eq] at h
  exact ByteArray.ext (Array.toList_inj.1 h)
theorem lessS_irrefl (a : ByteArray) : lessS a a = false := less_irrefl _
theorem lessS_trans {a b c : ByteArray} (h1 : lessS a b = true) (h2 : lessS b c = true) : lessS a c = true := less_trans h1 h2
theorem lessS_total (a b : ByteArray) : a = b ∨ lessS a b = true ∨ lessS b a = true := by
  rcases less_total a.toList b.toList with h | h | h
  · exact .inl (toList_inj h)
  · exact .inr (.inl h)
  · exact .inr (.inr h)
/-- texts that rise -/
def Rises (n : Nat) (ks : Nat → ByteArray) : Prop := ∀ i, i + 1 < n → lessS (ks i) (ks (i + 1)) = true
theorem Rises.lt {n : Nat} {ks : Nat → ByteArray} (h : Rises n ks) : ∀ j i, i < j → j < n → lessS (ks i) (ks j) = true := by
  intro j
  induction j with
  | zero => intro i h1 _; omega
  | succ j ih =>
    intro i h1 h2
    rcases Nat.lt_or_ge i j with hl | hl
    · exact lessS_trans (ih i hl (by omega)) (h j h2)
    · obtain rfl : i = j := by omega
      exact h i h2
theorem Rises.inj {n : Nat} {ks : Nat → ByteArray} (h : Rises n ks) {i j : Nat} (hi : i < n) (hj : j < n) (e : ks i = ks j) : i = j := by
  rcases Nat.lt_trichotomy i j with hl | hl | hl
  · have := h.lt j i hl hj; rw [e, lessS_irrefl] at this; cases this
  · exact hl
  · have := h.lt i j hl hi; rw [e, lessS_irrefl] at this; cases this
/-- the place that the search by halves ends at -/
theorem search_end {n : Nat} {ks : Nat → ByteArray} (h : Rises n ks) {x : ByteArray} {i : Nat} (hi : i ≤ n) (h1 : ∀ t, t < i → lessS (ks t) x = true) (h2 : ∀ t, i ≤ t → t < n → lessS (ks t) x = false) {j : Nat} (hj : j < n) (e : ks j = x) : j = i := by
  rcases Nat.lt_trichotomy j i with hl | hl | hl
  · have := h1 j hl; rw [e, lessS_irrefl] at this; cases this
  · exact hl
  · have h3 := h.lt j i hl hj
    rw [e] at h3
    have h4 := h2 i (Nat.le_refl _) (by omega)
    rw [h3] at h4; cases h4
theorem search_up {n : Nat} {ks : Nat → ByteArray} (h : Rises n ks) {x : ByteArray} {m : Nat} (hm : m < n) (hl : lessS (ks m) x = true) : ∀ t, t ≤ m → lessS (ks t) x = true := by
  intro t ht
  rcases Nat.lt_or_ge t m with h1 | h1
  · exact lessS_trans (h.lt m t h1 hm) hl
  · obtain rfl : t = m := by omega
    exact hl
theorem search_down {n : Nat} {ks : Nat → ByteArray} (h : Rises n ks) {x : ByteArray} {m : Nat} (hl : lessS (ks m) x = false) : ∀ t, m ≤ t → t < n → lessS (ks t) x = false := by
  intro t ht hn
  cases hc : lessS (ks t) x with
  | false => rfl
  | true =>
    rcases Nat.lt_or_ge m t with h1 | h1
    · have := lessS_trans (h.lt t m h1 hn) hc; rw [hl] at this; cases this
    · obtain rfl : t = m := by omega
      rw [hl] at hc; cases hc
/-- keys of a right record rise -/
theorem keys_rise {ps : List KV} (h : errL ps = 0) : Rises ps.length (fun i => (ps.getD i default).1) := by
  have hg : ¬ (ps.length = 0 ∨ 512 < ps.length) := by obtain ⟨a, b, _⟩ := fine h; omega
  have hall : ∀ j, j < ps.length → badAt ps j = 0 := by
    intro j
    induction j using Nat.strongRecOn with
    | ind j ih =>
      intro hj
      by_cases hb : badAt ps j = 0
      · exact hb
      · have := (wrong_at hg hj (fun i hi => ih i hi (by omega)) hb).2
        rw [h] at this
        exact this.symm
  intro i hi
  have hb := hall (i + 1) hi
  have hs := badAt_small hi hb
  unfold badAt badP at hb
  rw [if_neg (by omega : ¬ i + 1 = 0), show i + 1 - 1 = i by omega] at hb
  rw [getD_at hi] at hb
  rw [if_neg (by omega), if_neg (by omega), badQ] at hb
  simp only
  rw [getD_at hi]
  rcases lessS_total (ps.getD i default).1 ps[i + 1].1 with e | e | e
  · rw [if_pos e.symm] at hb; omega
  · exact e
  · by_cases hq : ps[i + 1].1 = (ps.getD i default).1
    · rw [if_pos hq] at hb; omega
    · rw [if_neg hq, if_pos e] at hb; omega
end Go.Proofs.Ytfmmfophdfjopaa
namespace Go.Proofs.Ytfmmfophdfjopaa
open Go.RowKit
/-- what a search says -/
def FoundAt (n : Nat) (ks : Nat → ByteArray) (x : ByteArray) (i : Nat) (f : Bool) : Prop := (f = true → i < n ∧ ks i = x) ∧ (f = false → ∀ t, t < n → ks t ≠ x)
def BsSays (n : Nat) (ks : Nat → ByteArray) (x : ByteArray) (e : Ending) : Prop := ∃ (i : Nat) (f : Bool), e = .returned (.tuple #[.int .i64 (i : Int), .bool f]) ∧ FoundAt n ks x i f
theorem found_no {n : Nat} {ks : Nat → ByteArray} {x : ByteArray} {i : Nat} (h : ∀ t, t < n → ks t ≠ x) : FoundAt n ks x i false := ⟨fun k => Bool.noConfusion k, fun _ => h⟩
theorem found_yes {n : Nat} {ks : Nat → ByteArray} {x : ByteArray} {i : Nat} (h : i < n) (e : ks i = x) : FoundAt n ks x i true := ⟨fun _ => ⟨h, e⟩, fun k => Bool.noConfusion k⟩
def cmpI (k x : ByteArray) : Int := if k = x then 0 else if lessS k x then -1 else 1
theorem cmpI_zero {k x : ByteArray} : cmpI k x = 0 ↔ k = x := by
  unfold cmpI
  by_cases h : k = x
  · simp [h]
  · rw [if_neg h]
    constructor
    · intro e; split at e <;> omega
    · intro e; exact absurd e h
theorem cmpI_neg {k x : ByteArray} : cmpI k x < 0 ↔ lessS k x = true := by
  unfold cmpI
  by_cases h : k = x
  · subst h; simp [lessS_irrefl]
  · rw [if_neg h]
    by_cases h2 : lessS k x = true
    · simp [h2]
    · simp only [Bool.not_eq_true] at h2; simp [h2]
end Go.Proofs.Ytfmmfophdfjopaa
namespace Go.Proofs.Ytfmmfophdfjopaa
open Go.RowKit
/-- the pair of a key, or none -/
def pairFor (ps : List KV) (x : ByteArray) : Option KV := ps.find? (fun p => decide (p.1 = x))
theorem pairFor_some {ps : List KV} {x : ByteArray} {i : Nat} (hr : Rises ps.length (fun t => (ps.getD t default).1)) (hi : i < ps.length) (e : (ps.getD i default).1 = x) : pairFor ps x = some ps[i] := by
  unfold pairFor
  rw [List.find?_eq_some_iff_getElem]
  rw [getD_at hi] at e
  refine ⟨by simpa using e, i, hi, rfl, fun j hj => ?_⟩
  simp only [Bool.not_eq_true', decide_eq_false_iff_not]
  intro e2
  have := hr.inj (i := j) (j := i) (by omega) hi (by show (ps.getD j default).1 = (ps.getD i default).1; rw [getD_at (by omega), getD_at hi, e2, e])
  omega
theorem pairFor_none {ps : List KV} {x : ByteArray} (h : ∀ t, t < ps.length → (ps.getD t default).1 ≠ x) : pairFor ps x = none := by
  unfold pairFor
  rw [List.find?_eq_none]
  intro p hp
  obtain ⟨i, hi, rfl⟩ := List.getElem_of_mem hp
  have := h i hi
  rw [getD_at hi] at this
  simpa using this
def pairForV (ps : List KV) (x : ByteArray) : Value := match pairFor ps x with | some p => .agg #[.string p.1, .string p.2] | none => .agg #[.string ⟨#[]⟩, .string ⟨#[]⟩]
def pairForB (ps : List KV) (x : ByteArray) : Bool := (pairFor ps x).isSome
end Go.Proofs.Ytfmmfophdfjopaa
namespace Go.Proofs.Ytfmmfophdfjopaa
theorem str_small {s : ByteArray} (h : s.data.toList.length ≤ reachBytes) : s.size ≤ 140737488351232 := by
  rw [size_data] at h; exact h
theorem int_in {n : Int} (h : (Lit.int .i64 n).wf = true) : -9223372036854775808 ≤ n ∧ n ≤ 9223372036854775807 := by
  simp only [Lit.wf, Bool.and_eq_true, decide_eq_true_eq] at h
  exact h
end Go.Proofs.Ytfmmfophdfjopaa
namespace Go.Proofs.Ytfmmfophdfjopaa
open Go.RowKit
theorem strOf_app (a b : List UInt8) : strOf (a ++ b) = strOf a ++ strOf b := by
  unfold strOf
  apply ByteArray.ext
  simp
theorem one_conv (w : World) (b : UInt8) : (convert 42 9 (.slice (some ⟨w.heap.size, 0, none⟩) 1 1)).run Try.prog (w.alloc (.cells #[.int .u8 (b.toNat : Int)] 5)) = .ok (.string (strOf [b])) (w.alloc (.cells #[.int .u8 (b.toNat : Int)] 5)) :=
  run_convert_bytes_back _ 42 9 5 ⟨w.heap.size, 0, none⟩ 1 [b] Try.underlying42 Try.underlying5 Try.underlying9 (fun j hj => by
    have := cell_one_new w (.int .u8 (b.toNat : Int)) 5 j (.int .u8 (b.toNat : Int)) (by simp at hj; subst hj; rfl)
    rw [this]
    simp at hj; subst hj; rfl)
theorem strOf_cons (b : UInt8) (l : List UInt8) : strOf (b :: l) = strOf [b] ++ strOf l := strOf_app [b] l
theorem num_any (d : Int) (w : World) :
    Calls Try.prog 8 #[.int .i64 d] w fun e w' => e = .returned (.int .i64 d) ∧ w = w' := by
  go_enter Try.func8, Try.ntmps8
  go_wp2
  go_ret
  exact ⟨rfl, rfl⟩
end Go.Proofs.Ytfmmfophdfjopaa
namespace Go.Proofs.Ytfmmfophdfjopaa
open Go.RowKit
theorem emptyS (s : ByteArray) : s.toList.isEmpty = decide (s.size = 0) := by
  rw [ByteArray.toList_eq, Bool.eq_iff_iff, decide_eq_true_eq, List.isEmpty_iff]
  constructor
  · intro h; rw [← size_data, h]; rfl
  · intro h; rw [← size_data] at h; exact List.eq_nil_of_length_eq_zero h
end Go.Proofs.Ytfmmfophdfjopaa
namespace Go.Proofs.Ytfmmfophdfjopaa
open Go.RowKit
theorem errL_wrong {ps : List KV} (h : wrongL ps ≠ 0) : errL ps = wrongL ps := by unfold errL; rw [if_neg h]
theorem errL_size {ps : List KV} (h : wrongL ps = 0) : errL ps = if 65536 < 2 + sizeL ps then 3 else 0 := by unfold errL; rw [if_pos h]
theorem fine2 {ps : List KV} (h : wrongL ps = 0) : ps.length ≤ 512 ∧ 0 < ps.length ∧ ∀ i (h : i < ps.length), ps[i].1.size ≤ 255 ∧ ps[i].2.size ≤ 4096 := by
  by_cases hg : ps.length = 0 ∨ 512 < ps.length
  · rw [(wrong_group hg).1] at h; omega
  · have hall : ∀ j, j < ps.length → badAt ps j = 0 := by
      intro j
      induction j using Nat.strongRecOn with
      | ind j ih =>
        intro hj
        by_cases hb : badAt ps j = 0
        · exact hb
        · have := (wrong_at hg hj (fun i hi => ih i hi (by omega)) hb).1
          rw [h] at this
          exact this.symm
    exact ⟨by omega, by omega, fun i hi => ⟨(badAt_small hi (hall i hi)).2.1, (badAt_small hi (hall i hi)).2.2⟩⟩
theorem own_below {w w' : World} {base e sz n : Nat} {v : Value} {xs : List Value} (h : w.ownsRow base e sz v n xs) (hb : Below w.heap.size w w') : w'.ownsRow base e sz v n xs := by
  refine h.kept (row := none) ⟨hb.os, hb.tape, hb.output, hb.size, fun k hk _ => hb.block k hk⟩ ?_
  rcases hv : v.ownBlock with _ | _
  · exact .inl rfl
  · exact .inr (by simp)
end Go.Proofs.Ytfmmfophdfjopaa
namespace Go.Proofs.Ytfmmfophdfjopaa
open Go.RowKit
/-- the cells of pairs -/
def pc (ps : List KV) : List Value := ps.flatMap fun p => [.string p.1, .string p.2]
theorem pc_len (ps : List KV) : (pc ps).length = ps.length * 2 := by
  induction ps with
  | nil => rfl
  | cons p r ih => unfold pc at ih ⊢; rw [List.flatMap_cons, List.length_append, ih]; simp; omega
theorem pc_append (a b : List KV) : pc (a ++ b) = pc a ++ pc b := by simp [pc]
theorem pc_at (ps : List KV) : ∀ i (h : i < ps.length), (pc ps)[i * 2]? = some (.string ps[i].1) ∧ (pc ps)[i * 2 + 1]? = some (.string ps[i].2) := by
  induction ps with
  | nil => intro i h; simp at h
  | cons p r ih =>
    intro i h
    cases i with
    | zero => exact ⟨rfl, rfl⟩
    | succ i =>
      have := ih i (by simpa using h)
      have e : pc (p :: r) = .string p.1 :: .string p.2 :: pc r := rfl
      rw [e, show (i + 1) * 2 = i * 2 + 1 + 1 by omega]
      simpa using this
theorem pc_one (ps : List KV) : ∀ u ∈ pc ps, u.oneCell' = true := by
  intro u hu
  obtain ⟨p, _, hp⟩ := List.mem_flatMap.1 hu
  simp at hp
  rcases hp with rfl | rfl <;> rfl
theorem lies_cells {b off : Nat} {w : World} {ps : List KV} (h : LiesP b off w ps) : ∀ j u, (pc ps)[j]? = some u → w.cell? ((⟨b, off, none⟩ : Addr).add j) = some u := by
  intro j u hj
  have hlt := (List.getElem?_eq_some_iff.1 hj).1
  rw [pc_len] at hlt
  have ha : (⟨b, off, none⟩ : Addr).add j = ⟨b, off + j, none⟩ := by simp [Addr.add]
  rw [ha]
  obtain ⟨h0, h1⟩ := h (j / 2) (by omega)
  obtain ⟨p0, p1⟩ := pc_at ps (j / 2) (by omega)
  rcases Nat.mod_two_eq_zero_or_one j with e | e
  · have : j = j / 2 * 2 := by omega
    rw [← this] at h0 p0
    rw [h0, ← p0, hj]
  · have : j = j / 2 * 2 + 1 := by omega
    rw [show off + j / 2 * 2 + 1 = off + j by omega] at h1
    rw [← this] at p1
    rw [h1, ← p1, hj]
theorem row_lies {w : World} {base g cap n : Nat} {ps qs : List KV} {e : TypeId} (h : w.ownsRow base e 2 (.slice (some ⟨g, 0, none⟩) n cap) n (pc (ps ++ qs))) (hn : ps.length ≤ n) : LiesP g 0 w ps := by
  intro i hi
  have h0 := h.cellAt (i * 2) (by omega)
  have h1 := h.cellAt (i * 2 + 1) (by omega)
  obtain ⟨p0, p1⟩ := pc_at (ps ++ qs) i (by simp; omega)
  rw [List.getElem_append_left hi] at p0 p1
  rw [Nat.zero_add, h0, h1, p0, p1]
  exact ⟨rfl, rfl⟩
theorem infoP : (Try.prog.info? 55).map (fun i => (i.zero, i.size, i.bytes)) = some (some (.agg #[.string ⟨#[]⟩, .string ⟨#[]⟩]), 2, 32) := by kernel_rfl
def mark1 : KV := (⟨#[98, 101, 104, 105, 110, 100]⟩, ⟨#[49]⟩)
def mark2 : KV := (⟨#[98, 101, 104, 105, 110, 100]⟩, ⟨#[50]⟩)
set_option maxHeartbeats 1000000 in
set_option maxRecDepth 100000 in
/-- samePairs, of two lists that are the same -/
theorem samePairs_any (a1 a2 : Option Addr) (b1 o1 c1 b2 o2 c2 : Nat) (ps : List KV) (w : World) (h1 : 0 < ps.length → a1 = some ⟨b1, o1, none⟩) (h2 : 0 < ps.length → a2 = some ⟨b2, o2, none⟩) (hb1 : 0 < ps.length → b1 < w.heap.size) (hb2 : 0 < ps.length → b2 < w.heap.size) (l1 : LiesP b1 o1 w ps) (l2 : LiesP b2 o2 w ps) (hlen : ps.length ≤ 1099511627776000) :
    Calls Try.prog 13 #[.slice a1 ps.length c1, .slice a2 ps.length c2] w fun e w' => e = .returned (.bool true) ∧ Below w.heap.size w w' := by
  have L1 := hide l1
  have L2 := hide l2
  clear l1 l2
  go_enter Try.func13, Try.ntmps13
  go_wp2_with fail
  go_loopw [5] (fun i wr => ∃ k : Nat, k ≤ ps.length ∧ i = .int .i64 k ∧ Below w.heap.size w wr) (fun i _ => ps.length - (intOf i).toNat)
  case atStart => exact ⟨0, Nat.zero_le _, rfl, Below.refl _ _⟩
  case round =>
    obtain ⟨k, hk, rfl, hnx⟩ := hrel
    by_cases hlt : k < ps.length
    · obtain rfl := h1 (by omega)
      obtain rfl := h2 (by omega)
      obtain ⟨d1, d2⟩ := L1.out.below (hb1 (by omega)) hnx k hlt
      obtain ⟨d3, d4⟩ := L2.out.below (hb2 (by omega)) hnx k hlt
      have hk1 : (k : Int) < (ps.length : Int) := by omega
      have HNX := hide hnx
      clear hnx
      generalize ps[k].1 = X at *
      generalize ps[k].2 = Y at *
      go_wp2_with fail
      go_quiet (fail)
      go_wp2
      go_roundw
      case rel => exact ⟨k + 1, by omega, by go_num, below_drewN HNX.out _⟩
      case measure => simp [intOf]; omega
    · have HNX := hide hnx
      clear hnx
      go_wp2
      go_ret
      exact ⟨rfl, HNX.out⟩
theorem pc_marks : pc [mark1, mark2] = (#[.string ⟨#[98, 101, 104, 105, 110, 100]⟩, .string ⟨#[49]⟩, .string ⟨#[98, 101, 104, 105, 110, 100]⟩, .string ⟨#[50]⟩] : Array Value).toList := rfl
theorem cell_marks (w : World) : ∀ j u, (pc [mark1, mark2])[j]? = some u → (w.alloc (.cells #[.string ⟨#[98, 101, 104, 105, 110, 100]⟩, .string ⟨#[49]⟩, .string ⟨#[98, 101, 104, 105, 110, 100]⟩, .string ⟨#[50]⟩] 55)).cell? ((⟨w.heap.size, 0, none⟩ : Addr).add j) = some u := by
  rw [pc_marks]
  exact (World.ownsRow_lit (base := 0) (e := 55) (size := 2) w _ 2 (by omega) (by unfold maxLen; omega) rfl).cells (g := w.heap.size) rfl
def mk2 : List Value := pc [mark1, mark2]
theorem mk2_len : mk2.length = 2 * 2 := rfl
theorem mk2_one : ∀ u ∈ mk2, u.oneCell' = true := pc_one _
theorem mk2_cells (w : World) : ∀ j u, mk2[j]? = some u → (w.alloc (.cells #[.string ⟨#[98, 101, 104, 105, 110, 100]⟩, .string ⟨#[49]⟩, .string ⟨#[98, 101, 104, 105, 110, 100]⟩, .string ⟨#[50]⟩] 55)).cell? ((⟨w.heap.size, 0, none⟩ : Addr).add j) = some u := cell_marks w
theorem room_facts (n : Nat) (hlen : (n + 2) * 32 ≤ 140737488355328) : 0 + n + 2 ≤ maxLen ∧ (0 + n + 2) * 32 ≤ 140737488355328 ∧ 0 + n ≤ maxLen ∧ (0 + n) * 32 ≤ 140737488355328 := by
  unfold maxLen; omega
theorem le_alloc {B : Nat} {w : World} {o : Obj} (h : B ≤ w.heap.size) : B ≤ (w.alloc o).heap.size := by simp; omega
/-- a slice of pairs as it comes in -/
def PairsAt (w : World) (v : Value) (a : Addr) (b off cap : Nat) (ps : List KV) : Prop := (v = .slice none 0 0 ∧ ps = []) ∨ (v = .slice (some a) ps.length cap ∧ (0 < ps.length → a = ⟨b, off, none⟩ ∧ b < w.heap.size) ∧ LiesP b off w ps)
end Go.Proofs.Ytfmmfophdfjopaa
namespace Go.Proofs.Ytfmmfophdfjopaa
open Go.RowKit
theorem PairsAt.split {w : World} {v : Value} {a : Addr} {b off cap : Nat} {ps : List KV} (h : PairsAt w v a b off cap ps) : ∃ ao cp, v = .slice ao ps.length cp ∧ (0 < ps.length → ao = some ⟨b, off, none⟩) ∧ (0 < ps.length → b < w.heap.size) ∧ LiesP b off w ps := by
  rcases h with ⟨rfl, rfl⟩ | ⟨rfl, hb, hl⟩
  · exact ⟨none, 0, rfl, fun h => by simp at h, fun h => by simp at h, fun i hi => by simp at hi⟩
  · exact ⟨_, _, rfl, fun h => by rw [(hb h).1], fun h => (hb h).2, hl⟩
theorem PairsAt.below {w w' : World} {v : Value} {a : Addr} {b off cap : Nat} {ps : List KV} (h : PairsAt w v a b off cap ps) (hb : Below w.heap.size w w') : PairsAt w' v a b off cap ps := by
  rcases h with h | ⟨h, hlt, hl⟩
  · exact .inl h
  · refine .inr ⟨h, fun k => ⟨(hlt k).1, Nat.lt_of_lt_of_le (hlt k).2 hb.size⟩, fun i hi => ?_⟩
    have hb' := (hlt (by omega)).2
    exact hl.below hb' hb i hi
theorem marks_len (ps : List KV) : (ps ++ [mark1, mark2]).length = ps.length + 2 := by simp
theorem row_lt {w : World} {base g cap n e sz : Nat} {xs : List Value} (h : w.ownsRow base e sz (.slice (some ⟨g, 0, none⟩) n cap) n xs) : g < w.heap.size := (h.lt g rfl).2
theorem row_cap {w : World} {base g cap n e sz : Nat} {xs : List Value} (h : w.ownsRow base e sz (.slice (some ⟨g, 0, none⟩) n cap) n xs) : n ≤ cap := by
  rcases h.2 with ⟨h0, _⟩ | ⟨g', cap', cur, h0, _, _, hn, _⟩
  · cases h0
  · injection h0 with h1 h2 h3; subst h3; exact hn
theorem bytes_len {n : Nat} (h : (n + 2) * 32 ≤ 140737488355328) : n ≤ 1099511627776000 ∧ n + 2 ≤ 1099511627776000 := by omega
end Go.Proofs.Ytfmmfophdfjopaa
namespace Go.Proofs.Ytfmmfophdfjopaa
open Go.RowKit
def kAt (d : ByteArray) (p : Nat) : Nat := val ((d.data.toList.drop p).take 2)
def vAt (d : ByteArray) (p : Nat) : Nat := val ((d.data.toList.drop (p + 2)).take 4)
def pairOf (d : ByteArray) (p : Nat) : KV := (d.extract (p + 6) (p + 6 + kAt d p), d.extract (p + 6 + kAt d p) (p + 6 + kAt d p + vAt d p))
def pairEnd (d : ByteArray) (p : Nat) : Nat := p + 6 + kAt d p + vAt d p
def pairOk (d : ByteArray) (p : Nat) : Prop := p + 6 ≤ d.size ∧ pairEnd d p ≤ d.size
instance (d : ByteArray) (p : Nat) : Decidable (pairOk d p) := by unfold pairOk; exact inferInstance
def pairsAt (d : ByteArray) (p : Nat) : Nat → Option (List KV × Nat)
  | 0 => some ([], p)
  | n + 1 => match pairsAt d p n with
    | none => none
    | some (l, q) => if pairOk d q then some (l ++ [pairOf d q], pairEnd d q) else none
def spellAt (d : ByteArray) (p : Nat) : Option (List KV × Nat) := if p + 2 ≤ d.size then pairsAt d (p + 2) (kAt d p) else none
theorem kAt_lt (d : ByteArray) (p : Nat) : kAt d p < 65536 := by
  unfold kAt
  exact Nat.lt_of_lt_of_le (val_lt _) (Nat.pow_le_pow_right (show 256 > 0 by omega) (show ((d.data.toList.drop p).take 2).length ≤ 2 by rw [List.length_take]; omega))
theorem vAt_lt (d : ByteArray) (p : Nat) : vAt d p < 4294967296 := by
  unfold vAt
  exact Nat.lt_of_lt_of_le (val_lt _) (Nat.pow_le_pow_right (show 256 > 0 by omega) (show ((d.data.toList.drop (p + 2)).take 4).length ≤ 4 by rw [List.length_take]; omega))
theorem pairs_step {d : ByteArray} {p n : Nat} {l : List KV} {q : Nat} (h : pairsAt d p n = some (l, q)) (hk : pairOk d q) : pairsAt d p (n + 1) = some (l ++ [pairOf d q], pairEnd d q) := by
  unfold pairsAt; rw [h]; simp only; rw [if_pos hk]
theorem pairs_stop {d : ByteArray} {p n : Nat} {l : List KV} {q : Nat} (h : pairsAt d p n = some (l, q)) (hk : ¬ pairOk d q) : pairsAt d p (n + 1) = none := by
  unfold pairsAt; rw [h]; simp only; rw [if_neg hk]
theorem pairs_none {d : ByteArray} {p n : Nat} (h : pairsAt d p n = none) (m : Nat) : pairsAt d p (n + m) = none := by
  induction m with
  | zero => exact h
  | succ m ih => rw [show n + (m + 1) = n + m + 1 by omega, pairsAt, ih]
theorem pair_body {d : ByteArray} {q : Nat} (h : pairOk d q) : pairL (pairOf d q) = (d.data.toList.drop q).take (pairEnd d q - q) := by
  obtain ⟨h6, he⟩ := h
  have hz := size_data d
  unfold pairEnd at he
  have s1 : (pairOf d q).1.size = kAt d q := by unfold pairOf; simp; omega
  have s2 : (pairOf d q).2.size = vAt d q := by unfold pairOf; simp; omega
  have e1 : dig 2 (kAt d q) = (d.data.toList.drop q).take 2 := by
    have := dig_val ((d.data.toList.drop q).take 2)
    rw [show ((d.data.toList.drop q).take 2).length = 2 by rw [List.length_take, List.length_drop]; omega] at this
    exact this
  have e2 : dig 4 (vAt d q) = (d.data.toList.drop (q + 2)).take 4 := by
    have := dig_val ((d.data.toList.drop (q + 2)).take 4)
    rw [show ((d.data.toList.drop (q + 2)).take 4).length = 4 by rw [List.length_take, List.length_drop]; omega] at this
    exact this
  have e3 : (pairOf d q).1.data.toList = (d.data.toList.drop (q + 6)).take (kAt d q) := by
    unfold pairOf; simp only; rw [slice_str, show q + 6 + kAt d q - (q + 6) = kAt d q by omega]
  have e4 : (pairOf d q).2.data.toList = (d.data.toList.drop (q + 6 + kAt d q)).take (vAt d q) := by
    unfold pairOf; simp only; rw [slice_str, show q + 6 + kAt d q + vAt d q - (q + 6 + kAt d q) = vAt d q by omega]
  unfold pairL pairEnd
  rw [s1, s2, e1, e2, e3, e4, show q + 6 + kAt d q + vAt d q - q = 2 + (4 + (kAt d q + vAt d q)) by omega, List.take_add, List.take_add, List.take_add]
  simp only [List.drop_drop, List.append_assoc]
theorem pairs_body {d : ByteArray} {p : Nat} (hp : p ≤ d.size) : ∀ n l q, pairsAt d p n = some (l, q) → p ≤ q ∧ q ≤ d.size ∧ l.length = n ∧ bodyL l = (d.data.toList.drop p).take (q - p) := by
  intro n
  induction n with
  | zero => intro l q h; simp [pairsAt] at h; obtain ⟨rfl, rfl⟩ := h; simp [bodyL, hp]
  | succ n ih =>
    intro l q h
    rw [pairsAt] at h
    split at h
    · cases h
    · rename_i l' q' h'
      obtain ⟨i1, i2, i3, i4⟩ := ih l' q' h'
      by_cases hk : pairOk d q'
      · rw [if_pos hk] at h
        simp only [Option.some.injEq, Prod.mk.injEq] at h
        obtain ⟨rfl, rfl⟩ := h
        have hb := pair_body hk
        have hq : q' ≤ pairEnd d q' := by unfold pairEnd; omega
        refine ⟨by omega, hk.2, by simp [i3], ?_⟩
        have : bodyL (l' ++ [pairOf d q']) = bodyL l' ++ pairL (pairOf d q') := by simp [bodyL]
        rw [this, i4, hb, show pairEnd d q' - p = (q' - p) + (pairEnd d q' - q') by omega, List.take_add, List.drop_drop, show p + (q' - p) = q' by omega]
      · rw [if_neg hk] at h; cases h
theorem spell_rec {d : ByteArray} {p : Nat} {l : List KV} {q : Nat} (h : spellAt d p = some (l, q)) : p + 2 ≤ q ∧ q ≤ d.size ∧ l.length < 65536 ∧ recL l = (d.data.toList.drop p).take (q - p) := by
  unfold spellAt at h
  by_cases hp : p + 2 ≤ d.size
  · rw [if_pos hp] at h
    obtain ⟨i1, i2, i3, i4⟩ := pairs_body hp _ _ _ h
    have e1 : dig 2 (kAt d p) = (d.data.toList.drop p).take 2 := by
      have := dig_val ((d.data.toList.drop p).take 2)
      rw [show ((d.data.toList.drop p).take 2).length = 2 by rw [List.length_take, List.length_drop, size_data]; omega] at this
      exact this
    refine ⟨i1, i2, by rw [i3]; exact kAt_lt _ _, ?_⟩
    unfold recL
    rw [i3, i4, e1, show q - p = 2 + (q - (p + 2)) by omega, List.take_add, List.drop_drop]
  · rw [if_neg hp] at h; cases h
theorem spell_text {d : ByteArray} {p : Nat} {l : List KV} {q : Nat} (h : spellAt d p = some (l, q)) : strOf (recL l) = d.extract p q := by
  rw [(spell_rec h).2.2.2, ← slice_str, strOf_toList]
end Go.Proofs.Ytfmmfophdfjopaa
namespace Go.Proofs.Ytfmmfophdfjopaa
open Go.RowKit
def okB (d : ByteArray) (p : Nat) : Bool := decide (pairOk d p)
def pairV (d : ByteArray) (p : Nat) : Value := if pairOk d p then .agg #[.string (pairOf d p).1, .string (pairOf d p).2] else .agg #[.string ⟨#[]⟩, .string ⟨#[]⟩]
def pairN (d : ByteArray) (p : Nat) : Int := if pairOk d p then (pairEnd d p : Int) else 0
theorem pairV_ok {d : ByteArray} {p : Nat} (h : pairOk d p) : pairV d p = .agg #[.string (pairOf d p).1, .string (pairOf d p).2] ∧ pairN d p = (pairEnd d p : Int) ∧ okB d p = true := by
  unfold pairV pairN okB; rw [if_pos h, if_pos h]; exact ⟨rfl, rfl, decide_eq_true h⟩
theorem pairV_no {d : ByteArray} {p : Nat} (h : ¬ pairOk d p) : pairV d p = .agg #[.string ⟨#[]⟩, .string ⟨#[]⟩] ∧ pairN d p = 0 ∧ okB d p = false := by
  unfold pairV pairN okB; rw [if_neg h, if_neg h]; exact ⟨rfl, rfl, decide_eq_false h⟩
theorem results_c3 (tmps : Array Value) (w : World) (g : Nat) (cs : Array Value) (hg : w.heap[g]? = some (.cells cs 55 (0, 0))) (hp : tmps.getD 4 undef = .pointer (some ⟨g, 0, none⟩)) (hs : cs.size = 2) :
    (results Try.f39 tmps).run Try.prog w = .ok (.tuple #[.agg cs, tmps.getD 5 undef, tmps.getD 6 undef]) w := by
  have hp' : tmps[4]?.getD undef = .pointer (some ⟨g, 0, none⟩) := by simpa using hp
  have hi : (Try.prog.info? 55).map (·.size) = some cs.size := by rw [hs]; kernel_rfl
  have hl := run_loadVar_row (P := Try.prog) w g 55 55 cs (0, 0) _ hg Try.underlying55 rfl hi
  simp [results, Try.results39, hp', asAddr, hl]
set_option maxHeartbeats 2000000 in
set_option maxRecDepth 100000 in
set_option linter.unusedSimpArgs false in
/-- readPair -/
theorem readPair_any (d : ByteArray) (p : Nat) (hd : d.size ≤ 140737488351232) (hp : p ≤ d.size) (w : World) :
    Calls Try.prog 39 #[.string d, .int .i64 (p : Int)] w fun e w' => e = .returned (.tuple #[pairV d p, .int .i64 (pairN d p), .bool (okB d p)]) ∧ Below w.heap.size w w' := by
  by_cases h6 : p + 6 ≤ d.size
  · have C1 := take16_any (d.extract p (p + 2)) (by simp; omega) 
    have C2 := take32_any (d.extract (p + 2) (p + 6)) (by simp; omega)
    rw [slice_str, show p + 2 - p = 2 by omega] at C1
    rw [slice_str, show p + 6 - (p + 2) = 4 by omega] at C2
    have hk := kAt_lt d p
    have hv := vAt_lt d p
    have HC1 : Hid (∀ w', Calls Try.prog 38 #[.string (d.extract p (p + 2))] w' fun e w'' => e = .returned (.int .u16 (kAt d p : Int)) ∧ w' = w'') := C1
    have HC2 : Hid (∀ w', Calls Try.prog 42 #[.string (d.extract (p + 2) (p + 6))] w' fun e w'' => e = .returned (.int .u32 (vAt d p : Int)) ∧ w' = w'') := C2
    clear C1 C2
    have hEnd : pairEnd d p = p + 6 + kAt d p + vAt d p := rfl
    have hF1 : (pairOf d p).1 = d.extract (p + 6) (p + 6 + kAt d p) := rfl
    have hF2 : (pairOf d p).2 = d.extract (p + 6 + kAt d p) (p + 6 + kAt d p + vAt d p) := rfl
    by_cases he : pairEnd d p ≤ d.size
    · obtain ⟨e1, e2, e3⟩ := pairV_ok (d := d) (p := p) ⟨h6, he⟩
      rw [e1, e2, e3, hF1, hF2, hEnd]
      rw [hEnd] at he
      clear e1 e2 e3 hF1 hF2 hEnd
      generalize kAt d p = K at *
      generalize vAt d p = V at *
      go_enter Try.func39, Try.ntmps39
      go_wp2_with fail
      refine Calls.mono (HC1.out _) ?_
      rintro e wx ⟨rfl, rfl⟩
      go_wp2_with fail
      refine Calls.mono (HC2.out _) ?_
      rintro e wx ⟨rfl, rfl⟩
      go_wp2_with fail
      refine wp_region_held_drew (S := fun _ => True) (by kernel_rfl) trivial (fun hHeld => ?_)
      refine wpAnyH_take (i := 0) (v := (.string d)) rfl (by kernel_rfl) (by kernel_rfl) (by kernel_rfl) (fun _ _ _ h => h) (Or.inl ⟨by rfl, ?_⟩) (by assumption) ?_
      · intro w' hSw
        (try dsimp only at hSw)
        go_simp <;> first | exact i64_in (by omega) (by omega) | exact u32_in (by omega) (by omega) | exact u32_add _ _ | (rw [Int.tmod_eq_emod_of_nonneg (by omega)]; omega) | (rw [Int.tdiv_eq_ediv_of_nonneg (by omega)]; omega) | omega
      (try simp only [Act.put, List.setIfInBounds_toArray, List.set_cons_zero, List.set_cons_succ])
      refine wpAnyH_take (i := 1) (v := (.int .i64 ((p : Int) + 6))) rfl (by kernel_rfl) (by kernel_rfl) (by kernel_rfl) (fun _ _ _ h => h) (Or.inl ⟨by rfl, ?_⟩) (by assumption) ?_
      · intro w' hSw
        (try dsimp only at hSw)
        go_simp <;> first | exact i64_in (by omega) (by omega) | exact u32_in (by omega) (by omega) | exact u32_add _ _ | (rw [Int.tmod_eq_emod_of_nonneg (by omega)]; omega) | (rw [Int.tdiv_eq_ediv_of_nonneg (by omega)]; omega) | omega
      (try simp only [Act.put, List.setIfInBounds_toArray, List.set_cons_zero, List.set_cons_succ])
      refine wpAnyH_take (i := 2) (v := (.int .i64 ((p : Int) + 6 + (K : Int)))) rfl (by kernel_rfl) (by kernel_rfl) (by kernel_rfl) (fun _ _ _ h => h) (Or.inl ⟨by rfl, ?_⟩) (by assumption) ?_
      · intro w' hSw
        (try dsimp only at hSw)
        go_simp <;> first | exact i64_in (by omega) (by omega) | exact u32_in (by omega) (by omega) | exact u32_add _ _ | (rw [Int.tmod_eq_emod_of_nonneg (by omega)]; omega) | (rw [Int.tdiv_eq_ediv_of_nonneg (by omega)]; omega) | omega
      (try simp only [Act.put, List.setIfInBounds_toArray, List.set_cons_zero, List.set_cons_succ])
      refine wpAnyH_take (i := 3) (v := (.string (d.extract (p + 6) (p + 6 + K)))) rfl (by kernel_rfl) (by kernel_rfl) (by kernel_rfl) (fun _ _ _ h => h) (Or.inl ⟨by rfl, ?_⟩) (by assumption) ?_
      · intro w' hSw
        (try dsimp only at hSw)
        (go_simp; (repeat rw [if_pos (by first | omega | exact ⟨by omega, by omega⟩)]); (try rw [show ((p : Int) + 6).toNat = p + 6 by omega]); (try rw [show ((p : Int) + 6 + (K : Int)).toNat = p + 6 + K by omega]); (try rw [show ((p : Int) + 6 + (K : Int) + (V : Int)).toNat = p + 6 + K + V by omega]))
      (try simp only [Act.put, List.setIfInBounds_toArray, List.set_cons_zero, List.set_cons_succ])
      refine wpAnyH_take (i := 4) (v := (.string d)) rfl (by kernel_rfl) (by kernel_rfl) (by kernel_rfl) (fun _ _ _ h => h) (Or.inl ⟨by rfl, ?_⟩) (by assumption) ?_
      · intro w' hSw
        (try dsimp only at hSw)
        go_simp <;> first | exact i64_in (by omega) (by omega) | exact u32_in (by omega) (by omega) | exact u32_add _ _ | (rw [Int.tmod_eq_emod_of_nonneg (by omega)]; omega) | (rw [Int.tdiv_eq_ediv_of_nonneg (by omega)]; omega) | omega
      (try simp only [Act.put, List.setIfInBounds_toArray, List.set_cons_zero, List.set_cons_succ])
      refine wpAnyH_take (i := 5) (v := (.int .i64 ((p : Int) + 6 + (K : Int)))) rfl (by kernel_rfl) (by kernel_rfl) (by kernel_rfl) (fun _ _ _ h => h) (Or.inl ⟨by rfl, ?_⟩) (by assumption) ?_
      · intro w' hSw
        (try dsimp only at hSw)
        go_simp <;> first | exact i64_in (by omega) (by omega) | exact u32_in (by omega) (by omega) | exact u32_add _ _ | (rw [Int.tmod_eq_emod_of_nonneg (by omega)]; omega) | (rw [Int.tdiv_eq_ediv_of_nonneg (by omega)]; omega) | omega
      (try simp only [Act.put, List.setIfInBounds_toArray, List.set_cons_zero, List.set_cons_succ])
      refine wpAnyH_take (i := 6) (v := (.int .i64 ((p : Int) + 6 + (K : Int) + (V : Int)))) rfl (by kernel_rfl) (by kernel_rfl) (by kernel_rfl) (fun _ _ _ h => h) (Or.inl ⟨by rfl, ?_⟩) (by assumption) ?_
      · intro w' hSw
        (try dsimp only at hSw)
        go_simp <;> first | exact i64_in (by omega) (by omega) | exact u32_in (by omega) (by omega) | exact u32_add _ _ | (rw [Int.tmod_eq_emod_of_nonneg (by omega)]; omega) | (rw [Int.tdiv_eq_ediv_of_nonneg (by omega)]; omega) | omega
      (try simp only [Act.put, List.setIfInBounds_toArray, List.set_cons_zero, List.set_cons_succ])
      refine wpAnyH_take (i := 7) (v := (.string (d.extract (p + 6 + K) (p + 6 + K + V)))) rfl (by kernel_rfl) (by kernel_rfl) (by kernel_rfl) (fun _ _ _ h => h) (Or.inl ⟨by rfl, ?_⟩) (by assumption) ?_
      · intro w' hSw
        (try dsimp only at hSw)
        (go_simp; (repeat rw [if_pos (by first | omega | exact ⟨by omega, by omega⟩)]); (try rw [show ((p : Int) + 6).toNat = p + 6 by omega]); (try rw [show ((p : Int) + 6 + (K : Int)).toNat = p + 6 + K by omega]); (try rw [show ((p : Int) + 6 + (K : Int) + (V : Int)).toNat = p + 6 + K + V by omega]))
      (try simp only [Act.put, List.setIfInBounds_toArray, List.set_cons_zero, List.set_cons_succ])
      refine wpAnyH_take (i := 8) (v := (.agg #[.string (d.extract (p + 6) (p + 6 + K)), .string (d.extract (p + 6 + K) (p + 6 + K + V))])) rfl (by kernel_rfl) (by kernel_rfl) (by kernel_rfl) (fun _ _ _ h => h) (Or.inl ⟨by rfl, ?_⟩) (by assumption) ?_
      · intro w' hSw
        (try dsimp only at hSw)
        go_simp <;> first | exact i64_in (by omega) (by omega) | exact u32_in (by omega) (by omega) | exact u32_add _ _ | (rw [Int.tmod_eq_emod_of_nonneg (by omega)]; omega) | (rw [Int.tdiv_eq_ediv_of_nonneg (by omega)]; omega) | omega
      (try simp only [Act.put, List.setIfInBounds_toArray, List.set_cons_zero, List.set_cons_succ])
      refine wpAnyH_take (i := 9) (v := (.int .i64 ((p : Int) + 6 + (K : Int) + (V : Int)))) rfl (by kernel_rfl) (by kernel_rfl) (by kernel_rfl) (fun _ _ _ h => h) (Or.inl ⟨by rfl, ?_⟩) (by assumption) ?_
      · intro w' hSw
        (try dsimp only at hSw)
        go_simp <;> first | exact i64_in (by omega) (by omega) | exact u32_in (by omega) (by omega) | exact u32_add _ _ | (rw [Int.tmod_eq_emod_of_nonneg (by omega)]; omega) | (rw [Int.tdiv_eq_ediv_of_nonneg (by omega)]; omega) | omega
      (try simp only [Act.put, List.setIfInBounds_toArray, List.set_cons_zero, List.set_cons_succ])
      refine wpAnyH_ready (rs := [10]) (by kernel_rfl) (by simp) ?_
      refine AllReadyH.cons rfl (fun K hK => ?_) AllReadyH.nil
      go_simp
      refine hK.out _ _ trivial (fun hHeld => ?_)
      clear hK K
      (try simp only [Act.put, List.setIfInBounds_toArray, List.set_cons_zero, List.set_cons_succ])
      refine wpAnyH_ready (rs := [11]) (by kernel_rfl) (by simp) ?_
      refine AllReadyH.cons rfl (fun K hK => ?_) AllReadyH.nil
      go_simp
      refine hK.out _ _ trivial (fun hHeld => ?_)
      clear hK K
      (try simp only [Act.put, List.setIfInBounds_toArray, List.set_cons_zero, List.set_cons_succ])
      refine wpAnyH_ready (rs := [12]) (by kernel_rfl) (by simp) ?_
      refine AllReadyH.cons rfl (fun K hK => ?_) AllReadyH.nil
      go_simp
      refine hK.out _ _ trivial (fun hHeld => ?_)
      clear hK K
      (try simp only [Act.put, List.setIfInBounds_toArray, List.set_cons_zero, List.set_cons_succ])
      refine wpAnyH_done (by kernel_rfl) ?_ _
      go_wp2
      refine bodyPost_ret (results_c3 _ _ w.heap.size _ (heap_alloc_new w _) rfl rfl) rfl ⟨by go_num, ?_⟩
      exact ((Below.refl _ w).alloc (Nat.le_refl _) _).drew
    · obtain ⟨e1, e2, e3⟩ := pairV_no (d := d) (p := p) (fun h => he h.2)
      rw [e1, e2, e3]
      rw [hEnd] at he
      clear e1 e2 e3 hF1 hF2 hEnd
      generalize kAt d p = K at *
      generalize vAt d p = V at *
      have he2 : (d.size : Int) < (p : Int) + 6 + K + V := by omega
      go_enter Try.func39, Try.ntmps39
      go_wp2_with fail
      refine Calls.mono (HC1.out _) ?_
      rintro e wx ⟨rfl, rfl⟩
      go_wp2_with fail
      refine Calls.mono (HC2.out _) ?_
      rintro e wx ⟨rfl, rfl⟩
      go_wp2_with fail
      refine bodyPost_ret (results_c3 _ _ w.heap.size _ (heap_alloc_new w _) rfl rfl) rfl ⟨rfl, ?_⟩
      exact (Below.refl _ w).alloc (Nat.le_refl _) _
  · obtain ⟨e1, e2, e3⟩ := pairV_no (d := d) (p := p) (fun h => h6 h.1)
    rw [e1, e2, e3]
    clear e1 e2 e3
    have h7 : (d.size : Int) < (p : Int) + 6 := by omega
    go_enter Try.func39, Try.ntmps39
    go_wp2_with fail
    refine bodyPost_ret (results_c3 _ _ w.heap.size _ (heap_alloc_new w _) rfl rfl) rfl ⟨rfl, ?_⟩
    exact (Below.refl _ w).alloc (Nat.le_refl _) _
/-- what read gives -/
def spL (d : ByteArray) (p : Nat) : List KV := ((spellAt d p).getD ([], 0)).1
def spN (d : ByteArray) (p : Nat) : Nat := ((spellAt d p).getD ([], 0)).2
theorem spL_some {d : ByteArray} {p : Nat} {l : List KV} {q : Nat} (h : spellAt d p = some (l, q)) : spL d p = l ∧ spN d p = q := by unfold spL spN; rw [h]; exact ⟨rfl, rfl⟩
theorem spL_none {d : ByteArray} {p : Nat} (h : spellAt d p = none) : spL d p = [] ∧ spN d p = 0 := by unfold spL spN; rw [h]; exact ⟨rfl, rfl⟩
theorem pc_two (p : KV) : pc [p] = (#[.string p.1, .string p.2] : Array Value).toList := rfl
theorem cell_pair (w : World) (p : KV) : ∀ j u, (pc [p])[j]? = some u → (w.alloc (.cells #[.string p.1, .string p.2] 55)).cell? ((⟨w.heap.size, 0, none⟩ : Addr).add j) = some u := by
  rw [pc_two]
  exact (World.ownsRow_lit (base := 0) (e := 55) (size := 2) w _ 1 (by omega) (by unfold maxLen; omega) rfl).cells (g := w.heap.size) rfl
theorem cell_pair2 (w : World) (o : Obj) (p : KV) : ∀ j u, (pc [p])[j]? = some u → ((w.alloc o).alloc (.cells #[.string p.1, .string p.2] 55)).cell? ((⟨w.heap.size + 1, 0, none⟩ : Addr).add j) = some u := by
  have := cell_pair (w.alloc o) p
  rwa [show (w.alloc o).heap.size = w.heap.size + 1 by simp] at this
theorem pc_one_len (p : KV) : (pc [p]).length = 1 * 2 := rfl
theorem small_room {k : Nat} (h : k < 65536) : k + 1 ≤ maxLen ∧ (k + 1) * 32 ≤ 140737488355328 := by unfold maxLen; omega
set_option maxHeartbeats 2000000 in
set_option maxRecDepth 100000 in
/-- read -/
theorem read_any (d : ByteArray) (p : Nat) (hd : d.size ≤ 140737488351232) (hp : p ≤ d.size) (w : World) :
    Calls Try.prog 25 #[.string d, .int .i64 (p : Int)] w fun e w' => ∃ v, e = .returned (.tuple #[v, .int .i64 (spN d p : Int)]) ∧ w'.ownsRow w.heap.size 55 2 v (spL d p).length (pc (spL d p)) ∧ Below w.heap.size w w' := by
  obtain ⟨i0, hi, hz0, hz1, hz2⟩ := info_parts infoP
  by_cases h2 : p + 2 ≤ d.size
  · have C1 := take16_any (d.extract p (p + 2)) (by simp; omega)
    rw [slice_str, show p + 2 - p = 2 by omega] at C1
    have HC1 : Hid (∀ w', Calls Try.prog 38 #[.string (d.extract p (p + 2))] w' fun e w'' => e = .returned (.int .u16 (kAt d p : Int)) ∧ w' = w'') := C1
    clear C1
    have hk := kAt_lt d p
    have hsp : spellAt d p = pairsAt d (p + 2) (kAt d p) := by unfold spellAt; rw [if_pos h2]
    have HSP := hide hsp
    clear hsp
    have RP := hide (fun q (hq : q ≤ d.size) w' => readPair_any d q hd hq w')
    generalize hCN : kAt d p = CN at *
    have HCN := hide hCN
    clear hCN
    go_enter Try.func25, Try.ntmps25
    go_wp2_with fail
    refine Calls.mono (HC1.out _) ?_
    rintro e wx ⟨rfl, rfl⟩
    go_wp2_with fail
    go_loopw [1, 7, 26] (fun at' v i wr => ∃ (k : Nat) (l : List KV) (q : Nat), k ≤ CN ∧ i = .int .i64 (k : Int) ∧ at' = .int .i64 (q : Int) ∧ pairsAt d (p + 2) k = some (l, q) ∧ wr.ownsRow w.heap.size 55 2 v l.length (pc l) ∧ Below w.heap.size w wr)
      (fun _ _ i _ => CN - (intOf i).toNat)
    case atStart => exact ⟨0, [], p + 2, by omega, rfl, by go_num, rfl, World.ownsRow_nil _ _ _ _, Below.refl _ _⟩
    case round =>
      obtain ⟨k, l, q, hk2, rfl, rfl, hpa, hown, hnx⟩ := hrel
      have hsz := hnx.size
      obtain ⟨hq1, hq2, hq3, _⟩ := pairs_body h2 k l q hpa
      have HPA := hide hpa
      have HNX := hide hnx
      have HOWN := hide hown
      clear hpa hnx
      by_cases hlt : k < CN
      · have hki : (k : Int) < (CN : Int) := by omega
        have RQ := hide (RP.out q hq2)
        by_cases hok : pairOk d q
        · obtain ⟨e1, e2, e3⟩ := pairV_ok hok
          rw [e1, e2, e3] at RQ
          have HST := hide (pairs_step HPA.out hok)
          have hend := hok.2
          clear e1 e2 e3 hok
          have hx : (pairOf d q).1 = (pairOf d q).1 := rfl
          generalize hPO : pairOf d q = PO at *
          generalize pairEnd d q = PE at *
          clear hx hPO
          obtain ⟨hm1, hm2⟩ := small_room (k := l.length) (by omega)
          clear hown
          go_wp2_with fail
          refine Calls.mono (RQ.out _) ?_
          rintro e w1 ⟨rfl, hb1⟩
          have B1 := HNX.out.trans (hb1.mono hsz)
          have s1 := B1.size
          have O1 := hide (own_below HOWN.out hb1)
          have HB1 := hide B1
          clear hb1 B1
          go_wp2_with (at_builtin; refine wpList_append_own _ rfl _ _ 38 rfl w.heap.size 55 i0 (.agg #[.string ⟨#[]⟩, .string ⟨#[]⟩]) 2 32 Try.underlying38 hi hz0 hz1 hz2 rfl (by decide) _ _ _ rfl ((O1.out.alloc _).alloc _) ⟨w1.heap.size + 1, 0, none⟩ 1 1 (pc [PO]) rfl (pc_one_len PO) (cell_pair2 w1 _ PO) (pc_one _) hm1 hm2 (le_alloc (le_alloc s1)) ?_; intro v2 w2 o2 g2 n2; clear n2)
          go_roundw
          case rel =>
            refine ⟨k + 1, l ++ [PO], PE, by omega, by go_num, rfl, HST.out, ?_, ?_⟩
            · rw [pc_append, List.length_append]
              exact o2
            · exact ((HB1.out.alloc s1 _).alloc (le_alloc s1) _).grown g2 (le_alloc (le_alloc s1)) (fun j hj => (O1.out.lt j hj).1)
          case measure => simp [intOf]; omega
        · obtain ⟨e1, e2, e3⟩ := pairV_no hok
          rw [e1, e2, e3] at RQ
          have hns : spellAt d p = none := by
            rw [HSP.out, show CN = k + 1 + (CN - (k + 1)) by omega]
            exact pairs_none (pairs_stop HPA.out hok) _
          have HS1 := hide (spL_none hns)
          clear hns e1 e2 e3 hok hown
          go_wp2_with fail
          refine Calls.mono (RQ.out _) ?_
          rintro e w1 ⟨rfl, hb1⟩
          have B1 := hide ((HNX.out.trans (hb1.mono hsz)).alloc (Nat.le_trans hsz hb1.size) (.cells #[.string ⟨#[]⟩, .string ⟨#[]⟩] 55))
          go_wp2_with fail
          go_ret2
          exact ⟨_, by rw [HS1.out.2]; rfl, by rw [HS1.out.1]; exact World.ownsRow_nil _ _ _ _, B1.out⟩
      · obtain rfl : k = CN := by omega
        have HS1 := hide (spL_some (HSP.out.trans HPA.out))
        clear hown
        go_wp2_with fail
        go_ret2
        exact ⟨_, by rw [HS1.out.2]; rfl, by rw [HS1.out.1]; exact HOWN.out, HNX.out⟩
  · have hs : spellAt d p = none := by unfold spellAt; rw [if_neg h2]
    rw [(spL_none hs).1, (spL_none hs).2]
    have h3 : (d.size : Int) - (p : Int) < 2 := by omega
    clear hs
    go_enter Try.func25, Try.ntmps25
    go_wp2_with fail
    go_ret2
    exact ⟨_, rfl, World.ownsRow_nil _ _ _ _, Below.refl _ _⟩
end Go.Proofs.Ytfmmfophdfjopaa
