import Derived.Test.YtjibhdcnibgegaaDgPlain
namespace Go.Proofs.Ytjibhdcnibgegaa
open Go.RowKit
/-- the bytes of a number, the highest first -/
def dig : Nat → Nat → List UInt8
  | 0, _ => []
  | w + 1, n => dig w (n / 256) ++ [UInt8.ofNat n]
theorem dig_len (w n : Nat) : (dig w n).length = w := by
  induction w generalizing n with
  | zero => rfl
  | succ w ih => simp [dig, ih]
/-- the number of bytes -/
def val (l : List UInt8) : Nat := l.foldl (fun a b => a * 256 + b.toNat) 0
theorem val_nil : val [] = 0 := rfl
theorem val_snoc (l : List UInt8) (b : UInt8) : val (l ++ [b]) = val l * 256 + b.toNat := by simp [val]
theorem val_dig (w n : Nat) (h : n < 256 ^ w) : val (dig w n) = n := by
  induction w generalizing n with
  | zero => simp at h; subst h; rfl
  | succ w ih =>
    rw [dig, val_snoc, ih (n / 256) (by rw [Nat.pow_succ] at h; omega), UInt8.toNat_ofNat']
    omega
theorem val_lt (l : List UInt8) : val l < 256 ^ l.length := by
  induction h : l.length generalizing l with
  | zero => rw [List.length_eq_zero_iff] at h; subst h; simp [val]
  | succ n ih =>
    rcases List.eq_nil_or_concat l with rfl | ⟨r, b, rfl⟩
    · simp at h
    · rw [List.concat_eq_append, val_snoc]
      have := ih r (by simpa using h)
      have := b.toNat_lt
      rw [Nat.pow_succ]; omega
theorem dig_val (l : List UInt8) : dig l.length (val l) = l := by
  induction h : l.length generalizing l with
  | zero => rw [List.length_eq_zero_iff] at h; subst h; rfl
  | succ n ih =>
    rcases List.eq_nil_or_concat l with rfl | ⟨r, b, rfl⟩
    · simp at h
    · rw [List.concat_eq_append] at h ⊢
      have hb := b.toNat_lt
      rw [dig, val_snoc, show (val r * 256 + b.toNat) / 256 = val r by omega, ih r (by simpa using h)]
      congr 2
      rw [← UInt8.toNat_inj, UInt8.toNat_ofNat']; omega
theorem val_take (l : List UInt8) (k : Nat) (h : k < l.length) : val (l.take (k + 1)) = val (l.take k) * 256 + l[k].toNat := by
  rw [List.take_succ_eq_append_getElem h, val_snoc]
theorem dig_drop (k w n : Nat) : (dig (k + w) n).drop k = dig w n := by
  induction w generalizing n with
  | zero => simp [dig_len, dig]
  | succ w ih =>
    rw [show k + (w + 1) = k + w + 1 by omega, dig, List.drop_append_of_le_length (by rw [dig_len]; omega), ih, dig]
theorem dig_four (n : Nat) : dig 4 n = [UInt8.ofNat (n / 16777216), UInt8.ofNat (n / 65536), UInt8.ofNat (n / 256), UInt8.ofNat n] := by
  simp [dig, Nat.div_div_eq_div_mul]
theorem dig_two (n : Nat) : dig 2 n = [UInt8.ofNat (n / 256), UInt8.ofNat n] := by
  simp [dig]
theorem dig_cons (w n : Nat) : dig (w + 1) n = UInt8.ofNat (n / 256 ^ w) :: dig w n := by
  induction w generalizing n with
  | zero => simp [dig]
  | succ w ih =>
    rw [dig, ih, dig, Nat.div_div_eq_div_mul, Nat.pow_succ, Nat.mul_comm 256]
    rfl
/-- a row that grew: the old blocks but the row's own are as they were; the row is where it was, or new -/
structure Grew (w w' : World) (v v' : Value) : Prop where
  by' : w.grownBy w' v.ownBlock
  at' : v'.ownBlock = v.ownBlock ∨ ∃ k, v'.ownBlock = some k ∧ w.heap.size ≤ k
theorem grown_refl (w : World) (r : Option Nat) : w.grownBy w r := ⟨rfl, rfl, rfl, Nat.le_refl _, fun _ _ _ => rfl⟩
theorem Grew.refl (w : World) (v : Value) : Grew w w v v := ⟨grown_refl _ _, .inl rfl⟩
theorem Grew.trans {w w1 w2 : World} {v v1 v2 : Value} (h : Grew w w1 v v1) (k : Grew w1 w2 v1 v2) : Grew w w2 v v2 := by
  refine ⟨⟨k.by'.os.trans h.by'.os, k.by'.tape.trans h.by'.tape, k.by'.output.trans h.by'.output, Nat.le_trans h.by'.size k.by'.size, fun i hi hne => ?_⟩, ?_⟩
  · refine (k.by'.block i (Nat.lt_of_lt_of_le hi h.by'.size) ?_).trans (h.by'.block i hi hne)
    rcases h.at' with e | ⟨j, e, hj⟩
    · rw [e]; exact hne
    · rw [e]; intro hh; injection hh with hh; omega
  · rcases k.at' with e | ⟨j, e, hj⟩
    · rw [e]; exact h.at'
    · exact .inr ⟨j, e, Nat.le_trans h.by'.size hj⟩
theorem Grew.alloc {w w' : World} {v v' : Value} (h : Grew w w' v v') (o : Obj) : Grew w (w'.alloc o) v v' := by
  refine ⟨⟨h.by'.os, h.by'.tape, h.by'.output, by have := h.by'.size; simp; omega, fun i hi hne => ?_⟩, h.at'⟩
  rw [Below.heap_alloc _ _ _ (Nat.lt_of_lt_of_le hi h.by'.size)]
  exact h.by'.block i hi hne
theorem Grew.drew {w w' : World} {v v' : Value} (h : Grew w w' v v') : Grew w w'.drew v v' := ⟨⟨h.by'.os, h.by'.tape, h.by'.output, h.by'.size, h.by'.block⟩, h.at'⟩
theorem Grew.size {w w' : World} {v v' : Value} (h : Grew w w' v v') : w.heap.size ≤ w'.heap.size := h.by'.size
/-- behind an append -/
theorem Grew.app {w w' w2 : World} {v v' v2 : Value} (h : Grew w w' v v') (hg : w'.grownBy w2 v'.ownBlock) (hat : v2.ownBlock = v'.ownBlock ∨ v2.ownBlock = some w'.heap.size) : Grew w w2 v v2 :=
  h.trans ⟨hg, hat.imp_right fun e => ⟨_, e, Nat.le_refl _⟩⟩
theorem Grew.below {w w' : World} {v v' : Value} (h : Grew w w' v v') {B : Nat} (hB : B ≤ w.heap.size) (hv : ∀ k, v.ownBlock = some k → B ≤ k) : Below B w w' :=
  ⟨h.by'.os, h.by'.tape, h.by'.output, h.by'.size, fun i hi => h.by'.block i (by omega) (fun e => by have := hv i e.symm; omega)⟩
/-- what both Numbers answer -/
def numS (n w : Int) : ByteArray := if 1 ≤ w ∧ w ≤ 4 ∧ 0 ≤ n ∧ n < ((256 ^ w.toNat : Nat) : Int) then strOf (dig w.toNat n.toNat) else ⟨#[]⟩
def numE (n w : Int) : Int := if 1 ≤ w ∧ w ≤ 4 then if 0 ≤ n ∧ n < ((256 ^ w.toNat : Nat) : Int) then 0 else 31 else 30
theorem num_width {n w : Int} (h : ¬ (1 ≤ w ∧ w ≤ 4)) : Ending.returned (.tuple #[.string ⟨#[]⟩, .int .i64 30]) = .returned (.tuple #[.string (numS n w), .int .i64 (numE n w)]) := by
  unfold numS numE; rw [if_neg (fun k => h ⟨k.1, k.2.1⟩), if_neg h]
theorem num_bad {n w : Int} (h : 1 ≤ w ∧ w ≤ 4) (hn : ¬ (0 ≤ n ∧ n < ((256 ^ w.toNat : Nat) : Int))) : Ending.returned (.tuple #[.string ⟨#[]⟩, .int .i64 31]) = .returned (.tuple #[.string (numS n w), .int .i64 (numE n w)]) := by
  unfold numS numE; rw [if_neg (fun k => hn k.2.2), if_pos h, if_neg hn]
theorem num_good {n w : Int} (h : 1 ≤ w ∧ w ≤ 4) (hn : 0 ≤ n ∧ n < ((256 ^ w.toNat : Nat) : Int)) : Ending.returned (.tuple #[.string (strOf (dig w.toNat n.toNat)), .int .i64 0]) = .returned (.tuple #[.string (numS n w), .int .i64 (numE n w)]) := by
  unfold numS numE; rw [if_pos ⟨h.1, h.2, hn.1, hn.2⟩, if_pos h, if_pos hn]
/-- what both ReadNumbers answer -/
def rdV (s : ByteArray) (at' w : Int) : Int := if 1 ≤ w ∧ w ≤ 4 ∧ 0 ≤ at' ∧ at' + w ≤ s.size then (val ((s.data.toList.drop at'.toNat).take w.toNat) : Int) else 0
def rdE (s : ByteArray) (at' w : Int) : Int := if 1 ≤ w ∧ w ≤ 4 then if 0 ≤ at' ∧ at' + w ≤ s.size then 0 else 1 else 30
theorem rd_width {s : ByteArray} {a w : Int} (h : ¬ (1 ≤ w ∧ w ≤ 4)) : Ending.returned (.tuple #[.int .i64 0, .int .i64 30]) = .returned (.tuple #[.int .i64 (rdV s a w), .int .i64 (rdE s a w)]) := by
  unfold rdV rdE; rw [if_neg (fun k => h ⟨k.1, k.2.1⟩), if_neg h]
theorem rd_bad {s : ByteArray} {a w : Int} (h : 1 ≤ w ∧ w ≤ 4) (hn : ¬ (0 ≤ a ∧ a + w ≤ s.size)) : Ending.returned (.tuple #[.int .i64 0, .int .i64 1]) = .returned (.tuple #[.int .i64 (rdV s a w), .int .i64 (rdE s a w)]) := by
  unfold rdV rdE; rw [if_neg (fun k => hn k.2.2), if_pos h, if_neg hn]
theorem rd_good {s : ByteArray} {a w : Int} (h : 1 ≤ w ∧ w ≤ 4) (hn : 0 ≤ a ∧ a + w ≤ s.size) : Ending.returned (.tuple #[.int .i64 (val ((s.data.toList.drop a.toNat).take w.toNat) : Int), .int .i64 0]) = .returned (.tuple #[.int .i64 (rdV s a w), .int .i64 (rdE s a w)]) := by
  unfold rdV rdE; rw [if_pos ⟨h.1, h.2, hn.1, hn.2⟩, if_pos h, if_pos hn]
theorem i64_in {x : Int} (h0 : -9223372036854775808 ≤ x) (h1 : x < 9223372036854775808) : IntKind.i64.wrap x = x := by
  simp [IntKind.wrap, IntKind.signed, IntKind.bits]; omega
end Go.Proofs.Ytjibhdcnibgegaa
