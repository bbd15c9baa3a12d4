import Derived.Test.YtmmcpcgnbffnjaaDoorDmWrA
import Derived.Test.YtmmcpcgnbffnjaaDoorDmWrB
namespace Go.Proofs.YtmmcpcgnbffnjaaDoor
open Go.RowKit
theorem blocksN_add (q : Q) (l : List UInt8) (j k : Nat) : blocksN q l (j + k) = blocksN (blocksN q l j) (l.drop (64 * j)) k := by
  induction k with
  | zero => rfl
  | succ k ih =>
    show mixN (blocksN q l (j + k)) ((l.drop (64 * (j + k))).take 64) = mixN (blocksN (blocksN q l j) (l.drop (64 * j)) k) (((l.drop (64 * j)).drop (64 * k)).take 64)
    rw [ih, List.drop_drop, Nat.mul_add]
theorem blocksN_append (q : Q) (l m : List UInt8) (k : Nat) (h : 64 * k ≤ l.length) : blocksN q (l ++ m) k = blocksN q l k := by
  induction k with
  | zero => rfl
  | succ k ih =>
    show mixN (blocksN q (l ++ m) k) (((l ++ m).drop (64 * k)).take 64) = mixN (blocksN q l k) ((l.drop (64 * k)).take 64)
    rw [ih (by omega), List.drop_append_of_le_length (by omega), List.take_append_of_le_length (by rw [List.length_drop]; omega)]
/-- a running that has seen t -/
structure Seen (q : Q) (n : Nat) (r t : List UInt8) : Prop where
  num : n = t.length
  len : r.length = 64
  words : 64 ≤ n → q = blocksN Q0 t (n / 64)
  rest : r.take (n % 64) = t.drop (64 * (n / 64))
theorem Seen.start {q : Q} {n : Nat} {r t : List UInt8} (h : Seen q n r t) : (if n < 64 then Q0 else q) = blocksN Q0 t (n / 64) := by
  by_cases hn : n < 64
  · rw [if_pos hn, show n / 64 = 0 by omega]; rfl
  · rw [if_neg hn]; exact h.words (by omega)
theorem seen_a {q : Q} {n : Nat} {r t l : List UInt8} (h : Seen q n r t) (hk : n % 64 = 0) :
    Seen (blocksN (if n < 64 then Q0 else q) l (l.length / 64)) (n + l.length) (over r 0 (l.drop (64 * (l.length / 64)))) (t ++ l) := by
  have hn := h.num
  have hl := h.len
  have hd : (t ++ l).drop (64 * (n / 64)) = l := by
    rw [List.drop_append_of_le_length (by omega), List.drop_eq_nil_of_le (by omega)]; rfl
  have hdl : (l.drop (64 * (l.length / 64))).length = l.length % 64 := by rw [List.length_drop]; omega
  refine ⟨by rw [List.length_append, hn], by rw [over_len (by rw [hdl]; omega)]; exact hl, fun _ => ?_, ?_⟩
  · rw [h.start, show (n + l.length) / 64 = n / 64 + l.length / 64 by omega, blocksN_add, hd, blocksN_append _ _ _ _ (by omega)]
  · rw [show (n + l.length) / 64 = n / 64 + l.length / 64 by omega, Nat.mul_add, ← List.drop_drop, hd]
    unfold over
    rw [List.take_zero, List.nil_append, show (n + l.length) % 64 = (l.drop (64 * (l.length / 64))).length by rw [hdl]; omega, List.take_append_of_le_length (Nat.le_refl _), List.take_of_length_le (Nat.le_refl _)]
theorem over_take {r l : List UInt8} {k : Nat} (hk : k ≤ r.length) : (over r k l).take (k + l.length) = r.take k ++ l := by
  unfold over
  rw [List.take_append_of_le_length (by simp; omega), List.take_of_length_le (by simp; omega)]
theorem seen_b {q : Q} {n : Nat} {r t l : List UInt8} (h : Seen q n r t) (hsm : n % 64 + l.length < 64) :
    Seen (if n < 64 then Q0 else q) (n + l.length) (over r (n % 64) l) (t ++ l) := by
  have hn := h.num
  have hl := h.len
  refine ⟨by rw [List.length_append, hn], by rw [over_len (by omega)]; exact hl, fun _ => ?_, ?_⟩
  · rw [h.start, show (n + l.length) / 64 = n / 64 by omega, blocksN_append _ _ _ _ (by omega)]
  · rw [show (n + l.length) % 64 = n % 64 + l.length by omega, over_take (by omega), h.rest, show (n + l.length) / 64 = n / 64 by omega, List.drop_append_of_le_length (by omega)]
theorem seen_c {q : Q} {n : Nat} {r t l : List UInt8} (h : Seen q n r t) (hk : 0 < n % 64) (hsm : 64 ≤ n % 64 + l.length) :
    Seen (tailQ (if n < 64 then Q0 else q) (over r (n % 64) (l.take (64 - n % 64))) (l.drop (64 - n % 64))) (n + l.length) (tailR (over r (n % 64) (l.take (64 - n % 64))) (l.drop (64 - n % 64))) (t ++ l) := by
  have hn := h.num
  have hl := h.len
  have htl : (l.take (64 - n % 64)).length = 64 - n % 64 := by rw [List.length_take]; omega
  have hr1 : over r (n % 64) (l.take (64 - n % 64)) = ((t ++ l).drop (64 * (n / 64))).take 64 := by
    have := over_take (r := r) (l := l.take (64 - n % 64)) (k := n % 64) (by omega)
    rw [htl, List.take_of_length_le (by rw [over_len (by rw [htl]; omega)]; omega)] at this
    have e1 : (t.drop (64 * (n / 64))).take 64 = t.drop (64 * (n / 64)) := List.take_of_length_le (by rw [List.length_drop]; omega)
    have e2 : 64 - (t.drop (64 * (n / 64))).length = 64 - n % 64 := by rw [List.length_drop]; omega
    rw [this, h.rest, List.drop_append_of_le_length (by omega), List.take_append, e1, e2]
  have hd : (t ++ l).drop (64 * (n / 64 + 1)) = l.drop (64 - n % 64) := by
    rw [List.drop_append, List.drop_eq_nil_of_le (by omega), List.nil_append]
    congr 1
    omega
  have hq1 : mixN (if n < 64 then Q0 else q) (over r (n % 64) (l.take (64 - n % 64))) = blocksN Q0 (t ++ l) (n / 64 + 1) := by
    rw [h.start, hr1, ← blocksN_append Q0 t l _ (by omega)]
    rfl
  have hl1 : (l.drop (64 - n % 64)).length = l.length - (64 - n % 64) := List.length_drop
  have hdl : ((l.drop (64 - n % 64)).drop (64 * ((l.drop (64 - n % 64)).length / 64))).length = (n + l.length) % 64 := by rw [List.length_drop, hl1]; omega
  have hdiv : (n + l.length) / 64 = n / 64 + 1 + (l.drop (64 - n % 64)).length / 64 := by rw [hl1]; omega
  have hol : (over r (n % 64) (l.take (64 - n % 64))).length = 64 := by rw [over_len (by rw [htl]; omega)]; exact hl
  refine ⟨by rw [List.length_append, hn], ?_, fun _ => ?_, ?_⟩
  · unfold tailR; rw [over_len (by rw [hdl, hol]; omega)]; exact hol
  · unfold tailQ
    have := blocksN_add Q0 (t ++ l) (n / 64 + 1) ((l.drop (64 - n % 64)).length / 64)
    rw [hd] at this
    rw [hq1, hdiv, this]
  · unfold tailR over
    rw [List.take_zero, List.nil_append, ← hdl, List.take_append_of_le_length (Nat.le_refl _), List.take_of_length_le (Nat.le_refl _), hdiv, Nat.mul_add, ← List.drop_drop, hd]
/-- running.write -/
theorem write_seen (b n : Nat) (q : Q) (r t : List UInt8) (ex : List Value) (s : ByteArray) (w : World) (hE : Env b w q n r ex) (hS : Seen q n r t) (hn : n ≤ 1099511627776) (hs : s.size ≤ 1099511627776) :
    Calls Tryd.prog 15 #[.pointer (some ⟨b, 0, none⟩), .string s] w fun e w' => e = .returned (.tuple #[]) ∧ (∃ q' r', Env b w' q' (n + s.size) r' ex ∧ Seen q' (n + s.size) r' (t ++ s.data.toList)) ∧ w.grownBy w' (some b) := by
  have hsz := size_data s
  have A := fun hk => seen_a (l := s.data.toList) hS hk
  have B := fun hk => seen_b (l := s.data.toList) hS hk
  have C := fun hk hm => seen_c (l := s.data.toList) hS hk hm
  rw [hsz] at A B C
  by_cases h64 : n < 64
  · simp only [if_pos h64] at A B C
    by_cases hk : n % 64 = 0
    · exact (write_a0 b n q r ex s w hE hn hs h64 hk).mono fun e w' h => ⟨h.1, ⟨_, _, h.2.1, A hk⟩, h.2.2⟩
    · by_cases hm : n % 64 + s.size < 64
      · exact (write_b0 b n q r ex s w hE hn hs h64 (by omega) hm).mono fun e w' h => ⟨h.1, ⟨_, _, h.2.1, B hm⟩, h.2.2⟩
      · exact (write_c0 b n q r ex s w hE hn hs h64 (by omega) (by omega)).mono fun e w' h => ⟨h.1, ⟨_, _, h.2.1, C (by omega) (by omega)⟩, h.2.2⟩
  · simp only [if_neg h64] at A B C
    by_cases hk : n % 64 = 0
    · exact (write_a b n q r ex s w hE hn hs (by omega) hk).mono fun e w' h => ⟨h.1, ⟨_, _, h.2.1, A hk⟩, h.2.2⟩
    · by_cases hm : n % 64 + s.size < 64
      · exact (write_b b n q r ex s w hE hn hs (by omega) (by omega) hm).mono fun e w' h => ⟨h.1, ⟨_, _, h.2.1, B hm⟩, h.2.2⟩
      · exact (write_c b n q r ex s w hE hn hs (by omega) (by omega) (by omega)).mono fun e w' h => ⟨h.1, ⟨_, _, h.2.1, C (by omega) (by omega)⟩, h.2.2⟩
end Go.Proofs.YtmmcpcgnbffnjaaDoor
