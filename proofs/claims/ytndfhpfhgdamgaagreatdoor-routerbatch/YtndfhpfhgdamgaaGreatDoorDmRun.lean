import Derived.Test.YtndfhpfhgdamgaaGreatDoorDmMixed
import Derived.Lib.LazyBuf
namespace Go.Proofs.YtndfhpfhgdamgaaGreatDoor
open Go.RowKit
/-- 'copy(dst, s)', s a string of any length -/
theorem run_copy_str {P : Program} (w : World) (dT sT ty elem : TypeId) (b o dLen dCap : Nat) (t : ByteArray)
    (hu : P.underlying dT = some (.slice elem)) (hz : ∀ w, (Go.sizeOf elem).run P w = .ok 1 w) (ht : w.there b o (Nat.min t.size dLen)) :
    (Builtin.copy_ #[dT, sT] ty #[.slice (some ⟨b, o, none⟩) dLen dCap, .string t]).run P w = .ok (goInt (Nat.min t.size dLen)) (w.setCells b o ((t.data.toList.take (Nat.min t.size dLen)).map ub)) := by
  have hl : ((t.data.toList.take (Nat.min t.size dLen)).map ub).length = Nat.min t.size dLen := by
    rw [List.length_map, List.length_take, size_data]
    exact Nat.min_eq_left (Nat.min_le_left _ _)
  have hst := run_storeCells_cells (P := P) b o ((t.data.toList.take (Nat.min t.size dLen)).map ub) 0 w (by rw [hl]; intro j hj; simpa using (ht j hj).1) (by rw [hl]; intro j hj; simpa using (ht j hj).2) (oneCells _)
  have e : List.map (fun x => Value.int .u8 (x.toNat : Int)) t.data.toList = t.data.toList.map ub := rfl
  simp [Builtin.copy_, run_underlying hu, Builtin.lenOf, Builtin.firstCells, hz]
  rw [e, ← List.map_take, hst]
  rfl
def splice (cs : List Value) (o : Nat) (vs : List Value) : List Value := cs.take o ++ vs ++ cs.drop (o + vs.length)
theorem range_splice {w : World} {b : Nat} {cs vs : List Value} {o : Nat} (h : w.rangeAt b 0 cs) (ht : w.there b o vs.length) (hl : o + vs.length ≤ cs.length) : (w.setCells b o vs).rangeAt b 0 (splice cs o vs) := by
  intro j v hv
  have same := World.rangeAt_setCells_same w b o vs ht
  rw [Nat.zero_add]
  unfold splice at hv
  by_cases h1 : j < o
  · rw [World.cell?_setCells_out b vs o w ⟨b, j, none⟩ (fun _ _ => Or.inl h1)]
    rw [List.append_assoc, List.getElem?_append_left (by rw [List.length_take]; omega), List.getElem?_take_of_lt h1] at hv
    have := h j v hv
    rwa [Nat.zero_add] at this
  · by_cases h2 : j < o + vs.length
    · rw [List.append_assoc, List.getElem?_append_right (by rw [List.length_take]; omega), List.length_take, List.getElem?_append_left (by omega)] at hv
      have := same (j - o) v (by rwa [show min o cs.length = o by omega] at hv)
      rwa [show o + (j - o) = j by omega] at this
    · rw [World.cell?_setCells_out b vs o w ⟨b, j, none⟩ (fun _ _ => Or.inr (by show o + vs.length ≤ j; omega))]
      rw [List.getElem?_append_right (by rw [List.length_append, List.length_take]; omega), List.length_append, List.length_take, List.getElem?_drop] at hv
      have := h j v (by rwa [show o + vs.length + (j - (min o cs.length + vs.length)) = j by omega] at hv)
      rwa [Nat.zero_add] at this
/-- what a running holds, cell by cell, and what lies behind it -/
def Cl (q : Q) (n : Nat) (r : List UInt8) (ex : List Value) : List Value := qL q ++ (.int .i64 (n : Int) :: (r.map ub ++ ex))
theorem Cl_len (q : Q) (n : Nat) (r : List UInt8) (ex : List Value) : (Cl q n r ex).length = 5 + r.length + ex.length := by simp [Cl, qL]; omega
theorem Cl_at (q : Q) (n : Nat) (r : List UInt8) (ex : List Value) (j : Nat) : (Cl q n r ex)[5 + j]? = (r.map ub ++ ex)[j]? := by
  unfold Cl
  have e : qL q ++ (Value.int .i64 (n : Int) :: (r.map ub ++ ex)) = (qL q ++ [Value.int .i64 (n : Int)]) ++ (r.map ub ++ ex) := by simp
  rw [e, List.getElem?_append_right (by simp [qL])]
  congr 1
  simp [qL]
theorem splice_words (q q' : Q) (n : Nat) (r : List UInt8) (ex : List Value) : splice (Cl q n r ex) 0 (qL q') = Cl q' n r ex := by
  simp [splice, Cl, qL]
theorem splice_count (q : Q) (n m : Nat) (r : List UInt8) (ex : List Value) : splice (Cl q n r ex) 4 [.int .i64 (m : Int)] = Cl q m r ex := by
  simp [splice, Cl, qL]
def over (r : List UInt8) (k : Nat) (l : List UInt8) : List UInt8 := r.take k ++ l ++ r.drop (k + l.length)
theorem over_len {r : List UInt8} {k : Nat} {l : List UInt8} (h : k + l.length ≤ r.length) : (over r k l).length = r.length := by
  simp [over]; omega
theorem splice_rest (q : Q) (n k : Nat) (r l : List UInt8) (ex : List Value) (h : k + l.length ≤ r.length) : splice (Cl q n r ex) (5 + k) (l.map ub) = Cl q n (over r k l) ex := by
  unfold splice Cl over
  have e : qL q ++ (Value.int .i64 (n : Int) :: (r.map ub ++ ex)) = (qL q ++ [Value.int .i64 (n : Int)]) ++ (r.map ub ++ ex) := by simp
  have l5 : (qL q ++ [Value.int .i64 (n : Int)]).length = 5 := by simp [qL]
  rw [e, List.take_append, List.drop_append, l5, List.take_of_length_le (by rw [l5]; omega), List.drop_eq_nil_of_le (by rw [l5, List.length_map]; omega)]
  rw [show 5 + k - 5 = k by omega, List.length_map, show 5 + k + l.length - 5 = k + l.length by omega]
  rw [List.take_append_of_le_length (by rw [List.length_map]; omega), List.drop_append_of_le_length (by rw [List.length_map]; omega)]
  simp [List.map_append, List.map_take, List.map_drop]
theorem grown_refl (w : World) (b : Option Nat) : w.grownBy w b := ⟨rfl, rfl, rfl, Nat.le_refl _, fun _ _ _ => rfl⟩
theorem grown_below {w w' : World} {b : Option Nat} (h : Below w.heap.size w w') : w.grownBy w' b := ⟨h.os, h.tape, h.output, h.size, fun i hi _ => h.block i hi⟩
theorem grown_trans {a b c : World} {row : Option Nat} (h : a.grownBy b row) (k : b.grownBy c row) : a.grownBy c row := h.trans k
theorem grown_drew {w w' : World} {b : Option Nat} (h : w.grownBy w' b) : w.grownBy w'.drew b := ⟨h.os, h.tape, h.output, h.size, h.block⟩
theorem grown_setCells {w w' : World} {b : Nat} (h : w.grownBy w' (some b)) : ∀ (vs : List Value) (o : Nat), w.grownBy (w'.setCells b o vs) (some b) := by
  intro vs
  induction vs generalizing w' with
  | nil => intro o; exact h
  | cons v vs ih =>
    intro o
    have h' : w.grownBy (w'.setCell ⟨b, o, none⟩ v) (some b) := ⟨h.os, h.tape, h.output, by rw [World.size_setCell]; exact h.size, fun i hi hne => by
      rw [Below.heap_setCell w' ⟨b, o, none⟩ v i (fun e => hne (by rw [e]))]
      exact h.block i hi hne⟩
    exact ih h' (o + 1)
theorem size5 : ∀ w, (Go.sizeOf 5).run Tryz.prog w = .ok 1 w := by
  obtain ⟨i0, hi, hz0, hz1, hz2⟩ := info_parts info5
  intro w
  simp [sizeOf, typeInfo, hi, hz1]
/-- the words behind the first k blocks of l -/
def blocksN (q : Q) (l : List UInt8) : Nat → Q
  | 0 => q
  | k + 1 => mixN (blocksN q l k) ((l.drop (64 * k)).take 64)
theorem blocksN_lt (q : Q) (l : List UInt8) (h : Q4 q) (k : Nat) : Q4 (blocksN q l k) := by
  cases k with
  | zero => exact h
  | succ k => exact mixN_lt _ _
/-- rest[kept:] -/
theorem slice_rest (b m : Nat) (i : Int) (hi : i = (m : Int)) (hm : m < 64) (W : World) : (Instr.sliceAt 128 (.pointer (some ⟨b, 5, none⟩)) (some (.int .i64 i)) none none).run Tryz.prog W = .ok (.slice (some ⟨b, 5 + m, none⟩) (64 - m) (64 - m)) W := by
  subst hi
  have hal : Tryz.prog.arrayLen 128 = 64 := by simp [Program.arrayLen, Tryz.underlying128]
  have hel : Tryz.prog.elem 128 = 5 := by simp [Program.elem, Tryz.underlying128]
  rw [run_sliceAt_array_l W 128 ⟨b, 5, none⟩ (by rw [hal, hel]; exact Tryz.underlying128) .i64 (m : Int) (by omega) (by rw [hal]; omega), hel, size5, hal]
  show Result.ok (slicedAt ⟨b, 5, none⟩ (m : Int).toNat 64 64 1) W = _
  rw [Int.toNat_natCast]
  unfold slicedAt
  rw [if_neg (by omega), Nat.mul_one, Addr.add_mid]
def Q0 : Q := (1732584193, 4023233417, 2562383102, 271733878)
theorem Q0_lt : Q4 Q0 := ⟨by decide, by decide, by decide, by decide⟩
/-- behind a block that was filled: its words, and what is kept -/
def tailQ (q : Q) (r l : List UInt8) : Q := blocksN (mixN q r) l (l.length / 64)
def tailR (r l : List UInt8) : List UInt8 := over r 0 (l.drop (64 * (l.length / 64)))
def lenS : Value → Nat | .string s => s.size | _ => 0
theorem drop_data (D : ByteArray) (m : Nat) : (D.extract m D.size).data.toList = D.data.toList.drop m := by
  rw [Lib.extract_data]
  exact List.take_of_length_le (by rw [List.length_drop, size_data]; exact Nat.le_refl _)
theorem take_data (D : ByteArray) (m : Nat) : (D.extract 0 m).data.toList = D.data.toList.take m := by
  rw [Lib.extract_data]
  rfl
/-- what the two tables, the receiver and the world around are, while a write runs -/
structure Env (b : Nat) (w : World) (q : Q) (n : Nat) (r : List UInt8) (ex : List Value) : Prop where
  range : w.rangeAt b 0 (Cl q n r ex)
  there : w.there b 0 (69 + ex.length)
  blk : 3 ≤ b ∧ b < w.heap.size
  len : r.length = 64
  q4 : Q4 q
  sines : TabS 0 w
  turns : TabT 1 w
theorem Env.below {b : Nat} {w w' : World} {q : Q} {n : Nat} {r : List UInt8} {ex : List Value} (h : Env b w q n r ex) (hb : Below w.heap.size w w') : Env b w' q n r ex := by
  have hlt := h.blk.2
  have h3 := h.blk.1
  refine ⟨fun j v hv => ?_, fun j hj => ?_, ⟨h3, Nat.lt_of_lt_of_le hlt hb.size⟩, h.len, h.q4, h.sines.below hb (by omega), h.turns.below hb (by omega)⟩
  · rw [hb.cell (p := ⟨b, 0 + j, none⟩) hlt]; exact h.range j v hv
  · rw [hb.cell (p := ⟨b, 0 + j, none⟩) hlt, hb.frozen (p := ⟨b, 0 + j, none⟩) hlt]; exact h.there j hj
theorem Env.drew {b : Nat} {w : World} {q : Q} {n : Nat} {r : List UInt8} {ex : List Value} (h : Env b w q n r ex) : Env b w.drew q n r ex := h.below (Below.refl _ w).drew
theorem Env.splice {b : Nat} {w : World} {q q' : Q} {n n' : Nat} {r r' : List UInt8} {ex : List Value} (h : Env b w q n r ex) (o : Nat) (vs : List Value) (ho : o + vs.length ≤ 69) (hl : r'.length = 64) (hq : Q4 q') (he : YtndfhpfhgdamgaaGreatDoor.splice (Cl q n r ex) o vs = Cl q' n' r' ex) : Env b (w.setCells b o vs) q' n' r' ex := by
  have h3 := h.blk.1
  have hlen := h.len
  have hg := grown_setCells (grown_refl w (some b)) vs o
  refine ⟨?_, World.there_setCells h.there _ _ _, ⟨h3, Nat.lt_of_lt_of_le h.blk.2 hg.size⟩, hl, hq, fun j hj => ?_, fun j hj => ?_⟩
  · rw [← he]
    exact range_splice h.range (fun j hj => by have := h.there (o + j) (by omega); rwa [Nat.zero_add] at this) (by rw [Cl_len]; omega)
  · rw [World.cell?_setCells_out b vs o w ⟨0, j, none⟩ (fun e _ => by simp at e; omega)]; exact h.sines j hj
  · rw [World.cell?_setCells_out b vs o w ⟨1, j, none⟩ (fun e _ => by simp at e; omega)]; exact h.turns j hj
theorem Env.word {b : Nat} {w : World} {q : Q} {n : Nat} {r : List UInt8} {ex : List Value} (h : Env b w q n r ex) : w.cell? ⟨b, 0, none⟩ = some (.int .u32 (q.1 : Int)) ∧ w.cell? ⟨b, 1, none⟩ = some (.int .u32 (q.2.1 : Int)) ∧ w.cell? ⟨b, 2, none⟩ = some (.int .u32 (q.2.2.1 : Int)) ∧ w.cell? ⟨b, 3, none⟩ = some (.int .u32 (q.2.2.2 : Int)) := by
  have a0 := h.range 0 (.int .u32 (q.1 : Int)) (by simp [Cl, qL])
  have a1 := h.range 1 (.int .u32 (q.2.1 : Int)) (by simp [Cl, qL])
  have a2 := h.range 2 (.int .u32 (q.2.2.1 : Int)) (by simp [Cl, qL])
  have a3 := h.range 3 (.int .u32 (q.2.2.2 : Int)) (by simp [Cl, qL])
  rw [Nat.zero_add] at a0 a1 a2 a3
  exact ⟨a0, a1, a2, a3⟩
theorem Env.count {b : Nat} {w : World} {q : Q} {n : Nat} {r : List UInt8} {ex : List Value} (h : Env b w q n r ex) : w.cell? ⟨b, 4, none⟩ = some (.int .i64 (n : Int)) := by
  have := h.range 4 (.int .i64 (n : Int)) (by simp [Cl, qL])
  rwa [Nat.zero_add] at this
theorem Env.free {b : Nat} {w : World} {q : Q} {n : Nat} {r : List UInt8} {ex : List Value} (h : Env b w q n r ex) (j : Nat) (hj : j < 69) : w.frozen? ⟨b, j, none⟩ = false := by
  have := (h.there j (by omega)).2
  rwa [Nat.zero_add] at this
end Go.Proofs.YtndfhpfhgdamgaaGreatDoor
