import Derived.OrdersHeld
import Derived.Deep.RegionHeld
import Derived.Test.YtndfhpfhgdamgaaGreatDoorGDgPlain
import Derived.Laws.Bits64b
import Derived.Test.YtndfhpfhgdamgaaGreatDoorProg
import Derived.Deep.RegionHeld3
import Derived.Deep.MidRow
import Derived.Lib.SmallJoins
import Derived.Laws.OwnMore
namespace Go.Proofs.YtndfhpfhgdamgaaGreatDoor
/-- operation o, where it is wanted, is a call that in every world that meets S answers v and leaves that world -/
def CallsIf (P : Program) (ops : Array Oper) (S : World → Prop) (o : Oper) (v : Value) (a : Act) : Prop :=
  Region.wanted o (yielded ops a.tmps) = true ∧ ∃ f args, ∀ w, S w → (execOp a.eval o).run P w = .ok (.enter f args) w ∧ Calls P f args w fun e w' => e = .returned v ∧ w = w'
section
variable {P : Program} {ops : Array Oper} {Q : Exit → Act → World → Prop} {md : Region.Mode} {S : World → Prop}
theorem CallsIf.same {o : Oper} {v : Value} {a a' : Act} (h : CallsIf P ops S o v a) (he : execOp a'.eval o = execOp a.eval o) (hw : Region.wanted o (yielded ops a'.tmps) = Region.wanted o (yielded ops a.tmps)) : CallsIf P ops S o v a' := by
  obtain ⟨h1, f, args, h2⟩ := h
  exact ⟨hw.trans h1, f, args, fun w hS => by rw [he]; exact h2 w hS⟩
theorem CallsIf.op {i : Nat} {o : Oper} {v : Value} {a : Act} (hi : ops[i]? = some o) (h : CallsIf P ops S o v a) {K : Act → World → Prop} {w : World} (hS : S w) (hK : K (a.put o.dst v) w) : wpOp P ops Q i K a w := by
  obtain ⟨h1, f, args, h2⟩ := h
  obtain ⟨h3, h4⟩ := h2 w hS
  unfold wpOp
  simp only [hi, h1, if_true]
  refine .inl ?_
  unfold Oper.wp
  rw [h3]
  refine Calls.mono h4 ?_
  rintro e w' ⟨rfl, rfl⟩
  exact hK
/-- another operation, apart from it, goes with its value laid ahead as it goes without -/
theorem CallsIf.aside {j : Nat} {oi oj : Oper} {v : Value} (hj : ops[j]? = some oj) (hap : oi.apart ops oj = true) (hsi : ∀ cs b, oi.op ≠ .select cs b) (hsj : ∀ cs b, oj.op ≠ .select cs b)
    (hQ : ∀ c a w, Q (.panic c) (a.put oi.dst v) w → Q (.panic c) a w) {K : Act → World → Prop} {a : Act} {w : World} (hy : CallsIf P ops S oi v a) (h : wpOp P ops Q j K (a.put oi.dst v) w) : wpOp P ops Q j (fun a' w' => CallsIf P ops S oi v a' ∧ K (a'.put oi.dst v) w') a w := by
  obtain ⟨h1, h2, h3⟩ := Oper.apart_spec hap
  have put : ∀ (b : Act), CallsIf P ops S oi v b → ∀ u, CallsIf P ops S oi v (b.put oj.dst u) := fun b hb u => hb.same (execOp_put oi hsi b oj.dst u h3) (wanted_put oi b oj.dst u h3)
  unfold wpOp at *
  simp only [hj, wanted_put oj a oi.dst v h1] at *
  by_cases hw : Region.wanted oj (yielded ops a.tmps) = true
  · simp only [hw, if_true] at h ⊢
    rcases h with h | ⟨hasks, hlets⟩
    · refine .inl ?_
      unfold Oper.wp at *
      rw [execOp_put oj hsj a oi.dst v h1] at h
      generalize (execOp a.eval oj).run P w = r at *
      rcases r with ⟨n, w'⟩ | ⟨x, w'⟩
      · cases n <;> simp only [Oper.upon] at h ⊢
        case value u => exact ⟨put a hy u, by rw [← Act.put_comm a v u h2]; exact h⟩
        case skip => exact ⟨put a hy _, by rw [← Act.put_comm a v undef h2]; exact h⟩
        case defer d => exact ⟨put { a with defers := d :: a.defers } (hy.same rfl rfl) _, by rw [← Act.put_comm _ v undef h2, ← Act.put_defers]; exact h⟩
        case enter f args =>
          refine Calls.mono h fun e w'' he => ?_
          rcases e with u | c | _
          · exact ⟨put a hy u, by rw [← Act.put_comm a v u h2]; exact he⟩
          · exact hQ _ _ _ he
          · exact he
        case row row args => exact Rows.mono h fun u w'' he => ⟨put a hy u, by rw [← Act.put_comm a v u h2]; exact he⟩
      · cases x <;> simp only [Oper.upon] at h ⊢
        case panic u => exact hQ _ _ _ h
    · exact .inr ⟨by unfold Oper.asks at *; rw [execOp_put oj hsj a oi.dst v h1] at hasks; exact hasks, hlets⟩
  · simp only [hw] at h ⊢
    exact ⟨put a hy _, by rw [← Act.put_comm a v undef h2]; exact h⟩
/-- such a call may be taken first -/
theorem wpAnyH_takeCall {i : Nat} {oi : Oper} {v : Value} (hi : ops[i]? = some oi) (hs : Region.noSelect ops = true) (hQ : ∀ c a w, Q (.panic c) (a.put oi.dst v) w → Q (.panic c) a w) :
    ∀ (fuel : Nat) (listed : Array Bool) (a : Act) (w : World), (∀ j oj, ops[j]? = some oj → j ≠ i → listed.getD j true = false → (∀ e ∈ oj.after, Region.binds md e = true → e.on ≠ i) → oi.apart ops oj = true) →
      i ∈ Region.ready md ops listed → CallsIf P ops S oi v a → S w → wpAnyH P md ops Q S fuel (listed.setIfInBounds i true) (a.put oi.dst v) w → wpAnyH P md ops Q S (fuel + 1) listed a w := by
  have hsel := Region.noSelect_spec hs
  intro fuel
  induction fuel with
  | zero =>
    intro listed a w _ hr hy hS H
    refine ⟨fun h => absurd hr (by rw [h]; simp), fun j hj => ?_⟩
    by_cases hji : j = i
    · subst hji
      exact hy.op hi hS ⟨hS, H⟩
    · have h0 := ready_mono hj hji
      rw [H.1] at h0
      cases h0
  | succ fuel ih =>
    intro listed a w hfree hr hy hS H
    refine ⟨fun h => absurd hr (by rw [h]; simp), fun j hj => ?_⟩
    by_cases hji : j = i
    · subst hji
      exact hy.op hi hS ⟨hS, H⟩
    · obtain ⟨hun, oj, hoj, hall⟩ := mem_ready.1 hj
      have hno : ∀ e ∈ oj.after, Region.binds md e = true → e.on ≠ i := fun e he hb heq => by
        have k1 := hall e he hb
        have k0 := (mem_ready.1 hr).1
        rw [heq] at k1
        rcases Nat.lt_or_ge i listed.size with hl | hl
        · simp [hl] at k0 k1
          rw [k0] at k1
          cases k1
        · simp [Array.getElem?_eq_none hl] at k1
      have h2 := CallsIf.aside hoj (hfree j oj hoj hji hun hno) (fun cs b => hsel i oi cs b hi) (fun cs b => hsel j oj cs b hoj) hQ hy (H.2 j (ready_mono hj hji))
      refine wpOp_mono (fun a' w' h3 => ⟨h3.2.1, ih _ a' w' (fun k ok hk hki hu hn => hfree k ok hk hki ?_ hn) (ready_mono hr (Ne.symm hji)) h3.1 h3.2.1 ?_⟩) h2
      · by_cases hjk : j = k
        · subst hjk
          exact hun
        · rw [getD_set_ne true hjk] at hu
          exact hu
      · rw [Array.setIfInBounds_comm _ _ hji]
        exact h3.2.2
theorem wpAnyH_callTake {i : Nat} {oi : Oper} {v : Value} {fuel : Nat} {listed : Array Bool} {a : Act} {w : World} (hi : ops[i]? = some oi) (hs : Region.noSelect ops = true) (hf : Region.free md ops listed i = true) (hr : (Region.ready md ops listed).contains i = true)
    (hQ : ∀ c a w, Q (.panic c) (a.put oi.dst v) w → Q (.panic c) a w) (hw : Region.wanted oi (yielded ops a.tmps) = true) (f : FuncId) (args : Array Value) (he : ∀ w, (execOp a.eval oi).run P w = .ok (.enter f args) w) (hc : ∀ w, S w → Calls P f args w fun e w' => e = .returned v ∧ w = w') (hS : S w)
    (h : wpAnyH P md ops Q S fuel (listed.setIfInBounds i true) (a.put oi.dst v) w) : wpAnyH P md ops Q S (fuel + 1) listed a w :=
  wpAnyH_takeCall hi hs hQ fuel listed a w (Region.free_spec hi hf) (by simpa using hr) ⟨hw, f, args, fun w hS => ⟨he w, hc w hS⟩⟩ hS h
end
end Go.Proofs.YtndfhpfhgdamgaaGreatDoor
namespace Go.Proofs.YtndfhpfhgdamgaaGreatDoor
open Go.RowKit
theorem ofInt32 (a : Nat) (ha : a < 4294967296) : (BitVec.ofInt 32 (a : Int)).toNat = a := by
  rw [BitVec.ofInt_natCast, BitVec.toNat_ofNat]; exact Nat.mod_eq_of_lt (by omega)
theorem bxor32 (a b : Nat) (ha : a < 4294967296) (hb : b < 4294967296) : bits .xor .u32 (a : Int) (b : Int) = ((a ^^^ b : Nat) : Int) := by
  have hx : a ^^^ b < 2 ^ 32 := Nat.xor_lt_two_pow (by omega) (by omega)
  show IntKind.u32.wrap ((BitVec.ofInt 32 (a : Int) ^^^ BitVec.ofInt 32 (b : Int)).toNat : Int) = _
  rw [BitVec.toNat_xor, ofInt32 a ha, ofInt32 b hb]
  exact u32_in (by omega) (by omega)
theorem band32 (a b : Nat) (ha : a < 4294967296) (hb : b < 4294967296) : bits .and .u32 (a : Int) (b : Int) = ((a &&& b : Nat) : Int) := by
  have hx : a &&& b < 2 ^ 32 := Nat.and_lt_two_pow _ (by omega)
  show IntKind.u32.wrap ((BitVec.ofInt 32 (a : Int) &&& BitVec.ofInt 32 (b : Int)).toNat : Int) = _
  rw [BitVec.toNat_and, ofInt32 a ha, ofInt32 b hb]
  exact u32_in (by omega) (by omega)
theorem bor32 (a b : Nat) (ha : a < 4294967296) (hb : b < 4294967296) : bits .or .u32 (a : Int) (b : Int) = ((a ||| b : Nat) : Int) := by
  have hx : a ||| b < 2 ^ 32 := Nat.or_lt_two_pow (by omega) (by omega)
  show IntKind.u32.wrap ((BitVec.ofInt 32 (a : Int) ||| BitVec.ofInt 32 (b : Int)).toNat : Int) = _
  rw [BitVec.toNat_or, ofInt32 a ha, ofInt32 b hb]
  exact u32_in (by omega) (by omega)
theorem xor32_lt {a b : Nat} (ha : a < 4294967296) (hb : b < 4294967296) : a ^^^ b < 4294967296 := Nat.xor_lt_two_pow (n := 32) ha hb
theorem bnot32 (a : Nat) (ha : a < 4294967296) : bits .xor .u32 IntKind.u32.max (a : Int) = ((4294967295 ^^^ a : Nat) : Int) := by
  have := bxor32 4294967295 a (by omega) ha
  exact this
/-- a step -/
def stp (w : Nat) : Nat := if w % 2 = 0 then w / 2 else (w / 2) ^^^ 3988292384
def T4 : List Int := [0, 498536548, 997073096, 651767980, 1994146192, 1802195444, 1303535960, 1342533948, 3988292384, 4027552580, 3604390888, 3412177804, 2607071920, 2262029012, 2685067896, 3183342108]
def t4 (n : Nat) : Nat := (T4.getD n 0).toNat
theorem t4_lt (n : Nat) (h : n < 16) : t4 n < 4294967296 := by
  have : ∀ m : Fin 16, t4 m.1 < 4294967296 := by decide
  exact this ⟨n, h⟩
theorem t4_int (n : Nat) (h : n < 16) : T4.getD n 0 = (t4 n : Int) := by
  have : ∀ m : Fin 16, T4.getD m.1 0 = (t4 m.1 : Int) := by decide
  exact this ⟨n, h⟩
/-- half a byte's steps -/
def nib (w : Nat) : Nat := (w / 16) ^^^ t4 (w % 16)
def crcB (w b : Nat) : Nat := nib (nib (w ^^^ b))
def crcW (w : Nat) (l : List UInt8) : Nat := l.foldl (fun w b => crcB w b.toNat) w
def crcN (sum : Nat) (l : List UInt8) : Nat := 4294967295 ^^^ crcW (4294967295 ^^^ sum) l
theorem nib_lt {w : Nat} (h : w < 4294967296) : nib w < 4294967296 := xor32_lt (by omega) (t4_lt _ (by omega))
theorem crcB_lt {w b : Nat} (h : w < 4294967296) (hb : b < 256) : crcB w b < 4294967296 := nib_lt (nib_lt (xor32_lt h (by omega)))
theorem crcW_lt {w : Nat} (l : List UInt8) (h : w < 4294967296) : crcW w l < 4294967296 := by
  induction l generalizing w with
  | nil => exact h
  | cons b r ih => exact ih (crcB_lt h b.toNat_lt)
theorem crcN_lt {w : Nat} (l : List UInt8) (h : w < 4294967296) : crcN w l < 4294967296 := xor32_lt (by omega) (crcW_lt l (xor32_lt (by omega) h))
theorem crcW_append (w : Nat) (a b : List UInt8) : crcW w (a ++ b) = crcW (crcW w a) b := by unfold crcW; rw [List.foldl_append]
theorem not_not32 (w : Nat) : 4294967295 ^^^ (4294967295 ^^^ w) = w := by rw [← Nat.xor_assoc, Nat.xor_self, Nat.zero_xor]
theorem crcN_append (w : Nat) (a b : List UInt8) : crcN w (a ++ b) = crcN (crcN w a) b := by
  unfold crcN; rw [crcW_append, not_not32]
theorem crcN_nil (w : Nat) : crcN w [] = w := not_not32 w
/-- the table lies in memory -/
def Tab4 (g : Nat) (w : World) : Prop := ∀ j, j < 16 → w.cell? ⟨g, j, none⟩ = some (.int .u32 (t4 j : Int))
theorem Tab4.below {g : Nat} {w w' : World} {B : Nat} (h : Tab4 g w) (hb : Below B w w') (hg : g < B) : Tab4 g w' := fun j hj => (hb.cell (p := ⟨g, j, none⟩) hg).trans (h j hj)
end Go.Proofs.YtndfhpfhgdamgaaGreatDoor
namespace Go.Proofs.YtndfhpfhgdamgaaGreatDoor
open Go.RowKit
theorem ix_str (w : World) (s : ByteArray) (k : Nat) (hk : k < s.size) : (Instr.index 9 (.string s) (.int .i64 (k : Int))).run Tryz.prog w = .ok (.int .u8 (s[k].toNat : Int)) w := by
  rw [run_index_string w 9 s .i64 k Tryz.underlying9, dif_pos ⟨by omega, by omega⟩]
  simp
theorem crcW_snoc (w : Nat) (l : List UInt8) (k : Nat) (h : k < l.length) : crcW w (l.take (k + 1)) = crcB (crcW w (l.take k)) l[k].toNat := by
  rw [List.take_succ_eq_append_getElem h, crcW_append]
  rfl
theorem bnib (Y : Nat) (h : Y < 4294967296) : bits .xor .u32 ((Y : Int) / 16) (t4 (Y % 16) : Int) = (nib Y : Int) := by
  have := bxor32 (Y / 16) (t4 (Y % 16)) (by omega) (t4_lt _ (by omega))
  rwa [show ((Y / 16 : Nat) : Int) = (Y : Int) / 16 by omega] at this
end Go.Proofs.YtndfhpfhgdamgaaGreatDoor
namespace Go.Proofs.YtndfhpfhgdamgaaGreatDoor
open Go.RowKit
/-- four bytes as a word, the lowest first -/
def le4 (l : List UInt8) (i : Nat) : Nat := (l.getD i 0).toNat + 256 * (l.getD (i + 1) 0).toNat + 65536 * (l.getD (i + 2) 0).toNat + 16777216 * (l.getD (i + 3) 0).toNat
theorem le4_lt (l : List UInt8) (i : Nat) : le4 l i < 4294967296 := by
  unfold le4
  have h0 := (l.getD i 0).toNat_lt
  have h1 := (l.getD (i + 1) 0).toNat_lt
  have h2 := (l.getD (i + 2) 0).toNat_lt
  have h3 := (l.getD (i + 3) 0).toNat_lt
  omega
theorem or_sum (k a b : Nat) (h : a < 2 ^ k) : a ||| (b * 2 ^ k) = a + b * 2 ^ k := by
  have := Nat.shiftLeft_add_eq_or_of_lt (i := k) h b
  rw [Nat.shiftLeft_eq] at this
  rw [Nat.or_comm, ← this, Nat.add_comm]
theorem bor_sum (k m a b : Nat) (mi : Int) (hm : m = 2 ^ k) (hmi : mi = (m : Int)) (h : a < m) (hk : m ≤ 4294967296) (hb : a + b * m < 4294967296) : bits .or .u32 (a : Int) ((b : Int) * mi) = ((a + b * m : Nat) : Int) := by
  subst hmi
  have := bor32 a (b * m) (by omega) (by omega)
  rw [Int.natCast_mul] at this
  rw [this]
  subst hm
  rw [or_sum k a b h]
/-- the first k words of sixteen -/
def wordsArr (l : List UInt8) (k : Nat) : List Value := (List.range 16).map fun j => if j < k then Value.int .u32 (le4 l (4 * j) : Int) else Value.int .u32 0
theorem wordsArr_zero (l : List UInt8) : wordsArr l 0 = List.replicate 16 (Value.int .u32 0) := by
  unfold wordsArr
  simp
  rfl
theorem wordsArr_len (l : List UInt8) (k : Nat) : (wordsArr l k).length = 16 := by simp [wordsArr]
theorem wordsArr_get (l : List UInt8) (k j : Nat) (hj : j < 16) : (wordsArr l k)[j]? = some (if j < k then Value.int .u32 (le4 l (4 * j) : Int) else Value.int .u32 0) := by
  unfold wordsArr
  rw [List.getElem?_map, List.getElem?_range hj]
  rfl
theorem wordsArr_set (l : List UInt8) (k : Nat) (hk : k < 16) : (wordsArr l k).set k (.int .u32 (le4 l (4 * k) : Int)) = wordsArr l (k + 1) := by
  apply List.ext_getElem?
  intro j
  by_cases hj : j < 16
  · rw [List.getElem?_set]
    by_cases e : k = j
    · subst e
      rw [if_pos rfl, if_pos (by rw [wordsArr_len]; exact hk), wordsArr_get l (k + 1) k hk, if_pos (by omega)]
    · rw [if_neg e, wordsArr_get l k j hj, wordsArr_get l (k + 1) j hj]
      by_cases h : j < k
      · rw [if_pos h, if_pos (by omega)]
      · rw [if_neg h, if_neg (by omega)]
  · rw [List.getElem?_eq_none (by simp [wordsArr_len]; omega), List.getElem?_eq_none (by rw [wordsArr_len]; omega)]
theorem ix_at (w : World) (s : ByteArray) (k : Nat) (i : Int) (hi : i = (k : Int)) (hk : k < s.size) : (Instr.index 9 (.string s) (.int .i64 i)).run Tryz.prog w = .ok (.int .u8 (s[k].toNat : Int)) w := by
  subst hi
  exact ix_str w s k hk
theorem four_bytes (s : ByteArray) (k : Nat) (hs : s.size = 64) (hk : k < 16) :
    ∃ x0 x1 x2 x3 : Nat, x0 < 256 ∧ x1 < 256 ∧ x2 < 256 ∧ x3 < 256 ∧ le4 s.data.toList (4 * k) = x0 + x1 * 256 + x2 * 65536 + x3 * 16777216 ∧
      (∀ w, (Instr.index 9 (.string (s.extract (4 * k) (4 * k + 4))) (.int .i64 0)).run Tryz.prog w = .ok (.int .u8 (x0 : Int)) w) ∧
      (∀ w, (Instr.index 9 (.string (s.extract (4 * k) (4 * k + 4))) (.int .i64 1)).run Tryz.prog w = .ok (.int .u8 (x1 : Int)) w) ∧
      (∀ w, (Instr.index 9 (.string (s.extract (4 * k) (4 * k + 4))) (.int .i64 2)).run Tryz.prog w = .ok (.int .u8 (x2 : Int)) w) ∧
      (∀ w, (Instr.index 9 (.string (s.extract (4 * k) (4 * k + 4))) (.int .i64 3)).run Tryz.prog w = .ok (.int .u8 (x3 : Int)) w) := by
  have hsz : (s.extract (4 * k) (4 * k + 4)).size = 4 := by rw [ByteArray.size_extract]; omega
  have hget : ∀ j (hj : j < (s.extract (4 * k) (4 * k + 4)).size), (s.extract (4 * k) (4 * k + 4))[j] = s.data.toList.getD (4 * k + j) 0 := by
    intro j hj
    have h2 : 4 * k + j < s.data.toList.length := by rw [size_data]; omega
    rw [ByteArray.getElem_extract, List.getD_eq_getElem?_getD, List.getElem?_eq_getElem h2]
    rfl
  have ix : ∀ (j : Nat) (i : Int), i = (j : Int) → j < 4 → ∀ w, (Instr.index 9 (.string (s.extract (4 * k) (4 * k + 4))) (.int .i64 i)).run Tryz.prog w = .ok (.int .u8 ((s.data.toList.getD (4 * k + j) 0).toNat : Int)) w := by
    intro j i hi hj w
    rw [ix_at w _ j i hi (by omega), hget j (by omega)]
  generalize s.extract (4 * k) (4 * k + 4) = E at *
  exact ⟨(s.data.toList.getD (4 * k + 0) 0).toNat, (s.data.toList.getD (4 * k + 1) 0).toNat, (s.data.toList.getD (4 * k + 2) 0).toNat, (s.data.toList.getD (4 * k + 3) 0).toNat, UInt8.toNat_lt _, UInt8.toNat_lt _, UInt8.toNat_lt _, UInt8.toNat_lt _, by unfold le4; rw [show 4 * k + 0 = 4 * k from rfl]; omega, ix 0 0 rfl (by omega), ix 1 1 rfl (by omega), ix 2 2 rfl (by omega), ix 3 3 rfl (by omega)⟩
theorem free_of_block {w : World} {b : Nat} {cs : Array Value} {t : TypeId} (h : w.heap[b]? = some (.cells cs t (0, 0))) (j : Nat) : w.frozen? ⟨b, j, none⟩ = false := by simp [World.frozen?, h]
theorem there_of_block {w : World} {b n : Nat} {cs : Array Value} {t : TypeId} (h : w.heap[b]? = some (.cells cs t (0, 0))) (o : Nat) (hn : o + n ≤ cs.size) : w.there b o n := fun j hj => by
  refine ⟨?_, free_of_block h _⟩
  rw [cell_of_row w _ (o + j) _ _ _ h, Array.getElem?_eq_getElem (by omega)]
  rfl
theorem heap_new1 (w : World) (o o' : Obj) : ((w.alloc o).alloc o').heap[w.heap.size]? = some o := by
  show ((w.heap.push o).push o')[w.heap.size]? = some o
  rw [Array.getElem?_push, if_neg (by simp), Array.getElem?_push, if_pos rfl]
theorem heap_new2 (w : World) (o o' : Obj) : ((w.alloc o).alloc o').heap[w.heap.size + 1]? = some o' := by
  show ((w.heap.push o).push o')[w.heap.size + 1]? = some o'
  rw [Array.getElem?_push, if_pos (by simp)]
theorem below_setCells {B : Nat} {w w' : World} (h : Below B w w') {b : Nat} (hb : B ≤ b) : ∀ (vs : List Value) {o : Nat}, Below B w (w'.setCells b o vs) := by
  intro vs
  induction vs generalizing w' with
  | nil => intro o; exact h
  | cons v vs ih => intro o; exact ih (h.setCell hb v)
set_option maxHeartbeats 2000000 in
set_option maxRecDepth 100000 in
set_option linter.unusedSimpArgs false in
/-- split -/
theorem split_any (s : ByteArray) (w : World) (hs : s.size = 64) :
    Calls Tryz.prog 93 #[.string s] w fun e w' => e = .returned (.agg (wordsArr s.data.toList 16).toArray) ∧ Below w.heap.size w w' := by
  go_enter Tryz.func93, Tryz.ntmps93
  go_wp2
  go_loopw [6] (fun i wr => ∃ k : Nat, k ≤ 16 ∧ i = .int .i64 k ∧ wr.heap[w.heap.size + 1]? = some (.cells (wordsArr s.data.toList k).toArray 171 (0, 0)) ∧ (∃ cs : Array Value, cs.size = 16 ∧ wr.heap[w.heap.size]? = some (.cells cs 171 (0, 0))) ∧ Below w.heap.size w wr)
    (fun i _ => 16 - (intOf i).toNat)
  case atStart =>
    refine ⟨0, by omega, rfl, ?_, ⟨(List.replicate 16 (Value.int .u32 0)).toArray, rfl, ?_⟩, ((Below.refl _ w).alloc (Nat.le_refl _) _).alloc (by simp) _⟩
    · rw [wordsArr_zero]
      exact heap_new2 w _ _
    · exact heap_new1 w _ _
  case round =>
    obtain ⟨k, hk, rfl, hblk, ⟨cs, hcs, hres⟩, hnx⟩ := hrel
    have hsize := hnx.size
    by_cases hlt : k < 16
    · obtain ⟨x0, x1, x2, x3, b0, b1, b2, b3, hw, i0, i1, i2, i3⟩ := four_bytes s k hs hlt
      have e1 : (4 * (k : Int)) ≤ 4 * (k : Int) + 4 := by omega
      have e2 : 4 * (k : Int) + 4 ≤ (s.size : Int) := by omega
      have hcell : (wr.cell? ⟨w.heap.size + 1, k, none⟩) = some (.int .u32 0) := by
        rw [cell_of_row wr _ k _ _ _ hblk]
        have := wordsArr_get s.data.toList k k hlt
        rw [if_neg (by omega)] at this
        simpa using this
      have hfr : wr.frozen? ⟨w.heap.size + 1, k, none⟩ = false := by simp [World.frozen?, hblk]
      have HW := hide hw
      clear hw
      go_wp2_with fail
      generalize s.extract (4 * k) (4 * k + 4) = E at *
      have o1 := bor_sum 8 256 x0 x1 256 rfl rfl (by omega) (by omega) (by omega)
      have o2 := bor_sum 16 65536 (x0 + x1 * 256) x2 65536 rfl rfl (by omega) (by omega) (by omega)
      have o3 := bor_sum 24 16777216 (x0 + x1 * 256 + x2 * 65536) x3 16777216 rfl rfl (by omega) (by omega) (by omega)
      generalize x0 + x1 * 256 + x2 * 65536 + x3 * 16777216 = V at *
      generalize x0 + x1 * 256 + x2 * 65536 = V2 at *
      generalize x0 + x1 * 256 = V1 at *
      refine wp_region_held_drew (S := fun _ => True) (by kernel_rfl) trivial (fun hHeld => ?_)
      refine wpAnyH_take (i := 0) (v := (.int .i64 (k : Int))) rfl (by kernel_rfl) (by kernel_rfl) (by kernel_rfl) (fun _ _ _ h => h) (Or.inl ⟨by rfl, ?_⟩) (by assumption) ?_
      · intro w' hSw
        (try dsimp only at hSw)
        go_simp <;> first | exact i64_in (by omega) (by omega) | exact u32_in (by omega) (by omega) | exact u32_add _ _ | (rw [Int.tmod_eq_emod_of_nonneg (by omega)]; omega) | (rw [Int.tdiv_eq_ediv_of_nonneg (by omega)]; omega) | omega
      (try simp only [Act.put, List.setIfInBounds_toArray, List.set_cons_zero, List.set_cons_succ])
      refine wpAnyH_take (i := 1) (v := (.string E)) rfl (by kernel_rfl) (by kernel_rfl) (by kernel_rfl) (fun _ _ _ h => h) (Or.inl ⟨by rfl, ?_⟩) (by assumption) ?_
      · intro w' hSw
        (try dsimp only at hSw)
        go_simp <;> first | exact i64_in (by omega) (by omega) | exact u32_in (by omega) (by omega) | exact u32_add _ _ | (rw [Int.tmod_eq_emod_of_nonneg (by omega)]; omega) | (rw [Int.tdiv_eq_ediv_of_nonneg (by omega)]; omega) | omega
      (try simp only [Act.put, List.setIfInBounds_toArray, List.set_cons_zero, List.set_cons_succ])
      refine wpAnyH_take (i := 2) (v := (.int .u8 (x0 : Int))) rfl (by kernel_rfl) (by kernel_rfl) (by kernel_rfl) (fun _ _ _ h => h) (Or.inl ⟨by rfl, ?_⟩) (by assumption) ?_
      · intro w' hSw
        (try dsimp only at hSw)
        go_simp <;> first | exact i64_in (by omega) (by omega) | exact u32_in (by omega) (by omega) | exact u32_add _ _ | (rw [Int.tmod_eq_emod_of_nonneg (by omega)]; omega) | (rw [Int.tdiv_eq_ediv_of_nonneg (by omega)]; omega) | omega
      (try simp only [Act.put, List.setIfInBounds_toArray, List.set_cons_zero, List.set_cons_succ])
      refine wpAnyH_take (i := 3) (v := (.int .u32 (x0 : Int))) rfl (by kernel_rfl) (by kernel_rfl) (by kernel_rfl) (fun _ _ _ h => h) (Or.inl ⟨by rfl, ?_⟩) (by assumption) ?_
      · intro w' hSw
        (try dsimp only at hSw)
        go_simp <;> first | exact i64_in (by omega) (by omega) | exact u32_in (by omega) (by omega) | exact u32_add _ _ | (rw [Int.tmod_eq_emod_of_nonneg (by omega)]; omega) | (rw [Int.tdiv_eq_ediv_of_nonneg (by omega)]; omega) | omega
      (try simp only [Act.put, List.setIfInBounds_toArray, List.set_cons_zero, List.set_cons_succ])
      refine wpAnyH_take (i := 4) (v := (.string E)) rfl (by kernel_rfl) (by kernel_rfl) (by kernel_rfl) (fun _ _ _ h => h) (Or.inl ⟨by rfl, ?_⟩) (by assumption) ?_
      · intro w' hSw
        (try dsimp only at hSw)
        go_simp <;> first | exact i64_in (by omega) (by omega) | exact u32_in (by omega) (by omega) | exact u32_add _ _ | (rw [Int.tmod_eq_emod_of_nonneg (by omega)]; omega) | (rw [Int.tdiv_eq_ediv_of_nonneg (by omega)]; omega) | omega
      (try simp only [Act.put, List.setIfInBounds_toArray, List.set_cons_zero, List.set_cons_succ])
      refine wpAnyH_take (i := 5) (v := (.int .u8 (x1 : Int))) rfl (by kernel_rfl) (by kernel_rfl) (by kernel_rfl) (fun _ _ _ h => h) (Or.inl ⟨by rfl, ?_⟩) (by assumption) ?_
      · intro w' hSw
        (try dsimp only at hSw)
        go_simp <;> first | exact i64_in (by omega) (by omega) | exact u32_in (by omega) (by omega) | exact u32_add _ _ | (rw [Int.tmod_eq_emod_of_nonneg (by omega)]; omega) | (rw [Int.tdiv_eq_ediv_of_nonneg (by omega)]; omega) | omega
      (try simp only [Act.put, List.setIfInBounds_toArray, List.set_cons_zero, List.set_cons_succ])
      refine wpAnyH_take (i := 6) (v := (.int .u32 (x1 : Int))) rfl (by kernel_rfl) (by kernel_rfl) (by kernel_rfl) (fun _ _ _ h => h) (Or.inl ⟨by rfl, ?_⟩) (by assumption) ?_
      · intro w' hSw
        (try dsimp only at hSw)
        go_simp <;> first | exact i64_in (by omega) (by omega) | exact u32_in (by omega) (by omega) | exact u32_add _ _ | (rw [Int.tmod_eq_emod_of_nonneg (by omega)]; omega) | (rw [Int.tdiv_eq_ediv_of_nonneg (by omega)]; omega) | omega
      (try simp only [Act.put, List.setIfInBounds_toArray, List.set_cons_zero, List.set_cons_succ])
      refine wpAnyH_take (i := 7) (v := (.int .u32 ((x1 : Int) * 256))) rfl (by kernel_rfl) (by kernel_rfl) (by kernel_rfl) (fun _ _ _ h => h) (Or.inl ⟨by rfl, ?_⟩) (by assumption) ?_
      · intro w' hSw
        (try dsimp only at hSw)
        go_simp <;> first | exact i64_in (by omega) (by omega) | exact u32_in (by omega) (by omega) | exact u32_add _ _ | (rw [Int.tmod_eq_emod_of_nonneg (by omega)]; omega) | (rw [Int.tdiv_eq_ediv_of_nonneg (by omega)]; omega) | omega
      (try simp only [Act.put, List.setIfInBounds_toArray, List.set_cons_zero, List.set_cons_succ])
      refine wpAnyH_take (i := 8) (v := (.int .u32 (V1 : Int))) rfl (by kernel_rfl) (by kernel_rfl) (by kernel_rfl) (fun _ _ _ h => h) (Or.inl ⟨by rfl, ?_⟩) (by assumption) ?_
      · intro w' hSw
        (try dsimp only at hSw)
        go_simp <;> first | exact i64_in (by omega) (by omega) | exact u32_in (by omega) (by omega) | exact u32_add _ _ | (rw [Int.tmod_eq_emod_of_nonneg (by omega)]; omega) | (rw [Int.tdiv_eq_ediv_of_nonneg (by omega)]; omega) | omega
      (try simp only [Act.put, List.setIfInBounds_toArray, List.set_cons_zero, List.set_cons_succ])
      refine wpAnyH_take (i := 9) (v := (.string E)) rfl (by kernel_rfl) (by kernel_rfl) (by kernel_rfl) (fun _ _ _ h => h) (Or.inl ⟨by rfl, ?_⟩) (by assumption) ?_
      · intro w' hSw
        (try dsimp only at hSw)
        go_simp <;> first | exact i64_in (by omega) (by omega) | exact u32_in (by omega) (by omega) | exact u32_add _ _ | (rw [Int.tmod_eq_emod_of_nonneg (by omega)]; omega) | (rw [Int.tdiv_eq_ediv_of_nonneg (by omega)]; omega) | omega
      (try simp only [Act.put, List.setIfInBounds_toArray, List.set_cons_zero, List.set_cons_succ])
      refine wpAnyH_take (i := 10) (v := (.int .u8 (x2 : Int))) rfl (by kernel_rfl) (by kernel_rfl) (by kernel_rfl) (fun _ _ _ h => h) (Or.inl ⟨by rfl, ?_⟩) (by assumption) ?_
      · intro w' hSw
        (try dsimp only at hSw)
        go_simp <;> first | exact i64_in (by omega) (by omega) | exact u32_in (by omega) (by omega) | exact u32_add _ _ | (rw [Int.tmod_eq_emod_of_nonneg (by omega)]; omega) | (rw [Int.tdiv_eq_ediv_of_nonneg (by omega)]; omega) | omega
      (try simp only [Act.put, List.setIfInBounds_toArray, List.set_cons_zero, List.set_cons_succ])
      refine wpAnyH_take (i := 11) (v := (.int .u32 (x2 : Int))) rfl (by kernel_rfl) (by kernel_rfl) (by kernel_rfl) (fun _ _ _ h => h) (Or.inl ⟨by rfl, ?_⟩) (by assumption) ?_
      · intro w' hSw
        (try dsimp only at hSw)
        go_simp <;> first | exact i64_in (by omega) (by omega) | exact u32_in (by omega) (by omega) | exact u32_add _ _ | (rw [Int.tmod_eq_emod_of_nonneg (by omega)]; omega) | (rw [Int.tdiv_eq_ediv_of_nonneg (by omega)]; omega) | omega
      (try simp only [Act.put, List.setIfInBounds_toArray, List.set_cons_zero, List.set_cons_succ])
      refine wpAnyH_take (i := 12) (v := (.int .u32 ((x2 : Int) * 65536))) rfl (by kernel_rfl) (by kernel_rfl) (by kernel_rfl) (fun _ _ _ h => h) (Or.inl ⟨by rfl, ?_⟩) (by assumption) ?_
      · intro w' hSw
        (try dsimp only at hSw)
        go_simp <;> first | exact i64_in (by omega) (by omega) | exact u32_in (by omega) (by omega) | exact u32_add _ _ | (rw [Int.tmod_eq_emod_of_nonneg (by omega)]; omega) | (rw [Int.tdiv_eq_ediv_of_nonneg (by omega)]; omega) | omega
      (try simp only [Act.put, List.setIfInBounds_toArray, List.set_cons_zero, List.set_cons_succ])
      refine wpAnyH_take (i := 13) (v := (.int .u32 (V2 : Int))) rfl (by kernel_rfl) (by kernel_rfl) (by kernel_rfl) (fun _ _ _ h => h) (Or.inl ⟨by rfl, ?_⟩) (by assumption) ?_
      · intro w' hSw
        (try dsimp only at hSw)
        go_simp <;> first | exact i64_in (by omega) (by omega) | exact u32_in (by omega) (by omega) | exact u32_add _ _ | (rw [Int.tmod_eq_emod_of_nonneg (by omega)]; omega) | (rw [Int.tdiv_eq_ediv_of_nonneg (by omega)]; omega) | omega
      (try simp only [Act.put, List.setIfInBounds_toArray, List.set_cons_zero, List.set_cons_succ])
      refine wpAnyH_take (i := 14) (v := (.string E)) rfl (by kernel_rfl) (by kernel_rfl) (by kernel_rfl) (fun _ _ _ h => h) (Or.inl ⟨by rfl, ?_⟩) (by assumption) ?_
      · intro w' hSw
        (try dsimp only at hSw)
        go_simp <;> first | exact i64_in (by omega) (by omega) | exact u32_in (by omega) (by omega) | exact u32_add _ _ | (rw [Int.tmod_eq_emod_of_nonneg (by omega)]; omega) | (rw [Int.tdiv_eq_ediv_of_nonneg (by omega)]; omega) | omega
      (try simp only [Act.put, List.setIfInBounds_toArray, List.set_cons_zero, List.set_cons_succ])
      refine wpAnyH_take (i := 15) (v := (.int .u8 (x3 : Int))) rfl (by kernel_rfl) (by kernel_rfl) (by kernel_rfl) (fun _ _ _ h => h) (Or.inl ⟨by rfl, ?_⟩) (by assumption) ?_
      · intro w' hSw
        (try dsimp only at hSw)
        go_simp <;> first | exact i64_in (by omega) (by omega) | exact u32_in (by omega) (by omega) | exact u32_add _ _ | (rw [Int.tmod_eq_emod_of_nonneg (by omega)]; omega) | (rw [Int.tdiv_eq_ediv_of_nonneg (by omega)]; omega) | omega
      (try simp only [Act.put, List.setIfInBounds_toArray, List.set_cons_zero, List.set_cons_succ])
      refine wpAnyH_take (i := 16) (v := (.int .u32 (x3 : Int))) rfl (by kernel_rfl) (by kernel_rfl) (by kernel_rfl) (fun _ _ _ h => h) (Or.inl ⟨by rfl, ?_⟩) (by assumption) ?_
      · intro w' hSw
        (try dsimp only at hSw)
        go_simp <;> first | exact i64_in (by omega) (by omega) | exact u32_in (by omega) (by omega) | exact u32_add _ _ | (rw [Int.tmod_eq_emod_of_nonneg (by omega)]; omega) | (rw [Int.tdiv_eq_ediv_of_nonneg (by omega)]; omega) | omega
      (try simp only [Act.put, List.setIfInBounds_toArray, List.set_cons_zero, List.set_cons_succ])
      refine wpAnyH_take (i := 17) (v := (.int .u32 ((x3 : Int) * 16777216))) rfl (by kernel_rfl) (by kernel_rfl) (by kernel_rfl) (fun _ _ _ h => h) (Or.inl ⟨by rfl, ?_⟩) (by assumption) ?_
      · intro w' hSw
        (try dsimp only at hSw)
        go_simp <;> first | exact i64_in (by omega) (by omega) | exact u32_in (by omega) (by omega) | exact u32_add _ _ | (rw [Int.tmod_eq_emod_of_nonneg (by omega)]; omega) | (rw [Int.tdiv_eq_ediv_of_nonneg (by omega)]; omega) | omega
      (try simp only [Act.put, List.setIfInBounds_toArray, List.set_cons_zero, List.set_cons_succ])
      refine wpAnyH_take (i := 18) (v := (.int .u32 (V : Int))) rfl (by kernel_rfl) (by kernel_rfl) (by kernel_rfl) (fun _ _ _ h => h) (Or.inl ⟨by rfl, ?_⟩) (by assumption) ?_
      · intro w' hSw
        (try dsimp only at hSw)
        go_simp <;> first | exact i64_in (by omega) (by omega) | exact u32_in (by omega) (by omega) | exact u32_add _ _ | (rw [Int.tmod_eq_emod_of_nonneg (by omega)]; omega) | (rw [Int.tdiv_eq_ediv_of_nonneg (by omega)]; omega) | omega
      (try simp only [Act.put, List.setIfInBounds_toArray, List.set_cons_zero, List.set_cons_succ])
      refine wpAnyH_take (i := 19) (v := (.pointer (some ⟨w.heap.size + 1, k, none⟩))) rfl (by kernel_rfl) (by kernel_rfl) (by kernel_rfl) (fun _ _ _ h => h) (Or.inl ⟨by rfl, ?_⟩) (by assumption) ?_
      · intro w' hSw
        (try dsimp only at hSw)
        go_simp <;> first | exact i64_in (by omega) (by omega) | exact u32_in (by omega) (by omega) | exact u32_add _ _ | (rw [Int.tmod_eq_emod_of_nonneg (by omega)]; omega) | (rw [Int.tdiv_eq_ediv_of_nonneg (by omega)]; omega) | omega
      (try simp only [Act.put, List.setIfInBounds_toArray, List.set_cons_zero, List.set_cons_succ])
      refine wpAnyH_ready (rs := [20]) (by kernel_rfl) (by simp) ?_
      refine AllReadyH.cons rfl (fun K hK => ?_) AllReadyH.nil
      go_simp
      refine hK.out _ _ trivial (fun hHeld => ?_)
      clear hK K
      refine wpAnyH_done (by kernel_rfl) ?_ _
      have hb' : (wr.setCell ⟨w.heap.size + 1, k, none⟩ (.int .u32 (V : Int))).drew.heap[w.heap.size + 1]? = some (.cells (wordsArr s.data.toList (k + 1)).toArray 171 (0, 0)) := by
        have := Joins.block_setCell (i := k) hblk (.int .u32 (V : Int))
        rw [List.setIfInBounds_toArray, ← HW.out, wordsArr_set _ k hlt] at this
        rw [← HW.out]
        exact this
      have hr' : (wr.setCell ⟨w.heap.size + 1, k, none⟩ (.int .u32 (V : Int))).drew.heap[w.heap.size]? = some (.cells cs 171 (0, 0)) :=
        (Below.heap_setCell wr ⟨w.heap.size + 1, k, none⟩ (.int .u32 (V : Int)) w.heap.size (by show w.heap.size ≠ w.heap.size + 1; omega)).trans hres
      have hn' : Below w.heap.size w (wr.setCell ⟨w.heap.size + 1, k, none⟩ (.int .u32 (V : Int))).drew := (hnx.setCell (by show w.heap.size ≤ w.heap.size + 1; omega) _).drew
      generalize (wr.setCell ⟨w.heap.size + 1, k, none⟩ (.int .u32 (V : Int))).drew = wn at *
      go_wp2
      go_roundw
      case rel => exact ⟨k + 1, by omega, by go_num, hb', ⟨cs, hcs, hr'⟩, hn'⟩
      case measure => simp [intOf]; omega
    · obtain rfl : k = 16 := by omega
      have hr := World.rangeAt_of_block hblk 0 16
      have hL : ((wordsArr s.data.toList 16).toArray.extract 0 (0 + 16)).toList = wordsArr s.data.toList 16 := by
        rw [show (0 + 16 : Nat) = (wordsArr s.data.toList 16).toArray.size by simp [wordsArr_len]]
        simp
      rw [hL] at hr
      have hlen : (wordsArr s.data.toList 16).length = 16 := wordsArr_len _ _
      have hone : (wordsArr s.data.toList 16).toArray.all (·.oneCell') = true := all_oneCell_toArray (fun v hv => by
        unfold wordsArr at hv
        obtain ⟨j, _, rfl⟩ := List.mem_map.1 hv
        split <;> rfl)
      have hth : wr.there w.heap.size 0 (wordsArr s.data.toList 16).toArray.size := fun j hj => by
        simp only [List.size_toArray, hlen] at hj
        refine ⟨?_, by simp [World.frozen?, hres]⟩
        rw [cell_of_row wr _ (0 + j) _ _ _ hres, Array.getElem?_eq_getElem (by omega)]
        rfl
      have hth' : (wr.setCells w.heap.size 0 (wordsArr s.data.toList 16)).rangeAt w.heap.size 0 (wordsArr s.data.toList 16) := World.rangeAt_setCells_same _ _ _ _ (by simpa using hth)
      have hn' : Below w.heap.size w (wr.setCells w.heap.size 0 (wordsArr s.data.toList 16)) := below_setCells hnx (Nat.le_refl _) _
      generalize hWA : wordsArr s.data.toList 16 = WA at *
      clear hL
      go_wp2_with (first
        | (refine wpList_load_mid rfl 171 _ rfl (w.heap.size + 1) 0 rfl WA (.array 16 125) hr Tryz.underlying171 rfl (by rw [hlen]; kernel_rfl) ?_)
        | (refine wpList_store_mid rfl 171 _ _ rfl w.heap.size 0 WA.toArray rfl rfl hth (by rw [List.size_toArray, hlen]; kernel_rfl) hone ?_))
      refine bodyPost_ret (v := .agg WA.toArray) ?_ rfl ⟨by rw [hWA], hn'⟩
      have hlv := run_loadVar_mid (P := Tryz.prog) _ w.heap.size 0 171 WA (.array 16 125) hth' Tryz.underlying171 rfl (by rw [hlen]; kernel_rfl)
      simp [results, Tryz.results93, asAddr, hlv, Act.put]
theorem band31 (k : Nat) (hk : k < 32) : bits .and .u64 (k : Int) 31 = (k : Int) := by
  have := bits_and_u64_nat k 31 (by omega) (by omega)
  have e : k &&& 31 = k := by
    rw [show (31 : Nat) = 2 ^ 5 - 1 from rfl, Nat.and_two_pow_sub_one_eq_mod]
    omega
  rw [e] at this
  exact this
/-- turned round -/
def rotN (x k : Nat) : Nat := (x * 2 ^ k % 4294967296) ||| (x / 2 ^ (32 - k))
set_option maxHeartbeats 1000000 in
set_option maxRecDepth 100000 in
/-- bits.RotateLeft32 -/
theorem rot_any (x k : Nat) (hx : x < 4294967296) (h0 : 0 < k) (hk : k < 32) (w : World) :
    Calls Tryz.prog 94 #[.int .u32 (x : Int), .int .i64 (k : Int)] w fun e w' => e = .returned (.int .u32 (rotN x k : Int)) ∧ w = w' := by
  have ha := band31 k hk
  have hp : (0 : Nat) < 2 ^ (32 - k) := Nat.pow_pos (by omega)
  have e1 : ((x * 2 ^ k % 4294967296 : Nat) : Int) = (x : Int) * 2 ^ k % 4294967296 := by rw [Int.natCast_emod, Int.natCast_mul, Int.natCast_pow]; rfl
  have e2 : ((x / 2 ^ (32 - k) : Nat) : Int) = (x : Int) / 2 ^ (32 - k) := by rw [Int.natCast_ediv, Int.natCast_pow]; rfl
  have hb := bor32 (x * 2 ^ k % 4294967296) (x / 2 ^ (32 - k)) (Nat.mod_lt _ (by omega)) (Nat.lt_of_le_of_lt (Nat.div_le_self _ _) hx)
  rw [e1, e2] at hb
  have HB : Hid (bits .or .u32 ((x : Int) * 2 ^ k % 4294967296) ((x : Int) / 2 ^ (32 - k)) = (rotN x k : Int)) := hb
  clear e1 e2 hb hp
  go_enter Tryz.func94, Tryz.ntmps94
  go_wp2
  go_ret
  exact ⟨by rw [← HB.out]; rfl, rfl⟩
end Go.Proofs.YtndfhpfhgdamgaaGreatDoor
namespace Go.Proofs.YtndfhpfhgdamgaaGreatDoor
open Go.RowKit
theorem info5 : (Tryz.prog.info? 5).map (fun i => (i.zero, i.size, i.bytes)) = some (some (.int .u8 0), 1, 1) := by kernel_rfl
/-- a number as so many bytes, the lowest first -/
def lowL (n size : Nat) : List UInt8 := (List.range size).map fun i => UInt8.ofNat (n / 2 ^ (8 * i) % 256)
theorem lowL_len (n size : Nat) : (lowL n size).length = size := by simp [lowL]
theorem lowL_succ (n k : Nat) : lowL n (k + 1) = lowL n k ++ [UInt8.ofNat (n / 2 ^ (8 * k) % 256)] := by simp [lowL, List.range_succ]
theorem row_put {t : List UInt8} {k N : Nat} (hl : t.length = k) (hn : k < N) (x : Nat) (hx : x < 256) :
    (t.map ub ++ List.replicate (N - k) (Value.int .u8 0)).set k (.int .u8 (x : Int)) = (t ++ [UInt8.ofNat x]).map ub ++ List.replicate (N - (k + 1)) (Value.int .u8 0) := by
  obtain ⟨m, hm⟩ : ∃ m, N - k = m + 1 := ⟨N - k - 1, by omega⟩
  rw [hm, show N - (k + 1) = m by omega, List.set_append_right _ _ (by simp; omega)]
  have e : ub (UInt8.ofNat x) = .int .u8 (x : Int) := by
    unfold ub
    rw [UInt8.toNat_ofNat', Nat.mod_eq_of_lt (by omega)]
  rw [List.map_append, List.map_cons, e]
  simp [hl, List.replicate_succ]
theorem cell_at_end {t : List UInt8} {k n : Nat} {z : Value} (hl : t.length = k) (hn : 0 < n) : (t.map ub ++ List.replicate n z)[k]? = some z := by
  rw [List.getElem?_append_right (by simp; omega)]
  simp [hl, hn]
set_option maxHeartbeats 1000000 in
set_option maxRecDepth 100000 in
/-- lowFirst -/
theorem low_any (n N : Nat) (_hx : n < 18446744073709551616) (hN : N ≤ 8) (w : World) :
    Calls Tryz.prog 83 #[.int .u64 (n : Int), .int .i64 (N : Int)] w fun e w' => e = .returned (.string (strOf (lowL n N))) ∧ Below w.heap.size w w' := by
  obtain ⟨i0, hi, hz0, hz1, hz2⟩ := info_parts info5
  go_enter Tryz.func83, Tryz.ntmps83
  go_wp2_with (at_make; refine wpList_make_full _ rfl _ _ 156 rfl w.heap.size 5 i0 (.int .u8 0) 1 Tryz.underlying156 hi hz0 hz1 _ _ _ _ N rfl rfl (by omega) (by omega) (by rw [hz2]; omega) (by unfold maxLen; omega) (Nat.le_refl _) ?_)
  intro w1 hown1 hgrow1
  have hb1 : Below w.heap.size w w1 := (Below.refl _ w).grown hgrow1 (Nat.le_refl _) (by simp)
  rw [toList_madeCells_one] at hown1
  go_wp2
  go_loopw [11] (fun i wr => ∃ k : Nat, k ≤ N ∧ i = .int .i64 k ∧ wr.ownsRow w.heap.size 5 1 (.slice (some ⟨w.heap.size, 0, none⟩) N N) N ((lowL n k).map ub ++ List.replicate (N - k) (Value.int .u8 0)) ∧ Below w.heap.size w wr)
    (fun i _ => N - (intOf i).toNat)
  case atStart => exact ⟨0, Nat.zero_le _, rfl, by simpa [lowL] using hown1, hb1⟩
  case round =>
    obtain ⟨k, hk, rfl, hown, hnx⟩ := hrel
    have hsize := hnx.size
    by_cases hlt : k < N
    · have hc1 := hown.cellAt k (by omega)
      rw [cell_at_end (lowL_len n k) (by omega)] at hc1
      have hc2 := hown.frozenAt k
      go_wp2
      go_roundw
      case rel =>
        have e : (n : Int) / 2 ^ (8 * k) % 256 = ((n / 2 ^ (8 * k) % 256 : Nat) : Int) := by
          rw [Int.natCast_emod, Int.natCast_ediv, Int.natCast_pow]; rfl
        rw [e]
        refine ⟨k + 1, by omega, by go_num, ?_, hnx.setCell (by simp) _⟩
        have := (hown.stored k (.int .u8 ((n / 2 ^ (8 * k) % 256 : Nat) : Int))).1
        rw [row_put (lowL_len n k) hlt _ (Nat.mod_lt _ (by omega)), ← lowL_succ] at this
        exact this
      case measure => simp [intOf]; omega
    · obtain rfl : k = N := by omega
      rw [Nat.sub_self, List.replicate_zero, List.append_nil] at hown
      have hc := own_conv (P := Tryz.prog) (src := 156) (dst := 9) hown (lowL_len n k).symm Tryz.underlying156 Tryz.underlying5 Tryz.underlying9
      go_wp2
      go_ret
      exact ⟨rfl, hnx⟩
end Go.Proofs.YtndfhpfhgdamgaaGreatDoor
namespace Go.Proofs.YtndfhpfhgdamgaaGreatDoor
open Go.RowKit
abbrev Q := Nat × Nat × Nat × Nat
def SN : List Int := [3614090360, 3905402710, 606105819, 3250441966, 4118548399, 1200080426, 2821735955, 4249261313, 1770035416, 2336552879, 4294925233, 2304563134, 1804603682, 4254626195, 2792965006, 1236535329, 4129170786, 3225465664, 643717713, 3921069994, 3593408605, 38016083, 3634488961, 3889429448, 568446438, 3275163606, 4107603335, 1163531501, 2850285829, 4243563512, 1735328473, 2368359562, 4294588738, 2272392833, 1839030562, 4259657740, 2763975236, 1272893353, 4139469664, 3200236656, 681279174, 3936430074, 3572445317, 76029189, 3654602809, 3873151461, 530742520, 3299628645, 4096336452, 1126891415, 2878612391, 4237533241, 1700485571, 2399980690, 4293915773, 2240044497, 1873313359, 4264355552, 2734768916, 1309151649, 4149444226, 3174756917, 718787259, 3951481745]
def TN : List Int := [7, 12, 17, 22, 5, 9, 14, 20, 4, 11, 16, 23, 6, 10, 15, 21]
def sin (i : Nat) : Nat := (SN.getD i 0).toNat
def trn (i : Nat) : Nat := (TN.getD i 0).toNat
theorem sin_lt (n : Nat) (h : n < 64) : sin n < 4294967296 := by
  have : ∀ m : Fin 64, sin m.1 < 4294967296 := by decide +kernel
  exact this ⟨n, h⟩
theorem trn_lt (n : Nat) (h : n < 16) : 0 < trn n ∧ trn n < 32 := by
  have : ∀ m : Fin 16, 0 < trn m.1 ∧ trn m.1 < 32 := by decide
  exact this ⟨n, h⟩
def TabS (g : Nat) (w : World) : Prop := ∀ j, j < 64 → w.cell? ⟨g, j, none⟩ = some (.int .u32 (sin j : Int))
def TabT (g : Nat) (w : World) : Prop := ∀ j, j < 16 → w.cell? ⟨g, j, none⟩ = some (.int .i64 (trn j : Int))
theorem TabS.below {g : Nat} {w w' : World} {B : Nat} (h : TabS g w) (hb : Below B w w') (hg : g < B) : TabS g w' := fun j hj => (hb.cell (p := ⟨g, j, none⟩) hg).trans (h j hj)
theorem TabT.below {g : Nat} {w w' : World} {B : Nat} (h : TabT g w) (hb : Below B w w') (hg : g < B) : TabT g w' := fun j hj => (hb.cell (p := ⟨g, j, none⟩) hg).trans (h j hj)
/-- the mixing of a step -/
def fN (i b c d : Nat) : Nat :=
  if i / 16 = 0 then (b &&& c) ||| ((4294967295 ^^^ b) &&& d)
  else if i / 16 = 1 then (d &&& b) ||| ((4294967295 ^^^ d) &&& c)
  else if i / 16 = 2 then (b ^^^ c) ^^^ d
  else c ^^^ (b ||| (4294967295 ^^^ d))
def gN (i : Nat) : Nat := if i / 16 = 0 then i else if i / 16 = 1 then 5 * i + 1 else if i / 16 = 2 then 3 * i + 5 else 7 * i
def rnd (m : Nat → Nat) (i : Nat) (q : Q) : Q :=
  (q.2.2.2, (q.2.1 + rotN ((q.1 + fN i q.2.1 q.2.2.1 q.2.2.2 + sin i + m (gN i % 16)) % 4294967296) (trn (4 * (i / 16) + i % 4))) % 4294967296, q.2.1, q.2.2.1)
def rounds (m : Nat → Nat) (q : Q) : Nat → Q
  | 0 => q
  | k + 1 => rnd m k (rounds m q k)
def addQ (p q : Q) : Q := ((p.1 + q.1) % 4294967296, (p.2.1 + q.2.1) % 4294967296, (p.2.2.1 + q.2.2.1) % 4294967296, (p.2.2.2 + q.2.2.2) % 4294967296)
def mixN (q : Q) (l : List UInt8) : Q := addQ q (rounds (fun j => le4 l (4 * j)) q 64)
def Q4 (q : Q) : Prop := q.1 < 4294967296 ∧ q.2.1 < 4294967296 ∧ q.2.2.1 < 4294967296 ∧ q.2.2.2 < 4294967296
theorem rnd_lt (m : Nat → Nat) (i : Nat) (q : Q) (h : Q4 q) : Q4 (rnd m i q) := ⟨h.2.2.2, Nat.mod_lt _ (by omega), h.2.1, h.2.2.1⟩
theorem rounds_lt (m : Nat → Nat) (q : Q) (h : Q4 q) (k : Nat) : Q4 (rounds m q k) := by
  induction k with
  | zero => exact h
  | succ k ih => exact rnd_lt m k _ ih
theorem addQ_lt (p q : Q) : Q4 (addQ p q) := ⟨Nat.mod_lt _ (by omega), Nat.mod_lt _ (by omega), Nat.mod_lt _ (by omega), Nat.mod_lt _ (by omega)⟩
theorem mixN_lt (q : Q) (l : List UInt8) : Q4 (mixN q l) := addQ_lt _ _
def qV (q : Q) : Value := .agg #[.int .u32 (q.1 : Int), .int .u32 (q.2.1 : Int), .int .u32 (q.2.2.1 : Int), .int .u32 (q.2.2.2 : Int)]
def qL (q : Q) : List Value := [.int .u32 (q.1 : Int), .int .u32 (q.2.1 : Int), .int .u32 (q.2.2.1 : Int), .int .u32 (q.2.2.2 : Int)]
theorem rnd_eq (M : Nat → Nat) (k A B C D : Nat) : rnd M k (A, B, C, D) = (D, (B + rotN ((((A + fN k B C D) % 4294967296 + sin k) % 4294967296 + M (gN k % 16)) % 4294967296) (trn (4 * (k / 16) + k % 4))) % 4294967296, B, C) := by
  unfold rnd
  simp only
  rw [show (((A + fN k B C D) % 4294967296 + sin k) % 4294967296 + M (gN k % 16)) % 4294967296 = (A + fN k B C D + sin k + M (gN k % 16)) % 4294967296 by omega]
end Go.Proofs.YtndfhpfhgdamgaaGreatDoor
