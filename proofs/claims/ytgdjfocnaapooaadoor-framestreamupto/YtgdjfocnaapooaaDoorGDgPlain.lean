import Derived.WalkKit
import Derived.WalkSpells
import Derived.WalkLawsBesides
import Derived.Laws.BytesArg
import Derived.Laws.IdiomStrings
import Derived.Maps.AppendAt
import Derived.Laws.OwnMore
import Derived.Test.YtgdjfocnaapooaaDoorProg
import Derived.Deep.RegionHeld3
import Derived.Deep.AppendLies
import Derived.Lib.AppendStr
import Derived.Laws.ResultCell
namespace Go.Proofs.YtgdjfocnaapooaaDoor
open Go.RowKit
theorem hide {p : Prop} (h : p) : Hid p := h
theorem unh {p : Prop} (h : Hid p) : p := h
theorem ret_bool {a b : Bool} (h : a = b) : Ending.returned (.bool a) = .returned (.bool b) := by rw [h]
theorem ret_str {a b : ByteArray} (h : a = b) : Ending.returned (.string a) = .returned (.string b) := by rw [h]
theorem u8_in {x : Int} (h0 : 0 ≤ x) (h1 : x < 256) : IntKind.u8.wrap x = x := by
  simp [IntKind.wrap, IntKind.signed, IntKind.bits]; omega
theorem u32_in {x : Int} (h0 : 0 ≤ x) (h1 : x < 4294967296) : IntKind.u32.wrap x = x := by
  simp [IntKind.wrap, IntKind.signed, IntKind.bits]; omega
theorem u32_add (x y : Nat) : IntKind.u32.wrap ((x : Int) + (y : Int)) = (((x + y) % 4294967296 : Nat) : Int) := by
  simp [IntKind.wrap, IntKind.signed, IntKind.bits]
/-- a byte as a cell -/
def ub (b : UInt8) : Value := .int .u8 (b.toNat : Int)
def strOf (l : List UInt8) : ByteArray := ⟨l.toArray⟩
theorem strOf_data (l : List UInt8) : (strOf l).data.toList = l := rfl
theorem strOf_size (l : List UInt8) : (strOf l).size = l.length := by simp [strOf, ByteArray.size]
theorem strOf_toList (s : ByteArray) : strOf s.data.toList = s := by cases s; rfl
theorem strOf_inj {a b : List UInt8} (h : strOf a = strOf b) : a = b := by
  have := congrArg (fun x => x.data.toList) h
  simpa [strOf] using this
theorem size_data (s : ByteArray) : s.data.toList.length = s.size := by simp
theorem eq_beq (a b : ByteArray) : (a.toList == b.toList) = decide (a = b) := by
  rw [ByteArray.toList_eq, ByteArray.toList_eq, Bool.eq_iff_iff]
  simp
  constructor
  · intro h
    cases a; cases b; simp at h; rw [h]
  · intro h; rw [h]
theorem oneCells (l : List UInt8) : ∀ u ∈ l.map ub, u.oneCell' = true := by
  intro u hu
  obtain ⟨x, _, rfl⟩ := List.mem_map.1 hu
  rfl
theorem cell_two_new (w : World) (x y : Value) (t : TypeId) : ∀ j u, [x, y][j]? = some u → (w.alloc (.cells #[x, y] t)).cell? ((⟨w.heap.size, 0, none⟩ : Addr).add j) = some u := by
  intro j u hj
  match j, hj with
  | 0, hj => simp at hj; subst hj; simp [Addr.add]
  | 1, hj => simp at hj; subst hj; simp [Addr.add]
  | (j + 2), hj => simp at hj
/-- string(out), out a row of the call's own -/
theorem own_conv {P : Program} {w : World} {base e src dst n : Nat} {v : Value} {l : List UInt8} (h : w.ownsRow base e 1 v n (l.map ub)) (hn : n = l.length) (hs : P.underlying src = some (.slice e)) (he : P.underlying e = some (.int .u8)) (hd : P.underlying dst = some .string) :
    (convert src dst v).run P w = .ok (.string (strOf l)) w := by
  subst hn
  rcases h.2 with ⟨hv, h0⟩ | ⟨g, cap, cur, hv, hg, hblk, hn, hc, hcs, htake⟩
  · subst hv
    rw [run_convert_bytes_nil w src e hs he 0 0 dst hd]
    have : l = [] := by
      have := h.1
      cases l with
      | nil => rfl
      | cons a t => simp at h0
    subst this
    rfl
  · subst hv
    exact run_convert_bytes_back w src dst e ⟨g, 0, none⟩ cap l hs he hd (fun j hj => by
      have := h.cellAt j (by simpa using hj)
      have e0 : (⟨g, 0, none⟩ : Addr).add j = ⟨g, j, none⟩ := by simp [Addr.add]; omega
      rw [e0]
      simpa [hj, ub] using this)
/-- the digit of a half byte -/
def hd (n : Nat) : UInt8 := if n < 10 then UInt8.ofNat (48 + n) else UInt8.ofNat (87 + n)
def hexL : List UInt8 → List UInt8
  | [] => []
  | b :: r => hd (b.toNat / 16) :: hd (b.toNat % 16) :: hexL r
theorem hexL_len (l : List UInt8) : (hexL l).length = 2 * l.length := by
  induction l with
  | nil => rfl
  | cons b r ih => simp only [hexL, List.length_cons, ih]; omega
theorem hexL_append (a b : List UInt8) : hexL (a ++ b) = hexL a ++ hexL b := by
  induction a with
  | nil => rfl
  | cons x r ih => simp [hexL, ih]
theorem hexL_snoc (l : List UInt8) (k : Nat) (h : k < l.length) : hexL (l.take (k + 1)) = hexL (l.take k) ++ [hd (l[k].toNat / 16), hd (l[k].toNat % 16)] := by
  rw [List.take_succ_eq_append_getElem h, hexL_append]
  rfl
def digs : ByteArray := ⟨#[48, 49, 50, 51, 52, 53, 54, 55, 56, 57, 97, 98, 99, 100, 101, 102]⟩
theorem digs_get (n : Nat) (h : n < 16) (h' : n < digs.size) : digs[n] = hd n := by
  have : ∀ m : Fin 16, digs[m.1]'(by simp [digs, ByteArray.size]) = hd m.1 := by decide
  exact this ⟨n, h⟩
/-- the half byte that a digit stands for -/
def unhd (c : UInt8) : Option Nat := if 48 ≤ c.toNat ∧ c.toNat ≤ 57 then some (c.toNat - 48) else if 97 ≤ c.toNat ∧ c.toNat ≤ 102 then some (c.toNat - 87) else none
def unhexL : List UInt8 → Option (List UInt8)
  | [] => some []
  | [_] => none
  | a :: b :: r => match unhd a, unhd b, unhexL r with
    | some x, some y, some t => some (UInt8.ofNat (16 * x + y) :: t)
    | _, _, _ => none
theorem unhd_lt {c : UInt8} {x : Nat} (h : unhd c = some x) : x < 16 := by
  unfold unhd at h
  split at h
  · simp at h; omega
  · split at h
    · simp at h; omega
    · simp at h
theorem unhd_hd : ∀ n : Fin 16, unhd (hd n.1) = some n.1 := by decide
theorem unhex_hex (l : List UInt8) : unhexL (hexL l) = some l := by
  induction l with
  | nil => rfl
  | cons b r ih =>
    have hb := b.toNat_lt
    have h1 : unhd (hd (b.toNat / 16)) = some (b.toNat / 16) := unhd_hd ⟨b.toNat / 16, by omega⟩
    have h2 : unhd (hd (b.toNat % 16)) = some (b.toNat % 16) := unhd_hd ⟨b.toNat % 16, by omega⟩
    simp only [hexL, unhexL, h1, h2, ih]
    congr 2
    rw [← UInt8.toNat_inj, UInt8.toNat_ofNat']
    omega
theorem unhex_odd (l : List UInt8) (h : l.length % 2 = 1) : unhexL l = none := by
  induction h' : l.length using Nat.strongRecOn generalizing l with
  | ind n ih =>
    match l with
    | [] => simp at h
    | [_] => rfl
    | a :: b :: r =>
      simp only [List.length_cons] at h h'
      have := ih r.length (by omega) r (by omega) rfl
      simp only [unhexL, this]
      cases unhd a <;> cases unhd b <;> rfl
/-- the value that both Unhex answer -/
def unS (l : List UInt8) : ByteArray := strOf ((unhexL l).getD [])
def unE (l : List UInt8) : Int := if (unhexL l).isSome then 0 else 20
/-- the first k pairs read well -/
theorem unhexL_append (a b : List UInt8) (h : a.length % 2 = 0) : unhexL (a ++ b) = (unhexL a).bind fun x => (unhexL b).map (x ++ ·) := by
  induction h' : a.length using Nat.strongRecOn generalizing a with
  | ind n ih =>
    match a with
    | [] => simp [unhexL]
    | [_] => simp at h
    | x :: y :: r =>
      simp only [List.length_cons] at h h'
      have := ih r.length (by omega) r (by omega) rfl
      simp only [List.cons_append, unhexL, this]
      cases unhd x <;> cases unhd y <;> cases unhexL r <;> cases unhexL b <;> simp
theorem take_two (l : List UInt8) (k : Nat) (h : 2 * k + 1 < l.length) : l.take (2 * (k + 1)) = l.take (2 * k) ++ [l[2 * k], l[2 * k + 1]] := by
  rw [show 2 * (k + 1) = 2 * k + 1 + 1 by omega, List.take_succ_eq_append_getElem h, List.take_succ_eq_append_getElem (show 2 * k < l.length by omega), List.append_assoc]
  rfl
theorem unhex_step (l : List UInt8) (k : Nat) (h : 2 * k + 1 < l.length) {t : List UInt8} {x y : Nat} (ht : unhexL (l.take (2 * k)) = some t) (hx : unhd l[2 * k] = some x) (hy : unhd l[2 * k + 1] = some y) :
    unhexL (l.take (2 * (k + 1))) = some (t ++ [UInt8.ofNat (16 * x + y)]) := by
  rw [take_two l k h, unhexL_append _ _ (by rw [List.length_take]; omega), ht]
  simp [unhexL, hx, hy]
theorem unhex_bad (l : List UInt8) (k : Nat) (h : 2 * k + 1 < l.length) (hb : unhd l[2 * k] = none ∨ unhd l[2 * k + 1] = none) : unhexL l = none := by
  have e : l = l.take (2 * k) ++ (l[2 * k] :: l[2 * k + 1] :: l.drop (2 * k + 2)) := by
    conv => lhs; rw [← List.take_append_drop (2 * k) l, List.drop_eq_getElem_cons (by omega), List.drop_eq_getElem_cons (by omega)]
  rw [e, unhexL_append _ _ (by rw [List.length_take]; omega)]
  have : unhexL (l[2 * k] :: l[2 * k + 1] :: l.drop (2 * k + 2)) = none := by
    unfold unhexL
    rcases hb with hb | hb <;> rw [hb]
    cases unhd l[2 * k] <;> rfl
  rw [this]
  cases unhexL (l.take (2 * k)) <;> rfl
theorem unhex_len {l t : List UInt8} (h : unhexL l = some t) : l.length = 2 * t.length := by
  induction h' : l.length using Nat.strongRecOn generalizing l t with
  | ind n ih =>
    match l with
    | [] => simp [unhexL] at h; subst h; simp at h'; simp; omega
    | [_] => simp [unhexL] at h
    | a :: b :: r =>
      simp only [List.length_cons] at h'
      unfold unhexL at h
      split at h
      · rename_i x y t' h1 h2 h3
        have := ih r.length (by omega) h3 rfl
        simp at h
        subst h
        simp only [List.length_cons]
        omega
      · simp at h
theorem hd_unhd {c : UInt8} {x : Nat} (h : unhd c = some x) : hd x = c := by
  unfold unhd at h
  rw [← UInt8.toNat_inj]
  have := c.toNat_lt
  split at h
  · simp at h; subst h
    unfold hd; rw [if_pos (by omega), UInt8.toNat_ofNat']; omega
  · split at h
    · simp at h; subst h
      unfold hd; rw [if_neg (by omega), UInt8.toNat_ofNat']; omega
    · simp at h
theorem hex_unhex {l t : List UInt8} (h : unhexL l = some t) : hexL t = l := by
  induction h' : l.length using Nat.strongRecOn generalizing l t with
  | ind n ih =>
    match l with
    | [] => simp [unhexL] at h; subst h; rfl
    | [_] => simp [unhexL] at h
    | a :: b :: r =>
      simp only [List.length_cons] at h'
      unfold unhexL at h
      split at h
      · rename_i x y t' h1 h2 h3
        have h4 := ih r.length (by omega) h3 rfl
        have hx := unhd_lt h1
        have hy := unhd_lt h2
        replace h := Option.some.inj h
        subst h
        have e : (UInt8.ofNat (16 * x + y)).toNat = 16 * x + y := by rw [UInt8.toNat_ofNat']; omega
        simp only [hexL, e, h4]
        rw [show (16 * x + y) / 16 = x by omega, show (16 * x + y) % 16 = y by omega, hd_unhd h1, hd_unhd h2]
      · simp at h
end Go.Proofs.YtgdjfocnaapooaaDoor
namespace Go.Proofs.YtgdjfocnaapooaaDoor
open Go.RowKit
/-- the bytes of a number, the highest first -/
def dig : Nat → Nat → List UInt8
  | 0, _ => []
  | w + 1, n => dig w (n / 256) ++ [UInt8.ofNat n]
theorem dig_len (w n : Nat) : (dig w n).length = w := by
  induction w generalizing n with
  | zero => rfl
  | succ w ih => simp [dig, ih]
/-- the number of bytes -/
def val (l : List UInt8) : Nat := l.foldl (fun a b => a * 256 + b.toNat) 0
theorem val_nil : val [] = 0 := rfl
theorem val_snoc (l : List UInt8) (b : UInt8) : val (l ++ [b]) = val l * 256 + b.toNat := by simp [val]
theorem val_dig (w n : Nat) (h : n < 256 ^ w) : val (dig w n) = n := by
  induction w generalizing n with
  | zero => simp at h; subst h; rfl
  | succ w ih =>
    rw [dig, val_snoc, ih (n / 256) (by rw [Nat.pow_succ] at h; omega), UInt8.toNat_ofNat']
    omega
theorem val_lt (l : List UInt8) : val l < 256 ^ l.length := by
  induction h : l.length generalizing l with
  | zero => rw [List.length_eq_zero_iff] at h; subst h; simp [val]
  | succ n ih =>
    rcases List.eq_nil_or_concat l with rfl | ⟨r, b, rfl⟩
    · simp at h
    · rw [List.concat_eq_append, val_snoc]
      have := ih r (by simpa using h)
      have := b.toNat_lt
      rw [Nat.pow_succ]; omega
theorem dig_val (l : List UInt8) : dig l.length (val l) = l := by
  induction h : l.length generalizing l with
  | zero => rw [List.length_eq_zero_iff] at h; subst h; rfl
  | succ n ih =>
    rcases List.eq_nil_or_concat l with rfl | ⟨r, b, rfl⟩
    · simp at h
    · rw [List.concat_eq_append] at h ⊢
      have hb := b.toNat_lt
      rw [dig, val_snoc, show (val r * 256 + b.toNat) / 256 = val r by omega, ih r (by simpa using h)]
      congr 2
      rw [← UInt8.toNat_inj, UInt8.toNat_ofNat']; omega
theorem val_take (l : List UInt8) (k : Nat) (h : k < l.length) : val (l.take (k + 1)) = val (l.take k) * 256 + l[k].toNat := by
  rw [List.take_succ_eq_append_getElem h, val_snoc]
theorem dig_drop (k w n : Nat) : (dig (k + w) n).drop k = dig w n := by
  induction w generalizing n with
  | zero => simp [dig_len, dig]
  | succ w ih =>
    rw [show k + (w + 1) = k + w + 1 by omega, dig, List.drop_append_of_le_length (by rw [dig_len]; omega), ih, dig]
theorem dig_four (n : Nat) : dig 4 n = [UInt8.ofNat (n / 16777216), UInt8.ofNat (n / 65536), UInt8.ofNat (n / 256), UInt8.ofNat n] := by
  simp [dig, Nat.div_div_eq_div_mul]
theorem dig_two (n : Nat) : dig 2 n = [UInt8.ofNat (n / 256), UInt8.ofNat n] := by
  simp [dig]
theorem dig_cons (w n : Nat) : dig (w + 1) n = UInt8.ofNat (n / 256 ^ w) :: dig w n := by
  induction w generalizing n with
  | zero => simp [dig]
  | succ w ih =>
    rw [dig, ih, dig, Nat.div_div_eq_div_mul, Nat.pow_succ, Nat.mul_comm 256]
    rfl
/-- a row that grew: the old blocks but the row's own are as they were; the row is where it was, or new -/
structure Grew (w w' : World) (v v' : Value) : Prop where
  by' : w.grownBy w' v.ownBlock
  at' : v'.ownBlock = v.ownBlock ∨ ∃ k, v'.ownBlock = some k ∧ w.heap.size ≤ k
theorem grown_refl (w : World) (r : Option Nat) : w.grownBy w r := ⟨rfl, rfl, rfl, Nat.le_refl _, fun _ _ _ => rfl⟩
theorem Grew.refl (w : World) (v : Value) : Grew w w v v := ⟨grown_refl _ _, .inl rfl⟩
theorem Grew.trans {w w1 w2 : World} {v v1 v2 : Value} (h : Grew w w1 v v1) (k : Grew w1 w2 v1 v2) : Grew w w2 v v2 := by
  refine ⟨⟨k.by'.os.trans h.by'.os, k.by'.tape.trans h.by'.tape, k.by'.output.trans h.by'.output, Nat.le_trans h.by'.size k.by'.size, fun i hi hne => ?_⟩, ?_⟩
  · refine (k.by'.block i (Nat.lt_of_lt_of_le hi h.by'.size) ?_).trans (h.by'.block i hi hne)
    rcases h.at' with e | ⟨j, e, hj⟩
    · rw [e]; exact hne
    · rw [e]; intro hh; injection hh with hh; omega
  · rcases k.at' with e | ⟨j, e, hj⟩
    · rw [e]; exact h.at'
    · exact .inr ⟨j, e, Nat.le_trans h.by'.size hj⟩
theorem Grew.alloc {w w' : World} {v v' : Value} (h : Grew w w' v v') (o : Obj) : Grew w (w'.alloc o) v v' := by
  refine ⟨⟨h.by'.os, h.by'.tape, h.by'.output, by have := h.by'.size; simp; omega, fun i hi hne => ?_⟩, h.at'⟩
  rw [Below.heap_alloc _ _ _ (Nat.lt_of_lt_of_le hi h.by'.size)]
  exact h.by'.block i hi hne
theorem Grew.drew {w w' : World} {v v' : Value} (h : Grew w w' v v') : Grew w w'.drew v v' := ⟨⟨h.by'.os, h.by'.tape, h.by'.output, h.by'.size, h.by'.block⟩, h.at'⟩
theorem Grew.size {w w' : World} {v v' : Value} (h : Grew w w' v v') : w.heap.size ≤ w'.heap.size := h.by'.size
/-- behind an append -/
theorem Grew.app {w w' w2 : World} {v v' v2 : Value} (h : Grew w w' v v') (hg : w'.grownBy w2 v'.ownBlock) (hat : v2.ownBlock = v'.ownBlock ∨ v2.ownBlock = some w'.heap.size) : Grew w w2 v v2 :=
  h.trans ⟨hg, hat.imp_right fun e => ⟨_, e, Nat.le_refl _⟩⟩
theorem Grew.below {w w' : World} {v v' : Value} (h : Grew w w' v v') {B : Nat} (hB : B ≤ w.heap.size) (hv : ∀ k, v.ownBlock = some k → B ≤ k) : Below B w w' :=
  ⟨h.by'.os, h.by'.tape, h.by'.output, h.by'.size, fun i hi => h.by'.block i (by omega) (fun e => by have := hv i e.symm; omega)⟩
/-- what both Numbers answer -/
def numS (n w : Int) : ByteArray := if 1 ≤ w ∧ w ≤ 4 ∧ 0 ≤ n ∧ n < ((256 ^ w.toNat : Nat) : Int) then strOf (dig w.toNat n.toNat) else ⟨#[]⟩
def numE (n w : Int) : Int := if 1 ≤ w ∧ w ≤ 4 then if 0 ≤ n ∧ n < ((256 ^ w.toNat : Nat) : Int) then 0 else 31 else 30
theorem num_width {n w : Int} (h : ¬ (1 ≤ w ∧ w ≤ 4)) : Ending.returned (.tuple #[.string ⟨#[]⟩, .int .i64 30]) = .returned (.tuple #[.string (numS n w), .int .i64 (numE n w)]) := by
  unfold numS numE; rw [if_neg (fun k => h ⟨k.1, k.2.1⟩), if_neg h]
theorem num_bad {n w : Int} (h : 1 ≤ w ∧ w ≤ 4) (hn : ¬ (0 ≤ n ∧ n < ((256 ^ w.toNat : Nat) : Int))) : Ending.returned (.tuple #[.string ⟨#[]⟩, .int .i64 31]) = .returned (.tuple #[.string (numS n w), .int .i64 (numE n w)]) := by
  unfold numS numE; rw [if_neg (fun k => hn k.2.2), if_pos h, if_neg hn]
theorem num_good {n w : Int} (h : 1 ≤ w ∧ w ≤ 4) (hn : 0 ≤ n ∧ n < ((256 ^ w.toNat : Nat) : Int)) : Ending.returned (.tuple #[.string (strOf (dig w.toNat n.toNat)), .int .i64 0]) = .returned (.tuple #[.string (numS n w), .int .i64 (numE n w)]) := by
  unfold numS numE; rw [if_pos ⟨h.1, h.2, hn.1, hn.2⟩, if_pos h, if_pos hn]
/-- what both ReadNumbers answer -/
def rdV (s : ByteArray) (at' w : Int) : Int := if 1 ≤ w ∧ w ≤ 4 ∧ 0 ≤ at' ∧ at' + w ≤ s.size then (val ((s.data.toList.drop at'.toNat).take w.toNat) : Int) else 0
def rdE (s : ByteArray) (at' w : Int) : Int := if 1 ≤ w ∧ w ≤ 4 then if 0 ≤ at' ∧ at' + w ≤ s.size then 0 else 1 else 30
theorem rd_width {s : ByteArray} {a w : Int} (h : ¬ (1 ≤ w ∧ w ≤ 4)) : Ending.returned (.tuple #[.int .i64 0, .int .i64 30]) = .returned (.tuple #[.int .i64 (rdV s a w), .int .i64 (rdE s a w)]) := by
  unfold rdV rdE; rw [if_neg (fun k => h ⟨k.1, k.2.1⟩), if_neg h]
theorem rd_bad {s : ByteArray} {a w : Int} (h : 1 ≤ w ∧ w ≤ 4) (hn : ¬ (0 ≤ a ∧ a + w ≤ s.size)) : Ending.returned (.tuple #[.int .i64 0, .int .i64 1]) = .returned (.tuple #[.int .i64 (rdV s a w), .int .i64 (rdE s a w)]) := by
  unfold rdV rdE; rw [if_neg (fun k => hn k.2.2), if_pos h, if_neg hn]
theorem rd_good {s : ByteArray} {a w : Int} (h : 1 ≤ w ∧ w ≤ 4) (hn : 0 ≤ a ∧ a + w ≤ s.size) : Ending.returned (.tuple #[.int .i64 (val ((s.data.toList.drop a.toNat).take w.toNat) : Int), .int .i64 0]) = .returned (.tuple #[.int .i64 (rdV s a w), .int .i64 (rdE s a w)]) := by
  unfold rdV rdE; rw [if_pos ⟨h.1, h.2, hn.1, hn.2⟩, if_pos h, if_pos hn]
theorem i64_in {x : Int} (h0 : -9223372036854775808 ≤ x) (h1 : x < 9223372036854775808) : IntKind.i64.wrap x = x := by
  simp [IntKind.wrap, IntKind.signed, IntKind.bits]; omega
end Go.Proofs.YtgdjfocnaapooaaDoor
namespace Go.Proofs.YtgdjfocnaapooaaDoor
open Go.RowKit
/-- a message: its kind, its numbers by the fields' order, its texts -/
structure MM where
  kind : Int
  n0 : Int
  n1 : Int
  n2 : Int
  n3 : Int
  n4 : Int
  n5 : Int
  n6 : Int
  n7 : Int
  key : ByteArray
  val : ByteArray
def MM.num (m : MM) : Nat → Int
  | 0 => m.n0 | 1 => m.n1 | 2 => m.n2 | 3 => m.n3 | 4 => m.n4 | 5 => m.n5 | 6 => m.n6 | 7 => m.n7 | _ => 0
def MM.txt (m : MM) : Nat → ByteArray
  | 8 => m.key | 9 => m.val | _ => ⟨#[]⟩
/-- a kind's fields -/
def bodyF : Nat → List Nat
  | 3 => [3, 5] | 4 => [3, 5, 7] | 5 => [3, 4, 5] | 6 => [3, 4, 5, 6, 7] | 7 => [3, 4] | 8 => [3, 4, 5, 6, 7] | 10 => [3, 4, 5, 6, 7] | 11 => [8] | 12 => [5, 7, 8, 9] | 13 => [4, 5] | 14 => [4, 5, 6, 7, 9] | 15 => [4, 5, 6] | 16 => [4, 5, 6, 7, 8, 9] | _ => []
def headF : List Nat := [0, 1, 2]
def widF : Nat → Nat
  | 0 => 2 | 1 => 2 | 7 => 2 | 8 => 2 | 9 => 4 | _ => 8
def mostF : Nat → Nat
  | 0 => 65535 | 1 => 65535 | 7 => 65535 | 8 => 255 | 9 => 4096 | _ => 9007199254740992
def isTx : Nat → Bool
  | 8 => true | 9 => true | _ => false
theorem bodyF_lt : ∀ k, k ≤ 16 → ∀ i ∈ bodyF k, 3 ≤ i ∧ i < 10 := by decide +kernel
theorem bodyF_len : ∀ k, k ≤ 16 → (bodyF k).length ≤ 6 := by decide +kernel
/-- a field's most, by kind -/
def mostK (k i : Nat) : Nat := if i < 3 ∨ i ∈ bodyF k then mostF i else 0
def fitAt (m : MM) (k i : Nat) : Bool := decide (0 ≤ m.num i) && decide (m.num i ≤ (mostK k i : Int)) && decide ((m.txt i).size ≤ mostK k i)
def fitM (m : MM) : Bool := (List.range 10).all (fitAt m m.kind.toNat)
/-- a field as it is written -/
def fldL (m : MM) (i : Nat) : List UInt8 := if isTx i then dig (widF i) (m.txt i).size ++ (m.txt i).data.toList else dig (widF i) (m.num i).toNat
def bodyL (m : MM) : List UInt8 := (bodyF m.kind.toNat).flatMap (fldL m)
def headL5 (m : MM) : List UInt8 := [71, 82, 1, UInt8.ofNat m.kind.toNat] ++ headF.flatMap (fldL m)
def textL (m : MM) : List UInt8 := headL5 m ++ dig 4 (bodyL m).length ++ bodyL m
theorem dig_at (w n k : Nat) (h : k < w) : (dig w n).take (k + 1) = (dig w n).take k ++ [UInt8.ofNat (n / 256 ^ (w - 1 - k))] := by
  induction w generalizing k with
  | zero => omega
  | succ w ih =>
    rw [dig_cons]
    cases k with
    | zero => simp
    | succ k =>
      rw [List.take_succ_cons, List.take_succ_cons, ih k (by omega), List.cons_append, show w + 1 - 1 - (k + 1) = w - 1 - k by omega]
/-- the cells of a message's fields -/
def cellsV (m : MM) : Array Value := #[.int .i64 m.n0, .string ⟨#[]⟩, .int .i64 m.n1, .string ⟨#[]⟩, .int .i64 m.n2, .string ⟨#[]⟩, .int .i64 m.n3, .string ⟨#[]⟩, .int .i64 m.n4, .string ⟨#[]⟩, .int .i64 m.n5, .string ⟨#[]⟩, .int .i64 m.n6, .string ⟨#[]⟩, .int .i64 m.n7, .string ⟨#[]⟩, .int .i64 0, .string m.key, .int .i64 0, .string m.val]
/-- the message's own cells -/
def msgV (m : MM) : Array Value := #[.int .i64 m.kind, .int .i64 m.n0, .int .i64 m.n1, .int .i64 m.n2, .int .i64 m.n3, .int .i64 m.n4, .int .i64 m.n5, .int .i64 m.n6, .int .i64 m.n7, .string m.key, .string m.val]
/-- the tables in memory -/
structure TabF (w : World) : Prop where
  heads : ∀ j, j < 3 → w.cell? ⟨1, j, none⟩ = some (.int .i64 (j : Int))
  wid : ∀ i, i < 10 → w.cell? ⟨2, i * 3, none⟩ = some (.int .i64 (widF i : Int))
  most : ∀ i, i < 10 → w.cell? ⟨2, i * 3 + 1, none⟩ = some (.int .i64 (mostF i : Int))
  isT : ∀ i, i < 10 → w.cell? ⟨2, i * 3 + 2, none⟩ = some (.bool (isTx i))
  body : ∀ k, 1 ≤ k → k ≤ 16 → ∃ (ao : Option Addr) (b o cap : Nat), w.cell? ⟨3, k, none⟩ = some (.slice ao (bodyF k).length cap) ∧ (0 < (bodyF k).length → ao = some ⟨b, o, none⟩) ∧ ∀ j (h : j < (bodyF k).length), w.cell? ⟨b, o + j, none⟩ = some (.int .i64 ((bodyF k)[j] : Int))
theorem TabF.below {w w' : World} (h : TabF w) (hb : Below w.heap.size w w') : TabF w' := by
  have lt : ∀ {a : Addr} {v : Value}, w.cell? a = some v → a.block < w.heap.size := fun hc => World.block_lt_of_cell? w _ hc
  refine ⟨fun j hj => (hb.cell (lt (h.heads j hj))).trans (h.heads j hj), fun i hi => (hb.cell (lt (h.wid i hi))).trans (h.wid i hi), fun i hi => (hb.cell (lt (h.most i hi))).trans (h.most i hi), fun i hi => (hb.cell (lt (h.isT i hi))).trans (h.isT i hi), fun k h1 h2 => ?_⟩
  obtain ⟨ao, b, o, cap, c1, c2, c3⟩ := h.body k h1 h2
  exact ⟨ao, b, o, cap, (hb.cell (lt c1)).trans c1, c2, fun j hj => (hb.cell (lt (c3 j hj))).trans (c3 j hj)⟩
end Go.Proofs.YtgdjfocnaapooaaDoor
namespace Go.Proofs.YtgdjfocnaapooaaDoor
open Go.RowKit
theorem info5 : (Tryd.prog.info? 5).map (fun i => (i.zero, i.size, i.bytes)) = some (some (.int .u8 0), 1, 1) := by kernel_rfl
theorem info_partsF {P : Program} {t : TypeId} {z : Option Value} {n b : Nat} (h : (P.info? t).map (fun i => (i.zero, i.size, i.bytes)) = some (z, n, b)) : ∃ i, P.info? t = some i ∧ i.zero = z ∧ i.size = n ∧ i.bytes = b := by
  obtain ⟨i, hi, hx⟩ := Option.map_eq_some_iff.1 h
  simp only [Prod.mk.injEq] at hx
  exact ⟨i, hi, hx.1, hx.2.1, hx.2.2⟩
theorem one_of {x : Value} (hx : x.oneCell' = true) : ∀ u ∈ [x], u.oneCell' = true := by
  intro u hu; simp at hu; subst hu; exact hx
theorem u8_nat (n : Nat) : IntKind.u8.wrap (n : Int) = (((UInt8.ofNat n).toNat : Nat) : Int) := by
  rw [UInt8.toNat_ofNat']
  simp [IntKind.wrap, IntKind.signed, IntKind.bits]
set_option maxHeartbeats 1000000 in
set_option maxRecDepth 100000 in
/-- Put -/
theorem put_any (n wd : Nat) (hw : wd ≤ 8) (base : Nat) (v : Value) (m : Nat) (xs : List Value) (w : World) (hown0 : w.ownsRow base 5 1 v m xs) (hm : m ≤ 70368744177664) (hbase : base ≤ w.heap.size) :
    Calls Tryd.prog 50 #[v, .int .i64 (n : Int), .int .i64 (wd : Int)] w fun e w' => ∃ v', e = .returned v' ∧ w'.ownsRow base 5 1 v' (m + wd) (xs ++ (dig wd n).map ub) ∧ Grew w w' v v' := by
  obtain ⟨i0, hi, hz0, hz1, hz2⟩ := info_partsF info5
  go_enter Tryd.func50, Tryd.ntmps50
  go_wp2
  go_loopw [0, 7] (fun v1 i wr => ∃ k : Nat, k ≤ wd ∧ i = .int .i64 ((wd : Int) - 1 - (k : Int)) ∧
      wr.ownsRow base 5 1 v1 (m + k) (xs ++ ((dig wd n).take k).map ub) ∧ Grew w wr v v1)
    (fun _ i _ => (intOf i + 1).toNat)
  case atStart => exact ⟨0, by omega, by go_num, by simpa using hown0, Grew.refl _ _⟩
  case round =>
    obtain ⟨k, hk, rfl, hown, hg⟩ := hrel
    have hsz := hg.size
    by_cases h4 : k = wd
    · subst h4
      have hneg : ¬ (0 : Int) ≤ (k : Int) - 1 - (k : Int) := by omega
      go_wp2
      go_ret
      refine ⟨_, rfl, ?_, hg⟩
      rwa [List.take_of_length_le (by rw [dig_len]; omega)] at hown
    · obtain ⟨b, hb⟩ : ∃ b, b = UInt8.ofNat (n / 256 ^ (wd - 1 - k)) := ⟨_, rfl⟩
      have e1 : (dig wd n).take (k + 1) = (dig wd n).take k ++ [b] := by rw [hb]; exact dig_at wd n k (by omega)
      have hq : ((n : Int) / 2 ^ (8 * ((wd : Int) - 1 - (k : Int))).toNat) = ((n / 256 ^ (wd - 1 - k) : Nat) : Int) := by
        rw [show (8 * ((wd : Int) - 1 - (k : Int))).toNat = 8 * (wd - 1 - k) by omega, show (256 : Nat) ^ (wd - 1 - k) = 2 ^ (8 * (wd - 1 - k)) by rw [Nat.pow_mul]]
        norm_cast
      have hpos : (0 : Int) ≤ (wd : Int) - 1 - (k : Int) := by omega
      have hb8 := hb ▸ u8_nat (n / 256 ^ (wd - 1 - k))
      generalize n / 256 ^ (wd - 1 - k) = N at *
      have HB := hide hb
      clear hb
      have E1 := hide e1
      clear e1
      go_wp2_with (at_builtin; refine wpList_append_own_at _ rfl _ _ 89 rfl base 5 i0 (.int .u8 0) 1 1 Tryd.underlying89 hi hz0 hz1 hz2 rfl (by decide) _ _ _ rfl (hown.alloc _) ⟨wr.heap.size, 0, none⟩ 1 1 [ub b] rfl rfl (cell_one_new _ _ _) (one_of rfl) (by unfold maxLen; omega) (by omega) (by simp; omega) ?_; intro v1 w2 hown2 hgrow2 hnil2 hat2)
      go_roundw
      case rel =>
        refine ⟨k + 1, by omega, by go_num, ?_, ?_⟩
        · rw [E1.out, List.map_append, ← List.append_assoc]
          exact hown2
        · exact (hg.alloc _).app hgrow2 hat2
      case measure => simp [intOf]; omega
end Go.Proofs.YtgdjfocnaapooaaDoor
namespace Go.Proofs.YtgdjfocnaapooaaDoor
open Go.RowKit
theorem strCells_ub (s : ByteArray) : Lib.strCells s = s.data.toList.map ub := rfl
/-- append of a text to a row that is there: it lies where it lay, or anew -/
theorem run_appStr (w : World) (base g n cap : Nat) (xs : List Value) (ty : TypeId) (s : ByteArray) (hown : w.ownsRow base 5 1 (.slice (some ⟨g, 0, none⟩) n cap) n xs) (hbytes : n + s.size ≤ 140737488355328) (hbase : base ≤ w.heap.size) :
    ∃ v' w', (Builtin.append_ #[89, 9] ty #[.slice (some ⟨g, 0, none⟩) n cap, .string s]).run Tryd.prog w = .ok v' w' ∧ w'.ownsRow base 5 1 v' (n + s.size) (xs ++ s.data.toList.map ub) ∧ Grew w w' (.slice (some ⟨g, 0, none⟩) n cap) v' := by
  obtain ⟨i0, hi, hz0, hz1, hz2⟩ := info_partsF info5
  obtain ⟨v', w', hr, ho, hg, hn⟩ := Lib.run_append_own_string (P := Tryd.prog) w base 89 9 ty 5 i0 Tryd.underlying89 Tryd.underlying9 hi hz0 hz1 hz2 _ n xs hown s (by unfold maxLen; omega) hbytes hbase
  refine ⟨v', w', hr, ho, hg, ?_⟩
  rcases hown.2 with ⟨h0, _⟩ | ⟨g', cap', cur, h0, hbg, hgg, hnc, hcm, hcs, htake⟩
  · cases h0
  · injection h0 with h1 h2 h3
    injection h1 with h1
    injection h1 with h1
    subst h1; subst h3
    by_cases hroom : n + s.size ≤ cap
    · have h2 := Lib.run_append_room_string (P := Tryd.prog) w 89 9 ty 5 i0 Tryd.underlying89 Tryd.underlying9 hi hz1 g n cap cur hgg s hroom (by omega)
      rw [hr] at h2
      injection h2 with h2 h3
      exact .inl (by rw [h2]; rfl)
    · have h2 := Lib.run_append_grow_string (P := Tryd.prog) w 89 9 ty 5 i0 (.int .u8 0) Tryd.underlying89 Tryd.underlying9 hi hz0 ⟨g, 0, none⟩ n cap xs (by rw [hz1]; exact hown.1) (hown.cells (g := g) rfl) s (by omega) (by omega) (by rw [hz2]; exact growslice_fits (by omega) (by omega))
      rw [hr] at h2
      injection h2 with h2 h3
      exact .inr ⟨w.heap.size, by rw [h2]; rfl, Nat.le_refl _⟩
theorem run_appAny (w : World) (base n : Nat) (v : Value) (xs : List Value) (ty : TypeId) (s : ByteArray) (hown : w.ownsRow base 5 1 v n xs) (hbytes : n + s.size ≤ 140737488355328) (hbase : base ≤ w.heap.size) :
    ∃ v' w', (Builtin.append_ #[89, 9] ty #[v, .string s]).run Tryd.prog w = .ok v' w' ∧ w'.ownsRow base 5 1 v' (n + s.size) (xs ++ s.data.toList.map ub) ∧ Grew w w' v v' := by
  rcases hown.2 with ⟨rfl, rfl⟩ | ⟨g, cap, cur, rfl, _⟩
  · obtain ⟨i0, hi, hz0, hz1, hz2⟩ := info_partsF info5
    obtain ⟨v', w', hr, ho, hg, hn⟩ := Lib.run_append_own_string (P := Tryd.prog) w base 89 9 ty 5 i0 Tryd.underlying89 Tryd.underlying9 hi hz0 hz1 hz2 _ 0 xs hown s (by unfold maxLen; omega) hbytes hbase
    refine ⟨v', w', hr, ho, hg, ?_⟩
    by_cases hs : s.size = 0
    · rw [hn.2 ⟨rfl, hs⟩]; exact .inl rfl
    · have h2 := run_append_nil_string (P := Tryd.prog) w 89 9 ty 5 i0 (.int .u8 0) Tryd.underlying89 Tryd.underlying9 hi hz0 s (by omega) (by omega) (by rw [hz2]; omega)
      rw [hr] at h2
      injection h2 with h2 h3
      exact .inr ⟨w.heap.size, by rw [h2]; rfl, Nat.le_refl _⟩
  · exact run_appStr w base g n cap xs ty s hown hbytes hbase
theorem wpList_appAny {w : World} {ops : Array Oper} {rest : List Oper} {o : Oper} {a : Act} {Q : Exit → Act → World → Prop} (hgd : o.guard = none) (sl x : Operand)
    (ho : o.op = .call { callee := .builtin .append, args := #[sl, x], argTypes := #[89, 9] })
    (base n : Nat) (v : Value) (xs : List Value) (s : ByteArray) (hs : a.eval sl = v) (hx : a.eval x = .string s) (hown : w.ownsRow base 5 1 v n xs) (hbytes : n + s.size ≤ 140737488355328) (hbase : base ≤ w.heap.size)
    (h : ∀ v' w', w'.ownsRow base 5 1 v' (n + s.size) (xs ++ s.data.toList.map ub) → Grew w w' v v' → wpList Tryd.prog ops Q rest (a.put o.dst v') w') : wpList Tryd.prog ops Q (o :: rest) a w := by
  refine wpList_plain hgd fun K hK => ?_
  obtain ⟨v', w', hr, h2, h3⟩ := run_appAny w base n v xs o.type s hown hbytes hbase
  unfold Oper.wp execOp
  simp only [ho, resolve, invoke, builtin, Sem.run_bind, Sem.run_pure, Result.andThen_ok, List.map_toArray, List.map_cons, List.map_nil, hs, hx, hr]
  exact hK _ _ (h v' w' h2 h3)
theorem wp_appAny {w : World} {o : Oper} {a : Act} {K : Act → World → Prop} {Q : Exit → Act → World → Prop} (sl x : Operand)
    (ho : o.op = .call { callee := .builtin .append, args := #[sl, x], argTypes := #[89, 9] })
    (base n : Nat) (v : Value) (xs : List Value) (s : ByteArray) (hs : a.eval sl = v) (hx : a.eval x = .string s) (hown : w.ownsRow base 5 1 v n xs) (hbytes : n + s.size ≤ 140737488355328) (hbase : base ≤ w.heap.size)
    (h : ∀ v' w', w'.ownsRow base 5 1 v' (n + s.size) (xs ++ s.data.toList.map ub) → Grew w w' v v' → K (a.put o.dst v') w') : Oper.wp Tryd.prog o a w K Q := by
  obtain ⟨v', w', hr, h2, h3⟩ := run_appAny w base n v xs o.type s hown hbytes hbase
  unfold Oper.wp execOp
  simp only [ho, resolve, invoke, builtin, Sem.run_bind, Sem.run_pure, Result.andThen_ok, List.map_toArray, List.map_cons, List.map_nil, hs, hx, hr]
  exact h v' w' h2 h3
/-- two rows apart -/
def Apart (a b : Value) : Prop := a.ownBlock = none ∨ a.ownBlock ≠ b.ownBlock
theorem Apart.symm {a b : Value} (h : Apart a b) : Apart b a := by
  unfold Apart at *
  rcases h with h | h
  · cases hb : b.ownBlock with
    | none => exact .inl rfl
    | some x => right; rw [h]; simp
  · exact .inr (Ne.symm h)
theorem Apart.grew {w w' : World} {a b b' : Value} {base e s n : Nat} {x : List Value} (h : Apart a b) (ho : w.ownsRow base e s a n x) (hg : Grew w w' b b') : Apart a b' ∧ w'.ownsRow base e s a n x := by
  refine ⟨?_, ho.kept hg.by' h⟩
  unfold Apart at *
  rcases h with h | h
  · exact .inl h
  · right
    rcases hg.at' with e | ⟨k, e, hk⟩
    · rw [e]; exact h
    · rw [e]
      intro he
      have := (ho.lt k he).2
      omega
theorem own_shape {w : World} {base e s n : Nat} {v : Value} {x : List Value} (h : w.ownsRow base e s v n x) : ∃ a c, v = .slice a n c := by
  rcases h.2 with ⟨rfl, rfl⟩ | ⟨g, cap, cur, rfl, _⟩
  · exact ⟨_, _, rfl⟩
  · exact ⟨_, _, rfl⟩
end Go.Proofs.YtgdjfocnaapooaaDoor
