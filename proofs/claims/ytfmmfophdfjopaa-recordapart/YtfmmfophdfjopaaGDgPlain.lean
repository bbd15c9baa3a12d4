import Derived.WalkKit
import Derived.WalkSpells
import Derived.WalkLawsBesides
import Derived.Laws.BytesArg
import Derived.Laws.IdiomStrings
import Derived.Maps.AppendAt
import Derived.Laws.OwnMore
import Derived.Test.YtfmmfophdfjopaaProg
import Derived.Deep.RegionHeld3
import Derived.Deep.AppendLies
import Derived.Lib.Bytealg
namespace Go.Proofs.Ytfmmfophdfjopaa
open Go.RowKit
theorem hide {p : Prop} (h : p) : Hid p := h
theorem unh {p : Prop} (h : Hid p) : p := h
theorem ret_bool {a b : Bool} (h : a = b) : Ending.returned (.bool a) = .returned (.bool b) := by rw [h]
theorem ret_str {a b : ByteArray} (h : a = b) : Ending.returned (.string a) = .returned (.string b) := by rw [h]
theorem u8_in {x : Int} (h0 : 0 ≤ x) (h1 : x < 256) : IntKind.u8.wrap x = x := by
  simp [IntKind.wrap, IntKind.signed, IntKind.bits]; omega
theorem u32_in {x : Int} (h0 : 0 ≤ x) (h1 : x < 4294967296) : IntKind.u32.wrap x = x := by
  simp [IntKind.wrap, IntKind.signed, IntKind.bits]; omega
theorem u32_add (x y : Nat) : IntKind.u32.wrap ((x : Int) + (y : Int)) = (((x + y) % 4294967296 : Nat) : Int) := by
  simp [IntKind.wrap, IntKind.signed, IntKind.bits]
/-- a byte as a cell -/
def ub (b : UInt8) : Value := .int .u8 (b.toNat : Int)
def strOf (l : List UInt8) : ByteArray := ⟨l.toArray⟩
theorem strOf_data (l : List UInt8) : (strOf l).data.toList = l := rfl
theorem strOf_size (l : List UInt8) : (strOf l).size = l.length := by simp [strOf, ByteArray.size]
theorem strOf_toList (s : ByteArray) : strOf s.data.toList = s := by cases s; rfl
theorem strOf_inj {a b : List UInt8} (h : strOf a = strOf b) : a = b := by
  have := congrArg (fun x => x.data.toList) h
  simpa [strOf] using this
theorem size_data (s : ByteArray) : s.data.toList.length = s.size := by simp
theorem eq_beq (a b : ByteArray) : (a.toList == b.toList) = decide (a = b) := by
  rw [ByteArray.toList_eq, ByteArray.toList_eq, Bool.eq_iff_iff]
  simp
  constructor
  · intro h
    cases a; cases b; simp at h; rw [h]
  · intro h; rw [h]
theorem oneCells (l : List UInt8) : ∀ u ∈ l.map ub, u.oneCell' = true := by
  intro u hu
  obtain ⟨x, _, rfl⟩ := List.mem_map.1 hu
  rfl
theorem cell_two_new (w : World) (x y : Value) (t : TypeId) : ∀ j u, [x, y][j]? = some u → (w.alloc (.cells #[x, y] t)).cell? ((⟨w.heap.size, 0, none⟩ : Addr).add j) = some u := by
  intro j u hj
  match j, hj with
  | 0, hj => simp at hj; subst hj; simp [Addr.add]
  | 1, hj => simp at hj; subst hj; simp [Addr.add]
  | (j + 2), hj => simp at hj
/-- string(out), out a row of the call's own -/
theorem own_conv {P : Program} {w : World} {base e src dst n : Nat} {v : Value} {l : List UInt8} (h : w.ownsRow base e 1 v n (l.map ub)) (hn : n = l.length) (hs : P.underlying src = some (.slice e)) (he : P.underlying e = some (.int .u8)) (hd : P.underlying dst = some .string) :
    (convert src dst v).run P w = .ok (.string (strOf l)) w := by
  subst hn
  rcases h.2 with ⟨hv, h0⟩ | ⟨g, cap, cur, hv, hg, hblk, hn, hc, hcs, htake⟩
  · subst hv
    rw [run_convert_bytes_nil w src e hs he 0 0 dst hd]
    have : l = [] := by
      have := h.1
      cases l with
      | nil => rfl
      | cons a t => simp at h0
    subst this
    rfl
  · subst hv
    exact run_convert_bytes_back w src dst e ⟨g, 0, none⟩ cap l hs he hd (fun j hj => by
      have := h.cellAt j (by simpa using hj)
      have e0 : (⟨g, 0, none⟩ : Addr).add j = ⟨g, j, none⟩ := by simp [Addr.add]; omega
      rw [e0]
      simpa [hj, ub] using this)
/-- the digit of a half byte -/
def hd (n : Nat) : UInt8 := if n < 10 then UInt8.ofNat (48 + n) else UInt8.ofNat (87 + n)
def hexL : List UInt8 → List UInt8
  | [] => []
  | b :: r => hd (b.toNat / 16) :: hd (b.toNat % 16) :: hexL r
theorem hexL_len (l : List UInt8) : (hexL l).length = 2 * l.length := by
  induction l with
  | nil => rfl
  | cons b r ih => simp only [hexL, List.length_cons, ih]; omega
theorem hexL_append (a b : List UInt8) : hexL (a ++ b) = hexL a ++ hexL b := by
  induction a with
  | nil => rfl
  | cons x r ih => simp [hexL, ih]
theorem hexL_snoc (l : List UInt8) (k : Nat) (h : k < l.length) : hexL (l.take (k + 1)) = hexL (l.take k) ++ [hd (l[k].toNat / 16), hd (l[k].toNat % 16)] := by
  rw [List.take_succ_eq_append_getElem h, hexL_append]
  rfl
def digs : ByteArray := ⟨#[48, 49, 50, 51, 52, 53, 54, 55, 56, 57, 97, 98, 99, 100, 101, 102]⟩
theorem digs_get (n : Nat) (h : n < 16) (h' : n < digs.size) : digs[n] = hd n := by
  have : ∀ m : Fin 16, digs[m.1]'(by simp [digs, ByteArray.size]) = hd m.1 := by decide
  exact this ⟨n, h⟩
/-- the half byte that a digit stands for -/
def unhd (c : UInt8) : Option Nat := if 48 ≤ c.toNat ∧ c.toNat ≤ 57 then some (c.toNat - 48) else if 97 ≤ c.toNat ∧ c.toNat ≤ 102 then some (c.toNat - 87) else none
def unhexL : List UInt8 → Option (List UInt8)
  | [] => some []
  | [_] => none
  | a :: b :: r => match unhd a, unhd b, unhexL r with
    | some x, some y, some t => some (UInt8.ofNat (16 * x + y) :: t)
    | _, _, _ => none
theorem unhd_lt {c : UInt8} {x : Nat} (h : unhd c = some x) : x < 16 := by
  unfold unhd at h
  split at h
  · simp at h; omega
  · split at h
    · simp at h; omega
    · simp at h
theorem unhd_hd : ∀ n : Fin 16, unhd (hd n.1) = some n.1 := by decide
theorem unhex_hex (l : List UInt8) : unhexL (hexL l) = some l := by
  induction l with
  | nil => rfl
  | cons b r ih =>
    have hb := b.toNat_lt
    have h1 : unhd (hd (b.toNat / 16)) = some (b.toNat / 16) := unhd_hd ⟨b.toNat / 16, by omega⟩
    have h2 : unhd (hd (b.toNat % 16)) = some (b.toNat % 16) := unhd_hd ⟨b.toNat % 16, by omega⟩
    simp only [hexL, unhexL, h1, h2, ih]
    congr 2
    rw [← UInt8.toNat_inj, UInt8.toNat_ofNat']
    omega
theorem unhex_odd (l : List UInt8) (h : l.length % 2 = 1) : unhexL l = none := by
  induction h' : l.length using Nat.strongRecOn generalizing l with
  | ind n ih =>
    match l with
    | [] => simp at h
    | [_] => rfl
    | a :: b :: r =>
      simp only [List.length_cons] at h h'
      have := ih r.length (by omega) r (by omega) rfl
      simp only [unhexL, this]
      cases unhd a <;> cases unhd b <;> rfl
/-- the value that both Unhex answer -/
def unS (l : List UInt8) : ByteArray := strOf ((unhexL l).getD [])
def unE (l : List UInt8) : Int := if (unhexL l).isSome then 0 else 20
/-- the first k pairs read well -/
theorem unhexL_append (a b : List UInt8) (h : a.length % 2 = 0) : unhexL (a ++ b) = (unhexL a).bind fun x => (unhexL b).map (x ++ ·) := by
  induction h' : a.length using Nat.strongRecOn generalizing a with
  | ind n ih =>
    match a with
    | [] => simp [unhexL]
    | [_] => simp at h
    | x :: y :: r =>
      simp only [List.length_cons] at h h'
      have := ih r.length (by omega) r (by omega) rfl
      simp only [List.cons_append, unhexL, this]
      cases unhd x <;> cases unhd y <;> cases unhexL r <;> cases unhexL b <;> simp
theorem take_two (l : List UInt8) (k : Nat) (h : 2 * k + 1 < l.length) : l.take (2 * (k + 1)) = l.take (2 * k) ++ [l[2 * k], l[2 * k + 1]] := by
  rw [show 2 * (k + 1) = 2 * k + 1 + 1 by omega, List.take_succ_eq_append_getElem h, List.take_succ_eq_append_getElem (show 2 * k < l.length by omega), List.append_assoc]
  rfl
theorem unhex_step (l : List UInt8) (k : Nat) (h : 2 * k + 1 < l.length) {t : List UInt8} {x y : Nat} (ht : unhexL (l.take (2 * k)) = some t) (hx : unhd l[2 * k] = some x) (hy : unhd l[2 * k + 1] = some y) :
    unhexL (l.take (2 * (k + 1))) = some (t ++ [UInt8.ofNat (16 * x + y)]) := by
  rw [take_two l k h, unhexL_append _ _ (by rw [List.length_take]; omega), ht]
  simp [unhexL, hx, hy]
theorem unhex_bad (l : List UInt8) (k : Nat) (h : 2 * k + 1 < l.length) (hb : unhd l[2 * k] = none ∨ unhd l[2 * k + 1] = none) : unhexL l = none := by
  have e : l = l.take (2 * k) ++ (l[2 * k] :: l[2 * k + 1] :: l.drop (2 * k + 2)) := by
    conv => lhs; rw [← List.take_append_drop (2 * k) l, List.drop_eq_getElem_cons (by omega), List.drop_eq_getElem_cons (by omega)]
  rw [e, unhexL_append _ _ (by rw [List.length_take]; omega)]
  have : unhexL (l[2 * k] :: l[2 * k + 1] :: l.drop (2 * k + 2)) = none := by
    unfold unhexL
    rcases hb with hb | hb <;> rw [hb]
    cases unhd l[2 * k] <;> rfl
  rw [this]
  cases unhexL (l.take (2 * k)) <;> rfl
theorem unhex_len {l t : List UInt8} (h : unhexL l = some t) : l.length = 2 * t.length := by
  induction h' : l.length using Nat.strongRecOn generalizing l t with
  | ind n ih =>
    match l with
    | [] => simp [unhexL] at h; subst h; simp at h'; simp; omega
    | [_] => simp [unhexL] at h
    | a :: b :: r =>
      simp only [List.length_cons] at h'
      unfold unhexL at h
      split at h
      · rename_i x y t' h1 h2 h3
        have := ih r.length (by omega) h3 rfl
        simp at h
        subst h
        simp only [List.length_cons]
        omega
      · simp at h
theorem hd_unhd {c : UInt8} {x : Nat} (h : unhd c = some x) : hd x = c := by
  unfold unhd at h
  rw [← UInt8.toNat_inj]
  have := c.toNat_lt
  split at h
  · simp at h; subst h
    unfold hd; rw [if_pos (by omega), UInt8.toNat_ofNat']; omega
  · split at h
    · simp at h; subst h
      unfold hd; rw [if_neg (by omega), UInt8.toNat_ofNat']; omega
    · simp at h
theorem hex_unhex {l t : List UInt8} (h : unhexL l = some t) : hexL t = l := by
  induction h' : l.length using Nat.strongRecOn generalizing l t with
  | ind n ih =>
    match l with
    | [] => simp [unhexL] at h; subst h; rfl
    | [_] => simp [unhexL] at h
    | a :: b :: r =>
      simp only [List.length_cons] at h'
      unfold unhexL at h
      split at h
      · rename_i x y t' h1 h2 h3
        have h4 := ih r.length (by omega) h3 rfl
        have hx := unhd_lt h1
        have hy := unhd_lt h2
        replace h := Option.some.inj h
        subst h
        have e : (UInt8.ofNat (16 * x + y)).toNat = 16 * x + y := by rw [UInt8.toNat_ofNat']; omega
        simp only [hexL, e, h4]
        rw [show (16 * x + y) / 16 = x by omega, show (16 * x + y) % 16 = y by omega, hd_unhd h1, hd_unhd h2]
      · simp at h
end Go.Proofs.Ytfmmfophdfjopaa
namespace Go.Proofs.Ytfmmfophdfjopaa
open Go.RowKit
/-- the bytes of a number, the highest first -/
def dig : Nat → Nat → List UInt8
  | 0, _ => []
  | w + 1, n => dig w (n / 256) ++ [UInt8.ofNat n]
theorem dig_len (w n : Nat) : (dig w n).length = w := by
  induction w generalizing n with
  | zero => rfl
  | succ w ih => simp [dig, ih]
/-- the number of bytes -/
def val (l : List UInt8) : Nat := l.foldl (fun a b => a * 256 + b.toNat) 0
theorem val_nil : val [] = 0 := rfl
theorem val_snoc (l : List UInt8) (b : UInt8) : val (l ++ [b]) = val l * 256 + b.toNat := by simp [val]
theorem val_dig (w n : Nat) (h : n < 256 ^ w) : val (dig w n) = n := by
  induction w generalizing n with
  | zero => simp at h; subst h; rfl
  | succ w ih =>
    rw [dig, val_snoc, ih (n / 256) (by rw [Nat.pow_succ] at h; omega), UInt8.toNat_ofNat']
    omega
theorem val_lt (l : List UInt8) : val l < 256 ^ l.length := by
  induction h : l.length generalizing l with
  | zero => rw [List.length_eq_zero_iff] at h; subst h; simp [val]
  | succ n ih =>
    rcases List.eq_nil_or_concat l with rfl | ⟨r, b, rfl⟩
    · simp at h
    · rw [List.concat_eq_append, val_snoc]
      have := ih r (by simpa using h)
      have := b.toNat_lt
      rw [Nat.pow_succ]; omega
theorem dig_val (l : List UInt8) : dig l.length (val l) = l := by
  induction h : l.length generalizing l with
  | zero => rw [List.length_eq_zero_iff] at h; subst h; rfl
  | succ n ih =>
    rcases List.eq_nil_or_concat l with rfl | ⟨r, b, rfl⟩
    · simp at h
    · rw [List.concat_eq_append] at h ⊢
      have hb := b.toNat_lt
      rw [dig, val_snoc, show (val r * 256 + b.toNat) / 256 = val r by omega, ih r (by simpa using h)]
      congr 2
      rw [← UInt8.toNat_inj, UInt8.toNat_ofNat']; omega
theorem val_take (l : List UInt8) (k : Nat) (h : k < l.length) : val (l.take (k + 1)) = val (l.take k) * 256 + l[k].toNat := by
  rw [List.take_succ_eq_append_getElem h, val_snoc]
theorem dig_drop (k w n : Nat) : (dig (k + w) n).drop k = dig w n := by
  induction w generalizing n with
  | zero => simp [dig_len, dig]
  | succ w ih =>
    rw [show k + (w + 1) = k + w + 1 by omega, dig, List.drop_append_of_le_length (by rw [dig_len]; omega), ih, dig]
theorem dig_four (n : Nat) : dig 4 n = [UInt8.ofNat (n / 16777216), UInt8.ofNat (n / 65536), UInt8.ofNat (n / 256), UInt8.ofNat n] := by
  simp [dig, Nat.div_div_eq_div_mul]
theorem dig_two (n : Nat) : dig 2 n = [UInt8.ofNat (n / 256), UInt8.ofNat n] := by
  simp [dig]
theorem dig_cons (w n : Nat) : dig (w + 1) n = UInt8.ofNat (n / 256 ^ w) :: dig w n := by
  induction w generalizing n with
  | zero => simp [dig]
  | succ w ih =>
    rw [dig, ih, dig, Nat.div_div_eq_div_mul, Nat.pow_succ, Nat.mul_comm 256]
    rfl
/-- a row that grew: the old blocks but the row's own are as they were; the row is where it was, or new -/
structure Grew (w w' : World) (v v' : Value) : Prop where
  by' : w.grownBy w' v.ownBlock
  at' : v'.ownBlock = v.ownBlock ∨ ∃ k, v'.ownBlock = some k ∧ w.heap.size ≤ k
theorem grown_refl (w : World) (r : Option Nat) : w.grownBy w r := ⟨rfl, rfl, rfl, Nat.le_refl _, fun _ _ _ => rfl⟩
theorem Grew.refl (w : World) (v : Value) : Grew w w v v := ⟨grown_refl _ _, .inl rfl⟩
theorem Grew.trans {w w1 w2 : World} {v v1 v2 : Value} (h : Grew w w1 v v1) (k : Grew w1 w2 v1 v2) : Grew w w2 v v2 := by
  refine ⟨⟨k.by'.os.trans h.by'.os, k.by'.tape.trans h.by'.tape, k.by'.output.trans h.by'.output, Nat.le_trans h.by'.size k.by'.size, fun i hi hne => ?_⟩, ?_⟩
  · refine (k.by'.block i (Nat.lt_of_lt_of_le hi h.by'.size) ?_).trans (h.by'.block i hi hne)
    rcases h.at' with e | ⟨j, e, hj⟩
    · rw [e]; exact hne
    · rw [e]; intro hh; injection hh with hh; omega
  · rcases k.at' with e | ⟨j, e, hj⟩
    · rw [e]; exact h.at'
    · exact .inr ⟨j, e, Nat.le_trans h.by'.size hj⟩
theorem Grew.alloc {w w' : World} {v v' : Value} (h : Grew w w' v v') (o : Obj) : Grew w (w'.alloc o) v v' := by
  refine ⟨⟨h.by'.os, h.by'.tape, h.by'.output, by have := h.by'.size; simp; omega, fun i hi hne => ?_⟩, h.at'⟩
  rw [Below.heap_alloc _ _ _ (Nat.lt_of_lt_of_le hi h.by'.size)]
  exact h.by'.block i hi hne
theorem Grew.drew {w w' : World} {v v' : Value} (h : Grew w w' v v') : Grew w w'.drew v v' := ⟨⟨h.by'.os, h.by'.tape, h.by'.output, h.by'.size, h.by'.block⟩, h.at'⟩
theorem Grew.size {w w' : World} {v v' : Value} (h : Grew w w' v v') : w.heap.size ≤ w'.heap.size := h.by'.size
/-- behind an append -/
theorem Grew.app {w w' w2 : World} {v v' v2 : Value} (h : Grew w w' v v') (hg : w'.grownBy w2 v'.ownBlock) (hat : v2.ownBlock = v'.ownBlock ∨ v2.ownBlock = some w'.heap.size) : Grew w w2 v v2 :=
  h.trans ⟨hg, hat.imp_right fun e => ⟨_, e, Nat.le_refl _⟩⟩
theorem Grew.below {w w' : World} {v v' : Value} (h : Grew w w' v v') {B : Nat} (hB : B ≤ w.heap.size) (hv : ∀ k, v.ownBlock = some k → B ≤ k) : Below B w w' :=
  ⟨h.by'.os, h.by'.tape, h.by'.output, h.by'.size, fun i hi => h.by'.block i (by omega) (fun e => by have := hv i e.symm; omega)⟩
/-- what both Numbers answer -/
def numS (n w : Int) : ByteArray := if 1 ≤ w ∧ w ≤ 4 ∧ 0 ≤ n ∧ n < ((256 ^ w.toNat : Nat) : Int) then strOf (dig w.toNat n.toNat) else ⟨#[]⟩
def numE (n w : Int) : Int := if 1 ≤ w ∧ w ≤ 4 then if 0 ≤ n ∧ n < ((256 ^ w.toNat : Nat) : Int) then 0 else 31 else 30
theorem num_width {n w : Int} (h : ¬ (1 ≤ w ∧ w ≤ 4)) : Ending.returned (.tuple #[.string ⟨#[]⟩, .int .i64 30]) = .returned (.tuple #[.string (numS n w), .int .i64 (numE n w)]) := by
  unfold numS numE; rw [if_neg (fun k => h ⟨k.1, k.2.1⟩), if_neg h]
theorem num_bad {n w : Int} (h : 1 ≤ w ∧ w ≤ 4) (hn : ¬ (0 ≤ n ∧ n < ((256 ^ w.toNat : Nat) : Int))) : Ending.returned (.tuple #[.string ⟨#[]⟩, .int .i64 31]) = .returned (.tuple #[.string (numS n w), .int .i64 (numE n w)]) := by
  unfold numS numE; rw [if_neg (fun k => hn k.2.2), if_pos h, if_neg hn]
theorem num_good {n w : Int} (h : 1 ≤ w ∧ w ≤ 4) (hn : 0 ≤ n ∧ n < ((256 ^ w.toNat : Nat) : Int)) : Ending.returned (.tuple #[.string (strOf (dig w.toNat n.toNat)), .int .i64 0]) = .returned (.tuple #[.string (numS n w), .int .i64 (numE n w)]) := by
  unfold numS numE; rw [if_pos ⟨h.1, h.2, hn.1, hn.2⟩, if_pos h, if_pos hn]
/-- what both ReadNumbers answer -/
def rdV (s : ByteArray) (at' w : Int) : Int := if 1 ≤ w ∧ w ≤ 4 ∧ 0 ≤ at' ∧ at' + w ≤ s.size then (val ((s.data.toList.drop at'.toNat).take w.toNat) : Int) else 0
def rdE (s : ByteArray) (at' w : Int) : Int := if 1 ≤ w ∧ w ≤ 4 then if 0 ≤ at' ∧ at' + w ≤ s.size then 0 else 1 else 30
theorem rd_width {s : ByteArray} {a w : Int} (h : ¬ (1 ≤ w ∧ w ≤ 4)) : Ending.returned (.tuple #[.int .i64 0, .int .i64 30]) = .returned (.tuple #[.int .i64 (rdV s a w), .int .i64 (rdE s a w)]) := by
  unfold rdV rdE; rw [if_neg (fun k => h ⟨k.1, k.2.1⟩), if_neg h]
theorem rd_bad {s : ByteArray} {a w : Int} (h : 1 ≤ w ∧ w ≤ 4) (hn : ¬ (0 ≤ a ∧ a + w ≤ s.size)) : Ending.returned (.tuple #[.int .i64 0, .int .i64 1]) = .returned (.tuple #[.int .i64 (rdV s a w), .int .i64 (rdE s a w)]) := by
  unfold rdV rdE; rw [if_neg (fun k => hn k.2.2), if_pos h, if_neg hn]
theorem rd_good {s : ByteArray} {a w : Int} (h : 1 ≤ w ∧ w ≤ 4) (hn : 0 ≤ a ∧ a + w ≤ s.size) : Ending.returned (.tuple #[.int .i64 (val ((s.data.toList.drop a.toNat).take w.toNat) : Int), .int .i64 0]) = .returned (.tuple #[.int .i64 (rdV s a w), .int .i64 (rdE s a w)]) := by
  unfold rdV rdE; rw [if_pos ⟨h.1, h.2, hn.1, hn.2⟩, if_pos h, if_pos hn]
theorem i64_in {x : Int} (h0 : -9223372036854775808 ≤ x) (h1 : x < 9223372036854775808) : IntKind.i64.wrap x = x := by
  simp [IntKind.wrap, IntKind.signed, IntKind.bits]; omega
end Go.Proofs.Ytfmmfophdfjopaa
namespace Go.Proofs.Ytfmmfophdfjopaa
open Go.RowKit
theorem info5 : (Try.prog.info? 5).map (fun i => (i.zero, i.size, i.bytes)) = some (some (.int .u8 0), 1, 1) := by kernel_rfl
theorem ix_str (w : World) (s : ByteArray) (k : Nat) (hk : k < s.size) : (Instr.index 9 (.string s) (.int .i64 (k : Int))).run Try.prog w = .ok (.int .u8 (s[k].toNat : Int)) w := by
  rw [run_index_string w 9 s .i64 k Try.underlying9, dif_pos ⟨by omega, by omega⟩]
  simp
theorem one_of {x : Value} (hx : x.oneCell' = true) : ∀ u ∈ [x], u.oneCell' = true := by
  intro u hu; simp at hu; subst hu; exact hx
set_option maxRecDepth 100000 in
theorem len64_32 (w : World) : Calls Try.prog 32 #[.int .u64 4294967295] w fun e w' => e = .returned (.int .i64 32) ∧ w = w' := by
  go_enter Try.func32, Try.ntmps32
  go_wp2
  go_ret
  exact ⟨by kernel_rfl, rfl⟩
theorem u8_nat (n : Nat) : IntKind.u8.wrap (n : Int) = (((UInt8.ofNat n).toNat : Nat) : Int) := by
  rw [UInt8.toNat_ofNat']
  simp [IntKind.wrap, IntKind.signed, IntKind.bits]
set_option maxHeartbeats 1000000 in
set_option maxRecDepth 100000 in
/-- put of four bytes -/
theorem put32_any (n : Nat) (base : Nat) (v : Value) (m : Nat) (xs : List Value) (w : World) (hown0 : w.ownsRow base 5 1 v m xs) (hm : m ≤ 70368744177664) (hbase : base ≤ w.heap.size) :
    Calls Try.prog 22 #[v, .int .u32 (n : Int)] w fun e w' => ∃ v', e = .returned v' ∧ w'.ownsRow base 5 1 v' (m + 4) (xs ++ (dig 4 n).map ub) ∧ Grew w w' v v' := by
  obtain ⟨i0, hi, hz0, hz1, hz2⟩ := info_parts info5
  go_enter Try.func22, Try.ntmps22
  go_wp2_with (go_at_call 32; refine Calls.mono (len64_32 _) ?_; rintro e w' ⟨rfl, rfl⟩)
  go_loopw [0, 5] (fun v1 i wr => ∃ k : Nat, k ≤ 4 ∧ i = .int .i64 (24 - 8 * (k : Int)) ∧
      wr.ownsRow base 5 1 v1 (m + k) (xs ++ ((dig 4 n).take k).map ub) ∧ Grew w wr v v1)
    (fun _ i _ => (intOf i + 8).toNat)
  case atStart => exact ⟨0, by omega, rfl, by simpa using hown0, Grew.refl _ _⟩
  case round =>
    obtain ⟨k, hk, rfl, hown, hg⟩ := hrel
    have hsz := hg.size
    by_cases h4 : k = 4
    · subst h4
      go_wp2
      go_ret
      refine ⟨_, rfl, ?_, hg⟩
      rwa [List.take_of_length_le (by rw [dig_len]; omega)] at hown
    · obtain ⟨b, hb⟩ : ∃ b, b = UInt8.ofNat (n / 2 ^ (24 - 8 * k)) := ⟨_, rfl⟩
      have e1 : (dig 4 n).take (k + 1) = (dig 4 n).take k ++ [b] := by
        rw [dig_four, hb]
        have : k = 0 ∨ k = 1 ∨ k = 2 ∨ k = 3 := by omega
        rcases this with rfl | rfl | rfl | rfl <;> simp
      have hq : ((n : Int) / 2 ^ (24 - 8 * (k : Int)).toNat) = ((n / 2 ^ (24 - 8 * k) : Nat) : Int) := by
        rw [show (24 - 8 * (k : Int)).toNat = 24 - 8 * k by omega]; norm_cast
      have hk3 : (k : Int) ≤ 3 := by omega
      have hb8 := hb ▸ u8_nat (n / 2 ^ (24 - 8 * k))
      generalize n / 2 ^ (24 - 8 * k) = N at *
      have HB := hide hb
      clear hb
      have E1 := hide e1
      clear e1
      go_wp2_with (at_builtin; refine wpList_append_own_at _ rfl _ _ 42 rfl base 5 i0 (.int .u8 0) 1 1 Try.underlying42 hi hz0 hz1 hz2 rfl (by decide) _ _ _ rfl (hown.alloc _) ⟨wr.heap.size, 0, none⟩ 1 1 [ub b] rfl rfl (cell_one_new _ _ _) (one_of rfl) (by unfold maxLen; omega) (by omega) (by simp; omega) ?_; intro v1 w2 hown2 hgrow2 hnil2 hat2)
      go_roundw
      case rel =>
        refine ⟨k + 1, by omega, by go_num, ?_, ?_⟩
        · rw [E1.out, List.map_append, ← List.append_assoc]
          exact hown2
        · exact (hg.alloc _).app hgrow2 hat2
      case measure => simp [intOf]; omega
end Go.Proofs.Ytfmmfophdfjopaa
namespace Go.Proofs.Ytfmmfophdfjopaa
open Go.RowKit
theorem bor32 (a b : Nat) (ha : a < 16777216) (hb : b < 256) : bits .or .u32 ((a : Int) * 256) (b : Int) = ((a * 256 + b : Nat) : Int) := by
  have hx : 2 ^ 8 * a + b = 2 ^ 8 * a ||| b := Nat.two_pow_add_eq_or_of_lt (by omega) a
  have o : ∀ c : Nat, c < 4294967296 → (BitVec.ofInt 32 (c : Int)).toNat = c := fun c hc => by
    rw [BitVec.ofInt_natCast, BitVec.toNat_ofNat]; exact Nat.mod_eq_of_lt (by omega)
  show IntKind.u32.wrap ((BitVec.ofInt 32 ((a : Int) * 256) ||| BitVec.ofInt 32 (b : Int)).toNat : Int) = _
  rw [show (a : Int) * 256 = ((256 * a : Nat) : Int) by omega, BitVec.toNat_or, o (256 * a) (by omega), o b (by omega)]
  rw [show 256 * a = 2 ^ 8 * a by omega, ← hx, u32_in (by omega) (by omega)]
  omega
set_option maxHeartbeats 1000000 in
set_option maxRecDepth 100000 in
/-- take of at most four bytes -/
theorem take32_any (s : ByteArray) (hs : s.size ≤ 4) (w : World) :
    Calls Try.prog 42 #[.string s] w fun e w' => e = .returned (.int .u32 (val s.data.toList : Int)) ∧ w = w' := by
  go_enter Try.func42, Try.ntmps42
  go_wp2
  go_loopw [3, 7] (fun n i wr => ∃ k : Nat, k ≤ s.size ∧ i = .int .i64 (k : Int) ∧ n = .int .u32 (val (s.data.toList.take k) : Int) ∧ w = wr)
    (fun _ i _ => s.size - (intOf i).toNat)
  case atStart => exact ⟨0, by omega, rfl, rfl, rfl⟩
  case round =>
    obtain ⟨k, hk, rfl, rfl, rfl⟩ := hrel
    by_cases hlt : k < s.size
    · have hx : ∀ w', (Instr.index 9 (.string s) (.int .i64 (k : Int))).run Try.prog w' = .ok (.int .u8 (s[k].toNat : Int)) w' := fun w' => ix_str w' s k hlt
      have hX : s[k].toNat < 256 := s[k].toNat_lt
      have hv := val_take s.data.toList k (by rw [size_data]; exact hlt)
      rw [show s.data.toList[k]'(by rw [size_data]; exact hlt) = s[k] from rfl] at hv
      have hN : val (s.data.toList.take k) < 16777216 := by
        refine Nat.lt_of_lt_of_le (val_lt _) ?_
        rw [List.length_take, size_data, Nat.min_eq_left hk]
        exact Nat.pow_le_pow_right (by omega) (show k ≤ 3 by omega)
      generalize s[k].toNat = X at *
      generalize val (s.data.toList.take k) = N at *
      have HV := hide hv
      clear hv
      have hor := bor32 N X hN hX
      go_wp2
      go_roundw
      case rel => exact ⟨k + 1, by omega, by go_num, by rw [HV.out]; norm_cast, trivial⟩
      case measure => simp [intOf]; omega
    · obtain rfl : k = s.size := by omega
      go_wp2
      go_ret
      rw [List.take_of_length_le (by simp)]
      exact ⟨rfl, rfl⟩
theorem slice_str (s : ByteArray) (a b : Nat) : (s.extract a b).data.toList = (s.data.toList.drop a).take (b - a) := by
  rw [ByteArray.data_extract, Array.toList_extract, List.extract_eq_take_drop]
theorem row4 {w : World} {base : Nat} {v : Value} {l : List UInt8} (h : w.ownsRow base 5 1 v (0 + 4) ([] ++ l.map ub)) :
    ∃ g cap, v = .slice (some ⟨g, 0, none⟩) 4 cap ∧ 4 ≤ cap ∧ ∀ j (hj : j < l.length), w.cell? ⟨g, j, none⟩ = some (ub l[j]) := by
  rcases h.2 with ⟨_, h0⟩ | ⟨g, cap, cur, rfl, hg, hblk, hn, hc, hcs, htake⟩
  · omega
  · refine ⟨g, cap, rfl, by omega, fun j hj => ?_⟩
    have := h.cellAt j (by have := h.1; simp at this; omega)
    rw [this]; simp [hj]
theorem convTail {w : World} (g k : Nat) (l : List UInt8) (hl : l.length = 4) (h : ∀ j (hj : j < l.length), w.cell? ⟨g, j, none⟩ = some (ub l[j])) (c : Nat) (n : Nat) (hn : n = 4 - k) :
    (convert 42 9 (.slice (some ⟨g, k, none⟩) n c)).run Try.prog w = .ok (.string (strOf (l.drop k))) w := by
  have e : n = (l.drop k).length := by simp [hl, hn]
  rw [e]
  exact run_convert_bytes_back w 42 9 5 ⟨g, k, none⟩ c (l.drop k) Try.underlying42 Try.underlying5 Try.underlying9 (fun j hj => by
    have := h (k + j) (by simp at hj; omega)
    have e0 : (⟨g, k, none⟩ : Addr).add j = ⟨g, k + j, none⟩ := by simp [Addr.add]
    rw [e0, this]
    simp [ub])
end Go.Proofs.Ytfmmfophdfjopaa
namespace Go.Proofs.Ytfmmfophdfjopaa
open Go.RowKit
abbrev KV := ByteArray × ByteArray
def pairL (p : KV) : List UInt8 := dig 2 p.1.size ++ dig 4 p.2.size ++ p.1.data.toList ++ p.2.data.toList
def bodyL (ps : List KV) : List UInt8 := ps.flatMap pairL
def recL (ps : List KV) : List UInt8 := dig 2 ps.length ++ bodyL ps
def sizeL : List KV → Nat
  | [] => 0
  | p :: r => 6 + p.1.size + p.2.size + sizeL r
theorem pairL_len (p : KV) : (pairL p).length = 6 + p.1.size + p.2.size := by simp [pairL, dig_len]; omega
theorem bodyL_len (ps : List KV) : (bodyL ps).length = sizeL ps := by
  induction ps with
  | nil => rfl
  | cons p r ih => simp only [bodyL, List.flatMap_cons, List.length_append, pairL_len, sizeL]; unfold bodyL at ih; rw [ih]
theorem recL_len (ps : List KV) : (recL ps).length = 2 + sizeL ps := by simp only [recL, List.length_append, dig_len, bodyL_len]
theorem sizeL_append (a b : List KV) : sizeL (a ++ b) = sizeL a + sizeL b := by
  induction a with
  | nil => simp [sizeL]
  | cons p r ih => simp only [List.cons_append, sizeL, ih]; omega
theorem sizeL_take (ps : List KV) (i : Nat) (h : i < ps.length) : sizeL (ps.take (i + 1)) = sizeL (ps.take i) + (6 + ps[i].1.size + ps[i].2.size) := by
  rw [List.take_succ_eq_append_getElem h, sizeL_append]; rfl
theorem bodyL_take (ps : List KV) (i : Nat) (h : i < ps.length) : bodyL (ps.take (i + 1)) = bodyL (ps.take i) ++ pairL ps[i] := by
  unfold bodyL; rw [List.take_succ_eq_append_getElem h, List.flatMap_append, List.flatMap_singleton]
def lessS (a b : ByteArray) : Bool := Op.bytesLess a.toList b.toList
/-- what is wrong with a pair behind another -/
def badQ (q : Option ByteArray) (k : ByteArray) : Int := match q with
  | none => 0
  | some q => if k = q then 35 else if lessS k q then 37 else 0
def badP (q : Option ByteArray) (p : KV) : Int :=
  if p.1.size = 0 ∨ 255 < p.1.size then 32 else if 4096 < p.2.size then 33 else badQ q p.1
def badAt (ps : List KV) (i : Nat) : Int := badP (if i = 0 then none else some (ps.getD (i - 1) default).1) (ps.getD i default)
def wrongL (ps : List KV) : Int := if ps.length = 0 ∨ 512 < ps.length then 36 else (((List.range ps.length).map (badAt ps)).find? (fun e => decide (e ≠ 0))).getD 0
def errL (ps : List KV) : Int := if wrongL ps = 0 then if 65536 < 2 + sizeL ps then 3 else 0 else wrongL ps
def wSize (ps : List KV) : Int := if errL ps = 0 then ((2 + sizeL ps : Nat) : Int) else 0
theorem wSize_bad {ps : List KV} (h : errL ps ≠ 0) : wSize ps = 0 := by unfold wSize; rw [if_neg h]
theorem wSize_ok {ps : List KV} (h : errL ps = 0) : wSize ps = ((2 + sizeL ps : Nat) : Int) := by unfold wSize; rw [if_pos h]
theorem find_first {f : Nat → Int} {n i : Nat} (hi : i < n) (h0 : ∀ j, j < i → f j = 0) (hne : f i ≠ 0) : ((List.range n).map f).find? (fun e => decide (e ≠ 0)) = some (f i) := by
  induction n with
  | zero => omega
  | succ n ih =>
    rw [List.range_succ, List.map_append, List.find?_append]
    by_cases hn : i < n
    · rw [ih hn]; rfl
    · obtain rfl : i = n := by omega
      have : ((List.range i).map f).find? (fun e => decide (e ≠ 0)) = none := by
        rw [List.find?_eq_none]
        intro x hx
        obtain ⟨j, hj, rfl⟩ := List.mem_map.1 hx
        simp [h0 j (List.mem_range.1 hj)]
      rw [this]
      simp [hne]
theorem find_none {f : Nat → Int} {n : Nat} (h0 : ∀ j, j < n → f j = 0) : ((List.range n).map f).find? (fun e => decide (e ≠ 0)) = none := by
  rw [List.find?_eq_none]
  intro x hx
  obtain ⟨j, hj, rfl⟩ := List.mem_map.1 hx
  simp [h0 j (List.mem_range.1 hj)]
theorem wrong_group {ps : List KV} (h : ps.length = 0 ∨ 512 < ps.length) : wrongL ps = 36 ∧ errL ps = 36 := by
  have e : wrongL ps = 36 := by unfold wrongL; rw [if_pos h]
  refine ⟨e, ?_⟩
  unfold errL; rw [e, if_neg (by omega)]
theorem wrong_at {ps : List KV} {i : Nat} (h : ¬ (ps.length = 0 ∨ 512 < ps.length)) (hi : i < ps.length) (h0 : ∀ j, j < i → badAt ps j = 0) (hne : badAt ps i ≠ 0) : wrongL ps = badAt ps i ∧ errL ps = badAt ps i := by
  have e : wrongL ps = badAt ps i := by unfold wrongL; rw [if_neg h, find_first hi h0 hne]; rfl
  refine ⟨e, ?_⟩
  unfold errL; rw [e, if_neg hne]
theorem wrong_none {ps : List KV} (h : ¬ (ps.length = 0 ∨ 512 < ps.length)) (h0 : ∀ j, j < ps.length → badAt ps j = 0) : wrongL ps = 0 ∧ errL ps = if 65536 < 2 + sizeL ps then 3 else 0 := by
  have e : wrongL ps = 0 := by unfold wrongL; rw [if_neg h, find_none h0]; rfl
  refine ⟨e, ?_⟩
  unfold errL; rw [e, if_pos rfl]
theorem bad_small {q : Option ByteArray} {p : KV} (h : badP q p = 0) : 1 ≤ p.1.size ∧ p.1.size ≤ 255 ∧ p.2.size ≤ 4096 := by
  unfold badP at h
  by_cases h1 : p.1.size = 0 ∨ 255 < p.1.size
  · rw [if_pos h1] at h; omega
  · by_cases h2 : 4096 < p.2.size
    · rw [if_neg h1, if_pos h2] at h; omega
    · omega
theorem badAt_small {ps : List KV} {i : Nat} (hi : i < ps.length) (h : badAt ps i = 0) : 1 ≤ ps[i].1.size ∧ ps[i].1.size ≤ 255 ∧ ps[i].2.size ≤ 4096 := by
  have := bad_small h
  rwa [List.getD_eq_getElem?_getD, List.getElem?_eq_getElem hi] at this
theorem size_small {ps : List KV} {i : Nat} (hi : i ≤ ps.length) (h : ∀ j, j < i → badAt ps j = 0) : sizeL (ps.take i) ≤ i * 4357 := by
  induction i with
  | zero => simp [sizeL]
  | succ i ih =>
    rw [sizeL_take ps i (by omega)]
    have := ih (by omega) (fun j hj => h j (by omega))
    have := badAt_small (by omega) (h i (by omega))
    omega
theorem cmp3 (a b : List UInt8) : Lib.compareBytes a b = if a = b then 0 else if Op.bytesLess a b then -1 else 1 := by
  induction a generalizing b with
  | nil => cases b <;> simp [Lib.compareBytes, Op.bytesLess]
  | cons x a ih =>
    cases b with
    | nil => simp [Lib.compareBytes, Op.bytesLess]
    | cons y b =>
      unfold Lib.compareBytes Op.bytesLess
      by_cases hxy : x = y
      · subst hxy
        have hlt : ¬ x < x := UInt8.lt_irrefl x
        rw [if_neg hlt, if_neg hlt, ih]
        by_cases h : a = b
        · subst h; simp
        · simp [h]
      · by_cases hlt : x < y
        · simp [hlt, hxy]
        · have : y < x := UInt8.lt_of_le_of_ne (UInt8.not_lt.1 hlt) (Ne.symm hxy)
          simp [hlt, this, hxy]
theorem cmpS (a b : ByteArray) : Lib.compareBytes a.data.toList b.data.toList = if a = b then 0 else if lessS a b then -1 else 1 := by
  rw [cmp3]
  unfold lessS
  rw [ByteArray.toList_eq, ByteArray.toList_eq]
  congr 1
  rw [eq_iff_iff]
  constructor
  · intro h; exact ByteArray.ext (Array.toList_inj.1 h)
  · intro h; rw [h]
end Go.Proofs.Ytfmmfophdfjopaa
