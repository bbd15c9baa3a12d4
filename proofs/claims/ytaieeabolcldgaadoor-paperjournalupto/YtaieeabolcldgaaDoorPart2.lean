import Derived.Shelf.Strings.BuilderK
import Derived.Test.YtaieeabolcldgaaDoorProg
import Derived.WalkKit
import Derived.WalkSpells
import Derived.WalkLawsBesides
import Derived.Laws.BytesArg
import Derived.Laws.IdiomStrings
import Derived.Maps.AppendAt
import Derived.Laws.OwnMore
namespace Go.Proofs
open Go.Shelf Go.RowKit
def Tryd.bs_ren : Go.Shelf.Ren := ⟨fun | 166 => 49 | 240 => 75 | 276 => 86 | n => n, fun | 9 => 9 | 3 => 3 | 4 => 4 | 20 => 20 | 0 => 0 | 72 => 82 | 70 => 80 | 37 => 59 | 75 => 84 | 80 => 88 | 164 => 113 | 5 => 5 | n => n, fun | n => n⟩
theorem Tryd.bs_lays : Go.Proofs.Lays.n166 Tryd.prog Tryd.bs_ren := {
  mixed := by kernel_rfl
  f166 := Tryd.func49.trans (congrArg some (by kernel_rfl))
  f240 := Tryd.func75.trans (congrArg some (by kernel_rfl))
  f276 := Tryd.func86.trans (congrArg some (by kernel_rfl))
  t0 := Tryd.underlying0
  a0 := Tryd.isAgg0
  z0 := Tryd.sizeOf0
  v0 := Tryd.zeroValue0
  t3 := Tryd.underlying3
  a3 := Tryd.isAgg3
  z3 := Tryd.sizeOf3
  v3 := Tryd.zeroValue3
  t4 := Tryd.underlying4
  a4 := Tryd.isAgg4
  z4 := Tryd.sizeOf4
  v4 := Tryd.zeroValue4
  t9 := Tryd.underlying9
  a9 := Tryd.isAgg9
  z9 := Tryd.sizeOf9
  v9 := Tryd.zeroValue9
  t20 := Tryd.underlying20
  a20 := Tryd.isAgg20
  z20 := Tryd.sizeOf20
  v20 := Tryd.zeroValue20
  t37 := Tryd.underlying59
  a37 := Tryd.isAgg59
  z37 := Tryd.sizeOf59
  v37 := Tryd.zeroValue59
  t70 := Tryd.underlying80
  a70 := Tryd.isAgg80
  z70 := Tryd.sizeOf80
  v70 := Tryd.zeroValue80
  t72 := Tryd.underlying82
  a72 := Tryd.isAgg82
  z72 := Tryd.sizeOf82
  v72 := Tryd.zeroValue82
  t75 := Tryd.underlying84
  a75 := Tryd.isAgg84
  z75 := Tryd.sizeOf84
  v75 := Tryd.zeroValue84
  t164 := Tryd.underlying113
  a164 := Tryd.isAgg113
  z164 := Tryd.sizeOf113
  v164 := Tryd.zeroValue113 }
theorem Tryd.bs_extra : Builder.Extra Tryd.prog Tryd.bs_ren := {
  sizeBuilder := by kernel_rfl
  liesBuilder := by kernel_rfl
  t5 := Tryd.underlying5
  a5 := Tryd.isAgg5
  z5 := Tryd.sizeOf5
  v5 := Tryd.zeroValue5
  infoByte := by kernel_rfl
  cellsByte := by kernel_rfl
  sizeByte := by kernel_rfl
  neB5 := by decide }
theorem Tryd.bWriteString (B b : Nat) (bs : List Value) (s : ByteArray) (w : World) (h : Lib.IsBuilderF 82 5 B b bs w) (hlen : bs.length + s.size ≤ 140737488355328) (hBw : B ≤ w.heap.size) :
    Calls Tryd.prog 49 #[.pointer (some ⟨b, 0, none⟩), .string s] w fun e w' => e = .returned (.tuple #[.int .i64 s.size, .nilIface]) ∧ (Lib.BuilderAtF 82 5 B b (.pointer (some ⟨b, 0, none⟩)) (bs ++ Lib.strCells s) w' ∧ Below B w w' ∧ Lib.OthersKept 5 (some b) w w') := Any.Builder_WriteString_k Tryd.bs_lays Tryd.bs_extra B b bs s w h hlen hBw
end Go.Proofs
namespace Go.Proofs.YtaieeabolcldgaaDoor
open Go.RowKit
theorem hide {p : Prop} (h : p) : Hid p := h
theorem unh {p : Prop} (h : Hid p) : p := h
theorem ret_bool {a b : Bool} (h : a = b) : Ending.returned (.bool a) = .returned (.bool b) := by rw [h]
theorem ret_str {a b : ByteArray} (h : a = b) : Ending.returned (.string a) = .returned (.string b) := by rw [h]
theorem u8_in {x : Int} (h0 : 0 ≤ x) (h1 : x < 256) : IntKind.u8.wrap x = x := by
  simp [IntKind.wrap, IntKind.signed, IntKind.bits]; omega
theorem u32_in {x : Int} (h0 : 0 ≤ x) (h1 : x < 4294967296) : IntKind.u32.wrap x = x := by
  simp [IntKind.wrap, IntKind.signed, IntKind.bits]; omega
theorem u32_add (x y : Nat) : IntKind.u32.wrap ((x : Int) + (y : Int)) = (((x + y) % 4294967296 : Nat) : Int) := by
  simp [IntKind.wrap, IntKind.signed, IntKind.bits]
/-- a byte as a cell -/
def ub (b : UInt8) : Value := .int .u8 (b.toNat : Int)
def strOf (l : List UInt8) : ByteArray := ⟨l.toArray⟩
theorem strOf_data (l : List UInt8) : (strOf l).data.toList = l := rfl
theorem strOf_size (l : List UInt8) : (strOf l).size = l.length := by simp [strOf, ByteArray.size]
theorem strOf_toList (s : ByteArray) : strOf s.data.toList = s := by cases s; rfl
theorem strOf_inj {a b : List UInt8} (h : strOf a = strOf b) : a = b := by
  have := congrArg (fun x => x.data.toList) h
  simpa [strOf] using this
theorem size_data (s : ByteArray) : s.data.toList.length = s.size := by simp
theorem eq_beq (a b : ByteArray) : (a.toList == b.toList) = decide (a = b) := by
  rw [ByteArray.toList_eq, ByteArray.toList_eq, Bool.eq_iff_iff]
  simp
  constructor
  · intro h
    cases a; cases b; simp at h; rw [h]
  · intro h; rw [h]
theorem oneCells (l : List UInt8) : ∀ u ∈ l.map ub, u.oneCell' = true := by
  intro u hu
  obtain ⟨x, _, rfl⟩ := List.mem_map.1 hu
  rfl
theorem cell_two_new (w : World) (x y : Value) (t : TypeId) : ∀ j u, [x, y][j]? = some u → (w.alloc (.cells #[x, y] t)).cell? ((⟨w.heap.size, 0, none⟩ : Addr).add j) = some u := by
  intro j u hj
  match j, hj with
  | 0, hj => simp at hj; subst hj; simp [Addr.add]
  | 1, hj => simp at hj; subst hj; simp [Addr.add]
  | (j + 2), hj => simp at hj
/-- string(out), out a row of the call's own -/
theorem own_conv {P : Program} {w : World} {base e src dst n : Nat} {v : Value} {l : List UInt8} (h : w.ownsRow base e 1 v n (l.map ub)) (hn : n = l.length) (hs : P.underlying src = some (.slice e)) (he : P.underlying e = some (.int .u8)) (hd : P.underlying dst = some .string) :
    (convert src dst v).run P w = .ok (.string (strOf l)) w := by
  subst hn
  rcases h.2 with ⟨hv, h0⟩ | ⟨g, cap, cur, hv, hg, hblk, hn, hc, hcs, htake⟩
  · subst hv
    rw [run_convert_bytes_nil w src e hs he 0 0 dst hd]
    have : l = [] := by
      have := h.1
      cases l with
      | nil => rfl
      | cons a t => simp at h0
    subst this
    rfl
  · subst hv
    exact run_convert_bytes_back w src dst e ⟨g, 0, none⟩ cap l hs he hd (fun j hj => by
      have := h.cellAt j (by simpa using hj)
      have e0 : (⟨g, 0, none⟩ : Addr).add j = ⟨g, j, none⟩ := by simp [Addr.add]; omega
      rw [e0]
      simpa [hj, ub] using this)
/-- the digit of a half byte -/
def hd (n : Nat) : UInt8 := if n < 10 then UInt8.ofNat (48 + n) else UInt8.ofNat (87 + n)
def hexL : List UInt8 → List UInt8
  | [] => []
  | b :: r => hd (b.toNat / 16) :: hd (b.toNat % 16) :: hexL r
theorem hexL_len (l : List UInt8) : (hexL l).length = 2 * l.length := by
  induction l with
  | nil => rfl
  | cons b r ih => simp only [hexL, List.length_cons, ih]; omega
theorem hexL_append (a b : List UInt8) : hexL (a ++ b) = hexL a ++ hexL b := by
  induction a with
  | nil => rfl
  | cons x r ih => simp [hexL, ih]
theorem hexL_snoc (l : List UInt8) (k : Nat) (h : k < l.length) : hexL (l.take (k + 1)) = hexL (l.take k) ++ [hd (l[k].toNat / 16), hd (l[k].toNat % 16)] := by
  rw [List.take_succ_eq_append_getElem h, hexL_append]
  rfl
def digs : ByteArray := ⟨#[48, 49, 50, 51, 52, 53, 54, 55, 56, 57, 97, 98, 99, 100, 101, 102]⟩
theorem digs_get (n : Nat) (h : n < 16) (h' : n < digs.size) : digs[n] = hd n := by
  have : ∀ m : Fin 16, digs[m.1]'(by simp [digs, ByteArray.size]) = hd m.1 := by decide
  exact this ⟨n, h⟩
/-- the half byte that a digit stands for -/
def unhd (c : UInt8) : Option Nat := if 48 ≤ c.toNat ∧ c.toNat ≤ 57 then some (c.toNat - 48) else if 97 ≤ c.toNat ∧ c.toNat ≤ 102 then some (c.toNat - 87) else none
def unhexL : List UInt8 → Option (List UInt8)
  | [] => some []
  | [_] => none
  | a :: b :: r => match unhd a, unhd b, unhexL r with
    | some x, some y, some t => some (UInt8.ofNat (16 * x + y) :: t)
    | _, _, _ => none
theorem unhd_lt {c : UInt8} {x : Nat} (h : unhd c = some x) : x < 16 := by
  unfold unhd at h
  split at h
  · simp at h; omega
  · split at h
    · simp at h; omega
    · simp at h
theorem unhd_hd : ∀ n : Fin 16, unhd (hd n.1) = some n.1 := by decide
theorem unhex_hex (l : List UInt8) : unhexL (hexL l) = some l := by
  induction l with
  | nil => rfl
  | cons b r ih =>
    have hb := b.toNat_lt
    have h1 : unhd (hd (b.toNat / 16)) = some (b.toNat / 16) := unhd_hd ⟨b.toNat / 16, by omega⟩
    have h2 : unhd (hd (b.toNat % 16)) = some (b.toNat % 16) := unhd_hd ⟨b.toNat % 16, by omega⟩
    simp only [hexL, unhexL, h1, h2, ih]
    congr 2
    rw [← UInt8.toNat_inj, UInt8.toNat_ofNat']
    omega
theorem unhex_odd (l : List UInt8) (h : l.length % 2 = 1) : unhexL l = none := by
  induction h' : l.length using Nat.strongRecOn generalizing l with
  | ind n ih =>
    match l with
    | [] => simp at h
    | [_] => rfl
    | a :: b :: r =>
      simp only [List.length_cons] at h h'
      have := ih r.length (by omega) r (by omega) rfl
      simp only [unhexL, this]
      cases unhd a <;> cases unhd b <;> rfl
/-- the value that both Unhex answer -/
def unS (l : List UInt8) : ByteArray := strOf ((unhexL l).getD [])
def unE (l : List UInt8) : Int := if (unhexL l).isSome then 0 else 20
/-- the first k pairs read well -/
theorem unhexL_append (a b : List UInt8) (h : a.length % 2 = 0) : unhexL (a ++ b) = (unhexL a).bind fun x => (unhexL b).map (x ++ ·) := by
  induction h' : a.length using Nat.strongRecOn generalizing a with
  | ind n ih =>
    match a with
    | [] => simp [unhexL]
    | [_] => simp at h
    | x :: y :: r =>
      simp only [List.length_cons] at h h'
      have := ih r.length (by omega) r (by omega) rfl
      simp only [List.cons_append, unhexL, this]
      cases unhd x <;> cases unhd y <;> cases unhexL r <;> cases unhexL b <;> simp
theorem take_two (l : List UInt8) (k : Nat) (h : 2 * k + 1 < l.length) : l.take (2 * (k + 1)) = l.take (2 * k) ++ [l[2 * k], l[2 * k + 1]] := by
  rw [show 2 * (k + 1) = 2 * k + 1 + 1 by omega, List.take_succ_eq_append_getElem h, List.take_succ_eq_append_getElem (show 2 * k < l.length by omega), List.append_assoc]
  rfl
theorem unhex_step (l : List UInt8) (k : Nat) (h : 2 * k + 1 < l.length) {t : List UInt8} {x y : Nat} (ht : unhexL (l.take (2 * k)) = some t) (hx : unhd l[2 * k] = some x) (hy : unhd l[2 * k + 1] = some y) :
    unhexL (l.take (2 * (k + 1))) = some (t ++ [UInt8.ofNat (16 * x + y)]) := by
  rw [take_two l k h, unhexL_append _ _ (by rw [List.length_take]; omega), ht]
  simp [unhexL, hx, hy]
theorem unhex_bad (l : List UInt8) (k : Nat) (h : 2 * k + 1 < l.length) (hb : unhd l[2 * k] = none ∨ unhd l[2 * k + 1] = none) : unhexL l = none := by
  have e : l = l.take (2 * k) ++ (l[2 * k] :: l[2 * k + 1] :: l.drop (2 * k + 2)) := by
    conv => lhs; rw [← List.take_append_drop (2 * k) l, List.drop_eq_getElem_cons (by omega), List.drop_eq_getElem_cons (by omega)]
  rw [e, unhexL_append _ _ (by rw [List.length_take]; omega)]
  have : unhexL (l[2 * k] :: l[2 * k + 1] :: l.drop (2 * k + 2)) = none := by
    unfold unhexL
    rcases hb with hb | hb <;> rw [hb]
    cases unhd l[2 * k] <;> rfl
  rw [this]
  cases unhexL (l.take (2 * k)) <;> rfl
theorem unhex_len {l t : List UInt8} (h : unhexL l = some t) : l.length = 2 * t.length := by
  induction h' : l.length using Nat.strongRecOn generalizing l t with
  | ind n ih =>
    match l with
    | [] => simp [unhexL] at h; subst h; simp at h'; simp; omega
    | [_] => simp [unhexL] at h
    | a :: b :: r =>
      simp only [List.length_cons] at h'
      unfold unhexL at h
      split at h
      · rename_i x y t' h1 h2 h3
        have := ih r.length (by omega) h3 rfl
        simp at h
        subst h
        simp only [List.length_cons]
        omega
      · simp at h
theorem hd_unhd {c : UInt8} {x : Nat} (h : unhd c = some x) : hd x = c := by
  unfold unhd at h
  rw [← UInt8.toNat_inj]
  have := c.toNat_lt
  split at h
  · simp at h; subst h
    unfold hd; rw [if_pos (by omega), UInt8.toNat_ofNat']; omega
  · split at h
    · simp at h; subst h
      unfold hd; rw [if_neg (by omega), UInt8.toNat_ofNat']; omega
    · simp at h
theorem hex_unhex {l t : List UInt8} (h : unhexL l = some t) : hexL t = l := by
  induction h' : l.length using Nat.strongRecOn generalizing l t with
  | ind n ih =>
    match l with
    | [] => simp [unhexL] at h; subst h; rfl
    | [_] => simp [unhexL] at h
    | a :: b :: r =>
      simp only [List.length_cons] at h'
      unfold unhexL at h
      split at h
      · rename_i x y t' h1 h2 h3
        have h4 := ih r.length (by omega) h3 rfl
        have hx := unhd_lt h1
        have hy := unhd_lt h2
        replace h := Option.some.inj h
        subst h
        have e : (UInt8.ofNat (16 * x + y)).toNat = 16 * x + y := by rw [UInt8.toNat_ofNat']; omega
        simp only [hexL, e, h4]
        rw [show (16 * x + y) / 16 = x by omega, show (16 * x + y) % 16 = y by omega, hd_unhd h1, hd_unhd h2]
      · simp at h
end Go.Proofs.YtaieeabolcldgaaDoor
