import Derived.Shelf.Strings.BuilderK
import Derived.Test.YtaclbffacnoddaaGreatDoorProg
import Derived.WalkKit
import Derived.WalkSpells
import Derived.WalkLawsBesides
import Derived.Laws.BytesArg
import Derived.Laws.IdiomStrings
import Derived.Maps.AppendAt
import Derived.Laws.OwnMore
import Derived.Test.YtaclbffacnoddaaGreatDoorPaShelf
import Derived.Outline
import Derived.Deep.MidRow
import Derived.Laws.EntriesVeiled
namespace Go.Proofs
open Go.Shelf Go.RowKit
def Tryz.bs_ren : Go.Shelf.Ren := ⟨fun | 166 => 74 | 240 => 98 | 276 => 110 | n => n, fun | 9 => 9 | 3 => 3 | 4 => 4 | 20 => 20 | 0 => 0 | 72 => 89 | 70 => 86 | 37 => 87 | 75 => 91 | 80 => 95 | 164 => 121 | 5 => 5 | n => n, fun | n => n⟩
theorem Tryz.bs_lays : Go.Proofs.Lays.n166 Tryz.prog Tryz.bs_ren := {
  mixed := by kernel_rfl
  f166 := Tryz.func74.trans (congrArg some (by kernel_rfl))
  f240 := Tryz.func98.trans (congrArg some (by kernel_rfl))
  f276 := Tryz.func110.trans (congrArg some (by kernel_rfl))
  t0 := Tryz.underlying0
  a0 := Tryz.isAgg0
  z0 := Tryz.sizeOf0
  v0 := Tryz.zeroValue0
  t3 := Tryz.underlying3
  a3 := Tryz.isAgg3
  z3 := Tryz.sizeOf3
  v3 := Tryz.zeroValue3
  t4 := Tryz.underlying4
  a4 := Tryz.isAgg4
  z4 := Tryz.sizeOf4
  v4 := Tryz.zeroValue4
  t9 := Tryz.underlying9
  a9 := Tryz.isAgg9
  z9 := Tryz.sizeOf9
  v9 := Tryz.zeroValue9
  t20 := Tryz.underlying20
  a20 := Tryz.isAgg20
  z20 := Tryz.sizeOf20
  v20 := Tryz.zeroValue20
  t37 := Tryz.underlying87
  a37 := Tryz.isAgg87
  z37 := Tryz.sizeOf87
  v37 := Tryz.zeroValue87
  t70 := Tryz.underlying86
  a70 := Tryz.isAgg86
  z70 := Tryz.sizeOf86
  v70 := Tryz.zeroValue86
  t72 := Tryz.underlying89
  a72 := Tryz.isAgg89
  z72 := Tryz.sizeOf89
  v72 := Tryz.zeroValue89
  t75 := Tryz.underlying91
  a75 := Tryz.isAgg91
  z75 := Tryz.sizeOf91
  v75 := Tryz.zeroValue91
  t164 := Tryz.underlying121
  a164 := Tryz.isAgg121
  z164 := Tryz.sizeOf121
  v164 := Tryz.zeroValue121 }
theorem Tryz.bs_extra : Builder.Extra Tryz.prog Tryz.bs_ren := {
  sizeBuilder := by kernel_rfl
  liesBuilder := by kernel_rfl
  t5 := Tryz.underlying5
  a5 := Tryz.isAgg5
  z5 := Tryz.sizeOf5
  v5 := Tryz.zeroValue5
  infoByte := by kernel_rfl
  cellsByte := by kernel_rfl
  sizeByte := by kernel_rfl
  neB5 := by decide }
theorem Tryz.bWriteString (B b : Nat) (bs : List Value) (s : ByteArray) (w : World) (h : Lib.IsBuilderF 89 5 B b bs w) (hlen : bs.length + s.size ≤ 140737488355328) (hBw : B ≤ w.heap.size) :
    Calls Tryz.prog 74 #[.pointer (some ⟨b, 0, none⟩), .string s] w fun e w' => e = .returned (.tuple #[.int .i64 s.size, .nilIface]) ∧ (Lib.BuilderAtF 89 5 B b (.pointer (some ⟨b, 0, none⟩)) (bs ++ Lib.strCells s) w' ∧ Below B w w' ∧ Lib.OthersKept 5 (some b) w w') := Any.Builder_WriteString_k Tryz.bs_lays Tryz.bs_extra B b bs s w h hlen hBw
end Go.Proofs
namespace Go.Proofs.YtaclbffacnoddaaGreatDoor
open Go.RowKit
theorem hide {p : Prop} (h : p) : Hid p := h
theorem unh {p : Prop} (h : Hid p) : p := h
theorem ret_bool {a b : Bool} (h : a = b) : Ending.returned (.bool a) = .returned (.bool b) := by rw [h]
theorem ret_str {a b : ByteArray} (h : a = b) : Ending.returned (.string a) = .returned (.string b) := by rw [h]
theorem u8_in {x : Int} (h0 : 0 ≤ x) (h1 : x < 256) : IntKind.u8.wrap x = x := by
  simp [IntKind.wrap, IntKind.signed, IntKind.bits]; omega
theorem u32_in {x : Int} (h0 : 0 ≤ x) (h1 : x < 4294967296) : IntKind.u32.wrap x = x := by
  simp [IntKind.wrap, IntKind.signed, IntKind.bits]; omega
theorem u32_add (x y : Nat) : IntKind.u32.wrap ((x : Int) + (y : Int)) = (((x + y) % 4294967296 : Nat) : Int) := by
  simp [IntKind.wrap, IntKind.signed, IntKind.bits]
/-- a byte as a cell -/
def ub (b : UInt8) : Value := .int .u8 (b.toNat : Int)
def strOf (l : List UInt8) : ByteArray := ⟨l.toArray⟩
theorem strOf_data (l : List UInt8) : (strOf l).data.toList = l := rfl
theorem strOf_size (l : List UInt8) : (strOf l).size = l.length := by simp [strOf, ByteArray.size]
theorem strOf_toList (s : ByteArray) : strOf s.data.toList = s := by cases s; rfl
theorem strOf_inj {a b : List UInt8} (h : strOf a = strOf b) : a = b := by
  have := congrArg (fun x => x.data.toList) h
  simpa [strOf] using this
theorem size_data (s : ByteArray) : s.data.toList.length = s.size := by simp
theorem eq_beq (a b : ByteArray) : (a.toList == b.toList) = decide (a = b) := by
  rw [ByteArray.toList_eq, ByteArray.toList_eq, Bool.eq_iff_iff]
  simp
  constructor
  · intro h
    cases a; cases b; simp at h; rw [h]
  · intro h; rw [h]
theorem oneCells (l : List UInt8) : ∀ u ∈ l.map ub, u.oneCell' = true := by
  intro u hu
  obtain ⟨x, _, rfl⟩ := List.mem_map.1 hu
  rfl
theorem cell_two_new (w : World) (x y : Value) (t : TypeId) : ∀ j u, [x, y][j]? = some u → (w.alloc (.cells #[x, y] t)).cell? ((⟨w.heap.size, 0, none⟩ : Addr).add j) = some u := by
  intro j u hj
  match j, hj with
  | 0, hj => simp at hj; subst hj; simp [Addr.add]
  | 1, hj => simp at hj; subst hj; simp [Addr.add]
  | (j + 2), hj => simp at hj
/-- string(out), out a row of the call's own -/
theorem own_conv {P : Program} {w : World} {base e src dst n : Nat} {v : Value} {l : List UInt8} (h : w.ownsRow base e 1 v n (l.map ub)) (hn : n = l.length) (hs : P.underlying src = some (.slice e)) (he : P.underlying e = some (.int .u8)) (hd : P.underlying dst = some .string) :
    (convert src dst v).run P w = .ok (.string (strOf l)) w := by
  subst hn
  rcases h.2 with ⟨hv, h0⟩ | ⟨g, cap, cur, hv, hg, hblk, hn, hc, hcs, htake⟩
  · subst hv
    rw [run_convert_bytes_nil w src e hs he 0 0 dst hd]
    have : l = [] := by
      have := h.1
      cases l with
      | nil => rfl
      | cons a t => simp at h0
    subst this
    rfl
  · subst hv
    exact run_convert_bytes_back w src dst e ⟨g, 0, none⟩ cap l hs he hd (fun j hj => by
      have := h.cellAt j (by simpa using hj)
      have e0 : (⟨g, 0, none⟩ : Addr).add j = ⟨g, j, none⟩ := by simp [Addr.add]; omega
      rw [e0]
      simpa [hj, ub] using this)
/-- the digit of a half byte -/
def hd (n : Nat) : UInt8 := if n < 10 then UInt8.ofNat (48 + n) else UInt8.ofNat (87 + n)
def hexL : List UInt8 → List UInt8
  | [] => []
  | b :: r => hd (b.toNat / 16) :: hd (b.toNat % 16) :: hexL r
theorem hexL_len (l : List UInt8) : (hexL l).length = 2 * l.length := by
  induction l with
  | nil => rfl
  | cons b r ih => simp only [hexL, List.length_cons, ih]; omega
theorem hexL_append (a b : List UInt8) : hexL (a ++ b) = hexL a ++ hexL b := by
  induction a with
  | nil => rfl
  | cons x r ih => simp [hexL, ih]
theorem hexL_snoc (l : List UInt8) (k : Nat) (h : k < l.length) : hexL (l.take (k + 1)) = hexL (l.take k) ++ [hd (l[k].toNat / 16), hd (l[k].toNat % 16)] := by
  rw [List.take_succ_eq_append_getElem h, hexL_append]
  rfl
def digs : ByteArray := ⟨#[48, 49, 50, 51, 52, 53, 54, 55, 56, 57, 97, 98, 99, 100, 101, 102]⟩
theorem digs_get (n : Nat) (h : n < 16) (h' : n < digs.size) : digs[n] = hd n := by
  have : ∀ m : Fin 16, digs[m.1]'(by simp [digs, ByteArray.size]) = hd m.1 := by decide
  exact this ⟨n, h⟩
/-- the half byte that a digit stands for -/
def unhd (c : UInt8) : Option Nat := if 48 ≤ c.toNat ∧ c.toNat ≤ 57 then some (c.toNat - 48) else if 97 ≤ c.toNat ∧ c.toNat ≤ 102 then some (c.toNat - 87) else none
def unhexL : List UInt8 → Option (List UInt8)
  | [] => some []
  | [_] => none
  | a :: b :: r => match unhd a, unhd b, unhexL r with
    | some x, some y, some t => some (UInt8.ofNat (16 * x + y) :: t)
    | _, _, _ => none
theorem unhd_lt {c : UInt8} {x : Nat} (h : unhd c = some x) : x < 16 := by
  unfold unhd at h
  split at h
  · simp at h; omega
  · split at h
    · simp at h; omega
    · simp at h
theorem unhd_hd : ∀ n : Fin 16, unhd (hd n.1) = some n.1 := by decide
theorem unhex_hex (l : List UInt8) : unhexL (hexL l) = some l := by
  induction l with
  | nil => rfl
  | cons b r ih =>
    have hb := b.toNat_lt
    have h1 : unhd (hd (b.toNat / 16)) = some (b.toNat / 16) := unhd_hd ⟨b.toNat / 16, by omega⟩
    have h2 : unhd (hd (b.toNat % 16)) = some (b.toNat % 16) := unhd_hd ⟨b.toNat % 16, by omega⟩
    simp only [hexL, unhexL, h1, h2, ih]
    congr 2
    rw [← UInt8.toNat_inj, UInt8.toNat_ofNat']
    omega
theorem unhex_odd (l : List UInt8) (h : l.length % 2 = 1) : unhexL l = none := by
  induction h' : l.length using Nat.strongRecOn generalizing l with
  | ind n ih =>
    match l with
    | [] => simp at h
    | [_] => rfl
    | a :: b :: r =>
      simp only [List.length_cons] at h h'
      have := ih r.length (by omega) r (by omega) rfl
      simp only [unhexL, this]
      cases unhd a <;> cases unhd b <;> rfl
/-- the value that both Unhex answer -/
def unS (l : List UInt8) : ByteArray := strOf ((unhexL l).getD [])
def unE (l : List UInt8) : Int := if (unhexL l).isSome then 0 else 20
/-- the first k pairs read well -/
theorem unhexL_append (a b : List UInt8) (h : a.length % 2 = 0) : unhexL (a ++ b) = (unhexL a).bind fun x => (unhexL b).map (x ++ ·) := by
  induction h' : a.length using Nat.strongRecOn generalizing a with
  | ind n ih =>
    match a with
    | [] => simp [unhexL]
    | [_] => simp at h
    | x :: y :: r =>
      simp only [List.length_cons] at h h'
      have := ih r.length (by omega) r (by omega) rfl
      simp only [List.cons_append, unhexL, this]
      cases unhd x <;> cases unhd y <;> cases unhexL r <;> cases unhexL b <;> simp
theorem take_two (l : List UInt8) (k : Nat) (h : 2 * k + 1 < l.length) : l.take (2 * (k + 1)) = l.take (2 * k) ++ [l[2 * k], l[2 * k + 1]] := by
  rw [show 2 * (k + 1) = 2 * k + 1 + 1 by omega, List.take_succ_eq_append_getElem h, List.take_succ_eq_append_getElem (show 2 * k < l.length by omega), List.append_assoc]
  rfl
theorem unhex_step (l : List UInt8) (k : Nat) (h : 2 * k + 1 < l.length) {t : List UInt8} {x y : Nat} (ht : unhexL (l.take (2 * k)) = some t) (hx : unhd l[2 * k] = some x) (hy : unhd l[2 * k + 1] = some y) :
    unhexL (l.take (2 * (k + 1))) = some (t ++ [UInt8.ofNat (16 * x + y)]) := by
  rw [take_two l k h, unhexL_append _ _ (by rw [List.length_take]; omega), ht]
  simp [unhexL, hx, hy]
theorem unhex_bad (l : List UInt8) (k : Nat) (h : 2 * k + 1 < l.length) (hb : unhd l[2 * k] = none ∨ unhd l[2 * k + 1] = none) : unhexL l = none := by
  have e : l = l.take (2 * k) ++ (l[2 * k] :: l[2 * k + 1] :: l.drop (2 * k + 2)) := by
    conv => lhs; rw [← List.take_append_drop (2 * k) l, List.drop_eq_getElem_cons (by omega), List.drop_eq_getElem_cons (by omega)]
  rw [e, unhexL_append _ _ (by rw [List.length_take]; omega)]
  have : unhexL (l[2 * k] :: l[2 * k + 1] :: l.drop (2 * k + 2)) = none := by
    unfold unhexL
    rcases hb with hb | hb <;> rw [hb]
    cases unhd l[2 * k] <;> rfl
  rw [this]
  cases unhexL (l.take (2 * k)) <;> rfl
theorem unhex_len {l t : List UInt8} (h : unhexL l = some t) : l.length = 2 * t.length := by
  induction h' : l.length using Nat.strongRecOn generalizing l t with
  | ind n ih =>
    match l with
    | [] => simp [unhexL] at h; subst h; simp at h'; simp; omega
    | [_] => simp [unhexL] at h
    | a :: b :: r =>
      simp only [List.length_cons] at h'
      unfold unhexL at h
      split at h
      · rename_i x y t' h1 h2 h3
        have := ih r.length (by omega) h3 rfl
        simp at h
        subst h
        simp only [List.length_cons]
        omega
      · simp at h
theorem hd_unhd {c : UInt8} {x : Nat} (h : unhd c = some x) : hd x = c := by
  unfold unhd at h
  rw [← UInt8.toNat_inj]
  have := c.toNat_lt
  split at h
  · simp at h; subst h
    unfold hd; rw [if_pos (by omega), UInt8.toNat_ofNat']; omega
  · split at h
    · simp at h; subst h
      unfold hd; rw [if_neg (by omega), UInt8.toNat_ofNat']; omega
    · simp at h
theorem hex_unhex {l t : List UInt8} (h : unhexL l = some t) : hexL t = l := by
  induction h' : l.length using Nat.strongRecOn generalizing l t with
  | ind n ih =>
    match l with
    | [] => simp [unhexL] at h; subst h; rfl
    | [_] => simp [unhexL] at h
    | a :: b :: r =>
      simp only [List.length_cons] at h'
      unfold unhexL at h
      split at h
      · rename_i x y t' h1 h2 h3
        have h4 := ih r.length (by omega) h3 rfl
        have hx := unhd_lt h1
        have hy := unhd_lt h2
        replace h := Option.some.inj h
        subst h
        have e : (UInt8.ofNat (16 * x + y)).toNat = 16 * x + y := by rw [UInt8.toNat_ofNat']; omega
        simp only [hexL, e, h4]
        rw [show (16 * x + y) / 16 = x by omega, show (16 * x + y) % 16 = y by omega, hd_unhd h1, hd_unhd h2]
      · simp at h
end Go.Proofs.YtaclbffacnoddaaGreatDoor
namespace Go.Proofs.YtaclbffacnoddaaGreatDoor
open Go.RowKit Go.Shelf
/-- a row of a table: what stands ahead, the shape, the range, the closures, what stands behind -/
structure FD where
  wd : ByteArray
  sh : Int
  lo : Int
  hi : Int
  gf : Nat
  sf : Nat
  ca : Array Value
  en : ByteArray
def FD.cells (f : FD) : List Value := [.string f.wd, .int .i64 f.sh, .int .i64 f.lo, .int .i64 f.hi, .func (.func f.gf) #[] f.ca, .func (.func f.sf) #[] f.ca, .string f.en]
/-- a table in memory -/
def TabAt (b : Nat) (w : World) (ts : List FD) : Prop := ∀ i (h : i < ts.length), w.rangeAt b (i * 7) ts[i].cells
theorem rangeAt_cell {w : World} {b o : Nat} {cs : List Value} (h : w.rangeAt b o cs) (j : Nat) (v : Value) (hv : cs[j]? = some v) : w.cell? ⟨b, o + j, none⟩ = some v := h j v hv
set_option maxHeartbeats 2000000 in
set_option maxRecDepth 100000 in
/-- walk, over any table, with any closure -/
theorem walk_any (pf : Nat) (he : Enters Tryz.prog pf) (cp : Array Value) (b cap : Nat) (ts : List FD) (w : World) (I J : Nat → World → Prop) (hlen : ts.length ≤ 1000000) (h0 : I 0 w) (hT : ∀ i w', i ≤ ts.length → I i w' → TabAt b w' ts)
    (hI : ∀ i w' o, i ≤ ts.length → I i w' → I i (w'.alloc o))
    (hs : ∀ i (h : i < ts.length) w', I i w' → Calls Tryz.prog pf (#[.agg ts[i].cells.toArray] ++ cp) w' fun e w'' => (e = .returned (.bool true) ∧ I (i + 1) w'') ∨ (e = .returned (.bool false) ∧ J i w'')) :
    Calls Tryz.prog 68 #[.slice (some ⟨b, 0, none⟩) ts.length cap, .func (.func pf) #[] cp] w fun e w' => (e = .returned (.bool true) ∧ I ts.length w') ∨ (e = .returned (.bool false) ∧ ∃ i, i < ts.length ∧ J i w') := by
  unfold Enters at he
  have HT := hide hT
  have HI := hide hI
  have HS := hide hs
  clear hT hI hs
  go_enter Tryz.func68, Tryz.ntmps68
  go_wp2
  go_loopw [9] (fun v wr => ∃ k : Nat, k ≤ ts.length ∧ v = .int .i64 k ∧ Hid (I k wr)) (fun v _ => ts.length - (intOf v).toNat)
  case atStart => exact ⟨0, Nat.zero_le _, rfl, h0⟩
  case round =>
    obtain ⟨k, hk, rfl, hI⟩ := hrel
    by_cases hlt : k < ts.length
    · have hr := HT.out k wr hk hI.out k hlt
      have C := hide (HS.out k hlt (wr.alloc (.cells ts[k].cells.toArray 76)) (HI.out k wr _ hk hI.out))
      generalize hf : ts[k] = f at hr C
      clear hf
      have c0 : wr.cell? ⟨b, k * 7, none⟩ = _ := rangeAt_cell hr 0 _ rfl
      have c1 := rangeAt_cell hr 1 _ rfl
      have c2 := rangeAt_cell hr 2 _ rfl
      have c3 := rangeAt_cell hr 3 _ rfl
      have c4 := rangeAt_cell hr 4 _ rfl
      have c5 := rangeAt_cell hr 5 _ rfl
      have c6 := rangeAt_cell hr 6 _ rfl
      unfold FD.cells at C
      clear hr
      go_wp2_with fail
      refine Calls.mono C.out ?_
      rintro e w1 (⟨rfl, h1⟩ | ⟨rfl, h1⟩)
      · have H1 := hide h1
        clear h1
        go_wp2
        go_roundw
        case rel => exact ⟨k + 1, by omega, by go_num, H1⟩
        case measure => simp [intOf]; omega
      · have H1 := hide h1
        clear h1
        go_wp2
        go_ret
        exact .inr ⟨rfl, k, hlt, H1.out⟩
    · obtain rfl : k = ts.length := by omega
      go_wp2
      go_ret
      exact .inl ⟨rfl, hI.out⟩
end Go.Proofs.YtaclbffacnoddaaGreatDoor
