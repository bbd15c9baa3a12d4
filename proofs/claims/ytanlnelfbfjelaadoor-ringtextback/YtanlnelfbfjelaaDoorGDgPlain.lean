import Derived.WalkKit
import Derived.WalkSpells
import Derived.WalkLawsBesides
import Derived.Laws.BytesArg
import Derived.Laws.IdiomStrings
import Derived.Maps.AppendAt
import Derived.Laws.OwnMore
import Derived.Test.YtanlnelfbfjelaaDoorGGnPure
import Derived.Test.YtanlnelfbfjelaaDoorProg
import Derived.Below
import Derived.Deep.QuietTactic
import Derived.BigQuiet
import Derived.Deep.DeepCutAuto
import Derived.Deep.WholeRow
import Derived.Laws.CopyOwn
import Derived.Deep.RegionHeld3
import Derived.ProofKit
namespace Go.Proofs.YtanlnelfbfjelaaDoor
open Go.RowKit
theorem hide {p : Prop} (h : p) : Hid p := h
theorem unh {p : Prop} (h : Hid p) : p := h
theorem ret_bool {a b : Bool} (h : a = b) : Ending.returned (.bool a) = .returned (.bool b) := by rw [h]
theorem ret_str {a b : ByteArray} (h : a = b) : Ending.returned (.string a) = .returned (.string b) := by rw [h]
theorem u8_in {x : Int} (h0 : 0 ≤ x) (h1 : x < 256) : IntKind.u8.wrap x = x := by
  simp [IntKind.wrap, IntKind.signed, IntKind.bits]; omega
theorem u32_in {x : Int} (h0 : 0 ≤ x) (h1 : x < 4294967296) : IntKind.u32.wrap x = x := by
  simp [IntKind.wrap, IntKind.signed, IntKind.bits]; omega
theorem u32_add (x y : Nat) : IntKind.u32.wrap ((x : Int) + (y : Int)) = (((x + y) % 4294967296 : Nat) : Int) := by
  simp [IntKind.wrap, IntKind.signed, IntKind.bits]
/-- a byte as a cell -/
def ub (b : UInt8) : Value := .int .u8 (b.toNat : Int)
def strOf (l : List UInt8) : ByteArray := ⟨l.toArray⟩
theorem strOf_data (l : List UInt8) : (strOf l).data.toList = l := rfl
theorem strOf_size (l : List UInt8) : (strOf l).size = l.length := by simp [strOf, ByteArray.size]
theorem strOf_toList (s : ByteArray) : strOf s.data.toList = s := by cases s; rfl
theorem strOf_inj {a b : List UInt8} (h : strOf a = strOf b) : a = b := by
  have := congrArg (fun x => x.data.toList) h
  simpa [strOf] using this
theorem size_data (s : ByteArray) : s.data.toList.length = s.size := by simp
theorem eq_beq (a b : ByteArray) : (a.toList == b.toList) = decide (a = b) := by
  rw [ByteArray.toList_eq, ByteArray.toList_eq, Bool.eq_iff_iff]
  simp
  constructor
  · intro h
    cases a; cases b; simp at h; rw [h]
  · intro h; rw [h]
theorem oneCells (l : List UInt8) : ∀ u ∈ l.map ub, u.oneCell' = true := by
  intro u hu
  obtain ⟨x, _, rfl⟩ := List.mem_map.1 hu
  rfl
theorem cell_two_new (w : World) (x y : Value) (t : TypeId) : ∀ j u, [x, y][j]? = some u → (w.alloc (.cells #[x, y] t)).cell? ((⟨w.heap.size, 0, none⟩ : Addr).add j) = some u := by
  intro j u hj
  match j, hj with
  | 0, hj => simp at hj; subst hj; simp [Addr.add]
  | 1, hj => simp at hj; subst hj; simp [Addr.add]
  | (j + 2), hj => simp at hj
/-- string(out), out a row of the call's own -/
theorem own_conv {P : Program} {w : World} {base e src dst n : Nat} {v : Value} {l : List UInt8} (h : w.ownsRow base e 1 v n (l.map ub)) (hn : n = l.length) (hs : P.underlying src = some (.slice e)) (he : P.underlying e = some (.int .u8)) (hd : P.underlying dst = some .string) :
    (convert src dst v).run P w = .ok (.string (strOf l)) w := by
  subst hn
  rcases h.2 with ⟨hv, h0⟩ | ⟨g, cap, cur, hv, hg, hblk, hn, hc, hcs, htake⟩
  · subst hv
    rw [run_convert_bytes_nil w src e hs he 0 0 dst hd]
    have : l = [] := by
      have := h.1
      cases l with
      | nil => rfl
      | cons a t => simp at h0
    subst this
    rfl
  · subst hv
    exact run_convert_bytes_back w src dst e ⟨g, 0, none⟩ cap l hs he hd (fun j hj => by
      have := h.cellAt j (by simpa using hj)
      have e0 : (⟨g, 0, none⟩ : Addr).add j = ⟨g, j, none⟩ := by simp [Addr.add]; omega
      rw [e0]
      simpa [hj, ub] using this)
/-- the digit of a half byte -/
def hd (n : Nat) : UInt8 := if n < 10 then UInt8.ofNat (48 + n) else UInt8.ofNat (87 + n)
def hexL : List UInt8 → List UInt8
  | [] => []
  | b :: r => hd (b.toNat / 16) :: hd (b.toNat % 16) :: hexL r
theorem hexL_len (l : List UInt8) : (hexL l).length = 2 * l.length := by
  induction l with
  | nil => rfl
  | cons b r ih => simp only [hexL, List.length_cons, ih]; omega
theorem hexL_append (a b : List UInt8) : hexL (a ++ b) = hexL a ++ hexL b := by
  induction a with
  | nil => rfl
  | cons x r ih => simp [hexL, ih]
theorem hexL_snoc (l : List UInt8) (k : Nat) (h : k < l.length) : hexL (l.take (k + 1)) = hexL (l.take k) ++ [hd (l[k].toNat / 16), hd (l[k].toNat % 16)] := by
  rw [List.take_succ_eq_append_getElem h, hexL_append]
  rfl
def digs : ByteArray := ⟨#[48, 49, 50, 51, 52, 53, 54, 55, 56, 57, 97, 98, 99, 100, 101, 102]⟩
theorem digs_get (n : Nat) (h : n < 16) (h' : n < digs.size) : digs[n] = hd n := by
  have : ∀ m : Fin 16, digs[m.1]'(by simp [digs, ByteArray.size]) = hd m.1 := by decide
  exact this ⟨n, h⟩
/-- the half byte that a digit stands for -/
def unhd (c : UInt8) : Option Nat := if 48 ≤ c.toNat ∧ c.toNat ≤ 57 then some (c.toNat - 48) else if 97 ≤ c.toNat ∧ c.toNat ≤ 102 then some (c.toNat - 87) else none
def unhexL : List UInt8 → Option (List UInt8)
  | [] => some []
  | [_] => none
  | a :: b :: r => match unhd a, unhd b, unhexL r with
    | some x, some y, some t => some (UInt8.ofNat (16 * x + y) :: t)
    | _, _, _ => none
theorem unhd_lt {c : UInt8} {x : Nat} (h : unhd c = some x) : x < 16 := by
  unfold unhd at h
  split at h
  · simp at h; omega
  · split at h
    · simp at h; omega
    · simp at h
theorem unhd_hd : ∀ n : Fin 16, unhd (hd n.1) = some n.1 := by decide
theorem unhex_hex (l : List UInt8) : unhexL (hexL l) = some l := by
  induction l with
  | nil => rfl
  | cons b r ih =>
    have hb := b.toNat_lt
    have h1 : unhd (hd (b.toNat / 16)) = some (b.toNat / 16) := unhd_hd ⟨b.toNat / 16, by omega⟩
    have h2 : unhd (hd (b.toNat % 16)) = some (b.toNat % 16) := unhd_hd ⟨b.toNat % 16, by omega⟩
    simp only [hexL, unhexL, h1, h2, ih]
    congr 2
    rw [← UInt8.toNat_inj, UInt8.toNat_ofNat']
    omega
theorem unhex_odd (l : List UInt8) (h : l.length % 2 = 1) : unhexL l = none := by
  induction h' : l.length using Nat.strongRecOn generalizing l with
  | ind n ih =>
    match l with
    | [] => simp at h
    | [_] => rfl
    | a :: b :: r =>
      simp only [List.length_cons] at h h'
      have := ih r.length (by omega) r (by omega) rfl
      simp only [unhexL, this]
      cases unhd a <;> cases unhd b <;> rfl
/-- the value that both Unhex answer -/
def unS (l : List UInt8) : ByteArray := strOf ((unhexL l).getD [])
def unE (l : List UInt8) : Int := if (unhexL l).isSome then 0 else 20
/-- the first k pairs read well -/
theorem unhexL_append (a b : List UInt8) (h : a.length % 2 = 0) : unhexL (a ++ b) = (unhexL a).bind fun x => (unhexL b).map (x ++ ·) := by
  induction h' : a.length using Nat.strongRecOn generalizing a with
  | ind n ih =>
    match a with
    | [] => simp [unhexL]
    | [_] => simp at h
    | x :: y :: r =>
      simp only [List.length_cons] at h h'
      have := ih r.length (by omega) r (by omega) rfl
      simp only [List.cons_append, unhexL, this]
      cases unhd x <;> cases unhd y <;> cases unhexL r <;> cases unhexL b <;> simp
theorem take_two (l : List UInt8) (k : Nat) (h : 2 * k + 1 < l.length) : l.take (2 * (k + 1)) = l.take (2 * k) ++ [l[2 * k], l[2 * k + 1]] := by
  rw [show 2 * (k + 1) = 2 * k + 1 + 1 by omega, List.take_succ_eq_append_getElem h, List.take_succ_eq_append_getElem (show 2 * k < l.length by omega), List.append_assoc]
  rfl
theorem unhex_step (l : List UInt8) (k : Nat) (h : 2 * k + 1 < l.length) {t : List UInt8} {x y : Nat} (ht : unhexL (l.take (2 * k)) = some t) (hx : unhd l[2 * k] = some x) (hy : unhd l[2 * k + 1] = some y) :
    unhexL (l.take (2 * (k + 1))) = some (t ++ [UInt8.ofNat (16 * x + y)]) := by
  rw [take_two l k h, unhexL_append _ _ (by rw [List.length_take]; omega), ht]
  simp [unhexL, hx, hy]
theorem unhex_bad (l : List UInt8) (k : Nat) (h : 2 * k + 1 < l.length) (hb : unhd l[2 * k] = none ∨ unhd l[2 * k + 1] = none) : unhexL l = none := by
  have e : l = l.take (2 * k) ++ (l[2 * k] :: l[2 * k + 1] :: l.drop (2 * k + 2)) := by
    conv => lhs; rw [← List.take_append_drop (2 * k) l, List.drop_eq_getElem_cons (by omega), List.drop_eq_getElem_cons (by omega)]
  rw [e, unhexL_append _ _ (by rw [List.length_take]; omega)]
  have : unhexL (l[2 * k] :: l[2 * k + 1] :: l.drop (2 * k + 2)) = none := by
    unfold unhexL
    rcases hb with hb | hb <;> rw [hb]
    cases unhd l[2 * k] <;> rfl
  rw [this]
  cases unhexL (l.take (2 * k)) <;> rfl
theorem unhex_len {l t : List UInt8} (h : unhexL l = some t) : l.length = 2 * t.length := by
  induction h' : l.length using Nat.strongRecOn generalizing l t with
  | ind n ih =>
    match l with
    | [] => simp [unhexL] at h; subst h; simp at h'; simp; omega
    | [_] => simp [unhexL] at h
    | a :: b :: r =>
      simp only [List.length_cons] at h'
      unfold unhexL at h
      split at h
      · rename_i x y t' h1 h2 h3
        have := ih r.length (by omega) h3 rfl
        simp at h
        subst h
        simp only [List.length_cons]
        omega
      · simp at h
theorem hd_unhd {c : UInt8} {x : Nat} (h : unhd c = some x) : hd x = c := by
  unfold unhd at h
  rw [← UInt8.toNat_inj]
  have := c.toNat_lt
  split at h
  · simp at h; subst h
    unfold hd; rw [if_pos (by omega), UInt8.toNat_ofNat']; omega
  · split at h
    · simp at h; subst h
      unfold hd; rw [if_neg (by omega), UInt8.toNat_ofNat']; omega
    · simp at h
theorem hex_unhex {l t : List UInt8} (h : unhexL l = some t) : hexL t = l := by
  induction h' : l.length using Nat.strongRecOn generalizing l t with
  | ind n ih =>
    match l with
    | [] => simp [unhexL] at h; subst h; rfl
    | [_] => simp [unhexL] at h
    | a :: b :: r =>
      simp only [List.length_cons] at h'
      unfold unhexL at h
      split at h
      · rename_i x y t' h1 h2 h3
        have h4 := ih r.length (by omega) h3 rfl
        have hx := unhd_lt h1
        have hy := unhd_lt h2
        replace h := Option.some.inj h
        subst h
        have e : (UInt8.ofNat (16 * x + y)).toNat = 16 * x + y := by rw [UInt8.toNat_ofNat']; omega
        simp only [hexL, e, h4]
        rw [show (16 * x + y) / 16 = x by omega, show (16 * x + y) % 16 = y by omega, hd_unhd h1, hd_unhd h2]
      · simp at h
end Go.Proofs.YtanlnelfbfjelaaDoor
namespace Go.Proofs.YtanlnelfbfjelaaDoor
open Go.RowKit
theorem ba_eq {a b : ByteArray} (h : a.data.toList = b.data.toList) : a = b := by rw [← strOf_toList a, h, strOf_toList]
theorem info9 : (Tryd.prog.info? 9).map (fun i => (i.zero, i.size, i.bytes)) = some (some (.string ByteArray.empty), 1, 16) := by kernel_rfl
theorem info_partsG {P : Program} {t : TypeId} {z : Option Value} {n b : Nat} (h : (P.info? t).map (fun i => (i.zero, i.size, i.bytes)) = some (z, n, b)) : ∃ i, P.info? t = some i ∧ i.zero = z ∧ i.size = n ∧ i.bytes = b := by
  obtain ⟨i, hi, hx⟩ := Option.map_eq_some_iff.1 h
  simp only [Prod.mk.injEq] at hx
  exact ⟨i, hi, hx.1, hx.2.1, hx.2.2⟩
theorem ix_str (w : World) (s : ByteArray) (k : Nat) (hk : k < s.size) : (Instr.index 9 (.string s) (.int .i64 (k : Int))).run Tryd.prog w = .ok (.int .u8 (s[k].toNat : Int)) w := by
  rw [run_index_string w 9 s .i64 k Tryd.underlying9, dif_pos ⟨by omega, by omega⟩]
  simp
theorem get_data (s : ByteArray) (k : Nat) (h : k < s.size) : s[k] = s.data.toList[k]'(by rw [size_data]; exact h) := rfl
theorem split_step (c : UInt8) (S : List UInt8) (q k : Nat) (hq : q ≤ k) (hk : k < S.length) : splitL c ((S.take k).drop q) (S.drop k) = if S[k] = c then (S.take k).drop q :: splitL c ((S.take (k + 1)).drop (k + 1)) (S.drop (k + 1)) else splitL c ((S.take (k + 1)).drop q) (S.drop (k + 1)) := by
  rw [List.drop_eq_getElem_cons hk, splitL]
  split
  · rw [show (S.take (k + 1)).drop (k + 1) = [] from List.drop_eq_nil_of_le (by simp; omega)]
  · rw [List.take_succ_eq_append_getElem hk, List.drop_append_of_le_length (by simp; omega)]
theorem ext_eq (s : ByteArray) (q k : Nat) : s.extract q k = strOf ((s.data.toList.take k).drop q) := by
  apply ba_eq
  rw [strOf_data, Lib.extract_data, List.drop_take]
set_option maxHeartbeats 2000000 in
set_option maxRecDepth 100000 in
/-- the document's split -/
theorem tsplit_any (s : ByteArray) (c : UInt8) (w : World) (hs : s.size ≤ 70000) :
    Calls Tryd.prog 35 #[.string s, .int .u8 (c.toNat : Int)] w fun e w' => ∃ v, e = .returned v ∧ w'.ownsRow w.heap.size 9 1 v (splitL c [] s.data.toList).length ((splitL c [] s.data.toList).map fun l => Value.string (strOf l)) ∧ Below w.heap.size w w' := by
  obtain ⟨i0, hi, hz0, hz1, hz2⟩ := info_partsG info9
  have hlS := size_data s
  obtain ⟨SP, hSP⟩ : ∃ SP, SP = splitL c [] s.data.toList := ⟨_, rfl⟩
  rw [← hSP]
  go_enter Tryd.func35, Tryd.ntmps35
  go_wp2
  go_loopw [5, 6, 7] (fun v f i wr => ∃ (k q : Nat) (l : List (List UInt8)), k ≤ s.size ∧ q ≤ k ∧ l.length ≤ k ∧ i = .int .i64 k ∧ f = .int .i64 q ∧ Hid (SP = l ++ splitL c ((s.data.toList.take k).drop q) (s.data.toList.drop k)) ∧ wr.ownsRow w.heap.size 9 1 v l.length (l.map fun l => Value.string (strOf l)) ∧ Below w.heap.size w wr) (fun _ _ i _ => s.size - (intOf i).toNat)
  case atStart => exact ⟨0, 0, [], Nat.zero_le _, Nat.le_refl _, Nat.le_refl _, rfl, rfl, by rw [hSP]; rfl, World.ownsRow_nil _ _ _ _, Below.refl _ _⟩
  case round =>
    obtain ⟨k, q, l, hk, hq, hll, rfl, rfl, hP, hown, hnx⟩ := hrel
    have hsize := hnx.size
    by_cases hlt : k < s.size
    · have hxs : ∀ w', (Instr.index 9 (.string s) (.int .i64 (k : Int))).run Tryd.prog w' = .ok (.int .u8 (s[k].toNat : Int)) w' := fun w' => ix_str w' s k hlt
      have ST := split_step c s.data.toList q k hq (by omega)
      rw [← get_data s k hlt] at ST
      have EX := hide (ext_eq s q k)
      generalize s[k] = b at *
      by_cases hb : b = c
      · subst hb
        rw [if_pos rfl] at ST
        have HS := hide (hP.out.trans (by rw [ST]))
        clear ST hP
        go_wp2_with (at_builtin; refine wpList_append_own _ rfl _ _ 40 rfl w.heap.size 9 i0 (.string ByteArray.empty) 1 16 Tryd.underlying40 hi hz0 hz1 hz2 rfl (by decide) _ _ _ rfl (hown.alloc _) ⟨wr.heap.size, 0, none⟩ 1 1 [.string (s.extract q k)] rfl rfl (cell_one_new _ _ _) (fun x hx => by simp at hx; subst hx; rfl) (by unfold maxLen; omega) (by omega) (by simp; omega) ?_; intro v' w3 hown' hgrow3 hnil3)
        go_roundw
        case rel =>
          refine ⟨k + 1, k + 1, l ++ [(s.data.toList.take k).drop q], by omega, Nat.le_refl _, by simp; omega, by go_num, by go_num, ?_, ?_, (hnx.alloc hsize _).grown hgrow3 (by simp; omega) (fun j hj => (hown.lt j hj).1)⟩
          · show SP = _
            rw [HS.out, List.append_assoc]; rfl
          · rw [List.length_append, List.map_append, List.map_cons, List.map_nil, ← EX.out]; exact hown'
        case measure => simp [intOf]; omega
      · rw [if_neg hb] at ST
        have HS := hide (hP.out.trans (by rw [ST]))
        have hb' : ¬ (b.toNat : Int) = (c.toNat : Int) := fun h => hb (UInt8.toNat_inj.1 (by omega))
        clear ST hP
        go_wp2
        go_roundw
        case rel => exact ⟨k + 1, q, l, by omega, by omega, by omega, by go_num, rfl, HS.out, hown, hnx⟩
        case measure => simp [intOf]; omega
    · obtain rfl : k = s.size := by omega
      have EX := hide (ext_eq s q s.size)
      have HS : Hid (SP = l ++ [(s.data.toList.take s.size).drop q]) := by
        show SP = _
        rw [hP.out, show s.data.toList.drop s.size = [] from List.drop_eq_nil_of_le (by omega)]; rfl
      clear hP
      go_wp2_with (at_builtin; refine wpList_append_own _ rfl _ _ 40 rfl w.heap.size 9 i0 (.string ByteArray.empty) 1 16 Tryd.underlying40 hi hz0 hz1 hz2 rfl (by decide) _ _ _ rfl (hown.alloc _) ⟨wr.heap.size, 0, none⟩ 1 1 [.string (s.extract q s.size)] rfl rfl (cell_one_new _ _ _) (fun x hx => by simp at hx; subst hx; rfl) (by unfold maxLen; omega) (by omega) (by simp; omega) ?_; intro v' w3 hown' hgrow3 hnil3)
      go_ret
      refine ⟨_, rfl, ?_, (hnx.alloc hsize _).grown hgrow3 (by simp; omega) (fun j hj => (hown.lt j hj).1)⟩
      rw [HS.out, List.length_append, List.map_append, List.map_cons, List.map_nil, ← EX.out]; exact hown'
theorem numF_snoc (l : List UInt8) (k : Nat) (h : k < l.length) : numF (l.take (k + 1)) = numF (l.take k) * 10 + (l[k].toNat - 48) := by
  unfold numF
  rw [List.take_succ_eq_append_getElem h, List.foldl_append]
  rfl
theorem numF_lt (s : List UInt8) : ∀ k, k ≤ s.length → (s.take k).all digB = true → numF (s.take k) < 10 ^ k
  | 0, _, _ => by simp [numF]
  | k + 1, hk, h => by
    rw [List.take_succ_eq_append_getElem (by omega), List.all_append, Bool.and_eq_true] at h
    have := numF_lt s k (by omega) h.1
    have hc : digB s[k] = true := by simpa using h.2
    unfold digB at hc
    simp at hc
    rw [numF_snoc s k (by omega), Nat.pow_succ]
    omega
theorem numV_dig {s : ByteArray} {k : Nat} (h : k < s.size) (hd : digB s[k] = false) : numV s.data.toList = -1 := by
  unfold numV
  have : s.data.toList.all digB = false := by
    rw [List.all_eq_false]
    exact ⟨s[k], by have : s[k] = s.data.toList[k]'(by simpa using h) := rfl; rw [this]; exact List.getElem_mem _, by rw [hd]; simp⟩
  rw [this]
  split <;> rfl
theorem ret_int {a b : Int} (h : a = b) : Ending.returned (.int .i64 a) = .returned (.int .i64 b) := by rw [h]
theorem toList_data (s : ByteArray) : s.toList = s.data.toList := ByteArray.toList_eq s
set_option maxHeartbeats 4000000 in
set_option maxRecDepth 100000 in
/-- the document's number -/
theorem tnumber_any (s : ByteArray) (w : World) (hs : s.size ≤ 70000) :
    Calls Tryd.prog 54 #[.string s] w fun e w' => e = .returned (.int .i64 (numV s.data.toList)) ∧ w = w' := by
  by_cases h0 : s.size = 0
  · have e0 : s.data.toList = [] := List.length_eq_zero_iff.1 (by rw [size_data]; exact h0)
    have HB := hide (show (-1 : Int) = numV s.data.toList by unfold numV; rw [if_pos (Or.inl e0)])
    have e1 : s.toList.isEmpty = true := by rw [toList_data, e0]; rfl
    clear e0
    go_enter Tryd.func54, Tryd.ntmps54
    go_wp2_with fail
    go_ret
    exact ⟨ret_int HB.out, rfl⟩
  have e1 : s.toList.isEmpty = false := by
    rw [toList_data, List.isEmpty_eq_false_iff]
    intro h; apply h0; rw [← size_data, h]; rfl
  by_cases h16 : 10 < s.size
  · have HB := hide (show (-1 : Int) = numV s.data.toList by unfold numV; rw [if_pos (Or.inr (Or.inl (by rw [size_data]; exact h16)))])
    have e2 : (10 : Int) < (s.size : Int) := by omega
    go_enter Tryd.func54, Tryd.ntmps54
    go_wp2_with fail
    go_ret
    exact ⟨ret_int HB.out, rfl⟩
  have e2 : ¬ (10 : Int) < (s.size : Int) := by omega
  have hp : 0 < s.size := by omega
  have hx0 : ∀ w', (Instr.index 9 (.string s) (.int .i64 0)).run Tryd.prog w' = .ok (.int .u8 ((s[0]'hp).toNat : Int)) w' := fun w' => ix_str w' s 0 hp
  have hhd : s.data.toList.head? = some (s[0]'hp) := by
    rw [List.head?_eq_getElem?]; exact Lib.data_getElem? s 0 hp
  have hd48 : ((s[0]'hp) = 48 ↔ (((s[0]'hp).toNat : Int) = 48)) := by
    constructor
    · intro h; rw [h]; rfl
    · intro h; rw [← UInt8.toNat_inj]; show _ = 48; omega
  generalize hc0 : (s[0]'hp) = c0 at *
  by_cases hz : c0 = 48 ∧ s.data.toList ≠ [48]
  · have HB := hide (show (-1 : Int) = numV s.data.toList by unfold numV; rw [if_pos (Or.inr (Or.inr ⟨by rw [hhd, hz.1], hz.2⟩))])
    have e3 : (c0.toNat : Int) = 48 := hd48.1 hz.1
    have e4 : (s.toList == [48]) = false := by rw [toList_data, beq_eq_false_iff_ne]; exact hz.2
    clear hz hhd hd48
    go_enter Tryd.func54, Tryd.ntmps54
    go_wp2_with fail
    go_ret
    exact ⟨ret_int HB.out, rfl⟩
  have hz' : ((c0.toNat : Int) == 48) = false ∨ ((c0.toNat : Int) = 48 ∧ (s.toList == [48]) = true) := by
    by_cases q : c0 = 48
    · refine .inr ⟨hd48.1 q, ?_⟩
      rw [toList_data, beq_iff_eq]
      exact Classical.byContradiction fun h => hz ⟨q, h⟩
    · refine .inl ?_
      rw [beq_eq_false_iff_ne]
      exact fun e => q (hd48.2 e)
  have OK : Hid (s.data.toList.all digB = true → (numF s.data.toList : Int) = numV s.data.toList) := fun h => by
    unfold numV
    rw [if_neg, if_pos h]
    rintro (h1 | h1 | ⟨h1, h2⟩)
    · exact h0 (by rw [← size_data, h1]; rfl)
    · rw [size_data] at h1; omega
    · rw [hhd] at h1; exact hz ⟨Option.some.inj h1, h2⟩
  clear hhd hd48 hz
  rcases hz' with e3 | ⟨e3, e4⟩
  all_goals
    go_enter Tryd.func54, Tryd.ntmps54
    go_wp2_with fail
    go_loop [3, 4] (fun n v => ∃ k : Nat, k ≤ s.size ∧ v = .int .i64 k ∧ n = .int .i64 (numF (s.data.toList.take k) : Int) ∧ Hid ((s.data.toList.take k).all digB = true)) (fun _ v => s.size - (intOf v).toNat)
    case atStart => exact ⟨0, Nat.zero_le _, rfl, rfl, rfl⟩
    case round =>
      obtain ⟨k, hk, rfl, rfl, H⟩ := hrel
      have hV := numF_lt s.data.toList k (by rw [size_data]; exact hk) H.out
      have hV2 : numF (s.data.toList.take k) < 10000000000 := Nat.lt_of_lt_of_le hV (Nat.le_trans (Nat.pow_le_pow_right (by omega) (show k ≤ 10 by omega)) (by decide))
      by_cases hlt : k < s.size
      · have hxs : ∀ w', (Instr.index 9 (.string s) (.int .i64 (k : Int))).run Tryd.prog w' = .ok (.int .u8 (s[k].toNat : Int)) w' := fun w' => ix_str w' s k hlt
        have HSN := hide (show numF (s.data.toList.take (k + 1)) = numF (s.data.toList.take k) * 10 + (s[k].toNat - 48) from numF_snoc _ k (by simpa using hlt))
        have HAL : Hid ((s.data.toList.take (k + 1)).all digB = ((s.data.toList.take k).all digB && digB s[k])) := by
          show _ = _
          rw [List.take_succ_eq_append_getElem (by simpa using hlt), List.all_append]; simp; rfl
        have HB : Hid (digB s[k] = false → _) := fun h => (numV_dig hlt h).symm
        have HDG := hide (show digB s[k] = (decide (48 ≤ s[k].toNat) && decide (s[k].toNat ≤ 57)) from rfl)
        clear hV
        generalize s[k] = c at *
        generalize numF (s.data.toList.take k) = V at *
        by_cases hd1 : c.toNat < 48
        · have e5 : (c.toNat : Int) < 48 := by omega
          have E5 := hide (HB.out (by rw [HDG.out, decide_eq_false (by omega)]; rfl))
          clear HB
          go_wp2_with fail
          go_ret
          exact ⟨ret_int E5.out, rfl⟩
        · by_cases hd2 : 57 < c.toNat
          · have e5 : ¬ (c.toNat : Int) < 48 := by omega
            have e6 : (57 : Int) < (c.toNat : Int) := by omega
            have E5 := hide (HB.out (by rw [HDG.out, decide_eq_false (p := c.toNat ≤ 57) (by omega), Bool.and_false]))
            clear HB
            go_wp2_with fail
            go_ret
            exact ⟨ret_int E5.out, rfl⟩
          · have e5 : ¬ (c.toNat : Int) < 48 := by omega
            have e6 : ¬ (57 : Int) < (c.toNat : Int) := by omega
            go_wp2_with fail
            go_round
            case rel => exact ⟨k + 1, by omega, by go_num, by rw [HSN.out]; congr 1; go_num, by show _ = true; rw [HAL.out, H.out, HDG.out, decide_eq_true (by omega), decide_eq_true (by omega)]; rfl⟩
            case measure => simp [intOf]; omega
      · obtain rfl : k = s.size := by omega
        have H1 := H.out
        rw [List.take_of_length_le (by simp)] at H1 ⊢
        have E5 := hide (OK.out H1)
        clear H1 hV hV2 OK H
        go_wp2_with fail
        go_ret
        exact ⟨ret_int E5.out, rfl⟩
end Go.Proofs.YtanlnelfbfjelaaDoor
namespace Go.Proofs.YtanlnelfbfjelaaDoor
open Go.RowKit
/-- what plain.Number says of up to ten digits -/
def nmW (l : List UInt8) : Int := if okN l = true then numV l else 0
theorem nmW_bad {l : List UInt8} (h : numV l = -1) : nmW l = 0 ∧ okN l = false := by
  have e : okN l = false := by unfold okN; rw [h]; rfl
  exact ⟨by unfold nmW; rw [e]; rfl, e⟩
theorem nmW_good {l : List UInt8} {n : Nat} (h : (n : Int) = numV l) : nmW l = (n : Int) ∧ okN l = true := by
  have e : okN l = true := by unfold okN; rw [← h]; exact decide_eq_true (by omega)
  exact ⟨by unfold nmW; rw [if_pos e, h], e⟩
theorem nmW_ok {l : List UInt8} (h : okN l = true) : nmW l = numV l := by unfold nmW; rw [if_pos h]
theorem numV_le (l : List UInt8) : -1 ≤ numV l ∧ numV l < 10000000000 := by
  unfold numV
  split
  · omega
  · rename_i h
    split
    · rename_i hd
      have h10 : l.length ≤ 10 := by
        by_cases e : 10 < l.length
        · exact absurd (Or.inr (Or.inl e)) h
        · omega
      have := numF_lt l l.length (Nat.le_refl _) (by rw [List.take_length]; exact hd)
      rw [List.take_length] at this
      have h2 : (10 : Nat) ^ l.length ≤ 10 ^ 10 := Nat.pow_le_pow_right (by omega) h10
      omega
    · omega
theorem ret_nb {a b : Int} {c d : Bool} (h : a = b ∧ c = d) : Ending.returned (.tuple #[.int .i64 b, .bool d]) = .returned (.tuple #[.int .i64 a, .bool c]) := by rw [h.1, h.2]
set_option maxHeartbeats 4000000 in
set_option maxRecDepth 100000 in
theorem num10_any (s : ByteArray) (w : World) (hs : s.size < 9223372036854775808) :
    Calls Tryd.prog 49 #[.string s, .int .i64 10] w fun e w' => e = .returned (.tuple #[.int .i64 (nmW s.data.toList), .bool (okN s.data.toList)]) ∧ w = w' := by
  by_cases h0 : s.size = 0
  · have e0 : s.data.toList = [] := List.length_eq_zero_iff.1 (by rw [size_data]; exact h0)
    have HB := hide (nmW_bad (l := s.data.toList) (by unfold numV; rw [if_pos (Or.inl e0)]))
    have e1 : s.toList.isEmpty = true := by rw [toList_data, e0]; rfl
    clear e0
    go_enter Tryd.func49, Tryd.ntmps49
    go_wp2_with fail
    go_ret2
    exact ⟨ret_nb HB.out, rfl⟩
  have e1 : s.toList.isEmpty = false := by
    rw [toList_data, List.isEmpty_eq_false_iff]
    intro h; apply h0; rw [← size_data, h]; rfl
  by_cases h16 : 10 < s.size
  · have HB := hide (nmW_bad (l := s.data.toList) (by unfold numV; rw [if_pos (Or.inr (Or.inl (by rw [size_data]; exact h16)))]))
    have e2 : (10 : Int) < (s.size : Int) := by omega
    go_enter Tryd.func49, Tryd.ntmps49
    go_wp2_with fail
    go_ret2
    exact ⟨ret_nb HB.out, rfl⟩
  have e2 : ¬ (10 : Int) < (s.size : Int) := by omega
  have hp : 0 < s.size := by omega
  have hx0 : ∀ w', (Instr.index 9 (.string s) (.int .i64 0)).run Tryd.prog w' = .ok (.int .u8 ((s[0]'hp).toNat : Int)) w' := fun w' => ix_str w' s 0 hp
  have hhd : s.data.toList.head? = some (s[0]'hp) := by
    rw [List.head?_eq_getElem?]; exact Lib.data_getElem? s 0 hp
  have hd48 : ((s[0]'hp) = 48 ↔ (((s[0]'hp).toNat : Int) = 48)) := by
    constructor
    · intro h; rw [h]; rfl
    · intro h; rw [← UInt8.toNat_inj]; show _ = 48; omega
  generalize hc0 : (s[0]'hp) = c0 at *
  by_cases hz : c0 = 48 ∧ s.data.toList ≠ [48]
  · have HB := hide (nmW_bad (l := s.data.toList) (by unfold numV; rw [if_pos (Or.inr (Or.inr ⟨by rw [hhd, hz.1], hz.2⟩))]))
    have e3 : (c0.toNat : Int) = 48 := hd48.1 hz.1
    have e4 : (s.toList == [48]) = false := by rw [toList_data, beq_eq_false_iff_ne]; exact hz.2
    clear hz hhd hd48
    go_enter Tryd.func49, Tryd.ntmps49
    go_wp2_with fail
    go_ret2
    exact ⟨ret_nb HB.out, rfl⟩
  have hz' : ((c0.toNat : Int) == 48) = false ∨ ((c0.toNat : Int) = 48 ∧ (s.toList == [48]) = true) := by
    by_cases q : c0 = 48
    · refine .inr ⟨hd48.1 q, ?_⟩
      rw [toList_data, beq_iff_eq]
      exact Classical.byContradiction fun h => hz ⟨q, h⟩
    · refine .inl ?_
      rw [beq_eq_false_iff_ne]
      exact fun e => q (hd48.2 e)
  have OK : Hid (s.data.toList.all digB = true → (numF s.data.toList : Int) = numV s.data.toList) := fun h => by
    unfold numV
    rw [if_neg, if_pos h]
    rintro (h1 | h1 | ⟨h1, h2⟩)
    · exact h0 (by rw [← size_data, h1]; rfl)
    · rw [size_data] at h1; omega
    · rw [hhd] at h1; exact hz ⟨Option.some.inj h1, h2⟩
  clear hhd hd48 hz
  rcases hz' with e3 | ⟨e3, e4⟩
  all_goals
    go_enter Tryd.func49, Tryd.ntmps49
    go_wp2_with fail
    go_loopw [6, 7, 27] (fun n _ v wr => ∃ k : Nat, k ≤ s.size ∧ v = .int .i64 k ∧ n = .int .i64 (numF (s.data.toList.take k) : Int) ∧ Hid ((s.data.toList.take k).all digB = true) ∧ w = wr) (fun _ _ v _ => s.size - (intOf v).toNat)
    case atStart => exact ⟨0, Nat.zero_le _, rfl, rfl, rfl, rfl⟩
    case round =>
      obtain ⟨k, hk, rfl, rfl, H, hW⟩ := hrel
      subst hW
      have hV := numF_lt s.data.toList k (by rw [size_data]; exact hk) H.out
      have hV2 : numF (s.data.toList.take k) < 10000000000 := Nat.lt_of_lt_of_le hV (Nat.le_trans (Nat.pow_le_pow_right (by omega) (show k ≤ 10 by omega)) (by decide))
      by_cases hlt : k < s.size
      · have hxs : ∀ w', (Instr.index 9 (.string s) (.int .i64 (k : Int))).run Tryd.prog w' = .ok (.int .u8 (s[k].toNat : Int)) w' := fun w' => ix_str w' s k hlt
        have HSN := hide (show numF (s.data.toList.take (k + 1)) = numF (s.data.toList.take k) * 10 + (s[k].toNat - 48) from numF_snoc _ k (by simpa using hlt))
        have HAL : Hid ((s.data.toList.take (k + 1)).all digB = ((s.data.toList.take k).all digB && digB s[k])) := by
          show _ = _
          rw [List.take_succ_eq_append_getElem (by simpa using hlt), List.all_append]; simp; rfl
        have HB : Hid (digB s[k] = false → _) := fun h => nmW_bad (numV_dig hlt h)
        have HDG := hide (show digB s[k] = (decide (48 ≤ s[k].toNat) && decide (s[k].toNat ≤ 57)) from rfl)
        clear hV
        generalize s[k] = c at *
        generalize numF (s.data.toList.take k) = V at *
        by_cases hd1 : c.toNat < 48
        · have e5 : (c.toNat : Int) < 48 := by omega
          have E5 := hide (HB.out (by rw [HDG.out, decide_eq_false (by omega)]; rfl))
          clear HB
          go_wp2_with fail
          go_ret2
          exact ⟨ret_nb E5.out, rfl⟩
        · by_cases hd2 : 57 < c.toNat
          · have e5 : ¬ (c.toNat : Int) < 48 := by omega
            have e6 : (57 : Int) < (c.toNat : Int) := by omega
            have E5 := hide (HB.out (by rw [HDG.out, decide_eq_false (p := c.toNat ≤ 57) (by omega), Bool.and_false]))
            clear HB
            go_wp2_with fail
            go_ret2
            exact ⟨ret_nb E5.out, rfl⟩
          · have e5 : ¬ (c.toNat : Int) < 48 := by omega
            have e6 : ¬ (57 : Int) < (c.toNat : Int) := by omega
            go_wp2_with fail
            go_roundw
            case rel => exact ⟨k + 1, by omega, by go_num, by rw [HSN.out]; congr 1; omega, by show _ = true; rw [HAL.out, H.out, HDG.out, decide_eq_true (by omega), decide_eq_true (by omega)]; rfl, trivial⟩
            case measure => simp [intOf]; omega
      · obtain rfl : k = s.size := by omega
        have H1 := H.out
        rw [List.take_of_length_le (by simp)] at H1 ⊢
        have E5 := hide (nmW_good (OK.out H1))
        clear H1 hV hV2 OK H
        go_wp2_with fail
        go_ret2
        exact ⟨ret_nb E5.out, rfl⟩
end Go.Proofs.YtanlnelfbfjelaaDoor
namespace Go.Proofs.YtanlnelfbfjelaaDoor
open Go.RowKit
def TabW (w : World) : Prop := ∀ i, i < 21 → w.cell? ⟨1, i, none⟩ = some (.string (strOf (swd i)))
theorem TabW.below {w w' : World} (h : TabW w) (hb : Below w.heap.size w w') : TabW w' := fun i hi => (hb.cell (p := ⟨1, i, none⟩) (World.block_lt_of_cell? w _ (h i hi))).trans (h i hi)
end Go.Proofs.YtanlnelfbfjelaaDoor
