import Derived.WalkKit
import Derived.WalkSpells
import Derived.WalkLawsBesides
import Derived.Laws.BytesArg
import Derived.Laws.IdiomStrings
import Derived.Maps.AppendAt
import Derived.Laws.OwnMore
import Derived.Test.YtanceiiaecbknaaDoorGnPure
import Derived.Test.YtanceiiaecbknaaDoorGnShelf
import Derived.Deep.RegionHeld3
import Derived.ProofKit
namespace Go.Proofs.YtanceiiaecbknaaDoor
open Go.RowKit
theorem hide {p : Prop} (h : p) : Hid p := h
theorem unh {p : Prop} (h : Hid p) : p := h
theorem ret_bool {a b : Bool} (h : a = b) : Ending.returned (.bool a) = .returned (.bool b) := by rw [h]
theorem ret_str {a b : ByteArray} (h : a = b) : Ending.returned (.string a) = .returned (.string b) := by rw [h]
theorem u8_in {x : Int} (h0 : 0 ≤ x) (h1 : x < 256) : IntKind.u8.wrap x = x := by
  simp [IntKind.wrap, IntKind.signed, IntKind.bits]; omega
theorem u32_in {x : Int} (h0 : 0 ≤ x) (h1 : x < 4294967296) : IntKind.u32.wrap x = x := by
  simp [IntKind.wrap, IntKind.signed, IntKind.bits]; omega
theorem u32_add (x y : Nat) : IntKind.u32.wrap ((x : Int) + (y : Int)) = (((x + y) % 4294967296 : Nat) : Int) := by
  simp [IntKind.wrap, IntKind.signed, IntKind.bits]
/-- a byte as a cell -/
def ub (b : UInt8) : Value := .int .u8 (b.toNat : Int)
def strOf (l : List UInt8) : ByteArray := ⟨l.toArray⟩
theorem strOf_data (l : List UInt8) : (strOf l).data.toList = l := rfl
theorem strOf_size (l : List UInt8) : (strOf l).size = l.length := by simp [strOf, ByteArray.size]
theorem strOf_toList (s : ByteArray) : strOf s.data.toList = s := by cases s; rfl
theorem strOf_inj {a b : List UInt8} (h : strOf a = strOf b) : a = b := by
  have := congrArg (fun x => x.data.toList) h
  simpa [strOf] using this
theorem size_data (s : ByteArray) : s.data.toList.length = s.size := by simp
theorem eq_beq (a b : ByteArray) : (a.toList == b.toList) = decide (a = b) := by
  rw [ByteArray.toList_eq, ByteArray.toList_eq, Bool.eq_iff_iff]
  simp
  constructor
  · intro h
    cases a; cases b; simp at h; rw [h]
  · intro h; rw [h]
theorem oneCells (l : List UInt8) : ∀ u ∈ l.map ub, u.oneCell' = true := by
  intro u hu
  obtain ⟨x, _, rfl⟩ := List.mem_map.1 hu
  rfl
theorem cell_two_new (w : World) (x y : Value) (t : TypeId) : ∀ j u, [x, y][j]? = some u → (w.alloc (.cells #[x, y] t)).cell? ((⟨w.heap.size, 0, none⟩ : Addr).add j) = some u := by
  intro j u hj
  match j, hj with
  | 0, hj => simp at hj; subst hj; simp [Addr.add]
  | 1, hj => simp at hj; subst hj; simp [Addr.add]
  | (j + 2), hj => simp at hj
/-- string(out), out a row of the call's own -/
theorem own_conv {P : Program} {w : World} {base e src dst n : Nat} {v : Value} {l : List UInt8} (h : w.ownsRow base e 1 v n (l.map ub)) (hn : n = l.length) (hs : P.underlying src = some (.slice e)) (he : P.underlying e = some (.int .u8)) (hd : P.underlying dst = some .string) :
    (convert src dst v).run P w = .ok (.string (strOf l)) w := by
  subst hn
  rcases h.2 with ⟨hv, h0⟩ | ⟨g, cap, cur, hv, hg, hblk, hn, hc, hcs, htake⟩
  · subst hv
    rw [run_convert_bytes_nil w src e hs he 0 0 dst hd]
    have : l = [] := by
      have := h.1
      cases l with
      | nil => rfl
      | cons a t => simp at h0
    subst this
    rfl
  · subst hv
    exact run_convert_bytes_back w src dst e ⟨g, 0, none⟩ cap l hs he hd (fun j hj => by
      have := h.cellAt j (by simpa using hj)
      have e0 : (⟨g, 0, none⟩ : Addr).add j = ⟨g, j, none⟩ := by simp [Addr.add]; omega
      rw [e0]
      simpa [hj, ub] using this)
/-- the digit of a half byte -/
def hd (n : Nat) : UInt8 := if n < 10 then UInt8.ofNat (48 + n) else UInt8.ofNat (87 + n)
def hexL : List UInt8 → List UInt8
  | [] => []
  | b :: r => hd (b.toNat / 16) :: hd (b.toNat % 16) :: hexL r
theorem hexL_len (l : List UInt8) : (hexL l).length = 2 * l.length := by
  induction l with
  | nil => rfl
  | cons b r ih => simp only [hexL, List.length_cons, ih]; omega
theorem hexL_append (a b : List UInt8) : hexL (a ++ b) = hexL a ++ hexL b := by
  induction a with
  | nil => rfl
  | cons x r ih => simp [hexL, ih]
theorem hexL_snoc (l : List UInt8) (k : Nat) (h : k < l.length) : hexL (l.take (k + 1)) = hexL (l.take k) ++ [hd (l[k].toNat / 16), hd (l[k].toNat % 16)] := by
  rw [List.take_succ_eq_append_getElem h, hexL_append]
  rfl
def digs : ByteArray := ⟨#[48, 49, 50, 51, 52, 53, 54, 55, 56, 57, 97, 98, 99, 100, 101, 102]⟩
theorem digs_get (n : Nat) (h : n < 16) (h' : n < digs.size) : digs[n] = hd n := by
  have : ∀ m : Fin 16, digs[m.1]'(by simp [digs, ByteArray.size]) = hd m.1 := by decide
  exact this ⟨n, h⟩
/-- the half byte that a digit stands for -/
def unhd (c : UInt8) : Option Nat := if 48 ≤ c.toNat ∧ c.toNat ≤ 57 then some (c.toNat - 48) else if 97 ≤ c.toNat ∧ c.toNat ≤ 102 then some (c.toNat - 87) else none
def unhexL : List UInt8 → Option (List UInt8)
  | [] => some []
  | [_] => none
  | a :: b :: r => match unhd a, unhd b, unhexL r with
    | some x, some y, some t => some (UInt8.ofNat (16 * x + y) :: t)
    | _, _, _ => none
theorem unhd_lt {c : UInt8} {x : Nat} (h : unhd c = some x) : x < 16 := by
  unfold unhd at h
  split at h
  · simp at h; omega
  · split at h
    · simp at h; omega
    · simp at h
theorem unhd_hd : ∀ n : Fin 16, unhd (hd n.1) = some n.1 := by decide
theorem unhex_hex (l : List UInt8) : unhexL (hexL l) = some l := by
  induction l with
  | nil => rfl
  | cons b r ih =>
    have hb := b.toNat_lt
    have h1 : unhd (hd (b.toNat / 16)) = some (b.toNat / 16) := unhd_hd ⟨b.toNat / 16, by omega⟩
    have h2 : unhd (hd (b.toNat % 16)) = some (b.toNat % 16) := unhd_hd ⟨b.toNat % 16, by omega⟩
    simp only [hexL, unhexL, h1, h2, ih]
    congr 2
    rw [← UInt8.toNat_inj, UInt8.toNat_ofNat']
    omega
theorem unhex_odd (l : List UInt8) (h : l.length % 2 = 1) : unhexL l = none := by
  induction h' : l.length using Nat.strongRecOn generalizing l with
  | ind n ih =>
    match l with
    | [] => simp at h
    | [_] => rfl
    | a :: b :: r =>
      simp only [List.length_cons] at h h'
      have := ih r.length (by omega) r (by omega) rfl
      simp only [unhexL, this]
      cases unhd a <;> cases unhd b <;> rfl
/-- the value that both Unhex answer -/
def unS (l : List UInt8) : ByteArray := strOf ((unhexL l).getD [])
def unE (l : List UInt8) : Int := if (unhexL l).isSome then 0 else 20
/-- the first k pairs read well -/
theorem unhexL_append (a b : List UInt8) (h : a.length % 2 = 0) : unhexL (a ++ b) = (unhexL a).bind fun x => (unhexL b).map (x ++ ·) := by
  induction h' : a.length using Nat.strongRecOn generalizing a with
  | ind n ih =>
    match a with
    | [] => simp [unhexL]
    | [_] => simp at h
    | x :: y :: r =>
      simp only [List.length_cons] at h h'
      have := ih r.length (by omega) r (by omega) rfl
      simp only [List.cons_append, unhexL, this]
      cases unhd x <;> cases unhd y <;> cases unhexL r <;> cases unhexL b <;> simp
theorem take_two (l : List UInt8) (k : Nat) (h : 2 * k + 1 < l.length) : l.take (2 * (k + 1)) = l.take (2 * k) ++ [l[2 * k], l[2 * k + 1]] := by
  rw [show 2 * (k + 1) = 2 * k + 1 + 1 by omega, List.take_succ_eq_append_getElem h, List.take_succ_eq_append_getElem (show 2 * k < l.length by omega), List.append_assoc]
  rfl
theorem unhex_step (l : List UInt8) (k : Nat) (h : 2 * k + 1 < l.length) {t : List UInt8} {x y : Nat} (ht : unhexL (l.take (2 * k)) = some t) (hx : unhd l[2 * k] = some x) (hy : unhd l[2 * k + 1] = some y) :
    unhexL (l.take (2 * (k + 1))) = some (t ++ [UInt8.ofNat (16 * x + y)]) := by
  rw [take_two l k h, unhexL_append _ _ (by rw [List.length_take]; omega), ht]
  simp [unhexL, hx, hy]
theorem unhex_bad (l : List UInt8) (k : Nat) (h : 2 * k + 1 < l.length) (hb : unhd l[2 * k] = none ∨ unhd l[2 * k + 1] = none) : unhexL l = none := by
  have e : l = l.take (2 * k) ++ (l[2 * k] :: l[2 * k + 1] :: l.drop (2 * k + 2)) := by
    conv => lhs; rw [← List.take_append_drop (2 * k) l, List.drop_eq_getElem_cons (by omega), List.drop_eq_getElem_cons (by omega)]
  rw [e, unhexL_append _ _ (by rw [List.length_take]; omega)]
  have : unhexL (l[2 * k] :: l[2 * k + 1] :: l.drop (2 * k + 2)) = none := by
    unfold unhexL
    rcases hb with hb | hb <;> rw [hb]
    cases unhd l[2 * k] <;> rfl
  rw [this]
  cases unhexL (l.take (2 * k)) <;> rfl
theorem unhex_len {l t : List UInt8} (h : unhexL l = some t) : l.length = 2 * t.length := by
  induction h' : l.length using Nat.strongRecOn generalizing l t with
  | ind n ih =>
    match l with
    | [] => simp [unhexL] at h; subst h; simp at h'; simp; omega
    | [_] => simp [unhexL] at h
    | a :: b :: r =>
      simp only [List.length_cons] at h'
      unfold unhexL at h
      split at h
      · rename_i x y t' h1 h2 h3
        have := ih r.length (by omega) h3 rfl
        simp at h
        subst h
        simp only [List.length_cons]
        omega
      · simp at h
theorem hd_unhd {c : UInt8} {x : Nat} (h : unhd c = some x) : hd x = c := by
  unfold unhd at h
  rw [← UInt8.toNat_inj]
  have := c.toNat_lt
  split at h
  · simp at h; subst h
    unfold hd; rw [if_pos (by omega), UInt8.toNat_ofNat']; omega
  · split at h
    · simp at h; subst h
      unfold hd; rw [if_neg (by omega), UInt8.toNat_ofNat']; omega
    · simp at h
theorem hex_unhex {l t : List UInt8} (h : unhexL l = some t) : hexL t = l := by
  induction h' : l.length using Nat.strongRecOn generalizing l t with
  | ind n ih =>
    match l with
    | [] => simp [unhexL] at h; subst h; rfl
    | [_] => simp [unhexL] at h
    | a :: b :: r =>
      simp only [List.length_cons] at h'
      unfold unhexL at h
      split at h
      · rename_i x y t' h1 h2 h3
        have h4 := ih r.length (by omega) h3 rfl
        have hx := unhd_lt h1
        have hy := unhd_lt h2
        replace h := Option.some.inj h
        subst h
        have e : (UInt8.ofNat (16 * x + y)).toNat = 16 * x + y := by rw [UInt8.toNat_ofNat']; omega
        simp only [hexL, e, h4]
        rw [show (16 * x + y) / 16 = x by omega, show (16 * x + y) % 16 = y by omega, hd_unhd h1, hd_unhd h2]
      · simp at h
end Go.Proofs.YtanceiiaecbknaaDoor
namespace Go.Proofs.YtanceiiaecbknaaDoor
open Go.RowKit Go.Shelf
theorem ba_eq {a b : ByteArray} (h : a.data.toList = b.data.toList) : a = b := by rw [← strOf_toList a, h, strOf_toList]
theorem ba_app (a b : ByteArray) : (a ++ b).data.toList = a.data.toList ++ b.data.toList := by simp
set_option maxHeartbeats 1000000 in
set_option maxRecDepth 100000 in
/-- mayBe -/
theorem mayBe_any (p r c : Int) (d : Bool) (w : World) :
    Calls Tryd.prog 9 #[.agg #[.int .i64 p, .int .i64 r, .int .i64 c, .bool d]] w fun e w' => e = .returned (.bool (isVal p r c)) ∧ Below w.heap.size w w' := by
  by_cases h1 : 0 ≤ p
  case pos =>
    by_cases h2 : p < 64
    case pos =>
      by_cases h3 : 0 ≤ r
      case pos =>
        by_cases h4 : r < 16
        case pos =>
          by_cases h5 : 0 ≤ c
          case pos =>
            by_cases h6 : c < 16
            case pos =>
              have E := hide (show isVal p r c = true from decide_eq_true ⟨h1, h2, h3, h4, h5, h6⟩)
              go_enter Tryd.func9, Tryd.ntmps9
              go_wp2
              go_ret
              exact ⟨ret_bool E.out.symm, (Below.refl _ _).alloc (Nat.le_refl _) _⟩
            case neg =>
              have E := hide (show isVal p r c = false from decide_eq_false (by omega))
              go_enter Tryd.func9, Tryd.ntmps9
              go_wp2
              go_ret
              exact ⟨ret_bool E.out.symm, (Below.refl _ _).alloc (Nat.le_refl _) _⟩
          case neg =>
            have E := hide (show isVal p r c = false from decide_eq_false (by omega))
            go_enter Tryd.func9, Tryd.ntmps9
            go_wp2
            go_ret
            exact ⟨ret_bool E.out.symm, (Below.refl _ _).alloc (Nat.le_refl _) _⟩
        case neg =>
          have E := hide (show isVal p r c = false from decide_eq_false (by omega))
          go_enter Tryd.func9, Tryd.ntmps9
          go_wp2
          go_ret
          exact ⟨ret_bool E.out.symm, (Below.refl _ _).alloc (Nat.le_refl _) _⟩
      case neg =>
        have E := hide (show isVal p r c = false from decide_eq_false (by omega))
        go_enter Tryd.func9, Tryd.ntmps9
        go_wp2
        go_ret
        exact ⟨ret_bool E.out.symm, (Below.refl _ _).alloc (Nat.le_refl _) _⟩
    case neg =>
      have E := hide (show isVal p r c = false from decide_eq_false (by omega))
      go_enter Tryd.func9, Tryd.ntmps9
      go_wp2
      go_ret
      exact ⟨ret_bool E.out.symm, (Below.refl _ _).alloc (Nat.le_refl _) _⟩
  case neg =>
    have E := hide (show isVal p r c = false from decide_eq_false (by omega))
    go_enter Tryd.func9, Tryd.ntmps9
    go_wp2
    go_ret
    exact ⟨ret_bool E.out.symm, (Below.refl _ _).alloc (Nat.le_refl _) _⟩
set_option maxHeartbeats 4000000 in
set_option maxRecDepth 100000 in
set_option linter.unusedSimpArgs false in
/-- titleOf -/
theorem titleOf_any (p r c : Nat) (d : Bool) (hp : p < 100) (hr : r < 100) (hc : c < 100) (w : World) :
    Calls Tryd.prog 10 #[.agg #[.int .i64 (p : Int), .int .i64 (r : Int), .int .i64 (c : Int), .bool d]] w fun e w' => e = .returned (.agg #[.string (strOf (dd p)), .string (strOf (dd r)), .string (strOf (dd c)), .string (strOf (endW d))]) ∧ Below w.heap.size w w' := by
  cases d with
  | true =>
    obtain ⟨W0, hW0⟩ : ∃ W0, W0 = (w.alloc (.cells #[.int .i64 (p : Int), .int .i64 (r : Int), .int .i64 (c : Int), .bool true] 23)).alloc (.cells #[.string ⟨#[]⟩, .string ⟨#[]⟩, .string ⟨#[]⟩, .string ⟨#[]⟩] 37) := ⟨_, rfl⟩
    have b0 : Below w.heap.size w W0 := by rw [hW0]; exact ((Below.refl _ w).alloc (Nat.le_refl _) _).alloc (by simp) _
    have s0 : W0.heap.size = w.heap.size + 2 := by rw [hW0]; simp
    have Q0 : Hid (∀ w', Below W0.heap.size W0 w' → w'.cell? ⟨w.heap.size, 0, none⟩ = some (.int .i64 (p : Int)) ∧ w'.cell? ⟨w.heap.size, 1, none⟩ = some (.int .i64 (r : Int)) ∧ w'.cell? ⟨w.heap.size, 2, none⟩ = some (.int .i64 (c : Int))) := fun w' hb => by
      rw [hb.cell (by show w.heap.size < _; omega), hb.cell (by show w.heap.size < _; omega), hb.cell (by show w.heap.size < _; omega), hW0]
      exact ⟨by simp, by simp, by simp⟩
    have I1 := hide (fun w' => Tryd.strconv_Itoa_small p hp w')
    have I2 := hide (fun w' => Tryd.strconv_Itoa_small r hr w')
    have I3 := hide (fun w' => Tryd.strconv_Itoa_small c hc w')
    have e0 : strOf (endW true) = ⟨#[100, 97, 116, 97]⟩ := rfl
    rw [e0]
    unfold strOf dd
    generalize Lib.decDigits p = X1 at *
    generalize Lib.decDigits r = X2 at *
    generalize Lib.decDigits c = X3 at *
    go_enter Tryd.func10, Tryd.ntmps10
    go_wp2
    rw [← hW0]
    have BW := hide (Below.refl W0.heap.size W0).drew
    refine wp_region_held_drew (S := fun w' => w'.cell? ⟨w.heap.size, 0, none⟩ = some (.int .i64 (p : Int)) ∧ w'.cell? ⟨w.heap.size, 1, none⟩ = some (.int .i64 (r : Int)) ∧ w'.cell? ⟨w.heap.size, 2, none⟩ = some (.int .i64 (c : Int))) (by kernel_rfl) (Q0.out _ BW.out) (fun hHeld => ?_)
    refine wpAnyH_take (i := 0) (v := (.pointer (some ⟨w.heap.size, 0, none⟩))) rfl (by kernel_rfl) (by kernel_rfl) (by kernel_rfl) (fun _ _ _ h => h) (Or.inl ⟨by rfl, ?_⟩) (by assumption) ?_
    · intro w' hSw
      (try dsimp only at hSw)
      go_simp <;> first | exact i64_in (by omega) (by omega) | exact u32_in (by omega) (by omega) | exact u32_add _ _ | (rw [Int.tmod_eq_emod_of_nonneg (by omega)]; omega) | (rw [Int.tdiv_eq_ediv_of_nonneg (by omega)]; omega) | omega
    (try simp only [Act.put, List.setIfInBounds_toArray, List.set_cons_zero, List.set_cons_succ])
    refine wpAnyH_take (i := 1) (v := (.int .i64 (p : Int))) rfl (by kernel_rfl) (by kernel_rfl) (by kernel_rfl) (fun _ _ _ h => h) (Or.inl ⟨by rfl, ?_⟩) (by assumption) ?_
    · intro w' hSw
      (try dsimp only at hSw)
      (obtain ⟨hS1, hS2, hS3⟩ := hSw; go_simp)
    (try simp only [Act.put, List.setIfInBounds_toArray, List.set_cons_zero, List.set_cons_succ])
    refine wpAnyH_take (i := 3) (v := (.pointer (some ⟨w.heap.size, 1, none⟩))) rfl (by kernel_rfl) (by kernel_rfl) (by kernel_rfl) (fun _ _ _ h => h) (Or.inl ⟨by rfl, ?_⟩) (by assumption) ?_
    · intro w' hSw
      (try dsimp only at hSw)
      go_simp <;> first | exact i64_in (by omega) (by omega) | exact u32_in (by omega) (by omega) | exact u32_add _ _ | (rw [Int.tmod_eq_emod_of_nonneg (by omega)]; omega) | (rw [Int.tdiv_eq_ediv_of_nonneg (by omega)]; omega) | omega
    (try simp only [Act.put, List.setIfInBounds_toArray, List.set_cons_zero, List.set_cons_succ])
    refine wpAnyH_take (i := 4) (v := (.int .i64 (r : Int))) rfl (by kernel_rfl) (by kernel_rfl) (by kernel_rfl) (fun _ _ _ h => h) (Or.inl ⟨by rfl, ?_⟩) (by assumption) ?_
    · intro w' hSw
      (try dsimp only at hSw)
      (obtain ⟨hS1, hS2, hS3⟩ := hSw; go_simp)
    (try simp only [Act.put, List.setIfInBounds_toArray, List.set_cons_zero, List.set_cons_succ])
    refine wpAnyH_take (i := 6) (v := (.pointer (some ⟨w.heap.size, 2, none⟩))) rfl (by kernel_rfl) (by kernel_rfl) (by kernel_rfl) (fun _ _ _ h => h) (Or.inl ⟨by rfl, ?_⟩) (by assumption) ?_
    · intro w' hSw
      (try dsimp only at hSw)
      go_simp <;> first | exact i64_in (by omega) (by omega) | exact u32_in (by omega) (by omega) | exact u32_add _ _ | (rw [Int.tmod_eq_emod_of_nonneg (by omega)]; omega) | (rw [Int.tdiv_eq_ediv_of_nonneg (by omega)]; omega) | omega
    (try simp only [Act.put, List.setIfInBounds_toArray, List.set_cons_zero, List.set_cons_succ])
    refine wpAnyH_take (i := 7) (v := (.int .i64 (c : Int))) rfl (by kernel_rfl) (by kernel_rfl) (by kernel_rfl) (fun _ _ _ h => h) (Or.inl ⟨by rfl, ?_⟩) (by assumption) ?_
    · intro w' hSw
      (try dsimp only at hSw)
      (obtain ⟨hS1, hS2, hS3⟩ := hSw; go_simp)
    (try simp only [Act.put, List.setIfInBounds_toArray, List.set_cons_zero, List.set_cons_succ])
    refine wpAnyH_take (i := 9) (v := (.string ⟨#[100, 97, 116, 97]⟩)) rfl (by kernel_rfl) (by kernel_rfl) (by kernel_rfl) (fun _ _ _ h => h) (Or.inl ⟨by rfl, ?_⟩) (by assumption) ?_
    · intro w' hSw
      (try dsimp only at hSw)
      go_simp <;> first | exact i64_in (by omega) (by omega) | exact u32_in (by omega) (by omega) | exact u32_add _ _ | (rw [Int.tmod_eq_emod_of_nonneg (by omega)]; omega) | (rw [Int.tdiv_eq_ediv_of_nonneg (by omega)]; omega) | omega
    (try simp only [Act.put, List.setIfInBounds_toArray, List.set_cons_zero, List.set_cons_succ])
    refine wpAnyH_ready (rs := [2]) (by kernel_rfl) (by simp) ?_
    refine AllReadyH.cons rfl (fun K hK => ?_) AllReadyH.nil
    go_simp
    refine Calls.mono (I1.out _) ?_
    rintro x w2 ⟨rfl, rfl⟩
    refine hK.out _ _ ((by rw [← hW0]; exact Q0.out _ BW.out)) (fun hHeld => ?_)
    clear hK
    (try simp only [Act.put, List.setIfInBounds_toArray, List.set_cons_zero, List.set_cons_succ])
    refine wpAnyH_ready (rs := [5]) (by kernel_rfl) (by simp) ?_
    refine AllReadyH.cons rfl (fun K hK => ?_) AllReadyH.nil
    go_simp
    refine Calls.mono (I2.out _) ?_
    rintro x w3 ⟨rfl, rfl⟩
    refine hK.out _ _ ((by rw [← hW0]; exact Q0.out _ BW.out)) (fun hHeld => ?_)
    clear hK
    (try simp only [Act.put, List.setIfInBounds_toArray, List.set_cons_zero, List.set_cons_succ])
    refine wpAnyH_ready (rs := [8]) (by kernel_rfl) (by simp) ?_
    refine AllReadyH.cons rfl (fun K hK => ?_) AllReadyH.nil
    go_simp
    refine Calls.mono (I3.out _) ?_
    rintro x w4 ⟨rfl, rfl⟩
    refine hK.out _ _ ((by rw [← hW0]; exact Q0.out _ BW.out)) (fun hHeld => ?_)
    clear hK
    (try simp only [Act.put, List.setIfInBounds_toArray, List.set_cons_zero, List.set_cons_succ])
    refine wpAnyH_take (i := 10) (v := (.agg #[.string ⟨X1.toArray⟩, .string ⟨X2.toArray⟩, .string ⟨X3.toArray⟩, .string ⟨#[100, 97, 116, 97]⟩])) rfl (by kernel_rfl) (by kernel_rfl) (by kernel_rfl) (fun _ _ _ h => h) (Or.inl ⟨by rfl, ?_⟩) (by assumption) ?_
    · intro w' hSw
      (try dsimp only at hSw)
      go_simp <;> first | exact i64_in (by omega) (by omega) | exact u32_in (by omega) (by omega) | exact u32_add _ _ | (rw [Int.tmod_eq_emod_of_nonneg (by omega)]; omega) | (rw [Int.tdiv_eq_ediv_of_nonneg (by omega)]; omega) | omega
    (try simp only [Act.put, List.setIfInBounds_toArray, List.set_cons_zero, List.set_cons_succ])
    refine wpAnyH_ready (rs := [11]) (by kernel_rfl) (by simp) ?_
    refine AllReadyH.cons rfl (fun K hK => ?_) AllReadyH.nil
    go_simp
    refine hK.out _ _ (⟨by simp, by simp, by simp⟩) (fun hHeld => ?_)
    clear hK
    (try simp only [Act.put, List.setIfInBounds_toArray, List.set_cons_zero, List.set_cons_succ])
    refine wpAnyH_done (by kernel_rfl) ?_ _
    clear hHeld
    go_wp2
    refine bodyPost_ret (v := .agg #[.string ⟨X1.toArray⟩, .string ⟨X2.toArray⟩, .string ⟨X3.toArray⟩, .string ⟨#[100, 97, 116, 97]⟩]) (by simp [results, Tryd.results10, go_sem]) rfl ⟨rfl, ?_⟩
    exact (((Below.refl _ w).alloc (Nat.le_refl _) _).alloc (by simp) _).drew
  | false =>
    obtain ⟨W0, hW0⟩ : ∃ W0, W0 = (w.alloc (.cells #[.int .i64 (p : Int), .int .i64 (r : Int), .int .i64 (c : Int), .bool false] 23)).alloc (.cells #[.string ⟨#[]⟩, .string ⟨#[]⟩, .string ⟨#[]⟩, .string ⟨#[]⟩] 37) := ⟨_, rfl⟩
    have b0 : Below w.heap.size w W0 := by rw [hW0]; exact ((Below.refl _ w).alloc (Nat.le_refl _) _).alloc (by simp) _
    have s0 : W0.heap.size = w.heap.size + 2 := by rw [hW0]; simp
    have Q0 : Hid (∀ w', Below W0.heap.size W0 w' → w'.cell? ⟨w.heap.size, 0, none⟩ = some (.int .i64 (p : Int)) ∧ w'.cell? ⟨w.heap.size, 1, none⟩ = some (.int .i64 (r : Int)) ∧ w'.cell? ⟨w.heap.size, 2, none⟩ = some (.int .i64 (c : Int))) := fun w' hb => by
      rw [hb.cell (by show w.heap.size < _; omega), hb.cell (by show w.heap.size < _; omega), hb.cell (by show w.heap.size < _; omega), hW0]
      exact ⟨by simp, by simp, by simp⟩
    have I1 := hide (fun w' => Tryd.strconv_Itoa_small p hp w')
    have I2 := hide (fun w' => Tryd.strconv_Itoa_small r hr w')
    have I3 := hide (fun w' => Tryd.strconv_Itoa_small c hc w')
    have e0 : strOf (endW false) = ⟨#[105, 110, 100, 101, 120]⟩ := rfl
    rw [e0]
    unfold strOf dd
    generalize Lib.decDigits p = X1 at *
    generalize Lib.decDigits r = X2 at *
    generalize Lib.decDigits c = X3 at *
    go_enter Tryd.func10, Tryd.ntmps10
    go_wp2
    rw [← hW0]
    have BW := hide (Below.refl W0.heap.size W0).drew
    refine wp_region_held_drew (S := fun w' => w'.cell? ⟨w.heap.size, 0, none⟩ = some (.int .i64 (p : Int)) ∧ w'.cell? ⟨w.heap.size, 1, none⟩ = some (.int .i64 (r : Int)) ∧ w'.cell? ⟨w.heap.size, 2, none⟩ = some (.int .i64 (c : Int))) (by kernel_rfl) (Q0.out _ BW.out) (fun hHeld => ?_)
    refine wpAnyH_take (i := 0) (v := (.pointer (some ⟨w.heap.size, 0, none⟩))) rfl (by kernel_rfl) (by kernel_rfl) (by kernel_rfl) (fun _ _ _ h => h) (Or.inl ⟨by rfl, ?_⟩) (by assumption) ?_
    · intro w' hSw
      (try dsimp only at hSw)
      go_simp <;> first | exact i64_in (by omega) (by omega) | exact u32_in (by omega) (by omega) | exact u32_add _ _ | (rw [Int.tmod_eq_emod_of_nonneg (by omega)]; omega) | (rw [Int.tdiv_eq_ediv_of_nonneg (by omega)]; omega) | omega
    (try simp only [Act.put, List.setIfInBounds_toArray, List.set_cons_zero, List.set_cons_succ])
    refine wpAnyH_take (i := 1) (v := (.int .i64 (p : Int))) rfl (by kernel_rfl) (by kernel_rfl) (by kernel_rfl) (fun _ _ _ h => h) (Or.inl ⟨by rfl, ?_⟩) (by assumption) ?_
    · intro w' hSw
      (try dsimp only at hSw)
      (obtain ⟨hS1, hS2, hS3⟩ := hSw; go_simp)
    (try simp only [Act.put, List.setIfInBounds_toArray, List.set_cons_zero, List.set_cons_succ])
    refine wpAnyH_take (i := 3) (v := (.pointer (some ⟨w.heap.size, 1, none⟩))) rfl (by kernel_rfl) (by kernel_rfl) (by kernel_rfl) (fun _ _ _ h => h) (Or.inl ⟨by rfl, ?_⟩) (by assumption) ?_
    · intro w' hSw
      (try dsimp only at hSw)
      go_simp <;> first | exact i64_in (by omega) (by omega) | exact u32_in (by omega) (by omega) | exact u32_add _ _ | (rw [Int.tmod_eq_emod_of_nonneg (by omega)]; omega) | (rw [Int.tdiv_eq_ediv_of_nonneg (by omega)]; omega) | omega
    (try simp only [Act.put, List.setIfInBounds_toArray, List.set_cons_zero, List.set_cons_succ])
    refine wpAnyH_take (i := 4) (v := (.int .i64 (r : Int))) rfl (by kernel_rfl) (by kernel_rfl) (by kernel_rfl) (fun _ _ _ h => h) (Or.inl ⟨by rfl, ?_⟩) (by assumption) ?_
    · intro w' hSw
      (try dsimp only at hSw)
      (obtain ⟨hS1, hS2, hS3⟩ := hSw; go_simp)
    (try simp only [Act.put, List.setIfInBounds_toArray, List.set_cons_zero, List.set_cons_succ])
    refine wpAnyH_take (i := 6) (v := (.pointer (some ⟨w.heap.size, 2, none⟩))) rfl (by kernel_rfl) (by kernel_rfl) (by kernel_rfl) (fun _ _ _ h => h) (Or.inl ⟨by rfl, ?_⟩) (by assumption) ?_
    · intro w' hSw
      (try dsimp only at hSw)
      go_simp <;> first | exact i64_in (by omega) (by omega) | exact u32_in (by omega) (by omega) | exact u32_add _ _ | (rw [Int.tmod_eq_emod_of_nonneg (by omega)]; omega) | (rw [Int.tdiv_eq_ediv_of_nonneg (by omega)]; omega) | omega
    (try simp only [Act.put, List.setIfInBounds_toArray, List.set_cons_zero, List.set_cons_succ])
    refine wpAnyH_take (i := 7) (v := (.int .i64 (c : Int))) rfl (by kernel_rfl) (by kernel_rfl) (by kernel_rfl) (fun _ _ _ h => h) (Or.inl ⟨by rfl, ?_⟩) (by assumption) ?_
    · intro w' hSw
      (try dsimp only at hSw)
      (obtain ⟨hS1, hS2, hS3⟩ := hSw; go_simp)
    (try simp only [Act.put, List.setIfInBounds_toArray, List.set_cons_zero, List.set_cons_succ])
    refine wpAnyH_take (i := 9) (v := (.string ⟨#[105, 110, 100, 101, 120]⟩)) rfl (by kernel_rfl) (by kernel_rfl) (by kernel_rfl) (fun _ _ _ h => h) (Or.inl ⟨by rfl, ?_⟩) (by assumption) ?_
    · intro w' hSw
      (try dsimp only at hSw)
      go_simp <;> first | exact i64_in (by omega) (by omega) | exact u32_in (by omega) (by omega) | exact u32_add _ _ | (rw [Int.tmod_eq_emod_of_nonneg (by omega)]; omega) | (rw [Int.tdiv_eq_ediv_of_nonneg (by omega)]; omega) | omega
    (try simp only [Act.put, List.setIfInBounds_toArray, List.set_cons_zero, List.set_cons_succ])
    refine wpAnyH_ready (rs := [2]) (by kernel_rfl) (by simp) ?_
    refine AllReadyH.cons rfl (fun K hK => ?_) AllReadyH.nil
    go_simp
    refine Calls.mono (I1.out _) ?_
    rintro x w2 ⟨rfl, rfl⟩
    refine hK.out _ _ ((by rw [← hW0]; exact Q0.out _ BW.out)) (fun hHeld => ?_)
    clear hK
    (try simp only [Act.put, List.setIfInBounds_toArray, List.set_cons_zero, List.set_cons_succ])
    refine wpAnyH_ready (rs := [5]) (by kernel_rfl) (by simp) ?_
    refine AllReadyH.cons rfl (fun K hK => ?_) AllReadyH.nil
    go_simp
    refine Calls.mono (I2.out _) ?_
    rintro x w3 ⟨rfl, rfl⟩
    refine hK.out _ _ ((by rw [← hW0]; exact Q0.out _ BW.out)) (fun hHeld => ?_)
    clear hK
    (try simp only [Act.put, List.setIfInBounds_toArray, List.set_cons_zero, List.set_cons_succ])
    refine wpAnyH_ready (rs := [8]) (by kernel_rfl) (by simp) ?_
    refine AllReadyH.cons rfl (fun K hK => ?_) AllReadyH.nil
    go_simp
    refine Calls.mono (I3.out _) ?_
    rintro x w4 ⟨rfl, rfl⟩
    refine hK.out _ _ ((by rw [← hW0]; exact Q0.out _ BW.out)) (fun hHeld => ?_)
    clear hK
    (try simp only [Act.put, List.setIfInBounds_toArray, List.set_cons_zero, List.set_cons_succ])
    refine wpAnyH_take (i := 10) (v := (.agg #[.string ⟨X1.toArray⟩, .string ⟨X2.toArray⟩, .string ⟨X3.toArray⟩, .string ⟨#[105, 110, 100, 101, 120]⟩])) rfl (by kernel_rfl) (by kernel_rfl) (by kernel_rfl) (fun _ _ _ h => h) (Or.inl ⟨by rfl, ?_⟩) (by assumption) ?_
    · intro w' hSw
      (try dsimp only at hSw)
      go_simp <;> first | exact i64_in (by omega) (by omega) | exact u32_in (by omega) (by omega) | exact u32_add _ _ | (rw [Int.tmod_eq_emod_of_nonneg (by omega)]; omega) | (rw [Int.tdiv_eq_ediv_of_nonneg (by omega)]; omega) | omega
    (try simp only [Act.put, List.setIfInBounds_toArray, List.set_cons_zero, List.set_cons_succ])
    refine wpAnyH_ready (rs := [11]) (by kernel_rfl) (by simp) ?_
    refine AllReadyH.cons rfl (fun K hK => ?_) AllReadyH.nil
    go_simp
    refine hK.out _ _ (⟨by simp, by simp, by simp⟩) (fun hHeld => ?_)
    clear hK
    (try simp only [Act.put, List.setIfInBounds_toArray, List.set_cons_zero, List.set_cons_succ])
    refine wpAnyH_done (by kernel_rfl) ?_ _
    clear hHeld
    go_wp2
    refine bodyPost_ret (v := .agg #[.string ⟨X1.toArray⟩, .string ⟨X2.toArray⟩, .string ⟨X3.toArray⟩, .string ⟨#[105, 110, 100, 101, 120]⟩]) (by simp [results, Tryd.results10, go_sem]) rfl ⟨rfl, ?_⟩
    exact (((Below.refl _ w).alloc (Nat.le_refl _) _).alloc (by simp) _).drew
def us : ByteArray := ⟨#[95]⟩
def dot : ByteArray := ⟨#[46]⟩
set_option maxHeartbeats 1000000 in
set_option maxRecDepth 100000 in
/-- name -/
theorem name_any (a b c e : ByteArray) (h1 : a.size ≤ 1000) (h2 : b.size ≤ 1000) (h3 : c.size ≤ 1000) (h4 : e.size ≤ 1000) (w : World) :
    Calls Tryd.prog 11 #[.agg #[.string a, .string b, .string c, .string e]] w fun x w' => x = .returned (.string (a ++ us ++ b ++ us ++ c ++ dot ++ e)) ∧ Below w.heap.size w w' := by
  have y1 : us.size = 1 := rfl
  have y2 : dot.size = 1 := rfl
  have hus : (⟨#[95]⟩ : ByteArray) = us := rfl
  have hdot : (⟨#[46]⟩ : ByteArray) = dot := rfl
  go_enter Tryd.func11, Tryd.ntmps11
  go_wp2
  go_ret
  exact ⟨rfl, (Below.refl _ _).alloc (Nat.le_refl _) _⟩
set_option maxHeartbeats 1000000 in
set_option maxRecDepth 100000 in
/-- Atoi, of any text -/
theorem atoi_any (s : ByteArray) (hs : s.size ≤ 281474976710656) (e1 e2 : Value) (w : World) (h1 : w.cell? ⟨2, 0, none⟩ = some e1) (h2 : w.cell? ⟨3, 0, none⟩ = some e2) (k1 : ∃ te pe, e1 = .iface te pe) (k2 : ∃ te pe, e2 = .iface te pe) :
    Calls Tryd.prog 19 #[.string s] w fun e w' => ∃ v, e = .returned (.tuple #[.int .i64 (av s.data.toList), v]) ∧ (v = .nilIface ∨ ∃ te pe, v = .iface te pe) ∧ Below w.heap.size w w' := by
  unfold av
  cases h : Lib.atoiAll s.data.toList with
  | ok v =>
    refine (Tryd.strconv_Atoi_ok s (by omega) v h w).mono ?_
    rintro e w' ⟨rfl, hw⟩
    refine ⟨_, rfl, Or.inl rfl, ?_⟩
    rcases hw with rfl | ⟨t, rfl⟩
    · exact Below.refl _ _
    · exact Lib.bytesWorld_below _ _ _
  | «syntax» =>
    refine (Tryd.strconv_Atoi_syntax s hs h e1 w h1 (Or.inr k1)).mono ?_
    rintro e w' ⟨N, rfl, _, _, hb⟩
    exact ⟨_, rfl, Or.inr ⟨_, _, rfl⟩, hb⟩
  | range =>
    refine (Tryd.strconv_Atoi_range s hs h e2 w h2 (Or.inr k2)).mono ?_
    rintro e w' ⟨N, rfl, _, _, hb⟩
    exact ⟨_, rfl, Or.inr ⟨_, _, rfl⟩, hb⟩
end Go.Proofs.YtanceiiaecbknaaDoor
namespace Go.Proofs.YtanceiiaecbknaaDoor
open Go.RowKit Go.Shelf
theorem info9 : (Tryd.prog.info? 9).map (fun i => (i.zero, i.size, i.bytes)) = some (some (.string ByteArray.empty), 1, 16) := by kernel_rfl
theorem info_partsG {P : Program} {t : TypeId} {z : Option Value} {n b : Nat} (h : (P.info? t).map (fun i => (i.zero, i.size, i.bytes)) = some (z, n, b)) : ∃ i, P.info? t = some i ∧ i.zero = z ∧ i.size = n ∧ i.bytes = b := by
  obtain ⟨i, hi, hx⟩ := Option.map_eq_some_iff.1 h
  simp only [Prod.mk.injEq] at hx
  exact ⟨i, hi, hx.1, hx.2.1, hx.2.2⟩
theorem ix_str (w : World) (s : ByteArray) (k : Nat) (hk : k < s.size) : (Instr.index 9 (.string s) (.int .i64 (k : Int))).run Tryd.prog w = .ok (.int .u8 (s[k].toNat : Int)) w := by
  rw [run_index_string w 9 s .i64 k Tryd.underlying9, dif_pos ⟨by omega, by omega⟩]
  simp
theorem get_data (s : ByteArray) (k : Nat) (h : k < s.size) : s[k] = s.data.toList[k]'(by rw [size_data]; exact h) := rfl
theorem split_step (c : UInt8) (S : List UInt8) (q k : Nat) (hq : q ≤ k) (hk : k < S.length) : splitL c ((S.take k).drop q) (S.drop k) = if S[k] = c then (S.take k).drop q :: splitL c ((S.take (k + 1)).drop (k + 1)) (S.drop (k + 1)) else splitL c ((S.take (k + 1)).drop q) (S.drop (k + 1)) := by
  rw [List.drop_eq_getElem_cons hk, splitL]
  split
  · rw [show (S.take (k + 1)).drop (k + 1) = [] from List.drop_eq_nil_of_le (by simp; omega)]
  · rw [List.take_succ_eq_append_getElem hk, List.drop_append_of_le_length (by simp; omega)]
theorem ext_eq (s : ByteArray) (q k : Nat) : s.extract q k = strOf ((s.data.toList.take k).drop q) := by
  apply ba_eq
  rw [strOf_data, Lib.extract_data, List.drop_take]
set_option maxHeartbeats 2000000 in
set_option maxRecDepth 100000 in
/-- the document's split -/
theorem split_any (s : ByteArray) (c : UInt8) (w : World) (hs : s.size ≤ 1000) :
    Calls Tryd.prog 15 #[.string s, .int .u8 (c.toNat : Int)] w fun e w' => ∃ v, e = .returned v ∧ w'.ownsRow w.heap.size 9 1 v (splitL c [] s.data.toList).length ((splitL c [] s.data.toList).map fun l => Value.string (strOf l)) ∧ Below w.heap.size w w' := by
  obtain ⟨i0, hi, hz0, hz1, hz2⟩ := info_partsG info9
  have hlS := size_data s
  obtain ⟨SP, hSP⟩ : ∃ SP, SP = splitL c [] s.data.toList := ⟨_, rfl⟩
  rw [← hSP]
  go_enter Tryd.func15, Tryd.ntmps15
  go_wp2
  go_loopw [5, 6, 7] (fun v f i wr => ∃ (k q : Nat) (l : List (List UInt8)), k ≤ s.size ∧ q ≤ k ∧ l.length ≤ k ∧ i = .int .i64 k ∧ f = .int .i64 q ∧ Hid (SP = l ++ splitL c ((s.data.toList.take k).drop q) (s.data.toList.drop k)) ∧ wr.ownsRow w.heap.size 9 1 v l.length (l.map fun l => Value.string (strOf l)) ∧ Below w.heap.size w wr) (fun _ _ i _ => s.size - (intOf i).toNat)
  case atStart => exact ⟨0, 0, [], Nat.zero_le _, Nat.le_refl _, Nat.le_refl _, rfl, rfl, by rw [hSP]; rfl, World.ownsRow_nil _ _ _ _, Below.refl _ _⟩
  case round =>
    obtain ⟨k, q, l, hk, hq, hll, rfl, rfl, hP, hown, hnx⟩ := hrel
    have hsize := hnx.size
    by_cases hlt : k < s.size
    · have hxs : ∀ w', (Instr.index 9 (.string s) (.int .i64 (k : Int))).run Tryd.prog w' = .ok (.int .u8 (s[k].toNat : Int)) w' := fun w' => ix_str w' s k hlt
      have ST := split_step c s.data.toList q k hq (by omega)
      rw [← get_data s k hlt] at ST
      have EX := hide (ext_eq s q k)
      generalize s[k] = b at *
      by_cases hb : b = c
      · subst hb
        rw [if_pos rfl] at ST
        have HS := hide (hP.out.trans (by rw [ST]))
        clear ST hP
        go_wp2_with (at_builtin; refine wpList_append_own _ rfl _ _ 43 rfl w.heap.size 9 i0 (.string ByteArray.empty) 1 16 Tryd.underlying43 hi hz0 hz1 hz2 rfl (by decide) _ _ _ rfl (hown.alloc _) ⟨wr.heap.size, 0, none⟩ 1 1 [.string (s.extract q k)] rfl rfl (cell_one_new _ _ _) (fun x hx => by simp at hx; subst hx; rfl) (by unfold maxLen; omega) (by omega) (by simp; omega) ?_; intro v' w3 hown' hgrow3 hnil3)
        go_roundw
        case rel =>
          refine ⟨k + 1, k + 1, l ++ [(s.data.toList.take k).drop q], by omega, Nat.le_refl _, by simp; omega, by go_num, by go_num, ?_, ?_, (hnx.alloc hsize _).grown hgrow3 (by simp; omega) (fun j hj => (hown.lt j hj).1)⟩
          · show SP = _
            rw [HS.out, List.append_assoc]; rfl
          · rw [List.length_append, List.map_append, List.map_cons, List.map_nil, ← EX.out]; exact hown'
        case measure => simp [intOf]; omega
      · rw [if_neg hb] at ST
        have HS := hide (hP.out.trans (by rw [ST]))
        have hb' : ¬ (b.toNat : Int) = (c.toNat : Int) := fun h => hb (UInt8.toNat_inj.1 (by omega))
        clear ST hP
        go_wp2
        go_roundw
        case rel => exact ⟨k + 1, q, l, by omega, by omega, by omega, by go_num, rfl, HS.out, hown, hnx⟩
        case measure => simp [intOf]; omega
    · obtain rfl : k = s.size := by omega
      have EX := hide (ext_eq s q s.size)
      have HS : Hid (SP = l ++ [(s.data.toList.take s.size).drop q]) := by
        show SP = _
        rw [hP.out, show s.data.toList.drop s.size = [] from List.drop_eq_nil_of_le (by omega)]; rfl
      clear hP
      go_wp2_with (at_builtin; refine wpList_append_own _ rfl _ _ 43 rfl w.heap.size 9 i0 (.string ByteArray.empty) 1 16 Tryd.underlying43 hi hz0 hz1 hz2 rfl (by decide) _ _ _ rfl (hown.alloc _) ⟨wr.heap.size, 0, none⟩ 1 1 [.string (s.extract q s.size)] rfl rfl (cell_one_new _ _ _) (fun x hx => by simp at hx; subst hx; rfl) (by unfold maxLen; omega) (by omega) (by simp; omega) ?_; intro v' w3 hown' hgrow3 hnil3)
      go_ret
      refine ⟨_, rfl, ?_, (hnx.alloc hsize _).grown hgrow3 (by simp; omega) (fun j hj => (hown.lt j hj).1)⟩
      rw [HS.out, List.length_append, List.map_append, List.map_cons, List.map_nil, ← EX.out]; exact hown'
theorem numF_snoc (l : List UInt8) (k : Nat) (h : k < l.length) : numF (l.take (k + 1)) = numF (l.take k) * 10 + (l[k].toNat - 48) := by
  unfold numF
  rw [List.take_succ_eq_append_getElem h, List.foldl_append]
  rfl
theorem numF_lt (s : List UInt8) : ∀ k, k ≤ s.length → (s.take k).all digB = true → numF (s.take k) < 10 ^ k
  | 0, _, _ => by simp [numF]
  | k + 1, hk, h => by
    rw [List.take_succ_eq_append_getElem (by omega), List.all_append, Bool.and_eq_true] at h
    have := numF_lt s k (by omega) h.1
    have hc : digB s[k] = true := by simpa using h.2
    unfold digB at hc
    simp at hc
    rw [numF_snoc s k (by omega), Nat.pow_succ]
    omega
theorem numV_dig {s : ByteArray} {k : Nat} (h : k < s.size) (hd : digB s[k] = false) : numV s.data.toList = -1 := by
  unfold numV
  have : s.data.toList.all digB = false := by
    rw [List.all_eq_false]
    exact ⟨s[k], by have : s[k] = s.data.toList[k]'(by simpa using h) := rfl; rw [this]; exact List.getElem_mem _, by rw [hd]; simp⟩
  rw [this]
  split <;> rfl
theorem ret_int {a b : Int} (h : a = b) : Ending.returned (.int .i64 a) = .returned (.int .i64 b) := by rw [h]
theorem toList_data (s : ByteArray) : s.toList = s.data.toList := ByteArray.toList_eq s
set_option maxHeartbeats 4000000 in
set_option maxRecDepth 100000 in
/-- the document's number -/
theorem number_any (s : ByteArray) (w : World) (hs : s.size ≤ 1000) :
    Calls Tryd.prog 16 #[.string s] w fun e w' => e = .returned (.int .i64 (numV s.data.toList)) ∧ w = w' := by
  by_cases h0 : s.size = 0
  · have e0 : s.data.toList = [] := List.length_eq_zero_iff.1 (by rw [size_data]; exact h0)
    have HB := hide (show (-1 : Int) = numV s.data.toList by unfold numV; rw [if_pos (Or.inl e0)])
    have e1 : s.toList.isEmpty = true := by rw [toList_data, e0]; rfl
    clear e0
    go_enter Tryd.func16, Tryd.ntmps16
    go_wp2_with fail
    go_ret
    exact ⟨ret_int HB.out, rfl⟩
  have e1 : s.toList.isEmpty = false := by
    rw [toList_data, List.isEmpty_eq_false_iff]
    intro h; apply h0; rw [← size_data, h]; rfl
  by_cases h16 : 10 < s.size
  · have HB := hide (show (-1 : Int) = numV s.data.toList by unfold numV; rw [if_pos (Or.inr (Or.inl (by rw [size_data]; exact h16)))])
    have e2 : (10 : Int) < (s.size : Int) := by omega
    go_enter Tryd.func16, Tryd.ntmps16
    go_wp2_with fail
    go_ret
    exact ⟨ret_int HB.out, rfl⟩
  have e2 : ¬ (10 : Int) < (s.size : Int) := by omega
  have hp : 0 < s.size := by omega
  have hx0 : ∀ w', (Instr.index 9 (.string s) (.int .i64 0)).run Tryd.prog w' = .ok (.int .u8 ((s[0]'hp).toNat : Int)) w' := fun w' => ix_str w' s 0 hp
  have hhd : s.data.toList.head? = some (s[0]'hp) := by
    rw [List.head?_eq_getElem?]; exact Lib.data_getElem? s 0 hp
  have hd48 : ((s[0]'hp) = 48 ↔ (((s[0]'hp).toNat : Int) = 48)) := by
    constructor
    · intro h; rw [h]; rfl
    · intro h; rw [← UInt8.toNat_inj]; show _ = 48; omega
  generalize hc0 : (s[0]'hp) = c0 at *
  by_cases hz : c0 = 48 ∧ s.data.toList ≠ [48]
  · have HB := hide (show (-1 : Int) = numV s.data.toList by unfold numV; rw [if_pos (Or.inr (Or.inr ⟨by rw [hhd, hz.1], hz.2⟩))])
    have e3 : (c0.toNat : Int) = 48 := hd48.1 hz.1
    have e4 : (s.toList == [48]) = false := by rw [toList_data, beq_eq_false_iff_ne]; exact hz.2
    clear hz hhd hd48
    go_enter Tryd.func16, Tryd.ntmps16
    go_wp2_with fail
    go_ret
    exact ⟨ret_int HB.out, rfl⟩
  have hz' : ((c0.toNat : Int) == 48) = false ∨ ((c0.toNat : Int) = 48 ∧ (s.toList == [48]) = true) := by
    by_cases q : c0 = 48
    · refine .inr ⟨hd48.1 q, ?_⟩
      rw [toList_data, beq_iff_eq]
      exact Classical.byContradiction fun h => hz ⟨q, h⟩
    · refine .inl ?_
      rw [beq_eq_false_iff_ne]
      exact fun e => q (hd48.2 e)
  have OK : Hid (s.data.toList.all digB = true → (numF s.data.toList : Int) = numV s.data.toList) := fun h => by
    unfold numV
    rw [if_neg, if_pos h]
    rintro (h1 | h1 | ⟨h1, h2⟩)
    · exact h0 (by rw [← size_data, h1]; rfl)
    · rw [size_data] at h1; omega
    · rw [hhd] at h1; exact hz ⟨Option.some.inj h1, h2⟩
  clear hhd hd48 hz
  rcases hz' with e3 | ⟨e3, e4⟩
  all_goals
    go_enter Tryd.func16, Tryd.ntmps16
    go_wp2_with fail
    go_loop [3, 4] (fun n v => ∃ k : Nat, k ≤ s.size ∧ v = .int .i64 k ∧ n = .int .i64 (numF (s.data.toList.take k) : Int) ∧ Hid ((s.data.toList.take k).all digB = true)) (fun _ v => s.size - (intOf v).toNat)
    case atStart => exact ⟨0, Nat.zero_le _, rfl, rfl, rfl⟩
    case round =>
      obtain ⟨k, hk, rfl, rfl, H⟩ := hrel
      have hV := numF_lt s.data.toList k (by rw [size_data]; exact hk) H.out
      have hV2 : numF (s.data.toList.take k) < 10000000000 := Nat.lt_of_lt_of_le hV (Nat.le_trans (Nat.pow_le_pow_right (by omega) (show k ≤ 10 by omega)) (by decide))
      by_cases hlt : k < s.size
      · have hxs : ∀ w', (Instr.index 9 (.string s) (.int .i64 (k : Int))).run Tryd.prog w' = .ok (.int .u8 (s[k].toNat : Int)) w' := fun w' => ix_str w' s k hlt
        have HSN := hide (show numF (s.data.toList.take (k + 1)) = numF (s.data.toList.take k) * 10 + (s[k].toNat - 48) from numF_snoc _ k (by simpa using hlt))
        have HAL : Hid ((s.data.toList.take (k + 1)).all digB = ((s.data.toList.take k).all digB && digB s[k])) := by
          show _ = _
          rw [List.take_succ_eq_append_getElem (by simpa using hlt), List.all_append]; simp; rfl
        have HB : Hid (digB s[k] = false → _) := fun h => (numV_dig hlt h).symm
        have HDG := hide (show digB s[k] = (decide (48 ≤ s[k].toNat) && decide (s[k].toNat ≤ 57)) from rfl)
        clear hV
        generalize s[k] = c at *
        generalize numF (s.data.toList.take k) = V at *
        by_cases hd1 : c.toNat < 48
        · have e5 : (c.toNat : Int) < 48 := by omega
          have E5 := hide (HB.out (by rw [HDG.out, decide_eq_false (by omega)]; rfl))
          clear HB
          go_wp2_with fail
          go_ret
          exact ⟨ret_int E5.out, rfl⟩
        · by_cases hd2 : 57 < c.toNat
          · have e5 : ¬ (c.toNat : Int) < 48 := by omega
            have e6 : (57 : Int) < (c.toNat : Int) := by omega
            have E5 := hide (HB.out (by rw [HDG.out, decide_eq_false (p := c.toNat ≤ 57) (by omega), Bool.and_false]))
            clear HB
            go_wp2_with fail
            go_ret
            exact ⟨ret_int E5.out, rfl⟩
          · have e5 : ¬ (c.toNat : Int) < 48 := by omega
            have e6 : ¬ (57 : Int) < (c.toNat : Int) := by omega
            go_wp2_with fail
            go_round
            case rel => exact ⟨k + 1, by omega, by go_num, by rw [HSN.out]; congr 1; go_num, by show _ = true; rw [HAL.out, H.out, HDG.out, decide_eq_true (by omega), decide_eq_true (by omega)]; rfl⟩
            case measure => simp [intOf]; omega
      · obtain rfl : k = s.size := by omega
        have H1 := H.out
        rw [List.take_of_length_le (by simp)] at H1 ⊢
        have E5 := hide (OK.out H1)
        clear H1 hV hV2 OK H
        go_wp2_with fail
        go_ret
        exact ⟨ret_int E5.out, rfl⟩
end Go.Proofs.YtanceiiaecbknaaDoor
namespace Go.Proofs.YtanceiiaecbknaaDoor
open Go.RowKit Go.Shelf
theorem fnS_eq (p r c : Nat) (d : Bool) : strOf (dd p) ++ us ++ strOf (dd r) ++ us ++ strOf (dd c) ++ dot ++ strOf (endW d) = strOf (fnL (p, r, c, d)) := by
  apply ba_eq
  have e1 : us.data.toList = [95] := rfl
  have e2 : dot.data.toList = [46] := rfl
  unfold fnL
  simp only [ba_app, strOf_data, e1, e2, List.append_assoc, List.cons_append, List.nil_append]
theorem isVal_iff {p r c : Int} (h : isVal p r c = true) : 0 ≤ p ∧ p < 64 ∧ 0 ≤ r ∧ r < 16 ∧ 0 ≤ c ∧ c < 16 := of_decide_eq_true h
set_option maxHeartbeats 2000000 in
set_option maxRecDepth 100000 in
/-- FileName -/
theorem fileName_no (p r c : Int) (d : Bool) (w : World) (h : isVal p r c = false) :
    Calls Tryd.prog 4 #[.agg #[.int .i64 p, .int .i64 r, .int .i64 c, .bool d]] w fun x w' => x = .returned (.tuple #[.string ⟨#[]⟩, .int .i64 1]) ∧ Below w.heap.size w w' := by
  have C := hide (fun w' => mayBe_any p r c d w')
  rw [h] at C
  obtain ⟨W0, hW0⟩ : ∃ W0, W0 = w.alloc (.cells #[.int .i64 p, .int .i64 r, .int .i64 c, .bool d] 23) := ⟨_, rfl⟩
  have B0 : Hid (Below w.heap.size w W0) := by rw [hW0]; exact (Below.refl _ w).alloc (Nat.le_refl _) _
  go_enter Tryd.func4, Tryd.ntmps4
  go_wp2_with fail
  rw [← hW0]
  clear hW0
  refine Calls.mono (C.out _) ?_
  rintro x w1 ⟨rfl, b1⟩
  have B1 := hide (B0.out.trans (b1.mono B0.out.size))
  clear b1
  go_wp2_with fail
  go_ret2
  exact ⟨rfl, B1.out⟩
set_option maxHeartbeats 2000000 in
set_option maxRecDepth 100000 in
theorem fileName_ok (p r c : Nat) (d : Bool) (w : World) (h : Val (p, r, c, d)) :
    Calls Tryd.prog 4 #[.agg #[.int .i64 (p : Int), .int .i64 (r : Int), .int .i64 (c : Int), .bool d]] w fun x w' => x = .returned (.tuple #[.string (strOf (fnL (p, r, c, d))), .int .i64 0]) ∧ Below w.heap.size w w' := by
  obtain ⟨h1, h2, h3⟩ := h
  simp only at h1 h2 h3
  have hv : isVal (p : Int) (r : Int) (c : Int) = true := decide_eq_true (by omega)
  have C := hide (fun w' => mayBe_any p r c d w')
  rw [hv] at C
  have T := hide (fun w' => titleOf_any p r c d (by omega) (by omega) (by omega) w')
  have N := hide (fun w' => name_any (strOf (dd p)) (strOf (dd r)) (strOf (dd c)) (strOf (endW d)) (by rw [strOf_size]; have := dd_len h1; omega) (by rw [strOf_size]; have := dd_len16 h2; omega) (by rw [strOf_size]; have := dd_len16 h3; omega) (by rw [strOf_size]; have := endW_len d; omega) w')
  rw [fnS_eq] at N
  generalize strOf (fnL (p, r, c, d)) = Z at *
  generalize strOf (dd p) = X1 at *
  generalize strOf (dd r) = X2 at *
  generalize strOf (dd c) = X3 at *
  generalize strOf (endW d) = X4 at *
  obtain ⟨W0, hW0⟩ : ∃ W0, W0 = w.alloc (.cells #[.int .i64 (p : Int), .int .i64 (r : Int), .int .i64 (c : Int), .bool d] 23) := ⟨_, rfl⟩
  have B0 : Hid (Below w.heap.size w W0) := by rw [hW0]; exact (Below.refl _ w).alloc (Nat.le_refl _) _
  have s0 : w.heap.size < W0.heap.size := by rw [hW0]; simp
  have km : Hid (∀ w', Below W0.heap.size W0 w' → w'.cell? ⟨w.heap.size, 0, none⟩ = some (.int .i64 (p : Int)) ∧ w'.cell? ⟨w.heap.size, 1, none⟩ = some (.int .i64 (r : Int)) ∧ w'.cell? ⟨w.heap.size, 2, none⟩ = some (.int .i64 (c : Int)) ∧ w'.cell? ⟨w.heap.size, 3, none⟩ = some (.bool d)) := fun w' hb => by
    rw [hb.cell (by exact s0), hb.cell (by exact s0), hb.cell (by exact s0), hb.cell (by exact s0), hW0]
    exact ⟨by simp, by simp, by simp, by simp⟩
  go_enter Tryd.func4, Tryd.ntmps4
  go_wp2_with fail
  rw [← hW0]
  clear hW0
  refine Calls.mono (C.out _) ?_
  rintro x w1 ⟨rfl, b1⟩
  obtain ⟨j0, j1, j2, j3⟩ := km.out _ b1
  have B1 := hide (B0.out.trans (b1.mono B0.out.size))
  clear b1
  go_wp2_with fail
  refine Calls.mono (T.out _) ?_
  rintro x w2 ⟨rfl, b2⟩
  have B2 := hide (B1.out.trans (b2.mono B1.out.size))
  clear b2
  go_wp2_with fail
  refine Calls.mono (N.out _) ?_
  rintro x w3 ⟨rfl, b3⟩
  have B3 := hide (B2.out.trans (b3.mono B2.out.size))
  clear b3
  go_wp2_with fail
  go_ret2
  exact ⟨rfl, B3.out⟩
theorem cut_small (s : List UInt8) (c : UInt8) : (Lib.cut s [c]).1.length ≤ s.length ∧ (Lib.cut s [c]).2.1.length ≤ s.length := by
  rcases cut_way c s with e | ⟨a, r, e, e'⟩
  · rw [e]; exact ⟨Nat.le_refl _, Nat.zero_le _⟩
  · rw [e', e]; simp only [List.length_append, List.length_cons]; omega
set_option maxHeartbeats 2000000 in
set_option maxRecDepth 100000 in
/-- strings.Cut, with one letter -/
theorem cutS_any (s : ByteArray) (c : UInt8) (m : Int) (w : World) (hs : s.size < 4294967281) (hm : w.cell? ⟨1, 0, none⟩ = some (.int .i64 m)) :
    Calls Tryd.prog 18 #[.string s, .string ⟨#[c]⟩] w fun e w' => e = .returned (.tuple #[.string (strOf (Lib.cut s.data.toList [c]).1), .string (strOf (Lib.cut s.data.toList [c]).2.1), .bool (Lib.cut s.data.toList [c]).2.2]) ∧ Below w.heap.size w w' := by
  refine (Tryd.strings_Cut s ⟨#[c]⟩ m w hs hm).mono ?_
  rintro e w' ⟨rfl, n, rfl⟩
  exact ⟨rfl, below_drewN (Below.refl _ _) n⟩
set_option maxHeartbeats 2000000 in
set_option maxRecDepth 100000 in
/-- cut -/
theorem cutN_any (s : ByteArray) (m : Int) (w : World) (hs : s.size < 4294967281) (hm : w.cell? ⟨1, 0, none⟩ = some (.int .i64 m)) :
    Calls Tryd.prog 13 #[.string s] w fun e w' => e = .returned (.agg #[.string (strOf (wds s.data.toList).1), .string (strOf (wds s.data.toList).2.1), .string (strOf (wds s.data.toList).2.2.1), .string (strOf (wds s.data.toList).2.2.2)]) ∧ Below w.heap.size w w' := by
  have hml := World.block_lt_of_cell? w _ hm
  obtain ⟨W0, hW0⟩ : ∃ W0, W0 = w.alloc (.cells #[.string ⟨#[]⟩, .string ⟨#[]⟩, .string ⟨#[]⟩, .string ⟨#[]⟩] 37) := ⟨_, rfl⟩
  have B0 : Hid (Below w.heap.size w W0) := by rw [hW0]; exact (Below.refl _ w).alloc (Nat.le_refl _) _
  have s0 : w.heap.size < W0.heap.size := by rw [hW0]; simp
  have km : Hid (∀ w', Below W0.heap.size W0 w' → w'.cell? ⟨w.heap.size, 0, none⟩ = some (.string ⟨#[]⟩) ∧ w'.cell? ⟨w.heap.size, 1, none⟩ = some (.string ⟨#[]⟩) ∧ w'.cell? ⟨w.heap.size, 2, none⟩ = some (.string ⟨#[]⟩) ∧ w'.cell? ⟨w.heap.size, 3, none⟩ = some (.string ⟨#[]⟩) ∧ w'.frozen? ⟨w.heap.size, 0, none⟩ = false ∧ w'.frozen? ⟨w.heap.size, 1, none⟩ = false ∧ w'.frozen? ⟨w.heap.size, 2, none⟩ = false ∧ w'.frozen? ⟨w.heap.size, 3, none⟩ = false) := fun w' hb => by
    rw [hb.cell (by exact s0), hb.cell (by exact s0), hb.cell (by exact s0), hb.cell (by exact s0), hb.frozen (by exact s0), hb.frozen (by exact s0), hb.frozen (by exact s0), hb.frozen (by exact s0), hW0]
    exact ⟨by simp, by simp, by simp, by simp, by simp, by simp, by simp, by simp⟩
  have C1 := hide (fun w' (hb : Below w.heap.size w w') => cutS_any s 95 m w' hs ((hb.cell (by exact hml)).trans hm))
  have g1 := cut_small s.data.toList 95
  rw [size_data] at g1
  have C2 := hide (fun w' (hb : Below w.heap.size w w') => cutS_any (strOf (Lib.cut s.data.toList [95]).2.1) 95 m w' (by rw [strOf_size]; omega) ((hb.cell (by exact hml)).trans hm))
  have g2 := cut_small (Lib.cut s.data.toList [95]).2.1 95
  have C3 := hide (fun w' (hb : Below w.heap.size w w') => cutS_any (strOf (Lib.cut (Lib.cut s.data.toList [95]).2.1 [95]).2.1) 46 m w' (by rw [strOf_size]; omega) ((hb.cell (by exact hml)).trans hm))
  simp only [strOf_data] at C2 C3
  unfold wds
  generalize Lib.cut (Lib.cut (Lib.cut s.data.toList [95]).2.1 [95]).2.1 [46] = K3 at *
  generalize Lib.cut (Lib.cut s.data.toList [95]).2.1 [95] = K2 at *
  generalize Lib.cut s.data.toList [95] = K1 at *
  obtain ⟨x1, y1, z1⟩ := K1
  obtain ⟨x2, y2, z2⟩ := K2
  obtain ⟨x3, y3, z3⟩ := K3
  simp only at C1 C2 C3 ⊢
  generalize strOf x1 = X1 at *
  generalize strOf y1 = Y1 at *
  generalize strOf x2 = X2 at *
  generalize strOf y2 = Y2 at *
  generalize strOf x3 = X3 at *
  generalize strOf y3 = Y3 at *
  clear g1 g2 hm hml
  go_enter Tryd.func13, Tryd.ntmps13
  go_wp2_with fail
  rw [← hW0]
  clear hW0
  refine Calls.mono (C1.out _ B0.out) ?_
  rintro x w1 ⟨rfl, b1⟩
  have B1 := hide (B0.out.trans (b1.mono B0.out.size))
  have R1 := hide b1
  clear b1
  go_wp2_with fail
  refine Calls.mono (C2.out _ B1.out) ?_
  rintro x w2 ⟨rfl, b2⟩
  have B2 := hide (B1.out.trans (b2.mono B1.out.size))
  have R2 := hide (R1.out.trans (b2.mono R1.out.size))
  clear b2
  go_wp2_with fail
  refine Calls.mono (C3.out _ B2.out) ?_
  rintro x w3 ⟨rfl, b3⟩
  have B3 := hide (B2.out.trans (b3.mono B2.out.size))
  have R3 := hide (R2.out.trans (b3.mono R2.out.size))
  clear b3
  obtain ⟨j0, j1, j2, j3, f0, f1, f2, f3⟩ := km.out _ R3.out
  go_wp2_with fail
  refine bodyPost_ret (v := .agg #[.string X1, .string X2, .string X3, .string Y3]) (by simp [results, Tryd.results13, go_sem, j0, j1, j2, j3]) rfl ⟨rfl, ?_⟩
  exact (((B3.out.setCell (Nat.le_refl _) _).setCell (Nat.le_refl _) _).setCell (Nat.le_refl _) _).setCell (Nat.le_refl _) _
set_option maxHeartbeats 2000000 in
set_option maxRecDepth 100000 in
/-- file -/
theorem file_any (a b c e : ByteArray) (ha : a.size ≤ 4294967281) (hb : b.size ≤ 4294967281) (hc : c.size ≤ 4294967281) (e1 e2 : Value) (w : World) (h1 : w.cell? ⟨2, 0, none⟩ = some e1) (h2 : w.cell? ⟨3, 0, none⟩ = some e2) (k1 : ∃ te pe, e1 = .iface te pe) (k2 : ∃ te pe, e2 = .iface te pe) :
    Calls Tryd.prog 14 #[.agg #[.string a, .string b, .string c, .string e]] w fun x w' => x = .returned (.agg #[.int .i64 (av a.data.toList), .int .i64 (av b.data.toList), .int .i64 (av c.data.toList), .bool (decide (e.data.toList = dataW))]) ∧ Below w.heap.size w w' := by
  have g1 := World.block_lt_of_cell? w _ h1
  have g2 := World.block_lt_of_cell? w _ h2
  have A : Hid (∀ (s : ByteArray) (hs : s.size ≤ 4294967281) w', Below w.heap.size w w' → Calls Tryd.prog 19 #[.string s] w' fun e w'' => ∃ v, e = .returned (.tuple #[.int .i64 (av s.data.toList), v]) ∧ (v = .nilIface ∨ ∃ te pe, v = .iface te pe) ∧ Below w'.heap.size w' w'') := fun s hs w' hb' => atoi_any s (by omega) e1 e2 w' ((hb'.cell (by exact g1)).trans h1) ((hb'.cell (by exact g2)).trans h2) k1 k2
  have A1 := hide (A.out a ha)
  have A2 := hide (A.out b hb)
  have A3 := hide (A.out c hc)
  have hE : (e.toList == (⟨#[100, 97, 116, 97]⟩ : ByteArray).toList) = decide (e.data.toList = dataW) := by
    rw [eq_beq]
    refine decide_eq_decide.2 ⟨fun h => by rw [h]; rfl, fun h => ba_eq (by rw [h]; rfl)⟩
  have hE2 : (e.toList == [100, 97, 116, 97]) = decide (e.data.toList = dataW) := by
    rw [← hE, show (⟨#[100, 97, 116, 97]⟩ : ByteArray).toList = [100, 97, 116, 97] by rw [ByteArray.toList_eq]]
  generalize av a.data.toList = V1 at *
  generalize av b.data.toList = V2 at *
  generalize av c.data.toList = V3 at *
  generalize decide (e.data.toList = dataW) = D at *
  obtain ⟨W0, hW0⟩ : ∃ W0, W0 = (w.alloc (.cells #[.string a, .string b, .string c, .string e] 37)).alloc (.cells #[.int .i64 0, .int .i64 0, .int .i64 0, .bool false] 23) := ⟨_, rfl⟩
  have B0 : Hid (Below w.heap.size w W0) := by rw [hW0]; exact ((Below.refl _ w).alloc (Nat.le_refl _) _).alloc (by simp) _
  have s0 : w.heap.size + 1 < W0.heap.size := by rw [hW0]; simp
  have s1 : w.heap.size < W0.heap.size := by omega
  have km : Hid (∀ w', Below W0.heap.size W0 w' → w'.cell? ⟨w.heap.size, 0, none⟩ = some (.string a) ∧ w'.cell? ⟨w.heap.size, 1, none⟩ = some (.string b) ∧ w'.cell? ⟨w.heap.size, 2, none⟩ = some (.string c) ∧ w'.cell? ⟨w.heap.size, 3, none⟩ = some (.string e)) := fun w' hb => by
    rw [hb.cell (by exact s1), hb.cell (by exact s1), hb.cell (by exact s1), hb.cell (by exact s1), hW0]
    exact ⟨by simp, by simp, by simp, by simp⟩
  have kz : Hid (∀ w', Below W0.heap.size W0 w' → w'.cell? ⟨w.heap.size + 1, 0, none⟩ = some (.int .i64 0) ∧ w'.cell? ⟨w.heap.size + 1, 1, none⟩ = some (.int .i64 0) ∧ w'.cell? ⟨w.heap.size + 1, 2, none⟩ = some (.int .i64 0) ∧ w'.cell? ⟨w.heap.size + 1, 3, none⟩ = some (.bool false) ∧ w'.frozen? ⟨w.heap.size + 1, 0, none⟩ = false ∧ w'.frozen? ⟨w.heap.size + 1, 1, none⟩ = false ∧ w'.frozen? ⟨w.heap.size + 1, 2, none⟩ = false ∧ w'.frozen? ⟨w.heap.size + 1, 3, none⟩ = false) := fun w' hb => by
    rw [hb.cell (by exact s0), hb.cell (by exact s0), hb.cell (by exact s0), hb.cell (by exact s0), hb.frozen (by exact s0), hb.frozen (by exact s0), hb.frozen (by exact s0), hb.frozen (by exact s0), hW0]
    exact ⟨by simp, by simp, by simp, by simp, by simp, by simp, by simp, by simp⟩
  clear A h1 h2 k1 k2 g1 g2 ha hb hc
  go_enter Tryd.func14, Tryd.ntmps14
  go_wp2_with fail
  rw [← hW0]
  clear hW0
  refine Calls.mono (A1.out _ B0.out) ?_
  rintro x w1 ⟨v, rfl, _, b1⟩
  have B1 := hide (B0.out.trans (b1.mono B0.out.size))
  have R1 := hide b1
  obtain ⟨j0, j1, j2, j3⟩ := km.out _ b1
  clear b1
  go_wp2_with fail
  refine Calls.mono (A2.out _ B1.out) ?_
  rintro x w2 ⟨v2, rfl, _, b2⟩
  have B2 := hide (B1.out.trans (b2.mono B1.out.size))
  have R2 := hide (R1.out.trans (b2.mono R1.out.size))
  clear j0 j1 j2 j3
  obtain ⟨j0, j1, j2, j3⟩ := km.out _ R2.out
  clear b2
  go_wp2_with fail
  refine Calls.mono (A3.out _ B2.out) ?_
  rintro x w3 ⟨v3, rfl, _, b3⟩
  have B3 := hide (B2.out.trans (b3.mono B2.out.size))
  have R3 := hide (R2.out.trans (b3.mono R2.out.size))
  clear j0 j1 j2 j3
  obtain ⟨j0, j1, j2, j3⟩ := km.out _ R3.out
  obtain ⟨y0, y1, y2, y3, f0, f1, f2, f3⟩ := kz.out _ R3.out
  clear b3
  go_wp2_with fail
  refine bodyPost_ret (v := .agg #[.int .i64 V1, .int .i64 V2, .int .i64 V3, .bool D]) (by simp [results, Tryd.results14, go_sem, y0, y1, y2, y3]) rfl ⟨rfl, ?_⟩
  exact (((B3.out.setCell (Nat.le_add_right _ _) _).setCell (Nat.le_add_right _ _) _).setCell (Nat.le_add_right _ _) _).setCell (Nat.le_add_right _ _) _
end Go.Proofs.YtanceiiaecbknaaDoor
