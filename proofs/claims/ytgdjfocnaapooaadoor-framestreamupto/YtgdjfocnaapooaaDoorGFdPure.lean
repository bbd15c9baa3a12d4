import Derived.Test.YtgdjfocnaapooaaDoorGFdRead
import Derived.Test.YtgdjfocnaapooaaDoorGFeWrite
namespace Go.Proofs.YtgdjfocnaapooaaDoor
open Go.RowKit
/-- one field laid anew -/
def MM.put (m : MM) (i : Nat) (n : Int) (t : ByteArray) : MM := match i with
  | 0 => { m with n0 := n } | 1 => { m with n1 := n } | 2 => { m with n2 := n } | 3 => { m with n3 := n } | 4 => { m with n4 := n } | 5 => { m with n5 := n } | 6 => { m with n6 := n } | 7 => { m with n7 := n }
  | 8 => { m with key := t } | 9 => { m with val := t } | _ => m
def mm0 (k : Nat) : MM := ⟨(k : Int), 0, 0, 0, 0, 0, 0, 0, 0, ⟨#[]⟩, ⟨#[]⟩⟩
theorem ten_cases {i : Nat} (h : i < 10) : i = 0 ∨ i = 1 ∨ i = 2 ∨ i = 3 ∨ i = 4 ∨ i = 5 ∨ i = 6 ∨ i = 7 ∨ i = 8 ∨ i = 9 := by omega
theorem MM.put_kind (m : MM) (i : Nat) (n : Int) (t : ByteArray) : (m.put i n t).kind = m.kind := by
  unfold MM.put; split <;> rfl
theorem MM.put_num (m : MM) (i : Nat) (n : Int) (t : ByteArray) (hi : i < 10) : (m.put i n t).num i = if isTx i = true then 0 else n := by
  rcases ten_cases hi with rfl | rfl | rfl | rfl | rfl | rfl | rfl | rfl | rfl | rfl <;> rfl
theorem MM.put_txt (m : MM) (i : Nat) (n : Int) (t : ByteArray) (hi : i < 10) : (m.put i n t).txt i = if isTx i = true then t else ⟨#[]⟩ := by
  rcases ten_cases hi with rfl | rfl | rfl | rfl | rfl | rfl | rfl | rfl | rfl | rfl <;> rfl
theorem MM.put_other (m : MM) (i j : Nat) (n : Int) (t : ByteArray) (hi : i < 10) (hj : j < 10) (h : j ≠ i) : (m.put i n t).num j = m.num j ∧ (m.put i n t).txt j = m.txt j := by
  rcases ten_cases hi with rfl | rfl | rfl | rfl | rfl | rfl | rfl | rfl | rfl | rfl <;> rcases ten_cases hj with rfl | rfl | rfl | rfl | rfl | rfl | rfl | rfl | rfl | rfl <;> first | exact ⟨rfl, rfl⟩ | exact absurd rfl h
theorem MM.ext10 {a b : MM} (hk : a.kind = b.kind) (h : ∀ i, i < 10 → a.num i = b.num i ∧ a.txt i = b.txt i) : a = b := by
  have h0 := (h 0 (by omega)).1
  have h1 := (h 1 (by omega)).1
  have h2 := (h 2 (by omega)).1
  have h3 := (h 3 (by omega)).1
  have h4 := (h 4 (by omega)).1
  have h5 := (h 5 (by omega)).1
  have h6 := (h 6 (by omega)).1
  have h7 := (h 7 (by omega)).1
  have h8 := (h 8 (by omega)).2
  have h9 := (h 9 (by omega)).2
  cases a; cases b
  simp only [MM.num, MM.txt] at *
  subst hk h0 h1 h2 h3 h4 h5 h6 h7 h8 h9
  rfl
theorem num_tx (m : MM) (i : Nat) (h : isTx i = true) : m.num i = 0 := by
  unfold isTx at h; split at h <;> first | rfl | simp at h
theorem txt_num (m : MM) (i : Nat) (h : isTx i = false) : m.txt i = ⟨#[]⟩ := by
  unfold isTx at h
  unfold MM.txt
  split <;> first | rfl | simp at h
/-- the fields of a list are read, one behind the other -/
def rdL : List Nat → MM → ByteArray → Option (MM × ByteArray)
  | [], m, s => some (m, s)
  | i :: l, m, s => match rdF i s with
    | none => none
    | some (n, t, r) => rdL l (m.put i n t) r
theorem rdL_none {i : Nat} {l : List Nat} {m : MM} {s : ByteArray} (h : rdF i s = none) : rdL (i :: l) m s = none := by
  simp only [rdL, h]
theorem rdL_some {i : Nat} {l : List Nat} {m : MM} {s : ByteArray} {n : Int} {t r : ByteArray} (h : rdF i s = some (n, t, r)) : rdL (i :: l) m s = rdL l (m.put i n t) r := by
  simp only [rdL, h]
theorem rdL_keep : ∀ (l : List Nat) (a : MM) (s : ByteArray) (m : MM) (r : ByteArray), (∀ i ∈ l, i < 10) → rdL l a s = some (m, r) → m.kind = a.kind ∧ ∀ j, j < 10 → j ∉ l → m.num j = a.num j ∧ m.txt j = a.txt j := by
  intro l
  induction l with
  | nil => intro a s m r _ h; simp only [rdL, Option.some.injEq, Prod.mk.injEq] at h; obtain ⟨rfl, rfl⟩ := h; exact ⟨rfl, fun _ _ _ => ⟨rfl, rfl⟩⟩
  | cons i l ih =>
    intro a s m r hl h
    cases hr : rdF i s with
    | none => rw [rdL_none hr] at h; exact absurd h (by simp)
    | some x =>
      obtain ⟨n, t, r1⟩ := x
      rw [rdL_some hr] at h
      obtain ⟨k1, k2⟩ := ih _ _ _ _ (fun j hj => hl j (List.mem_cons_of_mem _ hj)) h
      refine ⟨k1.trans (MM.put_kind _ _ _ _), fun j hj hn => ?_⟩
      have hne : j ≠ i := fun e => hn (by rw [e]; exact List.mem_cons_self)
      obtain ⟨e1, e2⟩ := k2 j hj (fun h' => hn (List.mem_cons_of_mem _ h'))
      obtain ⟨f1, f2⟩ := MM.put_other a i j n t (hl i List.mem_cons_self) hj hne
      exact ⟨e1.trans f1, e2.trans f2⟩
theorem toList_split (s : ByteArray) (a : Nat) (_h : a ≤ s.size) : s.data.toList = s.data.toList.take a ++ (s.extract a s.size).data.toList := by
  rw [slice_str, List.take_of_length_le (l := s.data.toList.drop a) (by rw [List.length_drop, size_data]; omega), List.take_append_drop]
theorem widF_most : ∀ i, i < 10 → mostF i < 256 ^ widF i := by decide +kernel
theorem mostF_le : ∀ i, i < 10 → mostF i ≤ 9007199254740992 := by decide +kernel
theorem wid_le8 : ∀ i, i < 10 → widF i ≤ 8 := by decide +kernel
/-- what is read of a field, and fits, stands there as it is written -/
theorem rdF_back (m : MM) (i : Nat) (hi : i < 10) (s : ByteArray) (n : Int) (t r : ByteArray) (h : rdF i s = some (n, t, r)) (hn : 0 ≤ n) (e1 : isTx i = false → m.num i = n) (e2 : isTx i = true → m.txt i = t) : s.data.toList = fldL m i ++ r.data.toList := by
  unfold rdF at h
  split at h
  · exact absurd h (by simp)
  · rename_i hw
    have hl : (s.data.toList.take (widF i)).length = widF i := by rw [List.length_take, size_data]; omega
    split at h
    · rename_i ht
      simp only [Option.some.injEq, Prod.mk.injEq] at h
      obtain ⟨rfl, rfl, rfl⟩ := h
      have hv := val_lt (s.data.toList.take (widF i))
      rw [hl] at hv
      have hv8 : val (s.data.toList.take (widF i)) < 18446744073709551616 := Nat.lt_of_lt_of_le hv (Nat.le_trans (Nat.pow_le_pow_right (by omega) (wid_le8 i hi)) (by decide))
      have ew : wrap64 (val (s.data.toList.take (widF i)) : Int) = (val (s.data.toList.take (widF i)) : Int) := by
        unfold wrap64 at hn ⊢
        omega
      unfold fldL
      rw [ht, if_neg (by simp), e1 ht, ew, Int.toNat_natCast]
      have hd := dig_val (s.data.toList.take (widF i))
      rw [hl] at hd
      rw [hd]
      exact toList_split s (widF i) (by omega)
    · rename_i ht
      rw [Bool.not_eq_false] at ht
      split at h
      · exact absurd h (by simp)
      · rename_i h2
        simp only [Option.some.injEq, Prod.mk.injEq] at h
        obtain ⟨rfl, rfl, rfl⟩ := h
        unfold fldL
        rw [ht, if_pos rfl, e2 ht]
        have hz : (s.extract (widF i) (widF i + val (s.data.toList.take (widF i)))).size = val (s.data.toList.take (widF i)) := by
          rw [ByteArray.size_extract]; omega
        have hd := dig_val (s.data.toList.take (widF i))
        rw [hl] at hd
        rw [hz, hd, slice_str, slice_str]
        generalize val (s.data.toList.take (widF i)) = V at *
        rw [show widF i + V - widF i = V by omega, List.take_of_length_le (l := s.data.toList.drop (widF i + V)) (by rw [List.length_drop, size_data]; omega), List.append_assoc, ← List.drop_drop, List.take_append_drop, List.take_append_drop]
theorem rdL_back : ∀ (l : List Nat) (a : MM) (s : ByteArray) (m : MM) (r : ByteArray), (∀ i ∈ l, i < 10) → l.Nodup → rdL l a s = some (m, r) → (∀ i ∈ l, 0 ≤ m.num i) → s.data.toList = l.flatMap (fldL m) ++ r.data.toList := by
  intro l
  induction l with
  | nil => intro a s m r _ _ h _; simp only [rdL, Option.some.injEq, Prod.mk.injEq] at h; obtain ⟨rfl, rfl⟩ := h; rfl
  | cons i l ih =>
    intro a s m r hl hnd h hf
    cases hr : rdF i s with
    | none => rw [rdL_none hr] at h; exact absurd h (by simp)
    | some x =>
      obtain ⟨n, t, r1⟩ := x
      rw [rdL_some hr] at h
      have hi := hl i List.mem_cons_self
      have hl' : ∀ j ∈ l, j < 10 := fun j hj => hl j (List.mem_cons_of_mem _ hj)
      have ⟨hni, hnd'⟩ := List.nodup_cons.1 hnd
      have k := (rdL_keep l _ _ _ _ hl' h).2 i hi hni
      rw [MM.put_num _ _ _ _ hi, MM.put_txt _ _ _ _ hi] at k
      have e := ih _ _ _ _ hl' hnd' h (fun j hj => hf j (List.mem_cons_of_mem _ hj))
      have hfi := hf i List.mem_cons_self
      have hn0 : 0 ≤ n := by
        cases ht : isTx i with
        | true =>
          unfold rdF at hr
          rw [ht] at hr
          split at hr
          · exact absurd hr (by simp)
          · rw [if_neg (by simp)] at hr
            split at hr
            · exact absurd hr (by simp)
            · simp only [Option.some.injEq, Prod.mk.injEq] at hr; omega
        | false => rw [ht] at k; rw [k.1] at hfi; exact hfi
      rw [rdF_back m i hi s n t r1 hr hn0 (fun ht => by rw [k.1, ht]; rfl) (fun ht => by rw [k.2, ht]; rfl), e, List.flatMap_cons, List.append_assoc]
/-- what is written of a field that fits is read -/
theorem rdF_fwd (m : MM) (k i : Nat) (hi : i < 10) (hf : fitAt m k i = true) (hm : mostK k i ≤ mostF i) (r : ByteArray) : rdF i (strOf (fldL m i) ++ r) = some (m.num i, m.txt i, r) := by
  have h0 := (fit_at hf).1
  unfold fitAt at hf
  simp only [Bool.and_eq_true, decide_eq_true_eq] at hf
  obtain ⟨⟨f1, f2⟩, f3⟩ := hf
  have hw := widF_most i hi
  have hM := mostF_le i hi
  cases ht : isTx i with
  | false =>
    obtain ⟨N, hN⟩ : ∃ N : Nat, m.num i = (N : Int) := ⟨_, (Int.toNat_of_nonneg h0).symm⟩
    have e : fldL m i = dig (widF i) N := by unfold fldL; rw [ht, hN]; rfl
    rw [e, hN, txt_num m i ht]
    rw [hN] at f2
    have hN' : N < 256 ^ widF i := by omega
    have es : (strOf (dig (widF i) N) ++ r).size = widF i + r.size := by rw [ByteArray.size_append, strOf_size, dig_len]
    have et : (strOf (dig (widF i) N) ++ r).data.toList.take (widF i) = dig (widF i) N := by
      rw [ByteArray.data_append, Array.toList_append, strOf_data, List.take_left' (dig_len _ _)]
    unfold rdF
    rw [es, if_neg (by omega), if_pos ht, et, val_dig _ _ hN', wrap64_inF (by omega) (by omega)]
    have e2 : (strOf (dig (widF i) N) ++ r).extract (widF i) (widF i + r.size) = r := by
      rw [← strOf_toList ((strOf (dig (widF i) N) ++ r).extract (widF i) (widF i + r.size)), slice_str, ByteArray.data_append, Array.toList_append, strOf_data, List.drop_left' (dig_len _ _), show widF i + r.size - widF i = r.size by omega, List.take_of_length_le (by rw [size_data]; exact Nat.le_refl _), strOf_toList]
    rw [e2]
  | true =>
    have e : fldL m i = dig (widF i) (m.txt i).size ++ (m.txt i).data.toList := by unfold fldL; rw [ht]; rfl
    rw [e, num_tx m i ht]
    generalize m.txt i = t at *
    have hN' : t.size < 256 ^ widF i := by omega
    have es : (strOf (dig (widF i) t.size ++ t.data.toList) ++ r).size = widF i + t.size + r.size := by rw [ByteArray.size_append, strOf_size, List.length_append, dig_len, size_data]
    have et : (strOf (dig (widF i) t.size ++ t.data.toList) ++ r).data.toList.take (widF i) = dig (widF i) t.size := by
      rw [ByteArray.data_append, Array.toList_append, strOf_data, List.append_assoc, List.take_left' (dig_len _ _)]
    unfold rdF
    rw [es, if_neg (by omega), if_neg (by rw [ht]; simp), et, val_dig _ _ hN', if_neg (by omega)]
    have e1 : (strOf (dig (widF i) t.size ++ t.data.toList) ++ r).extract (widF i) (widF i + t.size) = t := by
      rw [← strOf_toList ((strOf (dig (widF i) t.size ++ t.data.toList) ++ r).extract (widF i) (widF i + t.size)), slice_str, ByteArray.data_append, Array.toList_append, strOf_data, List.append_assoc, List.drop_left' (dig_len _ _), show widF i + t.size - widF i = t.size by omega, List.take_left' (size_data t), strOf_toList]
    have e2 : (strOf (dig (widF i) t.size ++ t.data.toList) ++ r).extract (widF i + t.size) (widF i + t.size + r.size) = r := by
      rw [← strOf_toList ((strOf (dig (widF i) t.size ++ t.data.toList) ++ r).extract (widF i + t.size) (widF i + t.size + r.size)), slice_str, ByteArray.data_append, Array.toList_append, strOf_data, List.drop_left' (by rw [List.length_append, dig_len, size_data]), show widF i + t.size + r.size - (widF i + t.size) = r.size by omega, List.take_of_length_le (by rw [size_data]; exact Nat.le_refl _), strOf_toList]
    rw [e1, e2]
def putAll (m : MM) : List Nat → MM → MM
  | [], a => a
  | i :: l, a => putAll m l (a.put i (m.num i) (m.txt i))
theorem putAll_kind (m : MM) : ∀ (l : List Nat) (a : MM), (putAll m l a).kind = a.kind := by
  intro l
  induction l with
  | nil => intro a; rfl
  | cons i l ih => intro a; rw [putAll, ih, MM.put_kind]
theorem putAll_at (m : MM) : ∀ (l : List Nat) (a : MM), (∀ i ∈ l, i < 10) → ∀ j, j < 10 → (putAll m l a).num j = (if j ∈ l then m.num j else a.num j) ∧ (putAll m l a).txt j = (if j ∈ l then m.txt j else a.txt j) := by
  intro l
  induction l with
  | nil => intro a _ j _; exact ⟨rfl, rfl⟩
  | cons i l ih =>
    intro a hl j hj
    have hi := hl i List.mem_cons_self
    obtain ⟨h1, h2⟩ := ih (a.put i (m.num i) (m.txt i)) (fun x hx => hl x (List.mem_cons_of_mem _ hx)) j hj
    rw [putAll, h1, h2]
    by_cases hjl : j ∈ l
    · rw [if_pos hjl, if_pos hjl, if_pos (List.mem_cons_of_mem _ hjl), if_pos (List.mem_cons_of_mem _ hjl)]; exact ⟨rfl, rfl⟩
    · rw [if_neg hjl, if_neg hjl]
      by_cases hji : j = i
      · subst hji
        rw [if_pos List.mem_cons_self, if_pos List.mem_cons_self, MM.put_num _ _ _ _ hj, MM.put_txt _ _ _ _ hj]
        cases ht : isTx j with
        | true => exact ⟨by rw [num_tx m j ht]; rfl, rfl⟩
        | false => exact ⟨rfl, by rw [txt_num m j ht]; rfl⟩
      · have hn : j ∉ i :: l := by
          intro h; rcases List.mem_cons.1 h with h | h
          · exact hji h
          · exact hjl h
        rw [if_neg hn, if_neg hn]
        exact MM.put_other a i j _ _ hi hj hji
theorem rdL_fwd (m : MM) (k : Nat) : ∀ (l : List Nat) (a : MM) (r : ByteArray), (∀ i ∈ l, i < 10) → (∀ i ∈ l, fitAt m k i = true) → (∀ i, mostK k i ≤ mostF i) → rdL l a (strOf (l.flatMap (fldL m)) ++ r) = some (putAll m l a, r) := by
  intro l
  induction l with
  | nil =>
    intro a r _ _ _
    have : strOf ([].flatMap (fldL m)) ++ r = r := by
      rw [← strOf_toList (strOf ([].flatMap (fldL m)) ++ r), ByteArray.data_append, Array.toList_append, strOf_data, List.flatMap_nil, List.nil_append, strOf_toList]
    rw [this]; rfl
  | cons i l ih =>
    intro a r hl hf hm
    have e : strOf ((i :: l).flatMap (fldL m)) ++ r = strOf (fldL m i) ++ (strOf (l.flatMap (fldL m)) ++ r) := by
      rw [← strOf_toList (strOf ((i :: l).flatMap (fldL m)) ++ r), ← strOf_toList (strOf (fldL m i) ++ (strOf (l.flatMap (fldL m)) ++ r))]
      simp only [ByteArray.data_append, Array.toList_append, strOf_data, List.flatMap_cons, List.append_assoc]
    rw [e, rdL_some (rdF_fwd m k i (hl i List.mem_cons_self) (hf i List.mem_cons_self) (hm i) _), ih _ _ (fun j hj => hl j (List.mem_cons_of_mem _ hj)) (fun j hj => hf j (List.mem_cons_of_mem _ hj)) hm]
    rfl
end Go.Proofs.YtgdjfocnaapooaaDoor
namespace Go.Proofs.YtgdjfocnaapooaaDoor
open Go.RowKit
def magF : ByteArray := ⟨#[71, 82, 1]⟩
set_option maxHeartbeats 2000000 in
set_option maxRecDepth 100000 in
theorem prefixS_any (s : ByteArray) (h : 3 ≤ s.size) (w : World) :
    Calls Tryd.prog 81 #[.string s, .string magF] w fun e w' => e = .returned (.bool (decide (s.extract 0 3 = magF))) ∧ w = w' := by
  have hlt : ¬ (s.size : Int) < 3 := by omega
  have hz : magF.size = 3 := rfl
  have EB := hide (eq_beq (s.extract 0 3) magF)
  have hx : magF = ⟨#[71, 82, 1]⟩ := rfl
  clear hx
  generalize magF = M at *
  go_enter Tryd.func81, Tryd.ntmps81
  go_wp2_with fail
  go_ret
  exact ⟨ret_bool (by rw [← EB.out]), rfl⟩
set_option maxHeartbeats 2000000 in
set_option maxRecDepth 100000 in
theorem prefix_any (s : ByteArray) (h : 3 ≤ s.size) (w : World) :
    Calls Tryd.prog 75 #[.string s, .string magF] w fun e w' => e = .returned (.bool (decide (s.extract 0 3 = magF))) ∧ w = w' := by
  have C := hide (prefixS_any s h w)
  generalize magF = M at *
  go_enter Tryd.func75, Tryd.ntmps75
  go_wp2_with fail
  refine Calls.mono C.out ?_
  rintro e wx ⟨rfl, rfl⟩
  go_wp2_with fail
  go_ret
  exact ⟨rfl, rfl⟩
/-- a frame's kind -/
def kndF (s : ByteArray) : Nat := (s.data.toList.getD 3 0).toNat
/-- its sum -/
def sumOk (s : ByteArray) : Bool := decide (s.extract (s.size - 4) s.size = strOf (le4 (crcN 0 (s.extract 0 (s.size - 4)).data.toList)))
/-- what check tells -/
def chkE (s : ByteArray) : Int :=
  if s.size < 24 then 51 else if s.extract 0 3 ≠ magF then 52 else if ¬ (1 ≤ kndF s ∧ kndF s ≤ 16) then 53 else if bszF s > 4383 ∨ s.size ≠ 24 + bszF s then 54 else if sumOk s = false then 55 else 0
theorem chk_short {s : ByteArray} (h : s.size < 24) : chkE s = 51 := by unfold chkE; rw [if_pos h]
theorem chk_magic {s : ByteArray} (h : ¬ s.size < 24) (h2 : s.extract 0 3 ≠ magF) : chkE s = 52 := by unfold chkE; rw [if_neg h, if_pos h2]
theorem chk_kind {s : ByteArray} (h : ¬ s.size < 24) (h2 : s.extract 0 3 = magF) (h3 : ¬ (1 ≤ kndF s ∧ kndF s ≤ 16)) : chkE s = 53 := by unfold chkE; rw [if_neg h, if_neg (fun x => x h2), if_pos h3]
theorem chk_len {s : ByteArray} (h : ¬ s.size < 24) (h2 : s.extract 0 3 = magF) (h3 : 1 ≤ kndF s ∧ kndF s ≤ 16) (h4 : bszF s > 4383 ∨ s.size ≠ 24 + bszF s) : chkE s = 54 := by unfold chkE; rw [if_neg h, if_neg (fun x => x h2), if_neg (fun x => x h3), if_pos h4]
theorem chk_sum {s : ByteArray} (h : ¬ s.size < 24) (h2 : s.extract 0 3 = magF) (h3 : 1 ≤ kndF s ∧ kndF s ≤ 16) (h4 : ¬ (bszF s > 4383 ∨ s.size ≠ 24 + bszF s)) (h5 : sumOk s = false) : chkE s = 55 := by unfold chkE; rw [if_neg h, if_neg (fun x => x h2), if_neg (fun x => x h3), if_neg h4, if_pos h5]
theorem chk_ok {s : ByteArray} (h : ¬ s.size < 24) (h2 : s.extract 0 3 = magF) (h3 : 1 ≤ kndF s ∧ kndF s ≤ 16) (h4 : ¬ (bszF s > 4383 ∨ s.size ≠ 24 + bszF s)) (h5 : sumOk s = true) : chkE s = 0 := by unfold chkE; rw [if_neg h, if_neg (fun x => x h2), if_neg (fun x => x h3), if_neg h4, if_neg (by rw [h5]; simp)]
theorem knd_at (s : ByteArray) (h : 3 < s.size) : (s[3]'h).toNat = kndF s := by
  unfold kndF
  rw [List.getD_eq_getElem?_getD, List.getElem?_eq_getElem (by rw [size_data]; exact h)]
  rfl
set_option maxHeartbeats 2000000 in
set_option maxRecDepth 100000 in
theorem check_short (s : ByteArray) (h : s.size < 24) (w : World) :
    Calls Tryd.prog 67 #[.string s] w fun e w' => e = .returned (.int .i64 (chkE s)) ∧ Below w.heap.size w w' := by
  rw [chk_short h]
  have hlt : (s.size : Int) < 24 := by omega
  go_enter Tryd.func67, Tryd.ntmps67
  go_wp2_with fail
  go_ret
  exact ⟨rfl, Below.refl _ _⟩
set_option maxHeartbeats 2000000 in
set_option maxRecDepth 100000 in
set_option linter.unusedSimpArgs false in
theorem check_long (s : ByteArray) (h : ¬ s.size < 24) (w : World) (hT : Tab4 5 w) :
    Calls Tryd.prog 67 #[.string s] w fun e w' => e = .returned (.int .i64 (chkE s)) ∧ Below w.heap.size w w' := by
  have hlt : ¬ (s.size : Int) < 24 := by omega
  have PF := hide (prefix_any s (by omega) w)
  have BS := hide (fun w' => bodySize_any s (by omega) w')
  have IK := hide (fun w' => isKind_any (kndF s : Int) w')
  have K3 := knd_at s (by omega)
  have hkb : kndF s < 256 := by rw [← K3]; exact UInt8.toNat_lt _
  have hx : magF = ⟨#[71, 82, 1]⟩ := rfl
  go_enter Tryd.func67, Tryd.ntmps67
  go_wp2_with fail
  rw [hx] at PF
  refine Calls.mono PF.out ?_
  rintro e wx ⟨rfl, rfl⟩
  clear PF
  by_cases h2 : s.extract 0 3 = magF
  case neg =>
    have E := hide (chk_magic h h2)
    rw [hx] at h2
    rw [decide_eq_false h2]
    clear hx
    go_wp2_with fail
    go_ret
    exact ⟨by rw [E.out]; rfl, Below.refl _ _⟩
  case pos =>
    have H2 := hide h2
    rw [hx] at h2
    rw [decide_eq_true h2]
    clear hx h2
    go_wp2_with fail
    refine Calls.mono (IK.out _) ?_
    rintro e wx ⟨rfl, rfl⟩
    by_cases h3 : 1 ≤ kndF s ∧ kndF s ≤ 16
    case neg =>
      have E := hide (chk_kind h H2.out h3)
      rw [decide_eq_false (by omega)]
      go_wp2_with fail
      go_ret
      exact ⟨by rw [E.out]; rfl, Below.refl _ _⟩
    case pos =>
      have H3 := hide h3
      rw [decide_eq_true (by omega)]
      clear IK K3 h3
      go_wp2_with fail
      refine Calls.mono (BS.out _) ?_
      rintro e wx ⟨rfl, rfl⟩
      by_cases h4 : bszF s > 4383
      case pos =>
        have E := hide (chk_len h H2.out H3.out (Or.inl h4))
        have h4' : (4383 : Int) < (bszF s : Int) := by omega
        go_wp2_with fail
        go_ret
        exact ⟨by rw [E.out]; rfl, Below.refl _ _⟩
      case neg =>
        have h4' : ¬ (4383 : Int) < (bszF s : Int) := by omega
        go_wp2_with fail
        refine Calls.mono (BS.out _) ?_
        rintro e wx ⟨rfl, rfl⟩
        by_cases h5 : s.size = 24 + bszF s
        case neg =>
          have E := hide (chk_len h H2.out H3.out (Or.inr h5))
          have h5b : ((s.size : Int) != 24 + (bszF s : Int)) = true := by simp; omega
          go_wp2_with fail
          go_ret
          exact ⟨by rw [E.out]; rfl, Below.refl _ _⟩
        case pos =>
          have H4 : Hid (¬ (bszF s > 4383 ∨ s.size ≠ 24 + bszF s)) := fun hh => hh.elim h4 (fun x => x h5)
          have h5b : ((s.size : Int) != 24 + (bszF s : Int)) = false := by simp; omega
          have hs64 : s.size ≤ 5000 := by omega
          have hs24 : 24 ≤ s.size := by omega
          have CS := hide (sumOf_any (s.extract 0 (s.size - 4)) (by rw [ByteArray.size_extract]; omega))
          have hse : (s.size : Int) - 4 = ((s.size - 4 : Nat) : Int) := by omega
          have E1 := hide (fun h6 => chk_sum (s := s) h H2.out H3.out H4.out h6)
          have E2 := hide (fun h6 => chk_ok (s := s) h H2.out H3.out H4.out h6)
          clear BS h4 H2 H3 H4 hlt h5
          go_wp2_with fail
          clear h4' h5b
          have EQ := hide (eq_beq (s.extract (s.size - 4) s.size) (strOf (le4 (crcN 0 (s.extract 0 (s.size - 4)).data.toList))))
          refine wp_region_held_drew (S := fun _ => True) (by kernel_rfl) trivial (fun hHeld => ?_)
          refine wpAnyH_take (i := 0) (v := (.string s)) rfl (by kernel_rfl) (by kernel_rfl) (by kernel_rfl) (fun _ _ _ h => h) (Or.inl ⟨by rfl, ?_⟩) (by assumption) ?_
          · intro w' hSw
            (try dsimp only at hSw)
            go_simp <;> first | exact i64_in (by omega) (by omega) | exact u32_in (by omega) (by omega) | exact u32_add _ _ | (rw [Int.tmod_eq_emod_of_nonneg (by omega)]; omega) | (rw [Int.tdiv_eq_ediv_of_nonneg (by omega)]; omega) | omega
          (try simp only [Act.put, List.setIfInBounds_toArray, List.set_cons_zero, List.set_cons_succ])
          refine wpAnyH_take (i := 1) (v := (.string s)) rfl (by kernel_rfl) (by kernel_rfl) (by kernel_rfl) (fun _ _ _ h => h) (Or.inl ⟨by rfl, ?_⟩) (by assumption) ?_
          · intro w' hSw
            (try dsimp only at hSw)
            go_simp <;> first | exact i64_in (by omega) (by omega) | exact u32_in (by omega) (by omega) | exact u32_add _ _ | (rw [Int.tmod_eq_emod_of_nonneg (by omega)]; omega) | (rw [Int.tdiv_eq_ediv_of_nonneg (by omega)]; omega) | omega
          (try simp only [Act.put, List.setIfInBounds_toArray, List.set_cons_zero, List.set_cons_succ])
          refine wpAnyH_take (i := 2) (v := (.int .i64 (s.size : Int))) rfl (by kernel_rfl) (by kernel_rfl) (by kernel_rfl) (fun _ _ _ h => h) (Or.inl ⟨by rfl, ?_⟩) (by assumption) ?_
          · intro w' hSw
            (try dsimp only at hSw)
            go_simp <;> first | exact i64_in (by omega) (by omega) | exact u32_in (by omega) (by omega) | exact u32_add _ _ | (rw [Int.tmod_eq_emod_of_nonneg (by omega)]; omega) | (rw [Int.tdiv_eq_ediv_of_nonneg (by omega)]; omega) | omega
          (try simp only [Act.put, List.setIfInBounds_toArray, List.set_cons_zero, List.set_cons_succ])
          refine wpAnyH_take (i := 3) (v := (.int .i64 ((s.size - 4 : Nat) : Int))) rfl (by kernel_rfl) (by kernel_rfl) (by kernel_rfl) (fun _ _ _ h => h) (Or.inl ⟨by rfl, ?_⟩) (by assumption) ?_
          · intro w' hSw
            (try dsimp only at hSw)
            (go_simp; exact i64_in (by omega) (by omega))
          (try simp only [Act.put, List.setIfInBounds_toArray, List.set_cons_zero, List.set_cons_succ])
          refine wpAnyH_take (i := 4) (v := (.string (s.extract (s.size - 4) s.size))) rfl (by kernel_rfl) (by kernel_rfl) (by kernel_rfl) (fun _ _ _ h => h) (Or.inl ⟨by rfl, ?_⟩) (by assumption) ?_
          · intro w' hSw
            (try dsimp only at hSw)
            (go_simp; (repeat rw [if_pos (by first | omega | exact ⟨by omega, by omega⟩)]); (try rw [Int.toNat_natCast]); (try rw [Int.toNat_natCast]); (try rfl))
          (try simp only [Act.put, List.setIfInBounds_toArray, List.set_cons_zero, List.set_cons_succ])
          refine wpAnyH_take (i := 5) (v := (.string s)) rfl (by kernel_rfl) (by kernel_rfl) (by kernel_rfl) (fun _ _ _ h => h) (Or.inl ⟨by rfl, ?_⟩) (by assumption) ?_
          · intro w' hSw
            (try dsimp only at hSw)
            go_simp <;> first | exact i64_in (by omega) (by omega) | exact u32_in (by omega) (by omega) | exact u32_add _ _ | (rw [Int.tmod_eq_emod_of_nonneg (by omega)]; omega) | (rw [Int.tdiv_eq_ediv_of_nonneg (by omega)]; omega) | omega
          (try simp only [Act.put, List.setIfInBounds_toArray, List.set_cons_zero, List.set_cons_succ])
          refine wpAnyH_take (i := 6) (v := (.string s)) rfl (by kernel_rfl) (by kernel_rfl) (by kernel_rfl) (fun _ _ _ h => h) (Or.inl ⟨by rfl, ?_⟩) (by assumption) ?_
          · intro w' hSw
            (try dsimp only at hSw)
            go_simp <;> first | exact i64_in (by omega) (by omega) | exact u32_in (by omega) (by omega) | exact u32_add _ _ | (rw [Int.tmod_eq_emod_of_nonneg (by omega)]; omega) | (rw [Int.tdiv_eq_ediv_of_nonneg (by omega)]; omega) | omega
          (try simp only [Act.put, List.setIfInBounds_toArray, List.set_cons_zero, List.set_cons_succ])
          refine wpAnyH_take (i := 7) (v := (.int .i64 (s.size : Int))) rfl (by kernel_rfl) (by kernel_rfl) (by kernel_rfl) (fun _ _ _ h => h) (Or.inl ⟨by rfl, ?_⟩) (by assumption) ?_
          · intro w' hSw
            (try dsimp only at hSw)
            go_simp <;> first | exact i64_in (by omega) (by omega) | exact u32_in (by omega) (by omega) | exact u32_add _ _ | (rw [Int.tmod_eq_emod_of_nonneg (by omega)]; omega) | (rw [Int.tdiv_eq_ediv_of_nonneg (by omega)]; omega) | omega
          (try simp only [Act.put, List.setIfInBounds_toArray, List.set_cons_zero, List.set_cons_succ])
          refine wpAnyH_take (i := 8) (v := (.int .i64 ((s.size - 4 : Nat) : Int))) rfl (by kernel_rfl) (by kernel_rfl) (by kernel_rfl) (fun _ _ _ h => h) (Or.inl ⟨by rfl, ?_⟩) (by assumption) ?_
          · intro w' hSw
            (try dsimp only at hSw)
            (go_simp; exact i64_in (by omega) (by omega))
          (try simp only [Act.put, List.setIfInBounds_toArray, List.set_cons_zero, List.set_cons_succ])
          refine wpAnyH_take (i := 9) (v := (.string (s.extract 0 (s.size - 4)))) rfl (by kernel_rfl) (by kernel_rfl) (by kernel_rfl) (fun _ _ _ h => h) (Or.inl ⟨by rfl, ?_⟩) (by assumption) ?_
          · intro w' hSw
            (try dsimp only at hSw)
            (go_simp; (repeat rw [if_pos (by first | omega | exact ⟨by omega, by omega⟩)]); (try rw [Int.toNat_natCast]); (try rw [Int.toNat_natCast]); (try rfl))
          (try simp only [Act.put, List.setIfInBounds_toArray, List.set_cons_zero, List.set_cons_succ])
          refine wpAnyH_ready (rs := [10]) (by kernel_rfl) (by simp) ?_
          refine AllReadyH.cons rfl (fun K hK => ?_) AllReadyH.nil
          go_simp
          refine Calls.mono (CS.out _ hT) ?_
          rintro x wx ⟨rfl, bx⟩
          refine hK.out _ _ (trivial) (fun hHeld => ?_)
          clear hK
          (try simp only [Act.put, List.setIfInBounds_toArray, List.set_cons_zero, List.set_cons_succ])
          have SB : Hid (sumOk s = ((s.extract (s.size - 4) s.size).toList == (strOf (le4 (crcN 0 (s.extract 0 (s.size - 4)).data.toList))).toList)) := by rw [eq_beq]; rfl
          generalize strOf (le4 (crcN 0 (s.extract 0 (s.size - 4)).data.toList)) = Z at *
          generalize s.extract (s.size - 4) s.size = Y at *
          generalize s.extract 0 (s.size - 4) = X at *
          refine wpAnyH_ready (rs := [11]) (by kernel_rfl) (by simp) ?_
          refine AllReadyH.cons rfl (fun K hK => ?_) AllReadyH.nil
          go_simp
          refine hK.out _ _ (trivial) (fun hHeld => ?_)
          clear hK
          (try simp only [Act.put, List.setIfInBounds_toArray, List.set_cons_zero, List.set_cons_succ])
          refine wpAnyH_ready (rs := [12]) (by kernel_rfl) (by simp) ?_
          refine AllReadyH.cons rfl (fun K hK => ?_) AllReadyH.nil
          go_simp
          refine hK.out _ _ (trivial) (fun hHeld => ?_)
          clear hK
          (try simp only [Act.put, List.setIfInBounds_toArray, List.set_cons_zero, List.set_cons_succ])
          refine wpAnyH_done (by kernel_rfl) ?_ _
          clear hHeld
          cases hs : sumOk s with
          | false =>
            have e := E1.out hs
            have hz : (Y.toList == Z.toList) = false := by rw [← SB.out]; exact hs
            have E := hide e
            rw [hz]
            clear e E1 E2 SB hs EQ CS
            go_wp2_with fail
            go_ret
            exact ⟨by rw [E.out]; rfl, ((Below.refl _ w).drew).trans bx⟩
          | true =>
            have e := E2.out hs
            have hz : (Y.toList == Z.toList) = true := by rw [← SB.out]; exact hs
            have E := hide e
            rw [hz]
            clear e E1 E2 SB hs EQ CS
            go_wp2_with fail
            go_ret
            exact ⟨by rw [E.out]; rfl, ((Below.refl _ w).drew).trans bx⟩
end Go.Proofs.YtgdjfocnaapooaaDoor
namespace Go.Proofs.YtgdjfocnaapooaaDoor
open Go.RowKit
theorem heap_setCell (w : World) (b o : Nat) (v : Value) (c : Array Value) (t : TypeId) (fr : Nat × Nat) (h : w.heap[b]? = some (.cells c t fr)) : (w.setCell ⟨b, o, none⟩ v).heap[b]? = some (.cells (c.setIfInBounds o v) t fr) := by
  simp only [World.setCell, Array.getElem?_modify, if_true, h, Option.map_some]
  rfl
theorem put_arr (m : MM) (i : Nat) (hi : i < 10) (n : Int) (t : ByteArray) (h1 : isTx i = true → n = 0) (h2 : isTx i = false → t = ⟨#[]⟩) : ((cellsV m).setIfInBounds (i * 2) (.int .i64 n)).setIfInBounds (i * 2 + 1) (.string t) = cellsV (m.put i n t) := by
  rcases ten_cases hi with rfl | rfl | rfl | rfl | rfl | rfl | rfl | rfl | rfl | rfl
  · rw [h2 rfl]; rfl
  · rw [h2 rfl]; rfl
  · rw [h2 rfl]; rfl
  · rw [h2 rfl]; rfl
  · rw [h2 rfl]; rfl
  · rw [h2 rfl]; rfl
  · rw [h2 rfl]; rfl
  · rw [h2 rfl]; rfl
  · rw [h1 rfl]; rfl
  · rw [h1 rfl]; rfl
theorem put_cells (m : MM) (i : Nat) (hi : i < 10) (n : Int) (t : ByteArray) (h1 : isTx i = true → n = 0) (h2 : isTx i = false → t = ⟨#[]⟩) (w : World) (Q : Nat) (h : w.heap[Q]? = some (.cells (cellsV m) 72)) :
    ((w.setCell ⟨Q, i * 2, none⟩ (.int .i64 n)).setCell ⟨Q, i * 2 + 1, none⟩ (.string t)).heap[Q]? = some (.cells (cellsV (m.put i n t)) 72) := by
  rw [heap_setCell _ _ _ _ _ _ _ (heap_setCell _ _ _ _ _ _ _ h), put_arr m i hi n t h1 h2]
theorem cells_at (m : MM) (w : World) (Q : Nat) (h : w.heap[Q]? = some (.cells (cellsV m) 72)) (i : Nat) (hi : i < 10) : w.cell? ⟨Q, i * 2, none⟩ = some (.int .i64 (m.num i)) ∧ w.cell? ⟨Q, i * 2 + 1, none⟩ = some (.string (m.txt i)) ∧ w.frozen? ⟨Q, i * 2, none⟩ = false ∧ w.frozen? ⟨Q, i * 2 + 1, none⟩ = false := by
  refine ⟨?_, ?_, ?_, ?_⟩
  · unfold World.cell?; rw [h]; rcases ten_cases hi with rfl | rfl | rfl | rfl | rfl | rfl | rfl | rfl | rfl | rfl <;> rfl
  · unfold World.cell?; rw [h]; rcases ten_cases hi with rfl | rfl | rfl | rfl | rfl | rfl | rfl | rfl | rfl | rfl <;> rfl
  · unfold World.frozen?; rw [h]; simp
  · unfold World.frozen?; rw [h]; simp
theorem rdF_kind {i : Nat} {s : ByteArray} {n : Int} {t r : ByteArray} (h : rdF i s = some (n, t, r)) : (isTx i = true → n = 0) ∧ (isTx i = false → t = ⟨#[]⟩) := by
  unfold rdF at h
  split at h
  · exact absurd h (by simp)
  · split at h
    · rename_i ht
      simp only [Option.some.injEq, Prod.mk.injEq] at h
      exact ⟨fun h' => by rw [ht] at h'; simp at h', fun _ => h.2.1.symm⟩
    · rename_i ht
      split at h
      · exact absurd h (by simp)
      · simp only [Option.some.injEq, Prod.mk.injEq] at h
        exact ⟨fun _ => h.1.symm, fun h' => absurd h' ht⟩
/-- twenty cells at a time, into a block that is there -/
theorem wpList_storeAll {w : World} {ops : Array Oper} {rest : List Oper} {o : Oper} {a : Act} {Q : Exit → Act → World → Prop} (hgd : o.guard = none) (p x : Operand) (ho : o.op = .store 72 p x) (b : Nat) (hp : a.eval p = .pointer (some ⟨b, 0, none⟩)) (m m0 : MM) (hx : a.eval x = .agg (cellsV m)) (hO : w.heap[b]? = some (.cells (cellsV m0) 72))
    (h : wpList Tryd.prog ops Q rest (a.put o.dst undef) (w.setRow b (cellsV m))) : wpList Tryd.prog ops Q (o :: rest) a w := by
  refine wpList_plain hgd fun K hK => ?_
  unfold Oper.wp execOp
  simp only [ho, Sem.run_bind, Sem.run_pure, hp, hx]
  have hs : (Instr.storeAt 72 (.pointer (some ⟨b, 0, none⟩)) (.agg (cellsV m))).run Tryd.prog w = .ok () (w.setRow b (cellsV m)) := by
    simp only [Instr.storeAt, Instr.sureAddr, Sem.run_bind, Sem.run_pure, Result.andThen]
    exact run_storeVar_row w b 72 72 (cellsV m0) (cellsV m) hO cells_info rfl (cells_one m)
  rw [hs]
  exact hK _ _ h
theorem built_none (k : Nat) : Tryd.prog.built 72 [] = some (cellsV (mm0 k)) := by kernel_rfl
theorem wpList_buildNone {w : World} {ops : Array Oper} {rest : List Oper} {o : Oper} {a : Act} {Q : Exit → Act → World → Prop} (hgd : o.guard = none) (ho : o.op = .build 72 #[]) (k : Nat)
    (h : wpList Tryd.prog ops Q rest (a.put o.dst (.agg (cellsV (mm0 k)))) w) : wpList Tryd.prog ops Q (o :: rest) a w := by
  refine wpList_plain hgd fun K hK => ?_
  unfold Oper.wp execOp
  simp only [ho, List.map_toArray, List.map_nil, Sem.run_bind, Sem.run_pure, Result.andThen_ok, run_build w 72 _ (cellsV (mm0 k)) (built_none k)]
  exact hK _ _ h
theorem res_all2 {fn : Func} {p q : Tmp} (h : fn.results = #[.cell p 72, .tmp q]) (tmps : Array Value) (m : MM) (w : World) (b : Nat) (ht : tmps.getD p undef = .pointer (some ⟨b, 0, none⟩)) (v : Value) (hv : tmps.getD q undef = v) (hO : w.heap[b]? = some (.cells (cellsV m) 72)) : (results fn tmps).run Tryd.prog w = .ok (.tuple #[.agg (cellsV m), v]) w := by
  have hl := res_cells m w b hO
  have ht' : tmps[p]?.getD undef = .pointer (some ⟨b, 0, none⟩) := by simpa using ht
  have hv' : tmps[q]?.getD undef = v := by simpa using hv
  unfold results
  rw [h]
  simp [ht', hv', asAddr, hl]
end Go.Proofs.YtgdjfocnaapooaaDoor
