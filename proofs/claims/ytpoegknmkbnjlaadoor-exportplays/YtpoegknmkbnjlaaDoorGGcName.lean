import Derived.Test.YtpoegknmkbnjlaaDoorGGcSet
import Derived.Lib.IndexAny
namespace Go.Proofs.YtpoegknmkbnjlaaDoor
open Go.RowKit Go.Shelf
theorem size_data (s : ByteArray) : s.data.toList.length = s.size := by simp
theorem toList_data (s : ByteArray) : s.toList = s.data.toList := ByteArray.toList_eq s
theorem ix_str (w : World) (s : ByteArray) (k : Nat) (hk : k < s.size) : (Instr.index 9 (.string s) (.int .i64 (k : Int))).run Tryd.prog w = .ok (.int .u8 (s[k].toNat : Int)) w := by
  rw [run_index_string w 9 s .i64 k Tryd.underlying9, dif_pos ⟨by omega, by omega⟩]
  simp
def allOf (t : List UInt8) (these : ByteArray) : Bool := t.all fun c => these.data.toList.contains c
theorem allOf_snoc (t : ByteArray) (these : ByteArray) (k : Nat) (h : k < t.size) : allOf (t.data.toList.take (k + 1)) these = (allOf (t.data.toList.take k) these && these.data.toList.contains t[k]) := by
  unfold allOf
  rw [List.take_succ_eq_append_getElem (by simpa using h), List.all_append]
  simp
  rfl
theorem allOf_false (t : ByteArray) (these : ByteArray) (k : Nat) (h : k < t.size) (hc : these.data.toList.contains t[k] = false) : allOf t.data.toList these = false := by
  unfold allOf
  rw [List.all_eq_false]
  exact ⟨t[k], by have : t[k] = t.data.toList[k]'(by simpa using h) := rfl; rw [this]; exact List.getElem_mem _, by rw [hc]; simp⟩
set_option maxHeartbeats 1000000 in
set_option maxRecDepth 100000 in
/-- isOf -/
theorem isOf_any (t these : ByteArray) (w : World) (hs : t.size ≤ 9223372036854775807) :
    Calls Tryd.prog 69 #[.string t, .string these] w fun e w' => e = .returned (.bool (allOf t.data.toList these)) ∧ w = w' := by
  go_enter Tryd.func69, Tryd.ntmps69
  go_wp2
  go_loop [8] (fun v => ∃ k : Nat, k ≤ t.size ∧ v = .int .i64 k ∧ Hid (allOf (t.data.toList.take k) these = true)) (fun v => t.size - (intOf v).toNat)
  case atStart => exact ⟨0, Nat.zero_le _, rfl, rfl⟩
  case round =>
    obtain ⟨k, hk, rfl, hA⟩ := hrel
    by_cases hlt : k < t.size
    · have hxs : ∀ w', (Instr.index 9 (.string t) (.int .i64 (k : Int))).run Tryd.prog w' = .ok (.int .u8 (t[k].toNat : Int)) w' := fun w' => ix_str w' t k hlt
      have C := hide (Tryd.strings_IndexByte these t[k].toNat w)
      rw [show ((t[k].toNat : Int)).toNat.toUInt8 = t[k] by simp] at C
      have HC := hide (Lib.contains_iff_indexByte these.data.toList t[k])
      have HS := hide (allOf_snoc t these k hlt)
      have HF := hide (allOf_false t these k hlt)
      generalize t[k] = c at *
      by_cases hi : (0 : Int) ≤ Lib.indexByte these.data.toList c
      · have hi' : ¬ Lib.indexByte these.data.toList c < 0 := by omega
        go_wp2_with (go_at_call 74; refine Calls.mono C.out ?_; rintro e w' ⟨rfl, rfl⟩)
        go_round
        case rel => exact ⟨k + 1, by omega, by go_num, by rw [HS.out, hA.out, HC.out, decide_eq_true hi]; rfl⟩
        case measure => simp [intOf]; omega
      · have hi' : Lib.indexByte these.data.toList c < 0 := by omega
        go_wp2_with (go_at_call 74; refine Calls.mono C.out ?_; rintro e w' ⟨rfl, rfl⟩)
        go_ret
        exact ⟨ret_bool (HF.out (by rw [HC.out]; exact decide_eq_false (by omega))).symm, rfl⟩
    · obtain rfl : k = t.size := by omega
      have hA' := hA.out
      rw [List.take_of_length_le (by simp)] at hA'
      have HA := hide hA'
      clear hA' hA
      go_wp2
      go_ret
      exact ⟨ret_bool HA.out.symm, rfl⟩
def stL : ByteArray := ⟨#[97, 98, 99, 100, 101, 102, 103, 104, 105, 106, 107, 108, 109, 110, 111, 112, 113, 114, 115, 116, 117, 118, 119, 120, 121, 122, 48, 49, 50, 51, 52, 53, 54, 55, 56, 57, 45]⟩
def ltL : ByteArray := ⟨#[97, 98, 99, 100, 101, 102, 103, 104, 105, 106, 107, 108, 109, 110, 111, 112, 113, 114, 115, 116, 117, 118, 119, 120, 121, 122]⟩
def isSt (t : List UInt8) : Bool := !t.isEmpty && allOf (t.take 1) ltL && allOf t stL
theorem take1_data (t : ByteArray) : (t.extract 0 1).data.toList = t.data.toList.take 1 := by rw [Lib.extract_data]; simp
set_option maxHeartbeats 1000000 in
set_option maxRecDepth 100000 in
theorem isStore_any (t : ByteArray) (w : World) (hs : t.size ≤ 9223372036854775807) :
    Calls Tryd.prog 56 #[.string t] w fun e w' => e = .returned (.bool (decide (t.size ≤ 40) && isSt t.data.toList)) ∧ Below w.heap.size w w' := by
  by_cases h0 : t.size = 0
  · have e1 : isSt t.data.toList = false := by
      have : t.data.toList = [] := List.length_eq_zero_iff.1 (by rw [size_data]; exact h0)
      rw [this]; rfl
    rw [e1, Bool.and_false]
    have e2 : t = ⟨#[]⟩ := ByteArray.ext (Array.toList_inj.1 (by rw [List.length_eq_zero_iff.1 (show t.data.toList.length = 0 by rw [size_data]; exact h0)]))
    subst e2
    go_enter Tryd.func56, Tryd.ntmps56
    go_wp2_with fail
    go_ret
    exact ⟨rfl, Below.refl _ _⟩
  · have hne : ¬ t = ⟨#[]⟩ := fun e => h0 (by rw [e]; rfl)
    have hne2 : t.toList.isEmpty = false := by
      rw [toList_data]
      cases hd : t.data.toList with
      | nil => exact absurd (by rw [← size_data, hd]; rfl) h0
      | cons a b => rfl
    have hsz : 1 ≤ t.size := by omega
    have hsz' : (1 : Int) ≤ (t.size : Int) := by omega
    by_cases h40 : 40 < t.size
    · rw [decide_eq_false (by omega), Bool.false_and]
      have h40' : ¬ (t.size : Int) ≤ 40 := by omega
      have h40'' : (40 : Int) < (t.size : Int) := by omega
      go_enter Tryd.func56, Tryd.ntmps56
      go_wp2_with fail
      go_ret
      exact ⟨rfl, Below.refl _ _⟩
    have h40' : (t.size : Int) ≤ 40 := by omega
    have h40'' : ¬ (40 : Int) < (t.size : Int) := by omega
    rw [decide_eq_true (by omega : t.size ≤ 40), Bool.true_and]
    have C1 := hide (fun w' => isOf_any (t.extract 0 1) ltL w' (by rw [ByteArray.size_extract]; omega))
    have C2 := hide (fun w' => isOf_any t stL w' hs)
    rw [take1_data] at C1
    have HE : Hid (isSt t.data.toList = (allOf (t.data.toList.take 1) ltL && allOf t.data.toList stL)) := by
      show _ = _
      unfold isSt
      have : t.data.toList.isEmpty = false := by
        cases hd : t.data.toList with
        | nil => exact absurd (by rw [← size_data, hd]; rfl) h0
        | cons a b => rfl
      rw [this]; rfl
    obtain ⟨E, hE⟩ : ∃ E, E = isSt t.data.toList := ⟨_, rfl⟩
    rw [← hE] at HE ⊢
    unfold ltL at C1 HE
    unfold stL at C2 HE
    generalize allOf (t.data.toList.take 1) _ = A at *
    generalize allOf t.data.toList _ = B at *
    clear hE h0
    cases hA : A with
    | false =>
      rw [hA] at C1 HE
      go_enter Tryd.func56, Tryd.ntmps56
      go_wp2_with fail
      refine Calls.mono (C1.out _) ?_
      rintro e w1 ⟨rfl, rfl⟩
      go_wp2_with fail
      go_ret
      exact ⟨ret_bool HE.out.symm, Below.refl _ _⟩
    | true =>
      rw [hA] at C1 HE
      go_enter Tryd.func56, Tryd.ntmps56
      go_wp2_with fail
      refine Calls.mono (C1.out _) ?_
      rintro e w1 ⟨rfl, rfl⟩
      go_wp2_with fail
      refine Calls.mono (C2.out _) ?_
      rintro e w1 ⟨rfl, rfl⟩
      go_wp2_with fail
      go_ret
      exact ⟨ret_bool HE.out.symm, Below.refl _ _⟩
/-- a byte of a name -/
def okc (n : Nat) : Bool := decide (97 ≤ n) && decide (n ≤ 122) || decide (48 ≤ n) && decide (n ≤ 57) || decide (n = 45)
set_option maxRecDepth 100000 in
theorem okc_st (c : UInt8) : stL.data.toList.contains c = okc c.toNat := by
  have h : ∀ n : Fin 256, stL.data.toList.contains (UInt8.ofNat n.val) = okc n.val   := by decide +kernel
  have := h ⟨c.toNat, c.toNat_lt⟩
  simpa using this
set_option maxRecDepth 100000 in
theorem okc_lt (c : UInt8) : ltL.data.toList.contains c = (decide (97 ≤ c.toNat) && decide (c.toNat ≤ 122)) := by
  have h : ∀ n : Fin 256, ltL.data.toList.contains (UInt8.ofNat n.val) = (decide (97 ≤ n.val) && decide (n.val ≤ 122))   := by decide +kernel
  have := h ⟨c.toNat, c.toNat_lt⟩
  simpa using this
/-- may it be a store's name? -/
def nmP (t : ByteArray) : Bool := decide (t.size ≤ 40) && isSt t.data.toList
theorem allOf_take (t : ByteArray) (k : Nat) (h : k < t.size) : allOf (t.data.toList.take (k + 1)) stL = (allOf (t.data.toList.take k) stL && okc t[k].toNat) := by
  rw [allOf_snoc t stL k h, okc_st]
theorem allOf_one (t : ByteArray) (h : 0 < t.size) : allOf (t.data.toList.take 1) ltL = (decide (97 ≤ t[0].toNat) && decide (t[0].toNat ≤ 122)) := by
  rw [show (1 : Nat) = 0 + 1 from rfl, allOf_snoc t ltL 0 h, okc_lt]
  simp [allOf]
theorem nmP_first (t : ByteArray) (h : 0 < t.size) (hb : (decide (97 ≤ t[0].toNat) && decide (t[0].toNat ≤ 122)) = false) : nmP t = false := by
  unfold nmP isSt
  rw [allOf_one t h, hb]
  simp
theorem nmP_byte (t : ByteArray) (k : Nat) (h : k < t.size) (hb : okc t[k].toNat = false) : nmP t = false := by
  unfold nmP isSt
  rw [allOf_false t stL k h (by rw [okc_st]; exact hb)]
  simp
theorem nmP_good (t : ByteArray) (h : 0 < t.size) (h40 : t.size ≤ 40) (hb : (decide (97 ≤ t[0].toNat) && decide (t[0].toNat ≤ 122)) = true) (ha : allOf t.data.toList stL = true) : nmP t = true := by
  unfold nmP isSt
  rw [allOf_one t h, hb, ha, decide_eq_true h40]
  cases hd : t.data.toList with
  | nil => have := size_data t; rw [hd] at this; simp at this; omega
  | cons a b => rfl
set_option maxHeartbeats 8000000 in
set_option maxRecDepth 100000 in
set_option linter.unusedSimpArgs false in
set_option linter.unusedVariables false in
/-- the document's named -/
theorem named_any (t : ByteArray) (w : World) (hs : t.size ≤ 9223372036854775807) :
    Calls Tryd.prog 43 #[.string t] w fun e w' => e = .returned (.bool (nmP t)) ∧ w' = w := by
  by_cases h0 : t.size = 0
  · have e1 : nmP t = false := by
      unfold nmP isSt
      have : t.data.toList = [] := List.length_eq_zero_iff.1 (by rw [size_data]; exact h0)
      rw [this]; simp
    have e2 : t = ⟨#[]⟩ := ByteArray.ext (Array.toList_inj.1 (by rw [List.length_eq_zero_iff.1 (show t.data.toList.length = 0 by rw [size_data]; exact h0)]))
    rw [e1]
    clear e1
    subst e2
    go_enter Tryd.func43, Tryd.ntmps43
    go_wp2_with fail
    go_ret
    exact ⟨rfl, rfl⟩
  have hne2 : t.toList.isEmpty = false := by
    rw [toList_data]
    cases hd : t.data.toList with
    | nil => exact absurd (by rw [← size_data, hd]; rfl) h0
    | cons a b => rfl
  have hne : ¬ t = ⟨#[]⟩ := fun e => h0 (by rw [e]; rfl)
  by_cases h40 : 40 < t.size
  · have e1 : nmP t = false := by unfold nmP; rw [decide_eq_false (by omega)]; rfl
    have h40' : (40 : Int) < (t.size : Int) := by omega
    rw [e1]
    clear e1
    go_enter Tryd.func43, Tryd.ntmps43
    go_wp2_with fail
    go_ret
    exact ⟨rfl, rfl⟩
  have h40' : ¬ (40 : Int) < (t.size : Int) := by omega
  have hx0 : ∀ w', (Instr.index 9 (.string t) (.int .i64 0)).run Tryd.prog w' = .ok (.int .u8 (t[0].toNat : Int)) w' := fun w' => ix_str w' t 0 (by omega)
  have F0 := hide (nmP_first t (by omega))
  have GD := hide (nmP_good t (by omega) (by omega))
  generalize hc0 : t[0].toNat = c0 at *
  clear hc0
  by_cases q1 : c0 < 97
  · have HZ := hide (F0.out (by rw [decide_eq_false (by omega)]; rfl))
    have q1' : (c0 : Int) < 97 := by omega
    go_enter Tryd.func43, Tryd.ntmps43
    go_wp2_with fail
    go_ret
    exact ⟨ret_bool HZ.out.symm, rfl⟩
  by_cases q2 : 122 < c0
  · have HZ := hide (F0.out (by rw [decide_eq_false (by omega : ¬ c0 ≤ 122), Bool.and_false]))
    have q1' : ¬ (c0 : Int) < 97 := by omega
    have q2' : (122 : Int) < (c0 : Int) := by omega
    go_enter Tryd.func43, Tryd.ntmps43
    go_wp2_with fail
    go_ret
    exact ⟨ret_bool HZ.out.symm, rfl⟩
  have q1' : ¬ (c0 : Int) < 97 := by omega
  have q2' : ¬ (122 : Int) < (c0 : Int) := by omega
  have GD2 := hide (GD.out (by rw [decide_eq_true (by omega), decide_eq_true (by omega)]; rfl))
  clear F0 GD
  go_enter Tryd.func43, Tryd.ntmps43
  go_wp2_with fail
  go_loopw [3] (fun vi wr => ∃ (q : Nat), q ≤ t.size ∧ vi = .int .i64 (q : Int) ∧ Hid (allOf (t.data.toList.take q) stL = true) ∧ wr = w) (fun vi _ => t.size - (intOf vi).toNat)
  case atStart => exact ⟨0, Nat.zero_le _, rfl, rfl, rfl⟩
  case round =>
    obtain ⟨q, hq, rfl, hA, rfl⟩ := hrel
    by_cases hql : q < t.size
    case neg =>
      obtain rfl : q = t.size := by omega
      have hA' := hA.out
      rw [List.take_of_length_le (by simp)] at hA'
      have HZ := hide (GD2.out hA')
      clear hA' hA GD2
      go_wp2_with fail
      go_ret
      exact ⟨ret_bool HZ.out.symm, rfl⟩
    case pos =>
      have hqi : (q : Int) < (t.size : Int) := by omega
      have hx : ∀ w', (Instr.index 9 (.string t) (.int .i64 (q : Int))).run Tryd.prog w' = .ok (.int .u8 (t[q].toNat : Int)) w' := fun w' => ix_str w' t q hql
      have HS := hide (allOf_take t q hql)
      have HF := hide (nmP_byte t q hql)
      generalize hc : t[q].toNat = c at *
      clear hc hx0
      have hcase : c < 45 ∨ c = 45 ∨ 45 < c ∧ c < 48 ∨ 48 ≤ c ∧ c ≤ 57 ∨ 57 < c ∧ c < 97 ∨ 97 ≤ c ∧ c ≤ 122 ∨ 122 < c := by omega
      rcases hcase with hr | hr | hr | hr | hr | hr | hr
      · have ho : okc c = false := by unfold okc; simp; omega
        have f0 : ¬ (97 : Int) ≤ (c : Int) := by omega
        have f1 : ¬ (48 : Int) ≤ (c : Int) := by omega
        have f2 : ((c : Int) == 45) = false := by simp; omega
        have HZ := hide (HF.out ho)
        clear ho HS
        go_wp2_with fail
        go_ret
        exact ⟨ret_bool HZ.out.symm, rfl⟩
      · have ho : okc c = true := by unfold okc; simp; omega
        have f0 : ¬ (97 : Int) ≤ (c : Int) := by omega
        have f1 : ¬ (48 : Int) ≤ (c : Int) := by omega
        subst hr
        have HZ := hide (show allOf (t.data.toList.take (q + 1)) stL = true by rw [HS.out, hA.out, ho]; rfl)
        clear ho HF
        go_wp2_with fail
        go_roundw
        case rel => exact ⟨q + 1, by omega, by go_num, HZ.out, by first | rfl | trivial⟩
        case measure => simp [intOf]; omega
      · have ho : okc c = false := by unfold okc; simp; omega
        have f0 : ¬ (97 : Int) ≤ (c : Int) := by omega
        have f1 : ¬ (48 : Int) ≤ (c : Int) := by omega
        have f2 : ((c : Int) == 45) = false := by simp; omega
        have HZ := hide (HF.out ho)
        clear ho HS
        go_wp2_with fail
        go_ret
        exact ⟨ret_bool HZ.out.symm, rfl⟩
      · have ho : okc c = true := by unfold okc; simp; omega
        have f0 : ¬ (97 : Int) ≤ (c : Int) := by omega
        have f1 : (48 : Int) ≤ (c : Int) := by omega
        have f2 : (c : Int) ≤ 57 := by omega
        have HZ := hide (show allOf (t.data.toList.take (q + 1)) stL = true by rw [HS.out, hA.out, ho]; rfl)
        clear ho HF
        go_wp2_with fail
        go_roundw
        case rel => exact ⟨q + 1, by omega, by go_num, HZ.out, by first | rfl | trivial⟩
        case measure => simp [intOf]; omega
      · have ho : okc c = false := by unfold okc; simp; omega
        have f0 : ¬ (97 : Int) ≤ (c : Int) := by omega
        have f1 : (48 : Int) ≤ (c : Int) := by omega
        have f2 : ¬ (c : Int) ≤ 57 := by omega
        have f3 : ((c : Int) == 45) = false := by simp; omega
        have HZ := hide (HF.out ho)
        clear ho HS
        go_wp2_with fail
        go_ret
        exact ⟨ret_bool HZ.out.symm, rfl⟩
      · have ho : okc c = true := by unfold okc; simp; omega
        have f0 : (97 : Int) ≤ (c : Int) := by omega
        have f1 : (c : Int) ≤ 122 := by omega
        have HZ := hide (show allOf (t.data.toList.take (q + 1)) stL = true by rw [HS.out, hA.out, ho]; rfl)
        clear ho HF
        go_wp2_with fail
        go_roundw
        case rel => exact ⟨q + 1, by omega, by go_num, HZ.out, by first | rfl | trivial⟩
        case measure => simp [intOf]; omega
      · have ho : okc c = false := by unfold okc; simp; omega
        have f0 : (97 : Int) ≤ (c : Int) := by omega
        have f1 : ¬ (c : Int) ≤ 122 := by omega
        have f2 : (48 : Int) ≤ (c : Int) := by omega
        have f3 : ¬ (c : Int) ≤ 57 := by omega
        have f4 : ((c : Int) == 45) = false := by simp; omega
        have HZ := hide (HF.out ho)
        clear ho HS
        go_wp2_with fail
        go_ret
        exact ⟨ret_bool HZ.out.symm, rfl⟩
end Go.Proofs.YtpoegknmkbnjlaaDoor
namespace Go.Proofs.YtpoegknmkbnjlaaDoor
open Go.RowKit
open Classical in
noncomputable def dlB (ns : List ND) : Bool := decide (Dealt ns)
open Classical in
theorem dlB_true {ns : List ND} (h : Dealt ns) : dlB ns = true := by unfold dlB; exact decide_eq_true h
open Classical in
theorem dlB_false {ns : List ND} (h : ¬ Dealt ns) : dlB ns = false := by unfold dlB; exact decide_eq_false h
/-- how many partitions there are -/
def ptN (ns : List ND) : Nat := (flat ns).length
/-- the error that a definition has -/
noncomputable def errP (st : ByteArray) (x : Nat → Int) (ns : List ND) : Int :=
  if nmP st = false then 63 else if sfP x = false then 64 else if nfP ns = false then 65 else if dlB ns = false then 66 else if (kpN ns : Int) < x 0 then 67 else if 512 < (ptN ns : Int) * x 0 * x 2 then 3 else 0
theorem sfP_lim {x : Nat → Int} (h : sfP x = true) (i : Nat) (hi : i < 21) : loS i ≤ x i ∧ x i ≤ hiS i := by
  unfold sfP at h
  rw [Bool.and_eq_true] at h
  have := List.all_eq_true.1 h.1 i (List.mem_range.2 hi)
  unfold sfAt at this
  simpa using this
theorem nfP_len {ns : List ND} (h : nfP ns = true) : 1 ≤ ns.length ∧ ns.length ≤ 16 := by
  unfold nfP at h
  simp at h
  omega
theorem files_in {a b c : Int} (h1 : 0 ≤ a) (h2 : a ≤ 64) (h3 : 1 ≤ b) (h4 : b ≤ 16) (h5 : 1 ≤ c) (h6 : c ≤ 16) : 0 ≤ a * b ∧ a * b ≤ 1024 ∧ 0 ≤ a * b * c ∧ a * b * c ≤ 16384 := by
  have k1 : 0 ≤ a * b := Int.mul_nonneg h1 (by omega)
  have k2 : a * b ≤ 64 * 16 := Int.mul_le_mul h2 h4 (by omega) (by omega)
  have k3 : 0 ≤ a * b * c := Int.mul_nonneg k1 (by omega)
  have k4 : a * b * c ≤ 1024 * 16 := Int.mul_le_mul (by omega) h6 (by omega) (by omega)
  exact ⟨k1, by omega, k3, by omega⟩
/-- what nodesOf answers -/
structure NdOf (st : ByteArray) (x : Nat → Int) (ns : List ND) (w : World) (e : Ending) (w' : World) : Prop where
  out : ∃ v, e = .returned (.tuple #[v, .int .i64 (errP st x ns)]) ∧ (errP st x ns = 0 → Dealt ns ∧ ∃ g, v = .slice (some ⟨g, 0, none⟩) (ptN ns) (ptN ns) ∧ w'.heap[g]? = some (.cells (outL ns).toArray 3 (0, 0)) ∧ w.heap.size ≤ g) ∧ (errP st x ns ≠ 0 → v = .slice none 0 0)
  bel : Below w.heap.size w w'
theorem NdOf.bad {st : ByteArray} {x : Nat → Int} {ns : List ND} {w w' : World} {e : Ending} {k : Int} (he : errP st x ns = k) (hk : k ≠ 0) (h : e = .returned (.tuple #[.slice none 0 0, .int .i64 k])) (hb : Below w.heap.size w w') : NdOf st x ns w e w' :=
  ⟨⟨_, by rw [he]; exact h, fun h0 => absurd (he.symm.trans h0) hk, fun _ => rfl⟩, hb⟩
theorem infoCl : (Tryd.prog.info? 24).map (·.size) = some 23 := by kernel_rfl
theorem run_loadCl (w : World) (b : Nat) (st : ByteArray) (x : Nat → Int) (nv : Value) (h : ClAt w b st x nv) : (Instr.loadAt 24 (.pointer (some ⟨b, 0, none⟩))).run Tryd.prog w = .ok (.agg (clA st x nv)) w := by
  simp only [Instr.loadAt, Instr.sureAddr, Sem.run_bind, Sem.run_pure, Result.andThen]
  exact run_loadVar_row _ _ 24 24 (clA st x nv) (0, 0) _ h Tryd.underlying24 rfl infoCl
theorem wpList_loadCl {w : World} {ops : Array Oper} {rest : List Oper} {o : Oper} {a : Act} {Q : Exit → Act → World → Prop} (hgd : o.guard = none) (p : Operand) (ho : o.op = .load 24 p) (b : Nat) (st : ByteArray) (x : Nat → Int) (nv : Value) (hx : a.eval p = .pointer (some ⟨b, 0, none⟩)) (hO : ClAt w b st x nv)
    (h : wpList Tryd.prog ops Q rest (a.put o.dst (.agg (clA st x nv))) w) : wpList Tryd.prog ops Q (o :: rest) a w := by
  refine wpList_plain hgd fun K hK => ?_
  unfold Oper.wp execOp
  simp only [ho, Sem.run_bind, Sem.run_pure, Result.andThen_ok, hx, run_loadCl w b st x nv hO]
  exact hK _ _ h
set_option maxHeartbeats 8000000 in
set_option maxRecDepth 100000 in
set_option linter.unusedSimpArgs false in
set_option linter.unusedVariables false in
theorem nodesOf_any (N : Nat) (w : World) (st : ByteArray) (x : Nat → Int) (ao : Option Addr) (b o cap : Nat) (pv : Nat → Value) (ns : List ND) (h : NsAt N w ao b o pv ns) (hN : N ≤ w.heap.size) (hs : st.size ≤ 9223372036854775807) :
    Calls Tryd.prog 40 #[.agg (clA st x (.slice ao ns.length cap))] w fun e w' => NdOf st x ns w e w' := by
  obtain ⟨W0, hW0⟩ : ∃ W0, W0 = w.alloc (.cells (clA st x (.slice ao ns.length cap)) 24) := ⟨_, rfl⟩
  have C0 : Hid (ClAt W0 w.heap.size st x (.slice ao ns.length cap)) := by rw [hW0]; exact new_cl _ _ _ _
  have B0 : Hid (Below w.heap.size w W0) := by rw [hW0]; exact (Below.refl _ _).alloc (Nat.le_refl _) _
  have HN := hide h
  clear h
  have IS := hide (isStore_any st W0 hs)
  have c0 := C0.out.st
  have hdef : Hid (errP st x ns = if nmP st = false then 63 else if sfP x = false then 64 else if nfP ns = false then 65 else if dlB ns = false then 66 else if (kpN ns : Int) < x 0 then 67 else if 512 < (ptN ns : Int) * x 0 * x 2 then 3 else 0) := rfl
  have ISE : Hid (nmP st = (decide (st.size ≤ 40) && isSt st.data.toList)) := rfl
  rw [← ISE.out] at IS
  clear ISE
  go_enter Tryd.func40, Tryd.ntmps40
  go_upto_region 1 with fail
  rw [← hW0]
  clear hW0
  go_wp2_with fail
  refine Calls.mono IS.out ?_
  rintro e W1 ⟨rfl, hb⟩
  have C1 := hide (C0.out.below hb)
  have B1 := hide (B0.out.trans (hb.mono B0.out.size))
  clear hb C0 B0 IS c0
  cases h1 : nmP st with
  | false =>
    have HE := hide (show errP st x ns = 63 by rw [hdef.out, h1]; rfl)
    go_wp2_with fail
    go_ret2
    exact NdOf.bad HE.out (by omega) rfl B1.out
  | true =>
    have SF := hide (settingsFit_any W1 st x (.slice ao ns.length cap))
    go_wp2_with (refine wpList_loadCl rfl (.tmp 1) rfl w.heap.size st x _ rfl C1.out ?_)
    refine Calls.mono SF.out ?_
    rintro e W2 ⟨rfl, hb⟩
    have C2 := hide (C1.out.below hb)
    have B2 := hide (B1.out.trans (hb.mono B1.out.size))
    clear hb C1 B1 SF
    cases h2 : sfP x with
    | false =>
      have HE := hide (show errP st x ns = 64 by rw [hdef.out, h1, h2]; rfl)
      go_wp2_with fail
      go_ret2
      exact NdOf.bad HE.out (by omega) rfl B2.out
    | true =>
      have l0 := sfP_lim h2 0 (by omega)
      have l2 := sfP_lim h2 2 (by omega)
      have L0 : 1 ≤ x 0 ∧ x 0 ≤ 16 := l0
      have L2 : 1 ≤ x 2 ∧ x 2 ≤ 16 := l2
      clear l0 l2
      have NF := hide (nodesFit_any N W2 ao b o cap pv ns (HN.out.below (B2.out.mono hN)) (Nat.le_trans hN B2.out.size))
      have nv2 := C2.out.nv
      go_wp2_with fail
      refine Calls.mono NF.out ?_
      rintro e W3 ⟨rfl, hb⟩
      have C3 := hide (C2.out.below hb)
      have B3 := hide (B2.out.trans (hb.mono B2.out.size))
      clear hb C2 B2 NF nv2
      cases h3 : nfP ns with
      | false =>
        have HE := hide (show errP st x ns = 65 by rw [hdef.out, h1, h2, h3]; rfl)
        go_wp2_with fail
        go_ret2
        exact NdOf.bad HE.out (by omega) rfl B3.out
      | true =>
        have n16 := nfP_len h3
        have SP := hide (spread_any N W3 ao b o cap pv ns (HN.out.below (B3.out.mono hN)) (Nat.le_trans hN B3.out.size) n16.2)
        have nv3 := C3.out.nv
        go_wp2_with fail
        refine Calls.mono SP.out ?_
        intro e W4 hsp
        have C4 := hide (C3.out.below hsp.bel)
        have B4 := hide (B3.out.trans (hsp.bel.mono B3.out.size))
        by_cases h4 : Dealt ns
        case neg =>
          have he := hsp.no h4
          subst he
          have HE := hide (show errP st x ns = 66 by rw [hdef.out, h1, h2, h3, dlB_false h4]; rfl)
          clear hsp SP C3 B3 nv3
          go_wp2_with fail
          go_ret2
          exact NdOf.bad HE.out (by omega) rfl B4.out
        case pos =>
          obtain ⟨g, he, hg, hgs⟩ := hsp.yes h4
          subst he
          have G4 := hide hg
          have GS : Hid (w.heap.size ≤ g) := Nat.le_trans B3.out.size hgs
          clear hsp SP C3 B3 nv3 hg hgs
          have p2 := h4.p2
          have hp : (flat ns).length = ptN ns := rfl
          rw [hp] at p2 ⊢
          clear hp
          have hkl := kpN_le ns
          have KE := hide (keeping_any N W4.drew ao b o cap pv ns (HN.out.below (B4.out.drew.mono hN)) (Nat.le_trans hN B4.out.size))
          have D4 := dlB_true h4
          have hdef2 : Hid (errP st x ns = if (kpN ns : Int) < x 0 then 67 else if 512 < (ptN ns : Int) * x 0 * x 2 then 3 else 0) := by
            show errP st x ns = _
            rw [hdef.out, h1, h2, h3, D4]
            rfl
          have CC : Hid (∀ Y, Below W4.heap.size W4 Y → Y.cell? ⟨w.heap.size, 1, none⟩ = some (.int .i64 (x 0)) ∧ Y.cell? ⟨w.heap.size, 22, none⟩ = some (.slice ao ns.length cap)) := fun Y hY => ⟨(C4.out.below hY).x0, (C4.out.below hY).nv⟩
          clear hdef D4
          go_wp2_with fail
          refine wp_region_held_drew (S := fun Y => Below W4.heap.size W4 Y) (by kernel_rfl) ((Below.refl _ _).drew) (fun hHeld => ?_)
          refine wpAnyH_take (i := 0) (v := (.pointer (some ⟨w.heap.size, 1, none⟩))) rfl (by kernel_rfl) (by kernel_rfl) (by kernel_rfl) (fun _ _ _ h => h) (Or.inl ⟨by rfl, ?_⟩) (by assumption) ?_
          · intro w' hSw
            (try dsimp only at hSw)
            go_simp
          (try simp only [Act.put, List.setIfInBounds_toArray, List.set_cons_zero, List.set_cons_succ])
          refine wpAnyH_take (i := 1) (v := (.int .i64 (x 0))) rfl (by kernel_rfl) (by kernel_rfl) (by kernel_rfl) (fun _ _ _ h => h) (Or.inl ⟨by rfl, ?_⟩) (by assumption) ?_
          · intro w' hSw
            (try dsimp only at hSw)
            (obtain ⟨y1, y2⟩ := CC.out _ hSw; go_simp)
          (try simp only [Act.put, List.setIfInBounds_toArray, List.set_cons_zero, List.set_cons_succ])
          refine wpAnyH_take (i := 2) (v := (.pointer (some ⟨w.heap.size, 22, none⟩))) rfl (by kernel_rfl) (by kernel_rfl) (by kernel_rfl) (fun _ _ _ h => h) (Or.inl ⟨by rfl, ?_⟩) (by assumption) ?_
          · intro w' hSw
            (try dsimp only at hSw)
            go_simp
          (try simp only [Act.put, List.setIfInBounds_toArray, List.set_cons_zero, List.set_cons_succ])
          refine wpAnyH_take (i := 3) (v := (.slice ao ns.length cap)) rfl (by kernel_rfl) (by kernel_rfl) (by kernel_rfl) (fun _ _ _ h => h) (Or.inl ⟨by rfl, ?_⟩) (by assumption) ?_
          · intro w' hSw
            (try dsimp only at hSw)
            (obtain ⟨y1, y2⟩ := CC.out _ hSw; go_simp)
          (try simp only [Act.put, List.setIfInBounds_toArray, List.set_cons_zero, List.set_cons_succ])
          refine wpAnyH_ready (rs := [4]) (by kernel_rfl) (by simp) ?_
          refine AllReadyH.cons rfl (fun K hK => ?_) AllReadyH.nil
          go_simp
          refine Calls.mono KE.out ?_
          rintro e W5 ⟨rfl, hb⟩
          have B5 : Hid (Below W4.heap.size W4 W5) := ⟨hb.os, hb.tape, hb.output, hb.size, hb.block⟩
          clear hb KE
          refine hK.out _ _ (B5.out) (fun hHeld => ?_)
          clear hK
          (try simp only [Act.put, List.setIfInBounds_toArray, List.set_cons_zero, List.set_cons_succ])
          refine wpAnyH_take (i := 5) (v := (.bool (decide ((kpN ns : Int) < x 0)))) rfl (by kernel_rfl) (by kernel_rfl) (by kernel_rfl) (fun _ _ _ h => h) (Or.inl ⟨by rfl, ?_⟩) (by assumption) ?_
          · intro w' hSw
            (try dsimp only at hSw)
            go_simp
          (try simp only [Act.put, List.setIfInBounds_toArray, List.set_cons_zero, List.set_cons_succ])
          refine wpAnyH_ready (rs := [6]) (by kernel_rfl) (by simp) ?_
          refine AllReadyH.cons rfl (fun K hK => ?_) AllReadyH.nil
          go_simp
          refine hK.out _ _ (B5.out) (fun hHeld => ?_)
          clear hK
          (try simp only [Act.put, List.setIfInBounds_toArray, List.set_cons_zero, List.set_cons_succ])
          refine wpAnyH_done (by kernel_rfl) ?_ _
          clear hHeld CC
          have C5 := hide (C4.out.below B5.out)
          have B6 := hide (B4.out.trans (B5.out.mono B4.out.size))
          have G5 : Hid (W5.heap[g]? = some (.cells (outL ns).toArray 3 (0, 0))) := (B5.out.block _ (blk_lt G4.out)).trans G4.out
          clear C4 G4 B4
          by_cases h5 : (kpN ns : Int) < x 0
          case pos =>
            have h5' : decide ((kpN ns : Int) < x 0) = true := decide_eq_true h5
            have HE := hide (show errP st x ns = 67 by rw [hdef2.out, if_pos h5])
            go_wp2_with fail
            go_ret2
            exact NdOf.bad HE.out (by omega) rfl B6.out
          case neg =>
            have h5' : decide ((kpN ns : Int) < x 0) = false := decide_eq_false h5
            obtain ⟨f1, f2, f3, f4⟩ := files_in (a := (ptN ns : Int)) (b := x 0) (c := x 2) (by omega) (by omega) L0.1 L0.2 L2.1 L2.2
            have m1 := wrap_in (x := (ptN ns : Int) * x 0) (by omega) (by omega)
            have m2 := wrap_in (x := (ptN ns : Int) * x 0 * x 2) (by omega) (by omega)
            have z0 := C5.out.x0
            have z2 := C5.out.x2
            by_cases h6 : 512 < (ptN ns : Int) * x 0 * x 2
            case pos =>
              have HE := hide (show errP st x ns = 3 by rw [hdef2.out, if_neg h5, if_pos h6])
              clear hdef2
              go_wp2_with fail
              go_ret2
              exact NdOf.bad HE.out (by omega) rfl B6.out
            case neg =>
              have HE := hide (show errP st x ns = 0 by rw [hdef2.out, if_neg h5, if_neg h6])
              clear hdef2
              go_wp2_with fail
              go_ret2
              exact ⟨⟨_, by rw [HE.out]; rfl, fun _ => ⟨h4, g, rfl, G5.out, GS.out⟩, fun h => absurd HE.out h⟩, B6.out⟩
end Go.Proofs.YtpoegknmkbnjlaaDoor
namespace Go.Proofs.YtpoegknmkbnjlaaDoor
open Go.RowKit
/-- the settings, as an array -/
def vA (x : Nat → Int) : Array Value := #[.int .i64 (x 0), .int .i64 (x 1), .int .i64 (x 2), .int .i64 (x 3), .int .i64 (x 4), .int .i64 (x 5), .int .i64 (x 6), .int .i64 (x 7), .int .i64 (x 8), .int .i64 (x 9), .int .i64 (x 10), .int .i64 (x 11), .int .i64 (x 12), .int .i64 (x 13), .int .i64 (x 14), .int .i64 (x 15), .int .i64 (x 16), .int .i64 (x 17), .int .i64 (x 18), .int .i64 (x 19), .int .i64 (x 20)]
theorem vA_at (x : Nat → Int) (i : Nat) (h : i < 21) : (vA x)[i]? = some (.int .i64 (x i)) := by
  have : i = 0 ∨ i = 1 ∨ i = 2 ∨ i = 3 ∨ i = 4 ∨ i = 5 ∨ i = 6 ∨ i = 7 ∨ i = 8 ∨ i = 9 ∨ i = 10 ∨ i = 11 ∨ i = 12 ∨ i = 13 ∨ i = 14 ∨ i = 15 ∨ i = 16 ∨ i = 17 ∨ i = 18 ∨ i = 19 ∨ i = 20 := by omega
  rcases this with rfl | rfl | rfl | rfl | rfl | rfl | rfl | rfl | rfl | rfl | rfl | rfl | rfl | rfl | rfl | rfl | rfl | rfl | rfl | rfl | rfl <;> rfl
theorem vA_one (x : Nat → Int) : (vA x).all (·.oneCell') = true := by simp [vA, Value.oneCell']
theorem infoV : (Tryd.prog.info? 110).map (·.size) = some 21 := by kernel_rfl
theorem built_v (x : Nat → Int) : Tryd.prog.built 110 [(0, .int .i64 (x 0)), (1, .int .i64 (x 1)), (2, .int .i64 (x 2)), (3, .int .i64 (x 3)), (4, .int .i64 (x 4)), (5, .int .i64 (x 5)), (6, .int .i64 (x 6)), (7, .int .i64 (x 7)), (8, .int .i64 (x 8)), (9, .int .i64 (x 9)), (10, .int .i64 (x 10)), (11, .int .i64 (x 11)), (12, .int .i64 (x 12)), (13, .int .i64 (x 13)), (14, .int .i64 (x 14)), (15, .int .i64 (x 15)), (16, .int .i64 (x 16)), (17, .int .i64 (x 17)), (18, .int .i64 (x 18)), (19, .int .i64 (x 19)), (20, .int .i64 (x 20))] = some (vA x) := by kernel_rfl
theorem wpList_storeV {w0 w : World} {ops : Array Oper} {rest : List Oper} {o : Oper} {a : Act} {Q : Exit → Act → World → Prop} (hgd : o.guard = none) (p y : Operand) (ho : o.op = .store 110 p y) (b : Nat) (hp : a.eval p = .pointer (some ⟨b, 0, none⟩)) (hb : b = w0.heap.size) (x : Nat → Int) (hx : a.eval y = .agg (vA x)) (c : Array Value) (hc : c.size = 21) (hw : w = w0.alloc (.cells c 110))
    (h : wpList Tryd.prog ops Q rest (a.put o.dst undef) (w0.alloc (.cells (vA x) 110))) : wpList Tryd.prog ops Q (o :: rest) a w := by
  subst hw
  subst hb
  refine wpList_plain hgd fun K hK => ?_
  unfold Oper.wp execOp
  simp only [ho, Sem.run_bind, Sem.run_pure, Result.andThen_ok, hp, hx, run_storeAt_new w0 110 c (vA x) infoV (by rw [hc]; rfl) (vA_one x)]
  exact hK _ _ h
theorem wpList_buildV {w : World} {ops : Array Oper} {rest : List Oper} {o : Oper} {a : Act} {Q : Exit → Act → World → Prop} (hgd : o.guard = none) (y0 y1 y2 y3 y4 y5 y6 y7 y8 y9 y10 y11 y12 y13 y14 y15 y16 y17 y18 y19 y20 : Operand) (ho : o.op = .build 110 #[(0, y0), (1, y1), (2, y2), (3, y3), (4, y4), (5, y5), (6, y6), (7, y7), (8, y8), (9, y9), (10, y10), (11, y11), (12, y12), (13, y13), (14, y14), (15, y15), (16, y16), (17, y17), (18, y18), (19, y19), (20, y20)]) (x : Nat → Int) (h0 : a.eval y0 = .int .i64 (x 0)) (h1 : a.eval y1 = .int .i64 (x 1)) (h2 : a.eval y2 = .int .i64 (x 2)) (h3 : a.eval y3 = .int .i64 (x 3)) (h4 : a.eval y4 = .int .i64 (x 4)) (h5 : a.eval y5 = .int .i64 (x 5)) (h6 : a.eval y6 = .int .i64 (x 6)) (h7 : a.eval y7 = .int .i64 (x 7)) (h8 : a.eval y8 = .int .i64 (x 8)) (h9 : a.eval y9 = .int .i64 (x 9)) (h10 : a.eval y10 = .int .i64 (x 10)) (h11 : a.eval y11 = .int .i64 (x 11)) (h12 : a.eval y12 = .int .i64 (x 12)) (h13 : a.eval y13 = .int .i64 (x 13)) (h14 : a.eval y14 = .int .i64 (x 14)) (h15 : a.eval y15 = .int .i64 (x 15)) (h16 : a.eval y16 = .int .i64 (x 16)) (h17 : a.eval y17 = .int .i64 (x 17)) (h18 : a.eval y18 = .int .i64 (x 18)) (h19 : a.eval y19 = .int .i64 (x 19)) (h20 : a.eval y20 = .int .i64 (x 20))
    (h : wpList Tryd.prog ops Q rest (a.put o.dst (.agg (vA x))) w) : wpList Tryd.prog ops Q (o :: rest) a w := by
  refine wpList_plain hgd fun K hK => ?_
  unfold Oper.wp execOp
  simp only [ho, List.map_toArray, List.map_cons, List.map_nil, h0, h1, h2, h3, h4, h5, h6, h7, h8, h9, h10, h11, h12, h13, h14, h15, h16, h17, h18, h19, h20, Sem.run_bind, Sem.run_pure, Result.andThen_ok, run_build w 110 _ (vA x) (built_v x)]
  exact hK _ _ h
theorem res_v {fn : Func} {p : Tmp} (h : fn.results = #[.cell p 110]) (tmps : Array Value) (x : Nat → Int) (w : World) (b : Nat) (ht : tmps.getD p undef = .pointer (some ⟨b, 0, none⟩)) (hO : w.heap[b]? = some (.cells (vA x) 110)) : (results fn tmps).run Tryd.prog w = .ok (.agg (vA x)) w := by
  have hl : (loadVar 110 ⟨b, 0, none⟩).run Tryd.prog w = .ok (.agg (vA x)) w := run_loadVar_row _ _ 110 110 (vA x) (0, 0) _ hO Tryd.underlying110 rfl infoV
  have ht' : tmps[p]?.getD undef = .pointer (some ⟨b, 0, none⟩) := by simpa using ht
  unfold results
  rw [h]
  simp [ht', asAddr, hl]
def z21 : Array Value := #[.int .i64 0, .int .i64 0, .int .i64 0, .int .i64 0, .int .i64 0, .int .i64 0, .int .i64 0, .int .i64 0, .int .i64 0, .int .i64 0, .int .i64 0, .int .i64 0, .int .i64 0, .int .i64 0, .int .i64 0, .int .i64 0, .int .i64 0, .int .i64 0, .int .i64 0, .int .i64 0, .int .i64 0]
set_option maxHeartbeats 8000000 in
set_option maxRecDepth 100000 in
set_option linter.unusedSimpArgs false in
set_option linter.unusedVariables false in
theorem values_any (w : World) (st : ByteArray) (x : Nat → Int) (nv : Value) :
    Calls Tryd.prog 62 #[.agg (clA st x nv)] w fun e w' => e = .returned (.agg (vA x)) ∧ Below w.heap.size w w' := by
  obtain ⟨W0, hW0⟩ : ∃ W0, W0 = w.alloc (.cells (clA st x nv) 24) := ⟨_, rfl⟩
  obtain ⟨W1, hW1⟩ : ∃ W1, W1 = W0.alloc (.cells z21 110) := ⟨_, rfl⟩
  have C0 : Hid (ClAt W0 w.heap.size st x nv) := by rw [hW0]; exact new_cl _ _ _ _
  have B0 : Hid (Below w.heap.size w W0) := by rw [hW0]; exact (Below.refl _ _).alloc (Nat.le_refl _) _
  have C1 : Hid (ClAt W1 w.heap.size st x nv) := by rw [hW1]; exact C0.out.below ((Below.refl _ _).alloc (Nat.le_refl _) _)
  have s0 : Hid (w.heap.size + 1 = W0.heap.size) := by rw [hW0]; show _ = _; simp
  have y0 := C1.out.x 0 (by omega)
  have y1 := C1.out.x 1 (by omega)
  have y2 := C1.out.x 2 (by omega)
  have y3 := C1.out.x 3 (by omega)
  have y4 := C1.out.x 4 (by omega)
  have y5 := C1.out.x 5 (by omega)
  have y6 := C1.out.x 6 (by omega)
  have y7 := C1.out.x 7 (by omega)
  have y8 := C1.out.x 8 (by omega)
  have y9 := C1.out.x 9 (by omega)
  have y10 := C1.out.x 10 (by omega)
  have y11 := C1.out.x 11 (by omega)
  have y12 := C1.out.x 12 (by omega)
  have y13 := C1.out.x 13 (by omega)
  have y14 := C1.out.x 14 (by omega)
  have y15 := C1.out.x 15 (by omega)
  have y16 := C1.out.x 16 (by omega)
  have y17 := C1.out.x 17 (by omega)
  have y18 := C1.out.x 18 (by omega)
  have y19 := C1.out.x 19 (by omega)
  have y20 := C1.out.x 20 (by omega)
  go_enter Tryd.func62, Tryd.ntmps62
  go_upto_region 1 with fail
  rw [← hW0]
  rw [show W0.alloc (.cells #[.int .i64 0, .int .i64 0, .int .i64 0, .int .i64 0, .int .i64 0, .int .i64 0, .int .i64 0, .int .i64 0, .int .i64 0, .int .i64 0, .int .i64 0, .int .i64 0, .int .i64 0, .int .i64 0, .int .i64 0, .int .i64 0, .int .i64 0, .int .i64 0, .int .i64 0, .int .i64 0, .int .i64 0] 110) = W1 from hW1.symm]
  have HW1 := hide hW1
  clear hW1 hW0
  go_wp2_with (first | (refine wpList_buildV rfl _ _ _ _ _ _ _ _ _ _ _ _ _ _ _ _ _ _ _ _ _ rfl x rfl rfl rfl rfl rfl rfl rfl rfl rfl rfl rfl rfl rfl rfl rfl rfl rfl rfl rfl rfl rfl ?_) | (refine wpList_storeV (w0 := W0) rfl (.tmp 2) (.tmp 45) rfl _ rfl s0.out x rfl z21 rfl HW1.out ?_))
  refine bodyPost_ret (v := .agg (vA x)) (res_v Tryd.results62 _ x _ (w.heap.size + 1) rfl ?_) rfl ⟨rfl, B0.out.alloc B0.out.size _⟩
  rw [s0.out]
  exact heap_last W0 _
end Go.Proofs.YtpoegknmkbnjlaaDoor
