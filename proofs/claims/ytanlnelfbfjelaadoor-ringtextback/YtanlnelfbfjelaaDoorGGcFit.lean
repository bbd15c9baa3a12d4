import Derived.Test.YtanlnelfbfjelaaDoorGcSet
import Derived.Lib.IndexAny
namespace Go.Proofs.YtanlnelfbfjelaaDoor
open Go.RowKit
/-- is a setting within its limits? -/
def sfAt (x : Nat → Int) (i : Nat) : Bool := decide (loS i ≤ x i) && decide (x i ≤ hiS i)
def sfP (x : Nat → Int) : Bool := (List.range 21).all (sfAt x) && (decide (x 4 ≤ x 7) && decide (x 9 ≤ x 10))
theorem range_step {f : Nat → Bool} {q : Nat} (h : (List.range q).all f = true) (hq : f q = true) : (List.range (q + 1)).all f = true := by
  rw [List.range_succ, List.all_append, h]
  simp [hq]
theorem range_no {f : Nat → Bool} {q n : Nat} (h : q < n) (hq : f q = false) : (List.range n).all f = false := List.all_eq_false.2 ⟨q, List.mem_range.2 h, by rw [hq]; simp⟩
/-- a setting in memory -/
def StAt (w : World) (b : Nat) (s : ByteArray) (p : Option Addr) (l h : Int) : Prop := w.heap[b]? = some (.cells #[.string s, .pointer p, .int .i64 l, .int .i64 h] 78)
theorem StAt.c1 {w : World} {b : Nat} {s : ByteArray} {p : Option Addr} {l h : Int} (k : StAt w b s p l h) : w.cell? ⟨b, 1, none⟩ = some (.pointer p) := by unfold World.cell?; rw [show w.heap[b]? = _ from k]; rfl
theorem StAt.c2 {w : World} {b : Nat} {s : ByteArray} {p : Option Addr} {l h : Int} (k : StAt w b s p l h) : w.cell? ⟨b, 2, none⟩ = some (.int .i64 l) := by unfold World.cell?; rw [show w.heap[b]? = _ from k]; rfl
theorem StAt.c3 {w : World} {b : Nat} {s : ByteArray} {p : Option Addr} {l h : Int} (k : StAt w b s p l h) : w.cell? ⟨b, 3, none⟩ = some (.int .i64 h) := by unfold World.cell?; rw [show w.heap[b]? = _ from k]; rfl
theorem set_cell {w : World} {g B : Nat} (h : w.heap[g]? = some (.cells (setA B) 78)) (k : Nat) : w.cell? ⟨g, k, none⟩ = (setA B)[k]? := by
  unfold World.cell?
  rw [h]
  rfl
set_option maxHeartbeats 8000000 in
set_option maxRecDepth 100000 in
set_option linter.unusedSimpArgs false in
set_option linter.unusedVariables false in
theorem settingsFit_any (w : World) (st : ByteArray) (x : Nat → Int) (nv : Value) :
    Calls Tryd.prog 57 #[.agg (clA st x nv)] w fun e w' => e = .returned (.bool (sfP x)) ∧ Below w.heap.size w w' := by
  obtain ⟨W0, hW0⟩ : ∃ W0, W0 = w.alloc (.cells (clA st x nv) 24) := ⟨_, rfl⟩
  have C0 : Hid (ClAt W0 w.heap.size st x nv) := by rw [hW0]; exact new_cl _ _ _ _
  have B0 : Hid (Below w.heap.size w W0) := by rw [hW0]; exact (Below.refl _ _).alloc (Nat.le_refl _) _
  have SE := hide (settings_any W0 w.heap.size)
  go_enter Tryd.func57, Tryd.ntmps57
  go_wp2_with fail
  rw [← hW0]
  clear hW0
  refine Calls.mono SE.out ?_
  rintro e W1 ⟨g, rfl, hg, hgs, hb⟩
  have C1 := hide (C0.out.below hb)
  have G1 := hide hg
  have B1 := hide (B0.out.trans (hb.mono B0.out.size))
  clear hg hgs hb SE C0 B0
  go_wp2_with fail
  go_loopw [7] (fun vi wr => ∃ (q : Nat), q ≤ 21 ∧ vi = .int .i64 (q : Int) ∧ Hid ((List.range q).all (sfAt x) = true) ∧ Below W1.heap.size W1 wr) (fun vi _ => 21 - (intOf vi).toNat)
  case atStart => exact ⟨0, Nat.zero_le _, rfl, rfl, Below.refl _ _⟩
  case round =>
    obtain ⟨q, hq, rfl, hA, hB⟩ := hrel
    have HB := hide hB
    clear hB
    by_cases hql : q < 21
    case pos =>
      have hqi : (q : Int) < 21 := by omega
      obtain ⟨⟨s, c0⟩, c1, c2, c3⟩ := setA_at w.heap.size q hql
      have G2 : wr.heap[g]? = some (.cells (setA w.heap.size) 78) := (HB.out.block _ (blk_lt G1.out)).trans G1.out
      have d0 := (set_cell G2 (q * 4)).trans c0
      have d1 := (set_cell G2 (q * 4 + 1)).trans c1
      have d2 := (set_cell G2 (q * 4 + 2)).trans c2
      have d3 := (set_cell G2 (q * 4 + 3)).trans c3
      clear c0 c1 c2 c3 G2
      have HT := hide (range_step hA.out)
      have HF := hide (range_no (f := sfAt x) hql)
      have hz : Hid (sfAt x q = (decide (loS q ≤ x q) && decide (x q ≤ hiS q))) := rfl
      obtain ⟨W2, hW2⟩ : ∃ W2, W2 = wr.alloc (.cells #[.string s, .pointer (some ⟨w.heap.size, q + 1, none⟩), .int .i64 (loS q), .int .i64 (hiS q)] 78) := ⟨_, rfl⟩
      have S2 : Hid (StAt W2 wr.heap.size s (some ⟨w.heap.size, q + 1, none⟩) (loS q) (hiS q)) := by rw [hW2]; exact heap_last _ _
      have BB : Hid (Below W1.heap.size W1 W2) := by rw [hW2]; exact HB.out.alloc HB.out.size _
      have xv : Hid (W2.cell? ⟨w.heap.size, q + 1, none⟩ = some (.int .i64 (x q))) := (C1.out.below BB.out).x q hql
      generalize loS q = l at *
      generalize hiS q = hh at *
      generalize x q = v at *
      by_cases v1 : v < l
      · have HZ := hide (HF.out (by rw [hz.out, decide_eq_false (by omega)]; rfl))
        have v1' : decide (v < l) = true := decide_eq_true v1
        go_wp2_with fail
        rw [← hW2]
        clear hW2 d0 d1 d2 d3
        have t1 := S2.out.c1
        have t2 := S2.out.c2
        have t3 := S2.out.c3
        have t4 := xv.out
        go_quiet (fail)
        replace BB : Hid (Below W1.heap.size W1 (W2.drewN nq)) := BB.out.trans ⟨rfl, rfl, rfl, Nat.le_refl _, fun _ _ => rfl⟩
        generalize W2.drewN nq = W3 at *
        clear t1 t2 t3 t4 S2 xv
        go_wp2_with fail
        go_ret
        exact ⟨ret_bool (by unfold sfP; rw [HZ.out]; rfl), B1.out.trans (BB.out.mono B1.out.size)⟩
      have v1' : decide (v < l) = false := decide_eq_false v1
      by_cases v2 : hh < v
      · have HZ := hide (HF.out (by rw [hz.out, decide_eq_false (by omega : ¬ v ≤ hh), Bool.and_false]))
        have v2' : decide (hh < v) = true := decide_eq_true v2
        go_wp2_with fail
        rw [← hW2]
        clear hW2 d0 d1 d2 d3
        have t1 := S2.out.c1
        have t2 := S2.out.c2
        have t3 := S2.out.c3
        have t4 := xv.out
        go_quiet (fail)
        replace BB : Hid (Below W1.heap.size W1 (W2.drewN nq)) := BB.out.trans ⟨rfl, rfl, rfl, Nat.le_refl _, fun _ _ => rfl⟩
        generalize W2.drewN nq = W3 at *
        clear t1 t2 t3 t4 S2 xv
        go_wp2_with fail
        go_ret
        exact ⟨ret_bool (by unfold sfP; rw [HZ.out]; rfl), B1.out.trans (BB.out.mono B1.out.size)⟩
      · have HZ := hide (HT.out (by rw [hz.out, decide_eq_true (by omega), decide_eq_true (by omega)]; rfl))
        have v2' : decide (hh < v) = false := decide_eq_false v2
        go_wp2_with fail
        rw [← hW2]
        clear hW2 d0 d1 d2 d3
        have t1 := S2.out.c1
        have t2 := S2.out.c2
        have t3 := S2.out.c3
        have t4 := xv.out
        go_quiet (fail)
        replace BB : Hid (Below W1.heap.size W1 (W2.drewN nq)) := BB.out.trans ⟨rfl, rfl, rfl, Nat.le_refl _, fun _ _ => rfl⟩
        generalize W2.drewN nq = W3 at *
        clear t1 t2 t3 t4 S2 xv
        go_wp2_with fail
        go_roundw
        case rel => exact ⟨q + 1, by omega, by go_num, HZ.out, BB.out⟩
        case measure => simp [intOf]; omega
    case neg =>
      obtain rfl : q = 21 := by omega
      have CW := C1.out.below HB.out
      have y4 := CW.x4
      have y7 := CW.x7
      have y9 := CW.x9
      have y10 := CW.x10
      have HZ : Hid (sfP x = (decide (x 4 ≤ x 7) && decide (x 9 ≤ x 10))) := by
        show sfP x = _
        unfold sfP
        rw [hA.out, Bool.true_and]
      clear CW hA
      generalize x 4 = z4 at *
      generalize x 7 = z7 at *
      generalize x 9 = z9 at *
      generalize x 10 = z10 at *
      by_cases k1 : z4 ≤ z7
      · have k1' : decide (z4 ≤ z7) = true := decide_eq_true k1
        go_wp2_with fail
        go_ret
        exact ⟨ret_bool (by rw [HZ.out, k1']; rfl), B1.out.trans (HB.out.mono B1.out.size)⟩
      · have k1' : decide (z4 ≤ z7) = false := decide_eq_false k1
        go_wp2_with fail
        go_ret
        exact ⟨ret_bool (by rw [HZ.out, k1']; rfl), B1.out.trans (HB.out.mono B1.out.size)⟩
end Go.Proofs.YtanlnelfbfjelaaDoor
namespace Go.Proofs.YtanlnelfbfjelaaDoor
open Go.RowKit Go.Shelf
theorem size_data (s : ByteArray) : s.data.toList.length = s.size := by simp
theorem toList_data (s : ByteArray) : s.toList = s.data.toList := ByteArray.toList_eq s
theorem ix_str (w : World) (s : ByteArray) (k : Nat) (hk : k < s.size) : (Instr.index 9 (.string s) (.int .i64 (k : Int))).run Tryd.prog w = .ok (.int .u8 (s[k].toNat : Int)) w := by
  rw [run_index_string w 9 s .i64 k Tryd.underlying9, dif_pos ⟨by omega, by omega⟩]
  simp
def allOf (t : List UInt8) (these : ByteArray) : Bool := t.all fun c => these.data.toList.contains c
theorem allOf_snoc (t : ByteArray) (these : ByteArray) (k : Nat) (h : k < t.size) : allOf (t.data.toList.take (k + 1)) these = (allOf (t.data.toList.take k) these && these.data.toList.contains t[k]) := by
  unfold allOf
  rw [List.take_succ_eq_append_getElem (by simpa using h), List.all_append]
  simp
  rfl
theorem allOf_false (t : ByteArray) (these : ByteArray) (k : Nat) (h : k < t.size) (hc : these.data.toList.contains t[k] = false) : allOf t.data.toList these = false := by
  unfold allOf
  rw [List.all_eq_false]
  exact ⟨t[k], by have : t[k] = t.data.toList[k]'(by simpa using h) := rfl; rw [this]; exact List.getElem_mem _, by rw [hc]; simp⟩
set_option maxHeartbeats 1000000 in
set_option maxRecDepth 100000 in
/-- isOf -/
theorem isOf_any (t these : ByteArray) (w : World) (hs : t.size ≤ 9223372036854775807) :
    Calls Tryd.prog 69 #[.string t, .string these] w fun e w' => e = .returned (.bool (allOf t.data.toList these)) ∧ w = w' := by
  go_enter Tryd.func69, Tryd.ntmps69
  go_wp2
  go_loop [8] (fun v => ∃ k : Nat, k ≤ t.size ∧ v = .int .i64 k ∧ Hid (allOf (t.data.toList.take k) these = true)) (fun v => t.size - (intOf v).toNat)
  case atStart => exact ⟨0, Nat.zero_le _, rfl, rfl⟩
  case round =>
    obtain ⟨k, hk, rfl, hA⟩ := hrel
    by_cases hlt : k < t.size
    · have hxs : ∀ w', (Instr.index 9 (.string t) (.int .i64 (k : Int))).run Tryd.prog w' = .ok (.int .u8 (t[k].toNat : Int)) w' := fun w' => ix_str w' t k hlt
      have C := hide (Tryd.strings_IndexByte these t[k].toNat w)
      rw [show ((t[k].toNat : Int)).toNat.toUInt8 = t[k] by simp] at C
      have HC := hide (Lib.contains_iff_indexByte these.data.toList t[k])
      have HS := hide (allOf_snoc t these k hlt)
      have HF := hide (allOf_false t these k hlt)
      generalize t[k] = c at *
      by_cases hi : (0 : Int) ≤ Lib.indexByte these.data.toList c
      · have hi' : ¬ Lib.indexByte these.data.toList c < 0 := by omega
        go_wp2_with (go_at_call 81; refine Calls.mono C.out ?_; rintro e w' ⟨rfl, rfl⟩)
        go_round
        case rel => exact ⟨k + 1, by omega, by go_num, by rw [HS.out, hA.out, HC.out, decide_eq_true hi]; rfl⟩
        case measure => simp [intOf]; omega
      · have hi' : Lib.indexByte these.data.toList c < 0 := by omega
        go_wp2_with (go_at_call 81; refine Calls.mono C.out ?_; rintro e w' ⟨rfl, rfl⟩)
        go_ret
        exact ⟨ret_bool (HF.out (by rw [HC.out]; exact decide_eq_false (by omega))).symm, rfl⟩
    · obtain rfl : k = t.size := by omega
      have hA' := hA.out
      rw [List.take_of_length_le (by simp)] at hA'
      have HA := hide hA'
      clear hA' hA
      go_wp2
      go_ret
      exact ⟨ret_bool HA.out.symm, rfl⟩
def stL : ByteArray := ⟨#[97, 98, 99, 100, 101, 102, 103, 104, 105, 106, 107, 108, 109, 110, 111, 112, 113, 114, 115, 116, 117, 118, 119, 120, 121, 122, 48, 49, 50, 51, 52, 53, 54, 55, 56, 57, 45]⟩
def ltL : ByteArray := ⟨#[97, 98, 99, 100, 101, 102, 103, 104, 105, 106, 107, 108, 109, 110, 111, 112, 113, 114, 115, 116, 117, 118, 119, 120, 121, 122]⟩
def isSt (t : List UInt8) : Bool := !t.isEmpty && allOf (t.take 1) ltL && allOf t stL
theorem take1_data (t : ByteArray) : (t.extract 0 1).data.toList = t.data.toList.take 1 := by rw [Lib.extract_data]; simp
set_option maxHeartbeats 1000000 in
set_option maxRecDepth 100000 in
theorem isStore_any (t : ByteArray) (w : World) (hs : t.size ≤ 9223372036854775807) :
    Calls Tryd.prog 56 #[.string t] w fun e w' => e = .returned (.bool (decide (t.size ≤ 40) && isSt t.data.toList)) ∧ Below w.heap.size w w' := by
  by_cases h0 : t.size = 0
  · have e1 : isSt t.data.toList = false := by
      have : t.data.toList = [] := List.length_eq_zero_iff.1 (by rw [size_data]; exact h0)
      rw [this]; rfl
    rw [e1, Bool.and_false]
    have e2 : t = ⟨#[]⟩ := ByteArray.ext (Array.toList_inj.1 (by rw [List.length_eq_zero_iff.1 (show t.data.toList.length = 0 by rw [size_data]; exact h0)]))
    subst e2
    go_enter Tryd.func56, Tryd.ntmps56
    go_wp2_with fail
    go_ret
    exact ⟨rfl, Below.refl _ _⟩
  · have hne : ¬ t = ⟨#[]⟩ := fun e => h0 (by rw [e]; rfl)
    have hne2 : t.toList.isEmpty = false := by
      rw [toList_data]
      cases hd : t.data.toList with
      | nil => exact absurd (by rw [← size_data, hd]; rfl) h0
      | cons a b => rfl
    have hsz : 1 ≤ t.size := by omega
    have hsz' : (1 : Int) ≤ (t.size : Int) := by omega
    by_cases h40 : 40 < t.size
    · rw [decide_eq_false (by omega), Bool.false_and]
      have h40' : ¬ (t.size : Int) ≤ 40 := by omega
      have h40'' : (40 : Int) < (t.size : Int) := by omega
      go_enter Tryd.func56, Tryd.ntmps56
      go_wp2_with fail
      go_ret
      exact ⟨rfl, Below.refl _ _⟩
    have h40' : (t.size : Int) ≤ 40 := by omega
    have h40'' : ¬ (40 : Int) < (t.size : Int) := by omega
    rw [decide_eq_true (by omega : t.size ≤ 40), Bool.true_and]
    have C1 := hide (fun w' => isOf_any (t.extract 0 1) ltL w' (by rw [ByteArray.size_extract]; omega))
    have C2 := hide (fun w' => isOf_any t stL w' hs)
    rw [take1_data] at C1
    have HE : Hid (isSt t.data.toList = (allOf (t.data.toList.take 1) ltL && allOf t.data.toList stL)) := by
      show _ = _
      unfold isSt
      have : t.data.toList.isEmpty = false := by
        cases hd : t.data.toList with
        | nil => exact absurd (by rw [← size_data, hd]; rfl) h0
        | cons a b => rfl
      rw [this]; rfl
    obtain ⟨E, hE⟩ : ∃ E, E = isSt t.data.toList := ⟨_, rfl⟩
    rw [← hE] at HE ⊢
    unfold ltL at C1 HE
    unfold stL at C2 HE
    generalize allOf (t.data.toList.take 1) _ = A at *
    generalize allOf t.data.toList _ = B at *
    clear hE h0
    cases hA : A with
    | false =>
      rw [hA] at C1 HE
      go_enter Tryd.func56, Tryd.ntmps56
      go_wp2_with fail
      refine Calls.mono (C1.out _) ?_
      rintro e w1 ⟨rfl, rfl⟩
      go_wp2_with fail
      go_ret
      exact ⟨ret_bool HE.out.symm, Below.refl _ _⟩
    | true =>
      rw [hA] at C1 HE
      go_enter Tryd.func56, Tryd.ntmps56
      go_wp2_with fail
      refine Calls.mono (C1.out _) ?_
      rintro e w1 ⟨rfl, rfl⟩
      go_wp2_with fail
      refine Calls.mono (C2.out _) ?_
      rintro e w1 ⟨rfl, rfl⟩
      go_wp2_with fail
      go_ret
      exact ⟨ret_bool HE.out.symm, Below.refl _ _⟩
/-- a byte of a name -/
def okc (n : Nat) : Bool := decide (97 ≤ n) && decide (n ≤ 122) || decide (48 ≤ n) && decide (n ≤ 57) || decide (n = 45)
set_option maxRecDepth 100000 in
theorem okc_st (c : UInt8) : stL.data.toList.contains c = okc c.toNat := by
  have h : ∀ n : Fin 256, stL.data.toList.contains (UInt8.ofNat n.val) = okc n.val   := by decide +kernel
  have := h ⟨c.toNat, c.toNat_lt⟩
  simpa using this
set_option maxRecDepth 100000 in
theorem okc_lt (c : UInt8) : ltL.data.toList.contains c = (decide (97 ≤ c.toNat) && decide (c.toNat ≤ 122)) := by
  have h : ∀ n : Fin 256, ltL.data.toList.contains (UInt8.ofNat n.val) = (decide (97 ≤ n.val) && decide (n.val ≤ 122))   := by decide +kernel
  have := h ⟨c.toNat, c.toNat_lt⟩
  simpa using this
/-- may it be a store's name? -/
def nmP (t : ByteArray) : Bool := decide (t.size ≤ 40) && isSt t.data.toList
theorem allOf_take (t : ByteArray) (k : Nat) (h : k < t.size) : allOf (t.data.toList.take (k + 1)) stL = (allOf (t.data.toList.take k) stL && okc t[k].toNat) := by
  rw [allOf_snoc t stL k h, okc_st]
theorem allOf_one (t : ByteArray) (h : 0 < t.size) : allOf (t.data.toList.take 1) ltL = (decide (97 ≤ t[0].toNat) && decide (t[0].toNat ≤ 122)) := by
  rw [show (1 : Nat) = 0 + 1 from rfl, allOf_snoc t ltL 0 h, okc_lt]
  simp [allOf]
theorem nmP_first (t : ByteArray) (h : 0 < t.size) (hb : (decide (97 ≤ t[0].toNat) && decide (t[0].toNat ≤ 122)) = false) : nmP t = false := by
  unfold nmP isSt
  rw [allOf_one t h, hb]
  simp
theorem nmP_byte (t : ByteArray) (k : Nat) (h : k < t.size) (hb : okc t[k].toNat = false) : nmP t = false := by
  unfold nmP isSt
  rw [allOf_false t stL k h (by rw [okc_st]; exact hb)]
  simp
theorem nmP_good (t : ByteArray) (h : 0 < t.size) (h40 : t.size ≤ 40) (hb : (decide (97 ≤ t[0].toNat) && decide (t[0].toNat ≤ 122)) = true) (ha : allOf t.data.toList stL = true) : nmP t = true := by
  unfold nmP isSt
  rw [allOf_one t h, hb, ha, decide_eq_true h40]
  cases hd : t.data.toList with
  | nil => have := size_data t; rw [hd] at this; simp at this; omega
  | cons a b => rfl
set_option maxHeartbeats 8000000 in
set_option maxRecDepth 100000 in
set_option linter.unusedSimpArgs false in
set_option linter.unusedVariables false in
/-- the document's named -/
theorem named_any (t : ByteArray) (w : World) (hs : t.size ≤ 9223372036854775807) :
    Calls Tryd.prog 37 #[.string t] w fun e w' => e = .returned (.bool (nmP t)) ∧ w' = w := by
  by_cases h0 : t.size = 0
  · have e1 : nmP t = false := by
      unfold nmP isSt
      have : t.data.toList = [] := List.length_eq_zero_iff.1 (by rw [size_data]; exact h0)
      rw [this]; simp
    have e2 : t = ⟨#[]⟩ := ByteArray.ext (Array.toList_inj.1 (by rw [List.length_eq_zero_iff.1 (show t.data.toList.length = 0 by rw [size_data]; exact h0)]))
    rw [e1]
    clear e1
    subst e2
    go_enter Tryd.func37, Tryd.ntmps37
    go_wp2_with fail
    go_ret
    exact ⟨rfl, rfl⟩
  have hne2 : t.toList.isEmpty = false := by
    rw [toList_data]
    cases hd : t.data.toList with
    | nil => exact absurd (by rw [← size_data, hd]; rfl) h0
    | cons a b => rfl
  have hne : ¬ t = ⟨#[]⟩ := fun e => h0 (by rw [e]; rfl)
  by_cases h40 : 40 < t.size
  · have e1 : nmP t = false := by unfold nmP; rw [decide_eq_false (by omega)]; rfl
    have h40' : (40 : Int) < (t.size : Int) := by omega
    rw [e1]
    clear e1
    go_enter Tryd.func37, Tryd.ntmps37
    go_wp2_with fail
    go_ret
    exact ⟨rfl, rfl⟩
  have h40' : ¬ (40 : Int) < (t.size : Int) := by omega
  have hx0 : ∀ w', (Instr.index 9 (.string t) (.int .i64 0)).run Tryd.prog w' = .ok (.int .u8 (t[0].toNat : Int)) w' := fun w' => ix_str w' t 0 (by omega)
  have F0 := hide (nmP_first t (by omega))
  have GD := hide (nmP_good t (by omega) (by omega))
  generalize hc0 : t[0].toNat = c0 at *
  clear hc0
  by_cases q1 : c0 < 97
  · have HZ := hide (F0.out (by rw [decide_eq_false (by omega)]; rfl))
    have q1' : (c0 : Int) < 97 := by omega
    go_enter Tryd.func37, Tryd.ntmps37
    go_wp2_with fail
    go_ret
    exact ⟨ret_bool HZ.out.symm, rfl⟩
  by_cases q2 : 122 < c0
  · have HZ := hide (F0.out (by rw [decide_eq_false (by omega : ¬ c0 ≤ 122), Bool.and_false]))
    have q1' : ¬ (c0 : Int) < 97 := by omega
    have q2' : (122 : Int) < (c0 : Int) := by omega
    go_enter Tryd.func37, Tryd.ntmps37
    go_wp2_with fail
    go_ret
    exact ⟨ret_bool HZ.out.symm, rfl⟩
  have q1' : ¬ (c0 : Int) < 97 := by omega
  have q2' : ¬ (122 : Int) < (c0 : Int) := by omega
  have GD2 := hide (GD.out (by rw [decide_eq_true (by omega), decide_eq_true (by omega)]; rfl))
  clear F0 GD
  go_enter Tryd.func37, Tryd.ntmps37
  go_wp2_with fail
  go_loopw [3] (fun vi wr => ∃ (q : Nat), q ≤ t.size ∧ vi = .int .i64 (q : Int) ∧ Hid (allOf (t.data.toList.take q) stL = true) ∧ wr = w) (fun vi _ => t.size - (intOf vi).toNat)
  case atStart => exact ⟨0, Nat.zero_le _, rfl, rfl, rfl⟩
  case round =>
    obtain ⟨q, hq, rfl, hA, rfl⟩ := hrel
    by_cases hql : q < t.size
    case neg =>
      obtain rfl : q = t.size := by omega
      have hA' := hA.out
      rw [List.take_of_length_le (by simp)] at hA'
      have HZ := hide (GD2.out hA')
      clear hA' hA GD2
      go_wp2_with fail
      go_ret
      exact ⟨ret_bool HZ.out.symm, rfl⟩
    case pos =>
      have hqi : (q : Int) < (t.size : Int) := by omega
      have hx : ∀ w', (Instr.index 9 (.string t) (.int .i64 (q : Int))).run Tryd.prog w' = .ok (.int .u8 (t[q].toNat : Int)) w' := fun w' => ix_str w' t q hql
      have HS := hide (allOf_take t q hql)
      have HF := hide (nmP_byte t q hql)
      generalize hc : t[q].toNat = c at *
      clear hc hx0
      have hcase : c < 45 ∨ c = 45 ∨ 45 < c ∧ c < 48 ∨ 48 ≤ c ∧ c ≤ 57 ∨ 57 < c ∧ c < 97 ∨ 97 ≤ c ∧ c ≤ 122 ∨ 122 < c := by omega
      rcases hcase with hr | hr | hr | hr | hr | hr | hr
      · have ho : okc c = false := by unfold okc; simp; omega
        have f0 : ¬ (97 : Int) ≤ (c : Int) := by omega
        have f1 : ¬ (48 : Int) ≤ (c : Int) := by omega
        have f2 : ((c : Int) == 45) = false := by simp; omega
        have HZ := hide (HF.out ho)
        clear ho HS
        go_wp2_with fail
        go_ret
        exact ⟨ret_bool HZ.out.symm, rfl⟩
      · have ho : okc c = true := by unfold okc; simp; omega
        have f0 : ¬ (97 : Int) ≤ (c : Int) := by omega
        have f1 : ¬ (48 : Int) ≤ (c : Int) := by omega
        subst hr
        have HZ := hide (show allOf (t.data.toList.take (q + 1)) stL = true by rw [HS.out, hA.out, ho]; rfl)
        clear ho HF
        go_wp2_with fail
        go_roundw
        case rel => exact ⟨q + 1, by omega, by go_num, HZ.out, by first | rfl | trivial⟩
        case measure => simp [intOf]; omega
      · have ho : okc c = false := by unfold okc; simp; omega
        have f0 : ¬ (97 : Int) ≤ (c : Int) := by omega
        have f1 : ¬ (48 : Int) ≤ (c : Int) := by omega
        have f2 : ((c : Int) == 45) = false := by simp; omega
        have HZ := hide (HF.out ho)
        clear ho HS
        go_wp2_with fail
        go_ret
        exact ⟨ret_bool HZ.out.symm, rfl⟩
      · have ho : okc c = true := by unfold okc; simp; omega
        have f0 : ¬ (97 : Int) ≤ (c : Int) := by omega
        have f1 : (48 : Int) ≤ (c : Int) := by omega
        have f2 : (c : Int) ≤ 57 := by omega
        have HZ := hide (show allOf (t.data.toList.take (q + 1)) stL = true by rw [HS.out, hA.out, ho]; rfl)
        clear ho HF
        go_wp2_with fail
        go_roundw
        case rel => exact ⟨q + 1, by omega, by go_num, HZ.out, by first | rfl | trivial⟩
        case measure => simp [intOf]; omega
      · have ho : okc c = false := by unfold okc; simp; omega
        have f0 : ¬ (97 : Int) ≤ (c : Int) := by omega
        have f1 : (48 : Int) ≤ (c : Int) := by omega
        have f2 : ¬ (c : Int) ≤ 57 := by omega
        have f3 : ((c : Int) == 45) = false := by simp; omega
        have HZ := hide (HF.out ho)
        clear ho HS
        go_wp2_with fail
        go_ret
        exact ⟨ret_bool HZ.out.symm, rfl⟩
      · have ho : okc c = true := by unfold okc; simp; omega
        have f0 : (97 : Int) ≤ (c : Int) := by omega
        have f1 : (c : Int) ≤ 122 := by omega
        have HZ := hide (show allOf (t.data.toList.take (q + 1)) stL = true by rw [HS.out, hA.out, ho]; rfl)
        clear ho HF
        go_wp2_with fail
        go_roundw
        case rel => exact ⟨q + 1, by omega, by go_num, HZ.out, by first | rfl | trivial⟩
        case measure => simp [intOf]; omega
      · have ho : okc c = false := by unfold okc; simp; omega
        have f0 : (97 : Int) ≤ (c : Int) := by omega
        have f1 : ¬ (c : Int) ≤ 122 := by omega
        have f2 : (48 : Int) ≤ (c : Int) := by omega
        have f3 : ¬ (c : Int) ≤ 57 := by omega
        have f4 : ((c : Int) == 45) = false := by simp; omega
        have HZ := hide (HF.out ho)
        clear ho HS
        go_wp2_with fail
        go_ret
        exact ⟨ret_bool HZ.out.symm, rfl⟩
end Go.Proofs.YtanlnelfbfjelaaDoor
namespace Go.Proofs.YtanlnelfbfjelaaDoor
open Go.RowKit
open Classical in
noncomputable def dlB (ns : List ND) : Bool := decide (Dealt ns)
open Classical in
theorem dlB_true {ns : List ND} (h : Dealt ns) : dlB ns = true := by unfold dlB; exact decide_eq_true h
open Classical in
theorem dlB_false {ns : List ND} (h : ¬ Dealt ns) : dlB ns = false := by unfold dlB; exact decide_eq_false h
/-- how many partitions there are -/
def ptN (ns : List ND) : Nat := (flat ns).length
/-- the error that a definition has -/
noncomputable def errP (st : ByteArray) (x : Nat → Int) (ns : List ND) : Int :=
  if nmP st = false then 63 else if sfP x = false then 64 else if nfP ns = false then 65 else if dlB ns = false then 66 else if (kpN ns : Int) < x 0 then 67 else if 512 < (ptN ns : Int) * x 0 * x 2 then 3 else 0
theorem sfP_lim {x : Nat → Int} (h : sfP x = true) (i : Nat) (hi : i < 21) : loS i ≤ x i ∧ x i ≤ hiS i := by
  unfold sfP at h
  rw [Bool.and_eq_true] at h
  have := List.all_eq_true.1 h.1 i (List.mem_range.2 hi)
  unfold sfAt at this
  simpa using this
theorem nfP_len {ns : List ND} (h : nfP ns = true) : 1 ≤ ns.length ∧ ns.length ≤ 16 := by
  unfold nfP at h
  simp at h
  omega
theorem files_in {a b c : Int} (h1 : 0 ≤ a) (h2 : a ≤ 64) (h3 : 1 ≤ b) (h4 : b ≤ 16) (h5 : 1 ≤ c) (h6 : c ≤ 16) : 0 ≤ a * b ∧ a * b ≤ 1024 ∧ 0 ≤ a * b * c ∧ a * b * c ≤ 16384 := by
  have k1 : 0 ≤ a * b := Int.mul_nonneg h1 (by omega)
  have k2 : a * b ≤ 64 * 16 := Int.mul_le_mul h2 h4 (by omega) (by omega)
  have k3 : 0 ≤ a * b * c := Int.mul_nonneg k1 (by omega)
  have k4 : a * b * c ≤ 1024 * 16 := Int.mul_le_mul (by omega) h6 (by omega) (by omega)
  exact ⟨k1, by omega, k3, by omega⟩
/-- what nodesOf answers -/
structure NdOf (st : ByteArray) (x : Nat → Int) (ns : List ND) (w : World) (e : Ending) (w' : World) : Prop where
  out : ∃ v, e = .returned (.tuple #[v, .int .i64 (errP st x ns)]) ∧ (errP st x ns = 0 → Dealt ns ∧ ∃ g, v = .slice (some ⟨g, 0, none⟩) (ptN ns) (ptN ns) ∧ w'.heap[g]? = some (.cells (outL ns).toArray 3 (0, 0)) ∧ w.heap.size ≤ g) ∧ (errP st x ns ≠ 0 → v = .slice none 0 0)
  bel : Below w.heap.size w w'
theorem NdOf.bad {st : ByteArray} {x : Nat → Int} {ns : List ND} {w w' : World} {e : Ending} {k : Int} (he : errP st x ns = k) (hk : k ≠ 0) (h : e = .returned (.tuple #[.slice none 0 0, .int .i64 k])) (hb : Below w.heap.size w w') : NdOf st x ns w e w' :=
  ⟨⟨_, by rw [he]; exact h, fun h0 => absurd (he.symm.trans h0) hk, fun _ => rfl⟩, hb⟩
theorem infoCl : (Tryd.prog.info? 24).map (·.size) = some 23 := by kernel_rfl
theorem run_loadCl (w : World) (b : Nat) (st : ByteArray) (x : Nat → Int) (nv : Value) (h : ClAt w b st x nv) : (Instr.loadAt 24 (.pointer (some ⟨b, 0, none⟩))).run Tryd.prog w = .ok (.agg (clA st x nv)) w := by
  simp only [Instr.loadAt, Instr.sureAddr, Sem.run_bind, Sem.run_pure, Result.andThen]
  exact run_loadVar_row _ _ 24 24 (clA st x nv) (0, 0) _ h Tryd.underlying24 rfl infoCl
theorem wpList_loadCl {w : World} {ops : Array Oper} {rest : List Oper} {o : Oper} {a : Act} {Q : Exit → Act → World → Prop} (hgd : o.guard = none) (p : Operand) (ho : o.op = .load 24 p) (b : Nat) (st : ByteArray) (x : Nat → Int) (nv : Value) (hx : a.eval p = .pointer (some ⟨b, 0, none⟩)) (hO : ClAt w b st x nv)
    (h : wpList Tryd.prog ops Q rest (a.put o.dst (.agg (clA st x nv))) w) : wpList Tryd.prog ops Q (o :: rest) a w := by
  refine wpList_plain hgd fun K hK => ?_
  unfold Oper.wp execOp
  simp only [ho, Sem.run_bind, Sem.run_pure, Result.andThen_ok, hx, run_loadCl w b st x nv hO]
  exact hK _ _ h
set_option maxHeartbeats 8000000 in
set_option maxRecDepth 100000 in
set_option linter.unusedSimpArgs false in
set_option linter.unusedVariables false in
theorem nodesOf_any (N : Nat) (w : World) (st : ByteArray) (x : Nat → Int) (ao : Option Addr) (b o cap : Nat) (pv : Nat → Value) (ns : List ND) (h : NsAt N w ao b o pv ns) (hN : N ≤ w.heap.size) (hs : st.size ≤ 9223372036854775807) :
    Calls Tryd.prog 41 #[.agg (clA st x (.slice ao ns.length cap))] w fun e w' => NdOf st x ns w e w' := by
  obtain ⟨W0, hW0⟩ : ∃ W0, W0 = w.alloc (.cells (clA st x (.slice ao ns.length cap)) 24) := ⟨_, rfl⟩
  have C0 : Hid (ClAt W0 w.heap.size st x (.slice ao ns.length cap)) := by rw [hW0]; exact new_cl _ _ _ _
  have B0 : Hid (Below w.heap.size w W0) := by rw [hW0]; exact (Below.refl _ _).alloc (Nat.le_refl _) _
  have HN := hide h
  clear h
  have IS := hide (isStore_any st W0 hs)
  have c0 := C0.out.st
  have hdef : Hid (errP st x ns = if nmP st = false then 63 else if sfP x = false then 64 else if nfP ns = false then 65 else if dlB ns = false then 66 else if (kpN ns : Int) < x 0 then 67 else if 512 < (ptN ns : Int) * x 0 * x 2 then 3 else 0) := rfl
  have ISE : Hid (nmP st = (decide (st.size ≤ 40) && isSt st.data.toList)) := rfl
  rw [← ISE.out] at IS
  clear ISE
  go_enter Tryd.func41, Tryd.ntmps41
  go_upto_region 1 with fail
  rw [← hW0]
  clear hW0
  go_wp2_with fail
  refine Calls.mono IS.out ?_
  rintro e W1 ⟨rfl, hb⟩
  have C1 := hide (C0.out.below hb)
  have B1 := hide (B0.out.trans (hb.mono B0.out.size))
  clear hb C0 B0 IS c0
  cases h1 : nmP st with
  | false =>
    have HE := hide (show errP st x ns = 63 by rw [hdef.out, h1]; rfl)
    go_wp2_with fail
    go_ret2
    exact NdOf.bad HE.out (by omega) rfl B1.out
  | true =>
    have SF := hide (settingsFit_any W1 st x (.slice ao ns.length cap))
    go_wp2_with (refine wpList_loadCl rfl (.tmp 1) rfl w.heap.size st x _ rfl C1.out ?_)
    refine Calls.mono SF.out ?_
    rintro e W2 ⟨rfl, hb⟩
    have C2 := hide (C1.out.below hb)
    have B2 := hide (B1.out.trans (hb.mono B1.out.size))
    clear hb C1 B1 SF
    cases h2 : sfP x with
    | false =>
      have HE := hide (show errP st x ns = 64 by rw [hdef.out, h1, h2]; rfl)
      go_wp2_with fail
      go_ret2
      exact NdOf.bad HE.out (by omega) rfl B2.out
    | true =>
      have l0 := sfP_lim h2 0 (by omega)
      have l2 := sfP_lim h2 2 (by omega)
      have L0 : 1 ≤ x 0 ∧ x 0 ≤ 16 := l0
      have L2 : 1 ≤ x 2 ∧ x 2 ≤ 16 := l2
      clear l0 l2
      have NF := hide (nodesFit_any N W2 ao b o cap pv ns (HN.out.below (B2.out.mono hN)) (Nat.le_trans hN B2.out.size))
      have nv2 := C2.out.nv
      go_wp2_with fail
      refine Calls.mono NF.out ?_
      rintro e W3 ⟨rfl, hb⟩
      have C3 := hide (C2.out.below hb)
      have B3 := hide (B2.out.trans (hb.mono B2.out.size))
      clear hb C2 B2 NF nv2
      cases h3 : nfP ns with
      | false =>
        have HE := hide (show errP st x ns = 65 by rw [hdef.out, h1, h2, h3]; rfl)
        go_wp2_with fail
        go_ret2
        exact NdOf.bad HE.out (by omega) rfl B3.out
      | true =>
        have n16 := nfP_len h3
        have SP := hide (spread_any N W3 ao b o cap pv ns (HN.out.below (B3.out.mono hN)) (Nat.le_trans hN B3.out.size) n16.2)
        have nv3 := C3.out.nv
        go_wp2_with fail
        refine Calls.mono SP.out ?_
        intro e W4 hsp
        have C4 := hide (C3.out.below hsp.bel)
        have B4 := hide (B3.out.trans (hsp.bel.mono B3.out.size))
        by_cases h4 : Dealt ns
        case neg =>
          have he := hsp.no h4
          subst he
          have HE := hide (show errP st x ns = 66 by rw [hdef.out, h1, h2, h3, dlB_false h4]; rfl)
          clear hsp SP C3 B3 nv3
          go_wp2_with fail
          go_ret2
          exact NdOf.bad HE.out (by omega) rfl B4.out
        case pos =>
          obtain ⟨g, he, hg, hgs⟩ := hsp.yes h4
          subst he
          have G4 := hide hg
          have GS : Hid (w.heap.size ≤ g) := Nat.le_trans B3.out.size hgs
          clear hsp SP C3 B3 nv3 hg hgs
          have p2 := h4.p2
          have hp : (flat ns).length = ptN ns := rfl
          rw [hp] at p2 ⊢
          clear hp
          have hkl := kpN_le ns
          have KE := hide (keeping_any N W4.drew ao b o cap pv ns (HN.out.below (B4.out.drew.mono hN)) (Nat.le_trans hN B4.out.size))
          have D4 := dlB_true h4
          have hdef2 : Hid (errP st x ns = if (kpN ns : Int) < x 0 then 67 else if 512 < (ptN ns : Int) * x 0 * x 2 then 3 else 0) := by
            show errP st x ns = _
            rw [hdef.out, h1, h2, h3, D4]
            rfl
          have CC : Hid (∀ Y, Below W4.heap.size W4 Y → Y.cell? ⟨w.heap.size, 1, none⟩ = some (.int .i64 (x 0)) ∧ Y.cell? ⟨w.heap.size, 22, none⟩ = some (.slice ao ns.length cap)) := fun Y hY => ⟨(C4.out.below hY).x0, (C4.out.below hY).nv⟩
          clear hdef D4
          go_wp2_with fail
          refine wp_region_held_drew (S := fun Y => Below W4.heap.size W4 Y) (by kernel_rfl) ((Below.refl _ _).drew) (fun hHeld => ?_)
          refine wpAnyH_take (i := 0) (v := (.pointer (some ⟨w.heap.size, 1, none⟩))) rfl (by kernel_rfl) (by kernel_rfl) (by kernel_rfl) (fun _ _ _ h => h) (Or.inl ⟨by rfl, ?_⟩) (by assumption) ?_
          · intro w' hSw
            (try dsimp only at hSw)
            go_simp
          (try simp only [Act.put, List.setIfInBounds_toArray, List.set_cons_zero, List.set_cons_succ])
          refine wpAnyH_take (i := 1) (v := (.int .i64 (x 0))) rfl (by kernel_rfl) (by kernel_rfl) (by kernel_rfl) (fun _ _ _ h => h) (Or.inl ⟨by rfl, ?_⟩) (by assumption) ?_
          · intro w' hSw
            (try dsimp only at hSw)
            (obtain ⟨y1, y2⟩ := CC.out _ hSw; go_simp)
          (try simp only [Act.put, List.setIfInBounds_toArray, List.set_cons_zero, List.set_cons_succ])
          refine wpAnyH_take (i := 2) (v := (.pointer (some ⟨w.heap.size, 22, none⟩))) rfl (by kernel_rfl) (by kernel_rfl) (by kernel_rfl) (fun _ _ _ h => h) (Or.inl ⟨by rfl, ?_⟩) (by assumption) ?_
          · intro w' hSw
            (try dsimp only at hSw)
            go_simp
          (try simp only [Act.put, List.setIfInBounds_toArray, List.set_cons_zero, List.set_cons_succ])
          refine wpAnyH_take (i := 3) (v := (.slice ao ns.length cap)) rfl (by kernel_rfl) (by kernel_rfl) (by kernel_rfl) (fun _ _ _ h => h) (Or.inl ⟨by rfl, ?_⟩) (by assumption) ?_
          · intro w' hSw
            (try dsimp only at hSw)
            (obtain ⟨y1, y2⟩ := CC.out _ hSw; go_simp)
          (try simp only [Act.put, List.setIfInBounds_toArray, List.set_cons_zero, List.set_cons_succ])
          refine wpAnyH_ready (rs := [4]) (by kernel_rfl) (by simp) ?_
          refine AllReadyH.cons rfl (fun K hK => ?_) AllReadyH.nil
          go_simp
          refine Calls.mono KE.out ?_
          rintro e W5 ⟨rfl, hb⟩
          have B5 : Hid (Below W4.heap.size W4 W5) := ⟨hb.os, hb.tape, hb.output, hb.size, hb.block⟩
          clear hb KE
          refine hK.out _ _ (B5.out) (fun hHeld => ?_)
          clear hK
          (try simp only [Act.put, List.setIfInBounds_toArray, List.set_cons_zero, List.set_cons_succ])
          refine wpAnyH_take (i := 5) (v := (.bool (decide ((kpN ns : Int) < x 0)))) rfl (by kernel_rfl) (by kernel_rfl) (by kernel_rfl) (fun _ _ _ h => h) (Or.inl ⟨by rfl, ?_⟩) (by assumption) ?_
          · intro w' hSw
            (try dsimp only at hSw)
            go_simp
          (try simp only [Act.put, List.setIfInBounds_toArray, List.set_cons_zero, List.set_cons_succ])
          refine wpAnyH_ready (rs := [6]) (by kernel_rfl) (by simp) ?_
          refine AllReadyH.cons rfl (fun K hK => ?_) AllReadyH.nil
          go_simp
          refine hK.out _ _ (B5.out) (fun hHeld => ?_)
          clear hK
          (try simp only [Act.put, List.setIfInBounds_toArray, List.set_cons_zero, List.set_cons_succ])
          refine wpAnyH_done (by kernel_rfl) ?_ _
          clear hHeld CC
          have C5 := hide (C4.out.below B5.out)
          have B6 := hide (B4.out.trans (B5.out.mono B4.out.size))
          have G5 : Hid (W5.heap[g]? = some (.cells (outL ns).toArray 3 (0, 0))) := (B5.out.block _ (blk_lt G4.out)).trans G4.out
          clear C4 G4 B4
          by_cases h5 : (kpN ns : Int) < x 0
          case pos =>
            have h5' : decide ((kpN ns : Int) < x 0) = true := decide_eq_true h5
            have HE := hide (show errP st x ns = 67 by rw [hdef2.out, if_pos h5])
            go_wp2_with fail
            go_ret2
            exact NdOf.bad HE.out (by omega) rfl B6.out
          case neg =>
            have h5' : decide ((kpN ns : Int) < x 0) = false := decide_eq_false h5
            obtain ⟨f1, f2, f3, f4⟩ := files_in (a := (ptN ns : Int)) (b := x 0) (c := x 2) (by omega) (by omega) L0.1 L0.2 L2.1 L2.2
            have m1 := wrap_in (x := (ptN ns : Int) * x 0) (by omega) (by omega)
            have m2 := wrap_in (x := (ptN ns : Int) * x 0 * x 2) (by omega) (by omega)
            have z0 := C5.out.x0
            have z2 := C5.out.x2
            by_cases h6 : 512 < (ptN ns : Int) * x 0 * x 2
            case pos =>
              have HE := hide (show errP st x ns = 3 by rw [hdef2.out, if_neg h5, if_pos h6])
              clear hdef2
              go_wp2_with fail
              go_ret2
              exact NdOf.bad HE.out (by omega) rfl B6.out
            case neg =>
              have HE := hide (show errP st x ns = 0 by rw [hdef2.out, if_neg h5, if_neg h6])
              clear hdef2
              go_wp2_with fail
              go_ret2
              exact ⟨⟨_, by rw [HE.out]; rfl, fun _ => ⟨h4, g, rfl, G5.out, GS.out⟩, fun h => absurd HE.out h⟩, B6.out⟩
end Go.Proofs.YtanlnelfbfjelaaDoor
