import Derived.Test.YtbmhllcbkeblfaaGGcSet
import Derived.Lib.IndexAny
import Derived.Test.YtbmhllcbkeblfaaGKbWalk
import Derived.OrdersHeld
import Derived.Deep.RegionHeld
namespace Go.Proofs.Ytbmhllcbkeblfaa
open Go.RowKit Go.Shelf
theorem size_data (s : ByteArray) : s.data.toList.length = s.size := by simp
theorem toList_data (s : ByteArray) : s.toList = s.data.toList := ByteArray.toList_eq s
theorem ix_str (w : World) (s : ByteArray) (k : Nat) (hk : k < s.size) : (Instr.index 9 (.string s) (.int .i64 (k : Int))).run Try.prog w = .ok (.int .u8 (s[k].toNat : Int)) w := by
  rw [run_index_string w 9 s .i64 k Try.underlying9, dif_pos ⟨by omega, by omega⟩]
  simp
def allOf (t : List UInt8) (these : ByteArray) : Bool := t.all fun c => these.data.toList.contains c
theorem allOf_snoc (t : ByteArray) (these : ByteArray) (k : Nat) (h : k < t.size) : allOf (t.data.toList.take (k + 1)) these = (allOf (t.data.toList.take k) these && these.data.toList.contains t[k]) := by
  unfold allOf
  rw [List.take_succ_eq_append_getElem (by simpa using h), List.all_append]
  simp
  rfl
theorem allOf_false (t : ByteArray) (these : ByteArray) (k : Nat) (h : k < t.size) (hc : these.data.toList.contains t[k] = false) : allOf t.data.toList these = false := by
  unfold allOf
  rw [List.all_eq_false]
  exact ⟨t[k], by have : t[k] = t.data.toList[k]'(by simpa using h) := rfl; rw [this]; exact List.getElem_mem _, by rw [hc]; simp⟩
set_option maxHeartbeats 1000000 in
set_option maxRecDepth 100000 in
/-- isOf -/
theorem isOf_any (t these : ByteArray) (w : World) (hs : t.size ≤ 9223372036854775807) :
    Calls Try.prog 49 #[.string t, .string these] w fun e w' => e = .returned (.bool (allOf t.data.toList these)) ∧ w = w' := by
  go_enter Try.func49, Try.ntmps49
  go_wp2
  go_loop [8] (fun v => ∃ k : Nat, k ≤ t.size ∧ v = .int .i64 k ∧ Hid (allOf (t.data.toList.take k) these = true)) (fun v => t.size - (intOf v).toNat)
  case atStart => exact ⟨0, Nat.zero_le _, rfl, rfl⟩
  case round =>
    obtain ⟨k, hk, rfl, hA⟩ := hrel
    by_cases hlt : k < t.size
    · have hxs : ∀ w', (Instr.index 9 (.string t) (.int .i64 (k : Int))).run Try.prog w' = .ok (.int .u8 (t[k].toNat : Int)) w' := fun w' => ix_str w' t k hlt
      have C := hide (Try.strings_IndexByte these t[k].toNat w)
      rw [show ((t[k].toNat : Int)).toNat.toUInt8 = t[k] by simp] at C
      have HC := hide (Lib.contains_iff_indexByte these.data.toList t[k])
      have HS := hide (allOf_snoc t these k hlt)
      have HF := hide (allOf_false t these k hlt)
      generalize t[k] = c at *
      by_cases hi : (0 : Int) ≤ Lib.indexByte these.data.toList c
      · have hi' : ¬ Lib.indexByte these.data.toList c < 0 := by omega
        go_wp2_with (go_at_call 54; refine Calls.mono C.out ?_; rintro e w' ⟨rfl, rfl⟩)
        go_round
        case rel => exact ⟨k + 1, by omega, by go_num, by rw [HS.out, hA.out, HC.out, decide_eq_true hi]; rfl⟩
        case measure => simp [intOf]; omega
      · have hi' : Lib.indexByte these.data.toList c < 0 := by omega
        go_wp2_with (go_at_call 54; refine Calls.mono C.out ?_; rintro e w' ⟨rfl, rfl⟩)
        go_ret
        exact ⟨ret_bool (HF.out (by rw [HC.out]; exact decide_eq_false (by omega))).symm, rfl⟩
    · obtain rfl : k = t.size := by omega
      have hA' := hA.out
      rw [List.take_of_length_le (by simp)] at hA'
      have HA := hide hA'
      clear hA' hA
      go_wp2
      go_ret
      exact ⟨ret_bool HA.out.symm, rfl⟩
def stL : ByteArray := ⟨#[97, 98, 99, 100, 101, 102, 103, 104, 105, 106, 107, 108, 109, 110, 111, 112, 113, 114, 115, 116, 117, 118, 119, 120, 121, 122, 48, 49, 50, 51, 52, 53, 54, 55, 56, 57, 45]⟩
def ltL : ByteArray := ⟨#[97, 98, 99, 100, 101, 102, 103, 104, 105, 106, 107, 108, 109, 110, 111, 112, 113, 114, 115, 116, 117, 118, 119, 120, 121, 122]⟩
def isSt (t : List UInt8) : Bool := !t.isEmpty && allOf (t.take 1) ltL && allOf t stL
theorem take1_data (t : ByteArray) : (t.extract 0 1).data.toList = t.data.toList.take 1 := by rw [Lib.extract_data]; simp
set_option maxHeartbeats 1000000 in
set_option maxRecDepth 100000 in
theorem isStore_any (t : ByteArray) (w : World) (hs : t.size ≤ 9223372036854775807) :
    Calls Try.prog 39 #[.string t] w fun e w' => e = .returned (.bool (decide (t.size ≤ 40) && isSt t.data.toList)) ∧ Below w.heap.size w w' := by
  by_cases h0 : t.size = 0
  · have e1 : isSt t.data.toList = false := by
      have : t.data.toList = [] := List.length_eq_zero_iff.1 (by rw [size_data]; exact h0)
      rw [this]; rfl
    rw [e1, Bool.and_false]
    have e2 : t = ⟨#[]⟩ := ByteArray.ext (Array.toList_inj.1 (by rw [List.length_eq_zero_iff.1 (show t.data.toList.length = 0 by rw [size_data]; exact h0)]))
    subst e2
    go_enter Try.func39, Try.ntmps39
    go_wp2_with fail
    go_ret
    exact ⟨rfl, Below.refl _ _⟩
  · have hne : ¬ t = ⟨#[]⟩ := fun e => h0 (by rw [e]; rfl)
    have hne2 : t.toList.isEmpty = false := by
      rw [toList_data]
      cases hd : t.data.toList with
      | nil => exact absurd (by rw [← size_data, hd]; rfl) h0
      | cons a b => rfl
    have hsz : 1 ≤ t.size := by omega
    have hsz' : (1 : Int) ≤ (t.size : Int) := by omega
    by_cases h40 : 40 < t.size
    · rw [decide_eq_false (by omega), Bool.false_and]
      have h40' : ¬ (t.size : Int) ≤ 40 := by omega
      have h40'' : (40 : Int) < (t.size : Int) := by omega
      go_enter Try.func39, Try.ntmps39
      go_wp2_with fail
      go_ret
      exact ⟨rfl, Below.refl _ _⟩
    have h40' : (t.size : Int) ≤ 40 := by omega
    have h40'' : ¬ (40 : Int) < (t.size : Int) := by omega
    rw [decide_eq_true (by omega : t.size ≤ 40), Bool.true_and]
    have C1 := hide (fun w' => isOf_any (t.extract 0 1) ltL w' (by rw [ByteArray.size_extract]; omega))
    have C2 := hide (fun w' => isOf_any t stL w' hs)
    rw [take1_data] at C1
    have HE : Hid (isSt t.data.toList = (allOf (t.data.toList.take 1) ltL && allOf t.data.toList stL)) := by
      show _ = _
      unfold isSt
      have : t.data.toList.isEmpty = false := by
        cases hd : t.data.toList with
        | nil => exact absurd (by rw [← size_data, hd]; rfl) h0
        | cons a b => rfl
      rw [this]; rfl
    obtain ⟨E, hE⟩ : ∃ E, E = isSt t.data.toList := ⟨_, rfl⟩
    rw [← hE] at HE ⊢
    unfold ltL at C1 HE
    unfold stL at C2 HE
    generalize allOf (t.data.toList.take 1) _ = A at *
    generalize allOf t.data.toList _ = B at *
    clear hE h0
    cases hA : A with
    | false =>
      rw [hA] at C1 HE
      go_enter Try.func39, Try.ntmps39
      go_wp2_with fail
      refine Calls.mono (C1.out _) ?_
      rintro e w1 ⟨rfl, rfl⟩
      go_wp2_with fail
      go_ret
      exact ⟨ret_bool HE.out.symm, Below.refl _ _⟩
    | true =>
      rw [hA] at C1 HE
      go_enter Try.func39, Try.ntmps39
      go_wp2_with fail
      refine Calls.mono (C1.out _) ?_
      rintro e w1 ⟨rfl, rfl⟩
      go_wp2_with fail
      refine Calls.mono (C2.out _) ?_
      rintro e w1 ⟨rfl, rfl⟩
      go_wp2_with fail
      go_ret
      exact ⟨ret_bool HE.out.symm, Below.refl _ _⟩
/-- a byte of a name -/
def okc (n : Nat) : Bool := decide (97 ≤ n) && decide (n ≤ 122) || decide (48 ≤ n) && decide (n ≤ 57) || decide (n = 45)
set_option maxRecDepth 100000 in
theorem okc_st (c : UInt8) : stL.data.toList.contains c = okc c.toNat := by
  have h : ∀ n : Fin 256, stL.data.toList.contains (UInt8.ofNat n.val) = okc n.val   := by decide +kernel
  have := h ⟨c.toNat, c.toNat_lt⟩
  simpa using this
set_option maxRecDepth 100000 in
theorem okc_lt (c : UInt8) : ltL.data.toList.contains c = (decide (97 ≤ c.toNat) && decide (c.toNat ≤ 122)) := by
  have h : ∀ n : Fin 256, ltL.data.toList.contains (UInt8.ofNat n.val) = (decide (97 ≤ n.val) && decide (n.val ≤ 122))   := by decide +kernel
  have := h ⟨c.toNat, c.toNat_lt⟩
  simpa using this
/-- may it be a store's name? -/
def nmP (t : ByteArray) : Bool := decide (t.size ≤ 40) && isSt t.data.toList
theorem allOf_take (t : ByteArray) (k : Nat) (h : k < t.size) : allOf (t.data.toList.take (k + 1)) stL = (allOf (t.data.toList.take k) stL && okc t[k].toNat) := by
  rw [allOf_snoc t stL k h, okc_st]
theorem allOf_one (t : ByteArray) (h : 0 < t.size) : allOf (t.data.toList.take 1) ltL = (decide (97 ≤ t[0].toNat) && decide (t[0].toNat ≤ 122)) := by
  rw [show (1 : Nat) = 0 + 1 from rfl, allOf_snoc t ltL 0 h, okc_lt]
  simp [allOf]
theorem nmP_first (t : ByteArray) (h : 0 < t.size) (hb : (decide (97 ≤ t[0].toNat) && decide (t[0].toNat ≤ 122)) = false) : nmP t = false := by
  unfold nmP isSt
  rw [allOf_one t h, hb]
  simp
theorem nmP_byte (t : ByteArray) (k : Nat) (h : k < t.size) (hb : okc t[k].toNat = false) : nmP t = false := by
  unfold nmP isSt
  rw [allOf_false t stL k h (by rw [okc_st]; exact hb)]
  simp
theorem nmP_good (t : ByteArray) (h : 0 < t.size) (h40 : t.size ≤ 40) (hb : (decide (97 ≤ t[0].toNat) && decide (t[0].toNat ≤ 122)) = true) (ha : allOf t.data.toList stL = true) : nmP t = true := by
  unfold nmP isSt
  rw [allOf_one t h, hb, ha, decide_eq_true h40]
  cases hd : t.data.toList with
  | nil => have := size_data t; rw [hd] at this; simp at this; omega
  | cons a b => rfl
end Go.Proofs.Ytbmhllcbkeblfaa
namespace Go.Proofs.Ytbmhllcbkeblfaa
open Go.RowKit
open Classical in
noncomputable def dlB (ns : List ND) : Bool := decide (Dealt ns)
open Classical in
theorem dlB_true {ns : List ND} (h : Dealt ns) : dlB ns = true := by unfold dlB; exact decide_eq_true h
open Classical in
theorem dlB_false {ns : List ND} (h : ¬ Dealt ns) : dlB ns = false := by unfold dlB; exact decide_eq_false h
/-- how many partitions there are -/
def ptN (ns : List ND) : Nat := (flat ns).length
/-- the error that a definition has -/
noncomputable def errP (st : ByteArray) (x : Nat → Int) (ns : List ND) : Int :=
  if nmP st = false then 63 else if sfP x = false then 64 else if nfP ns = false then 65 else if dlB ns = false then 66 else if (kpN ns : Int) < x 0 then 67 else if 512 < (ptN ns : Int) * x 0 * x 2 then 3 else 0
theorem sfP_lim {x : Nat → Int} (h : sfP x = true) (i : Nat) (hi : i < 21) : loS i ≤ x i ∧ x i ≤ hiS i := by
  unfold sfP at h
  rw [Bool.and_eq_true] at h
  have := List.all_eq_true.1 h.1 i (List.mem_range.2 hi)
  unfold sfAt at this
  simpa using this
theorem nfP_len {ns : List ND} (h : nfP ns = true) : 1 ≤ ns.length ∧ ns.length ≤ 16 := by
  unfold nfP at h
  simp at h
  omega
theorem files_in {a b c : Int} (h1 : 0 ≤ a) (h2 : a ≤ 64) (h3 : 1 ≤ b) (h4 : b ≤ 16) (h5 : 1 ≤ c) (h6 : c ≤ 16) : 0 ≤ a * b ∧ a * b ≤ 1024 ∧ 0 ≤ a * b * c ∧ a * b * c ≤ 16384 := by
  have k1 : 0 ≤ a * b := Int.mul_nonneg h1 (by omega)
  have k2 : a * b ≤ 64 * 16 := Int.mul_le_mul h2 h4 (by omega) (by omega)
  have k3 : 0 ≤ a * b * c := Int.mul_nonneg k1 (by omega)
  have k4 : a * b * c ≤ 1024 * 16 := Int.mul_le_mul (by omega) h6 (by omega) (by omega)
  exact ⟨k1, by omega, k3, by omega⟩
/-- what nodesOf answers -/
structure NdOf (st : ByteArray) (x : Nat → Int) (ns : List ND) (w : World) (e : Ending) (w' : World) : Prop where
  out : ∃ v, e = .returned (.tuple #[v, .int .i64 (errP st x ns)]) ∧ (errP st x ns = 0 → Dealt ns ∧ ∃ g, v = .slice (some ⟨g, 0, none⟩) (ptN ns) (ptN ns) ∧ w'.heap[g]? = some (.cells (outL ns).toArray 3 (0, 0)) ∧ w.heap.size ≤ g) ∧ (errP st x ns ≠ 0 → v = .slice none 0 0)
  bel : Below w.heap.size w w'
theorem NdOf.bad {st : ByteArray} {x : Nat → Int} {ns : List ND} {w w' : World} {e : Ending} {k : Int} (he : errP st x ns = k) (hk : k ≠ 0) (h : e = .returned (.tuple #[.slice none 0 0, .int .i64 k])) (hb : Below w.heap.size w w') : NdOf st x ns w e w' :=
  ⟨⟨_, by rw [he]; exact h, fun h0 => absurd (he.symm.trans h0) hk, fun _ => rfl⟩, hb⟩
theorem infoCl : (Try.prog.info? 24).map (·.size) = some 23 := by kernel_rfl
theorem run_loadCl (w : World) (b : Nat) (st : ByteArray) (x : Nat → Int) (nv : Value) (h : ClAt w b st x nv) : (Instr.loadAt 24 (.pointer (some ⟨b, 0, none⟩))).run Try.prog w = .ok (.agg (clA st x nv)) w := by
  simp only [Instr.loadAt, Instr.sureAddr, Sem.run_bind, Sem.run_pure, Result.andThen]
  exact run_loadVar_row _ _ 24 24 (clA st x nv) (0, 0) _ h Try.underlying24 rfl infoCl
theorem wpList_loadCl {w : World} {ops : Array Oper} {rest : List Oper} {o : Oper} {a : Act} {Q : Exit → Act → World → Prop} (hgd : o.guard = none) (p : Operand) (ho : o.op = .load 24 p) (b : Nat) (st : ByteArray) (x : Nat → Int) (nv : Value) (hx : a.eval p = .pointer (some ⟨b, 0, none⟩)) (hO : ClAt w b st x nv)
    (h : wpList Try.prog ops Q rest (a.put o.dst (.agg (clA st x nv))) w) : wpList Try.prog ops Q (o :: rest) a w := by
  refine wpList_plain hgd fun K hK => ?_
  unfold Oper.wp execOp
  simp only [ho, Sem.run_bind, Sem.run_pure, Result.andThen_ok, hx, run_loadCl w b st x nv hO]
  exact hK _ _ h
set_option maxHeartbeats 8000000 in
set_option maxRecDepth 100000 in
set_option linter.unusedSimpArgs false in
set_option linter.unusedVariables false in
theorem nodesOf_any (N : Nat) (w : World) (st : ByteArray) (x : Nat → Int) (ao : Option Addr) (b o cap : Nat) (pv : Nat → Value) (ns : List ND) (h : NsAt N w ao b o pv ns) (hN : N ≤ w.heap.size) (hs : st.size ≤ 9223372036854775807) :
    Calls Try.prog 23 #[.agg (clA st x (.slice ao ns.length cap))] w fun e w' => NdOf st x ns w e w' := by
  obtain ⟨W0, hW0⟩ : ∃ W0, W0 = w.alloc (.cells (clA st x (.slice ao ns.length cap)) 24) := ⟨_, rfl⟩
  have C0 : Hid (ClAt W0 w.heap.size st x (.slice ao ns.length cap)) := by rw [hW0]; exact new_cl _ _ _ _
  have B0 : Hid (Below w.heap.size w W0) := by rw [hW0]; exact (Below.refl _ _).alloc (Nat.le_refl _) _
  have HN := hide h
  clear h
  have IS := hide (isStore_any st W0 hs)
  have c0 := C0.out.st
  have hdef : Hid (errP st x ns = if nmP st = false then 63 else if sfP x = false then 64 else if nfP ns = false then 65 else if dlB ns = false then 66 else if (kpN ns : Int) < x 0 then 67 else if 512 < (ptN ns : Int) * x 0 * x 2 then 3 else 0) := rfl
  have ISE : Hid (nmP st = (decide (st.size ≤ 40) && isSt st.data.toList)) := rfl
  rw [← ISE.out] at IS
  clear ISE
  go_enter Try.func23, Try.ntmps23
  go_upto_region 1 with fail
  rw [← hW0]
  clear hW0
  go_wp2_with fail
  refine Calls.mono IS.out ?_
  rintro e W1 ⟨rfl, hb⟩
  have C1 := hide (C0.out.below hb)
  have B1 := hide (B0.out.trans (hb.mono B0.out.size))
  clear hb C0 B0 IS c0
  cases h1 : nmP st with
  | false =>
    have HE := hide (show errP st x ns = 63 by rw [hdef.out, h1]; rfl)
    go_wp2_with fail
    go_ret2
    exact NdOf.bad HE.out (by omega) rfl B1.out
  | true =>
    have SF := hide (settingsFit_any W1 st x (.slice ao ns.length cap))
    go_wp2_with (refine wpList_loadCl rfl (.tmp 1) rfl w.heap.size st x _ rfl C1.out ?_)
    refine Calls.mono SF.out ?_
    rintro e W2 ⟨rfl, hb⟩
    have C2 := hide (C1.out.below hb)
    have B2 := hide (B1.out.trans (hb.mono B1.out.size))
    clear hb C1 B1 SF
    cases h2 : sfP x with
    | false =>
      have HE := hide (show errP st x ns = 64 by rw [hdef.out, h1, h2]; rfl)
      go_wp2_with fail
      go_ret2
      exact NdOf.bad HE.out (by omega) rfl B2.out
    | true =>
      have l0 := sfP_lim h2 0 (by omega)
      have l2 := sfP_lim h2 2 (by omega)
      have L0 : 1 ≤ x 0 ∧ x 0 ≤ 16 := l0
      have L2 : 1 ≤ x 2 ∧ x 2 ≤ 16 := l2
      clear l0 l2
      have NF := hide (nodesFit_any N W2 ao b o cap pv ns (HN.out.below (B2.out.mono hN)) (Nat.le_trans hN B2.out.size))
      have nv2 := C2.out.nv
      go_wp2_with fail
      refine Calls.mono NF.out ?_
      rintro e W3 ⟨rfl, hb⟩
      have C3 := hide (C2.out.below hb)
      have B3 := hide (B2.out.trans (hb.mono B2.out.size))
      clear hb C2 B2 NF nv2
      cases h3 : nfP ns with
      | false =>
        have HE := hide (show errP st x ns = 65 by rw [hdef.out, h1, h2, h3]; rfl)
        go_wp2_with fail
        go_ret2
        exact NdOf.bad HE.out (by omega) rfl B3.out
      | true =>
        have n16 := nfP_len h3
        have SP := hide (spread_any N W3 ao b o cap pv ns (HN.out.below (B3.out.mono hN)) (Nat.le_trans hN B3.out.size) n16.2)
        have nv3 := C3.out.nv
        go_wp2_with fail
        refine Calls.mono SP.out ?_
        intro e W4 hsp
        have C4 := hide (C3.out.below hsp.bel)
        have B4 := hide (B3.out.trans (hsp.bel.mono B3.out.size))
        by_cases h4 : Dealt ns
        case neg =>
          have he := hsp.no h4
          subst he
          have HE := hide (show errP st x ns = 66 by rw [hdef.out, h1, h2, h3, dlB_false h4]; rfl)
          clear hsp SP C3 B3 nv3
          go_wp2_with fail
          go_ret2
          exact NdOf.bad HE.out (by omega) rfl B4.out
        case pos =>
          obtain ⟨g, he, hg, hgs⟩ := hsp.yes h4
          subst he
          have G4 := hide hg
          have GS : Hid (w.heap.size ≤ g) := Nat.le_trans B3.out.size hgs
          clear hsp SP C3 B3 nv3 hg hgs
          have p2 := h4.p2
          have hp : (flat ns).length = ptN ns := rfl
          rw [hp] at p2 ⊢
          clear hp
          have hkl := kpN_le ns
          have KE := hide (keeping_any N W4.drew ao b o cap pv ns (HN.out.below (B4.out.drew.mono hN)) (Nat.le_trans hN B4.out.size))
          have D4 := dlB_true h4
          have hdef2 : Hid (errP st x ns = if (kpN ns : Int) < x 0 then 67 else if 512 < (ptN ns : Int) * x 0 * x 2 then 3 else 0) := by
            show errP st x ns = _
            rw [hdef.out, h1, h2, h3, D4]
            rfl
          have CC : Hid (∀ Y, Below W4.heap.size W4 Y → Y.cell? ⟨w.heap.size, 1, none⟩ = some (.int .i64 (x 0)) ∧ Y.cell? ⟨w.heap.size, 22, none⟩ = some (.slice ao ns.length cap)) := fun Y hY => ⟨(C4.out.below hY).x0, (C4.out.below hY).nv⟩
          clear hdef D4
          go_wp2_with fail
          refine wp_region_held_drew (S := fun Y => Below W4.heap.size W4 Y) (by kernel_rfl) ((Below.refl _ _).drew) (fun hHeld => ?_)
          refine wpAnyH_take (i := 0) (v := (.pointer (some ⟨w.heap.size, 1, none⟩))) rfl (by kernel_rfl) (by kernel_rfl) (by kernel_rfl) (fun _ _ _ h => h) (Or.inl ⟨by rfl, ?_⟩) (by assumption) ?_
          · intro w' hSw
            (try dsimp only at hSw)
            go_simp
          (try simp only [Act.put, List.setIfInBounds_toArray, List.set_cons_zero, List.set_cons_succ])
          refine wpAnyH_take (i := 1) (v := (.int .i64 (x 0))) rfl (by kernel_rfl) (by kernel_rfl) (by kernel_rfl) (fun _ _ _ h => h) (Or.inl ⟨by rfl, ?_⟩) (by assumption) ?_
          · intro w' hSw
            (try dsimp only at hSw)
            (obtain ⟨y1, y2⟩ := CC.out _ hSw; go_simp)
          (try simp only [Act.put, List.setIfInBounds_toArray, List.set_cons_zero, List.set_cons_succ])
          refine wpAnyH_take (i := 2) (v := (.pointer (some ⟨w.heap.size, 22, none⟩))) rfl (by kernel_rfl) (by kernel_rfl) (by kernel_rfl) (fun _ _ _ h => h) (Or.inl ⟨by rfl, ?_⟩) (by assumption) ?_
          · intro w' hSw
            (try dsimp only at hSw)
            go_simp
          (try simp only [Act.put, List.setIfInBounds_toArray, List.set_cons_zero, List.set_cons_succ])
          refine wpAnyH_take (i := 3) (v := (.slice ao ns.length cap)) rfl (by kernel_rfl) (by kernel_rfl) (by kernel_rfl) (fun _ _ _ h => h) (Or.inl ⟨by rfl, ?_⟩) (by assumption) ?_
          · intro w' hSw
            (try dsimp only at hSw)
            (obtain ⟨y1, y2⟩ := CC.out _ hSw; go_simp)
          (try simp only [Act.put, List.setIfInBounds_toArray, List.set_cons_zero, List.set_cons_succ])
          refine wpAnyH_ready (rs := [4]) (by kernel_rfl) (by simp) ?_
          refine AllReadyH.cons rfl (fun K hK => ?_) AllReadyH.nil
          go_simp
          refine Calls.mono KE.out ?_
          rintro e W5 ⟨rfl, hb⟩
          have B5 : Hid (Below W4.heap.size W4 W5) := ⟨hb.os, hb.tape, hb.output, hb.size, hb.block⟩
          clear hb KE
          refine hK.out _ _ (B5.out) (fun hHeld => ?_)
          clear hK
          (try simp only [Act.put, List.setIfInBounds_toArray, List.set_cons_zero, List.set_cons_succ])
          refine wpAnyH_take (i := 5) (v := (.bool (decide ((kpN ns : Int) < x 0)))) rfl (by kernel_rfl) (by kernel_rfl) (by kernel_rfl) (fun _ _ _ h => h) (Or.inl ⟨by rfl, ?_⟩) (by assumption) ?_
          · intro w' hSw
            (try dsimp only at hSw)
            go_simp
          (try simp only [Act.put, List.setIfInBounds_toArray, List.set_cons_zero, List.set_cons_succ])
          refine wpAnyH_ready (rs := [6]) (by kernel_rfl) (by simp) ?_
          refine AllReadyH.cons rfl (fun K hK => ?_) AllReadyH.nil
          go_simp
          refine hK.out _ _ (B5.out) (fun hHeld => ?_)
          clear hK
          (try simp only [Act.put, List.setIfInBounds_toArray, List.set_cons_zero, List.set_cons_succ])
          refine wpAnyH_done (by kernel_rfl) ?_ _
          clear hHeld CC
          have C5 := hide (C4.out.below B5.out)
          have B6 := hide (B4.out.trans (B5.out.mono B4.out.size))
          have G5 : Hid (W5.heap[g]? = some (.cells (outL ns).toArray 3 (0, 0))) := (B5.out.block _ (blk_lt G4.out)).trans G4.out
          clear C4 G4 B4
          by_cases h5 : (kpN ns : Int) < x 0
          case pos =>
            have h5' : decide ((kpN ns : Int) < x 0) = true := decide_eq_true h5
            have HE := hide (show errP st x ns = 67 by rw [hdef2.out, if_pos h5])
            go_wp2_with fail
            go_ret2
            exact NdOf.bad HE.out (by omega) rfl B6.out
          case neg =>
            have h5' : decide ((kpN ns : Int) < x 0) = false := decide_eq_false h5
            obtain ⟨f1, f2, f3, f4⟩ := files_in (a := (ptN ns : Int)) (b := x 0) (c := x 2) (by omega) (by omega) L0.1 L0.2 L2.1 L2.2
            have m1 := wrap_in (x := (ptN ns : Int) * x 0) (by omega) (by omega)
            have m2 := wrap_in (x := (ptN ns : Int) * x 0 * x 2) (by omega) (by omega)
            have z0 := C5.out.x0
            have z2 := C5.out.x2
            by_cases h6 : 512 < (ptN ns : Int) * x 0 * x 2
            case pos =>
              have HE := hide (show errP st x ns = 3 by rw [hdef2.out, if_neg h5, if_pos h6])
              clear hdef2
              go_wp2_with fail
              go_ret2
              exact NdOf.bad HE.out (by omega) rfl B6.out
            case neg =>
              have HE := hide (show errP st x ns = 0 by rw [hdef2.out, if_neg h5, if_neg h6])
              clear hdef2
              go_wp2_with fail
              go_ret2
              exact ⟨⟨_, by rw [HE.out]; rfl, fun _ => ⟨h4, g, rfl, G5.out, GS.out⟩, fun h => absurd HE.out h⟩, B6.out⟩
end Go.Proofs.Ytbmhllcbkeblfaa
namespace Go.Proofs.Ytbmhllcbkeblfaa
open Go.RowKit
/-- the settings, as an array -/
def vA (x : Nat → Int) : Array Value := #[.int .i64 (x 0), .int .i64 (x 1), .int .i64 (x 2), .int .i64 (x 3), .int .i64 (x 4), .int .i64 (x 5), .int .i64 (x 6), .int .i64 (x 7), .int .i64 (x 8), .int .i64 (x 9), .int .i64 (x 10), .int .i64 (x 11), .int .i64 (x 12), .int .i64 (x 13), .int .i64 (x 14), .int .i64 (x 15), .int .i64 (x 16), .int .i64 (x 17), .int .i64 (x 18), .int .i64 (x 19), .int .i64 (x 20)]
theorem vA_at (x : Nat → Int) (i : Nat) (h : i < 21) : (vA x)[i]? = some (.int .i64 (x i)) := by
  have : i = 0 ∨ i = 1 ∨ i = 2 ∨ i = 3 ∨ i = 4 ∨ i = 5 ∨ i = 6 ∨ i = 7 ∨ i = 8 ∨ i = 9 ∨ i = 10 ∨ i = 11 ∨ i = 12 ∨ i = 13 ∨ i = 14 ∨ i = 15 ∨ i = 16 ∨ i = 17 ∨ i = 18 ∨ i = 19 ∨ i = 20 := by omega
  rcases this with rfl | rfl | rfl | rfl | rfl | rfl | rfl | rfl | rfl | rfl | rfl | rfl | rfl | rfl | rfl | rfl | rfl | rfl | rfl | rfl | rfl <;> rfl
theorem vA_one (x : Nat → Int) : (vA x).all (·.oneCell') = true := by simp [vA, Value.oneCell']
def z21 : Array Value := #[.int .i64 0, .int .i64 0, .int .i64 0, .int .i64 0, .int .i64 0, .int .i64 0, .int .i64 0, .int .i64 0, .int .i64 0, .int .i64 0, .int .i64 0, .int .i64 0, .int .i64 0, .int .i64 0, .int .i64 0, .int .i64 0, .int .i64 0, .int .i64 0, .int .i64 0, .int .i64 0, .int .i64 0]
end Go.Proofs.Ytbmhllcbkeblfaa
namespace Go.Proofs.Ytbmhllcbkeblfaa
open Go.RowKit
theorem lo_one {i : Nat} (h : i < 20) : loS i = 1 := by
  have : i = 0 ∨ i = 1 ∨ i = 2 ∨ i = 3 ∨ i = 4 ∨ i = 5 ∨ i = 6 ∨ i = 7 ∨ i = 8 ∨ i = 9 ∨ i = 10 ∨ i = 11 ∨ i = 12 ∨ i = 13 ∨ i = 14 ∨ i = 15 ∨ i = 16 ∨ i = 17 ∨ i = 18 ∨ i = 19 := by omega
  rcases this with rfl | rfl | rfl | rfl | rfl | rfl | rfl | rfl | rfl | rfl | rfl | rfl | rfl | rfl | rfl | rfl | rfl | rfl | rfl | rfl <;> rfl
theorem lo_home : loS 20 = 0 := rfl
/-- what a reader of a definition has, behind its box -/
structure Boxed (N : Nat) (w W0 : World) (st : ByteArray) (x : Nat → Int) (ao : Option Addr) (b o cap : Nat) (pv : Nat → Value) (ns : List ND) : Prop where
  cl : ClAt W0 w.heap.size st x (.slice ao ns.length cap)
  nd : NsAt N W0 ao b o pv ns
  bel : Below w.heap.size w W0
theorem boxed {N : Nat} {w : World} (st : ByteArray) (x : Nat → Int) {ao : Option Addr} {b o : Nat} (cap : Nat) {pv : Nat → Value} {ns : List ND} (h : NsAt N w ao b o pv ns) (hN : N ≤ w.heap.size) : ∃ W0, W0 = w.alloc (.cells (clA st x (.slice ao ns.length cap)) 24) ∧ Boxed N w W0 st x ao b o cap pv ns :=
  ⟨_, rfl, new_cl _ _ _ _, h.below ((Below.refl _ _).alloc hN _), (Below.refl _ _).alloc (Nat.le_refl _) _⟩
end Go.Proofs.Ytbmhllcbkeblfaa
namespace Go.Proofs.Ytbmhllcbkeblfaa
open Go.RowKit
theorem cntI_le (k : Int) (l : List Int) : cntI k l ≤ l.length := by
  induction l with
  | nil => exact Nat.le_refl _
  | cons x r ih =>
    simp only [cntI, List.length_cons]
    split <;> omega
theorem cntI_take (k : Int) (l : List Int) (q : Nat) (h : q < l.length) : cntI k (l.take (q + 1)) = cntI k (l.take q) + (if l[q] = k then 1 else 0) := by
  rw [List.take_succ_eq_append_getElem h, cntI_append]
  simp [cntI]
theorem cnt_next (k : Int) (ns : List ND) (i : Nat) (h : i < ns.length) : cntI k (flat (ns.take (i + 1))) = cntI k (flat (ns.take i)) + cntI k ns[i].ps := by
  rw [List.take_succ_eq_append_getElem h, flat_append, flat_one, cntI_append]
/-- a definition's readers in a row: all they need of a world -/
structure Stand (N : Nat) (c : Nat) (W : World) (st : ByteArray) (x : Nat → Int) (ao : Option Addr) (b o cap : Nat) (pv : Nat → Value) (ns : List ND) : Prop where
  cl : ClAt W c st x (.slice ao ns.length cap)
  nd : NsAt N W ao b o pv ns
  le : N ≤ W.heap.size
theorem Stand.below {N c : Nat} {W W' : World} {st : ByteArray} {x : Nat → Int} {ao : Option Addr} {b o cap : Nat} {pv : Nat → Value} {ns : List ND} (h : Stand N c W st x ao b o cap pv ns) (hb : Below W.heap.size W W') : Stand N c W' st x ao b o cap pv ns :=
  ⟨h.cl.below hb, h.nd.below (hb.mono h.le), Nat.le_trans h.le hb.size⟩
theorem Boxed.stand {N : Nat} {w W0 : World} {st : ByteArray} {x : Nat → Int} {ao : Option Addr} {b o cap : Nat} {pv : Nat → Value} {ns : List ND} (h : Boxed N w W0 st x ao b o cap pv ns) (hN : N ≤ w.heap.size) : Stand N w.heap.size W0 st x ao b o cap pv ns := ⟨h.cl, h.nd, Nat.le_trans hN h.bel.size⟩
theorem dlB_parts {ns : List ND} (h1 : 1 ≤ (flat ns).length) (h2 : (flat ns).length ≤ 64) (h3 : ∀ i : Nat, i < (flat ns).length → cntI (i : Int) (flat ns) = 1) (h4 : ∀ i (h : i < ns.length), Rising ns[i].ps) : dlB ns = true :=
  dlB_true ⟨h1, h2, h3, fun n hn => by obtain ⟨q, hq, rfl⟩ := List.getElem_of_mem hn; exact h4 q hq⟩
end Go.Proofs.Ytbmhllcbkeblfaa
namespace Go.Proofs.Ytbmhllcbkeblfaa
open Go.RowKit
theorem exec_loadCl {ρ : Operand → Value} {o : Oper} {w : World} {b : Nat} {st : ByteArray} {x : Nat → Int} {nv : Value} (p : Operand) (ho : o.op = .load 24 p) (hx : ρ p = .pointer (some ⟨b, 0, none⟩)) (hO : ClAt w b st x nv) : (execOp ρ o).run Try.prog w = .ok (.value (.agg (clA st x nv))) w := by
  unfold execOp
  simp only [ho, hx, Sem.run_bind, run_loadCl w b st x nv hO, Result.andThen_ok, Sem.run_pure]
set_option maxHeartbeats 8000000 in
set_option maxRecDepth 100000 in
set_option linter.unusedSimpArgs false in
set_option linter.unusedVariables false in
/-- the program's Check -/
theorem check_any (N : Nat) (w : World) (st : ByteArray) (x : Nat → Int) (ao : Option Addr) (b o cap : Nat) (pv : Nat → Value) (ns : List ND) (h : NsAt N w ao b o pv ns) (hN : N ≤ w.heap.size) (hs : st.size ≤ 9223372036854775807) :
    Calls Try.prog 7 #[.agg (clA st x (.slice ao ns.length cap))] w fun e w' => e = .returned (.int .i64 (errP st x ns)) ∧ Below w.heap.size w w' := by
  obtain ⟨W0, hW0, hX⟩ := boxed st x cap h hN
  have HX := hide (hX.stand hN)
  have B0 := hide hX.bel
  clear hX h
  have NO := hide (nodesOf_any N W0 st x ao b o cap pv ns HX.out.nd HX.out.le hs)
  go_enter Try.func7, Try.ntmps7
  go_upto_region 1 with fail
  rw [← hW0]
  clear hW0
  go_wp2_with (refine wpList_loadCl rfl (.tmp 1) rfl w.heap.size st x _ rfl HX.out.cl ?_)
  refine Calls.mono NO.out ?_
  intro e W1 hn
  obtain ⟨v, rfl, _, _⟩ := hn.out
  have B1 := hide (B0.out.trans (hn.bel.mono B0.out.size))
  clear hn NO HX
  go_wp2_with fail
  go_ret
  exact ⟨rfl, B1.out⟩
end Go.Proofs.Ytbmhllcbkeblfaa
namespace Go.Proofs.Ytbmhllcbkeblfaa.Cn
open Go.RowKit
section
variable {w : World} {X : Nat} {v : Ex} {Z : Zz}
set_option maxHeartbeats 16000000 in
set_option maxRecDepth 100000 in
set_option linter.unusedSimpArgs false in
set_option linter.unusedVariables false in
theorem none_b (hX : w.heap[X]? = some (.cells (exA v Z) 75)) (hr : ∃ ra rc, Z.rv = .slice ra v.rows.length rc) (hp : 1 ≤ v.rows.length) :
    Calls Try.prog 27 #[.pointer (some ⟨X, 0, none⟩)] w fun e w' => e = .returned (.bool false) ∧ w = w' := by
  obtain ⟨ra, rc, hrv⟩ := hr
  have c1 := (ex_cells hX).2.1
  rw [hrv] at c1
  obtain ⟨n, hn⟩ : ∃ n, n = v.rows.length := ⟨_, rfl⟩
  rw [← hn] at c1 hp
  clear hX hrv hn
  have q : ((n : Int) == 0) = false := by rw [beq_eq_false_iff_ne]; omega
  have q2 : (n == 0) = false := by rw [beq_eq_false_iff_ne]; omega
  go_enter Try.func27, Try.ntmps27
  go_wp2_with fail
  go_ret
  exact ⟨rfl, rfl⟩
theorem Ow.rsl (h : Ow w v Z) : ∃ ra rc, Z.rv = .slice ra v.rows.length rc := own_sl h.rows
theorem none_x (h : ExAt w X v Z) (hp : 1 ≤ v.rows.length) :
    Calls Try.prog 27 #[.pointer (some ⟨X, 0, none⟩)] w fun e w' => e = .returned (.bool false) ∧ w = w' := none_b h.blk h.ow.rsl hp
set_option maxHeartbeats 16000000 in
set_option maxRecDepth 100000 in
set_option linter.unusedSimpArgs false in
set_option linter.unusedVariables false in
theorem none_nil (w : World) :
    Calls Try.prog 27 #[.pointer none] w fun e w' => e = .returned (.bool true) ∧ w = w' := by
  go_enter Try.func27, Try.ntmps27
  go_wp2_with fail
  go_ret
  exact ⟨rfl, rfl⟩
set_option maxHeartbeats 16000000 in
set_option maxRecDepth 100000 in
set_option linter.unusedSimpArgs false in
set_option linter.unusedVariables false in
theorem Busy_b (hX : w.heap[X]? = some (.cells (exA v Z) 75)) (hp : 1 ≤ v.rows.length) (hr : ∃ ra rc, Z.rv = .slice ra v.rows.length rc) :
    Calls Try.prog 15 #[.pointer (some ⟨X, 0, none⟩)] w fun e w' => e = .returned (.bool (busyB v)) ∧ w = w' := by
  have NO := hide (none_b hX hr hp)
  have c3 := (ex_cells hX).2.2.2.1
  have hb : Hid (busyB v = (v.told.jb != 0)) := rfl
  generalize v.told.jb = jb at *
  generalize busyB v = bb at *
  clear hX hp hr
  go_enter Try.func15, Try.ntmps15
  go_wp2_with fail
  refine Calls.mono NO.out ?_
  rintro e w' ⟨rfl, rfl⟩
  clear NO
  go_wp2_with fail
  go_ret
  exact ⟨ret_bool hb.out.symm, rfl⟩
theorem Busy_x (h : ExAt w X v Z) (hp : 1 ≤ v.rows.length) :
    Calls Try.prog 15 #[.pointer (some ⟨X, 0, none⟩)] w fun e w' => e = .returned (.bool (busyB v)) ∧ w = w' := Busy_b h.blk hp h.ow.rsl
set_option maxHeartbeats 16000000 in
set_option maxRecDepth 100000 in
set_option linter.unusedSimpArgs false in
set_option linter.unusedVariables false in
theorem isVersion_x (n : Int) (w : World) :
    Calls Try.prog 28 #[.int .i64 n] w fun e w' => e = .returned (.bool (verB n)) ∧ w = w' := by
  have hb : Hid (verB n = (decide (1 ≤ n) && decide (n ≤ 999999))) := by show verB n = _; unfold verB; simp
  generalize verB n = bb at *
  by_cases q1 : 1 ≤ n
  · by_cases q2 : n ≤ 999999
    · go_enter Try.func28, Try.ntmps28
      go_wp2_with fail
      go_ret
      exact ⟨ret_bool (by rw [hb.out]; simp [q1, q2]), rfl⟩
    · go_enter Try.func28, Try.ntmps28
      go_wp2_with fail
      go_ret
      exact ⟨ret_bool (by rw [hb.out]; simp [q1, q2]), rfl⟩
  · go_enter Try.func28, Try.ntmps28
    go_wp2_with fail
    go_ret
    exact ⟨ret_bool (by rw [hb.out, decide_eq_false (show ¬ 1 ≤ n by omega), Bool.false_and]), rfl⟩
end
/-- what a message says of the question -/
def syV (a b c d e : Int) : Array Value := #[.int .i64 a, .int .i64 b, .int .i64 c, .int .i64 d, .int .i64 e]
theorem sy_info : (Try.prog.info? 71).map (·.size) = some 5 := by kernel_rfl
theorem sy_one (a b c d e : Int) : (syV a b c d e).all (·.oneCell') = true := by simp [syV, Value.oneCell']
set_option maxHeartbeats 16000000 in
set_option maxRecDepth 100000 in
set_option linter.unusedSimpArgs false in
set_option linter.unusedVariables false in
theorem saying_x (m : Mg) (w : World) :
    Calls Try.prog 47 #[.agg (mgV m)] w fun e w' => e = .returned (.agg (syV m.fr m.id m.sq m.ver m.prev)) ∧ Kp w w' non := by
  obtain ⟨W0, hW0⟩ : ∃ W0, W0 = w.alloc (.cells (mgV m) 36) := ⟨_, rfl⟩
  obtain ⟨W1, hW1⟩ : ∃ W1, W1 = W0.alloc (.cells (syV 0 0 0 0 0) 71) := ⟨_, rfl⟩
  obtain ⟨B, hB⟩ : ∃ B, B = w.heap.size + 1 := ⟨_, rfl⟩
  have hz : W0.heap.size = B := by rw [hW0, hB]; simp
  have k0 : Kp w W0 non := by rw [hW0]; exact (Kp.refl w non).alloc _
  have k1 : Kp W0 W1 non := by rw [hW1]; exact (Kp.refl W0 non).alloc _
  have m0 : MgAt W0 w.heap.size m := by rw [hW0]; exact MgAt.new w m
  have m1 := m0.keep k1 (fun f => f)
  have b1 : W1.heap[B]? = some (.cells (syV 0 0 0 0 0) 71) := by rw [hW1, ← hz]; exact heap_last _ _
  obtain ⟨W2, hW2⟩ : ∃ W2, W2 = W1.setRow B (syV m.fr m.id m.sq m.ver m.prev) := ⟨_, rfl⟩
  have b2 : W2.heap[B]? = some (.cells (syV m.fr m.id m.sq m.ver m.prev) 71) := by rw [hW2]; exact setRow_heap _ _ _ _ _ _ b1
  have K2 : Hid (Kp w W2 non) := by
    rw [hW2]
    exact (k0.trans k1 (fun _ f => f.elim)).row (Or.inr (by rw [hB]; omega)) _
  have B1 := hide b1
  have B2 := hide b2
  have hh := m1.cells
  have c1 := hh.2.1
  have c3 := hh.2.2.2.1
  have c5 := hh.2.2.2.2.2.1
  have c6 := hh.2.2.2.2.2.2.1
  have c7 := hh.2.2.2.2.2.2.2.1
  clear hh k0 k1 m0 m1 b1 b2 hz
  go_enter Try.func47, Try.ntmps47
  go_upto_region 1 with fail
  rw [← hW0]
  have e1 : (W0.alloc (.cells #[.int .i64 0, .int .i64 0, .int .i64 0, .int .i64 0, .int .i64 0] 71)) = W1 := hW1.symm
  rw [e1, ← hB]
  clear hW0 e1 hW1 hB
  go_wp2_with (refine wpList_stR rfl 71 (.tmp 2) (.tmp 13) rfl B rfl (syV m.fr m.id m.sq m.ver m.prev) (syV 0 0 0 0 0) rfl _ B1.out sy_info rfl (sy_one _ _ _ _ _) ?_)
  rw [← hW2]
  refine bodyPost_ret (v := .agg (syV m.fr m.id m.sq m.ver m.prev)) (res_row1 Try.results47 _ _ W2 B rfl _ B2.out Try.underlying71 sy_info) rfl ⟨rfl, K2.out⟩
end Go.Proofs.Ytbmhllcbkeblfaa.Cn
namespace Go.Proofs.Ytbmhllcbkeblfaa
/-- operation o, where it is wanted, is a call that in every world that meets S answers v and leaves that world -/
def CallsIf (P : Program) (ops : Array Oper) (S : World → Prop) (o : Oper) (v : Value) (a : Act) : Prop :=
  Region.wanted o (yielded ops a.tmps) = true ∧ ∃ f args, ∀ w, S w → (execOp a.eval o).run P w = .ok (.enter f args) w ∧ Calls P f args w fun e w' => e = .returned v ∧ w = w'
section
variable {P : Program} {ops : Array Oper} {Q : Exit → Act → World → Prop} {md : Region.Mode} {S : World → Prop}
theorem CallsIf.same {o : Oper} {v : Value} {a a' : Act} (h : CallsIf P ops S o v a) (he : execOp a'.eval o = execOp a.eval o) (hw : Region.wanted o (yielded ops a'.tmps) = Region.wanted o (yielded ops a.tmps)) : CallsIf P ops S o v a' := by
  obtain ⟨h1, f, args, h2⟩ := h
  exact ⟨hw.trans h1, f, args, fun w hS => by rw [he]; exact h2 w hS⟩
theorem CallsIf.op {i : Nat} {o : Oper} {v : Value} {a : Act} (hi : ops[i]? = some o) (h : CallsIf P ops S o v a) {K : Act → World → Prop} {w : World} (hS : S w) (hK : K (a.put o.dst v) w) : wpOp P ops Q i K a w := by
  obtain ⟨h1, f, args, h2⟩ := h
  obtain ⟨h3, h4⟩ := h2 w hS
  unfold wpOp
  simp only [hi, h1, if_true]
  refine .inl ?_
  unfold Oper.wp
  rw [h3]
  refine Calls.mono h4 ?_
  rintro e w' ⟨rfl, rfl⟩
  exact hK
/-- another operation, apart from it, goes with its value laid ahead as it goes without -/
theorem CallsIf.aside {j : Nat} {oi oj : Oper} {v : Value} (hj : ops[j]? = some oj) (hap : oi.apart ops oj = true) (hsi : ∀ cs b, oi.op ≠ .select cs b) (hsj : ∀ cs b, oj.op ≠ .select cs b)
    (hQ : ∀ c a w, Q (.panic c) (a.put oi.dst v) w → Q (.panic c) a w) {K : Act → World → Prop} {a : Act} {w : World} (hy : CallsIf P ops S oi v a) (h : wpOp P ops Q j K (a.put oi.dst v) w) : wpOp P ops Q j (fun a' w' => CallsIf P ops S oi v a' ∧ K (a'.put oi.dst v) w') a w := by
  obtain ⟨h1, h2, h3⟩ := Oper.apart_spec hap
  have put : ∀ (b : Act), CallsIf P ops S oi v b → ∀ u, CallsIf P ops S oi v (b.put oj.dst u) := fun b hb u => hb.same (execOp_put oi hsi b oj.dst u h3) (wanted_put oi b oj.dst u h3)
  unfold wpOp at *
  simp only [hj, wanted_put oj a oi.dst v h1] at *
  by_cases hw : Region.wanted oj (yielded ops a.tmps) = true
  · simp only [hw, if_true] at h ⊢
    rcases h with h | ⟨hasks, hlets⟩
    · refine .inl ?_
      unfold Oper.wp at *
      rw [execOp_put oj hsj a oi.dst v h1] at h
      generalize (execOp a.eval oj).run P w = r at *
      rcases r with ⟨n, w'⟩ | ⟨x, w'⟩
      · cases n <;> simp only [Oper.upon] at h ⊢
        case value u => exact ⟨put a hy u, by rw [← Act.put_comm a v u h2]; exact h⟩
        case skip => exact ⟨put a hy _, by rw [← Act.put_comm a v undef h2]; exact h⟩
        case defer d => exact ⟨put { a with defers := d :: a.defers } (hy.same rfl rfl) _, by rw [← Act.put_comm _ v undef h2, ← Act.put_defers]; exact h⟩
        case enter f args =>
          refine Calls.mono h fun e w'' he => ?_
          rcases e with u | c | _
          · exact ⟨put a hy u, by rw [← Act.put_comm a v u h2]; exact he⟩
          · exact hQ _ _ _ he
          · exact he
        case row row args => exact Rows.mono h fun u w'' he => ⟨put a hy u, by rw [← Act.put_comm a v u h2]; exact he⟩
      · cases x <;> simp only [Oper.upon] at h ⊢
        case panic u => exact hQ _ _ _ h
    · exact .inr ⟨by unfold Oper.asks at *; rw [execOp_put oj hsj a oi.dst v h1] at hasks; exact hasks, hlets⟩
  · simp only [hw] at h ⊢
    exact ⟨put a hy _, by rw [← Act.put_comm a v undef h2]; exact h⟩
/-- such a call may be taken first -/
theorem wpAnyH_takeCall {i : Nat} {oi : Oper} {v : Value} (hi : ops[i]? = some oi) (hs : Region.noSelect ops = true) (hQ : ∀ c a w, Q (.panic c) (a.put oi.dst v) w → Q (.panic c) a w) :
    ∀ (fuel : Nat) (listed : Array Bool) (a : Act) (w : World), (∀ j oj, ops[j]? = some oj → j ≠ i → listed.getD j true = false → (∀ e ∈ oj.after, Region.binds md e = true → e.on ≠ i) → oi.apart ops oj = true) →
      i ∈ Region.ready md ops listed → CallsIf P ops S oi v a → S w → wpAnyH P md ops Q S fuel (listed.setIfInBounds i true) (a.put oi.dst v) w → wpAnyH P md ops Q S (fuel + 1) listed a w := by
  have hsel := Region.noSelect_spec hs
  intro fuel
  induction fuel with
  | zero =>
    intro listed a w _ hr hy hS H
    refine ⟨fun h => absurd hr (by rw [h]; simp), fun j hj => ?_⟩
    by_cases hji : j = i
    · subst hji
      exact hy.op hi hS ⟨hS, H⟩
    · have h0 := ready_mono hj hji
      rw [H.1] at h0
      cases h0
  | succ fuel ih =>
    intro listed a w hfree hr hy hS H
    refine ⟨fun h => absurd hr (by rw [h]; simp), fun j hj => ?_⟩
    by_cases hji : j = i
    · subst hji
      exact hy.op hi hS ⟨hS, H⟩
    · obtain ⟨hun, oj, hoj, hall⟩ := mem_ready.1 hj
      have hno : ∀ e ∈ oj.after, Region.binds md e = true → e.on ≠ i := fun e he hb heq => by
        have k1 := hall e he hb
        have k0 := (mem_ready.1 hr).1
        rw [heq] at k1
        rcases Nat.lt_or_ge i listed.size with hl | hl
        · simp [hl] at k0 k1
          rw [k0] at k1
          cases k1
        · simp [Array.getElem?_eq_none hl] at k1
      have h2 := CallsIf.aside hoj (hfree j oj hoj hji hun hno) (fun cs b => hsel i oi cs b hi) (fun cs b => hsel j oj cs b hoj) hQ hy (H.2 j (ready_mono hj hji))
      refine wpOp_mono (fun a' w' h3 => ⟨h3.2.1, ih _ a' w' (fun k ok hk hki hu hn => hfree k ok hk hki ?_ hn) (ready_mono hr (Ne.symm hji)) h3.1 h3.2.1 ?_⟩) h2
      · by_cases hjk : j = k
        · subst hjk
          exact hun
        · rw [getD_set_ne true hjk] at hu
          exact hu
      · rw [Array.setIfInBounds_comm _ _ hji]
        exact h3.2.2
theorem wpAnyH_callTake {i : Nat} {oi : Oper} {v : Value} {fuel : Nat} {listed : Array Bool} {a : Act} {w : World} (hi : ops[i]? = some oi) (hs : Region.noSelect ops = true) (hf : Region.free md ops listed i = true) (hr : (Region.ready md ops listed).contains i = true)
    (hQ : ∀ c a w, Q (.panic c) (a.put oi.dst v) w → Q (.panic c) a w) (hw : Region.wanted oi (yielded ops a.tmps) = true) (f : FuncId) (args : Array Value) (he : ∀ w, (execOp a.eval oi).run P w = .ok (.enter f args) w) (hc : ∀ w, S w → Calls P f args w fun e w' => e = .returned v ∧ w = w') (hS : S w)
    (h : wpAnyH P md ops Q S fuel (listed.setIfInBounds i true) (a.put oi.dst v) w) : wpAnyH P md ops Q S (fuel + 1) listed a w :=
  wpAnyH_takeCall hi hs hQ fuel listed a w (Region.free_spec hi hf) (by simpa using hr) ⟨hw, f, args, fun w hS => ⟨he w, hc w hS⟩⟩ hS h
end
end Go.Proofs.Ytbmhllcbkeblfaa
