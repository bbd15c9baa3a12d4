import Derived.Test.YtndfhpfhgdamgaaGreatDoorGDgPlain
import Derived.Test.YtndfhpfhgdamgaaGreatDoorGGcSet
import Derived.Lib.IndexAny
import Derived.Laws.AppendOwnNone
import Derived.Deep.MidRow
namespace Go.Proofs.YtndfhpfhgdamgaaGreatDoor
open Go.RowKit Go.Shelf
theorem toList_data (s : ByteArray) : s.toList = s.data.toList := ByteArray.toList_eq s
theorem ix_str (w : World) (s : ByteArray) (k : Nat) (hk : k < s.size) : (Instr.index 9 (.string s) (.int .i64 (k : Int))).run Tryz.prog w = .ok (.int .u8 (s[k].toNat : Int)) w := by
  rw [run_index_string w 9 s .i64 k Tryz.underlying9, dif_pos ⟨by omega, by omega⟩]
  simp
def allOf (t : List UInt8) (these : ByteArray) : Bool := t.all fun c => these.data.toList.contains c
theorem allOf_snoc (t : ByteArray) (these : ByteArray) (k : Nat) (h : k < t.size) : allOf (t.data.toList.take (k + 1)) these = (allOf (t.data.toList.take k) these && these.data.toList.contains t[k]) := by
  unfold allOf
  rw [List.take_succ_eq_append_getElem (by simpa using h), List.all_append]
  simp
  rfl
theorem allOf_false (t : ByteArray) (these : ByteArray) (k : Nat) (h : k < t.size) (hc : these.data.toList.contains t[k] = false) : allOf t.data.toList these = false := by
  unfold allOf
  rw [List.all_eq_false]
  exact ⟨t[k], by have : t[k] = t.data.toList[k]'(by simpa using h) := rfl; rw [this]; exact List.getElem_mem _, by rw [hc]; simp⟩
set_option maxHeartbeats 1000000 in
set_option maxRecDepth 100000 in
/-- isOf -/
theorem isOf_any (t these : ByteArray) (w : World) (hs : t.size ≤ 9223372036854775807) :
    Calls Tryz.prog 78 #[.string t, .string these] w fun e w' => e = .returned (.bool (allOf t.data.toList these)) ∧ w = w' := by
  go_enter Tryz.func78, Tryz.ntmps78
  go_wp2
  go_loop [8] (fun v => ∃ k : Nat, k ≤ t.size ∧ v = .int .i64 k ∧ Hid (allOf (t.data.toList.take k) these = true)) (fun v => t.size - (intOf v).toNat)
  case atStart => exact ⟨0, Nat.zero_le _, rfl, rfl⟩
  case round =>
    obtain ⟨k, hk, rfl, hA⟩ := hrel
    by_cases hlt : k < t.size
    · have hxs : ∀ w', (Instr.index 9 (.string t) (.int .i64 (k : Int))).run Tryz.prog w' = .ok (.int .u8 (t[k].toNat : Int)) w' := fun w' => ix_str w' t k hlt
      have C := hide (Tryz.strings_IndexByte these t[k].toNat w)
      rw [show ((t[k].toNat : Int)).toNat.toUInt8 = t[k] by simp] at C
      have HC := hide (Lib.contains_iff_indexByte these.data.toList t[k])
      have HS := hide (allOf_snoc t these k hlt)
      have HF := hide (allOf_false t these k hlt)
      generalize t[k] = c at *
      by_cases hi : (0 : Int) ≤ Lib.indexByte these.data.toList c
      · have hi' : ¬ Lib.indexByte these.data.toList c < 0 := by omega
        go_wp2_with (go_at_call 91; refine Calls.mono C.out ?_; rintro e w' ⟨rfl, rfl⟩)
        go_round
        case rel => exact ⟨k + 1, by omega, by go_num, by rw [HS.out, hA.out, HC.out, decide_eq_true hi]; rfl⟩
        case measure => simp [intOf]; omega
      · have hi' : Lib.indexByte these.data.toList c < 0 := by omega
        go_wp2_with (go_at_call 91; refine Calls.mono C.out ?_; rintro e w' ⟨rfl, rfl⟩)
        go_ret
        exact ⟨ret_bool (HF.out (by rw [HC.out]; exact decide_eq_false (by omega))).symm, rfl⟩
    · obtain rfl : k = t.size := by omega
      have hA' := hA.out
      rw [List.take_of_length_le (by simp)] at hA'
      have HA := hide hA'
      clear hA' hA
      go_wp2
      go_ret
      exact ⟨ret_bool HA.out.symm, rfl⟩
def stL : ByteArray := ⟨#[97, 98, 99, 100, 101, 102, 103, 104, 105, 106, 107, 108, 109, 110, 111, 112, 113, 114, 115, 116, 117, 118, 119, 120, 121, 122, 48, 49, 50, 51, 52, 53, 54, 55, 56, 57, 45]⟩
def ltL : ByteArray := ⟨#[97, 98, 99, 100, 101, 102, 103, 104, 105, 106, 107, 108, 109, 110, 111, 112, 113, 114, 115, 116, 117, 118, 119, 120, 121, 122]⟩
def isSt (t : List UInt8) : Bool := !t.isEmpty && allOf (t.take 1) ltL && allOf t stL
theorem take1_data (t : ByteArray) : (t.extract 0 1).data.toList = t.data.toList.take 1 := by rw [Lib.extract_data]; simp
set_option maxHeartbeats 1000000 in
set_option maxRecDepth 100000 in
theorem isStore_any (t : ByteArray) (w : World) (hs : t.size ≤ 9223372036854775807) :
    Calls Tryz.prog 57 #[.string t] w fun e w' => e = .returned (.bool (decide (t.size ≤ 40) && isSt t.data.toList)) ∧ Below w.heap.size w w' := by
  by_cases h0 : t.size = 0
  · have e1 : isSt t.data.toList = false := by
      have : t.data.toList = [] := List.length_eq_zero_iff.1 (by rw [size_data]; exact h0)
      rw [this]; rfl
    rw [e1, Bool.and_false]
    have e2 : t = ⟨#[]⟩ := ByteArray.ext (Array.toList_inj.1 (by rw [List.length_eq_zero_iff.1 (show t.data.toList.length = 0 by rw [size_data]; exact h0)]))
    subst e2
    go_enter Tryz.func57, Tryz.ntmps57
    go_wp2_with fail
    go_ret
    exact ⟨rfl, Below.refl _ _⟩
  · have hne : ¬ t = ⟨#[]⟩ := fun e => h0 (by rw [e]; rfl)
    have hne2 : t.toList.isEmpty = false := by
      rw [toList_data]
      cases hd : t.data.toList with
      | nil => exact absurd (by rw [← size_data, hd]; rfl) h0
      | cons a b => rfl
    have hsz : 1 ≤ t.size := by omega
    have hsz' : (1 : Int) ≤ (t.size : Int) := by omega
    by_cases h40 : 40 < t.size
    · rw [decide_eq_false (by omega), Bool.false_and]
      have h40' : ¬ (t.size : Int) ≤ 40 := by omega
      have h40'' : (40 : Int) < (t.size : Int) := by omega
      go_enter Tryz.func57, Tryz.ntmps57
      go_wp2_with fail
      go_ret
      exact ⟨rfl, Below.refl _ _⟩
    have h40' : (t.size : Int) ≤ 40 := by omega
    have h40'' : ¬ (40 : Int) < (t.size : Int) := by omega
    rw [decide_eq_true (by omega : t.size ≤ 40), Bool.true_and]
    have C1 := hide (fun w' => isOf_any (t.extract 0 1) ltL w' (by rw [ByteArray.size_extract]; omega))
    have C2 := hide (fun w' => isOf_any t stL w' hs)
    rw [take1_data] at C1
    have HE : Hid (isSt t.data.toList = (allOf (t.data.toList.take 1) ltL && allOf t.data.toList stL)) := by
      show _ = _
      unfold isSt
      have : t.data.toList.isEmpty = false := by
        cases hd : t.data.toList with
        | nil => exact absurd (by rw [← size_data, hd]; rfl) h0
        | cons a b => rfl
      rw [this]; rfl
    obtain ⟨E, hE⟩ : ∃ E, E = isSt t.data.toList := ⟨_, rfl⟩
    rw [← hE] at HE ⊢
    unfold ltL at C1 HE
    unfold stL at C2 HE
    generalize allOf (t.data.toList.take 1) _ = A at *
    generalize allOf t.data.toList _ = B at *
    clear hE h0
    cases hA : A with
    | false =>
      rw [hA] at C1 HE
      go_enter Tryz.func57, Tryz.ntmps57
      go_wp2_with fail
      refine Calls.mono (C1.out _) ?_
      rintro e w1 ⟨rfl, rfl⟩
      go_wp2_with fail
      go_ret
      exact ⟨ret_bool HE.out.symm, Below.refl _ _⟩
    | true =>
      rw [hA] at C1 HE
      go_enter Tryz.func57, Tryz.ntmps57
      go_wp2_with fail
      refine Calls.mono (C1.out _) ?_
      rintro e w1 ⟨rfl, rfl⟩
      go_wp2_with fail
      refine Calls.mono (C2.out _) ?_
      rintro e w1 ⟨rfl, rfl⟩
      go_wp2_with fail
      go_ret
      exact ⟨ret_bool HE.out.symm, Below.refl _ _⟩
/-- a byte of a name -/
def okc (n : Nat) : Bool := decide (97 ≤ n) && decide (n ≤ 122) || decide (48 ≤ n) && decide (n ≤ 57) || decide (n = 45)
set_option maxRecDepth 100000 in
theorem okc_st (c : UInt8) : stL.data.toList.contains c = okc c.toNat := by
  have h : ∀ n : Fin 256, stL.data.toList.contains (UInt8.ofNat n.val) = okc n.val   := by decide +kernel
  have := h ⟨c.toNat, c.toNat_lt⟩
  simpa using this
set_option maxRecDepth 100000 in
theorem okc_lt (c : UInt8) : ltL.data.toList.contains c = (decide (97 ≤ c.toNat) && decide (c.toNat ≤ 122)) := by
  have h : ∀ n : Fin 256, ltL.data.toList.contains (UInt8.ofNat n.val) = (decide (97 ≤ n.val) && decide (n.val ≤ 122))   := by decide +kernel
  have := h ⟨c.toNat, c.toNat_lt⟩
  simpa using this
/-- may it be a store's name? -/
def nmP (t : ByteArray) : Bool := decide (t.size ≤ 40) && isSt t.data.toList
theorem allOf_take (t : ByteArray) (k : Nat) (h : k < t.size) : allOf (t.data.toList.take (k + 1)) stL = (allOf (t.data.toList.take k) stL && okc t[k].toNat) := by
  rw [allOf_snoc t stL k h, okc_st]
theorem allOf_one (t : ByteArray) (h : 0 < t.size) : allOf (t.data.toList.take 1) ltL = (decide (97 ≤ t[0].toNat) && decide (t[0].toNat ≤ 122)) := by
  rw [show (1 : Nat) = 0 + 1 from rfl, allOf_snoc t ltL 0 h, okc_lt]
  simp [allOf]
theorem nmP_first (t : ByteArray) (h : 0 < t.size) (hb : (decide (97 ≤ t[0].toNat) && decide (t[0].toNat ≤ 122)) = false) : nmP t = false := by
  unfold nmP isSt
  rw [allOf_one t h, hb]
  simp
theorem nmP_byte (t : ByteArray) (k : Nat) (h : k < t.size) (hb : okc t[k].toNat = false) : nmP t = false := by
  unfold nmP isSt
  rw [allOf_false t stL k h (by rw [okc_st]; exact hb)]
  simp
theorem nmP_good (t : ByteArray) (h : 0 < t.size) (h40 : t.size ≤ 40) (hb : (decide (97 ≤ t[0].toNat) && decide (t[0].toNat ≤ 122)) = true) (ha : allOf t.data.toList stL = true) : nmP t = true := by
  unfold nmP isSt
  rw [allOf_one t h, hb, ha, decide_eq_true h40]
  cases hd : t.data.toList with
  | nil => have := size_data t; rw [hd] at this; simp at this; omega
  | cons a b => rfl
end Go.Proofs.YtndfhpfhgdamgaaGreatDoor
namespace Go.Proofs.YtndfhpfhgdamgaaGreatDoor
open Go.RowKit
open Classical in
noncomputable def dlB (ns : List ND) : Bool := decide (Dealt ns)
open Classical in
theorem dlB_true {ns : List ND} (h : Dealt ns) : dlB ns = true := by unfold dlB; exact decide_eq_true h
open Classical in
theorem dlB_false {ns : List ND} (h : ¬ Dealt ns) : dlB ns = false := by unfold dlB; exact decide_eq_false h
/-- how many partitions there are -/
def ptN (ns : List ND) : Nat := (flat ns).length
/-- the error that a definition has -/
noncomputable def errP (st : ByteArray) (x : Nat → Int) (ns : List ND) : Int :=
  if nmP st = false then 63 else if sfP x = false then 64 else if nfP ns = false then 65 else if dlB ns = false then 66 else if (kpN ns : Int) < x 0 then 67 else if 512 < (ptN ns : Int) * x 0 * x 2 then 3 else 0
theorem sfP_lim {x : Nat → Int} (h : sfP x = true) (i : Nat) (hi : i < 21) : loS i ≤ x i ∧ x i ≤ hiS i := by
  unfold sfP at h
  rw [Bool.and_eq_true] at h
  have := List.all_eq_true.1 h.1 i (List.mem_range.2 hi)
  unfold sfAt at this
  simpa using this
theorem nfP_len {ns : List ND} (h : nfP ns = true) : 1 ≤ ns.length ∧ ns.length ≤ 16 := by
  unfold nfP at h
  simp at h
  omega
theorem files_in {a b c : Int} (h1 : 0 ≤ a) (h2 : a ≤ 64) (h3 : 1 ≤ b) (h4 : b ≤ 16) (h5 : 1 ≤ c) (h6 : c ≤ 16) : 0 ≤ a * b ∧ a * b ≤ 1024 ∧ 0 ≤ a * b * c ∧ a * b * c ≤ 16384 := by
  have k1 : 0 ≤ a * b := Int.mul_nonneg h1 (by omega)
  have k2 : a * b ≤ 64 * 16 := Int.mul_le_mul h2 h4 (by omega) (by omega)
  have k3 : 0 ≤ a * b * c := Int.mul_nonneg k1 (by omega)
  have k4 : a * b * c ≤ 1024 * 16 := Int.mul_le_mul (by omega) h6 (by omega) (by omega)
  exact ⟨k1, by omega, k3, by omega⟩
/-- what nodesOf answers -/
structure NdOf (st : ByteArray) (x : Nat → Int) (ns : List ND) (w : World) (e : Ending) (w' : World) : Prop where
  out : ∃ v, e = .returned (.tuple #[v, .int .i64 (errP st x ns)]) ∧ (errP st x ns = 0 → Dealt ns ∧ ∃ g, v = .slice (some ⟨g, 0, none⟩) (ptN ns) (ptN ns) ∧ w'.heap[g]? = some (.cells (outL ns).toArray 3 (0, 0)) ∧ w.heap.size ≤ g) ∧ (errP st x ns ≠ 0 → v = .slice none 0 0)
  bel : Below w.heap.size w w'
theorem NdOf.bad {st : ByteArray} {x : Nat → Int} {ns : List ND} {w w' : World} {e : Ending} {k : Int} (he : errP st x ns = k) (hk : k ≠ 0) (h : e = .returned (.tuple #[.slice none 0 0, .int .i64 k])) (hb : Below w.heap.size w w') : NdOf st x ns w e w' :=
  ⟨⟨_, by rw [he]; exact h, fun h0 => absurd (he.symm.trans h0) hk, fun _ => rfl⟩, hb⟩
theorem infoCl : (Tryz.prog.info? 24).map (·.size) = some 23 := by kernel_rfl
theorem run_loadCl (w : World) (b : Nat) (st : ByteArray) (x : Nat → Int) (nv : Value) (h : ClAt w b st x nv) : (Instr.loadAt 24 (.pointer (some ⟨b, 0, none⟩))).run Tryz.prog w = .ok (.agg (clA st x nv)) w := by
  simp only [Instr.loadAt, Instr.sureAddr, Sem.run_bind, Sem.run_pure, Result.andThen]
  exact run_loadVar_row _ _ 24 24 (clA st x nv) (0, 0) _ h Tryz.underlying24 rfl infoCl
theorem wpList_loadCl {w : World} {ops : Array Oper} {rest : List Oper} {o : Oper} {a : Act} {Q : Exit → Act → World → Prop} (hgd : o.guard = none) (p : Operand) (ho : o.op = .load 24 p) (b : Nat) (st : ByteArray) (x : Nat → Int) (nv : Value) (hx : a.eval p = .pointer (some ⟨b, 0, none⟩)) (hO : ClAt w b st x nv)
    (h : wpList Tryz.prog ops Q rest (a.put o.dst (.agg (clA st x nv))) w) : wpList Tryz.prog ops Q (o :: rest) a w := by
  refine wpList_plain hgd fun K hK => ?_
  unfold Oper.wp execOp
  simp only [ho, Sem.run_bind, Sem.run_pure, Result.andThen_ok, hx, run_loadCl w b st x nv hO]
  exact hK _ _ h
set_option maxHeartbeats 8000000 in
set_option maxRecDepth 100000 in
set_option linter.unusedSimpArgs false in
set_option linter.unusedVariables false in
theorem nodesOf_any (N : Nat) (w : World) (st : ByteArray) (x : Nat → Int) (ao : Option Addr) (b o cap : Nat) (pv : Nat → Value) (ns : List ND) (h : NsAt N w ao b o pv ns) (hN : N ≤ w.heap.size) (hs : st.size ≤ 9223372036854775807) :
    Calls Tryz.prog 31 #[.agg (clA st x (.slice ao ns.length cap))] w fun e w' => NdOf st x ns w e w' := by
  obtain ⟨W0, hW0⟩ : ∃ W0, W0 = w.alloc (.cells (clA st x (.slice ao ns.length cap)) 24) := ⟨_, rfl⟩
  have C0 : Hid (ClAt W0 w.heap.size st x (.slice ao ns.length cap)) := by rw [hW0]; exact new_cl _ _ _ _
  have B0 : Hid (Below w.heap.size w W0) := by rw [hW0]; exact (Below.refl _ _).alloc (Nat.le_refl _) _
  have HN := hide h
  clear h
  have IS := hide (isStore_any st W0 hs)
  have c0 := C0.out.st
  have hdef : Hid (errP st x ns = if nmP st = false then 63 else if sfP x = false then 64 else if nfP ns = false then 65 else if dlB ns = false then 66 else if (kpN ns : Int) < x 0 then 67 else if 512 < (ptN ns : Int) * x 0 * x 2 then 3 else 0) := rfl
  have ISE : Hid (nmP st = (decide (st.size ≤ 40) && isSt st.data.toList)) := rfl
  rw [← ISE.out] at IS
  clear ISE
  go_enter Tryz.func31, Tryz.ntmps31
  go_upto_region 1 with fail
  rw [← hW0]
  clear hW0
  go_wp2_with fail
  refine Calls.mono IS.out ?_
  rintro e W1 ⟨rfl, hb⟩
  have C1 := hide (C0.out.below hb)
  have B1 := hide (B0.out.trans (hb.mono B0.out.size))
  clear hb C0 B0 IS c0
  cases h1 : nmP st with
  | false =>
    have HE := hide (show errP st x ns = 63 by rw [hdef.out, h1]; rfl)
    go_wp2_with fail
    go_ret2
    exact NdOf.bad HE.out (by omega) rfl B1.out
  | true =>
    have SF := hide (settingsFit_any W1 st x (.slice ao ns.length cap))
    go_wp2_with (refine wpList_loadCl rfl (.tmp 1) rfl w.heap.size st x _ rfl C1.out ?_)
    refine Calls.mono SF.out ?_
    rintro e W2 ⟨rfl, hb⟩
    have C2 := hide (C1.out.below hb)
    have B2 := hide (B1.out.trans (hb.mono B1.out.size))
    clear hb C1 B1 SF
    cases h2 : sfP x with
    | false =>
      have HE := hide (show errP st x ns = 64 by rw [hdef.out, h1, h2]; rfl)
      go_wp2_with fail
      go_ret2
      exact NdOf.bad HE.out (by omega) rfl B2.out
    | true =>
      have l0 := sfP_lim h2 0 (by omega)
      have l2 := sfP_lim h2 2 (by omega)
      have L0 : 1 ≤ x 0 ∧ x 0 ≤ 16 := l0
      have L2 : 1 ≤ x 2 ∧ x 2 ≤ 16 := l2
      clear l0 l2
      have NF := hide (nodesFit_any N W2 ao b o cap pv ns (HN.out.below (B2.out.mono hN)) (Nat.le_trans hN B2.out.size))
      have nv2 := C2.out.nv
      go_wp2_with fail
      refine Calls.mono NF.out ?_
      rintro e W3 ⟨rfl, hb⟩
      have C3 := hide (C2.out.below hb)
      have B3 := hide (B2.out.trans (hb.mono B2.out.size))
      clear hb C2 B2 NF nv2
      cases h3 : nfP ns with
      | false =>
        have HE := hide (show errP st x ns = 65 by rw [hdef.out, h1, h2, h3]; rfl)
        go_wp2_with fail
        go_ret2
        exact NdOf.bad HE.out (by omega) rfl B3.out
      | true =>
        have n16 := nfP_len h3
        have SP := hide (spread_any N W3 ao b o cap pv ns (HN.out.below (B3.out.mono hN)) (Nat.le_trans hN B3.out.size) n16.2)
        have nv3 := C3.out.nv
        go_wp2_with fail
        refine Calls.mono SP.out ?_
        intro e W4 hsp
        have C4 := hide (C3.out.below hsp.bel)
        have B4 := hide (B3.out.trans (hsp.bel.mono B3.out.size))
        by_cases h4 : Dealt ns
        case neg =>
          have he := hsp.no h4
          subst he
          have HE := hide (show errP st x ns = 66 by rw [hdef.out, h1, h2, h3, dlB_false h4]; rfl)
          clear hsp SP C3 B3 nv3
          go_wp2_with fail
          go_ret2
          exact NdOf.bad HE.out (by omega) rfl B4.out
        case pos =>
          obtain ⟨g, he, hg, hgs⟩ := hsp.yes h4
          subst he
          have G4 := hide hg
          have GS : Hid (w.heap.size ≤ g) := Nat.le_trans B3.out.size hgs
          clear hsp SP C3 B3 nv3 hg hgs
          have p2 := h4.p2
          have hp : (flat ns).length = ptN ns := rfl
          rw [hp] at p2 ⊢
          clear hp
          have hkl := kpN_le ns
          have KE := hide (keeping_any N W4.drew ao b o cap pv ns (HN.out.below (B4.out.drew.mono hN)) (Nat.le_trans hN B4.out.size))
          have D4 := dlB_true h4
          have hdef2 : Hid (errP st x ns = if (kpN ns : Int) < x 0 then 67 else if 512 < (ptN ns : Int) * x 0 * x 2 then 3 else 0) := by
            show errP st x ns = _
            rw [hdef.out, h1, h2, h3, D4]
            rfl
          have CC : Hid (∀ Y, Below W4.heap.size W4 Y → Y.cell? ⟨w.heap.size, 1, none⟩ = some (.int .i64 (x 0)) ∧ Y.cell? ⟨w.heap.size, 22, none⟩ = some (.slice ao ns.length cap)) := fun Y hY => ⟨(C4.out.below hY).x0, (C4.out.below hY).nv⟩
          clear hdef D4
          go_wp2_with fail
          refine wp_region_held_drew (S := fun Y => Below W4.heap.size W4 Y) (by kernel_rfl) ((Below.refl _ _).drew) (fun hHeld => ?_)
          refine wpAnyH_take (i := 0) (v := (.pointer (some ⟨w.heap.size, 1, none⟩))) rfl (by kernel_rfl) (by kernel_rfl) (by kernel_rfl) (fun _ _ _ h => h) (Or.inl ⟨by rfl, ?_⟩) (by assumption) ?_
          · intro w' hSw
            (try dsimp only at hSw)
            go_simp
          (try simp only [Act.put, List.setIfInBounds_toArray, List.set_cons_zero, List.set_cons_succ])
          refine wpAnyH_take (i := 1) (v := (.int .i64 (x 0))) rfl (by kernel_rfl) (by kernel_rfl) (by kernel_rfl) (fun _ _ _ h => h) (Or.inl ⟨by rfl, ?_⟩) (by assumption) ?_
          · intro w' hSw
            (try dsimp only at hSw)
            (obtain ⟨y1, y2⟩ := CC.out _ hSw; go_simp)
          (try simp only [Act.put, List.setIfInBounds_toArray, List.set_cons_zero, List.set_cons_succ])
          refine wpAnyH_take (i := 2) (v := (.pointer (some ⟨w.heap.size, 22, none⟩))) rfl (by kernel_rfl) (by kernel_rfl) (by kernel_rfl) (fun _ _ _ h => h) (Or.inl ⟨by rfl, ?_⟩) (by assumption) ?_
          · intro w' hSw
            (try dsimp only at hSw)
            go_simp
          (try simp only [Act.put, List.setIfInBounds_toArray, List.set_cons_zero, List.set_cons_succ])
          refine wpAnyH_take (i := 3) (v := (.slice ao ns.length cap)) rfl (by kernel_rfl) (by kernel_rfl) (by kernel_rfl) (fun _ _ _ h => h) (Or.inl ⟨by rfl, ?_⟩) (by assumption) ?_
          · intro w' hSw
            (try dsimp only at hSw)
            (obtain ⟨y1, y2⟩ := CC.out _ hSw; go_simp)
          (try simp only [Act.put, List.setIfInBounds_toArray, List.set_cons_zero, List.set_cons_succ])
          refine wpAnyH_ready (rs := [4]) (by kernel_rfl) (by simp) ?_
          refine AllReadyH.cons rfl (fun K hK => ?_) AllReadyH.nil
          go_simp
          refine Calls.mono KE.out ?_
          rintro e W5 ⟨rfl, hb⟩
          have B5 : Hid (Below W4.heap.size W4 W5) := ⟨hb.os, hb.tape, hb.output, hb.size, hb.block⟩
          clear hb KE
          refine hK.out _ _ (B5.out) (fun hHeld => ?_)
          clear hK
          (try simp only [Act.put, List.setIfInBounds_toArray, List.set_cons_zero, List.set_cons_succ])
          refine wpAnyH_take (i := 5) (v := (.bool (decide ((kpN ns : Int) < x 0)))) rfl (by kernel_rfl) (by kernel_rfl) (by kernel_rfl) (fun _ _ _ h => h) (Or.inl ⟨by rfl, ?_⟩) (by assumption) ?_
          · intro w' hSw
            (try dsimp only at hSw)
            go_simp
          (try simp only [Act.put, List.setIfInBounds_toArray, List.set_cons_zero, List.set_cons_succ])
          refine wpAnyH_ready (rs := [6]) (by kernel_rfl) (by simp) ?_
          refine AllReadyH.cons rfl (fun K hK => ?_) AllReadyH.nil
          go_simp
          refine hK.out _ _ (B5.out) (fun hHeld => ?_)
          clear hK
          (try simp only [Act.put, List.setIfInBounds_toArray, List.set_cons_zero, List.set_cons_succ])
          refine wpAnyH_done (by kernel_rfl) ?_ _
          clear hHeld CC
          have C5 := hide (C4.out.below B5.out)
          have B6 := hide (B4.out.trans (B5.out.mono B4.out.size))
          have G5 : Hid (W5.heap[g]? = some (.cells (outL ns).toArray 3 (0, 0))) := (B5.out.block _ (blk_lt G4.out)).trans G4.out
          clear C4 G4 B4
          by_cases h5 : (kpN ns : Int) < x 0
          case pos =>
            have h5' : decide ((kpN ns : Int) < x 0) = true := decide_eq_true h5
            have HE := hide (show errP st x ns = 67 by rw [hdef2.out, if_pos h5])
            go_wp2_with fail
            go_ret2
            exact NdOf.bad HE.out (by omega) rfl B6.out
          case neg =>
            have h5' : decide ((kpN ns : Int) < x 0) = false := decide_eq_false h5
            obtain ⟨f1, f2, f3, f4⟩ := files_in (a := (ptN ns : Int)) (b := x 0) (c := x 2) (by omega) (by omega) L0.1 L0.2 L2.1 L2.2
            have m1 := wrap_in (x := (ptN ns : Int) * x 0) (by omega) (by omega)
            have m2 := wrap_in (x := (ptN ns : Int) * x 0 * x 2) (by omega) (by omega)
            have z0 := C5.out.x0
            have z2 := C5.out.x2
            by_cases h6 : 512 < (ptN ns : Int) * x 0 * x 2
            case pos =>
              have HE := hide (show errP st x ns = 3 by rw [hdef2.out, if_neg h5, if_pos h6])
              clear hdef2
              go_wp2_with fail
              go_ret2
              exact NdOf.bad HE.out (by omega) rfl B6.out
            case neg =>
              have HE := hide (show errP st x ns = 0 by rw [hdef2.out, if_neg h5, if_neg h6])
              clear hdef2
              go_wp2_with fail
              go_ret2
              exact ⟨⟨_, by rw [HE.out]; rfl, fun _ => ⟨h4, g, rfl, G5.out, GS.out⟩, fun h => absurd HE.out h⟩, B6.out⟩
end Go.Proofs.YtndfhpfhgdamgaaGreatDoor
namespace Go.Proofs.YtndfhpfhgdamgaaGreatDoor
open Go.RowKit
/-- the settings, as an array -/
def vA (x : Nat → Int) : Array Value := #[.int .i64 (x 0), .int .i64 (x 1), .int .i64 (x 2), .int .i64 (x 3), .int .i64 (x 4), .int .i64 (x 5), .int .i64 (x 6), .int .i64 (x 7), .int .i64 (x 8), .int .i64 (x 9), .int .i64 (x 10), .int .i64 (x 11), .int .i64 (x 12), .int .i64 (x 13), .int .i64 (x 14), .int .i64 (x 15), .int .i64 (x 16), .int .i64 (x 17), .int .i64 (x 18), .int .i64 (x 19), .int .i64 (x 20)]
theorem vA_at (x : Nat → Int) (i : Nat) (h : i < 21) : (vA x)[i]? = some (.int .i64 (x i)) := by
  have : i = 0 ∨ i = 1 ∨ i = 2 ∨ i = 3 ∨ i = 4 ∨ i = 5 ∨ i = 6 ∨ i = 7 ∨ i = 8 ∨ i = 9 ∨ i = 10 ∨ i = 11 ∨ i = 12 ∨ i = 13 ∨ i = 14 ∨ i = 15 ∨ i = 16 ∨ i = 17 ∨ i = 18 ∨ i = 19 ∨ i = 20 := by omega
  rcases this with rfl | rfl | rfl | rfl | rfl | rfl | rfl | rfl | rfl | rfl | rfl | rfl | rfl | rfl | rfl | rfl | rfl | rfl | rfl | rfl | rfl <;> rfl
theorem vA_one (x : Nat → Int) : (vA x).all (·.oneCell') = true := by simp [vA, Value.oneCell']
def z21 : Array Value := #[.int .i64 0, .int .i64 0, .int .i64 0, .int .i64 0, .int .i64 0, .int .i64 0, .int .i64 0, .int .i64 0, .int .i64 0, .int .i64 0, .int .i64 0, .int .i64 0, .int .i64 0, .int .i64 0, .int .i64 0, .int .i64 0, .int .i64 0, .int .i64 0, .int .i64 0, .int .i64 0, .int .i64 0]
end Go.Proofs.YtndfhpfhgdamgaaGreatDoor
namespace Go.Proofs.YtndfhpfhgdamgaaGreatDoor
open Go.RowKit
theorem lo_one {i : Nat} (h : i < 20) : loS i = 1 := by
  have : i = 0 ∨ i = 1 ∨ i = 2 ∨ i = 3 ∨ i = 4 ∨ i = 5 ∨ i = 6 ∨ i = 7 ∨ i = 8 ∨ i = 9 ∨ i = 10 ∨ i = 11 ∨ i = 12 ∨ i = 13 ∨ i = 14 ∨ i = 15 ∨ i = 16 ∨ i = 17 ∨ i = 18 ∨ i = 19 := by omega
  rcases this with rfl | rfl | rfl | rfl | rfl | rfl | rfl | rfl | rfl | rfl | rfl | rfl | rfl | rfl | rfl | rfl | rfl | rfl | rfl | rfl <;> rfl
theorem lo_home : loS 20 = 0 := rfl
/-- what a reader of a definition has, behind its box -/
structure Boxed (N : Nat) (w W0 : World) (st : ByteArray) (x : Nat → Int) (ao : Option Addr) (b o cap : Nat) (pv : Nat → Value) (ns : List ND) : Prop where
  cl : ClAt W0 w.heap.size st x (.slice ao ns.length cap)
  nd : NsAt N W0 ao b o pv ns
  bel : Below w.heap.size w W0
theorem boxed {N : Nat} {w : World} (st : ByteArray) (x : Nat → Int) {ao : Option Addr} {b o : Nat} (cap : Nat) {pv : Nat → Value} {ns : List ND} (h : NsAt N w ao b o pv ns) (hN : N ≤ w.heap.size) : ∃ W0, W0 = w.alloc (.cells (clA st x (.slice ao ns.length cap)) 24) ∧ Boxed N w W0 st x ao b o cap pv ns :=
  ⟨_, rfl, new_cl _ _ _ _, h.below ((Below.refl _ _).alloc hN _), (Below.refl _ _).alloc (Nat.le_refl _) _⟩
end Go.Proofs.YtndfhpfhgdamgaaGreatDoor
namespace Go.Proofs.YtndfhpfhgdamgaaGreatDoor
open Go.RowKit
theorem cntI_le (k : Int) (l : List Int) : cntI k l ≤ l.length := by
  induction l with
  | nil => exact Nat.le_refl _
  | cons x r ih =>
    simp only [cntI, List.length_cons]
    split <;> omega
theorem cntI_take (k : Int) (l : List Int) (q : Nat) (h : q < l.length) : cntI k (l.take (q + 1)) = cntI k (l.take q) + (if l[q] = k then 1 else 0) := by
  rw [List.take_succ_eq_append_getElem h, cntI_append]
  simp [cntI]
theorem cnt_next (k : Int) (ns : List ND) (i : Nat) (h : i < ns.length) : cntI k (flat (ns.take (i + 1))) = cntI k (flat (ns.take i)) + cntI k ns[i].ps := by
  rw [List.take_succ_eq_append_getElem h, flat_append, flat_one, cntI_append]
/-- a definition's readers in a row: all they need of a world -/
structure Stand (N : Nat) (c : Nat) (W : World) (st : ByteArray) (x : Nat → Int) (ao : Option Addr) (b o cap : Nat) (pv : Nat → Value) (ns : List ND) : Prop where
  cl : ClAt W c st x (.slice ao ns.length cap)
  nd : NsAt N W ao b o pv ns
  le : N ≤ W.heap.size
theorem Stand.below {N c : Nat} {W W' : World} {st : ByteArray} {x : Nat → Int} {ao : Option Addr} {b o cap : Nat} {pv : Nat → Value} {ns : List ND} (h : Stand N c W st x ao b o cap pv ns) (hb : Below W.heap.size W W') : Stand N c W' st x ao b o cap pv ns :=
  ⟨h.cl.below hb, h.nd.below (hb.mono h.le), Nat.le_trans h.le hb.size⟩
theorem Boxed.stand {N : Nat} {w W0 : World} {st : ByteArray} {x : Nat → Int} {ao : Option Addr} {b o cap : Nat} {pv : Nat → Value} {ns : List ND} (h : Boxed N w W0 st x ao b o cap pv ns) (hN : N ≤ w.heap.size) : Stand N w.heap.size W0 st x ao b o cap pv ns := ⟨h.cl, h.nd, Nat.le_trans hN h.bel.size⟩
theorem dlB_parts {ns : List ND} (h1 : 1 ≤ (flat ns).length) (h2 : (flat ns).length ≤ 64) (h3 : ∀ i : Nat, i < (flat ns).length → cntI (i : Int) (flat ns) = 1) (h4 : ∀ i (h : i < ns.length), Rising ns[i].ps) : dlB ns = true :=
  dlB_true ⟨h1, h2, h3, fun n hn => by obtain ⟨q, hq, rfl⟩ := List.getElem_of_mem hn; exact h4 q hq⟩
end Go.Proofs.YtndfhpfhgdamgaaGreatDoor
namespace Go.Proofs.YtndfhpfhgdamgaaGreatDoor
open Go.RowKit
theorem exec_loadCl {ρ : Operand → Value} {o : Oper} {w : World} {b : Nat} {st : ByteArray} {x : Nat → Int} {nv : Value} (p : Operand) (ho : o.op = .load 24 p) (hx : ρ p = .pointer (some ⟨b, 0, none⟩)) (hO : ClAt w b st x nv) : (execOp ρ o).run Tryz.prog w = .ok (.value (.agg (clA st x nv))) w := by
  unfold execOp
  simp only [ho, hx, Sem.run_bind, run_loadCl w b st x nv hO, Result.andThen_ok, Sem.run_pure]
set_option maxHeartbeats 8000000 in
set_option maxRecDepth 100000 in
set_option linter.unusedSimpArgs false in
set_option linter.unusedVariables false in
/-- the program's Check -/
theorem check_any (N : Nat) (w : World) (st : ByteArray) (x : Nat → Int) (ao : Option Addr) (b o cap : Nat) (pv : Nat → Value) (ns : List ND) (h : NsAt N w ao b o pv ns) (hN : N ≤ w.heap.size) (hs : st.size ≤ 9223372036854775807) :
    Calls Tryz.prog 9 #[.agg (clA st x (.slice ao ns.length cap))] w fun e w' => e = .returned (.int .i64 (errP st x ns)) ∧ Below w.heap.size w w' := by
  obtain ⟨W0, hW0, hX⟩ := boxed st x cap h hN
  have HX := hide (hX.stand hN)
  have B0 := hide hX.bel
  clear hX h
  have NO := hide (nodesOf_any N W0 st x ao b o cap pv ns HX.out.nd HX.out.le hs)
  go_enter Tryz.func9, Tryz.ntmps9
  go_upto_region 1 with fail
  rw [← hW0]
  clear hW0
  go_wp2_with (refine wpList_loadCl rfl (.tmp 1) rfl w.heap.size st x _ rfl HX.out.cl ?_)
  refine Calls.mono NO.out ?_
  intro e W1 hn
  obtain ⟨v, rfl, _, _⟩ := hn.out
  have B1 := hide (B0.out.trans (hn.bel.mono B0.out.size))
  clear hn NO HX
  go_wp2_with fail
  go_ret
  exact ⟨rfl, B1.out⟩
end Go.Proofs.YtndfhpfhgdamgaaGreatDoor
namespace Go.Proofs.YtndfhpfhgdamgaaGreatDoor
open Go.RowKit
/-- ints, as cells -/
def ints (L : List Int) : List Value := L.map fun n : Int => .int .i64 n
theorem ints_len (L : List Int) : (ints L).length = L.length := by simp [ints]
theorem ints_at (L : List Int) (q : Nat) : (ints L)[q]? = (L[q]?).map fun n : Int => .int .i64 n := by simp [ints]
theorem ints_one (L : List Int) : ∀ u ∈ ints L, u.oneCell' = true := by
  intro u hu
  obtain ⟨n, _, rfl⟩ := List.mem_map.1 hu
  rfl
/-- nodes, as cells -/
def ndc (zs : List (Int × Value)) : List Value := zs.flatMap fun y => [.int .i64 y.1, y.2]
theorem ndc_len (zs : List (Int × Value)) : (ndc zs).length = zs.length * 2 := by
  induction zs with
  | nil => rfl
  | cons a r ih =>
    unfold ndc at *
    simp only [List.flatMap_cons, List.length_append, List.length_cons, List.length_nil, ih]
    omega
theorem ndc_append (a b : List (Int × Value)) : ndc (a ++ b) = ndc a ++ ndc b := List.flatMap_append
theorem ndc_at (zs : List (Int × Value)) (q : Nat) (h : q < zs.length) : (ndc zs)[q * 2]? = some (.int .i64 zs[q].1) ∧ (ndc zs)[q * 2 + 1]? = some zs[q].2 := by
  induction zs generalizing q with
  | nil => simp at h
  | cons a r ih =>
    cases q with
    | zero => exact ⟨rfl, rfl⟩
    | succ q =>
      have h' : q < r.length := by simpa using h
      obtain ⟨e1, e2⟩ := ih q h'
      unfold ndc at *
      simp only [List.flatMap_cons, List.getElem_cons_succ]
      rw [show (q + 1) * 2 = q * 2 + 2 by omega, show q * 2 + 2 + 1 = (q * 2 + 1) + 2 by omega]
      exact ⟨e1, e2⟩
theorem add_pl (b o j : Nat) : (⟨b, o, none⟩ : Addr).add j = ⟨b, o + j, none⟩ := Addr.add_mid b o j
/-- append([]int(nil), l...) -/
theorem run_copyI {N : Nat} (w : World) (base : Nat) (ty : TypeId) {ao : Option Addr} {b o : Nat} (cap : Nat) {L : List Int} (h : PsAt N w ao b o L) (hc : ao = none → cap = 0) (hb : base ≤ w.heap.size) :
    ∃ v' w', (Builtin.append_ #[25, 25] ty #[.slice none 0 0, .slice ao L.length cap]).run Tryz.prog w = .ok v' w' ∧ w'.ownsRow base 3 1 v' L.length (ints L) ∧ w.grownBy w' none ∧ (∀ g, v'.ownBlock = some g → g = w.heap.size) := by
  obtain ⟨i0, hi0, hz0, hz1, hz2⟩ := info_parts infoInt
  have hl := h.len
  cases ao with
  | none =>
    have h0 : L.length = 0 := by
      apply Classical.byContradiction
      intro hn
      have := h.at0 (by omega)
      cases this
    have hL : L = [] := List.length_eq_zero_iff.1 h0
    subst hL
    rw [hc rfl]
    have hrun := run_append_owned_none (P := Tryz.prog) (w := w) base 25 ty 3 i0 1 Tryz.underlying25 hi0 (.slice none 0 0) 0 [] (World.ownsRow_nil _ _ _ _)
    exact ⟨_, _, hrun, World.ownsRow_nil _ _ _ _, ⟨rfl, rfl, rfl, Nat.le_refl _, fun _ _ _ => rfl⟩, fun g hg => by simp [Value.ownBlock] at hg⟩
  | some ad =>
    obtain ⟨v', w', hr, h2, h3, _, h5⟩ := run_append_own_at (P := Tryz.prog) w base 25 ty 3 i0 (.int .i64 0) 1 8 Tryz.underlying25 hi0 hz0 hz1 hz2 rfl (by decide) (.slice none 0 0) 0 [] (World.ownsRow_nil _ _ _ _) ad L.length cap (ints L) (by rw [ints_len]; omega) (fun j u hj => by
      rw [ints_at] at hj
      cases hq : L[j]? with
      | none => rw [hq] at hj; cases hj
      | some n =>
        rw [hq] at hj
        have hjl : j < L.length := (List.getElem?_eq_some_iff.1 hq).1
        have ha := h.at0 (by omega)
        simp only [Option.some.injEq] at ha
        subst ha
        rw [add_pl]
        have := h.c j hjl
        have e : L[j] = n := (List.getElem?_eq_some_iff.1 hq).2
        rw [e] at this
        simp only [Option.map_some] at hj
        rw [← hj]
        exact this) (ints_one L) (by unfold maxLen; omega) (by omega) hb
    refine ⟨v', w', hr, ?_, h3, fun g hg => ?_⟩
    · rw [Nat.zero_add, List.nil_append] at h2
      exact h2
    · rcases h5 with h5 | h5
      · rw [h5] at hg
        simp [Value.ownBlock] at hg
      · rw [h5] at hg
        cases hg
        rfl
theorem wp_copyI {N : Nat} (w : World) {op : Oper} {a : Act} {K : Act → World → Prop} {Q : Exit → Act → World → Prop} (x : Operand) (ho : op.op = .call { callee := .builtin .append, args := #[.const (.slice none 0 0), x], argTypes := #[25, 25] }) (base : Nat) {ao : Option Addr} {b o : Nat} (cap : Nat) {L : List Int} (hx : a.eval x = .slice ao L.length cap) (h : PsAt N w ao b o L) (hc : ao = none → cap = 0) (hb : base ≤ w.heap.size)
    (hK : ∀ v' w', w'.ownsRow base 3 1 v' L.length (ints L) → w.grownBy w' none → (∀ g, v'.ownBlock = some g → g = w.heap.size) → K (a.put op.dst v') w') : op.wp Tryz.prog a w K Q := by
  obtain ⟨v', w', hr, h1, h2, h3⟩ := run_copyI w base op.type cap h hc hb
  have hs : a.eval (.const (.slice none 0 0)) = .slice none 0 0 := rfl
  unfold Oper.wp execOp
  simp only [ho, resolve, invoke, builtin, Sem.run_bind, Sem.run_pure, Result.andThen_ok, List.map_toArray, List.map_cons, List.map_nil, hs, hx, hr]
  exact hK v' w' h1 h2 h3
theorem wpList_copyI {N : Nat} (w : World) {ops : Array Oper} {rest : List Oper} {op : Oper} {a : Act} {Q : Exit → Act → World → Prop} (hgd : op.guard = none) (x : Operand) (ho : op.op = .call { callee := .builtin .append, args := #[.const (.slice none 0 0), x], argTypes := #[25, 25] }) (base : Nat) {ao : Option Addr} {b o : Nat} (cap : Nat) {L : List Int} (hx : a.eval x = .slice ao L.length cap) (h : PsAt N w ao b o L) (hc : ao = none → cap = 0) (hb : base ≤ w.heap.size)
    (hK : ∀ v' w', w'.ownsRow base 3 1 v' L.length (ints L) → w.grownBy w' none → (∀ g, v'.ownBlock = some g → g = w.heap.size) → wpList Tryz.prog ops Q rest (a.put op.dst v') w') : wpList Tryz.prog ops Q (op :: rest) a w :=
  wpList_plain hgd fun _ hK' => wp_copyI w x ho base cap hx h hc hb (fun v' w' a b c => hK' _ _ (hK v' w' a b c))
/-- where rows of unlike types lie apart -/
theorem own_apart {w : World} {b1 b2 n1 n2 s1 s2 : Nat} {t1 t2 : TypeId} {v1 v2 : Value} {x1 x2 : List Value} (h1 : w.ownsRow b1 t1 s1 v1 n1 x1) (h2 : w.ownsRow b2 t2 s2 v2 n2 x2) (ht : t1 ≠ t2) : ∀ g, v1.ownBlock = some g → v2.ownBlock ≠ some g := by
  intro g hg1 hg2
  rcases h1.2 with ⟨rfl, _⟩ | ⟨g1, c1, u1, rfl, _, k1, _⟩
  · simp [Value.ownBlock] at hg1
  · rcases h2.2 with ⟨rfl, _⟩ | ⟨g2, c2, u2, rfl, _, k2, _⟩
    · simp [Value.ownBlock] at hg2
    · simp [Value.ownBlock] at hg1 hg2
      subst hg1
      subst hg2
      have := k1.symm.trans k2
      simp only [Option.some.injEq, Obj.cells.injEq] at this
      exact ht this.2.1
theorem own_keep {X X' : World} {base sz n : Nat} {e : TypeId} {v : Value} {xs : List Value} (h : X.ownsRow base e sz v n xs) (hk : ∀ g, v.ownBlock = some g → X'.heap[g]? = X.heap[g]?) : X'.ownsRow base e sz v n xs := by
  refine ⟨h.1, ?_⟩
  rcases h.2 with e | ⟨g, cap, cur, rfl, hb, hg, hr⟩
  · exact Or.inl e
  · exact Or.inr ⟨g, cap, cur, rfl, hb, (hk g (by simp [Value.ownBlock])).trans hg, hr⟩
theorem own_lt {X : World} {base sz n g : Nat} {e : TypeId} {v : Value} {xs : List Value} (h : X.ownsRow base e sz v n xs) (hg : v.ownBlock = some g) : base ≤ g ∧ g < X.heap.size := by
  rcases h.2 with ⟨rfl, _⟩ | ⟨g', cap, cur, rfl, hb, hg', hr⟩
  · simp [Value.ownBlock] at hg
  · simp [Value.ownBlock] at hg
    subst hg
    exact ⟨hb, blk_lt hg'⟩
theorem own_grown {X X' : World} {base sz n : Nat} {e : TypeId} {v : Value} {xs : List Value} {row : Option Nat} (h : X.ownsRow base e sz v n xs) (hg : X.grownBy X' row) (hr : ∀ g, v.ownBlock = some g → row ≠ some g) : X'.ownsRow base e sz v n xs :=
  own_keep h fun g hw => hg.block g (own_lt h hw).2 (fun e => hr g hw e.symm)
theorem own_sl {w : World} {base sz n : Nat} {e : TypeId} {v : Value} {xs : List Value} (h : w.ownsRow base e sz v n xs) : ∃ ba cap, v = .slice ba n cap ∧ (ba = none → cap = 0) := by
  rcases h.2 with ⟨hv, hz⟩ | ⟨g, cap, cur, hv, _⟩
  · exact ⟨none, 0, by rw [hv, hz], fun _ => rfl⟩
  · exact ⟨_, _, hv, fun e => by cases e⟩
theorem own_one {w : World} {base sz n : Nat} {e : TypeId} {v : Value} {xs : List Value} (h : w.ownsRow base e sz v n xs) : v.oneCell' = true := by
  obtain ⟨ba, cap, rfl, _⟩ := own_sl h
  rfl
/-- a list of one's own, as it may be read -/
theorem own_ps {w : World} {base n : Nat} {v : Value} {L : List Int} (h : w.ownsRow base 3 1 v n (ints L)) (hn : n = L.length) (hl : L.length ≤ 17592186043904) : Pv w.heap.size w v L := by
  subst hn
  obtain ⟨ba, cap, rfl, _⟩ := own_sl h
  rcases h.2 with ⟨hv, hz⟩ | ⟨g, cap', cur, hv, hb, hg, _⟩
  · simp only [Value.slice.injEq] at hv
    obtain ⟨rfl, _, rfl⟩ := hv
    exact ⟨none, 0, 0, 0, rfl, fun e => by omega, fun e => by omega, fun q hq => by omega, hl⟩
  · simp only [Value.slice.injEq, true_and] at hv
    obtain ⟨rfl, rfl⟩ := hv
    refine ⟨_, g, 0, cap, rfl, fun _ => rfl, fun _ => blk_lt hg, fun q hq => ?_, hl⟩
    rw [Nat.zero_add, h.cellAt q (by omega), ints_at, List.getElem?_eq_getElem hq]
    rfl
end Go.Proofs.YtndfhpfhgdamgaaGreatDoor
