import Derived.Test.YtgdopepghmjopaaGreatDoorGPxTot
import Derived.Test.YtgdopepghmjopaaGreatDoorGPxReads
namespace Go.Proofs.YtgdopepghmjopaaGreatDoor
open Go.RowKit Go.Shelf
theorem rowsOk_all {rs : List RV} (h : rowsOk rs = true) : ∀ r ∈ rs, rowOk r = true := by
  intro r hr
  obtain ⟨i, hi, rfl⟩ := List.mem_iff_getElem.1 hr
  unfold rowsOk at h
  have := List.all_eq_true.1 h i (by simpa using hi)
  rw [Bool.and_eq_true] at this
  have h1 := this.1
  rw [List.getD_eq_getElem?_getD, List.getElem?_eq_getElem hi] at h1
  exact h1
/-- a manifest: its store, version, node, rows, total, whole -/
structure MF where
  st : ByteArray
  ver : Int
  nod : Int
  rs : List RV
  tot : Int
  whl : Int
def MF.hv (m : MF) : HV := (m.st, m.ver, m.nod, (m.rs.length : Int))
def MF.tv (m : MF) : TV := (m.tot, m.whl)
def mfFit (m : MF) : Bool := headOk m.hv && tailOk m.tv && rowsOk m.rs
def mfTot (m : MF) : Bool := decide ((totS m.rs : Int) = m.tot) && decide ((whlS m.rs : Int) = m.whl)
def mfE (m : MF) : Int := if mfFit m then (if mfTot m then 0 else 43) else 42
set_option maxHeartbeats 8000000 in
set_option maxRecDepth 100000 in
set_option linter.unusedSimpArgs false in
/-- check -/
theorem check_any (m : MF) (ao : Option Addr) (b o cap : Nat) (w : World) (hao : 0 < m.rs.length → ao = some ⟨b, o, none⟩) (hl : LiesR b o w m.rs) (hst : m.st.size ≤ 9223372036854775807) (hsz : ∀ r ∈ m.rs, r.1.size ≤ 9223372036854775807) (hlen : m.rs.length ≤ 1000000000000) :
    Calls Tryz.prog 10 #[.agg #[.string m.st, .int .i64 m.ver, .int .i64 m.nod, .slice ao m.rs.length cap, .int .i64 m.tot, .int .i64 m.whl]] w fun e w' => e = .returned (.int .i64 (mfE m)) ∧ Below w.heap.size w w' := by
  obtain ⟨E, hE⟩ : ∃ E, E = mfE m := ⟨_, rfl⟩
  rw [← hE]
  unfold mfE mfFit mfTot MF.hv MF.tv at hE
  obtain ⟨st, ver, nod, rs, tot, whl⟩ := m
  dsimp only at *
  obtain ⟨W0, hW0⟩ : ∃ W0, W0 = (w.alloc (.cells #[.string st, .int .i64 ver, .int .i64 nod, .slice ao rs.length cap, .int .i64 tot, .int .i64 whl] 24)).alloc (.cells #[.int .i64 (rs.length : Int)] 3) := ⟨_, rfl⟩
  have b0 : Below w.heap.size w W0 := by rw [hW0]; exact ((Below.refl _ w).alloc (Nat.le_refl _) _).alloc (by simp) _
  have s0 : W0.heap.size = w.heap.size + 2 := by rw [hW0]; simp
  have a1 : Below (w.heap.size + 1) (w.alloc (.cells #[.string st, .int .i64 ver, .int .i64 nod, .slice ao rs.length cap, .int .i64 tot, .int .i64 whl] 24)) W0 := by rw [hW0]; exact (Below.refl _ _).alloc (by simp) _
  have z1 : (w.alloc (.cells #[.string st, .int .i64 ver, .int .i64 nod, .slice ao rs.length cap, .int .i64 tot, .int .i64 whl] 24)).heap.size = w.heap.size + 1 := by simp
  have KM : Hid (∀ w', Below W0.heap.size W0 w' → (w'.cell? ⟨w.heap.size, 0, none⟩ = some (.string st) ∧ w'.cell? ⟨w.heap.size, 1, none⟩ = some (.int .i64 ver) ∧ w'.cell? ⟨w.heap.size, 2, none⟩ = some (.int .i64 nod) ∧ w'.cell? ⟨w.heap.size, 3, none⟩ = some (.slice ao rs.length cap) ∧ w'.cell? ⟨w.heap.size, 4, none⟩ = some (.int .i64 tot) ∧ w'.cell? ⟨w.heap.size, 5, none⟩ = some (.int .i64 whl)) ∧ w'.cell? ⟨w.heap.size + 1, 0, none⟩ = some (.int .i64 (rs.length : Int)) ∧ w.heap.size < w'.heap.size) := fun w' hw => by
    have hz := hw.size
    refine ⟨?_, ?_, by omega⟩
    · rw [hw.cell (by show w.heap.size < _; omega), hw.cell (by show w.heap.size < _; omega), hw.cell (by show w.heap.size < _; omega), hw.cell (by show w.heap.size < _; omega), hw.cell (by show w.heap.size < _; omega), hw.cell (by show w.heap.size < _; omega), a1.cell (by show w.heap.size < _; omega), a1.cell (by show w.heap.size < _; omega), a1.cell (by show w.heap.size < _; omega), a1.cell (by show w.heap.size < _; omega), a1.cell (by show w.heap.size < _; omega), a1.cell (by show w.heap.size < _; omega)]
      exact ⟨by simp, by simp, by simp, by simp, by simp, by simp⟩
    · rw [hw.cell (by show w.heap.size + 1 < _; omega), hW0, ← z1]
      have q := rangeAt_new (w.alloc (.cells #[.string st, .int .i64 ver, .int .i64 nod, .slice ao rs.length cap, .int .i64 tot, .int .i64 whl] 24)) [.int .i64 (rs.length : Int)] 3 0 _ rfl
      rw [Nat.zero_add] at q
      exact q
  have HA : Hid (∀ w', Below W0.heap.size W0 w' → HeadAt w' w.heap.size (w.heap.size + 1) (st, ver, nod, (rs.length : Int))) := fun w' hw => by
    obtain ⟨⟨k0, k1, k2, _⟩, k3, _⟩ := KM.out w' hw
    exact ⟨k0, k1, k2, k3⟩
  have TA : Hid (∀ w', Below W0.heap.size W0 w' → TailAt w' w.heap.size (tot, whl)) := fun w' hw => by
    obtain ⟨⟨_, _, _, _, k4, k5⟩, _⟩ := KM.out w' hw
    exact ⟨k4, k5⟩
  have FIN : Hid (∀ w', Below W0.heap.size W0 w' → Below w.heap.size w w') := fun w' hw => b0.trans (hw.mono b0.size)
  have C1 := hide (headTable_any w.heap.size (w.heap.size + 1) W0)
  have C2 := hide (headFit_any w.heap.size (w.heap.size + 1) (st, ver, nod, (rs.length : Int)) W0 (HA.out _ (Below.refl _ _)) hst)
  have C3 := hide (fun w' => tailTable_any w.heap.size w')
  have C4 := hide (fun w' (hw : Below W0.heap.size W0 w') => tailFit_any w.heap.size (tot, whl) w' (TA.out w' hw))
  have C5 := hide (fun w' (hw : Below W0.heap.size W0 w') => rowsFit_any ao b o cap rs w' hao (hl.below (FIN.out _ hw)) hsz hlen)
  have C6 : Hid (headOk (st, ver, nod, (rs.length : Int)) = true → rowsOk rs = true → ∀ w', Below W0.heap.size W0 w' → Calls Tryz.prog 28 #[.slice ao rs.length cap] w' fun e w'' => e = .returned (.tuple #[.int .i64 (totS rs : Int), .int .i64 (whlS rs : Int)]) ∧ Below w'.heap.size w' w'') := fun h0 h w' hw => totals_any ao b o cap rs w' hao (hl.below (FIN.out _ hw)) (rowsOk_all h) (by
    unfold headOk inR at h0
    simp only [Bool.and_eq_true, decide_eq_true_eq] at h0
    omega)
  have HE0 := hide hE
  clear hE hl hao hsz hst a1 z1 b0
  generalize headOk (st, ver, nod, (rs.length : Int)) = h1 at *
  generalize tailOk (tot, whl) = h2 at *
  generalize rowsOk rs = h3 at *
  go_enter Tryz.func10, Tryz.ntmps10
  go_wp2_with fail
  rw [← hW0]
  clear hW0 s0
  refine Calls.mono C1.out ?_
  rintro x w1 ⟨rfl, rfl⟩
  go_wp2_with fail
  refine Calls.mono C2.out ?_
  rintro x w2 ⟨rfl, b2⟩
  have B2 := hide b2
  clear b2 C1 C2
  cases h1 with
  | false =>
    have HE : Hid (E = 42) := by show _ = _; rw [HE0.out]; rfl
    go_wp2_with fail
    go_ret
    exact ⟨ret_i64 HE.out, FIN.out _ B2.out⟩
  | true =>
    go_wp2_with fail
    refine Calls.mono (C3.out w2) ?_
    rintro x w3 ⟨rfl, rfl⟩
    go_wp2_with fail
    refine Calls.mono (C4.out w2 B2.out) ?_
    rintro x w4 ⟨rfl, b4⟩
    have B4 := hide (B2.out.trans (b4.mono B2.out.size))
    clear b4 C3 C4
    cases h2 with
    | false =>
      have HE : Hid (E = 42) := by show _ = _; rw [HE0.out]; rfl
      go_wp2_with fail
      go_ret
      exact ⟨ret_i64 HE.out, FIN.out _ B4.out⟩
    | true =>
      obtain ⟨⟨k0, k1, k2, k3, k4, k5⟩, k6, k7⟩ := KM.out w4 B4.out
      go_wp2_with fail
      refine Calls.mono (C5.out w4 B4.out) ?_
      rintro x w5 ⟨rfl, b5⟩
      have B5 := hide (B4.out.trans (b5.mono B4.out.size))
      clear b5 C5 k0 k1 k2 k3 k4 k5 k6 k7
      cases h3 with
      | false =>
        have HE : Hid (E = 42) := by show _ = _; rw [HE0.out]; rfl
        go_wp2_with fail
        go_ret
        exact ⟨ret_i64 HE.out, FIN.out _ B5.out⟩
      | true =>
        obtain ⟨⟨k0, k1, k2, k3, k4, k5⟩, k6, k7⟩ := KM.out w5 B5.out
        go_wp2_with fail
        refine Calls.mono (C6.out trivial trivial w5 B5.out) ?_
        rintro x w6 ⟨rfl, b6⟩
        have B6 := hide (B5.out.trans (b6.mono B5.out.size))
        clear b6 C6 k0 k1 k2 k3 k4 k5 k6 k7
        obtain ⟨⟨k0, k1, k2, k3, k4, k5⟩, k6, k7⟩ := KM.out w6 B6.out
        generalize (totS rs : Int) = TS at *
        generalize (whlS rs : Int) = WS at *
        by_cases e1 : TS = tot
        · by_cases e2 : WS = whl
          · have HE : Hid (E = 0) := by show _ = _; rw [HE0.out, decide_eq_true e1, decide_eq_true e2]; rfl
            subst e1 e2
            go_wp2_with fail
            go_ret
            exact ⟨ret_i64 HE.out, FIN.out _ B6.out⟩
          · have HE : Hid (E = 43) := by show _ = _; rw [HE0.out, decide_eq_false e2, Bool.and_false]; rfl
            have e2' : (WS == whl) = false := beq_eq_false_iff_ne.2 e2
            subst e1
            go_wp2_with fail
            go_ret
            exact ⟨ret_i64 HE.out, FIN.out _ B6.out⟩
        · have HE : Hid (E = 43) := by show _ = _; rw [HE0.out, decide_eq_false e1]; rfl
          have e1' : (TS == tot) = false := beq_eq_false_iff_ne.2 e1
          go_wp2_with fail
          go_ret
          exact ⟨ret_i64 HE.out, FIN.out _ B6.out⟩
end Go.Proofs.YtgdopepghmjopaaGreatDoor
namespace Go.Proofs.YtgdopepghmjopaaGreatDoor
open Go.RowKit Go.Shelf
def manTitle : ByteArray := ⟨#[103, 114, 97, 110, 97, 114, 121, 32, 109, 97, 110, 105, 102, 101, 115, 116, 32, 49, 10]⟩
def rowsL (rs : List RV) : List UInt8 := rs.flatMap rowL
def mfL (m : MF) : List UInt8 := headL m.hv ++ rowsL m.rs ++ tailL m.tv
def mfS (m : MF) : ByteArray := if mfE m = 0 then paperS manTitle (mfL m) else ⟨#[]⟩
def mfCells (m : MF) (ao : Option Addr) (cap : Nat) : Array Value := #[.string m.st, .int .i64 m.ver, .int .i64 m.nod, .slice ao m.rs.length cap, .int .i64 m.tot, .int .i64 m.whl]
theorem rowsL_snoc (rs : List RV) (r : RV) : rowsL (rs ++ [r]) = rowsL rs ++ rowL r := by unfold rowsL; rw [List.flatMap_append, List.flatMap_cons, List.flatMap_nil, List.append_nil]
theorem rowsL_len (rs : List RV) (h : ∀ r ∈ rs, (rowL r).length ≤ 8160) : ∀ k, k ≤ rs.length → (rowsL (rs.take k)).length ≤ k * 8160
  | 0, _ => by simp [rowsL]
  | k + 1, hk => by
    have hk' : k < rs.length := by omega
    have h1 := rowsL_len rs h k (by omega)
    have h2 := h rs[k] (List.getElem_mem hk')
    have e : rowsL (rs.take (k + 1)) = rowsL (rs.take k) ++ rowL rs[k] := by rw [List.take_succ_eq_append_getElem hk', rowsL_snoc]
    rw [e, List.length_append]
    omega
set_option maxHeartbeats 8000000 in
set_option maxRecDepth 100000 in
set_option linter.unusedSimpArgs false in
/-- PrintManifest -/
theorem printManifest_any (m : MF) (ao : Option Addr) (b o cap : Nat) (w : World) (hao : 0 < m.rs.length → ao = some ⟨b, o, none⟩) (hl : LiesR b o w m.rs) (hst : m.st.size ≤ 9223372036854775807) (hsz : ∀ r ∈ m.rs, r.1.size ≤ 9223372036854775807) (hlen : m.rs.length ≤ 1000000000000) (hP : Pow w) (hT4 : Tab4 1 w) :
    Calls Tryz.prog 5 #[.agg (mfCells m ao cap)] w fun e w' => e = .returned (.tuple #[.string (mfS m), .int .i64 (mfE m)]) ∧ Below w.heap.size w w' := by
  obtain ⟨W0, hW0⟩ : ∃ W0, W0 = w.alloc (.cells (mfCells m ao cap) 24) := ⟨_, rfl⟩
  have b0 : Below w.heap.size w W0 := by rw [hW0]; exact (Below.refl _ w).alloc (Nat.le_refl _) _
  have s0 : W0.heap.size = w.heap.size + 1 := by rw [hW0]; simp
  have C1 := hide (check_any m ao b o cap W0 hao (hl.below b0) hst hsz hlen)
  have KM : Hid (∀ w', Below W0.heap.size W0 w' → (w'.cell? ⟨w.heap.size, 0, none⟩ = some (.string m.st) ∧ w'.cell? ⟨w.heap.size, 1, none⟩ = some (.int .i64 m.ver) ∧ w'.cell? ⟨w.heap.size, 2, none⟩ = some (.int .i64 m.nod) ∧ w'.cell? ⟨w.heap.size, 3, none⟩ = some (.slice ao m.rs.length cap) ∧ w'.cell? ⟨w.heap.size, 4, none⟩ = some (.int .i64 m.tot) ∧ w'.cell? ⟨w.heap.size, 5, none⟩ = some (.int .i64 m.whl)) ∧ w.heap.size < w'.heap.size) := fun w' hw => by
    have hz := hw.size
    refine ⟨?_, by omega⟩
    rw [hw.cell (by show w.heap.size < _; omega), hw.cell (by show w.heap.size < _; omega), hw.cell (by show w.heap.size < _; omega), hw.cell (by show w.heap.size < _; omega), hw.cell (by show w.heap.size < _; omega), hw.cell (by show w.heap.size < _; omega), hW0]
    unfold mfCells
    exact ⟨by simp, by simp, by simp, by simp, by simp, by simp⟩
  have FIN : Hid (∀ w', Below W0.heap.size W0 w' → Below w.heap.size w w') := fun w' hw => b0.trans (hw.mono b0.size)
  by_cases he : mfE m = 0
  · have eS : mfS m = paperS manTitle (mfL m) := by unfold mfS; rw [if_pos he]
    rw [eS, he]
    rw [he] at C1
    have hfit : headOk m.hv = true ∧ tailOk m.tv = true ∧ rowsOk m.rs = true := by
      unfold mfE mfFit at he
      cases h1 : headOk m.hv <;> cases h2 : tailOk m.tv <;> cases h3 : rowsOk m.rs <;> simp [h1, h2, h3] at he ⊢
    obtain ⟨o1, o2, o3⟩ := hfit
    have orow := rowsOk_all o3
    have l1 := wrL_len (headFDs 0 0) (headO m.hv) 40 (headFD_small 0 0) (headO_len _ o1) 4 (Nat.le_refl _)
    have l2 := wrL_len (tailFDs 0) (tailO m.tv) 40 (tailFD_small 0) (tailO_len _ o2) 2 (Nat.le_refl _)
    have l3 : ∀ r ∈ m.rs, (rowL r).length ≤ 8160 := fun r hr => wrL_len (rowFDs 0) (rowO r) 40 (rowFD_small 0) (rowO_len r (orow r hr)) 4 (Nat.le_refl _)
    have hcnt : m.rs.length ≤ 1025 := by
      unfold headOk MF.hv inR at o1
      simp only [Bool.and_eq_true, decide_eq_true_eq] at o1
      omega
    have HT := hide (fun rb cb w' => headTable_any rb cb w')
    have HWr := hide (fun rb cb w' (h : HeadAt w' rb cb m.hv) hP => headWritten_any rb cb m.hv w' h o1 hP)
    have TT := hide (fun rb w' => tailTable_any rb w')
    have TWr := hide (fun rb w' (h : TailAt w' rb m.tv) hP => tailWritten_any rb m.tv w' h o2 hP)
    have RT := hide (fun rb w' => rowTable_any rb w')
    have RWr := hide (fun r (hr : r ∈ m.rs) rb w' (h : RowAt w' rb 0 r) hP => rowWritten_any rb r w' h (orow r hr) hP)
    have EL : Hid (mfL m = headL m.hv ++ rowsL m.rs ++ tailL m.tv) := rfl
    have l1' : (headL m.hv).length ≤ 8160 := l1
    have l2' : (tailL m.tv).length ≤ 4080 := l2
    have L3 := hide l3
    clear l1 l2 l3 o1 o2 o3 eS orow
    have HLR := hide (fun w' (hb : Below w.heap.size w w') => hl.below hb)
    have HAO := hide hao
    have PW := hide (fun w' (hb : Below w.heap.size w w') => hP.below hb)
    have T4 := hide (fun w' (hb : Below w.heap.size w w') => hT4.below hb hT4.lt)
    clear hl hao hP hT4 hst hsz hlen he b0
    obtain ⟨st, ver, nod, rs, tot, whl⟩ := m
    unfold mfCells at *
    unfold MF.hv MF.tv at *
    dsimp only at *
    generalize mfL ⟨st, ver, nod, rs, tot, whl⟩ = ML at *
    go_enter Tryz.func5, Tryz.ntmps5
    obtain ⟨⟨k0, k1, k2, k3, k4, k5⟩, k6⟩ := KM.out W0 (Below.refl _ _)
    go_wp2_with fail
    rw [← hW0]
    refine Calls.mono C1.out ?_
    rintro x w1 ⟨rfl, b1⟩
    have B1 := hide b1
    obtain ⟨⟨k0, k1, k2, k3, k4, k5⟩, k6⟩ := KM.out w1 b1
    clear b1 C1 hW0 s0
    go_wp2_with fail
    obtain ⟨Wc, hWc⟩ : ∃ Wc, Wc = w1.alloc (.cells #[.int .i64 (rs.length : Int)] 3) := ⟨_, rfl⟩
    have bc : Below w1.heap.size w1 Wc := by rw [hWc]; exact (Below.refl _ _).alloc (Nat.le_refl _) _
    have sc : Wc.heap.size = w1.heap.size + 1 := by rw [hWc]; simp
    have kc : Wc.cell? ⟨w1.heap.size, 0, none⟩ = some (.int .i64 (rs.length : Int)) := by rw [hWc]; simp
    obtain ⟨W2, hW2⟩ : ∃ W2, W2 = Wc.alloc (.cells #[.pointer none, .slice none 0 0] 41) := ⟨_, rfl⟩
    have I2 : Lib.IsBuilderF 41 5 Wc.heap.size Wc.heap.size (Lib.byteCells []) W2 := by rw [hW2]; exact Lib.IsBuilderF.of (Lib.fresh_isBuilder 41 5 Wc)
    have b2 : Below Wc.heap.size Wc W2 := by rw [hW2]; exact (Below.refl _ _).alloc (Nat.le_refl _) _
    rw [← hWc, ← hW2]
    have JW : Hid (∀ (l : List UInt8) (s : ByteArray) w', Below Wc.heap.size Wc w' → Lib.IsBuilderF 41 5 Wc.heap.size Wc.heap.size (Lib.byteCells l) w' → l.length + s.size ≤ 140737488355328 → Calls Tryz.prog 11 #[.pointer (some ⟨w1.heap.size + 1, 0, none⟩), .string s] w' fun e w'' => e = .returned (.tuple #[.int .i64 s.size, .nilIface]) ∧ Below Wc.heap.size Wc w'' ∧ Lib.IsBuilderF 41 5 Wc.heap.size Wc.heap.size (Lib.byteCells (l ++ s.data.toList)) w'') := fun l s w' hb hI hs => by
      rw [← sc]
      refine (Tryz.bWriteString Wc.heap.size Wc.heap.size (Lib.byteCells l) s w' hI (by rw [Lib.byteCells_length]; exact hs) hb.size).mono fun e w'' ⟨e1, h5, h6, _⟩ => ⟨e1, hb.trans h6, .inr ?_⟩
      rw [Lib.strCells_eq, ← Lib.byteCells_append] at h5
      exact h5
    have BC : Hid (∀ w', Below Wc.heap.size Wc w' → Below W0.heap.size W0 w') := fun w' hw => (B1.out.trans (bc.mono B1.out.size)).trans (hw.mono (B1.out.trans (bc.mono B1.out.size)).size)
    have KC : Hid (∀ w', Below Wc.heap.size Wc w' → w'.cell? ⟨w1.heap.size, 0, none⟩ = some (.int .i64 (rs.length : Int))) := fun w' hw => by rw [hw.cell (by show w1.heap.size < _; omega)]; exact kc
    have J2 := hide I2
    have BB2 := hide b2
    clear hWc hW2 I2 b2 bc kc k0 k1 k2 k3 k4 k5 k6
    refine Calls.mono (HT.out _ _ _) ?_
    rintro x w3 ⟨rfl, rfl⟩
    have HA2 : HeadAt W2 w.heap.size w1.heap.size (st, ver, nod, (rs.length : Int)) := by
      obtain ⟨⟨k0, k1, k2, _⟩, _⟩ := KM.out W2 (BC.out _ BB2.out)
      exact ⟨k0, k1, k2, KC.out _ BB2.out⟩
    have HW2 := hide (HWr.out _ _ _ HA2 (PW.out _ (FIN.out _ (BC.out _ BB2.out))))
    clear HA2
    go_wp2_with fail
    refine Calls.mono HW2.out ?_
    rintro x w4 ⟨rfl, b4⟩
    have BB4 := hide (BB2.out.trans (b4.mono BB2.out.size))
    have J4 := hide (isBuilderF_below J2.out b4)
    clear b4 HW2 HT HWr
    have hs1 : manTitle.size = 19 := rfl
    have hs2 : (strOf (headL (st, ver, nod, (rs.length : Int)))).size ≤ 8160 := by rw [strOf_size]; exact l1'
    have W4 := hide (JW.out [] (manTitle ++ strOf (headL (st, ver, nod, (rs.length : Int)))) w4 BB4.out J4.out (by rw [ByteArray.size_append, hs1]; simp; omega))
    obtain ⟨L0, hL0⟩ : ∃ L0, L0 = ([] : List UInt8) ++ (manTitle ++ strOf (headL (st, ver, nod, (rs.length : Int)))).data.toList := ⟨_, rfl⟩
    rw [← hL0] at W4
    have hL0l : L0.length ≤ 8179 := by rw [hL0, List.nil_append, size_data, ByteArray.size_append, hs1]; omega
    have HL0 := hide hL0
    clear hL0
    unfold manTitle at W4
    go_wp2_with fail
    refine Calls.mono W4.out ?_
    rintro x w5 ⟨rfl, b5, i5⟩
    obtain ⟨⟨k0, k1, k2, k3, k4, k5⟩, k6⟩ := KM.out w5 (BC.out _ b5)
    have BB5 := hide b5
    have J5 := hide i5
    clear b5 i5 W4 J4 BB4 J2 BB2 hs1 hs2
    go_wp2_with fail
    go_loopw [24] (fun v wr => ∃ k : Nat, k ≤ rs.length ∧ v = .int .i64 k ∧ Hid (Below Wc.heap.size Wc wr ∧ Lib.IsBuilderF 41 5 Wc.heap.size Wc.heap.size (Lib.byteCells (L0 ++ rowsL (rs.take k))) wr)) (fun v _ => rs.length - (intOf v).toNat)
    case atStart => exact ⟨0, Nat.zero_le _, rfl, BB5.out, by rw [show rowsL (rs.take 0) = [] from rfl, List.append_nil]; exact J5.out⟩
    case round =>
      obtain ⟨k, hk, rfl, hJ⟩ := hrel
      have hrl : (rowsL (rs.take k)).length ≤ k * 8160 := rowsL_len rs L3.out k hk
      by_cases hlt : k < rs.length
      · obtain rfl := HAO.out (by omega)
        obtain ⟨d0, d1, d2, d3⟩ := HLR.out wr (FIN.out _ (BC.out _ hJ.out.1)) k hlt
        have hlt' : (k : Int) < (rs.length : Int) := by omega
        have hmem : rs[k] ∈ rs := List.getElem_mem hlt
        have RWk := hide (RWr.out rs[k] hmem)
        have hln := L3.out _ hmem
        have HSN : Hid (rowsL (rs.take (k + 1)) = rowsL (rs.take k) ++ rowL rs[k]) := by
          show _ = _
          rw [List.take_succ_eq_append_getElem hlt, rowsL_snoc]
        clear hmem
        generalize rs[k] = r at *
        obtain ⟨nm, sz, cr, md⟩ := r
        dsimp only at d0 d1 d2 d3
        go_wp2_with fail
        obtain ⟨Wr, hWr⟩ : ∃ Wr, Wr = wr.alloc (.cells #[.string nm, .int .i64 sz, .int .i64 cr, .string md] 36) := ⟨_, rfl⟩
        have br : Below wr.heap.size wr Wr := by rw [hWr]; exact (Below.refl _ _).alloc (Nat.le_refl _) _
        have Rr : RowAt Wr wr.heap.size 0 (nm, sz, cr, md) := by rw [hWr]; exact ⟨by simp, by simp, by simp, by simp⟩
        have BBr := hide (hJ.out.1.trans (br.mono hJ.out.1.size))
        have Jr := hide (isBuilderF_below hJ.out.2 br)
        rw [← hWr]
        have RW2 := hide (RWk.out wr.heap.size Wr Rr (PW.out _ (FIN.out _ (BC.out _ BBr.out))))
        clear hWr br Rr hJ d0 d1 d2 d3
        refine Calls.mono (RT.out _ _) ?_
        rintro x w6 ⟨rfl, rfl⟩
        go_wp2_with fail
        refine Calls.mono RW2.out ?_
        rintro x w7 ⟨rfl, b7⟩
        have BB7 := hide (BBr.out.trans (b7.mono BBr.out.size))
        have J7 := hide (isBuilderF_below Jr.out b7)
        have W7 := hide (JW.out _ (strOf (rowL (nm, sz, cr, md))) w7 BB7.out J7.out (by rw [List.length_append, strOf_size]; have := Nat.mul_le_mul (show k ≤ 1025 by omega) (Nat.le_refl 8160); omega))
        rw [strOf_data, List.append_assoc, ← HSN.out] at W7
        clear b7 RW2 BBr Jr RWk HSN
        go_wp2_with fail
        refine Calls.mono W7.out ?_
        rintro x w8 ⟨rfl, b8, i8⟩
        have J8 := hide (show Below Wc.heap.size Wc w8 ∧ Lib.IsBuilderF 41 5 Wc.heap.size Wc.heap.size (Lib.byteCells (L0 ++ rowsL (rs.take (k + 1)))) w8 from ⟨b8, i8⟩)
        clear b8 i8 W7 J7 BB7
        go_wp2_with fail
        go_roundw
        case rel => exact ⟨k + 1, by omega, by go_num, J8⟩
        case measure => simp [intOf]; omega
      · obtain rfl : k = rs.length := by omega
        rw [List.take_length] at hJ hrl
        obtain ⟨⟨k0, k1, k2, k3, k4, k5⟩, k6⟩ := KM.out wr (BC.out _ hJ.out.1)
        have TAr : TailAt wr w.heap.size (tot, whl) := ⟨k4, k5⟩
        have TW2 := hide (TWr.out w.heap.size wr TAr (PW.out _ (FIN.out _ (BC.out _ hJ.out.1))))
        clear TAr
        go_wp2_with fail
        refine Calls.mono (TT.out _ _) ?_
        rintro x w6 ⟨rfl, rfl⟩
        go_wp2_with fail
        refine Calls.mono TW2.out ?_
        rintro x w7 ⟨rfl, b7⟩
        have BB7 := hide (hJ.out.1.trans (b7.mono hJ.out.1.size))
        have J7 := hide (isBuilderF_below hJ.out.2 b7)
        have hrl2 : (rowsL rs).length ≤ 8364000 := by have := Nat.mul_le_mul (show rs.length ≤ 1025 by omega) (Nat.le_refl 8160); omega
        have W7 := hide (JW.out _ (strOf (tailL (tot, whl))) w7 BB7.out J7.out (by rw [List.length_append, strOf_size]; omega))
        rw [strOf_data] at W7
        clear b7 TW2 TT TWr
        go_wp2_with fail
        refine Calls.mono W7.out ?_
        rintro x w8 ⟨rfl, b8, i8⟩
        obtain ⟨LL, hLL⟩ : ∃ LL, LL = L0 ++ rowsL rs ++ tailL (tot, whl) := ⟨_, rfl⟩
        rw [← hLL] at i8
        have hLLl : LL.length ≤ 9000000 := by rw [hLL, List.length_append, List.length_append]; omega
        have HLL := hide hLL
        have SB := hide (Tryz.Builder_String_any_k Wc.heap.size Wc.heap.size LL w8 i8 b8.size)
        rw [sc] at SB
        have BB8 := hide b8
        clear b8 i8 W7 J7 BB7 hLL
        go_wp2_with fail
        refine Calls.mono SB.out ?_
        rintro x w9 ⟨rfl, i9, b9, k9⟩
        have BB9 := hide (BB8.out.trans (by rw [sc]; exact b9))
        clear i9 b9 k9 SB BB8
        have SE := hide (sealed_any (strOf LL) sumWd w9 (by rw [strOf_size]; omega) (by decide) (T4.out _ (FIN.out _ (BC.out _ BB9.out))))
        unfold sumWd at SE
        go_wp2_with fail
        refine Calls.mono SE.out ?_
        rintro x w10 ⟨rfl, b10⟩
        have BBA := hide (FIN.out _ (BC.out _ (BB9.out.trans (b10.mono BB9.out.size))))
        clear b10 SE
        go_wp2_with fail
        go_ret2
        refine ⟨?_, BBA.out⟩
        have hS : strOf LL = manTitle ++ strOf ML := by
          apply ByteArray.ext
          apply Array.toList_inj.1
          show LL = _
          rw [HLL.out, HL0.out, EL.out]
          simp
          rfl
        show Ending.returned (.tuple #[.string (strOf LL ++ strOf (sealL sumWd (crcN 0 (strOf LL).data.toList))), .int .i64 0]) = _
        rw [hS]
        rfl
  · have eS : mfS m = ⟨#[]⟩ := by unfold mfS; rw [if_neg he]
    rw [eS]
    have he2 : (mfE m == 0) = false := beq_eq_false_iff_ne.2 he
    generalize mfE m = E at *
    obtain ⟨st, ver, nod, rs, tot, whl⟩ := m
    unfold mfCells at *
    dsimp only at *
    go_enter Tryz.func5, Tryz.ntmps5
    go_wp2_with fail
    rw [← hW0]
    refine Calls.mono C1.out ?_
    rintro x w1 ⟨rfl, b1⟩
    have B1 := hide b1
    clear b1 C1 hW0
    go_wp2_with fail
    go_ret2
    exact ⟨rfl, FIN.out _ B1.out⟩
end Go.Proofs.YtgdopepghmjopaaGreatDoor
