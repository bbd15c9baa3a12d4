import Derived.Test.YtgdopepghmjopaaGreatDoorGPwFile
namespace Go.Proofs.YtgdopepghmjopaaGreatDoor
open Go.RowKit Go.Shelf
theorem stepLast (Q : Nat) (tx : ByteArray) (st : Option Nat) (w : World) (h : RfS Q tx st w) (htx : tx.size < 9223372036854775808) :
    Calls Tryz.prog 70 #[.pointer (some ⟨Q, 0, none⟩)] w fun e w' => e = .returned (.int .i64 (lastE tx st)) ∧ Kb Q w w' := by
  cases st with
  | some a => exact last_any Q tx a false w h.2 h.1 htx
  | none =>
    obtain ⟨a, ha, hr⟩ := h
    exact last_any Q tx a true w hr ha htx
structure PMS (Wa : World) (Q mb : Nat) (tx : ByteArray) (st : Option Nat) (c0 : ByteArray) (c1 c2 : Int) (rs : List RV) (c4 c5 : Int) (w : World) : Prop where
  old : Below Wa.heap.size Wa w
  rd : RfS Q tx st w
  m0 : w.cell? ⟨mb, 0, none⟩ = some (.string c0)
  m1 : w.cell? ⟨mb, 1, none⟩ = some (.int .i64 c1)
  m2 : w.cell? ⟨mb, 2, none⟩ = some (.int .i64 c2)
  m3 : ∃ v, w.cell? ⟨mb, 3, none⟩ = some v ∧ w.ownsRow (mb + 1) 36 4 v rs.length (rcs rs)
  m4 : w.cell? ⟨mb, 4, none⟩ = some (.int .i64 c4)
  m5 : w.cell? ⟨mb, 5, none⟩ = some (.int .i64 c5)
  fz : ∀ o, o < 6 → w.frozen? ⟨mb, o, none⟩ = false
theorem PMS.lt {Wa : World} {Q mb : Nat} {tx : ByteArray} {st : Option Nat} {c0 : ByteArray} {c1 c2 : Int} {rs : List RV} {c4 c5 : Int} {w : World} (h : PMS Wa Q mb tx st c0 c1 c2 rs c4 c5 w) : mb < w.heap.size := lt_of_cell? h.m0
theorem PMS.call {Wa : World} {Q mb : Nat} {tx : ByteArray} {st st' : Option Nat} {c0 : ByteArray} {c1 c2 : Int} {rs : List RV} {c4 c5 : Int} {w w' : World} (h : PMS Wa Q mb tx st c0 c1 c2 rs c4 c5 w) (hn : Wa.heap.size ≤ Q ∧ Q < mb) (hk : Kb Q w w') (hr : RfS Q tx st' w') : PMS Wa Q mb tx st' c0 c1 c2 rs c4 c5 w' := by
  have hl := h.lt
  have ne : mb ≠ Q := by omega
  obtain ⟨v, hv, ho⟩ := h.m3
  exact ⟨hk.below h.old hn.1 h.old.size, hr, by rw [hk.cell hl ne]; exact h.m0, by rw [hk.cell hl ne]; exact h.m1, by rw [hk.cell hl ne]; exact h.m2, ⟨v, by rw [hk.cell hl ne]; exact hv, own_kbx ho (KbX.of (X := fun x => x = Q) hk rfl) (fun i hi => by omega)⟩, by rw [hk.cell hl ne]; exact h.m4, by rw [hk.cell hl ne]; exact h.m5, fun o ho => by rw [hk.frozen hl ne]; exact h.fz o ho⟩
theorem PMS.set0 {Wa : World} {Q mb : Nat} {tx : ByteArray} {st : Option Nat} {c0 : ByteArray} {c1 c2 : Int} {rs : List RV} {c4 c5 : Int} {w : World} (h : PMS Wa Q mb tx st c0 c1 c2 rs c4 c5 w) (hn : Wa.heap.size ≤ Q ∧ Q < mb) (x : ByteArray) : PMS Wa Q mb tx st x c1 c2 rs c4 c5 (w.setCell ⟨mb, 0, none⟩ (.string x)) := by
  have ot : ∀ i, i ≠ 0 → (w.setCell ⟨mb, 0, none⟩ (.string x)).cell? ⟨mb, i, none⟩ = w.cell? ⟨mb, i, none⟩ := fun i hi => World.cell?_setCell_other w _ _ _ (by intro e; injection e with _ e _; exact hi e.symm)
  have k := Kb.set mb 0 w (.string x)
  obtain ⟨v, hv, ho⟩ := h.m3
  exact ⟨k.below h.old (by omega) h.old.size, h.rd.kb k (by omega), World.cell?_setCell_same w _ _ h.m0, by rw [ot _ (by omega)]; exact h.m1, by rw [ot _ (by omega)]; exact h.m2, ⟨v, by rw [ot _ (by omega)]; exact hv, own_kbx ho (KbX.of (X := fun x => x = mb) k rfl) (fun i hi => by omega)⟩, by rw [ot _ (by omega)]; exact h.m4, by rw [ot _ (by omega)]; exact h.m5, fun o ho => by rw [World.frozen?_setCell]; exact h.fz o ho⟩
theorem PMS.set1 {Wa : World} {Q mb : Nat} {tx : ByteArray} {st : Option Nat} {c0 : ByteArray} {c1 c2 : Int} {rs : List RV} {c4 c5 : Int} {w : World} (h : PMS Wa Q mb tx st c0 c1 c2 rs c4 c5 w) (hn : Wa.heap.size ≤ Q ∧ Q < mb) (x : Int) : PMS Wa Q mb tx st c0 x c2 rs c4 c5 (w.setCell ⟨mb, 1, none⟩ (.int .i64 x)) := by
  have ot : ∀ i, i ≠ 1 → (w.setCell ⟨mb, 1, none⟩ (.int .i64 x)).cell? ⟨mb, i, none⟩ = w.cell? ⟨mb, i, none⟩ := fun i hi => World.cell?_setCell_other w _ _ _ (by intro e; injection e with _ e _; exact hi e.symm)
  have k := Kb.set mb 1 w (.int .i64 x)
  obtain ⟨v, hv, ho⟩ := h.m3
  exact ⟨k.below h.old (by omega) h.old.size, h.rd.kb k (by omega), by rw [ot _ (by omega)]; exact h.m0, World.cell?_setCell_same w _ _ h.m1, by rw [ot _ (by omega)]; exact h.m2, ⟨v, by rw [ot _ (by omega)]; exact hv, own_kbx ho (KbX.of (X := fun x => x = mb) k rfl) (fun i hi => by omega)⟩, by rw [ot _ (by omega)]; exact h.m4, by rw [ot _ (by omega)]; exact h.m5, fun o ho => by rw [World.frozen?_setCell]; exact h.fz o ho⟩
theorem PMS.set2 {Wa : World} {Q mb : Nat} {tx : ByteArray} {st : Option Nat} {c0 : ByteArray} {c1 c2 : Int} {rs : List RV} {c4 c5 : Int} {w : World} (h : PMS Wa Q mb tx st c0 c1 c2 rs c4 c5 w) (hn : Wa.heap.size ≤ Q ∧ Q < mb) (x : Int) : PMS Wa Q mb tx st c0 c1 x rs c4 c5 (w.setCell ⟨mb, 2, none⟩ (.int .i64 x)) := by
  have ot : ∀ i, i ≠ 2 → (w.setCell ⟨mb, 2, none⟩ (.int .i64 x)).cell? ⟨mb, i, none⟩ = w.cell? ⟨mb, i, none⟩ := fun i hi => World.cell?_setCell_other w _ _ _ (by intro e; injection e with _ e _; exact hi e.symm)
  have k := Kb.set mb 2 w (.int .i64 x)
  obtain ⟨v, hv, ho⟩ := h.m3
  exact ⟨k.below h.old (by omega) h.old.size, h.rd.kb k (by omega), by rw [ot _ (by omega)]; exact h.m0, by rw [ot _ (by omega)]; exact h.m1, World.cell?_setCell_same w _ _ h.m2, ⟨v, by rw [ot _ (by omega)]; exact hv, own_kbx ho (KbX.of (X := fun x => x = mb) k rfl) (fun i hi => by omega)⟩, by rw [ot _ (by omega)]; exact h.m4, by rw [ot _ (by omega)]; exact h.m5, fun o ho => by rw [World.frozen?_setCell]; exact h.fz o ho⟩
theorem PMS.set4 {Wa : World} {Q mb : Nat} {tx : ByteArray} {st : Option Nat} {c0 : ByteArray} {c1 c2 : Int} {rs : List RV} {c4 c5 : Int} {w : World} (h : PMS Wa Q mb tx st c0 c1 c2 rs c4 c5 w) (hn : Wa.heap.size ≤ Q ∧ Q < mb) (x : Int) : PMS Wa Q mb tx st c0 c1 c2 rs x c5 (w.setCell ⟨mb, 4, none⟩ (.int .i64 x)) := by
  have ot : ∀ i, i ≠ 4 → (w.setCell ⟨mb, 4, none⟩ (.int .i64 x)).cell? ⟨mb, i, none⟩ = w.cell? ⟨mb, i, none⟩ := fun i hi => World.cell?_setCell_other w _ _ _ (by intro e; injection e with _ e _; exact hi e.symm)
  have k := Kb.set mb 4 w (.int .i64 x)
  obtain ⟨v, hv, ho⟩ := h.m3
  exact ⟨k.below h.old (by omega) h.old.size, h.rd.kb k (by omega), by rw [ot _ (by omega)]; exact h.m0, by rw [ot _ (by omega)]; exact h.m1, by rw [ot _ (by omega)]; exact h.m2, ⟨v, by rw [ot _ (by omega)]; exact hv, own_kbx ho (KbX.of (X := fun x => x = mb) k rfl) (fun i hi => by omega)⟩, World.cell?_setCell_same w _ _ h.m4, by rw [ot _ (by omega)]; exact h.m5, fun o ho => by rw [World.frozen?_setCell]; exact h.fz o ho⟩
theorem PMS.set5 {Wa : World} {Q mb : Nat} {tx : ByteArray} {st : Option Nat} {c0 : ByteArray} {c1 c2 : Int} {rs : List RV} {c4 c5 : Int} {w : World} (h : PMS Wa Q mb tx st c0 c1 c2 rs c4 c5 w) (hn : Wa.heap.size ≤ Q ∧ Q < mb) (x : Int) : PMS Wa Q mb tx st c0 c1 c2 rs c4 x (w.setCell ⟨mb, 5, none⟩ (.int .i64 x)) := by
  have ot : ∀ i, i ≠ 5 → (w.setCell ⟨mb, 5, none⟩ (.int .i64 x)).cell? ⟨mb, i, none⟩ = w.cell? ⟨mb, i, none⟩ := fun i hi => World.cell?_setCell_other w _ _ _ (by intro e; injection e with _ e _; exact hi e.symm)
  have k := Kb.set mb 5 w (.int .i64 x)
  obtain ⟨v, hv, ho⟩ := h.m3
  exact ⟨k.below h.old (by omega) h.old.size, h.rd.kb k (by omega), by rw [ot _ (by omega)]; exact h.m0, by rw [ot _ (by omega)]; exact h.m1, by rw [ot _ (by omega)]; exact h.m2, ⟨v, by rw [ot _ (by omega)]; exact hv, own_kbx ho (KbX.of (X := fun x => x = mb) k rfl) (fun i hi => by omega)⟩, by rw [ot _ (by omega)]; exact h.m4, World.cell?_setCell_same w _ _ h.m5, fun o ho => by rw [World.frozen?_setCell]; exact h.fz o ho⟩
theorem cell_row2 (w : World) (o : Obj) (r : RV) : ∀ j u, (rcs [r])[j]? = some u → ((w.alloc o).alloc (.cells #[.string r.1, .int .i64 r.2.1, .int .i64 r.2.2.1, .string r.2.2.2] 36)).cell? ((⟨w.heap.size + 1, 0, none⟩ : Addr).add j) = some u := by
  have h : (w.alloc o).heap.size = w.heap.size + 1 := by simp
  rw [← h]
  exact cell_row _ r
theorem RfS.like {Q : Nat} {tx : ByteArray} {st : Option Nat} {w w' : World} (h : RfS Q tx st w) (hc : ∀ o, w'.cell? ⟨Q, o, none⟩ = w.cell? ⟨Q, o, none⟩) (hf : ∀ o, w'.frozen? ⟨Q, o, none⟩ = w.frozen? ⟨Q, o, none⟩) : RfS Q tx st w' := by
  cases st with
  | some a =>
    obtain ⟨h1, r0, r1, r2, r3, r4⟩ := h
    exact ⟨h1, by rw [hc]; exact r0, by rw [hc]; exact r1, by rw [hc]; exact r2, by rw [hf]; exact r3, by rw [hf]; exact r4⟩
  | none =>
    obtain ⟨a, h1, r0, r1, r2, r3, r4⟩ := h
    exact ⟨a, h1, by rw [hc]; exact r0, by rw [hc]; exact r1, by rw [hc]; exact r2, by rw [hf]; exact r3, by rw [hf]; exact r4⟩
theorem PMS.app {Wa : World} {Q mb : Nat} {tx : ByteArray} {st : Option Nat} {c0 : ByteArray} {c1 c2 : Int} {rs : List RV} {c4 c5 : Int} {w w2 w3 : World} {v v2 : Value} {r : RV} (h : PMS Wa Q mb tx st c0 c1 c2 rs c4 c5 w) (hn : Wa.heap.size ≤ Q ∧ Q < mb) (hv : w.cell? ⟨mb, 3, none⟩ = some v) (ho : w.ownsRow (mb + 1) 36 4 v rs.length (rcs rs)) (hb : Below w.heap.size w w2) (hg : w2.grownBy w3 v.ownBlock) (o2 : w3.ownsRow (mb + 1) 36 4 v2 (rs.length + 1) (rcs rs ++ rcs [r])) :
    PMS Wa Q mb tx st c0 c1 c2 (rs ++ [r]) c4 c5 (w3.setCell ⟨mb, 3, none⟩ v2) ∧ w3.cell? ⟨mb, 3, none⟩ = some v ∧ w3.frozen? ⟨mb, 3, none⟩ = false ∧ mb < w3.heap.size := by
  have hl := h.lt
  have hs := hb.size
  have bx : Below (mb + 1) w w3 := ⟨hg.os.trans hb.os, hg.tape.trans hb.tape, hg.output.trans hb.output, Nat.le_trans hb.size hg.size, fun i hi => by
    rw [hg.block i (by omega) (fun e => by have := ho.lt i e.symm; omega), hb.block i (by omega)]⟩
  have cel : ∀ j o, j < mb + 1 → w3.cell? ⟨j, o, none⟩ = w.cell? ⟨j, o, none⟩ := fun j o hj => bx.cell (by exact hj)
  have fro : ∀ j o, j < mb + 1 → w3.frozen? ⟨j, o, none⟩ = w.frozen? ⟨j, o, none⟩ := fun j o hj => bx.frozen (by exact hj)
  have k := Kb.set mb 3 w3 v2
  have hx : mb < w3.heap.size := Nat.lt_of_lt_of_le hl bx.size
  have C3 : w3.cell? ⟨mb, 3, none⟩ = some v := by rw [cel _ _ (by omega)]; exact hv
  have ot : ∀ i, i ≠ 3 → (w3.setCell ⟨mb, 3, none⟩ v2).cell? ⟨mb, i, none⟩ = w.cell? ⟨mb, i, none⟩ := fun i hi => by
    rw [World.cell?_setCell_other w3 _ _ _ (by intro e; injection e with _ e _; exact hi e.symm), cel _ _ (by omega)]
  have rd3 : RfS Q tx st w3 := h.rd.like (fun o => cel Q o (by omega)) (fun o => fro Q o (by omega))
  refine ⟨⟨k.below (h.old.trans (bx.mono (by omega))) (by omega) (Nat.le_trans h.old.size bx.size), rd3.kb k (by omega), by rw [ot _ (by omega)]; exact h.m0, by rw [ot _ (by omega)]; exact h.m1, by rw [ot _ (by omega)]; exact h.m2, ⟨v2, World.cell?_setCell_same w3 _ _ C3, ?_⟩, by rw [ot _ (by omega)]; exact h.m4, by rw [ot _ (by omega)]; exact h.m5, fun o ho => by rw [World.frozen?_setCell, fro _ _ (by omega)]; exact h.fz o ho⟩, C3, by rw [fro _ _ (by omega)]; exact h.fz 3 (by omega), hx⟩
  rw [rcs_append, List.length_append]
  exact own_kbx o2 (KbX.of (X := fun x => x = mb) k rfl) (fun i hi => by omega)
set_option maxHeartbeats 8000000 in
set_option maxRecDepth 100000 in
set_option linter.unusedSimpArgs false in
/-- the document's ParseManifest -/
theorem rparseMan_any (tx : ByteArray) (w : World) (htx : tx.size ≤ 1000000000000) (hT : TabP w) :
    Calls Tryz.prog 24 #[.string tx] w fun e w' => (pmE tx = 0 → ∃ v, e = .returned (.tuple #[.agg #[.string (pmM tx).st, .int .i64 (pmM tx).ver, .int .i64 (pmM tx).nod, v, .int .i64 (pmM tx).tot, .int .i64 (pmM tx).whl], .int .i64 0]) ∧ w'.ownsRow w.heap.size 36 4 v (pmM tx).rs.length (rcs (pmM tx).rs)) ∧ (¬ pmE tx = 0 → e = .returned (.tuple #[.agg #[.string ⟨#[]⟩, .int .i64 0, .int .i64 0, .slice none 0 0, .int .i64 0, .int .i64 0], .int .i64 (pmE tx)])) ∧ Below w.heap.size w w' := by
  obtain ⟨i0, hi, hz0, hz1, hz2⟩ := info_parts infoR
  obtain ⟨Wa, hWa⟩ : ∃ Wa, Wa = w.alloc (.cells #[.string ⟨#[]⟩, .int .i64 0, .int .i64 0, .slice none 0 0, .int .i64 0, .int .i64 0] 24) := ⟨_, rfl⟩
  have ba : Below w.heap.size w Wa := by rw [hWa]; exact (Below.refl _ w).alloc (Nat.le_refl _) _
  have sa : Wa.heap.size = w.heap.size + 1 := by rw [hWa]; simp
  obtain ⟨Wb, hWb⟩ : ∃ Wb, Wb = Wa.alloc (.cells #[.string tx, .int .i64 0, .bool false] 90) := ⟨_, rfl⟩
  have bb : Below Wa.heap.size Wa Wb := by rw [hWb]; exact (Below.refl _ _).alloc (Nat.le_refl _) _
  have sb : Wb.heap.size = w.heap.size + 1 + 1 := by rw [hWb]; simp [sa]
  have rb : RfAt (w.heap.size + 1) tx 0 false Wb := by rw [hWb, ← sa]; exact ⟨by simp, by simp, by simp, by simp, by simp⟩
  obtain ⟨W0, hW0⟩ : ∃ W0, W0 = Wb.alloc (.cells #[.string ⟨#[]⟩, .int .i64 0, .int .i64 0, .slice none 0 0, .int .i64 0, .int .i64 0] 24) := ⟨_, rfl⟩
  have b0 : Below Wb.heap.size Wb W0 := by rw [hW0]; exact (Below.refl _ _).alloc (Nat.le_refl _) _
  have P0 : PMS Wa (w.heap.size + 1) (w.heap.size + 1 + 1) tx (some 0) ⟨#[]⟩ 0 0 [] 0 0 W0 := by
    refine ⟨bb.trans (b0.mono bb.size), ⟨Nat.zero_le _, rb.below b0⟩, ?_, ?_, ?_, ⟨.slice none 0 0, ?_, World.ownsRow_nil _ _ _ _⟩, ?_, ?_, ?_⟩
    · rw [hW0, ← sb]; simp
    · rw [hW0, ← sb]; simp
    · rw [hW0, ← sb]; simp
    · rw [hW0, ← sb]; simp
    · rw [hW0, ← sb]; simp
    · rw [hW0, ← sb]; simp
    · intro o ho
      rw [hW0, ← sb]
      match o, ho with
      | 0, _ => simp
      | 1, _ => simp
      | 2, _ => simp
      | 3, _ => simp
      | 4, _ => simp
      | 5, _ => simp
  have RS : Hid (∀ w', Below Wa.heap.size Wa w' → (w'.cell? ⟨w.heap.size, 0, none⟩ = some (.string ⟨#[]⟩) ∧ w'.cell? ⟨w.heap.size, 1, none⟩ = some (.int .i64 0) ∧ w'.cell? ⟨w.heap.size, 2, none⟩ = some (.int .i64 0) ∧ w'.cell? ⟨w.heap.size, 3, none⟩ = some (.slice none 0 0) ∧ w'.cell? ⟨w.heap.size, 4, none⟩ = some (.int .i64 0) ∧ w'.cell? ⟨w.heap.size, 5, none⟩ = some (.int .i64 0)) ∧ (w'.frozen? ⟨w.heap.size, 0, none⟩ = false ∧ w'.frozen? ⟨w.heap.size, 1, none⟩ = false ∧ w'.frozen? ⟨w.heap.size, 2, none⟩ = false ∧ w'.frozen? ⟨w.heap.size, 3, none⟩ = false ∧ w'.frozen? ⟨w.heap.size, 4, none⟩ = false ∧ w'.frozen? ⟨w.heap.size, 5, none⟩ = false) ∧ w.heap.size < w'.heap.size) := fun w' hb => by
    have hl : w.heap.size < Wa.heap.size := by omega
    rw [hb.cell (by exact hl), hb.cell (by exact hl), hb.cell (by exact hl), hb.cell (by exact hl), hb.cell (by exact hl), hb.cell (by exact hl), hb.frozen (by exact hl), hb.frozen (by exact hl), hb.frozen (by exact hl), hb.frozen (by exact hl), hb.frozen (by exact hl), hb.frozen (by exact hl)]
    refine ⟨?_, ?_, Nat.lt_of_lt_of_le hl hb.size⟩
    · rw [hWa]; exact ⟨by simp, by simp, by simp, by simp, by simp, by simp⟩
    · rw [hWa]; exact ⟨by simp, by simp, by simp, by simp, by simp, by simp⟩
  have hn : Wa.heap.size ≤ w.heap.size + 1 ∧ w.heap.size + 1 < w.heap.size + 1 + 1 := by omega
  have FIN := hide (fun (w' : World) (hb : Below Wa.heap.size Wa w') => ba.trans (hb.mono ba.size))
  have TBP := hide (fun (w' : World) (hb : Below w.heap.size w w') => hT.below hb (World.block_lt_of_cell? w _ (hT 0 (by omega))))
  have htx' : tx.size < 9223372036854775808 := by omega
  have LIT := hide (fun (s : ByteArray) (hs : s.size ≤ 1000) (q : Option Nat) (w' : World) (hr : RfS (w.heap.size + 1) tx q w') => stepLit (w.heap.size + 1) s tx q w' hr htx' hs)
  have WRD := hide (fun (q : Option Nat) (w' : World) (hr : RfS (w.heap.size + 1) tx q w') => stepWrd (w.heap.size + 1) tx q w' hr htx')
  have NUM := hide (fun (q : Option Nat) (w' : World) (hr : RfS (w.heap.size + 1) tx q w') => stepNum (w.heap.size + 1) tx q w' hr htx')
  have SUM := hide (fun (q : Option Nat) (w' : World) (hr : RfS (w.heap.size + 1) tx q w') => stepSum (w.heap.size + 1) tx q w' hr htx')
  have FIL := hide (fun (q : Option Nat) (w' : World) (hr : RfS (w.heap.size + 1) tx q w') => rfile_any (w.heap.size + 1) tx q w' hr htx')
  have LST := hide (fun (q : Option Nat) (w' : World) (hr : RfS (w.heap.size + 1) tx q w') => stepLast (w.heap.size + 1) tx q w' hr htx')
  have FF := hide P0
  have HN := hide hn
  clear P0 ba bb b0 rb
  go_enter Tryz.func24, Tryz.ntmps24
  go_wp2_with fail
  rw [← hWa, ← hWb, ← hW0]
  clear hWa hWb hW0 sa sb
  have Q1 := hide (LIT.out nS0 (by decide) _ _ FF.out.rd)
  unfold nS0 at Q1
  refine Calls.mono Q1.out ?_
  rintro x y1 ⟨rfl, rr, kk⟩
  have F1 := hide (FF.out.call HN.out kk rr)
  clear rr kk Q1 FF
  go_wp2_with fail
  refine Calls.mono (WRD.out _ _ F1.out.rd) ?_
  rintro x y2 ⟨t1, rfl, e1, rr, kk⟩
  have F2 := hide (F1.out.call HN.out kk rr)
  clear rr kk F1
  have G2 := hide (F2.out.set0 HN.out t1)
  have d0 := F2.out.m0
  have fz := F2.out.fz 0 (by omega)
  have hlf := F2.out.lt
  go_wp2_with fail
  clear d0 fz hlf F2
  have Q3 := hide (LIT.out mS1 (by decide) _ _ G2.out.rd)
  unfold mS1 at Q3
  refine Calls.mono Q3.out ?_
  rintro x y3 ⟨rfl, rr, kk⟩
  have F3 := hide (G2.out.call HN.out kk rr)
  clear rr kk Q3 G2
  go_wp2_with fail
  refine Calls.mono (NUM.out _ _ F3.out.rd) ?_
  rintro x y4 ⟨n1, rfl, -, e2, rr, kk⟩
  have F4 := hide (F3.out.call HN.out kk rr)
  clear rr kk F3
  have G4 := hide (F4.out.set1 HN.out (n1 : Int))
  have d0 := F4.out.m1
  have fz := F4.out.fz 1 (by omega)
  have hlf := F4.out.lt
  go_wp2_with fail
  clear d0 fz hlf F4
  have Q5 := hide (LIT.out mS2 (by decide) _ _ G4.out.rd)
  unfold mS2 at Q5
  refine Calls.mono Q5.out ?_
  rintro x y5 ⟨rfl, rr, kk⟩
  have F5 := hide (G4.out.call HN.out kk rr)
  clear rr kk Q5 G4
  go_wp2_with fail
  refine Calls.mono (NUM.out _ _ F5.out.rd) ?_
  rintro x y6 ⟨n2, rfl, -, e3, rr, kk⟩
  have F6 := hide (F5.out.call HN.out kk rr)
  clear rr kk F5
  have G6 := hide (F6.out.set2 HN.out (n2 : Int))
  have d0 := F6.out.m2
  have fz := F6.out.fz 2 (by omega)
  have hlf := F6.out.lt
  go_wp2_with fail
  clear d0 fz hlf F6
  have Q7 := hide (LIT.out nS3 (by decide) _ _ G6.out.rd)
  unfold nS3 at Q7
  refine Calls.mono Q7.out ?_
  rintro x y7 ⟨rfl, rr, kk⟩
  have F7 := hide (G6.out.call HN.out kk rr)
  clear rr kk Q7 G6
  go_wp2_with fail
  refine Calls.mono (NUM.out _ _ F7.out.rd) ?_
  rintro x y8 ⟨n3, rfl, hn3, e4, rr, kk⟩
  have F8 := hide (F7.out.call HN.out kk rr)
  clear rr kk F7
  go_wp2_with fail
  have Q9 := hide (LIT.out nl (by decide) _ _ F8.out.rd)
  unfold nl at Q9
  refine Calls.mono Q9.out ?_
  rintro x y9 ⟨rfl, rr, kk⟩
  have F9 := hide (F8.out.call HN.out kk rr)
  clear rr kk Q9 F8
  obtain ⟨ST, hST⟩ : ∃ ST, ST = sLit nl tx (sNum tx (sLit nS3 tx (sNum tx (sLit mS2 tx (sNum tx (sLit mS1 tx (sWrd tx (sLit nS0 tx (some 0))))))))) := ⟨_, rfl⟩
  have FL : Hid (PMS Wa (w.heap.size + 1) (w.heap.size + 1 + 1) tx ST t1 (n1 : Int) (n2 : Int) [] 0 0 y9) := by rw [hST]; exact F9.out
  clear F9
  have HST := hide hST
  clear hST
  have HAT : Hid (∀ a, ST = some a → a ≤ tx.size) := fun a ha => by
    have := FL.out.rd
    rw [ha] at this
    exact this.1
  have E1 := hide e1
  have E2 := hide e2
  have E3 := hide e3
  have E4 := hide e4
  clear e1 e2 e3 e4
  have J0 : Hid ((∀ a, ST = some a → ST = (rowsAt tx a 0).map (·.2) ∧ ∀ l q, rowsAt tx a 0 = some (l, q) → [] = l) ∧ (ST = none → ST = none)) := ⟨fun a ha => ⟨ha, fun l q h => by injection h with h; injection h with h _⟩, id⟩
  go_wp2_with fail
  go_loopw [7] (fun i wr => ∃ k : Nat, k ≤ n3 ∧ i = .int .i64 k ∧ ∃ st rs, PMS Wa (w.heap.size + 1) (w.heap.size + 1 + 1) tx st t1 (n1 : Int) (n2 : Int) rs 0 0 wr ∧ (∀ a, ST = some a → st = (rowsAt tx a k).map (·.2) ∧ ∀ l q, rowsAt tx a k = some (l, q) → rs = l) ∧ (ST = none → st = none)) (fun i _ => n3 - (intOf i).toNat)
  case atStart => exact ⟨0, Nat.zero_le _, rfl, ST, [], FL.out, J0.out⟩
  case round =>
    clear FL J0
    obtain ⟨k, hk, rfl, st, rs, hp, hj1, hj2⟩ := hrel
    have HP := hide hp
    have HJ1 := hide hj1
    have HJ2 := hide hj2
    clear hp hj1 hj2
    by_cases hlt : k < n3
    · have hlt' : (k : Int) < (n3 : Int) := by omega
      cases st with
      | some q =>
        have hs : ∃ a, ST = some a := by
          cases ST with
          | none => exact absurd (HJ2.out rfl) (by simp)
          | some a => exact ⟨a, rfl⟩
        obtain ⟨a, ha⟩ := hs
        have hat : ∃ l, rowsAt tx a k = some (l, q) := by
          have h1 := (HJ1.out a ha).1
          cases hr : rowsAt tx a k with
          | none => rw [hr] at h1; cases h1
          | some x => obtain ⟨l, q'⟩ := x; rw [hr] at h1; injection h1 with h1; subst h1; exact ⟨l, rfl⟩
        obtain ⟨l, hat⟩ := hat
        obtain rfl : rs = l := (HJ1.out a ha).2 _ _ hat
        obtain ⟨hl1, hq1, hq2⟩ := rowsAt_le (HAT.out a ha) _ _ _ hat
        have HA := hide hat
        have HSA := hide ha
        clear hat ha HJ1 HJ2
        obtain ⟨r0, r1, r2, r3, r4⟩ := HP.out.rd.2
        have hQl := HP.out.rd.lt
        go_wp2_with fail
        clear r0 r1 r2 r3 r4
        refine Calls.mono (FIL.out _ _ HP.out.rd) ?_
        rintro x w1 ⟨r, rfl, er, rr, kk⟩
        have F1 := hide (HP.out.call HN.out kk rr)
        have ER := hide (er q rfl)
        clear rr kk er HP
        obtain ⟨v, hv, ho⟩ := F1.out.m3
        have OW := hide ho
        clear ho
        have fz := F1.out.fz 3 (by omega)
        have hlm := F1.out.lt
        obtain ⟨nm, sz, cr, md⟩ := r
        dsimp only
        have hs1 : w.heap.size + 1 + 1 + 1 ≤ w1.heap.size := hlm
        obtain ⟨hm1, hm2⟩ : rs.length + 1 ≤ maxLen ∧ (rs.length + 1) * 48 ≤ 140737488355328 := by unfold maxLen; omega
        have bd := hide ((((Below.refl w1.heap.size w1).alloc (Nat.le_refl _) (.cells #[.string nm, .int .i64 sz, .int .i64 cr, .string md] 36)).alloc (by simp) (.cells #[.string nm, .int .i64 sz, .int .i64 cr, .string md] 36)))
        have HV := hide hv
        obtain ⟨ad1, m1, c1, rfl⟩ := own_shapeX OW.out
        go_wp2_with (at_builtin; refine wpList_append_own _ rfl _ _ 22 rfl (w.heap.size + 1 + 1 + 1) 36 i0 (.agg #[.string ⟨#[]⟩, .int .i64 0, .int .i64 0, .string ⟨#[]⟩]) 4 48 Tryz.underlying22 hi hz0 hz1 hz2 rfl (by decide) _ _ _ rfl ((OW.out.alloc _).alloc _) ⟨w1.heap.size + 1, 0, none⟩ 1 1 (rcs [(nm, sz, cr, md)]) rfl (rcs_one_len _) (cell_row2 w1 _ (nm, sz, cr, md)) (rcs_one _) hm1 hm2 (le_allocX (le_allocX hs1)) ?_; intro v2 w3 o2 g2 n2; clear n2; obtain ⟨ad2, m2, c2, rfl⟩ := own_shapeX o2; have AP := hide (F1.out.app HN.out HV.out OW.out bd.out g2 o2); obtain ⟨C3, Z3, L3⟩ := AP.out.2; clear hv fz hlm o2 g2)
        go_roundw
        case rel =>
          refine ⟨k + 1, by omega, by go_num, _, _, AP.out.1, fun b hb => ?_, fun hb => ?_⟩
          · rw [HSA.out] at hb; injection hb with hb; subst hb
            refine ⟨by rw [rowsAt_step, HA.out]; rfl, fun l q' hr => ?_⟩
            have hok := rowsAt_ok HA.out hr
            rw [rowsAt_row HA.out hok] at hr
            injection hr with hr; injection hr with hr _
            rw [← hr, ER.out hok]
          · rw [HSA.out] at hb; cases hb
        case measure => simp [intOf]; omega
      | none =>
        have HJ : Hid ((sHead tx).bind (fun a => (rowsAt tx a n3).map (·.2)) = none) := by
          show _ = none
          rw [show sHead tx = ST from HST.out.symm]
          cases hs : ST with
          | none => rfl
          | some a =>
            have h1 := (HJ1.out a hs).1
            have h2 : rowsAt tx a k = none := by cases hr : rowsAt tx a k with | none => rfl | some y => rw [hr] at h1; cases h1
            have h3 := rowsAt_none tx a h2 (n3 - k)
            rw [show k + (n3 - k) = n3 by omega] at h3
            simp [h3]
        have HR : Hid (∀ a l q, sHead tx = some a → rowsAt tx a n3 = some (l, q) → rs = l) := fun a l q h1 h2 => by
          have h := HJ.out
          rw [h1] at h
          simp [h2] at h
        obtain ⟨a0, ha0, r0, r1, r2, r3, r4⟩ := HP.out.rd
        have hQl := HP.out.rd.lt
        go_wp2_with fail
        clear r0 r1 r2 r3 r4 HJ1 HJ2
        obtain ⟨st, hst⟩ : ∃ st : Option Nat, st = none := ⟨_, rfl⟩
        rw [← hst] at HJ HP
        clear hst
        have Q21 := hide (LIT.out nS5 (by decide) _ _ HP.out.rd)
        unfold nS5 at Q21
        refine Calls.mono Q21.out ?_
        rintro x y21 ⟨rfl, rr, kk⟩
        have F21 := hide (HP.out.call HN.out kk rr)
        clear rr kk Q21 HP
        go_wp2_with fail
        refine Calls.mono (NUM.out _ _ F21.out.rd) ?_
        rintro x y22 ⟨n5, rfl, -, e5, rr, kk⟩
        have F22 := hide (F21.out.call HN.out kk rr)
        clear rr kk F21
        have G22 := hide (F22.out.set4 HN.out (n5 : Int))
        have d0 := F22.out.m4
        have fz := F22.out.fz 4 (by omega)
        have hlf := F22.out.lt
        go_wp2_with fail
        clear d0 fz hlf F22
        have Q23 := hide (LIT.out nS6 (by decide) _ _ G22.out.rd)
        unfold nS6 at Q23
        refine Calls.mono Q23.out ?_
        rintro x y23 ⟨rfl, rr, kk⟩
        have F23 := hide (G22.out.call HN.out kk rr)
        clear rr kk Q23 G22
        go_wp2_with fail
        refine Calls.mono (SUM.out _ _ F23.out.rd) ?_
        rintro x y24 ⟨n6, rfl, -, e6, rr, kk⟩
        have F24 := hide (F23.out.call HN.out kk rr)
        clear rr kk F23
        have G24 := hide (F24.out.set5 HN.out (n6 : Int))
        have d0 := F24.out.m5
        have fz := F24.out.fz 5 (by omega)
        have hlf := F24.out.lt
        go_wp2_with fail
        clear d0 fz hlf F24
        have Q25 := hide (LIT.out nl (by decide) _ _ G24.out.rd)
        unfold nl at Q25
        refine Calls.mono Q25.out ?_
        rintro x y25 ⟨rfl, rr, kk⟩
        have F25 := hide (G24.out.call HN.out kk rr)
        clear rr kk Q25 G24
        go_wp2_with fail
        refine Calls.mono (LST.out _ _ F25.out.rd) ?_
        rintro x w7 ⟨rfl, kk⟩
        obtain ⟨dn1, dn2⟩ := rp_done HJ.out HR.out E1.out E2.out E3.out E4.out e5 e6
        clear e5 e6
        obtain ⟨LE, hLE⟩ : ∃ LE, LE = lastE tx (sLit nl tx (sByt 4 tx (sLit nS6 tx (sNum tx (sLit nS5 tx st))))) := ⟨_, rfl⟩
        rw [← hLE] at dn1 dn2
        have HLE : Hid (LE = lastE tx (sLit ⟨#[10]⟩ tx (sByt 4 tx (sLit ⟨#[10, 119, 104, 111, 108, 101, 32]⟩ tx (sNum tx (sLit ⟨#[116, 111, 116, 97, 108, 32]⟩ tx st)))))) := hLE
        rw [← HLE.out]
        clear hLE HLE
        have rdx := F25.out.rd.lt
        have OB := hide (kk.below F25.out.old HN.out.1 F25.out.old.size)
        have hlm := F25.out.lt
        have hlm7 := Nat.lt_of_lt_of_le hlm kk.size
        have nmq : w.heap.size + 1 + 1 ≠ w.heap.size + 1 := by omega
        obtain ⟨v, hv, ho⟩ := F25.out.m3
        have O7 := hide (own_kbx ho (KbX.of (X := fun x => x = w.heap.size + 1) kk rfl) (fun i hi => by omega))
        obtain ⟨ao, g, cap, rfl, _, x1, x2⟩ := own_rows O7.out
        have j0 := F25.out.m0
        rw [← kk.cell hlm nmq] at j0
        have j1 := F25.out.m1
        rw [← kk.cell hlm nmq] at j1
        have j2 := F25.out.m2
        rw [← kk.cell hlm nmq] at j2
        have j4 := F25.out.m4
        rw [← kk.cell hlm nmq] at j4
        have j5 := F25.out.m5
        rw [← kk.cell hlm nmq] at j5
        rw [← kk.cell hlm nmq] at hv
        have BW := hide (FIN.out _ OB.out)
        clear ho kk F25
        by_cases hz : LE = 0
        · subst hz
          rw [if_pos rfl] at dn1
          obtain ⟨hM, hlr⟩ := dn2 rfl
          have MF := hide (rmanFields_any t1 n1 n2 n5 n6 ao g 0 cap rs w7 x1 x2 (by omega) (TBP.out _ BW.out))
          have DN1 := hide dn1
          have HM := hide hM
          clear dn1 dn2 hM x1 x2
          go_wp2_with fail
          refine Calls.mono MF.out ?_
          rintro x w8 ⟨rfl, b8⟩
          have OB8 := hide (OB.out.trans (b8.mono OB.out.size))
          have O8 := hide (own_blw O7.out b8)
          rw [← b8.cell (by exact hlm7)] at j0
          rw [← b8.cell (by exact hlm7)] at j1
          rw [← b8.cell (by exact hlm7)] at j2
          rw [← b8.cell (by exact hlm7)] at j4
          rw [← b8.cell (by exact hlm7)] at j5
          rw [← b8.cell (by exact hlm7)] at hv
          have hlm8 := Nat.lt_of_lt_of_le hlm7 b8.size
          clear b8 MF O7
          obtain ⟨⟨z0, z1, z2, z3, z4, z5⟩, ⟨f0, f1, f2, f3, f4, f5⟩, hl3⟩ := RS.out _ OB8.out
          have BF := hide (FIN.out _ OB8.out)
          generalize mfE ⟨t1, (n1 : Int), (n2 : Int), rs, (n5 : Int), (n6 : Int)⟩ = ME at *
          by_cases hme : ME = 0
          · subst hme
            go_wp2_with fail
            refine bodyPost_ret (v := .tuple #[.agg #[.string t1, .int .i64 (n1 : Int), .int .i64 (n2 : Int), .slice ao rs.length cap, .int .i64 (n5 : Int), .int .i64 (n6 : Int)], .int .i64 0]) (by simp [results, Tryz.results24, go_sem, z0, z1, z2, z3, z4, z5]) rfl ⟨fun _ => ⟨.slice ao rs.length cap, by rw [HM.out], ?_⟩, fun h => absurd DN1.out h, ?_⟩
            · rw [HM.out]
              exact own_lower (own_kbx O8.out (KbX.of (X := fun x => x = w.heap.size) ((((((Kb.set _ _ _ _).trans (Kb.set _ _ _ _)).trans (Kb.set _ _ _ _)).trans (Kb.set _ _ _ _)).trans (Kb.set _ _ _ _)).trans (Kb.set _ _ _ _)) rfl) (fun j hj => by rw [hj]; omega)) (by omega)
            · exact (((((BF.out.setCell (Nat.le_refl _) _).setCell (Nat.le_refl _) _).setCell (Nat.le_refl _) _).setCell (Nat.le_refl _) _).setCell (Nat.le_refl _) _).setCell (Nat.le_refl _) _
          · have hmb : (ME == 0) = false := by simpa using hme
            go_wp2_with fail
            refine bodyPost_ret (v := .tuple #[.agg #[.string ⟨#[]⟩, .int .i64 0, .int .i64 0, .slice none 0 0, .int .i64 0, .int .i64 0], .int .i64 ME]) (by simp [results, Tryz.results24, go_sem, z0, z1, z2, z3, z4, z5]) rfl ⟨fun h => absurd (DN1.out.symm.trans h) hme, fun _ => by rw [DN1.out], ?_⟩
            exact (((((BF.out.setCell (Nat.le_refl _) _).setCell (Nat.le_refl _) _).setCell (Nat.le_refl _) _).setCell (Nat.le_refl _) _).setCell (Nat.le_refl _) _).setCell (Nat.le_refl _) _
        · rw [if_neg hz] at dn1
          have DN1 := hide dn1
          clear dn1 dn2 x1 x2
          have hzb : (LE == 0) = false := by simpa using hz
          obtain ⟨⟨z0, z1, z2, z3, z4, z5⟩, ⟨f0, f1, f2, f3, f4, f5⟩, hl3⟩ := RS.out _ OB.out
          go_wp2_with fail
          refine bodyPost_ret (v := .tuple #[.agg #[.string ⟨#[]⟩, .int .i64 0, .int .i64 0, .slice none 0 0, .int .i64 0, .int .i64 0], .int .i64 LE]) (by simp [results, Tryz.results24, go_sem, z0, z1, z2, z3, z4, z5]) rfl ⟨fun h => absurd (DN1.out.symm.trans h) hz, fun _ => by rw [DN1.out], ?_⟩
          exact (((((BW.out.setCell (Nat.le_refl _) _).setCell (Nat.le_refl _) _).setCell (Nat.le_refl _) _).setCell (Nat.le_refl _) _).setCell (Nat.le_refl _) _).setCell (Nat.le_refl _) _
    · have hlt' : ¬ ((k : Int) < (n3 : Int)) := by omega
      obtain rfl : k = n3 := by omega
      have HJ : Hid ((sHead tx).bind (fun a => (rowsAt tx a k).map (·.2)) = st) := by
        show _ = st
        rw [show sHead tx = ST from HST.out.symm]
        cases hs : ST with
        | none => rw [HJ2.out hs]; rfl
        | some a => exact (HJ1.out a hs).1.symm
      have HR : Hid (∀ a l q, sHead tx = some a → rowsAt tx a k = some (l, q) → rs = l) := fun a l q h1 h2 => (HJ1.out a (by rw [← h1]; exact HST.out)).2 l q h2
      go_wp2_with fail
      clear HJ1 HJ2
      have Q21 := hide (LIT.out nS5 (by decide) _ _ HP.out.rd)
      unfold nS5 at Q21
      refine Calls.mono Q21.out ?_
      rintro x y21 ⟨rfl, rr, kk⟩
      have F21 := hide (HP.out.call HN.out kk rr)
      clear rr kk Q21 HP
      go_wp2_with fail
      refine Calls.mono (NUM.out _ _ F21.out.rd) ?_
      rintro x y22 ⟨n5, rfl, -, e5, rr, kk⟩
      have F22 := hide (F21.out.call HN.out kk rr)
      clear rr kk F21
      have G22 := hide (F22.out.set4 HN.out (n5 : Int))
      have d0 := F22.out.m4
      have fz := F22.out.fz 4 (by omega)
      have hlf := F22.out.lt
      go_wp2_with fail
      clear d0 fz hlf F22
      have Q23 := hide (LIT.out nS6 (by decide) _ _ G22.out.rd)
      unfold nS6 at Q23
      refine Calls.mono Q23.out ?_
      rintro x y23 ⟨rfl, rr, kk⟩
      have F23 := hide (G22.out.call HN.out kk rr)
      clear rr kk Q23 G22
      go_wp2_with fail
      refine Calls.mono (SUM.out _ _ F23.out.rd) ?_
      rintro x y24 ⟨n6, rfl, -, e6, rr, kk⟩
      have F24 := hide (F23.out.call HN.out kk rr)
      clear rr kk F23
      have G24 := hide (F24.out.set5 HN.out (n6 : Int))
      have d0 := F24.out.m5
      have fz := F24.out.fz 5 (by omega)
      have hlf := F24.out.lt
      go_wp2_with fail
      clear d0 fz hlf F24
      have Q25 := hide (LIT.out nl (by decide) _ _ G24.out.rd)
      unfold nl at Q25
      refine Calls.mono Q25.out ?_
      rintro x y25 ⟨rfl, rr, kk⟩
      have F25 := hide (G24.out.call HN.out kk rr)
      clear rr kk Q25 G24
      go_wp2_with fail
      refine Calls.mono (LST.out _ _ F25.out.rd) ?_
      rintro x w7 ⟨rfl, kk⟩
      obtain ⟨dn1, dn2⟩ := rp_done HJ.out HR.out E1.out E2.out E3.out E4.out e5 e6
      clear e5 e6
      obtain ⟨LE, hLE⟩ : ∃ LE, LE = lastE tx (sLit nl tx (sByt 4 tx (sLit nS6 tx (sNum tx (sLit nS5 tx st))))) := ⟨_, rfl⟩
      rw [← hLE] at dn1 dn2
      have HLE : Hid (LE = lastE tx (sLit ⟨#[10]⟩ tx (sByt 4 tx (sLit ⟨#[10, 119, 104, 111, 108, 101, 32]⟩ tx (sNum tx (sLit ⟨#[116, 111, 116, 97, 108, 32]⟩ tx st)))))) := hLE
      rw [← HLE.out]
      clear hLE HLE
      have rdx := F25.out.rd.lt
      have OB := hide (kk.below F25.out.old HN.out.1 F25.out.old.size)
      have hlm := F25.out.lt
      have hlm7 := Nat.lt_of_lt_of_le hlm kk.size
      have nmq : w.heap.size + 1 + 1 ≠ w.heap.size + 1 := by omega
      obtain ⟨v, hv, ho⟩ := F25.out.m3
      have O7 := hide (own_kbx ho (KbX.of (X := fun x => x = w.heap.size + 1) kk rfl) (fun i hi => by omega))
      obtain ⟨ao, g, cap, rfl, _, x1, x2⟩ := own_rows O7.out
      have j0 := F25.out.m0
      rw [← kk.cell hlm nmq] at j0
      have j1 := F25.out.m1
      rw [← kk.cell hlm nmq] at j1
      have j2 := F25.out.m2
      rw [← kk.cell hlm nmq] at j2
      have j4 := F25.out.m4
      rw [← kk.cell hlm nmq] at j4
      have j5 := F25.out.m5
      rw [← kk.cell hlm nmq] at j5
      rw [← kk.cell hlm nmq] at hv
      have BW := hide (FIN.out _ OB.out)
      clear ho kk F25
      by_cases hz : LE = 0
      · subst hz
        rw [if_pos rfl] at dn1
        obtain ⟨hM, hlr⟩ := dn2 rfl
        have MF := hide (rmanFields_any t1 n1 n2 n5 n6 ao g 0 cap rs w7 x1 x2 (by omega) (TBP.out _ BW.out))
        have DN1 := hide dn1
        have HM := hide hM
        clear dn1 dn2 hM x1 x2
        go_wp2_with fail
        refine Calls.mono MF.out ?_
        rintro x w8 ⟨rfl, b8⟩
        have OB8 := hide (OB.out.trans (b8.mono OB.out.size))
        have O8 := hide (own_blw O7.out b8)
        rw [← b8.cell (by exact hlm7)] at j0
        rw [← b8.cell (by exact hlm7)] at j1
        rw [← b8.cell (by exact hlm7)] at j2
        rw [← b8.cell (by exact hlm7)] at j4
        rw [← b8.cell (by exact hlm7)] at j5
        rw [← b8.cell (by exact hlm7)] at hv
        have hlm8 := Nat.lt_of_lt_of_le hlm7 b8.size
        clear b8 MF O7
        obtain ⟨⟨z0, z1, z2, z3, z4, z5⟩, ⟨f0, f1, f2, f3, f4, f5⟩, hl3⟩ := RS.out _ OB8.out
        have BF := hide (FIN.out _ OB8.out)
        generalize mfE ⟨t1, (n1 : Int), (n2 : Int), rs, (n5 : Int), (n6 : Int)⟩ = ME at *
        by_cases hme : ME = 0
        · subst hme
          go_wp2_with fail
          refine bodyPost_ret (v := .tuple #[.agg #[.string t1, .int .i64 (n1 : Int), .int .i64 (n2 : Int), .slice ao rs.length cap, .int .i64 (n5 : Int), .int .i64 (n6 : Int)], .int .i64 0]) (by simp [results, Tryz.results24, go_sem, z0, z1, z2, z3, z4, z5]) rfl ⟨fun _ => ⟨.slice ao rs.length cap, by rw [HM.out], ?_⟩, fun h => absurd DN1.out h, ?_⟩
          · rw [HM.out]
            exact own_lower (own_kbx O8.out (KbX.of (X := fun x => x = w.heap.size) ((((((Kb.set _ _ _ _).trans (Kb.set _ _ _ _)).trans (Kb.set _ _ _ _)).trans (Kb.set _ _ _ _)).trans (Kb.set _ _ _ _)).trans (Kb.set _ _ _ _)) rfl) (fun j hj => by rw [hj]; omega)) (by omega)
          · exact (((((BF.out.setCell (Nat.le_refl _) _).setCell (Nat.le_refl _) _).setCell (Nat.le_refl _) _).setCell (Nat.le_refl _) _).setCell (Nat.le_refl _) _).setCell (Nat.le_refl _) _
        · have hmb : (ME == 0) = false := by simpa using hme
          go_wp2_with fail
          refine bodyPost_ret (v := .tuple #[.agg #[.string ⟨#[]⟩, .int .i64 0, .int .i64 0, .slice none 0 0, .int .i64 0, .int .i64 0], .int .i64 ME]) (by simp [results, Tryz.results24, go_sem, z0, z1, z2, z3, z4, z5]) rfl ⟨fun h => absurd (DN1.out.symm.trans h) hme, fun _ => by rw [DN1.out], ?_⟩
          exact (((((BF.out.setCell (Nat.le_refl _) _).setCell (Nat.le_refl _) _).setCell (Nat.le_refl _) _).setCell (Nat.le_refl _) _).setCell (Nat.le_refl _) _).setCell (Nat.le_refl _) _
      · rw [if_neg hz] at dn1
        have DN1 := hide dn1
        clear dn1 dn2 x1 x2
        have hzb : (LE == 0) = false := by simpa using hz
        obtain ⟨⟨z0, z1, z2, z3, z4, z5⟩, ⟨f0, f1, f2, f3, f4, f5⟩, hl3⟩ := RS.out _ OB.out
        go_wp2_with fail
        refine bodyPost_ret (v := .tuple #[.agg #[.string ⟨#[]⟩, .int .i64 0, .int .i64 0, .slice none 0 0, .int .i64 0, .int .i64 0], .int .i64 LE]) (by simp [results, Tryz.results24, go_sem, z0, z1, z2, z3, z4, z5]) rfl ⟨fun h => absurd (DN1.out.symm.trans h) hz, fun _ => by rw [DN1.out], ?_⟩
        exact (((((BW.out.setCell (Nat.le_refl _) _).setCell (Nat.le_refl _) _).setCell (Nat.le_refl _) _).setCell (Nat.le_refl _) _).setCell (Nat.le_refl _) _).setCell (Nat.le_refl _) _
end Go.Proofs.YtgdopepghmjopaaGreatDoor
