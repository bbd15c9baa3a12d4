import Derived.Test.YtgdopepghmjopaaGreatDoorPxRRows
import Derived.Test.YtgdopepghmjopaaGreatDoorGPxCheck
namespace Go.Proofs.YtgdopepghmjopaaGreatDoor
open Go.RowKit Go.Shelf
/-- what ParseManifest reads -/
def pmA1 (tx : ByteArray) : Nat := manTitle.size + tabN (headFDs 0 0) (tx.data.toList.drop manTitle.size)
def pmH (tx : ByteArray) : HV := rdHead (tx.data.toList.drop manTitle.size)
def pmN (tx : ByteArray) : Nat := (pmH tx).2.2.2.toNat
def pmR (tx : ByteArray) : Option (List RV × Nat) := rowsAt tx (pmA1 tx) (pmN tx)
def pmA2 (tx : ByteArray) : Nat := ((pmR tx).map (·.2)).getD 0
def pmRs (tx : ByteArray) : List RV := ((pmR tx).map (·.1)).getD []
def pmT (tx : ByteArray) : TV := rdTail (tx.data.toList.drop (pmA2 tx))
def pmA3 (tx : ByteArray) : Nat := pmA2 tx + tabN (tailFDs 0) (tx.data.toList.drop (pmA2 tx))
def pmForm (tx : ByteArray) : Bool := pfx manTitle tx.data.toList && (tabOk (headFDs 0 0) (tx.data.toList.drop manTitle.size) && ((pmR tx).isSome && tabOk (tailFDs 0) (tx.data.toList.drop (pmA2 tx))))
def pmM (tx : ByteArray) : MF := ⟨(pmH tx).1, (pmH tx).2.1, (pmH tx).2.2.1, pmRs tx, (pmT tx).1, (pmT tx).2⟩
def pmE (tx : ByteArray) : Int := if pmForm tx then (if clsE tx (pmA3 tx) = 0 then mfE (pmM tx) else clsE tx (pmA3 tx)) else 40
theorem numV_lt (l : List UInt8) : numV l ≤ 9999999999999999 := by
  unfold numV
  split
  · rename_i h
    unfold numOk at h
    simp only [Bool.and_eq_true, decide_eq_true_eq] at h
    have h1 := valD_lt l l.length (Nat.le_refl _) (by rw [List.take_length]; exact h.2)
    rw [List.take_length] at h1
    have h2 : (10 : Nat) ^ l.length ≤ 10 ^ 16 := Nat.pow_le_pow_right (by omega) h.1.1.2
    have h3 : (10 : Nat) ^ 16 = 10000000000000000 := rfl
    omega
  · omega
theorem pmN_eq (tx : ByteArray) : (pmH tx).2.2.2 = (pmN tx : Int) ∧ pmN tx ≤ 9999999999999999 := by
  have e : ∃ l, (pmH tx).2.2.2 = (numV l : Int) := ⟨_, rfl⟩
  obtain ⟨l, e⟩ := e
  have := numV_lt l
  unfold pmN
  rw [e, Int.toNat_natCast]
  exact ⟨rfl, this⟩
theorem rcs_at (l : List RV) : ∀ i (h : i < l.length), (rcs l)[i * 4]? = some (.string l[i].1) ∧ (rcs l)[i * 4 + 1]? = some (.int .i64 l[i].2.1) ∧ (rcs l)[i * 4 + 2]? = some (.int .i64 l[i].2.2.1) ∧ (rcs l)[i * 4 + 3]? = some (.string l[i].2.2.2) := by
  induction l with
  | nil => intro i h; simp at h
  | cons p r ih =>
    intro i h
    cases i with
    | zero => exact ⟨rfl, rfl, rfl, rfl⟩
    | succ i =>
      have := ih i (by simpa using h)
      have e : rcs (p :: r) = .string p.1 :: .int .i64 p.2.1 :: .int .i64 p.2.2.1 :: .string p.2.2.2 :: rcs r := rfl
      rw [e, show (i + 1) * 4 = i * 4 + 1 + 1 + 1 + 1 by omega, show i * 4 + 1 + 1 + 1 + 1 + 2 = i * 4 + 2 + 1 + 1 + 1 + 1 by omega, show i * 4 + 1 + 1 + 1 + 1 + 3 = i * 4 + 3 + 1 + 1 + 1 + 1 by omega]
      simpa using this
/-- rows that a list holds -/
theorem own_rows {w : World} {base : Nat} {v : Value} {l : List RV} {e : TypeId} (h : w.ownsRow base e 4 v l.length (rcs l)) : ∃ (a : Option Addr) (g c : Nat), v = .slice a l.length c ∧ l.length ≤ c ∧ (0 < l.length → a = some ⟨g, 0, none⟩) ∧ LiesR g 0 w l := by
  have h' := h
  obtain ⟨_, ⟨rfl, hn⟩ | ⟨g, cap, cur, rfl, _, hg, hc, _⟩⟩ := h
  · exact ⟨none, 0, 0, by rw [hn], by omega, fun z => by omega, fun i hi => by omega⟩
  · refine ⟨_, g, cap, rfl, hc, fun _ => rfl, fun i hi => ?_⟩
    have h0 := h'.cellAt (i * 4) (by omega)
    have h1 := h'.cellAt (i * 4 + 1) (by omega)
    have h2 := h'.cellAt (i * 4 + 2) (by omega)
    have h3 := h'.cellAt (i * 4 + 3) (by omega)
    obtain ⟨p0, p1, p2, p3⟩ := rcs_at l i hi
    unfold RowAt
    rw [Nat.zero_add, h0, h1, h2, h3, p0, p1, p2, p3]
    exact ⟨rfl, rfl, rfl, rfl⟩
theorem pmH_size (tx : ByteArray) : (pmH tx).1.size ≤ tx.size := by
  have e : (pmH tx).1 = strOf (fldW (headFDs 0 0)[0] (tx.data.toList.drop manTitle.size)) := rfl
  rw [e, strOf_size]
  unfold fldW
  refine Nat.le_trans (wordL_le _) ?_
  rw [List.length_drop, List.length_drop, size_data]
  omega
theorem rdRow_name (l : List UInt8) : (rdRow l).1.size ≤ l.length := by
  have e : (rdRow l).1 = strOf (fldW (rowFDs 0)[0] l) := rfl
  rw [e, strOf_size]
  unfold fldW
  refine Nat.le_trans (wordL_le _) ?_
  rw [List.length_drop]
  omega
theorem rowsAt_names {tx : ByteArray} {a : Nat} : ∀ k l q, rowsAt tx a k = some (l, q) → ∀ r ∈ l, r.1.size ≤ tx.size := by
  intro k
  induction k with
  | zero => intro l q h; simp [rowsAt] at h; obtain ⟨rfl, rfl⟩ := h; intro r hr; cases hr
  | succ k ih =>
    intro l q h
    rw [rowsAt] at h
    split at h
    · cases h
    · rename_i l' q' h'
      by_cases hz : tabOk (rowFDs 0) (tx.data.toList.drop q') = true
      · rw [if_pos hz] at h
        simp only [Option.some.injEq, Prod.mk.injEq] at h
        obtain ⟨rfl, rfl⟩ := h
        intro r hr
        rcases List.mem_append.1 hr with h1 | h1
        · exact ih _ _ h' r h1
        · simp at h1
          subst h1
          refine Nat.le_trans (rdRow_name _) ?_
          rw [List.length_drop, size_data]; omega
      · rw [if_neg hz] at h; cases h
theorem own_lower {base base' e s n : Nat} {w : World} {v : Value} {x : List Value} (o : w.ownsRow base e s v n x) (h : base' ≤ base) : w.ownsRow base' e s v n x := by
  refine ⟨o.1, ?_⟩
  rcases o.2 with q | ⟨g, cap, cur, q, hg, r⟩
  · exact .inl q
  · exact .inr ⟨g, cap, cur, q, Nat.le_trans h hg, r⟩
theorem KbX.wide {X Y : Nat → Prop} {w w' : World} (h : KbX X w w') (hs : ∀ x, X x → Y x) : KbX Y w w' := ⟨h.os, h.tape, h.output, h.size, fun i hi hn => h.block i hi (fun hx => hn (hs i hx))⟩
set_option maxHeartbeats 8000000 in
set_option maxRecDepth 100000 in
set_option linter.unusedSimpArgs false in
/-- ParseManifest -/
theorem parseManifest_any (tx : ByteArray) (w : World) (htx : tx.size ≤ 1000000000000) (hT4 : Tab4 1 w) :
    Calls Tryz.prog 23 #[.string tx] w fun e w' => (pmE tx = 0 → ∃ v, e = .returned (.tuple #[.agg #[.string (pmM tx).st, .int .i64 (pmM tx).ver, .int .i64 (pmM tx).nod, v, .int .i64 (pmM tx).tot, .int .i64 (pmM tx).whl], .int .i64 0]) ∧ w'.ownsRow w.heap.size 36 4 v (pmM tx).rs.length (rcs (pmM tx).rs)) ∧ (¬ pmE tx = 0 → e = .returned (.tuple #[.agg #[.string ⟨#[]⟩, .int .i64 0, .int .i64 0, .slice none 0 0, .int .i64 0, .int .i64 0], .int .i64 (pmE tx)])) ∧ Below w.heap.size w w' := by
  obtain ⟨Wr, hWr⟩ : ∃ Wr, Wr = w.alloc (.cells #[.string ⟨#[]⟩, .int .i64 0, .int .i64 0, .slice none 0 0, .int .i64 0, .int .i64 0] 24) := ⟨_, rfl⟩
  have br : Below w.heap.size w Wr := by rw [hWr]; exact (Below.refl _ w).alloc (Nat.le_refl _) _
  have sr : Wr.heap.size = w.heap.size + 1 := by rw [hWr]; simp
  obtain ⟨Wm, hWm⟩ : ∃ Wm, Wm = Wr.alloc (.cells #[.string ⟨#[]⟩, .int .i64 0, .int .i64 0, .slice none 0 0, .int .i64 0, .int .i64 0] 24) := ⟨_, rfl⟩
  have bm : Below Wr.heap.size Wr Wm := by rw [hWm]; exact (Below.refl _ _).alloc (Nat.le_refl _) _
  have sm : Wm.heap.size = w.heap.size + 1 + 1 := by rw [hWm]; simp [sr]
  obtain ⟨Wc, hWc⟩ : ∃ Wc, Wc = Wm.alloc (.cells #[.int .i64 0] 3) := ⟨_, rfl⟩
  have bc : Below Wm.heap.size Wm Wc := by rw [hWc]; exact (Below.refl _ _).alloc (Nat.le_refl _) _
  have sc : Wc.heap.size = w.heap.size + 1 + 1 + 1 := by rw [hWc]; simp [sm]
  obtain ⟨W0, hW0⟩ : ∃ W0, W0 = Wc.alloc (.cells #[.string tx, .int .i64 0] 85) := ⟨_, rfl⟩
  have b0 : Below Wc.heap.size Wc W0 := by rw [hW0]; exact (Below.refl _ _).alloc (Nat.le_refl _) _
  have s0 : W0.heap.size = w.heap.size + 1 + 1 + 1 + 1 := by rw [hW0]; simp [sc]
  have RD0 : RdAt (w.heap.size + 1 + 1 + 1) tx 0 W0 := by rw [hW0, ← sc]; exact ⟨by simp, by simp, by simp⟩
  have bc0 : Below Wm.heap.size Wm W0 := bc.trans (b0.mono bc.size)
  have bm0 : Below Wr.heap.size Wr W0 := bm.trans (bc0.mono bm.size)
  have br0 : Below w.heap.size w W0 := br.trans (bm0.mono br.size)
  have CC0 : W0.cell? ⟨w.heap.size + 1 + 1, 0, none⟩ = some (.int .i64 0) ∧ W0.frozen? ⟨w.heap.size + 1 + 1, 0, none⟩ = false := by
    rw [b0.cell (by show w.heap.size + 1 + 1 < _; omega), b0.frozen (by show w.heap.size + 1 + 1 < _; omega), hWc, ← sm]; exact ⟨by simp, by simp⟩
  have MC0 : (W0.cell? ⟨w.heap.size + 1, 0, none⟩ = some (.string ⟨#[]⟩) ∧ W0.cell? ⟨w.heap.size + 1, 1, none⟩ = some (.int .i64 0) ∧ W0.cell? ⟨w.heap.size + 1, 2, none⟩ = some (.int .i64 0) ∧ W0.cell? ⟨w.heap.size + 1, 3, none⟩ = some (.slice none 0 0) ∧ W0.cell? ⟨w.heap.size + 1, 4, none⟩ = some (.int .i64 0) ∧ W0.cell? ⟨w.heap.size + 1, 5, none⟩ = some (.int .i64 0)) ∧ ∀ o, o < 6 → W0.frozen? ⟨w.heap.size + 1, o, none⟩ = false := by
    refine ⟨?_, fun o ho => ?_⟩
    · rw [bc0.cell (by show w.heap.size + 1 < _; omega), bc0.cell (by show w.heap.size + 1 < _; omega), bc0.cell (by show w.heap.size + 1 < _; omega), bc0.cell (by show w.heap.size + 1 < _; omega), bc0.cell (by show w.heap.size + 1 < _; omega), bc0.cell (by show w.heap.size + 1 < _; omega), hWm, ← sr]
      exact ⟨by simp, by simp, by simp, by simp, by simp, by simp⟩
    · rw [bc0.frozen (by show w.heap.size + 1 < _; omega), hWm, ← sr]
      match o, ho with
      | 0, _ => simp
      | 1, _ => simp
      | 2, _ => simp
      | 3, _ => simp
      | 4, _ => simp
      | 5, _ => simp
  have RS : Hid (∀ w', KbX (fun x => x = w.heap.size + 1 + 1 + 1 ∨ x = w.heap.size + 1 ∨ x = w.heap.size + 1 + 1) W0 w' → (w'.cell? ⟨w.heap.size, 0, none⟩ = some (.string ⟨#[]⟩) ∧ w'.cell? ⟨w.heap.size, 1, none⟩ = some (.int .i64 0) ∧ w'.cell? ⟨w.heap.size, 2, none⟩ = some (.int .i64 0) ∧ w'.cell? ⟨w.heap.size, 3, none⟩ = some (.slice none 0 0) ∧ w'.cell? ⟨w.heap.size, 4, none⟩ = some (.int .i64 0) ∧ w'.cell? ⟨w.heap.size, 5, none⟩ = some (.int .i64 0)) ∧ (w'.frozen? ⟨w.heap.size, 0, none⟩ = false ∧ w'.frozen? ⟨w.heap.size, 1, none⟩ = false ∧ w'.frozen? ⟨w.heap.size, 2, none⟩ = false ∧ w'.frozen? ⟨w.heap.size, 3, none⟩ = false ∧ w'.frozen? ⟨w.heap.size, 4, none⟩ = false ∧ w'.frozen? ⟨w.heap.size, 5, none⟩ = false) ∧ w.heap.size < w'.heap.size) := fun w' hk => by
    have hl : w.heap.size < W0.heap.size := by omega
    have hx : ¬ (fun x => x = w.heap.size + 1 + 1 + 1 ∨ x = w.heap.size + 1 ∨ x = w.heap.size + 1 + 1) w.heap.size := by intro h; rcases h with h | h | h <;> omega
    have hl2 : w.heap.size < Wr.heap.size := by omega
    have hz := hk.size
    rw [hk.cell hl hx, hk.cell hl hx, hk.cell hl hx, hk.cell hl hx, hk.cell hl hx, hk.cell hl hx, hk.frozen hl hx, hk.frozen hl hx, hk.frozen hl hx, hk.frozen hl hx, hk.frozen hl hx, hk.frozen hl hx, bm0.cell (by exact hl2), bm0.cell (by exact hl2), bm0.cell (by exact hl2), bm0.cell (by exact hl2), bm0.cell (by exact hl2), bm0.cell (by exact hl2), bm0.frozen (by exact hl2), bm0.frozen (by exact hl2), bm0.frozen (by exact hl2), bm0.frozen (by exact hl2), bm0.frozen (by exact hl2), bm0.frozen (by exact hl2), hWr]
    exact ⟨⟨by simp, by simp, by simp, by simp, by simp, by simp⟩, ⟨by simp, by simp, by simp, by simp, by simp, by simp⟩, by omega⟩
  have FIN : Hid (∀ w', KbX (fun x => x = w.heap.size + 1 + 1 + 1 ∨ x = w.heap.size + 1 ∨ x = w.heap.size + 1 + 1) W0 w' → Below w.heap.size w w') := fun w' hk => ⟨hk.os.trans br0.os, hk.tape.trans br0.tape, hk.output.trans br0.output, Nat.le_trans br0.size hk.size, fun i hi => (hk.block i (by omega) (by intro h; rcases h with h | h | h <;> omega)).trans (br0.block i hi)⟩
  have C1 := hide (skip_any (w.heap.size + 1 + 1 + 1) tx manTitle 0 W0 RD0 (Nat.zero_le _) (by omega))
  rw [List.drop_zero] at C1
  obtain ⟨E, hE⟩ : ∃ E, E = pmE tx := ⟨_, rfl⟩
  rw [← hE]
  clear br bm bc b0 bc0 bm0 br0 RD0
  cases hp : pfx manTitle tx.data.toList with
  | false =>
    have HE : Hid (E = 40) := by show _ = _; rw [hE]; unfold pmE pmForm; rw [hp]; rfl
    have hEn : Hid (¬ (40 : Int) = 0) := by show ¬ _; omega
    rw [hp] at C1
    unfold manTitle at C1
    clear hE MC0 CC0
    go_enter Tryz.func23, Tryz.ntmps23
    go_wp2_with fail
    rw [← hWr, ← hWm, ← hWc, ← hW0]
    clear hWr hWm hWc hW0 sr sm sc s0
    refine Calls.mono C1.out ?_
    rintro x w1 ⟨rfl, r1, k1⟩
    have K1 := hide (KbX.of (X := (fun x => x = w.heap.size + 1 + 1 + 1 ∨ x = w.heap.size + 1 ∨ x = w.heap.size + 1 + 1)) k1 (.inl rfl))
    clear r1 k1 C1
    obtain ⟨⟨z0, z1, z2, z3, z4, z5⟩, ⟨f0, f1, f2, f3, f4, f5⟩, hl3⟩ := RS.out _ K1.out
    have BF := hide (FIN.out _ K1.out)
    go_wp2_with fail
    refine bodyPost_ret (v := .tuple #[.agg #[.string ⟨#[]⟩, .int .i64 0, .int .i64 0, .slice none 0 0, .int .i64 0, .int .i64 0], .int .i64 40]) (by simp [results, Tryz.results23, go_sem, z0, z1, z2, z3, z4, z5]) rfl ⟨fun h => ?_, fun _ => ?_, ?_⟩
    · rw [HE.out] at h; exact absurd h (by simp)
    · rw [HE.out]
    · exact (((((BF.out.setCell (Nat.le_refl _) _).setCell (Nat.le_refl _) _).setCell (Nat.le_refl _) _).setCell (Nat.le_refl _) _).setCell (Nat.le_refl _) _).setCell (Nat.le_refl _) _
  | true =>
    rw [hp] at C1
    have hA : skA manTitle tx 0 = manTitle.size := by unfold skA; rw [List.drop_zero, hp]; simp
    rw [hA] at C1
    have htl : manTitle.size ≤ tx.size := by have := pfx_le hp; rwa [size_data] at this
    have HT := hide (fun w1 => headTable_any (w.heap.size + 1) (w.heap.size + 1 + 1) w1)
    have HR := hide (fun w1 (k1 : Kb (w.heap.size + 1 + 1 + 1) W0 w1) (r1 : RdAt (w.heap.size + 1 + 1 + 1) tx manTitle.size w1) => headRead_any (w.heap.size + 1 + 1 + 1) (w.heap.size + 1) (w.heap.size + 1 + 1) tx manTitle.size w1 ⟨by rw [k1.cell (by omega) (by omega)]; exact MC0.1.1, by rw [k1.cell (by omega) (by omega)]; exact MC0.1.2.1, by rw [k1.cell (by omega) (by omega)]; exact MC0.1.2.2.1, by rw [k1.cell (by omega) (by omega)]; exact CC0.1⟩ ⟨by rw [k1.frozen (by omega) (by omega)]; exact MC0.2 0 (by omega), by rw [k1.frozen (by omega) (by omega)]; exact MC0.2 1 (by omega), by rw [k1.frozen (by omega) (by omega)]; exact MC0.2 2 (by omega), by rw [k1.frozen (by omega) (by omega)]; exact CC0.2⟩ r1 (by omega) (by omega) (by omega) htl (by omega))
    have MCH := hide MC0
    have hMl : w.heap.size + 1 < W0.heap.size := by omega
    have hRl : w.heap.size + 1 + 1 + 1 < W0.heap.size := by omega
    have hMR : w.heap.size + 1 ≠ w.heap.size + 1 + 1 + 1 := by omega
    have HT4 := hide (fun w' (hb : Below w.heap.size w w') => hT4.below hb hT4.lt)
    have HPM : Hid (pmA1 tx = manTitle.size + tabN (headFDs 0 0) (tx.data.toList.drop manTitle.size) ∧ pmH tx = rdHead (tx.data.toList.drop manTitle.size)) := ⟨rfl, rfl⟩
    rw [← HPM.out.1, ← HPM.out.2] at HR
    cases hh : tabOk (headFDs 0 0) (tx.data.toList.drop manTitle.size) with
    | false =>
      have HE : Hid (E = 40) := by show _ = _; rw [hE]; unfold pmE pmForm; rw [hp, hh]; rfl
      have hEn : Hid (¬ (40 : Int) = 0) := by show ¬ _; omega
      rw [hh] at HR
      unfold manTitle at C1
      clear hE MC0 CC0
      go_enter Tryz.func23, Tryz.ntmps23
      go_wp2_with fail
      rw [← hWr, ← hWm, ← hWc, ← hW0]
      clear hWr hWm hWc hW0 sr sm sc s0
      refine Calls.mono C1.out ?_
      rintro x w1 ⟨rfl, r1, k1⟩
      have K1 := hide (KbX.of (X := (fun x => x = w.heap.size + 1 + 1 + 1 ∨ x = w.heap.size + 1 ∨ x = w.heap.size + 1 + 1)) k1 (.inl rfl))
      have HR1 := hide (HR.out w1 k1 r1)
      clear r1 k1 C1 HR
      go_wp2_with fail
      refine Calls.mono (HT.out w1) ?_
      rintro x w2 ⟨rfl, rfl⟩
      go_wp2_with fail
      refine Calls.mono HR1.out ?_
      rintro x w2 ⟨rfl, _, k2, _⟩
      have K2 := hide (K1.out.trans k2)
      clear k2 HR1 K1 HT
      obtain ⟨⟨z0, z1, z2, z3, z4, z5⟩, ⟨f0, f1, f2, f3, f4, f5⟩, hl3⟩ := RS.out _ K2.out
      have BF := hide (FIN.out _ K2.out)
      go_wp2_with fail
      refine bodyPost_ret (v := .tuple #[.agg #[.string ⟨#[]⟩, .int .i64 0, .int .i64 0, .slice none 0 0, .int .i64 0, .int .i64 0], .int .i64 40]) (by simp [results, Tryz.results23, go_sem, z0, z1, z2, z3, z4, z5]) rfl ⟨fun h => ?_, fun _ => ?_, ?_⟩
      · rw [HE.out] at h; exact absurd h (by simp)
      · rw [HE.out]
      · exact (((((BF.out.setCell (Nat.le_refl _) _).setCell (Nat.le_refl _) _).setCell (Nat.le_refl _) _).setCell (Nat.le_refl _) _).setCell (Nat.le_refl _) _).setCell (Nat.le_refl _) _
    | true =>
      rw [hh] at HR
      have hN := tabN_le _ _ hh
      rw [List.length_drop, size_data] at hN
      have hA1 : pmA1 tx ≤ tx.size := by rw [HPM.out.1]; omega
      obtain ⟨hne1, hne2⟩ := pmN_eq tx
      have HNe := hide hne1
      have RRf := hide (fun w2 (r2 : RdAt (w.heap.size + 1 + 1 + 1) tx (pmA1 tx) w2) h3 h4 => readRows_any (w.heap.size + 1 + 1 + 1) (w.heap.size + 1) (pmN tx) tx (pmA1 tx) w2 r2 (by omega) h3 h4 (by omega) hA1 htx)
      have HPR : Hid (pmR tx = rowsAt tx (pmA1 tx) (pmN tx)) := rfl
      rw [← HPR.out] at RRf
      clear hne1
      cases hr : pmR tx with
      | none =>
        have HE : Hid (E = 40) := by show _ = _; rw [hE]; unfold pmE pmForm; rw [hp, hh, hr]; rfl
        rw [hr] at RRf
        unfold manTitle at C1
        clear hE MC0 CC0
        go_enter Tryz.func23, Tryz.ntmps23
        go_wp2_with fail
        rw [← hWr, ← hWm, ← hWc, ← hW0]
        clear hWr hWm hWc hW0 sr sm sc s0
        refine Calls.mono C1.out ?_
        rintro x w1 ⟨rfl, r1, k1⟩
        have K1 := hide (KbX.of (X := (fun x => x = w.heap.size + 1 + 1 + 1 ∨ x = w.heap.size + 1 ∨ x = w.heap.size + 1 + 1)) k1 (.inl rfl))
        have C13 : w1.cell? ⟨w.heap.size + 1, 3, none⟩ = some (.slice none 0 0) ∧ (∀ o, o < 6 → w1.frozen? ⟨w.heap.size + 1, o, none⟩ = false) ∧ w1.cell? ⟨w.heap.size + 1, 4, none⟩ = some (.int .i64 0) ∧ w1.cell? ⟨w.heap.size + 1, 5, none⟩ = some (.int .i64 0) := ⟨by rw [k1.cell hMl hMR]; exact MCH.out.1.2.2.2.1, fun o ho => by rw [k1.frozen hMl hMR]; exact MCH.out.2 o ho, by rw [k1.cell hMl hMR]; exact MCH.out.1.2.2.2.2.1, by rw [k1.cell hMl hMR]; exact MCH.out.1.2.2.2.2.2⟩
        have HC1 := hide C13
        have HR1 := hide (HR.out w1 k1 r1)
        clear r1 k1 C1 HR C13
        go_wp2_with fail
        refine Calls.mono (HT.out w1) ?_
        rintro x w2 ⟨rfl, rfl⟩
        go_wp2_with fail
        refine Calls.mono HR1.out ?_
        rintro x w2 ⟨rfl, d2, k2, p2, q2, _⟩
        obtain ⟨⟨y0, y1, y2, y3⟩, rd2⟩ := d2 trivial
        have K2 := hide (K1.out.trans k2)
        have C23 : Hid (w2.cell? ⟨w.heap.size + 1, 3, none⟩ = some (.slice none 0 0) ∧ (∀ o, o < 6 → w2.frozen? ⟨w.heap.size + 1, o, none⟩ = false) ∧ w2.cell? ⟨w.heap.size + 1, 4, none⟩ = some (.int .i64 0) ∧ w2.cell? ⟨w.heap.size + 1, 5, none⟩ = some (.int .i64 0)) := ⟨by rw [p2 3 (by omega)]; exact HC1.out.1, fun o ho => by rw [q2 o]; exact HC1.out.2.1 o ho, by rw [p2 4 (by omega)]; exact HC1.out.2.2.1, by rw [p2 5 (by omega)]; exact HC1.out.2.2.2⟩
        have Y2 : Hid (w2.cell? ⟨w.heap.size + 1, 0, none⟩ = some (.string (pmH tx).1) ∧ w2.cell? ⟨w.heap.size + 1, 1, none⟩ = some (.int .i64 (pmH tx).2.1) ∧ w2.cell? ⟨w.heap.size + 1, 2, none⟩ = some (.int .i64 (pmH tx).2.2.1)) := ⟨y0, y1, y2⟩
        have RR := hide (RRf.out w2 rd2 C23.out.1 (C23.out.2.1 3 (by omega)))
        rw [HNe.out] at y3
        have hcl : w.heap.size + 1 + 1 < w2.heap.size := lt_of_cell? y3
        clear k2 HR1 K1 HT d2 p2 q2 HC1 y0 y1 y2 rd2
        go_wp2_with fail
        refine Calls.mono RR.out ?_
        rintro x w3 ⟨rfl, d3, k3, p3, q3, a3, e3⟩
        have K3 := hide (K2.out.trans (k3.wide (fun x hx => by rcases hx with h | h <;> simp [h])))
        clear d3 k3 p3 q3 e3 RR
        obtain ⟨⟨z0, z1, z2, z3, z4, z5⟩, ⟨f0, f1, f2, f3, f4, f5⟩, hl3⟩ := RS.out _ K3.out
        have BF := hide (FIN.out _ K3.out)
        go_wp2_with fail
        refine bodyPost_ret (v := .tuple #[.agg #[.string ⟨#[]⟩, .int .i64 0, .int .i64 0, .slice none 0 0, .int .i64 0, .int .i64 0], .int .i64 40]) (by simp [results, Tryz.results23, go_sem, z0, z1, z2, z3, z4, z5]) rfl ⟨fun h => ?_, fun _ => ?_, ?_⟩
        · rw [HE.out] at h; exact absurd h (by simp)
        · rw [HE.out]
        · exact (((((BF.out.setCell (Nat.le_refl _) _).setCell (Nat.le_refl _) _).setCell (Nat.le_refl _) _).setCell (Nat.le_refl _) _).setCell (Nat.le_refl _) _).setCell (Nat.le_refl _) _
      | some pr =>
        obtain ⟨rs, a2⟩ := pr
        rw [hr] at RRf
        obtain ⟨g1, g2, g3⟩ := rowsAt_le hA1 _ _ _ (HPR.out.symm.trans hr)
        have TT := hide (fun w3 => tailTable_any (w.heap.size + 1) w3)
        have TRf := hide (fun w3 (r3 : RdAt (w.heap.size + 1 + 1 + 1) tx a2 w3) h3 h4 => tailRead_any (w.heap.size + 1 + 1 + 1) (w.heap.size + 1) tx a2 w3 h3 h4 r3 (by omega) g2 (by omega))
        have hA2 : pmA2 tx = a2 := by unfold pmA2; rw [hr]; rfl
        have hRs : pmRs tx = rs := by unfold pmRs; rw [hr]; rfl
        cases ht : tabOk (tailFDs 0) (tx.data.toList.drop a2) with
        | false =>
          have HE : Hid (E = 40) := by show _ = _; rw [hE]; unfold pmE pmForm; rw [hp, hh, hr, hA2, ht]; rfl
          rw [ht] at TRf
          unfold manTitle at C1
          clear hE MC0 CC0 hA2 hRs
          go_enter Tryz.func23, Tryz.ntmps23
          go_wp2_with fail
          rw [← hWr, ← hWm, ← hWc, ← hW0]
          clear hWr hWm hWc hW0 sr sm sc s0
          refine Calls.mono C1.out ?_
          rintro x w1 ⟨rfl, r1, k1⟩
          have K1 := hide (KbX.of (X := (fun x => x = w.heap.size + 1 + 1 + 1 ∨ x = w.heap.size + 1 ∨ x = w.heap.size + 1 + 1)) k1 (.inl rfl))
          have C13 : w1.cell? ⟨w.heap.size + 1, 3, none⟩ = some (.slice none 0 0) ∧ (∀ o, o < 6 → w1.frozen? ⟨w.heap.size + 1, o, none⟩ = false) ∧ w1.cell? ⟨w.heap.size + 1, 4, none⟩ = some (.int .i64 0) ∧ w1.cell? ⟨w.heap.size + 1, 5, none⟩ = some (.int .i64 0) := ⟨by rw [k1.cell hMl hMR]; exact MCH.out.1.2.2.2.1, fun o ho => by rw [k1.frozen hMl hMR]; exact MCH.out.2 o ho, by rw [k1.cell hMl hMR]; exact MCH.out.1.2.2.2.2.1, by rw [k1.cell hMl hMR]; exact MCH.out.1.2.2.2.2.2⟩
          have HC1 := hide C13
          have HR1 := hide (HR.out w1 k1 r1)
          clear r1 k1 C1 HR C13
          go_wp2_with fail
          refine Calls.mono (HT.out w1) ?_
          rintro x w2 ⟨rfl, rfl⟩
          go_wp2_with fail
          refine Calls.mono HR1.out ?_
          rintro x w2 ⟨rfl, d2, k2, p2, q2, _⟩
          obtain ⟨⟨y0, y1, y2, y3⟩, rd2⟩ := d2 trivial
          have K2 := hide (K1.out.trans k2)
          have C23 : Hid (w2.cell? ⟨w.heap.size + 1, 3, none⟩ = some (.slice none 0 0) ∧ (∀ o, o < 6 → w2.frozen? ⟨w.heap.size + 1, o, none⟩ = false) ∧ w2.cell? ⟨w.heap.size + 1, 4, none⟩ = some (.int .i64 0) ∧ w2.cell? ⟨w.heap.size + 1, 5, none⟩ = some (.int .i64 0)) := ⟨by rw [p2 3 (by omega)]; exact HC1.out.1, fun o ho => by rw [q2 o]; exact HC1.out.2.1 o ho, by rw [p2 4 (by omega)]; exact HC1.out.2.2.1, by rw [p2 5 (by omega)]; exact HC1.out.2.2.2⟩
          have Y2 : Hid (w2.cell? ⟨w.heap.size + 1, 0, none⟩ = some (.string (pmH tx).1) ∧ w2.cell? ⟨w.heap.size + 1, 1, none⟩ = some (.int .i64 (pmH tx).2.1) ∧ w2.cell? ⟨w.heap.size + 1, 2, none⟩ = some (.int .i64 (pmH tx).2.2.1)) := ⟨y0, y1, y2⟩
          have RR := hide (RRf.out w2 rd2 C23.out.1 (C23.out.2.1 3 (by omega)))
          rw [HNe.out] at y3
          have hcl : w.heap.size + 1 + 1 < w2.heap.size := lt_of_cell? y3
          clear k2 HR1 K1 HT d2 p2 q2 HC1 y0 y1 y2 rd2
          go_wp2_with fail
          refine Calls.mono RR.out ?_
          rintro x w3 ⟨rfl, d3, k3, p3, q3, a3, e3⟩
          have K3 := hide (K2.out.trans (k3.wide (fun x hx => by rcases hx with h | h <;> simp [h])))
          obtain ⟨rd3, v, c3, o3⟩ := d3 _ _ rfl
          have O3 := hide o3
          have TA3 : TailAt w3 (w.heap.size + 1) (0, 0) := ⟨by rw [p3 4 (by omega)]; exact C23.out.2.2.1, by rw [p3 5 (by omega)]; exact C23.out.2.2.2⟩
          have TR := hide (TRf.out w3 rd3 TA3 ⟨by rw [q3 4]; exact C23.out.2.1 4 (by omega), by rw [q3 5]; exact C23.out.2.1 5 (by omega)⟩)
          have Y3 : Hid (w3.cell? ⟨w.heap.size + 1, 0, none⟩ = some (.string (pmH tx).1) ∧ w3.cell? ⟨w.heap.size + 1, 1, none⟩ = some (.int .i64 (pmH tx).2.1) ∧ w3.cell? ⟨w.heap.size + 1, 2, none⟩ = some (.int .i64 (pmH tx).2.2.1) ∧ w3.cell? ⟨w.heap.size + 1, 3, none⟩ = some v) := ⟨by rw [p3 0 (by omega)]; exact Y2.out.1, by rw [p3 1 (by omega)]; exact Y2.out.2.1, by rw [p3 2 (by omega)]; exact Y2.out.2.2, c3⟩
          have hs23 := K2.out.size
          clear d3 k3 p3 q3 e3 RR rd3 TA3 c3 o3 y3 hcl
          go_wp2_with fail
          refine Calls.mono (TT.out w3) ?_
          rintro x w4 ⟨rfl, rfl⟩
          go_wp2_with fail
          refine Calls.mono TR.out ?_
          rintro x w4 ⟨rfl, d4, k4, p4, q4, _⟩
          have K4 := hide (K3.out.trans (k4.wide (fun x hx => by rcases hx with h | h <;> simp [h])))
          clear d4 k4 p4 q4 TR
          obtain ⟨⟨z0, z1, z2, z3, z4, z5⟩, ⟨f0, f1, f2, f3, f4, f5⟩, hl3⟩ := RS.out _ K4.out
          have BF := hide (FIN.out _ K4.out)
          go_wp2_with fail
          refine bodyPost_ret (v := .tuple #[.agg #[.string ⟨#[]⟩, .int .i64 0, .int .i64 0, .slice none 0 0, .int .i64 0, .int .i64 0], .int .i64 40]) (by simp [results, Tryz.results23, go_sem, z0, z1, z2, z3, z4, z5]) rfl ⟨fun h => ?_, fun _ => ?_, ?_⟩
          · rw [HE.out] at h; exact absurd h (by simp)
          · rw [HE.out]
          · exact (((((BF.out.setCell (Nat.le_refl _) _).setCell (Nat.le_refl _) _).setCell (Nat.le_refl _) _).setCell (Nat.le_refl _) _).setCell (Nat.le_refl _) _).setCell (Nat.le_refl _) _
        | true =>
          rw [ht] at TRf
          have hN2 := tabN_le _ _ ht
          rw [List.length_drop, size_data] at hN2
          have HPT : Hid (pmT tx = rdTail (tx.data.toList.drop a2)) := by show _ = _; unfold pmT; rw [hA2]
          have hA3 : pmA3 tx = a2 + tabN (tailFDs 0) (tx.data.toList.drop a2) := by unfold pmA3; rw [hA2]
          have hA3l : pmA3 tx ≤ tx.size := by omega
          rw [← hA3] at TRf
          have CLf := hide (fun w4 (r4 : RdAt (w.heap.size + 1 + 1 + 1) tx (pmA3 tx) w4) (hb : Below w.heap.size w w4) => close_any (w.heap.size + 1 + 1 + 1) tx (pmA3 tx) w4 r4 hA3l (by omega) (HT4.out _ hb))
          have hE2 : E = if clsE tx (pmA3 tx) = 0 then mfE (pmM tx) else clsE tx (pmA3 tx) := by rw [hE]; unfold pmE pmForm; rw [hp, hh, hr, hA2, ht]; rfl
          clear hE
          by_cases hcl : clsE tx (pmA3 tx) = 0
          · have hmm : pmM tx = ⟨(pmH tx).1, (pmH tx).2.1, (pmH tx).2.2.1, rs, (pmT tx).1, (pmT tx).2⟩ := by unfold pmM; rw [hRs]
            have HMM := hide hmm
            have hnm := rowsAt_names _ _ _ (HPR.out.symm.trans hr)
            have hps := pmH_size tx
            have CKf : Hid (∀ w5 ao g cap, (0 < rs.length → ao = some ⟨g, 0, none⟩) → LiesR g 0 w5 rs → Calls Tryz.prog 10 #[.agg #[.string (pmH tx).1, .int .i64 (pmH tx).2.1, .int .i64 (pmH tx).2.2.1, .slice ao rs.length cap, .int .i64 (pmT tx).1, .int .i64 (pmT tx).2]] w5 fun e w' => e = .returned (.int .i64 (mfE (pmM tx))) ∧ Below w5.heap.size w5 w') := fun w5 ao g cap h1 h2 => by
              rw [hmm]
              exact check_any ⟨(pmH tx).1, (pmH tx).2.1, (pmH tx).2.2.1, rs, (pmT tx).1, (pmT tx).2⟩ ao g 0 cap w5 h1 h2 (by show (pmH tx).1.size ≤ _; omega) (fun r hr => by have := hnm r hr; omega) (by show rs.length ≤ _; omega)
            rw [hcl] at CLf
            have hE3 : E = mfE (pmM tx) := by rw [hE2, if_pos hcl]
            unfold manTitle at C1
            clear hE2 MC0 CC0 hA2 hRs hnm hmm hcl hA3 hps hA3l hN hN2 hne2 g1 g2 g3 hA1 htl hA
            by_cases hm : mfE (pmM tx) = 0
            · have HE : Hid (E = 0) := by show _ = _; rw [hE3, hm]
              rw [hm] at CKf
              clear hE3 hm
              go_enter Tryz.func23, Tryz.ntmps23
              go_wp2_with fail
              rw [← hWr, ← hWm, ← hWc, ← hW0]
              clear hWr hWm hWc hW0 sr sm sc s0
              refine Calls.mono C1.out ?_
              rintro x w1 ⟨rfl, r1, k1⟩
              have K1 := hide (KbX.of (X := (fun x => x = w.heap.size + 1 + 1 + 1 ∨ x = w.heap.size + 1 ∨ x = w.heap.size + 1 + 1)) k1 (.inl rfl))
              have C13 : w1.cell? ⟨w.heap.size + 1, 3, none⟩ = some (.slice none 0 0) ∧ (∀ o, o < 6 → w1.frozen? ⟨w.heap.size + 1, o, none⟩ = false) ∧ w1.cell? ⟨w.heap.size + 1, 4, none⟩ = some (.int .i64 0) ∧ w1.cell? ⟨w.heap.size + 1, 5, none⟩ = some (.int .i64 0) := ⟨by rw [k1.cell hMl hMR]; exact MCH.out.1.2.2.2.1, fun o ho => by rw [k1.frozen hMl hMR]; exact MCH.out.2 o ho, by rw [k1.cell hMl hMR]; exact MCH.out.1.2.2.2.2.1, by rw [k1.cell hMl hMR]; exact MCH.out.1.2.2.2.2.2⟩
              have HC1 := hide C13
              have HR1 := hide (HR.out w1 k1 r1)
              clear r1 k1 C1 HR C13
              go_wp2_with fail
              refine Calls.mono (HT.out w1) ?_
              rintro x w2 ⟨rfl, rfl⟩
              go_wp2_with fail
              refine Calls.mono HR1.out ?_
              rintro x w2 ⟨rfl, d2, k2, p2, q2, _⟩
              obtain ⟨⟨y0, y1, y2, y3⟩, rd2⟩ := d2 trivial
              have K2 := hide (K1.out.trans k2)
              have C23 : Hid (w2.cell? ⟨w.heap.size + 1, 3, none⟩ = some (.slice none 0 0) ∧ (∀ o, o < 6 → w2.frozen? ⟨w.heap.size + 1, o, none⟩ = false) ∧ w2.cell? ⟨w.heap.size + 1, 4, none⟩ = some (.int .i64 0) ∧ w2.cell? ⟨w.heap.size + 1, 5, none⟩ = some (.int .i64 0)) := ⟨by rw [p2 3 (by omega)]; exact HC1.out.1, fun o ho => by rw [q2 o]; exact HC1.out.2.1 o ho, by rw [p2 4 (by omega)]; exact HC1.out.2.2.1, by rw [p2 5 (by omega)]; exact HC1.out.2.2.2⟩
              have Y2 : Hid (w2.cell? ⟨w.heap.size + 1, 0, none⟩ = some (.string (pmH tx).1) ∧ w2.cell? ⟨w.heap.size + 1, 1, none⟩ = some (.int .i64 (pmH tx).2.1) ∧ w2.cell? ⟨w.heap.size + 1, 2, none⟩ = some (.int .i64 (pmH tx).2.2.1)) := ⟨y0, y1, y2⟩
              have RR := hide (RRf.out w2 rd2 C23.out.1 (C23.out.2.1 3 (by omega)))
              rw [HNe.out] at y3
              have hcl : w.heap.size + 1 + 1 < w2.heap.size := lt_of_cell? y3
              clear k2 HR1 K1 HT d2 p2 q2 HC1 y0 y1 y2 rd2
              go_wp2_with fail
              refine Calls.mono RR.out ?_
              rintro x w3 ⟨rfl, d3, k3, p3, q3, a3, e3⟩
              have K3 := hide (K2.out.trans (k3.wide (fun x hx => by rcases hx with h | h <;> simp [h])))
              obtain ⟨rd3, v, c3, o3⟩ := d3 _ _ rfl
              have O3 := hide o3
              have TA3 : TailAt w3 (w.heap.size + 1) (0, 0) := ⟨by rw [p3 4 (by omega)]; exact C23.out.2.2.1, by rw [p3 5 (by omega)]; exact C23.out.2.2.2⟩
              have TR := hide (TRf.out w3 rd3 TA3 ⟨by rw [q3 4]; exact C23.out.2.1 4 (by omega), by rw [q3 5]; exact C23.out.2.1 5 (by omega)⟩)
              have Y3 : Hid (w3.cell? ⟨w.heap.size + 1, 0, none⟩ = some (.string (pmH tx).1) ∧ w3.cell? ⟨w.heap.size + 1, 1, none⟩ = some (.int .i64 (pmH tx).2.1) ∧ w3.cell? ⟨w.heap.size + 1, 2, none⟩ = some (.int .i64 (pmH tx).2.2.1) ∧ w3.cell? ⟨w.heap.size + 1, 3, none⟩ = some v) := ⟨by rw [p3 0 (by omega)]; exact Y2.out.1, by rw [p3 1 (by omega)]; exact Y2.out.2.1, by rw [p3 2 (by omega)]; exact Y2.out.2.2, c3⟩
              have hs23 := K2.out.size
              clear d3 k3 p3 q3 e3 RR rd3 TA3 c3 o3 y3 hcl
              go_wp2_with fail
              refine Calls.mono (TT.out w3) ?_
              rintro x w4 ⟨rfl, rfl⟩
              go_wp2_with fail
              refine Calls.mono TR.out ?_
              rintro x w4 ⟨rfl, d4, k4, p4, q4, _⟩
              have K4 := hide (K3.out.trans (k4.wide (fun x hx => by rcases hx with h | h <;> simp [h])))
              obtain ⟨⟨t4, t5⟩, rd4⟩ := d4 trivial
              have CL := hide (CLf.out w4 rd4 (FIN.out _ K4.out))
              have O4 := hide (own_kbx O3.out k4 (fun j hj => by rcases hj with h | h <;> (rw [h]; omega)))
              have Y4 : Hid ((w4.cell? ⟨w.heap.size + 1, 0, none⟩ = some (.string (pmH tx).1) ∧ w4.cell? ⟨w.heap.size + 1, 1, none⟩ = some (.int .i64 (pmH tx).2.1) ∧ w4.cell? ⟨w.heap.size + 1, 2, none⟩ = some (.int .i64 (pmH tx).2.2.1) ∧ w4.cell? ⟨w.heap.size + 1, 3, none⟩ = some v) ∧ w4.cell? ⟨w.heap.size + 1, 4, none⟩ = some (.int .i64 (pmT tx).1) ∧ w4.cell? ⟨w.heap.size + 1, 5, none⟩ = some (.int .i64 (pmT tx).2)) := ⟨⟨by rw [p4 0 (by omega)]; exact Y3.out.1, by rw [p4 1 (by omega)]; exact Y3.out.2.1, by rw [p4 2 (by omega)]; exact Y3.out.2.2.1, by rw [p4 3 (by omega)]; exact Y3.out.2.2.2⟩, by rw [HPT.out]; exact t4, by rw [HPT.out]; exact t5⟩
              have hM4 : w.heap.size + 1 < w4.heap.size := lt_of_cell? t4
              clear d4 k4 p4 q4 TR t4 t5 rd4 O3 Y3 Y2
              go_wp2_with fail
              refine Calls.mono CL.out ?_
              rintro x w5 ⟨rfl, k5⟩
              have K5 := hide (K4.out.trans (KbX.of (X := (fun x => x = w.heap.size + 1 + 1 + 1 ∨ x = w.heap.size + 1 ∨ x = w.heap.size + 1 + 1)) k5 (.inl rfl)))
              have O5 := hide (own_kbx O4.out (KbX.of (X := fun x => x = w.heap.size + 1 + 1 + 1) k5 rfl) (fun j hj => by rw [hj]; omega))
              have Y5 : Hid ((w5.cell? ⟨w.heap.size + 1, 0, none⟩ = some (.string (pmH tx).1) ∧ w5.cell? ⟨w.heap.size + 1, 1, none⟩ = some (.int .i64 (pmH tx).2.1) ∧ w5.cell? ⟨w.heap.size + 1, 2, none⟩ = some (.int .i64 (pmH tx).2.2.1) ∧ w5.cell? ⟨w.heap.size + 1, 3, none⟩ = some v) ∧ w5.cell? ⟨w.heap.size + 1, 4, none⟩ = some (.int .i64 (pmT tx).1) ∧ w5.cell? ⟨w.heap.size + 1, 5, none⟩ = some (.int .i64 (pmT tx).2)) := by
                rw [k5.cell hM4 hMR, k5.cell hM4 hMR, k5.cell hM4 hMR, k5.cell hM4 hMR, k5.cell hM4 hMR, k5.cell hM4 hMR]; exact Y4.out
              clear k5 CL O4 Y4
              obtain ⟨ao, g, cap, rfl, _, y1, y2⟩ := own_rows O5.out
              have CK := hide (CKf.out w5 ao g cap y1 y2)
              obtain ⟨⟨j0, j1, j2, j3⟩, j4, j5⟩ := Y5.out
              have hM5 : w.heap.size + 1 < w5.heap.size := lt_of_cell? j0
              clear y1 y2
              go_wp2_with fail
              refine Calls.mono CK.out ?_
              rintro x w6 ⟨rfl, b6⟩
              have K6 := hide (K5.out.blw b6)
              have O6 := hide (own_blw O5.out b6)
              have m0 : w6.cell? ⟨w.heap.size + 1, 0, none⟩ = some (.string (pmH tx).1) := by rw [b6.cell (by exact hM5)]; exact j0
              have m1 : w6.cell? ⟨w.heap.size + 1, 1, none⟩ = some (.int .i64 (pmH tx).2.1) := by rw [b6.cell (by exact hM5)]; exact j1
              have m2 : w6.cell? ⟨w.heap.size + 1, 2, none⟩ = some (.int .i64 (pmH tx).2.2.1) := by rw [b6.cell (by exact hM5)]; exact j2
              have m3 : w6.cell? ⟨w.heap.size + 1, 3, none⟩ = some (.slice ao rs.length cap) := by rw [b6.cell (by exact hM5)]; exact j3
              have m4 : w6.cell? ⟨w.heap.size + 1, 4, none⟩ = some (.int .i64 (pmT tx).1) := by rw [b6.cell (by exact hM5)]; exact j4
              have m5 : w6.cell? ⟨w.heap.size + 1, 5, none⟩ = some (.int .i64 (pmT tx).2) := by rw [b6.cell (by exact hM5)]; exact j5
              clear b6 CK j0 j1 j2 j3 j4 j5 O5 Y5
              obtain ⟨⟨z0, z1, z2, z3, z4, z5⟩, ⟨f0, f1, f2, f3, f4, f5⟩, hl3⟩ := RS.out _ K6.out
              have BF := hide (FIN.out _ K6.out)
              generalize (pmH tx).1 = V0 at *
              generalize (pmH tx).2.1 = V1 at *
              generalize (pmH tx).2.2.1 = V2 at *
              generalize (pmT tx).1 = V4 at *
              generalize (pmT tx).2 = V5 at *
              go_wp2_with fail
              refine bodyPost_ret (v := .tuple #[.agg #[.string V0, .int .i64 V1, .int .i64 V2, .slice ao rs.length cap, .int .i64 V4, .int .i64 V5], .int .i64 0]) (by simp [results, Tryz.results23, go_sem, z0, z1, z2, z3, z4, z5]) rfl ⟨fun _ => ⟨.slice ao rs.length cap, by rw [HMM.out], ?_⟩, fun h => absurd HE.out h, ?_⟩
              · rw [HMM.out]
                exact own_lower (own_kbx O6.out (KbX.of (X := fun x => x = w.heap.size) ((((((Kb.set _ _ _ _).trans (Kb.set _ _ _ _)).trans (Kb.set _ _ _ _)).trans (Kb.set _ _ _ _)).trans (Kb.set _ _ _ _)).trans (Kb.set _ _ _ _)) rfl) (fun j hj => by rw [hj]; omega)) (by omega)
              · exact (((((BF.out.setCell (Nat.le_refl _) _).setCell (Nat.le_refl _) _).setCell (Nat.le_refl _) _).setCell (Nat.le_refl _) _).setCell (Nat.le_refl _) _).setCell (Nat.le_refl _) _
            · generalize mfE (pmM tx) = CE at *
              have HE : Hid (E = CE) := hE3
              have hcl2 : (CE == 0) = false := by simpa using hm
              clear hE3
              go_enter Tryz.func23, Tryz.ntmps23
              go_wp2_with fail
              rw [← hWr, ← hWm, ← hWc, ← hW0]
              clear hWr hWm hWc hW0 sr sm sc s0
              refine Calls.mono C1.out ?_
              rintro x w1 ⟨rfl, r1, k1⟩
              have K1 := hide (KbX.of (X := (fun x => x = w.heap.size + 1 + 1 + 1 ∨ x = w.heap.size + 1 ∨ x = w.heap.size + 1 + 1)) k1 (.inl rfl))
              have C13 : w1.cell? ⟨w.heap.size + 1, 3, none⟩ = some (.slice none 0 0) ∧ (∀ o, o < 6 → w1.frozen? ⟨w.heap.size + 1, o, none⟩ = false) ∧ w1.cell? ⟨w.heap.size + 1, 4, none⟩ = some (.int .i64 0) ∧ w1.cell? ⟨w.heap.size + 1, 5, none⟩ = some (.int .i64 0) := ⟨by rw [k1.cell hMl hMR]; exact MCH.out.1.2.2.2.1, fun o ho => by rw [k1.frozen hMl hMR]; exact MCH.out.2 o ho, by rw [k1.cell hMl hMR]; exact MCH.out.1.2.2.2.2.1, by rw [k1.cell hMl hMR]; exact MCH.out.1.2.2.2.2.2⟩
              have HC1 := hide C13
              have HR1 := hide (HR.out w1 k1 r1)
              clear r1 k1 C1 HR C13
              go_wp2_with fail
              refine Calls.mono (HT.out w1) ?_
              rintro x w2 ⟨rfl, rfl⟩
              go_wp2_with fail
              refine Calls.mono HR1.out ?_
              rintro x w2 ⟨rfl, d2, k2, p2, q2, _⟩
              obtain ⟨⟨y0, y1, y2, y3⟩, rd2⟩ := d2 trivial
              have K2 := hide (K1.out.trans k2)
              have C23 : Hid (w2.cell? ⟨w.heap.size + 1, 3, none⟩ = some (.slice none 0 0) ∧ (∀ o, o < 6 → w2.frozen? ⟨w.heap.size + 1, o, none⟩ = false) ∧ w2.cell? ⟨w.heap.size + 1, 4, none⟩ = some (.int .i64 0) ∧ w2.cell? ⟨w.heap.size + 1, 5, none⟩ = some (.int .i64 0)) := ⟨by rw [p2 3 (by omega)]; exact HC1.out.1, fun o ho => by rw [q2 o]; exact HC1.out.2.1 o ho, by rw [p2 4 (by omega)]; exact HC1.out.2.2.1, by rw [p2 5 (by omega)]; exact HC1.out.2.2.2⟩
              have Y2 : Hid (w2.cell? ⟨w.heap.size + 1, 0, none⟩ = some (.string (pmH tx).1) ∧ w2.cell? ⟨w.heap.size + 1, 1, none⟩ = some (.int .i64 (pmH tx).2.1) ∧ w2.cell? ⟨w.heap.size + 1, 2, none⟩ = some (.int .i64 (pmH tx).2.2.1)) := ⟨y0, y1, y2⟩
              have RR := hide (RRf.out w2 rd2 C23.out.1 (C23.out.2.1 3 (by omega)))
              rw [HNe.out] at y3
              have hcl : w.heap.size + 1 + 1 < w2.heap.size := lt_of_cell? y3
              clear k2 HR1 K1 HT d2 p2 q2 HC1 y0 y1 y2 rd2
              go_wp2_with fail
              refine Calls.mono RR.out ?_
              rintro x w3 ⟨rfl, d3, k3, p3, q3, a3, e3⟩
              have K3 := hide (K2.out.trans (k3.wide (fun x hx => by rcases hx with h | h <;> simp [h])))
              obtain ⟨rd3, v, c3, o3⟩ := d3 _ _ rfl
              have O3 := hide o3
              have TA3 : TailAt w3 (w.heap.size + 1) (0, 0) := ⟨by rw [p3 4 (by omega)]; exact C23.out.2.2.1, by rw [p3 5 (by omega)]; exact C23.out.2.2.2⟩
              have TR := hide (TRf.out w3 rd3 TA3 ⟨by rw [q3 4]; exact C23.out.2.1 4 (by omega), by rw [q3 5]; exact C23.out.2.1 5 (by omega)⟩)
              have Y3 : Hid (w3.cell? ⟨w.heap.size + 1, 0, none⟩ = some (.string (pmH tx).1) ∧ w3.cell? ⟨w.heap.size + 1, 1, none⟩ = some (.int .i64 (pmH tx).2.1) ∧ w3.cell? ⟨w.heap.size + 1, 2, none⟩ = some (.int .i64 (pmH tx).2.2.1) ∧ w3.cell? ⟨w.heap.size + 1, 3, none⟩ = some v) := ⟨by rw [p3 0 (by omega)]; exact Y2.out.1, by rw [p3 1 (by omega)]; exact Y2.out.2.1, by rw [p3 2 (by omega)]; exact Y2.out.2.2, c3⟩
              have hs23 := K2.out.size
              clear d3 k3 p3 q3 e3 RR rd3 TA3 c3 o3 y3 hcl
              go_wp2_with fail
              refine Calls.mono (TT.out w3) ?_
              rintro x w4 ⟨rfl, rfl⟩
              go_wp2_with fail
              refine Calls.mono TR.out ?_
              rintro x w4 ⟨rfl, d4, k4, p4, q4, _⟩
              have K4 := hide (K3.out.trans (k4.wide (fun x hx => by rcases hx with h | h <;> simp [h])))
              obtain ⟨⟨t4, t5⟩, rd4⟩ := d4 trivial
              have CL := hide (CLf.out w4 rd4 (FIN.out _ K4.out))
              have O4 := hide (own_kbx O3.out k4 (fun j hj => by rcases hj with h | h <;> (rw [h]; omega)))
              have Y4 : Hid ((w4.cell? ⟨w.heap.size + 1, 0, none⟩ = some (.string (pmH tx).1) ∧ w4.cell? ⟨w.heap.size + 1, 1, none⟩ = some (.int .i64 (pmH tx).2.1) ∧ w4.cell? ⟨w.heap.size + 1, 2, none⟩ = some (.int .i64 (pmH tx).2.2.1) ∧ w4.cell? ⟨w.heap.size + 1, 3, none⟩ = some v) ∧ w4.cell? ⟨w.heap.size + 1, 4, none⟩ = some (.int .i64 (pmT tx).1) ∧ w4.cell? ⟨w.heap.size + 1, 5, none⟩ = some (.int .i64 (pmT tx).2)) := ⟨⟨by rw [p4 0 (by omega)]; exact Y3.out.1, by rw [p4 1 (by omega)]; exact Y3.out.2.1, by rw [p4 2 (by omega)]; exact Y3.out.2.2.1, by rw [p4 3 (by omega)]; exact Y3.out.2.2.2⟩, by rw [HPT.out]; exact t4, by rw [HPT.out]; exact t5⟩
              have hM4 : w.heap.size + 1 < w4.heap.size := lt_of_cell? t4
              clear d4 k4 p4 q4 TR t4 t5 rd4 O3 Y3 Y2
              go_wp2_with fail
              refine Calls.mono CL.out ?_
              rintro x w5 ⟨rfl, k5⟩
              have K5 := hide (K4.out.trans (KbX.of (X := (fun x => x = w.heap.size + 1 + 1 + 1 ∨ x = w.heap.size + 1 ∨ x = w.heap.size + 1 + 1)) k5 (.inl rfl)))
              have O5 := hide (own_kbx O4.out (KbX.of (X := fun x => x = w.heap.size + 1 + 1 + 1) k5 rfl) (fun j hj => by rw [hj]; omega))
              have Y5 : Hid ((w5.cell? ⟨w.heap.size + 1, 0, none⟩ = some (.string (pmH tx).1) ∧ w5.cell? ⟨w.heap.size + 1, 1, none⟩ = some (.int .i64 (pmH tx).2.1) ∧ w5.cell? ⟨w.heap.size + 1, 2, none⟩ = some (.int .i64 (pmH tx).2.2.1) ∧ w5.cell? ⟨w.heap.size + 1, 3, none⟩ = some v) ∧ w5.cell? ⟨w.heap.size + 1, 4, none⟩ = some (.int .i64 (pmT tx).1) ∧ w5.cell? ⟨w.heap.size + 1, 5, none⟩ = some (.int .i64 (pmT tx).2)) := by
                rw [k5.cell hM4 hMR, k5.cell hM4 hMR, k5.cell hM4 hMR, k5.cell hM4 hMR, k5.cell hM4 hMR, k5.cell hM4 hMR]; exact Y4.out
              clear k5 CL O4 Y4
              obtain ⟨ao, g, cap, rfl, _, y1, y2⟩ := own_rows O5.out
              have CK := hide (CKf.out w5 ao g cap y1 y2)
              obtain ⟨⟨j0, j1, j2, j3⟩, j4, j5⟩ := Y5.out
              have hM5 : w.heap.size + 1 < w5.heap.size := lt_of_cell? j0
              clear y1 y2
              go_wp2_with fail
              refine Calls.mono CK.out ?_
              rintro x w6 ⟨rfl, b6⟩
              have K6 := hide (K5.out.blw b6)
              clear b6 CK j0 j1 j2 j3 j4 j5 O5 Y5
              obtain ⟨⟨z0, z1, z2, z3, z4, z5⟩, ⟨f0, f1, f2, f3, f4, f5⟩, hl3⟩ := RS.out _ K6.out
              have BF := hide (FIN.out _ K6.out)
              go_wp2_with fail
              refine bodyPost_ret (v := .tuple #[.agg #[.string ⟨#[]⟩, .int .i64 0, .int .i64 0, .slice none 0 0, .int .i64 0, .int .i64 0], .int .i64 CE]) (by simp [results, Tryz.results23, go_sem, z0, z1, z2, z3, z4, z5]) rfl ⟨fun h => ?_, fun _ => ?_, ?_⟩
              · rw [HE.out] at h; exact absurd h hm
              · rw [HE.out]
              · exact (((((BF.out.setCell (Nat.le_refl _) _).setCell (Nat.le_refl _) _).setCell (Nat.le_refl _) _).setCell (Nat.le_refl _) _).setCell (Nat.le_refl _) _).setCell (Nat.le_refl _) _
          · have HE : Hid (E = clsE tx (pmA3 tx)) := by show _ = _; rw [hE2, if_neg hcl]
            have hcl2 : (clsE tx (pmA3 tx) == 0) = false := by simpa using hcl
            unfold manTitle at C1
            clear hE2 MC0 CC0 hA2 hRs
            generalize clsE tx (pmA3 tx) = CE at *
            go_enter Tryz.func23, Tryz.ntmps23
            go_wp2_with fail
            rw [← hWr, ← hWm, ← hWc, ← hW0]
            clear hWr hWm hWc hW0 sr sm sc s0
            refine Calls.mono C1.out ?_
            rintro x w1 ⟨rfl, r1, k1⟩
            have K1 := hide (KbX.of (X := (fun x => x = w.heap.size + 1 + 1 + 1 ∨ x = w.heap.size + 1 ∨ x = w.heap.size + 1 + 1)) k1 (.inl rfl))
            have C13 : w1.cell? ⟨w.heap.size + 1, 3, none⟩ = some (.slice none 0 0) ∧ (∀ o, o < 6 → w1.frozen? ⟨w.heap.size + 1, o, none⟩ = false) ∧ w1.cell? ⟨w.heap.size + 1, 4, none⟩ = some (.int .i64 0) ∧ w1.cell? ⟨w.heap.size + 1, 5, none⟩ = some (.int .i64 0) := ⟨by rw [k1.cell hMl hMR]; exact MCH.out.1.2.2.2.1, fun o ho => by rw [k1.frozen hMl hMR]; exact MCH.out.2 o ho, by rw [k1.cell hMl hMR]; exact MCH.out.1.2.2.2.2.1, by rw [k1.cell hMl hMR]; exact MCH.out.1.2.2.2.2.2⟩
            have HC1 := hide C13
            have HR1 := hide (HR.out w1 k1 r1)
            clear r1 k1 C1 HR C13
            go_wp2_with fail
            refine Calls.mono (HT.out w1) ?_
            rintro x w2 ⟨rfl, rfl⟩
            go_wp2_with fail
            refine Calls.mono HR1.out ?_
            rintro x w2 ⟨rfl, d2, k2, p2, q2, _⟩
            obtain ⟨⟨y0, y1, y2, y3⟩, rd2⟩ := d2 trivial
            have K2 := hide (K1.out.trans k2)
            have C23 : Hid (w2.cell? ⟨w.heap.size + 1, 3, none⟩ = some (.slice none 0 0) ∧ (∀ o, o < 6 → w2.frozen? ⟨w.heap.size + 1, o, none⟩ = false) ∧ w2.cell? ⟨w.heap.size + 1, 4, none⟩ = some (.int .i64 0) ∧ w2.cell? ⟨w.heap.size + 1, 5, none⟩ = some (.int .i64 0)) := ⟨by rw [p2 3 (by omega)]; exact HC1.out.1, fun o ho => by rw [q2 o]; exact HC1.out.2.1 o ho, by rw [p2 4 (by omega)]; exact HC1.out.2.2.1, by rw [p2 5 (by omega)]; exact HC1.out.2.2.2⟩
            have Y2 : Hid (w2.cell? ⟨w.heap.size + 1, 0, none⟩ = some (.string (pmH tx).1) ∧ w2.cell? ⟨w.heap.size + 1, 1, none⟩ = some (.int .i64 (pmH tx).2.1) ∧ w2.cell? ⟨w.heap.size + 1, 2, none⟩ = some (.int .i64 (pmH tx).2.2.1)) := ⟨y0, y1, y2⟩
            have RR := hide (RRf.out w2 rd2 C23.out.1 (C23.out.2.1 3 (by omega)))
            rw [HNe.out] at y3
            have hcl : w.heap.size + 1 + 1 < w2.heap.size := lt_of_cell? y3
            clear k2 HR1 K1 HT d2 p2 q2 HC1 y0 y1 y2 rd2
            go_wp2_with fail
            refine Calls.mono RR.out ?_
            rintro x w3 ⟨rfl, d3, k3, p3, q3, a3, e3⟩
            have K3 := hide (K2.out.trans (k3.wide (fun x hx => by rcases hx with h | h <;> simp [h])))
            obtain ⟨rd3, v, c3, o3⟩ := d3 _ _ rfl
            have O3 := hide o3
            have TA3 : TailAt w3 (w.heap.size + 1) (0, 0) := ⟨by rw [p3 4 (by omega)]; exact C23.out.2.2.1, by rw [p3 5 (by omega)]; exact C23.out.2.2.2⟩
            have TR := hide (TRf.out w3 rd3 TA3 ⟨by rw [q3 4]; exact C23.out.2.1 4 (by omega), by rw [q3 5]; exact C23.out.2.1 5 (by omega)⟩)
            have Y3 : Hid (w3.cell? ⟨w.heap.size + 1, 0, none⟩ = some (.string (pmH tx).1) ∧ w3.cell? ⟨w.heap.size + 1, 1, none⟩ = some (.int .i64 (pmH tx).2.1) ∧ w3.cell? ⟨w.heap.size + 1, 2, none⟩ = some (.int .i64 (pmH tx).2.2.1) ∧ w3.cell? ⟨w.heap.size + 1, 3, none⟩ = some v) := ⟨by rw [p3 0 (by omega)]; exact Y2.out.1, by rw [p3 1 (by omega)]; exact Y2.out.2.1, by rw [p3 2 (by omega)]; exact Y2.out.2.2, c3⟩
            have hs23 := K2.out.size
            clear d3 k3 p3 q3 e3 RR rd3 TA3 c3 o3 y3 hcl
            go_wp2_with fail
            refine Calls.mono (TT.out w3) ?_
            rintro x w4 ⟨rfl, rfl⟩
            go_wp2_with fail
            refine Calls.mono TR.out ?_
            rintro x w4 ⟨rfl, d4, k4, p4, q4, _⟩
            have K4 := hide (K3.out.trans (k4.wide (fun x hx => by rcases hx with h | h <;> simp [h])))
            obtain ⟨⟨t4, t5⟩, rd4⟩ := d4 trivial
            have CL := hide (CLf.out w4 rd4 (FIN.out _ K4.out))
            have O4 := hide (own_kbx O3.out k4 (fun j hj => by rcases hj with h | h <;> (rw [h]; omega)))
            have Y4 : Hid ((w4.cell? ⟨w.heap.size + 1, 0, none⟩ = some (.string (pmH tx).1) ∧ w4.cell? ⟨w.heap.size + 1, 1, none⟩ = some (.int .i64 (pmH tx).2.1) ∧ w4.cell? ⟨w.heap.size + 1, 2, none⟩ = some (.int .i64 (pmH tx).2.2.1) ∧ w4.cell? ⟨w.heap.size + 1, 3, none⟩ = some v) ∧ w4.cell? ⟨w.heap.size + 1, 4, none⟩ = some (.int .i64 (pmT tx).1) ∧ w4.cell? ⟨w.heap.size + 1, 5, none⟩ = some (.int .i64 (pmT tx).2)) := ⟨⟨by rw [p4 0 (by omega)]; exact Y3.out.1, by rw [p4 1 (by omega)]; exact Y3.out.2.1, by rw [p4 2 (by omega)]; exact Y3.out.2.2.1, by rw [p4 3 (by omega)]; exact Y3.out.2.2.2⟩, by rw [HPT.out]; exact t4, by rw [HPT.out]; exact t5⟩
            have hM4 : w.heap.size + 1 < w4.heap.size := lt_of_cell? t4
            clear d4 k4 p4 q4 TR t4 t5 rd4 O3 Y3 Y2
            go_wp2_with fail
            refine Calls.mono CL.out ?_
            rintro x w5 ⟨rfl, k5⟩
            have K5 := hide (K4.out.trans (KbX.of (X := (fun x => x = w.heap.size + 1 + 1 + 1 ∨ x = w.heap.size + 1 ∨ x = w.heap.size + 1 + 1)) k5 (.inl rfl)))
            have O5 := hide (own_kbx O4.out (KbX.of (X := fun x => x = w.heap.size + 1 + 1 + 1) k5 rfl) (fun j hj => by rw [hj]; omega))
            have Y5 : Hid ((w5.cell? ⟨w.heap.size + 1, 0, none⟩ = some (.string (pmH tx).1) ∧ w5.cell? ⟨w.heap.size + 1, 1, none⟩ = some (.int .i64 (pmH tx).2.1) ∧ w5.cell? ⟨w.heap.size + 1, 2, none⟩ = some (.int .i64 (pmH tx).2.2.1) ∧ w5.cell? ⟨w.heap.size + 1, 3, none⟩ = some v) ∧ w5.cell? ⟨w.heap.size + 1, 4, none⟩ = some (.int .i64 (pmT tx).1) ∧ w5.cell? ⟨w.heap.size + 1, 5, none⟩ = some (.int .i64 (pmT tx).2)) := by
              rw [k5.cell hM4 hMR, k5.cell hM4 hMR, k5.cell hM4 hMR, k5.cell hM4 hMR, k5.cell hM4 hMR, k5.cell hM4 hMR]; exact Y4.out
            clear k5 CL O4 Y4
            obtain ⟨⟨z0, z1, z2, z3, z4, z5⟩, ⟨f0, f1, f2, f3, f4, f5⟩, hl3⟩ := RS.out _ K5.out
            have BF := hide (FIN.out _ K5.out)
            go_wp2_with fail
            refine bodyPost_ret (v := .tuple #[.agg #[.string ⟨#[]⟩, .int .i64 0, .int .i64 0, .slice none 0 0, .int .i64 0, .int .i64 0], .int .i64 CE]) (by simp [results, Tryz.results23, go_sem, z0, z1, z2, z3, z4, z5]) rfl ⟨fun h => ?_, fun _ => ?_, ?_⟩
            · rw [HE.out] at h; exact absurd h (hcl)
            · rw [HE.out]
            · exact (((((BF.out.setCell (Nat.le_refl _) _).setCell (Nat.le_refl _) _).setCell (Nat.le_refl _) _).setCell (Nat.le_refl _) _).setCell (Nat.le_refl _) _).setCell (Nat.le_refl _) _
end Go.Proofs.YtgdopepghmjopaaGreatDoor
