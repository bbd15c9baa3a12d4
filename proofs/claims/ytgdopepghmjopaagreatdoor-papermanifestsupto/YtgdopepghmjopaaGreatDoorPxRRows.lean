import Derived.Test.YtgdopepghmjopaaGreatDoorGPqPrint
import Derived.Test.YtgdopepghmjopaaGreatDoorPxRows
import Derived.Laws.AppendOwnNone
import Derived.OwnWalk
namespace Go.Proofs.YtgdopepghmjopaaGreatDoor
open Go.RowKit Go.Shelf
/-- the cells of rows -/
def rcs (l : List RV) : List Value := l.flatMap fun r => [.string r.1, .int .i64 r.2.1, .int .i64 r.2.2.1, .string r.2.2.2]
theorem rcs_append (a b : List RV) : rcs (a ++ b) = rcs a ++ rcs b := by unfold rcs; rw [List.flatMap_append]
theorem rcs_one (l : List RV) : ∀ u ∈ rcs l, u.oneCell' = true := by
  intro u hu
  obtain ⟨p, _, hp⟩ := List.mem_flatMap.1 hu
  simp at hp
  rcases hp with rfl | rfl | rfl | rfl <;> rfl
theorem rcs_one_len (r : RV) : (rcs [r]).length = 1 * 4 := rfl
theorem rcs_four (r : RV) : rcs [r] = (#[.string r.1, .int .i64 r.2.1, .int .i64 r.2.2.1, .string r.2.2.2] : Array Value).toList := rfl
theorem infoR : (Tryz.prog.info? 36).map (fun i => (i.zero, i.size, i.bytes)) = some (some (.agg #[.string ⟨#[]⟩, .int .i64 0, .int .i64 0, .string ⟨#[]⟩]), 4, 48) := by kernel_rfl
theorem cell_row (w : World) (r : RV) : ∀ j u, (rcs [r])[j]? = some u → (w.alloc (.cells #[.string r.1, .int .i64 r.2.1, .int .i64 r.2.2.1, .string r.2.2.2] 36)).cell? ((⟨w.heap.size, 0, none⟩ : Addr).add j) = some u := by
  rw [rcs_four]
  exact (World.ownsRow_lit (base := 0) (e := 36) (size := 4) w _ 1 (by omega) (by unfold maxLen; omega) rfl).cells (g := w.heap.size) rfl
theorem own_kbx {X : Nat → Prop} {base e s n : Nat} {w w' : World} {v : Value} {x : List Value} (o : w.ownsRow base e s v n x) (hk : KbX X w w') (hb : ∀ i, X i → i < base) : w'.ownsRow base e s v n x := by
  refine ⟨o.1, ?_⟩
  rcases o.2 with q | ⟨g, cap, cur, q, hg, hblk, r⟩
  · exact .inl q
  · exact .inr ⟨g, cap, cur, q, hg, by rw [hk.block g (Array.getElem?_eq_some_iff.1 hblk).1 (fun hx => by have := hb g hx; omega)]; exact hblk, r⟩
theorem own_blw {base e s n : Nat} {w w' : World} {v : Value} {x : List Value} (o : w.ownsRow base e s v n x) (h : Below w.heap.size w w') : w'.ownsRow base e s v n x := own_kbx (X := fun _ => False) o ⟨h.os, h.tape, h.output, h.size, fun i hi _ => h.block i hi⟩ (fun _ h => h.elim)
theorem own_shapeX {base e s n : Nat} {w : World} {v : Value} {x : List Value} (o : w.ownsRow base e s v n x) : ∃ (ad : Option Addr) (m c : Nat), v = .slice ad m c := by
  rcases o.2 with ⟨h, _⟩ | ⟨g, cap, cur, h, _⟩
  · exact ⟨_, _, _, h⟩
  · exact ⟨_, _, _, h⟩
theorem le_allocX {B : Nat} {w : World} {o : Obj} (h : B ≤ w.heap.size) : B ≤ (w.alloc o).heap.size := by simp; omega
theorem ite_yes' {c : Prop} [Decidable c] {p q : Prop} (h : c) (hp : p) : (if c then p else q) := by rw [if_pos h]; exact hp
theorem KbX.grown {X : Nat → Prop} {w0 w w' : World} {row : Option Nat} (h : KbX X w0 w) (hg : w.grownBy w' row) (hr : ∀ k, row = some k → w0.heap.size ≤ k) : KbX X w0 w' :=
  ⟨hg.os.trans h.os, hg.tape.trans h.tape, hg.output.trans h.output, Nat.le_trans h.size hg.size, fun i hi hn => (hg.block i (Nat.lt_of_lt_of_le hi h.size) (fun e => by have := hr i e.symm; omega)).trans (h.block i hi hn)⟩
theorem KbX.blw {X : Nat → Prop} {w0 w w' : World} (h : KbX X w0 w) (hb : Below w.heap.size w w') : KbX X w0 w' := h.trans ⟨hb.os, hb.tape, hb.output, hb.size, fun i hi _ => hb.block i hi⟩
/-- the first k rows from a place on, and the place behind them -/
def rowsAt (tx : ByteArray) (a : Nat) : Nat → Option (List RV × Nat)
  | 0 => some ([], a)
  | k + 1 => match rowsAt tx a k with
    | none => none
    | some (l, q) => if tabOk (rowFDs 0) (tx.data.toList.drop q) then some (l ++ [rdRow (tx.data.toList.drop q)], q + tabN (rowFDs 0) (tx.data.toList.drop q)) else none
theorem rowsAt_none (tx : ByteArray) (a : Nat) {k : Nat} (h : rowsAt tx a k = none) : ∀ t, rowsAt tx a (k + t) = none
  | 0 => h
  | t + 1 => by rw [← Nat.add_assoc, rowsAt, rowsAt_none tx a h t]
theorem rowN_pos (l : List UInt8) : 5 ≤ tabN (rowFDs 0) l := by
  show 5 ≤ fldN _ l + _
  unfold fldN
  show 5 ≤ 5 + _ + _ + _
  omega
theorem rowsAt_le {tx : ByteArray} {a : Nat} (ha : a ≤ tx.size) : ∀ k l q, rowsAt tx a k = some (l, q) → l.length = k ∧ q ≤ tx.size ∧ a + k ≤ q := by
  intro k
  induction k with
  | zero => intro l q h; simp [rowsAt] at h; obtain ⟨rfl, rfl⟩ := h; exact ⟨rfl, ha, by omega⟩
  | succ k ih =>
    intro l q h
    rw [rowsAt] at h
    split at h
    · cases h
    · rename_i l' q' h'
      obtain ⟨e1, e2, e3⟩ := ih _ _ h'
      by_cases hz : tabOk (rowFDs 0) (tx.data.toList.drop q') = true
      · rw [if_pos hz] at h
        simp only [Option.some.injEq, Prod.mk.injEq] at h
        obtain ⟨rfl, rfl⟩ := h
        have h1 := tabN_le _ _ hz
        have h2 := rowN_pos (tx.data.toList.drop q')
        rw [List.length_drop, size_data] at h1
        exact ⟨by simp [e1], by omega, by omega⟩
      · rw [if_neg hz] at h; cases h
set_option maxHeartbeats 8000000 in
set_option maxRecDepth 100000 in
set_option linter.unusedSimpArgs false in
/-- readRows -/
theorem readRows_any (R rb n : Nat) (tx : ByteArray) (a : Nat) (w : World) (hr : RdAt R tx a w) (hn : n ≤ 9223372036854775807) (h3 : w.cell? ⟨rb, 3, none⟩ = some (.slice none 0 0)) (hf : w.frozen? ⟨rb, 3, none⟩ = false) (hne : rb ≠ R) (ha : a ≤ tx.size) (htx : tx.size ≤ 1000000000000) :
    Calls Tryz.prog 63 #[.pointer (some ⟨R, 0, none⟩), .pointer (some ⟨rb, 0, none⟩), .int .i64 (n : Int)] w fun e w' => e = .returned (.bool (rowsAt tx a n).isSome) ∧ (∀ l q, rowsAt tx a n = some (l, q) → RdAt R tx q w' ∧ ∃ v, w'.cell? ⟨rb, 3, none⟩ = some v ∧ w'.ownsRow w.heap.size 36 4 v l.length (rcs l)) ∧ KbX (fun x => x = R ∨ x = rb) w w' ∧ (∀ o, o ≠ 3 → w'.cell? ⟨rb, o, none⟩ = w.cell? ⟨rb, o, none⟩) ∧ (∀ o, w'.frozen? ⟨rb, o, none⟩ = w.frozen? ⟨rb, o, none⟩) ∧ ∃ a', RdAt R tx a' w' := by
  obtain ⟨i0, hi, hz0, hz1, hz2⟩ := info_parts infoR
  have hR := hr.lt
  have hB := lt_of_cell? h3
  go_enter Tryz.func63, Tryz.ntmps63
  go_wp2_with fail
  go_loopw [9] (fun i wr => ∃ k : Nat, k ≤ n ∧ i = .int .i64 k ∧ ∃ l q v, rowsAt tx a k = some (l, q) ∧ RdAt R tx q wr ∧ wr.cell? ⟨rb, 3, none⟩ = some v ∧ wr.frozen? ⟨rb, 3, none⟩ = false ∧ wr.ownsRow w.heap.size 36 4 v l.length (rcs l) ∧ KbX (fun x => x = R ∨ x = rb) w wr ∧ (∀ o, o ≠ 3 → wr.cell? ⟨rb, o, none⟩ = w.cell? ⟨rb, o, none⟩) ∧ (∀ o, wr.frozen? ⟨rb, o, none⟩ = w.frozen? ⟨rb, o, none⟩)) (fun i _ => n - (intOf i).toNat)
  case atStart => exact ⟨0, Nat.zero_le _, rfl, [], a, _, rfl, hr, h3, hf, World.ownsRow_nil _ _ _ _, ⟨rfl, rfl, rfl, Nat.le_refl _, fun _ _ _ => rfl⟩, fun _ _ => rfl, fun _ => rfl⟩
  case round =>
    obtain ⟨k, hk, rfl, l, q, v, hat, hrd, hc3, hfz, hown, hkb, hkp, hkf⟩ := hrel
    obtain ⟨hl1, hq1, hq2⟩ := rowsAt_le ha _ _ _ hat
    by_cases hlt : k < n
    · have hlt' : (k : Int) < (n : Int) := by omega
      have hRl := hrd.lt
      have hBl := lt_of_cell? hc3
      obtain ⟨Wr, hWr⟩ : ∃ Wr, Wr = wr.alloc (.cells #[.string ⟨#[]⟩, .int .i64 0, .int .i64 0, .string ⟨#[]⟩] 36) := ⟨_, rfl⟩
      have br : Below wr.heap.size wr Wr := by rw [hWr]; exact (Below.refl _ _).alloc (Nat.le_refl _) _
      have Rr : RowAt Wr wr.heap.size 0 (⟨#[]⟩, 0, 0, ⟨#[]⟩) := by rw [hWr]; exact ⟨by simp, by simp, by simp, by simp⟩
      have fr : ∀ o, o < 4 → Wr.frozen? ⟨wr.heap.size, o, none⟩ = false := by
        rw [hWr]; intro o ho
        match o, ho with
        | 0, _ => simp
        | 1, _ => simp
        | 2, _ => simp
        | 3, _ => simp
      have RT := hide (rowTable_any wr.heap.size Wr)
      have RD := hide (rowRead_any R wr.heap.size tx q wr Wr Rr fr (hrd.below br) (by omega) (Kb.of br) (Nat.le_refl _) hq1 (by omega))
      have HAT := hide hat
      have HOWN := hide hown
      have HKB := hide hkb
      have HKP := hide hkp
      have HKF := hide hkf
      have HFZ := hide hfz
      have HC3 := hide hc3
      have hsw := hkb.size
      have HVB := hide (fun j (hj : v.ownBlock = some j) => hown.lt j hj)
      clear hat hown hkb hkp hkf hrd br Rr fr hfz hc3
      have hst : Hid (rowsAt tx a (k + 1) = if tabOk (rowFDs 0) (tx.data.toList.drop q) then some (l ++ [rdRow (tx.data.toList.drop q)], q + tabN (rowFDs 0) (tx.data.toList.drop q)) else none) := by show _ = _; rw [rowsAt, HAT.out]
      generalize tabOk (rowFDs 0) (tx.data.toList.drop q) = TO at *
      generalize tabN (rowFDs 0) (tx.data.toList.drop q) = TN at *
      generalize rdRow (tx.data.toList.drop q) = r at *
      go_wp2_with fail
      rw [← hWr]
      clear hWr
      refine Calls.mono RT.out ?_
      rintro x w1 ⟨rfl, rfl⟩
      go_wp2_with fail
      refine Calls.mono RD.out ?_
      rintro x w2 ⟨rfl, d1, d2, a2, d3⟩
      have K2 : Hid (KbX (fun x => x = R ∨ x = rb) w w2) := HKB.out.trans (KbX.of d2 (.inl rfl))
      have C2 : w2.cell? ⟨rb, 3, none⟩ = some v := by rw [d2.cell hBl hne]; exact HC3.out
      have F2 : w2.frozen? ⟨rb, 3, none⟩ = false := by rw [d2.frozen hBl hne]; exact HFZ.out
      have P2 : Hid (∀ o, o ≠ 3 → w2.cell? ⟨rb, o, none⟩ = w.cell? ⟨rb, o, none⟩) := fun o ho => by rw [d2.cell hBl hne]; exact HKP.out o ho
      have Q2 : Hid (∀ o, w2.frozen? ⟨rb, o, none⟩ = w.frozen? ⟨rb, o, none⟩) := fun o => by rw [d2.frozen hBl hne]; exact HKF.out o
      have O2 := hide (own_kbx HOWN.out (KbX.of (X := fun x => x = R) d2 rfl) (fun i hi => by rw [hi]; exact hR))
      have A2 := hide d3
      have D1 := hide d1
      have s2 := d2.size
      clear d1 d2 d3 RD RT HC3 HFZ HKB HKP HOWN
      cases TO with
      | false =>
        have HN : Hid (rowsAt tx a n = none) := by
          have := rowsAt_none tx a (k := k + 1) (by rw [hst.out]; rfl) (n - (k + 1))
          rwa [show k + 1 + (n - (k + 1)) = n by omega] at this
        clear D1 C2 F2
        go_wp2_with fail
        go_ret
        refine ⟨ret_bool (by rw [HN.out]; rfl), fun l q h => ?_, K2.out, P2.out, Q2.out, a2, A2.out⟩
        rw [HN.out] at h; cases h
      | true =>
        obtain ⟨⟨r0, r1, r2, r3⟩, rd2⟩ := D1.out rfl
        have RD2 := hide rd2
        obtain ⟨nm, sz, cr, md⟩ := r
        dsimp only at r0 r1 r2 r3
        have hwl : wr.heap.size < w2.heap.size := lt_of_cell? r0
        obtain ⟨hm1, hm2⟩ : l.length + 1 ≤ maxLen ∧ (l.length + 1) * 48 ≤ 140737488355328 := by unfold maxLen; omega
        have hB2 : rb < w2.heap.size := lt_of_cell? C2
        have SC : Hid (∀ x, Below w2.heap.size w2 x → x.cell? ⟨wr.heap.size, 0, none⟩ = some (.string nm) ∧ x.cell? ⟨wr.heap.size, 1, none⟩ = some (.int .i64 sz) ∧ x.cell? ⟨wr.heap.size, 2, none⟩ = some (.int .i64 cr) ∧ x.cell? ⟨wr.heap.size, 3, none⟩ = some (.string md)) := fun x hx => by
          rw [hx.cell (by exact hwl), hx.cell (by exact hwl), hx.cell (by exact hwl), hx.cell (by exact hwl)]; exact ⟨r0, r1, r2, r3⟩
        clear rd2 D1 r0 r1 r2 r3
        go_wp2_with fail
        refine wp_region_held_drew (S := fun x => x.cell? ⟨wr.heap.size, 0, none⟩ = some (.string nm) ∧ x.cell? ⟨wr.heap.size, 1, none⟩ = some (.int .i64 sz) ∧ x.cell? ⟨wr.heap.size, 2, none⟩ = some (.int .i64 cr) ∧ x.cell? ⟨wr.heap.size, 3, none⟩ = some (.string md)) (by kernel_rfl) (SC.out _ (Below.refl _ w2).drew) (fun hHeld => ?_)
        have C2d : w2.drew.cell? ⟨rb, 3, none⟩ = some v := C2
        have O2d := hide (own_blw O2.out (Below.refl _ w2).drew)
        have BD := hide (Below.refl w2.heap.size w2).drew
        have sd : w2.drew.heap.size = w2.heap.size := rfl
        generalize w2.drew = wd at *
        refine wpAnyH_take (i := 0) (v := (.pointer (some ⟨rb, 0, none⟩))) rfl (by kernel_rfl) (by kernel_rfl) (by kernel_rfl) (fun _ _ _ h => h) (Or.inl ⟨by rfl, ?_⟩) (by assumption) ?_
        · intro w' hSw
          (try dsimp only at hSw)
          go_simp <;> first | exact i64_in (by omega) (by omega) | exact u32_in (by omega) (by omega) | exact u32_add _ _ | (rw [Int.tmod_eq_emod_of_nonneg (by omega)]; omega) | (rw [Int.tdiv_eq_ediv_of_nonneg (by omega)]; omega) | omega
        (try simp only [Act.put, List.setIfInBounds_toArray, List.set_cons_zero, List.set_cons_succ])
        refine wpAnyH_take (i := 1) (v := (.pointer (some ⟨rb, 0, none⟩))) rfl (by kernel_rfl) (by kernel_rfl) (by kernel_rfl) (fun _ _ _ h => h) (Or.inl ⟨by rfl, ?_⟩) (by assumption) ?_
        · intro w' hSw
          (try dsimp only at hSw)
          go_simp <;> first | exact i64_in (by omega) (by omega) | exact u32_in (by omega) (by omega) | exact u32_add _ _ | (rw [Int.tmod_eq_emod_of_nonneg (by omega)]; omega) | (rw [Int.tdiv_eq_ediv_of_nonneg (by omega)]; omega) | omega
        (try simp only [Act.put, List.setIfInBounds_toArray, List.set_cons_zero, List.set_cons_succ])
        refine wpAnyH_take (i := 2) (v := (.pointer (some ⟨rb, 0, none⟩))) rfl (by kernel_rfl) (by kernel_rfl) (by kernel_rfl) (fun _ _ _ h => h) (Or.inl ⟨by rfl, ?_⟩) (by assumption) ?_
        · intro w' hSw
          (try dsimp only at hSw)
          go_simp <;> first | exact i64_in (by omega) (by omega) | exact u32_in (by omega) (by omega) | exact u32_add _ _ | (rw [Int.tmod_eq_emod_of_nonneg (by omega)]; omega) | (rw [Int.tdiv_eq_ediv_of_nonneg (by omega)]; omega) | omega
        (try simp only [Act.put, List.setIfInBounds_toArray, List.set_cons_zero, List.set_cons_succ])
        refine wpAnyH_take (i := 3) (v := (.pointer (some ⟨rb, 3, none⟩))) rfl (by kernel_rfl) (by kernel_rfl) (by kernel_rfl) (fun _ _ _ h => h) (Or.inl ⟨by rfl, ?_⟩) (by assumption) ?_
        · intro w' hSw
          (try dsimp only at hSw)
          go_simp <;> first | exact i64_in (by omega) (by omega) | exact u32_in (by omega) (by omega) | exact u32_add _ _ | (rw [Int.tmod_eq_emod_of_nonneg (by omega)]; omega) | (rw [Int.tdiv_eq_ediv_of_nonneg (by omega)]; omega) | omega
        (try simp only [Act.put, List.setIfInBounds_toArray, List.set_cons_zero, List.set_cons_succ])
        refine wpAnyH_take (i := 5) (v := (.agg #[.string nm, .int .i64 sz, .int .i64 cr, .string md])) rfl (by kernel_rfl) (by kernel_rfl) (by kernel_rfl) (fun _ _ _ h => h) (Or.inl ⟨by rfl, ?_⟩) (by assumption) ?_
        · intro w' hSw
          (try dsimp only at hSw)
          (obtain ⟨u0, u1, u2, u3⟩ := hSw; go_simp)
        (try simp only [Act.put, List.setIfInBounds_toArray, List.set_cons_zero, List.set_cons_succ])
        refine' via (R := _) (fun REST => ?_) ?_
        rotate_left 1
        refine wpAnyH_ready (rs := [4, 6]) (by kernel_rfl) (by simp) ?_
        refine AllReadyH.cons rfl (fun K hK => ?_) (AllReadyH.cons rfl (fun K hK => ?_) AllReadyH.nil)
        · skip
          go_simp
          refine hK.out _ _ (SC.out _ BD.out) (fun hHeld => ?_)
          clear hK
          (try simp only [Act.put, List.setIfInBounds_toArray, List.set_cons_zero, List.set_cons_succ])
          refine wpAnyH_ready (rs := [6]) (by kernel_rfl) (by simp) ?_
          refine AllReadyH.cons rfl (fun K hK => ?_) AllReadyH.nil
          go_simp
          refine hK.out _ _ (SC.out _ (BD.out.alloc BD.out.size _)) (fun hHeld => ?_)
          clear hK
          (try simp only [Act.put, List.setIfInBounds_toArray, List.set_cons_zero, List.set_cons_succ])
          exact REST
        · skip
          go_simp
          refine hK.out _ _ (SC.out _ (BD.out.alloc BD.out.size _)) (fun hHeld => ?_)
          clear hK
          (try simp only [Act.put, List.setIfInBounds_toArray, List.set_cons_zero, List.set_cons_succ])
          refine wpAnyH_ready (rs := [4]) (by kernel_rfl) (by simp) ?_
          refine AllReadyH.cons rfl (fun K hK => ?_) AllReadyH.nil
          go_simp
          refine hK.out _ _ (SC.out _ (BD.out.alloc BD.out.size _)) (fun hHeld => ?_)
          clear hK
          (try simp only [Act.put, List.setIfInBounds_toArray, List.set_cons_zero, List.set_cons_succ])
          exact REST
        have swd : w.heap.size ≤ wd.heap.size := by rw [sd]; exact K2.out.size
        refine wpAnyH_ready (rs := [7]) (by kernel_rfl) (by simp) ?_
        refine AllReadyH.cons rfl (fun K hK => ?_) AllReadyH.nil
        refine ite_yes' (by rfl) ?_
        refine wp_append_own (wd.alloc (.cells #[.string nm, .int .i64 sz, .int .i64 cr, .string md] 36)) (.tmp 19) (.tmp 21) 22 ?jhho w.heap.size 36 i0 (.agg #[.string ⟨#[]⟩, .int .i64 0, .int .i64 0, .string ⟨#[]⟩]) 4 48 Tryz.underlying22 hi hz0 hz1 hz2 ?jhzs (by decide) v l.length (rcs l) ?jhhs (O2d.out.alloc _) ⟨wd.heap.size, 0, none⟩ 1 1 (rcs [(nm, sz, cr, md)]) ?jhhx (rcs_one_len _) (cell_row _ (nm, sz, cr, md)) (rcs_one _) hm1 hm2 (le_allocX swd) ?jhhk
        case jhho => rfl
        case jhzs => rfl
        case jhhs => kernel_rfl
        case jhhx => kernel_rfl
        intro v2 w3 o2 g2 n2
        clear n2
        have ba : Below wd.heap.size wd (wd.alloc (.cells #[.string nm, .int .i64 sz, .int .i64 cr, .string md] 36)) := (Below.refl _ _).alloc (Nat.le_refl _) _
        have blk : ∀ j, j < w2.heap.size → v.ownBlock ≠ some j → w3.heap[j]? = w2.heap[j]? := fun j hj hn => by
          rw [g2.block j (by simp; omega) (fun e => hn e.symm), ba.block j (by omega), BD.out.block j hj]
        have nR : v.ownBlock ≠ some R := fun e => by have := HVB.out R e; omega
        have nB : v.ownBlock ≠ some rb := fun e => by have := HVB.out rb e; omega
        have nW : v.ownBlock ≠ some wr.heap.size := fun e => by have := HVB.out _ e; omega
        have cel : ∀ j o, j < w2.heap.size → v.ownBlock ≠ some j → w3.cell? ⟨j, o, none⟩ = w2.cell? ⟨j, o, none⟩ := fun j o hj hn => by simp only [World.cell?, blk j hj hn]
        have fro : ∀ j o, j < w2.heap.size → v.ownBlock ≠ some j → w3.frozen? ⟨j, o, none⟩ = w2.frozen? ⟨j, o, none⟩ := fun j o hj hn => by simp only [World.frozen?, blk j hj hn]
        have C3 : w3.cell? ⟨rb, 3, none⟩ = some v := by rw [cel rb 3 hB2 nB]; exact C2
        have F3 : w3.frozen? ⟨rb, 3, none⟩ = false := by rw [fro rb 3 hB2 nB]; exact F2
        have RDl := RD2.out.lt
        have R3 : Hid (RdAt R tx (q + TN) w3) := ⟨by rw [cel R 0 RDl nR]; exact RD2.out.1, by rw [cel R 1 RDl nR]; exact RD2.out.2.1, by rw [fro R 1 RDl nR]; exact RD2.out.2.2⟩
        have SC3 : Hid (w3.cell? ⟨wr.heap.size, 0, none⟩ = some (.string nm) ∧ w3.cell? ⟨wr.heap.size, 1, none⟩ = some (.int .i64 sz) ∧ w3.cell? ⟨wr.heap.size, 2, none⟩ = some (.int .i64 cr) ∧ w3.cell? ⟨wr.heap.size, 3, none⟩ = some (.string md)) := by
          obtain ⟨y0, y1, y2, y3⟩ := SC.out w2 (Below.refl _ _)
          exact ⟨by rw [cel _ 0 hwl nW]; exact y0, by rw [cel _ 1 hwl nW]; exact y1, by rw [cel _ 2 hwl nW]; exact y2, by rw [cel _ 3 hwl nW]; exact y3⟩
        have K3 : Hid (KbX (fun x => x = R ∨ x = rb) w w3) := ((K2.out.blw BD.out).blw ba).grown g2 (fun j hj => (HVB.out j hj).1)
        have P3 : Hid (∀ o, o ≠ 3 → w3.cell? ⟨rb, o, none⟩ = w.cell? ⟨rb, o, none⟩) := fun o ho => by rw [cel rb o hB2 nB]; exact P2.out o ho
        have Q3 : Hid (∀ o, w3.frozen? ⟨rb, o, none⟩ = w.frozen? ⟨rb, o, none⟩) := fun o => by rw [fro rb o hB2 nB]; exact Q2.out o
        obtain ⟨ad2, m2, c2, rfl⟩ := own_shapeX o2
        have O3 := hide o2
        clear o2 g2 ba blk cel fro C2 C2d F2
        refine hK.out _ _ (SC3.out) (fun hHeld => ?_)
        clear hK
        (try simp only [Act.put, List.setIfInBounds_toArray, List.set_cons_zero, List.set_cons_succ])
        refine wpAnyH_take (i := 8) (v := (.pointer (some ⟨rb, 0, none⟩))) rfl (by kernel_rfl) (by kernel_rfl) (by kernel_rfl) (fun _ _ _ h => h) (Or.inl ⟨by rfl, ?_⟩) (by assumption) ?_
        · intro w' hSw
          (try dsimp only at hSw)
          go_simp <;> first | exact i64_in (by omega) (by omega) | exact u32_in (by omega) (by omega) | exact u32_add _ _ | (rw [Int.tmod_eq_emod_of_nonneg (by omega)]; omega) | (rw [Int.tdiv_eq_ediv_of_nonneg (by omega)]; omega) | omega
        (try simp only [Act.put, List.setIfInBounds_toArray, List.set_cons_zero, List.set_cons_succ])
        refine wpAnyH_take (i := 9) (v := (.pointer (some ⟨rb, 3, none⟩))) rfl (by kernel_rfl) (by kernel_rfl) (by kernel_rfl) (fun _ _ _ h => h) (Or.inl ⟨by rfl, ?_⟩) (by assumption) ?_
        · intro w' hSw
          (try dsimp only at hSw)
          go_simp <;> first | exact i64_in (by omega) (by omega) | exact u32_in (by omega) (by omega) | exact u32_add _ _ | (rw [Int.tmod_eq_emod_of_nonneg (by omega)]; omega) | (rw [Int.tdiv_eq_ediv_of_nonneg (by omega)]; omega) | omega
        (try simp only [Act.put, List.setIfInBounds_toArray, List.set_cons_zero, List.set_cons_succ])
        refine wpAnyH_ready (rs := [10]) (by kernel_rfl) (by simp) ?_
        refine AllReadyH.cons rfl (fun K hK => ?_) AllReadyH.nil
        go_simp
        have ks := Kb.set rb 3 w3 (.slice ad2 m2 c2)
        have hW3 : wr.heap.size < w3.heap.size := lt_of_cell? SC3.out.1
        have hnb : wr.heap.size ≠ rb := by omega
        refine hK.out _ _ ((by obtain ⟨y0, y1, y2, y3⟩ := SC3.out; exact ⟨by rw [ks.cell hW3 hnb]; exact y0, by rw [ks.cell hW3 hnb]; exact y1, by rw [ks.cell hW3 hnb]; exact y2, by rw [ks.cell hW3 hnb]; exact y3⟩)) (fun hHeld => ?_)
        clear hK
        (try simp only [Act.put, List.setIfInBounds_toArray, List.set_cons_zero, List.set_cons_succ])
        refine wpAnyH_done (by kernel_rfl) ?_ _
        clear hHeld
        have W4 : Hid (∃ l2 q2 v3, rowsAt tx a (k + 1) = some (l2, q2) ∧ RdAt R tx q2 (w3.setCell ⟨rb, 3, none⟩ (.slice ad2 m2 c2)) ∧ (w3.setCell ⟨rb, 3, none⟩ (.slice ad2 m2 c2)).cell? ⟨rb, 3, none⟩ = some v3 ∧ (w3.setCell ⟨rb, 3, none⟩ (.slice ad2 m2 c2)).frozen? ⟨rb, 3, none⟩ = false ∧ (w3.setCell ⟨rb, 3, none⟩ (.slice ad2 m2 c2)).ownsRow w.heap.size 36 4 v3 l2.length (rcs l2) ∧ KbX (fun x => x = R ∨ x = rb) w (w3.setCell ⟨rb, 3, none⟩ (.slice ad2 m2 c2)) ∧ (∀ o, o ≠ 3 → (w3.setCell ⟨rb, 3, none⟩ (.slice ad2 m2 c2)).cell? ⟨rb, o, none⟩ = w.cell? ⟨rb, o, none⟩) ∧ (∀ o, (w3.setCell ⟨rb, 3, none⟩ (.slice ad2 m2 c2)).frozen? ⟨rb, o, none⟩ = w.frozen? ⟨rb, o, none⟩)) := by
          refine ⟨l ++ [(nm, sz, cr, md)], q + TN, .slice ad2 m2 c2, by rw [hst.out]; rfl, R3.out.kb ks (fun e => hne e.symm), World.cell?_setCell_same w3 _ _ C3, by rw [World.frozen?_setCell]; exact F3, ?_, K3.out.trans (KbX.of ks (.inr rfl)), fun o ho => ?_, fun o => by rw [World.frozen?_setCell]; exact Q3.out o⟩
          · rw [rcs_append, List.length_append]
            exact own_kbx O3.out (KbX.of (X := fun x => x = rb) ks rfl) (fun j hj => by rw [hj]; exact hB)
          · rw [World.cell?_setCell_other w3 _ _ _ (by intro e; injection e with _ e _; exact ho e.symm)]; exact P3.out o ho
        clear K3 P3 O3 R3 SC3 C3 F3 ks
        go_simp
        go_wp2_with fail
        go_roundw
        case rel => exact ⟨k + 1, by omega, by go_num, W4.out⟩
        case measure => simp [intOf]; omega
    · obtain rfl : k = n := by omega
      have HAT := hide hat
      have HK := hide hkb
      have HP := hide hkp
      have HF := hide hkf
      have HR := hide hrd
      have HO := hide hown
      have HC := hide hc3
      clear hat hkb hkp hkf hrd hown hc3 hfz
      go_wp2_with fail
      go_ret
      refine ⟨ret_bool (by rw [HAT.out]; rfl), fun l2 q2 h => ?_, HK.out, HP.out, HF.out, q, HR.out⟩
      rw [HAT.out] at h
      simp only [Option.some.injEq, Prod.mk.injEq] at h
      obtain ⟨rfl, rfl⟩ := h
      exact ⟨HR.out, v, HC.out, HO.out⟩
end Go.Proofs.YtgdopepghmjopaaGreatDoor
