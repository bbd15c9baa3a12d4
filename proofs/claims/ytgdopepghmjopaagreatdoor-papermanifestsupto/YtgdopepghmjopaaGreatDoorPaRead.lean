import Derived.Test.YtgdopepghmjopaaGreatDoorGPaNum
import Derived.Test.YtgdopepghmjopaaGreatDoorGPaWrit
namespace Go.Proofs.YtgdopepghmjopaaGreatDoor
open Go.RowKit Go.Shelf
abbrev Val := Int × ByteArray
def fldW (f : FD) (l : List UInt8) : List UInt8 := wordL (l.drop f.wd.size)
def fldOk (f : FD) (l : List UInt8) : Bool := pfx f.wd l && (rdOk f.sh (fldW f l) && pfx f.en ((l.drop f.wd.size).drop (fldW f l).length))
def fldN (f : FD) (l : List UInt8) : Nat := f.wd.size + (fldW f l).length + f.en.size
def fldV (f : FD) (l : List UInt8) : Val := (rdN f.sh (fldW f l), rdT f.sh (fldW f l))
theorem via {R G : Prop} (h : R → G) (r : R) : G := h r
/-- what a record in memory, with its table and its reader's box, is good for -/
structure StOk (R rb rbx : Nat) (St : List Val → World → Prop) : Prop where
  kb : ∀ vs w w', St vs w → Kb R w w' → St vs w'
  box : ∀ vs w, St vs w → w.cell? ⟨rbx, 0, none⟩ = some (.pointer (some ⟨R, 0, none⟩))
  lt : ∀ vs w, St vs w → rb < w.heap.size
  ne : R ≠ rb
def SetsAs (f : FD) (rb : Nat) (vs : List Val) (St : List Val → World → Prop) : Prop := ∀ (v : Val) (w : World), St vs w → Calls Tryz.prog f.sf (#[.agg #[.int .i64 v.1, .string v.2]] ++ f.ca) w fun e w' => e = .returned (.tuple #[]) ∧ St (vs ++ [v]) w' ∧ Kb rb w w'
theorem RdAt.kb {R rb : Nat} {tx : ByteArray} {a : Nat} {w w' : World} (h : RdAt R tx a w) (hk : Kb rb w w') (hne : R ≠ rb) : RdAt R tx a w' := by
  have hl := h.lt
  exact ⟨by rw [hk.cell hl hne]; exact h.1, by rw [hk.cell hl hne]; exact h.2.1, by rw [hk.frozen hl hne]; exact h.2.2⟩
/-- what is left behind when a field could not be read -/
def Lost (R : Nat) (tx : ByteArray) (St : List Val → World → Prop) (w : World) : Prop := ∃ vs a, St vs w ∧ RdAt R tx a w
theorem Lost.mk {R : Nat} {tx : ByteArray} {St : List Val → World → Prop} {w : World} {vs : List Val} {a : Nat} (h1 : St vs w) (h2 : RdAt R tx a w) : Lost R tx St w := ⟨vs, a, h1, h2⟩
set_option maxHeartbeats 2000000 in
set_option maxRecDepth 100000 in
theorem read1_no (f : FD) (R rb rbx : Nat) (tx : ByteArray) (a : Nat) (vs : List Val) (St : List Val → World → Prop) (ok : StOk R rb rbx St) (w : World) (hs : St vs w) (hr : RdAt R tx a w) (ha : a ≤ tx.size) (htx : tx.size < 9223372036854775808) (hp : pfx f.wd (tx.data.toList.drop a) = false) :
    Calls Tryz.prog 86 (#[.agg f.cells.toArray] ++ #[.pointer (some ⟨rbx, 0, none⟩)]) w fun e w' => e = .returned (.bool false) ∧ Lost R tx St w' := by
  rw [show (#[.agg f.cells.toArray] ++ #[.pointer (some ⟨rbx, 0, none⟩)] : Array Value) = #[.agg f.cells.toArray, .pointer (some ⟨rbx, 0, none⟩)] from rfl]
  obtain ⟨W0, hW0⟩ : ∃ W0, W0 = w.alloc (.cells f.cells.toArray 73) := ⟨_, rfl⟩
  have b0 : Below w.heap.size w W0 := by rw [hW0]; exact (Below.refl _ w).alloc (Nat.le_refl _) _
  have S0 := hide (ok.kb _ _ _ hs (Kb.of b0))
  have C := hide (skip_any R tx f.wd a W0 (hr.below b0) ha htx)
  rw [hp] at C
  have k0 := ok.box _ _ hs
  have hx : rbx < w.heap.size := lt_of_cell? k0
  have KB := hide ok.kb
  clear hs hr b0 ok
  unfold FD.cells at hW0 ⊢
  go_enter Tryz.func86, Tryz.ntmps86
  go_wp2_with fail
  rw [← hW0]
  clear hW0
  refine Calls.mono C.out ?_
  rintro e w1 ⟨rfl, r1, q1⟩
  have R1 := hide (show Lost R tx St w1 from ⟨vs, _, KB.out _ _ _ S0.out q1, r1⟩)
  clear r1 q1 C KB S0
  go_wp2_with fail
  go_ret
  exact ⟨rfl, R1.out⟩
theorem alloc_val (w : World) (n : Int) (t : ByteArray) : Below w.heap.size w (w.alloc (.cells #[.int .i64 n, .string t] 76)) := (Below.refl _ w).alloc (Nat.le_refl _) _
theorem Kb.late {R : Nat} {w0 w : World} (h : Kb R w0 w) (b o : Nat) (v : Value) (hb : w0.heap.size ≤ b) : Kb R w0 (w.setCell ⟨b, o, none⟩ v) :=
  ⟨h.os, h.tape, h.output, by simpa using h.size, fun i hi hn => (Below.heap_setCell _ _ _ _ (by show i ≠ b; omega)).trans (h.block i hi hn)⟩
theorem RdAt.late {R : Nat} {tx : ByteArray} {a : Nat} {w : World} (h : RdAt R tx a w) (b o : Nat) (v : Value) (hb : R ≠ b) : RdAt R tx a (w.setCell ⟨b, o, none⟩ v) := h.kb (Kb.set b o w v) hb
/-- the value's box, that was made ahead, is filled -/
theorem val_set {R : Nat} {tx : ByteArray} {a : Nat} {w0 w : World} {vb : Nat} {N n0 : Int} {T t0 : ByteArray} (hk : Kb R w0 w) (hr : RdAt R tx a w) (hv : w0.heap.size ≤ vb) (hR : R < w0.heap.size) (c0 : w.cell? ⟨vb, 0, none⟩ = some (.int .i64 n0)) (c1 : w.cell? ⟨vb, 1, none⟩ = some (.string t0)) :
    ((w.setCell ⟨vb, 0, none⟩ (.int .i64 N)).setCell ⟨vb, 1, none⟩ (.string T)).cell? ⟨vb, 0, none⟩ = some (.int .i64 N) ∧ ((w.setCell ⟨vb, 0, none⟩ (.int .i64 N)).setCell ⟨vb, 1, none⟩ (.string T)).cell? ⟨vb, 1, none⟩ = some (.string T) ∧ Kb R w0 ((w.setCell ⟨vb, 0, none⟩ (.int .i64 N)).setCell ⟨vb, 1, none⟩ (.string T)) ∧ RdAt R tx a ((w.setCell ⟨vb, 0, none⟩ (.int .i64 N)).setCell ⟨vb, 1, none⟩ (.string T)) := by
  have d1 : (w.setCell ⟨vb, 0, none⟩ (.int .i64 N)).cell? ⟨vb, 1, none⟩ = some (.string t0) := (World.cell?_setCell_other w _ _ _ (by simp)).trans c1
  refine ⟨?_, World.cell?_setCell_same _ _ _ d1, (hk.late _ _ _ hv).late _ _ _ hv, (hr.late _ _ _ (by omega)).late _ _ _ (by omega)⟩
  exact (World.cell?_setCell_other _ _ _ _ (by simp)).trans (World.cell?_setCell_same w _ _ c0)
set_option maxHeartbeats 8000000 in
set_option maxRecDepth 100000 in
set_option linter.unusedSimpArgs false in
theorem read1_yes (f : FD) (he : Enters Tryz.prog f.sf) (hsh : ReadsAs f.sh) (R rb rbx : Nat) (tx : ByteArray) (a : Nat) (vs : List Val) (St : List Val → World → Prop) (ok : StOk R rb rbx St) (hset : SetsAs f rb vs St) (w : World) (hs : St vs w) (hr : RdAt R tx a w) (ha : a ≤ tx.size) (htx : tx.size < 9223372036854775808) (hp : pfx f.wd (tx.data.toList.drop a) = true) :
    Calls Tryz.prog 86 (#[.agg f.cells.toArray] ++ #[.pointer (some ⟨rbx, 0, none⟩)]) w fun e w' => e = .returned (.bool (fldOk f (tx.data.toList.drop a))) ∧ (fldOk f (tx.data.toList.drop a) = true → St (vs ++ [fldV f (tx.data.toList.drop a)]) w' ∧ RdAt R tx (a + fldN f (tx.data.toList.drop a)) w') ∧ Lost R tx St w' := by
  unfold Enters at he
  rw [show (#[.agg f.cells.toArray] ++ #[.pointer (some ⟨rbx, 0, none⟩)] : Array Value) = #[.agg f.cells.toArray, .pointer (some ⟨rbx, 0, none⟩)] from rfl]
  obtain ⟨W0, hW0⟩ : ∃ W0, W0 = w.alloc (.cells f.cells.toArray 73) := ⟨_, rfl⟩
  have b0 : Below w.heap.size w W0 := by rw [hW0]; exact (Below.refl _ w).alloc (Nat.le_refl _) _
  have s0 : w.heap.size < W0.heap.size := by rw [hW0]; simp
  have S0 := hide (ok.kb _ _ _ hs (Kb.of b0))
  have C := hide (skip_any R tx f.wd a W0 (hr.below b0) ha htx)
  rw [hp] at C
  have hA : skA f.wd tx a = a + f.wd.size := by unfold skA; rw [hp]; rfl
  rw [hA] at C
  have ha1 := pfx_len ha hp
  have k0 := ok.box _ _ hs
  have hx : rbx < w.heap.size := lt_of_cell? k0
  have hRl := hr.lt
  have hrb := ok.lt _ _ hs
  have KB := hide ok.kb
  have BOX := hide ok.box
  have NE := hide ok.ne
  have SET := hide hset
  have RD := hide hsh
  -- the box of f, in every later world
  have FC : Hid (∀ w' : World, Kb R W0 w' → w'.cell? ⟨w.heap.size, 1, none⟩ = some (.int .i64 f.sh) ∧ w'.cell? ⟨w.heap.size, 5, none⟩ = some (.func (.func f.sf) #[] f.ca) ∧ w'.cell? ⟨w.heap.size, 6, none⟩ = some (.string f.en)) := fun w' hk => by
    rw [hk.cell s0 (by omega), hk.cell s0 (by omega), hk.cell s0 (by omega), hW0]
    exact ⟨by simp [FD.cells], by simp [FD.cells], by simp [FD.cells]⟩
  -- the word
  have e1 : (tx.data.toList.drop a).drop f.wd.size = tx.data.toList.drop (a + f.wd.size) := by rw [List.drop_drop]
  have hW : fldW f (tx.data.toList.drop a) = wordL (tx.data.toList.drop (a + f.wd.size)) := by unfold fldW; rw [e1]
  have hwl := wordL_le (tx.data.toList.drop (a + f.wd.size))
  rw [List.length_drop, size_data] at hwl
  have EO : Hid (fldOk f (tx.data.toList.drop a) = (rdOk f.sh (wordL (tx.data.toList.drop (a + f.wd.size))) && pfx f.en (tx.data.toList.drop (a + f.wd.size + (wordL (tx.data.toList.drop (a + f.wd.size))).length))) ∧ fldN f (tx.data.toList.drop a) = f.wd.size + (wordL (tx.data.toList.drop (a + f.wd.size))).length + f.en.size ∧ fldV f (tx.data.toList.drop a) = (rdN f.sh (wordL (tx.data.toList.drop (a + f.wd.size))), rdT f.sh (wordL (tx.data.toList.drop (a + f.wd.size))))) := by
    refine ⟨?_, ?_, ?_⟩
    · unfold fldOk; rw [hp, hW, e1, List.drop_drop]; rfl
    · unfold fldN; rw [hW]
    · unfold fldV; rw [hW]
  have CT := hide (fun w' (h : RdAt R tx (a + f.wd.size) w') => take_any R tx (a + f.wd.size) w' h ha1 htx)
  have CR := hide (fun w' => RD.out (strOf (wordL (tx.data.toList.drop (a + f.wd.size)))) w' (by rw [strOf_size]; omega))
  rw [strOf_data] at CR
  generalize wordL (tx.data.toList.drop (a + f.wd.size)) = W at *
  generalize fldOk f (tx.data.toList.drop a) = FO at *
  generalize fldN f (tx.data.toList.drop a) = FN at *
  generalize fldV f (tx.data.toList.drop a) = FV at *
  have CS := hide (fun w' (h : RdAt R tx (a + f.wd.size + W.length) w') => skip_any R tx f.en (a + f.wd.size + W.length) w' h (by omega) htx)
  generalize rdN f.sh W = N at *
  generalize rdT f.sh W = T at *
  generalize rdOk f.sh W = O at *
  clear hs hr b0 ok hset hsh hp hA hW e1 RD
  unfold FD.cells at hW0 ⊢
  go_enter Tryz.func86, Tryz.ntmps86
  go_wp2_with fail
  rw [← hW0]
  clear hW0
  refine Calls.mono C.out ?_
  rintro e w1 ⟨rfl, r1, q1⟩
  have R1 := hide r1
  have Q1 := hide q1
  have S1 := hide (KB.out _ _ _ S0.out q1)
  clear r1 q1 C
  go_wp2_with fail
  have HS : Hid (∀ w', Kb R W0 w' → w'.cell? ⟨w.heap.size, 1, none⟩ = some (.int .i64 f.sh) ∧ w'.cell? ⟨rbx, 0, none⟩ = some (.pointer (some ⟨R, 0, none⟩))) := fun w' hk => ⟨(FC.out w' hk).1, BOX.out _ _ (KB.out _ _ _ S0.out hk)⟩
  refine wp_region_held_drew (S := fun w' => w'.cell? ⟨w.heap.size, 1, none⟩ = some (.int .i64 f.sh) ∧ w'.cell? ⟨rbx, 0, none⟩ = some (.pointer (some ⟨R, 0, none⟩))) (by kernel_rfl) (HS.out _ (Q1.out.trans (Kb.of (Below.refl _ w1).drew))) (fun hHeld => ?_)
  have Q1d := hide (Q1.out.trans (Kb.of (Below.refl _ w1).drew))
  have R1d := hide (R1.out.below (Below.refl _ w1).drew)
  generalize w1.drew = w1d at *
  refine wpAnyH_take (i := 0) (v := (.pointer (some ⟨w.heap.size, 1, none⟩))) rfl (by kernel_rfl) (by kernel_rfl) (by kernel_rfl) (fun _ _ _ h => h) (Or.inl ⟨by rfl, ?_⟩) (by assumption) ?_
  · intro w' hSw
    (try dsimp only at hSw)
    go_simp <;> first | exact i64_in (by omega) (by omega) | exact u32_in (by omega) (by omega) | exact u32_add _ _ | (rw [Int.tmod_eq_emod_of_nonneg (by omega)]; omega) | (rw [Int.tdiv_eq_ediv_of_nonneg (by omega)]; omega) | omega
  (try simp only [Act.put, List.setIfInBounds_toArray, List.set_cons_zero, List.set_cons_succ])
  refine wpAnyH_take (i := 1) (v := (.int .i64 f.sh)) rfl (by kernel_rfl) (by kernel_rfl) (by kernel_rfl) (fun _ _ _ h => h) (Or.inl ⟨by rfl, ?_⟩) (by assumption) ?_
  · intro w' hSw
    (try dsimp only at hSw)
    (obtain ⟨hS1, hS2⟩ := hSw; go_simp)
  (try simp only [Act.put, List.setIfInBounds_toArray, List.set_cons_zero, List.set_cons_succ])
  refine wpAnyH_take (i := 2) (v := (.pointer (some ⟨R, 0, none⟩))) rfl (by kernel_rfl) (by kernel_rfl) (by kernel_rfl) (fun _ _ _ h => h) (Or.inl ⟨by rfl, ?_⟩) (by assumption) ?_
  · intro w' hSw
    (try dsimp only at hSw)
    (obtain ⟨hS1, hS2⟩ := hSw; go_simp)
  (try simp only [Act.put, List.setIfInBounds_toArray, List.set_cons_zero, List.set_cons_succ])
  refine' via (R := _) (fun REST => ?_) ?_
  rotate_left 1
  refine wpAnyH_ready (rs := [3, 8]) (by kernel_rfl) (by simp) ?_
  refine AllReadyH.cons rfl (fun K hK => ?_) (AllReadyH.cons rfl (fun K hK => ?_) AllReadyH.nil)
  · skip
    go_simp
    refine Calls.mono (CT.out _ R1d.out) ?_
    rintro e w2 ⟨rfl, r2, q2⟩
    have R2 := hide r2
    have Q2 := hide (Q1d.out.trans q2)
    clear r2 q2
    refine hK.out _ _ (HS.out _ Q2.out) (fun hHeld => ?_)
    clear hK
    (try simp only [Act.put, List.setIfInBounds_toArray, List.set_cons_zero, List.set_cons_succ])
    refine wpAnyH_ready (rs := [4, 8]) (by kernel_rfl) (by simp) ?_
    refine AllReadyH.cons rfl (fun K hK => ?_) (AllReadyH.cons rfl (fun K hK => ?_) AllReadyH.nil)
    · skip
      go_simp
      refine Calls.mono (CR.out _) ?_
      rintro e w3 ⟨rfl, b3⟩
      have R3 := hide (R2.out.below b3)
      have Q3 := hide (Q2.out.trans (Kb.of b3))
      clear b3
      refine hK.out _ _ (HS.out _ Q3.out) (fun hHeld => ?_)
      clear hK
      (try simp only [Act.put, List.setIfInBounds_toArray, List.set_cons_zero, List.set_cons_succ])
      refine wpAnyH_take (i := 5) (v := (.tuple #[.agg #[.int .i64 N, .string T], .bool O])) rfl (by kernel_rfl) (by kernel_rfl) (by kernel_rfl) (fun _ _ _ h => h) (Or.inl ⟨by rfl, ?_⟩) (by assumption) ?_
      · intro w' hSw
        (try dsimp only at hSw)
        go_simp <;> first | exact i64_in (by omega) (by omega) | exact u32_in (by omega) (by omega) | exact u32_add _ _ | (rw [Int.tmod_eq_emod_of_nonneg (by omega)]; omega) | (rw [Int.tdiv_eq_ediv_of_nonneg (by omega)]; omega) | omega
      (try simp only [Act.put, List.setIfInBounds_toArray, List.set_cons_zero, List.set_cons_succ])
      refine wpAnyH_take (i := 6) (v := (.agg #[.int .i64 N, .string T])) rfl (by kernel_rfl) (by kernel_rfl) (by kernel_rfl) (fun _ _ _ h => h) (Or.inl ⟨by rfl, ?_⟩) (by assumption) ?_
      · intro w' hSw
        (try dsimp only at hSw)
        go_simp <;> first | exact i64_in (by omega) (by omega) | exact u32_in (by omega) (by omega) | exact u32_add _ _ | (rw [Int.tmod_eq_emod_of_nonneg (by omega)]; omega) | (rw [Int.tdiv_eq_ediv_of_nonneg (by omega)]; omega) | omega
      (try simp only [Act.put, List.setIfInBounds_toArray, List.set_cons_zero, List.set_cons_succ])
      refine wpAnyH_take (i := 7) (v := (.bool O)) rfl (by kernel_rfl) (by kernel_rfl) (by kernel_rfl) (fun _ _ _ h => h) (Or.inl ⟨by rfl, ?_⟩) (by assumption) ?_
      · intro w' hSw
        (try dsimp only at hSw)
        go_simp <;> first | exact i64_in (by omega) (by omega) | exact u32_in (by omega) (by omega) | exact u32_add _ _ | (rw [Int.tmod_eq_emod_of_nonneg (by omega)]; omega) | (rw [Int.tdiv_eq_ediv_of_nonneg (by omega)]; omega) | omega
      (try simp only [Act.put, List.setIfInBounds_toArray, List.set_cons_zero, List.set_cons_succ])
      refine wpAnyH_ready (rs := [8]) (by kernel_rfl) (by simp) ?_
      refine AllReadyH.cons rfl (fun K hK => ?_) AllReadyH.nil
      go_simp
      refine hK.out _ _ (HS.out _ (Q3.out.trans (Kb.of (alloc_val w3 0 ⟨#[]⟩)))) (fun hHeld => ?_)
      clear hK
      (try simp only [Act.put, List.setIfInBounds_toArray, List.set_cons_zero, List.set_cons_succ])
      refine wpAnyH_ready (rs := [9]) (by kernel_rfl) (by simp) ?_
      refine AllReadyH.cons rfl (fun K hK => ?_) AllReadyH.nil
      go_simp
      refine hK.out _ _ (HS.out _ (Q3.out.trans (Kb.of (alloc_val w3 N T)))) (fun hHeld => ?_)
      clear hK
      (try simp only [Act.put, List.setIfInBounds_toArray, List.set_cons_zero, List.set_cons_succ])
      refine wpAnyH_ready (rs := [10]) (by kernel_rfl) (by simp) ?_
      refine AllReadyH.cons rfl (fun K hK => ?_) AllReadyH.nil
      go_simp
      refine hK.out _ _ (HS.out _ (Q3.out.trans (Kb.of (alloc_val w3 N T)))) (fun hHeld => ?_)
      clear hK
      (try simp only [Act.put, List.setIfInBounds_toArray, List.set_cons_zero, List.set_cons_succ])
      refine wpAnyH_done (by kernel_rfl) ?_ _
      clear hHeld
      obtain ⟨w4, hw4⟩ : ∃ w4, w4 = w3.alloc (.cells #[.int .i64 N, .string T] 76) := ⟨_, rfl⟩
      obtain ⟨vb, hvb⟩ : ∃ vb, vb = w3.heap.size := ⟨_, rfl⟩
      have XF : Hid (w4.cell? ⟨vb, 0, none⟩ = some (.int .i64 N) ∧ w4.cell? ⟨vb, 1, none⟩ = some (.string T) ∧ Kb R W0 w4 ∧ RdAt R tx (a + f.wd.size + W.length) w4) := by
        rw [hw4, hvb]
        exact ⟨by simp, by simp, Q3.out.trans (Kb.of (alloc_val w3 N T)), R3.out.below (alloc_val w3 N T)⟩
      rw [← hw4, ← hvb]
      clear hw4 hvb Q3 R3
      revert w4 vb XF
      exact REST
    · skip
      go_simp
      have Q2a := hide (Q2.out.trans (Kb.of (alloc_val w2 0 ⟨#[]⟩)))
      have R2a := hide (R2.out.below (alloc_val w2 0 ⟨#[]⟩))
      have hva : W0.heap.size ≤ w2.heap.size := Q2.out.size
      have hc0 : Hid ((w2.alloc (.cells #[.int .i64 0, .string ⟨#[]⟩] 76)).cell? ⟨w2.heap.size, 0, none⟩ = some (.int .i64 0) ∧ (w2.alloc (.cells #[.int .i64 0, .string ⟨#[]⟩] 76)).cell? ⟨w2.heap.size, 1, none⟩ = some (.string ⟨#[]⟩) ∧ (w2.alloc (.cells #[.int .i64 0, .string ⟨#[]⟩] 76)).frozen? ⟨w2.heap.size, 0, none⟩ = false ∧ (w2.alloc (.cells #[.int .i64 0, .string ⟨#[]⟩] 76)).frozen? ⟨w2.heap.size, 1, none⟩ = false) := ⟨by simp, by simp, by simp, by simp⟩
      generalize w2.alloc (.cells #[.int .i64 0, .string ⟨#[]⟩] 76) = w2a at *
      generalize w2.heap.size = vb at *
      refine hK.out _ _ (HS.out _ Q2a.out) (fun hHeld => ?_)
      clear hK
      (try simp only [Act.put, List.setIfInBounds_toArray, List.set_cons_zero, List.set_cons_succ])
      refine wpAnyH_ready (rs := [4]) (by kernel_rfl) (by simp) ?_
      refine AllReadyH.cons rfl (fun K hK => ?_) AllReadyH.nil
      go_simp
      refine Calls.mono (CR.out _) ?_
      rintro e w3 ⟨rfl, b3⟩
      have hvl : vb < w2a.heap.size := lt_of_cell? hc0.out.1
      have c0 : w3.cell? ⟨vb, 0, none⟩ = some (.int .i64 0) := by rw [b3.cell (by exact hvl)]; exact hc0.out.1
      have c1 : w3.cell? ⟨vb, 1, none⟩ = some (.string ⟨#[]⟩) := by rw [b3.cell (by exact hvl)]; exact hc0.out.2.1
      have f0 : w3.frozen? ⟨vb, 0, none⟩ = false := by rw [b3.frozen (by exact hvl)]; exact hc0.out.2.2.1
      have f1 : w3.frozen? ⟨vb, 1, none⟩ = false := by rw [b3.frozen (by exact hvl)]; exact hc0.out.2.2.2
      have R3 := hide (R2a.out.below b3)
      have Q3 := hide (Q2a.out.trans (Kb.of b3))
      have VS := hide (val_set (N := N) (T := T) Q3.out R3.out hva (by omega) c0 c1)
      clear b3
      refine hK.out _ _ (HS.out _ Q3.out) (fun hHeld => ?_)
      clear hK
      (try simp only [Act.put, List.setIfInBounds_toArray, List.set_cons_zero, List.set_cons_succ])
      refine wpAnyH_take (i := 5) (v := (.tuple #[.agg #[.int .i64 N, .string T], .bool O])) rfl (by kernel_rfl) (by kernel_rfl) (by kernel_rfl) (fun _ _ _ h => h) (Or.inl ⟨by rfl, ?_⟩) (by assumption) ?_
      · intro w' hSw
        (try dsimp only at hSw)
        go_simp <;> first | exact i64_in (by omega) (by omega) | exact u32_in (by omega) (by omega) | exact u32_add _ _ | (rw [Int.tmod_eq_emod_of_nonneg (by omega)]; omega) | (rw [Int.tdiv_eq_ediv_of_nonneg (by omega)]; omega) | omega
      (try simp only [Act.put, List.setIfInBounds_toArray, List.set_cons_zero, List.set_cons_succ])
      refine wpAnyH_take (i := 6) (v := (.agg #[.int .i64 N, .string T])) rfl (by kernel_rfl) (by kernel_rfl) (by kernel_rfl) (fun _ _ _ h => h) (Or.inl ⟨by rfl, ?_⟩) (by assumption) ?_
      · intro w' hSw
        (try dsimp only at hSw)
        go_simp <;> first | exact i64_in (by omega) (by omega) | exact u32_in (by omega) (by omega) | exact u32_add _ _ | (rw [Int.tmod_eq_emod_of_nonneg (by omega)]; omega) | (rw [Int.tdiv_eq_ediv_of_nonneg (by omega)]; omega) | omega
      (try simp only [Act.put, List.setIfInBounds_toArray, List.set_cons_zero, List.set_cons_succ])
      refine wpAnyH_take (i := 7) (v := (.bool O)) rfl (by kernel_rfl) (by kernel_rfl) (by kernel_rfl) (fun _ _ _ h => h) (Or.inl ⟨by rfl, ?_⟩) (by assumption) ?_
      · intro w' hSw
        (try dsimp only at hSw)
        go_simp <;> first | exact i64_in (by omega) (by omega) | exact u32_in (by omega) (by omega) | exact u32_add _ _ | (rw [Int.tmod_eq_emod_of_nonneg (by omega)]; omega) | (rw [Int.tdiv_eq_ediv_of_nonneg (by omega)]; omega) | omega
      (try simp only [Act.put, List.setIfInBounds_toArray, List.set_cons_zero, List.set_cons_succ])
      refine wpAnyH_ready (rs := [9]) (by kernel_rfl) (by simp) ?_
      refine AllReadyH.cons rfl (fun K hK => ?_) AllReadyH.nil
      go_simp
      refine hK.out _ _ (HS.out _ VS.out.2.2.1) (fun hHeld => ?_)
      clear hK
      (try simp only [Act.put, List.setIfInBounds_toArray, List.set_cons_zero, List.set_cons_succ])
      refine wpAnyH_ready (rs := [10]) (by kernel_rfl) (by simp) ?_
      refine AllReadyH.cons rfl (fun K hK => ?_) AllReadyH.nil
      go_simp
      refine hK.out _ _ (HS.out _ VS.out.2.2.1) (fun hHeld => ?_)
      clear hK
      (try simp only [Act.put, List.setIfInBounds_toArray, List.set_cons_zero, List.set_cons_succ])
      refine wpAnyH_done (by kernel_rfl) ?_ _
      clear hHeld
      obtain ⟨w4, hw4⟩ : ∃ w4, w4 = (w3.setCell ⟨vb, 0, none⟩ (.int .i64 N)).setCell ⟨vb, 1, none⟩ (.string T) := ⟨_, rfl⟩
      have XF : Hid (w4.cell? ⟨vb, 0, none⟩ = some (.int .i64 N) ∧ w4.cell? ⟨vb, 1, none⟩ = some (.string T) ∧ Kb R W0 w4 ∧ RdAt R tx (a + f.wd.size + W.length) w4) := by
        rw [hw4]; exact VS.out
      rw [← hw4]
      clear hw4 VS c0 c1 f0 f1
      exact REST w4 vb XF
  · skip
    go_simp
    have Q1a := hide (Q1d.out.trans (Kb.of (alloc_val w1d 0 ⟨#[]⟩)))
    have R1a := hide (R1d.out.below (alloc_val w1d 0 ⟨#[]⟩))
    have hva : W0.heap.size ≤ w1d.heap.size := Q1d.out.size
    have hc0 : Hid ((w1d.alloc (.cells #[.int .i64 0, .string ⟨#[]⟩] 76)).cell? ⟨w1d.heap.size, 0, none⟩ = some (.int .i64 0) ∧ (w1d.alloc (.cells #[.int .i64 0, .string ⟨#[]⟩] 76)).cell? ⟨w1d.heap.size, 1, none⟩ = some (.string ⟨#[]⟩) ∧ (w1d.alloc (.cells #[.int .i64 0, .string ⟨#[]⟩] 76)).frozen? ⟨w1d.heap.size, 0, none⟩ = false ∧ (w1d.alloc (.cells #[.int .i64 0, .string ⟨#[]⟩] 76)).frozen? ⟨w1d.heap.size, 1, none⟩ = false) := ⟨by simp, by simp, by simp, by simp⟩
    generalize w1d.alloc (.cells #[.int .i64 0, .string ⟨#[]⟩] 76) = w1a at *
    generalize w1d.heap.size = vb at *
    refine hK.out _ _ (HS.out _ Q1a.out) (fun hHeld => ?_)
    clear hK
    (try simp only [Act.put, List.setIfInBounds_toArray, List.set_cons_zero, List.set_cons_succ])
    refine wpAnyH_ready (rs := [3]) (by kernel_rfl) (by simp) ?_
    refine AllReadyH.cons rfl (fun K hK => ?_) AllReadyH.nil
    go_simp
    refine Calls.mono (CT.out _ R1a.out) ?_
    rintro e w2 ⟨rfl, r2, q2⟩
    have hvl : vb < w1a.heap.size := lt_of_cell? hc0.out.1
    have hvR : vb ≠ R := by omega
    have hc1 : Hid (w2.cell? ⟨vb, 0, none⟩ = some (.int .i64 0) ∧ w2.cell? ⟨vb, 1, none⟩ = some (.string ⟨#[]⟩) ∧ w2.frozen? ⟨vb, 0, none⟩ = false ∧ w2.frozen? ⟨vb, 1, none⟩ = false) := by
      show _ ∧ _
      rw [q2.cell hvl hvR, q2.cell hvl hvR, q2.frozen hvl hvR, q2.frozen hvl hvR]; exact hc0.out
    have R2 := hide r2
    have Q2 := hide (Q1a.out.trans q2)
    clear r2 q2
    refine hK.out _ _ (HS.out _ Q2.out) (fun hHeld => ?_)
    clear hK
    (try simp only [Act.put, List.setIfInBounds_toArray, List.set_cons_zero, List.set_cons_succ])
    refine wpAnyH_ready (rs := [4]) (by kernel_rfl) (by simp) ?_
    refine AllReadyH.cons rfl (fun K hK => ?_) AllReadyH.nil
    go_simp
    refine Calls.mono (CR.out _) ?_
    rintro e w3 ⟨rfl, b3⟩
    have hvl2 : vb < w2.heap.size := lt_of_cell? hc1.out.1
    have c0 : w3.cell? ⟨vb, 0, none⟩ = some (.int .i64 0) := by rw [b3.cell (by exact hvl2)]; exact hc1.out.1
    have c1 : w3.cell? ⟨vb, 1, none⟩ = some (.string ⟨#[]⟩) := by rw [b3.cell (by exact hvl2)]; exact hc1.out.2.1
    have f0 : w3.frozen? ⟨vb, 0, none⟩ = false := by rw [b3.frozen (by exact hvl2)]; exact hc1.out.2.2.1
    have f1 : w3.frozen? ⟨vb, 1, none⟩ = false := by rw [b3.frozen (by exact hvl2)]; exact hc1.out.2.2.2
    have R3 := hide (R2.out.below b3)
    have Q3 := hide (Q2.out.trans (Kb.of b3))
    have VS := hide (val_set (N := N) (T := T) Q3.out R3.out hva (by omega) c0 c1)
    clear b3
    refine hK.out _ _ (HS.out _ Q3.out) (fun hHeld => ?_)
    clear hK
    (try simp only [Act.put, List.setIfInBounds_toArray, List.set_cons_zero, List.set_cons_succ])
    refine wpAnyH_take (i := 5) (v := (.tuple #[.agg #[.int .i64 N, .string T], .bool O])) rfl (by kernel_rfl) (by kernel_rfl) (by kernel_rfl) (fun _ _ _ h => h) (Or.inl ⟨by rfl, ?_⟩) (by assumption) ?_
    · intro w' hSw
      (try dsimp only at hSw)
      go_simp <;> first | exact i64_in (by omega) (by omega) | exact u32_in (by omega) (by omega) | exact u32_add _ _ | (rw [Int.tmod_eq_emod_of_nonneg (by omega)]; omega) | (rw [Int.tdiv_eq_ediv_of_nonneg (by omega)]; omega) | omega
    (try simp only [Act.put, List.setIfInBounds_toArray, List.set_cons_zero, List.set_cons_succ])
    refine wpAnyH_take (i := 6) (v := (.agg #[.int .i64 N, .string T])) rfl (by kernel_rfl) (by kernel_rfl) (by kernel_rfl) (fun _ _ _ h => h) (Or.inl ⟨by rfl, ?_⟩) (by assumption) ?_
    · intro w' hSw
      (try dsimp only at hSw)
      go_simp <;> first | exact i64_in (by omega) (by omega) | exact u32_in (by omega) (by omega) | exact u32_add _ _ | (rw [Int.tmod_eq_emod_of_nonneg (by omega)]; omega) | (rw [Int.tdiv_eq_ediv_of_nonneg (by omega)]; omega) | omega
    (try simp only [Act.put, List.setIfInBounds_toArray, List.set_cons_zero, List.set_cons_succ])
    refine wpAnyH_take (i := 7) (v := (.bool O)) rfl (by kernel_rfl) (by kernel_rfl) (by kernel_rfl) (fun _ _ _ h => h) (Or.inl ⟨by rfl, ?_⟩) (by assumption) ?_
    · intro w' hSw
      (try dsimp only at hSw)
      go_simp <;> first | exact i64_in (by omega) (by omega) | exact u32_in (by omega) (by omega) | exact u32_add _ _ | (rw [Int.tmod_eq_emod_of_nonneg (by omega)]; omega) | (rw [Int.tdiv_eq_ediv_of_nonneg (by omega)]; omega) | omega
    (try simp only [Act.put, List.setIfInBounds_toArray, List.set_cons_zero, List.set_cons_succ])
    refine wpAnyH_ready (rs := [9]) (by kernel_rfl) (by simp) ?_
    refine AllReadyH.cons rfl (fun K hK => ?_) AllReadyH.nil
    go_simp
    refine hK.out _ _ (HS.out _ VS.out.2.2.1) (fun hHeld => ?_)
    clear hK
    (try simp only [Act.put, List.setIfInBounds_toArray, List.set_cons_zero, List.set_cons_succ])
    refine wpAnyH_ready (rs := [10]) (by kernel_rfl) (by simp) ?_
    refine AllReadyH.cons rfl (fun K hK => ?_) AllReadyH.nil
    go_simp
    refine hK.out _ _ (HS.out _ VS.out.2.2.1) (fun hHeld => ?_)
    clear hK
    (try simp only [Act.put, List.setIfInBounds_toArray, List.set_cons_zero, List.set_cons_succ])
    refine wpAnyH_done (by kernel_rfl) ?_ _
    clear hHeld
    obtain ⟨w4, hw4⟩ : ∃ w4, w4 = (w3.setCell ⟨vb, 0, none⟩ (.int .i64 N)).setCell ⟨vb, 1, none⟩ (.string T) := ⟨_, rfl⟩
    have XF : Hid (w4.cell? ⟨vb, 0, none⟩ = some (.int .i64 N) ∧ w4.cell? ⟨vb, 1, none⟩ = some (.string T) ∧ Kb R W0 w4 ∧ RdAt R tx (a + f.wd.size + W.length) w4) := by
      rw [hw4]; exact VS.out
    rw [← hw4]
    clear hw4 VS c0 c1 f0 f1
    exact REST w4 vb XF
  intro w4 vb XF
  obtain ⟨v0, v1, q4, r4⟩ := XF.out
  obtain ⟨g1, g5, g6⟩ := FC.out _ q4
  have S4 := hide (KB.out _ _ _ S0.out q4)
  have R4 := hide r4
  have Q4 := hide q4
  have hN4 : w.heap.size < w4.heap.size := Nat.lt_of_lt_of_le s0 q4.size
  have CSET := hide (SET.out (N, T) w4 S4.out)
  clear XF q4 r4 HS CT CR Q1d R1d Q1 R1 S1 g1 SET
  go_wp2_with fail
  refine Calls.mono CSET.out ?_
  rintro e w5 ⟨rfl, s5, q5⟩
  have S5 := hide s5
  have R5 := hide (R4.out.kb q5 NE.out)
  have hN5 : w.heap.size ≠ rb := by omega
  have g6' : w5.cell? ⟨w.heap.size, 6, none⟩ = some (.string f.en) := by rw [q5.cell hN4 hN5]; exact g6
  have x5 := BOX.out _ _ s5
  clear s5 q5 g5 g6 v0 v1 CSET
  cases hO : O with
  | false =>
    have E1 : Hid (FO = false) := by show _ = _; rw [EO.out.1, hO]; rfl
    go_wp2_with fail
    go_ret
    refine ⟨ret_bool E1.out.symm, ?_, Lost.mk S5.out R5.out⟩
    intro h
    rw [E1.out] at h
    cases h
  | true =>
    have C5 := hide (CS.out w5 R5.out)
    have E1 : Hid (FO = pfx f.en (tx.data.toList.drop (a + f.wd.size + W.length))) := by show _ = _; rw [EO.out.1, hO]; rfl
    generalize hPE : pfx f.en (tx.data.toList.drop (a + f.wd.size + W.length)) = PE at *
    go_wp2_with fail
    refine Calls.mono C5.out ?_
    rintro e w6 ⟨rfl, r6, q6⟩
    have S6 := hide (KB.out _ _ _ S5.out q6)
    have R6 := hide r6
    have HPE := hide hPE
    clear r6 q6 hPE C5
    go_wp2_with fail
    go_ret
    refine ⟨ret_bool E1.out.symm, ?_, Lost.mk S6.out R6.out⟩
    intro h
    rw [EO.out.2.1, EO.out.2.2]
    refine ⟨S6.out, ?_⟩
    have := R6.out
    unfold skA at this
    rw [HPE.out, ← E1.out, h] at this
    have e : a + f.wd.size + W.length + f.en.size = a + (f.wd.size + W.length + f.en.size) := by omega
    rw [← e]
    exact this
end Go.Proofs.YtgdopepghmjopaaGreatDoor
