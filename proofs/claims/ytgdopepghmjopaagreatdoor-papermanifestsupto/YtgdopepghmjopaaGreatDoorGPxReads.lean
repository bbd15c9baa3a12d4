import Derived.Test.YtgdopepghmjopaaGreatDoorGPxTot
import Derived.Test.YtgdopepghmjopaaGreatDoorGPaReads
import Derived.Test.YtgdopepghmjopaaGreatDoorGPjSpoil
namespace Go.Proofs.YtgdopepghmjopaaGreatDoor
open Go.RowKit Go.Shelf
structure StWX (R : Nat) (X : Nat → Prop) (St : List Val → World → Prop) : Prop where
  kb : ∀ vs w w', St vs w → Kb R w w' → St vs w'
  lt : ∀ vs w, St vs w → ∀ x, X x → x < w.heap.size
  ne : ¬ X R
set_option maxHeartbeats 2000000 in
set_option maxRecDepth 100000 in
/-- reader.read, over a table in memory -/
theorem readX_any (ts : List FD) (b cap R : Nat) (X : Nat → Prop) (tx : ByteArray) (a : Nat) (St : List Val → World → Prop) (ok : StWX R X St) (hlen : ts.length ≤ 64) (hT : ∀ vs w, St vs w → TabAt b w ts)
    (hset : ∀ i (h : i < ts.length) vs, vs.length = i → SetsX ts[i] X vs St) (hen : ∀ i (h : i < ts.length), Enters Tryz.prog ts[i].sf) (hrd : ∀ i (h : i < ts.length), ReadsAs ts[i].sh)
    (w : World) (hs : St [] w) (hr : RdAt R tx a w) (ha : a ≤ tx.size) (htx : tx.size < 9223372036854775808) :
    Calls Tryz.prog 62 #[.pointer (some ⟨R, 0, none⟩), .slice (some ⟨b, 0, none⟩) ts.length cap] w fun e w' => e = .returned (.bool (tabOk ts (tx.data.toList.drop a))) ∧ (tabOk ts (tx.data.toList.drop a) = true → St (tabVs ts (tx.data.toList.drop a)) w' ∧ RdAt R tx (a + tabN ts (tx.data.toList.drop a)) w') ∧ Lost R tx St w' := by
  obtain ⟨W0, hW0⟩ : ∃ W0, W0 = w.alloc (.cells #[.pointer (some ⟨R, 0, none⟩)] 108) := ⟨_, rfl⟩
  have b0 : Below w.heap.size w W0 := by rw [hW0]; exact (Below.refl _ w).alloc (Nat.le_refl _) _
  have x0 : W0.cell? ⟨w.heap.size, 0, none⟩ = some (.pointer (some ⟨R, 0, none⟩)) := by rw [hW0]; simp
  have hR := hr.lt
  have hrb := ok.lt _ _ hs
  -- the record, and the box of the reader
  have ok2 : StOkX R X w.heap.size (fun vs w' => St vs w' ∧ w'.cell? ⟨w.heap.size, 0, none⟩ = some (.pointer (some ⟨R, 0, none⟩))) := ⟨fun vs w1 w2 h k => ⟨ok.kb _ _ _ h.1 k, by rw [k.cell (lt_of_cell? h.2) (by omega)]; exact h.2⟩, fun vs w1 h => h.2, fun vs w1 h => ok.lt _ _ h.1, ok.ne⟩
  have hset2 : ∀ i (h : i < ts.length) vs, vs.length = i → SetsX ts[i] X vs (fun vs w' => St vs w' ∧ w'.cell? ⟨w.heap.size, 0, none⟩ = some (.pointer (some ⟨R, 0, none⟩))) := fun i h vs hv v w1 h1 => (hset i h vs hv v w1 h1.1).mono fun e w2 ⟨e1, s1, k1⟩ => ⟨e1, ⟨s1, by rw [k1.cell (lt_of_cell? h1.2) (fun hX => Nat.lt_irrefl _ (hrb _ hX))]; exact h1.2⟩, k1⟩
  generalize hl : tx.data.toList.drop a = l at *
  have hll : l.length = tx.size - a := by rw [← hl, List.length_drop, size_data]
  have C := hide (walk_any 86 (enters_of Tryz.func86 (by kernel_rfl) rfl) #[.pointer (some ⟨w.heap.size, 0, none⟩)] b cap ts W0
    (fun i w' => tabOk (ts.take i) l = true ∧ (St (tabVs (ts.take i) l) w' ∧ w'.cell? ⟨w.heap.size, 0, none⟩ = some (.pointer (some ⟨R, 0, none⟩))) ∧ RdAt R tx (a + tabN (ts.take i) l) w')
    (fun i w' => fldOk (ts[i]?.getD ⟨⟨#[]⟩, 0, 0, 0, 0, 0, #[], ⟨#[]⟩⟩) (l.drop (tabN (ts.take i) l)) = false ∧ Lost R tx St w') (by omega)
    ⟨rfl, ⟨ok.kb _ _ _ hs (Kb.of b0), x0⟩, hr.below b0⟩
    (fun i w' _ h => hT _ _ h.2.1.1)
    (fun i w' o _ h => by
      have bo : Below w'.heap.size w' (w'.alloc o) := (Below.refl _ _).alloc (Nat.le_refl _) _
      exact ⟨h.1, ok2.kb _ _ _ h.2.1 (Kb.of bo), h.2.2.below bo⟩)
    (fun i h w' hI => by
      obtain ⟨i1, i2, i3⟩ := hI
      have hn := tabN_le _ _ i1
      have e1 : tx.data.toList.drop (a + tabN (ts.take i) l) = l.drop (tabN (ts.take i) l) := by rw [← hl, List.drop_drop]
      have hvl : (tabVs (ts.take i) l).length = i := by rw [tabVs_len, List.length_take]; omega
      cases hp : pfx ts[i].wd (l.drop (tabN (ts.take i) l)) with
      | false =>
        refine (read1X_no ts[i] R X w.heap.size tx _ _ _ ok2 w' i2 i3 (by omega) htx (by rw [e1]; exact hp)).mono fun e w'' ⟨e2, vs2, a2, s2, r2⟩ => .inr ⟨e2, ?_, vs2, a2, s2.1, r2⟩
        rw [List.getElem?_eq_getElem h]
        show fldOk ts[i] _ = false
        unfold fldOk; rw [hp]; rfl
      | true =>
        refine (read1X_yes ts[i] (hen i h) (hrd i h) R X w.heap.size tx _ _ _ ok2 (hset2 i h _ hvl) w' i2 i3 (by omega) htx (by rw [e1]; exact hp)).mono fun e w'' ⟨e2, o2, l2⟩ => ?_
        rw [e1] at e2 o2
        cases hf : fldOk ts[i] (l.drop (tabN (ts.take i) l)) with
        | true =>
          obtain ⟨o3, o4⟩ := o2 hf
          refine .inl ⟨by rw [e2, hf], ?_, ?_, ?_⟩
          · rw [take_snoc ts i h, tabOk_app, i1, tabOk_one, hf]; rfl
          · rw [take_snoc ts i h, tabVs_app]; exact o3
          · rw [take_snoc ts i h, tabN_app, tabN_one, ← Nat.add_assoc]; exact o4
        | false =>
          obtain ⟨vs2, a2, s2, r2⟩ := l2
          refine .inr ⟨by rw [e2, hf], ?_, vs2, a2, s2.1, r2⟩
          rw [List.getElem?_eq_getElem h]; exact hf))
  have D := hide (C.out.mono (R' := fun e w' => e = .returned (.bool (tabOk ts l)) ∧ (tabOk ts l = true → St (tabVs ts l) w' ∧ RdAt R tx (a + tabN ts l) w') ∧ Lost R tx St w') fun e w' h => by
    rcases h with ⟨rfl, h1, h2, h3⟩ | ⟨rfl, i, hi, h1, h2⟩
    · rw [List.take_of_length_le (Nat.le_refl _)] at h1 h2 h3
      exact ⟨by rw [h1], fun _ => ⟨h2.1, h3⟩, Lost.mk h2.1 h3⟩
    · rw [List.getElem?_eq_getElem hi] at h1
      have := tabOk_stop hi h1
      refine ⟨by rw [this], ?_, h2⟩
      intro h
      rw [this] at h
      cases h)
  clear C hset hset2 hen hrd hT ok2 x0 b0 hs hr ok
  generalize tabOk ts l = TO at *
  have hmf : ∀ (fn : Fn) (first cap : Array Value) (w : World), (Instr.makeFunc fn first cap).run Tryz.prog w = .ok (.func fn first cap) w := fun _ _ _ _ => rfl
  go_enter Tryz.func62, Tryz.ntmps62
  go_wp2_with fail
  rw [← hW0]
  clear hW0
  refine Calls.mono D.out ?_
  rintro e w1 ⟨rfl, h1, h2⟩
  have H1 := hide h1
  have H2 := hide h2
  clear h1 h2 D
  go_wp2
  go_ret
  exact ⟨rfl, H1.out, H2.out⟩
end Go.Proofs.YtgdopepghmjopaaGreatDoor
namespace Go.Proofs.YtgdopepghmjopaaGreatDoor
open Go.RowKit Go.Shelf
set_option maxHeartbeats 1000000 in
set_option maxRecDepth 100000 in
theorem get_headTable_0 (bx rb : Nat) (n : ByteArray) (w : World) (hx : bx < w.heap.size) (hr : rb < w.heap.size) (h1 : w.cell? ⟨bx, 0, none⟩ = some (.pointer (some ⟨rb, 0, none⟩))) (h2 : w.cell? ⟨rb, 0, none⟩ = some (.string n)) :
    Calls Tryz.prog 33 #[.pointer (some ⟨bx, 0, none⟩)] w fun e w' => e = .returned (.agg #[.int .i64 0, .string n]) ∧ Below w.heap.size w w' := by
  go_enter Tryz.func33, Tryz.ntmps33
  go_wp2
  exact bodyPost_ret (v := .agg #[.int .i64 0, .string n]) (by simp [results, Tryz.results33, go_sem]) rfl ⟨rfl, (Below.refl _ _).alloc (Nat.le_refl _) _⟩
set_option maxHeartbeats 1000000 in
set_option maxRecDepth 100000 in
theorem set_headTable_0 (bx rb : Nat) (n : ByteArray) (m : Int) (t : ByteArray) (w : World) (hx : bx < w.heap.size) (hr : rb < w.heap.size) (h1 : w.cell? ⟨bx, 0, none⟩ = some (.pointer (some ⟨rb, 0, none⟩))) (h2 : w.cell? ⟨rb, 0, none⟩ = some (.string n)) (h3 : w.frozen? ⟨rb, 0, none⟩ = false) :
    Calls Tryz.prog 34 #[.agg #[.int .i64 m, .string t], .pointer (some ⟨bx, 0, none⟩)] w fun e w' => e = .returned (.tuple #[]) ∧ w' = (w.setCell ⟨rb, 0, none⟩ (.string t)).alloc (.cells #[.int .i64 m, .string t] 76) := by
  go_enter Tryz.func34, Tryz.ntmps34
  go_wp2
  go_end0
  exact ⟨rfl, rfl⟩
set_option maxHeartbeats 1000000 in
set_option maxRecDepth 100000 in
theorem get_headTable_1 (bx rb : Nat) (n : Int) (w : World) (hx : bx < w.heap.size) (hr : rb < w.heap.size) (h1 : w.cell? ⟨bx, 0, none⟩ = some (.pointer (some ⟨rb, 0, none⟩))) (h2 : w.cell? ⟨rb, 1, none⟩ = some (.int .i64 n)) :
    Calls Tryz.prog 35 #[.pointer (some ⟨bx, 0, none⟩)] w fun e w' => e = .returned (.agg #[.int .i64 n, .string ⟨#[]⟩]) ∧ Below w.heap.size w w' := by
  go_enter Tryz.func35, Tryz.ntmps35
  go_wp2
  exact bodyPost_ret (v := .agg #[.int .i64 n, .string ⟨#[]⟩]) (by simp [results, Tryz.results35, go_sem]) rfl ⟨rfl, (Below.refl _ _).alloc (Nat.le_refl _) _⟩
set_option maxHeartbeats 1000000 in
set_option maxRecDepth 100000 in
theorem set_headTable_1 (bx rb : Nat) (n : Int) (m : Int) (t : ByteArray) (w : World) (hx : bx < w.heap.size) (hr : rb < w.heap.size) (h1 : w.cell? ⟨bx, 0, none⟩ = some (.pointer (some ⟨rb, 0, none⟩))) (h2 : w.cell? ⟨rb, 1, none⟩ = some (.int .i64 n)) (h3 : w.frozen? ⟨rb, 1, none⟩ = false) :
    Calls Tryz.prog 36 #[.agg #[.int .i64 m, .string t], .pointer (some ⟨bx, 0, none⟩)] w fun e w' => e = .returned (.tuple #[]) ∧ w' = (w.setCell ⟨rb, 1, none⟩ (.int .i64 m)).alloc (.cells #[.int .i64 m, .string t] 76) := by
  go_enter Tryz.func36, Tryz.ntmps36
  go_wp2
  go_end0
  exact ⟨rfl, rfl⟩
set_option maxHeartbeats 1000000 in
set_option maxRecDepth 100000 in
theorem get_headTable_2 (bx rb : Nat) (n : Int) (w : World) (hx : bx < w.heap.size) (hr : rb < w.heap.size) (h1 : w.cell? ⟨bx, 0, none⟩ = some (.pointer (some ⟨rb, 0, none⟩))) (h2 : w.cell? ⟨rb, 2, none⟩ = some (.int .i64 n)) :
    Calls Tryz.prog 37 #[.pointer (some ⟨bx, 0, none⟩)] w fun e w' => e = .returned (.agg #[.int .i64 n, .string ⟨#[]⟩]) ∧ Below w.heap.size w w' := by
  go_enter Tryz.func37, Tryz.ntmps37
  go_wp2
  exact bodyPost_ret (v := .agg #[.int .i64 n, .string ⟨#[]⟩]) (by simp [results, Tryz.results37, go_sem]) rfl ⟨rfl, (Below.refl _ _).alloc (Nat.le_refl _) _⟩
set_option maxHeartbeats 1000000 in
set_option maxRecDepth 100000 in
theorem set_headTable_2 (bx rb : Nat) (n : Int) (m : Int) (t : ByteArray) (w : World) (hx : bx < w.heap.size) (hr : rb < w.heap.size) (h1 : w.cell? ⟨bx, 0, none⟩ = some (.pointer (some ⟨rb, 0, none⟩))) (h2 : w.cell? ⟨rb, 2, none⟩ = some (.int .i64 n)) (h3 : w.frozen? ⟨rb, 2, none⟩ = false) :
    Calls Tryz.prog 38 #[.agg #[.int .i64 m, .string t], .pointer (some ⟨bx, 0, none⟩)] w fun e w' => e = .returned (.tuple #[]) ∧ w' = (w.setCell ⟨rb, 2, none⟩ (.int .i64 m)).alloc (.cells #[.int .i64 m, .string t] 76) := by
  go_enter Tryz.func38, Tryz.ntmps38
  go_wp2
  go_end0
  exact ⟨rfl, rfl⟩
set_option maxHeartbeats 1000000 in
set_option maxRecDepth 100000 in
theorem get_headTable_3 (bx rb : Nat) (n : Int) (w : World) (hx : bx < w.heap.size) (hr : rb < w.heap.size) (h1 : w.cell? ⟨bx, 0, none⟩ = some (.pointer (some ⟨rb, 0, none⟩))) (h2 : w.cell? ⟨rb, 0, none⟩ = some (.int .i64 n)) :
    Calls Tryz.prog 39 #[.pointer (some ⟨bx, 0, none⟩)] w fun e w' => e = .returned (.agg #[.int .i64 n, .string ⟨#[]⟩]) ∧ Below w.heap.size w w' := by
  go_enter Tryz.func39, Tryz.ntmps39
  go_wp2
  exact bodyPost_ret (v := .agg #[.int .i64 n, .string ⟨#[]⟩]) (by simp [results, Tryz.results39, go_sem]) rfl ⟨rfl, (Below.refl _ _).alloc (Nat.le_refl _) _⟩
set_option maxHeartbeats 1000000 in
set_option maxRecDepth 100000 in
theorem set_headTable_3 (bx rb : Nat) (n : Int) (m : Int) (t : ByteArray) (w : World) (hx : bx < w.heap.size) (hr : rb < w.heap.size) (h1 : w.cell? ⟨bx, 0, none⟩ = some (.pointer (some ⟨rb, 0, none⟩))) (h2 : w.cell? ⟨rb, 0, none⟩ = some (.int .i64 n)) (h3 : w.frozen? ⟨rb, 0, none⟩ = false) :
    Calls Tryz.prog 40 #[.agg #[.int .i64 m, .string t], .pointer (some ⟨bx, 0, none⟩)] w fun e w' => e = .returned (.tuple #[]) ∧ w' = (w.setCell ⟨rb, 0, none⟩ (.int .i64 m)).alloc (.cells #[.int .i64 m, .string t] 76) := by
  go_enter Tryz.func40, Tryz.ntmps40
  go_wp2
  go_end0
  exact ⟨rfl, rfl⟩
def headFDs (bm bc : Nat) : List FD := [⟨⟨#[115, 116, 111, 114, 101, 32]⟩, 4, 1, 40, 33, 34, bxv bm, nl⟩, ⟨⟨#[118, 101, 114, 115, 105, 111, 110, 32]⟩, 0, 1, 999999, 35, 36, bxv bm, nl⟩, ⟨⟨#[110, 111, 100, 101, 32]⟩, 0, 0, 15, 37, 38, bxv bm, nl⟩, ⟨⟨#[102, 105, 108, 101, 115, 32]⟩, 0, 0, 1025, 39, 40, bxv bc, nl⟩]
/-- the three blocks that a table's function of two parameters makes -/
def tabW2 (pt pu : TypeId) (rb cb : Nat) (ts : List FD) (w : World) : World := ((w.alloc (.cells #[.pointer (some ⟨rb, 0, none⟩)] pt)).alloc (.cells #[.pointer (some ⟨cb, 0, none⟩)] pu)).alloc (.cells (tabCells ts).toArray 73)
theorem tabW2_eq (pt pu : TypeId) (rb cb : Nat) (ts : List FD) (w : World) : tabW2 pt pu rb cb ts w = tabW pu cb ts (w.alloc (.cells #[.pointer (some ⟨rb, 0, none⟩)] pt)) := rfl
theorem tabW2_size (pt pu : TypeId) (rb cb : Nat) (ts : List FD) (w : World) : (tabW2 pt pu rb cb ts w).heap.size = w.heap.size + 3 := by rw [tabW2_eq, tabW_size]; simp
theorem tabW2_below (pt pu : TypeId) (rb cb : Nat) (ts : List FD) (w : World) : Below w.heap.size w (tabW2 pt pu rb cb ts w) := by
  rw [tabW2_eq]
  exact ((Below.refl _ w).alloc (Nat.le_refl _) _).trans ((tabW_below pu cb ts _).mono (by simp))
theorem tabW2_tab (pt pu : TypeId) (rb cb : Nat) (ts : List FD) (w : World) : TabAt (w.heap.size + 1 + 1) (tabW2 pt pu rb cb ts w) ts := by
  have := tabW_tab pu cb ts (w.alloc (.cells #[.pointer (some ⟨rb, 0, none⟩)] pt))
  rw [show (w.alloc (.cells #[.pointer (some ⟨rb, 0, none⟩)] pt)).heap.size = w.heap.size + 1 by simp] at this
  exact this
theorem tabW2_box (pt pu : TypeId) (rb cb : Nat) (ts : List FD) (w : World) : (tabW2 pt pu rb cb ts w).cell? ⟨w.heap.size, 0, none⟩ = some (.pointer (some ⟨rb, 0, none⟩)) ∧ (tabW2 pt pu rb cb ts w).cell? ⟨w.heap.size + 1, 0, none⟩ = some (.pointer (some ⟨cb, 0, none⟩)) := by
  have h1 := tabW_box pu cb ts (w.alloc (.cells #[.pointer (some ⟨rb, 0, none⟩)] pt))
  rw [show (w.alloc (.cells #[.pointer (some ⟨rb, 0, none⟩)] pt)).heap.size = w.heap.size + 1 by simp] at h1
  refine ⟨?_, h1⟩
  rw [tabW2_eq, (tabW_below pu cb ts _).cell (by simp)]
  simp
/-- the world in which the table lies -/
def headW (rb cb : Nat) (w : World) : World := tabW2 49 50 rb cb (headFDs w.heap.size (w.heap.size + 1)) w
theorem headW_size (rb cb : Nat) (w : World) : (headW rb cb w).heap.size = w.heap.size + 3 := tabW2_size _ _ _ _ _ _
theorem headW_below (rb cb : Nat) (w : World) : Below w.heap.size w (headW rb cb w) := tabW2_below _ _ _ _ _ _
set_option maxHeartbeats 4000000 in
set_option maxRecDepth 100000 in
theorem headTable_any (rb cb : Nat) (w : World) :
    Calls Tryz.prog 13 #[.pointer (some ⟨rb, 0, none⟩), .pointer (some ⟨cb, 0, none⟩)] w fun e w' => e = .returned (.slice (some ⟨w.heap.size + 1 + 1, 0, none⟩) 4 4) ∧ w' = headW rb cb w := by
  have hmf : ∀ (fn : Fn) (first cap : Array Value) (w : World), (Instr.makeFunc fn first cap).run Tryz.prog w = .ok (.func fn first cap) w := fun _ _ _ _ => rfl
  unfold headW
  go_enter Tryz.func13, Tryz.ntmps13
  go_wp2_with fail
  go_ret
  exact ⟨rfl, rfl⟩
abbrev HV := ByteArray × Int × Int × Int
def headN (x : HV) : Nat → Int
  | 1 => x.2.1
  | 2 => x.2.2.1
  | 3 => x.2.2.2
  | _ => 0
def headT (x : HV) : Nat → ByteArray
  | 0 => x.1
  | _ => ⟨#[]⟩
def headOkI (x : HV) : Nat → Bool
  | 0 => stOk (x.1) 1 40
  | 1 => inR (x.2.1) 1 999999
  | 2 => inR (x.2.2.1) 0 15
  | _ => inR (x.2.2.2) 0 1025
def headOk (x : HV) : Bool := stOk (x.1) 1 40 && inR (x.2.1) 1 999999 && inR (x.2.2.1) 0 15 && inR (x.2.2.2) 0 1025
theorem headOk_all (x : HV) : allB 4 (headOkI x) = headOk x := by
  unfold allB headOk
  simp [List.range, List.range.loop, headOkI, Bool.and_assoc]
def headO (x : HV) : Nat → ByteArray
  | 0 => x.1
  | 1 => itS (x.2.1)
  | 2 => itS (x.2.2.1)
  | _ => itS (x.2.2.2)
def headL (x : HV) : List UInt8 := wrL (headFDs 0 0) (headO x) 4
def HeadAt (w : World) (rb cb : Nat) (x : HV) : Prop := w.cell? ⟨rb, 0, none⟩ = some (.string (x.1)) ∧ w.cell? ⟨rb, 1, none⟩ = some (.int .i64 (x.2.1)) ∧ w.cell? ⟨rb, 2, none⟩ = some (.int .i64 (x.2.2.1)) ∧ w.cell? ⟨cb, 0, none⟩ = some (.int .i64 (x.2.2.2))
theorem HeadAt.lt {w : World} {rb cb : Nat} {x : HV} (h : HeadAt w rb cb x) : rb < w.heap.size ∧ cb < w.heap.size := ⟨lt_of_cell? h.1, lt_of_cell? h.2.2.2⟩
theorem HeadAt.below {w w' : World} {rb cb : Nat} {x : HV} (h : HeadAt w rb cb x) (hb : Below w.heap.size w w') : HeadAt w' rb cb x := by
  have hl := h.lt
  obtain ⟨q0, q1, q2, q3⟩ := h
  exact ⟨by rw [hb.cell (by exact hl.1)]; exact q0, by rw [hb.cell (by exact hl.1)]; exact q1, by rw [hb.cell (by exact hl.1)]; exact q2, by rw [hb.cell (by exact hl.2)]; exact q3⟩
theorem headFD_enters (bm bc : Nat) : ∀ i (h : i < (headFDs bm bc).length), Enters Tryz.prog (headFDs bm bc)[i].gf := by
  intro i hi
  match i, hi with
  | 0, _ => exact enters_of Tryz.func33 (by kernel_rfl) rfl
  | 1, _ => exact enters_of Tryz.func35 (by kernel_rfl) rfl
  | 2, _ => exact enters_of Tryz.func37 (by kernel_rfl) rfl
  | 3, _ => exact enters_of Tryz.func39 (by kernel_rfl) rfl
theorem headFD_senters (bm bc : Nat) : ∀ i (h : i < (headFDs bm bc).length), Enters Tryz.prog (headFDs bm bc)[i].sf := by
  intro i hi
  match i, hi with
  | 0, _ => exact enters_of Tryz.func34 (by kernel_rfl) rfl
  | 1, _ => exact enters_of Tryz.func36 (by kernel_rfl) rfl
  | 2, _ => exact enters_of Tryz.func38 (by kernel_rfl) rfl
  | 3, _ => exact enters_of Tryz.func40 (by kernel_rfl) rfl
theorem headFD_reads (bm bc : Nat) : ∀ i (h : i < (headFDs bm bc).length), ReadsAs (headFDs bm bc)[i].sh := by
  intro i hi
  match i, hi with
  | 0, _ => exact reads_word
  | 1, _ => exact reads_num
  | 2, _ => exact reads_num
  | 3, _ => exact reads_num
theorem headFD_small (bm bc : Nat) : ∀ i (h : i < (headFDs bm bc).length), (headFDs bm bc)[i].wd.size ≤ 1000 ∧ (headFDs bm bc)[i].en.size ≤ 1000 := by
  intro i hi
  match i, hi with
  | 0, _ => exact ⟨Nat.le_of_ble_eq_true rfl, Nat.le_of_ble_eq_true rfl⟩
  | 1, _ => exact ⟨Nat.le_of_ble_eq_true rfl, Nat.le_of_ble_eq_true rfl⟩
  | 2, _ => exact ⟨Nat.le_of_ble_eq_true rfl, Nat.le_of_ble_eq_true rfl⟩
  | 3, _ => exact ⟨Nat.le_of_ble_eq_true rfl, Nat.le_of_ble_eq_true rfl⟩
theorem headFD_gets (rb cb : Nat) (bm bc : Nat) (x : HV) (w : World) (h1 : w.cell? ⟨bm, 0, none⟩ = some (.pointer (some ⟨rb, 0, none⟩)) ∧ w.cell? ⟨bc, 0, none⟩ = some (.pointer (some ⟨cb, 0, none⟩))) (h2 : HeadAt w rb cb x) : ∀ i (h : i < (headFDs bm bc).length), GetsAt w (headFDs bm bc)[i] (headN x i) (headT x i) := by
  intro i hi w' hw
  have z := hw.size
  have hr := h2.lt
  obtain ⟨q0, q1, q2, q3⟩ := h2
  have lm : bm < w.heap.size := lt_of_cell? h1.1
  have hb : w'.cell? ⟨bm, 0, none⟩ = some (.pointer (some ⟨rb, 0, none⟩)) := by rw [hw.cell (by exact lm)]; exact h1.1
  have lc : bc < w.heap.size := lt_of_cell? h1.2
  have hc : w'.cell? ⟨bc, 0, none⟩ = some (.pointer (some ⟨cb, 0, none⟩)) := by rw [hw.cell (by exact lc)]; exact h1.2
  match i, hi with
  | 0, _ => exact get_headTable_0 bm rb _ w' (by omega) (by omega) hb (by rw [hw.cell (by exact hr.1)]; exact q0)
  | 1, _ => exact get_headTable_1 bm rb _ w' (by omega) (by omega) hb (by rw [hw.cell (by exact hr.1)]; exact q1)
  | 2, _ => exact get_headTable_2 bm rb _ w' (by omega) (by omega) hb (by rw [hw.cell (by exact hr.1)]; exact q2)
  | 3, _ => exact get_headTable_3 bc cb _ w' (by omega) (by omega) hc (by rw [hw.cell (by exact hr.2)]; exact q3)
theorem headFD_allows (bm bc : Nat) (x : HV) (hst : x.1.size ≤ 9223372036854775807) : ∀ i (h : i < (headFDs bm bc).length), AllowsIs (headFDs bm bc)[i] (headN x i) (headT x i) (headOkI x i) := by
  intro i hi w'
  match i, hi with
  | 0, _ => exact allows_store 0 1 40 (by omega) _ w' hst
  | 1, _ => exact allows_num 0 (.inl rfl) _ 1 999999 _ w'
  | 2, _ => exact allows_num 0 (.inl rfl) _ 0 15 _ w'
  | 3, _ => exact allows_num 0 (.inl rfl) _ 0 1025 _ w'
theorem headFD_prints (bm bc : Nat) (x : HV) (hok : headOk x = true) (w : World) (hP : Pow w) : ∀ i (h : i < (headFDs bm bc).length), PrintsAt w (headFDs bm bc)[i] (headN x i) (headT x i) (headO x i) := by
  unfold headOk inR at hok
  simp only [Bool.and_eq_true, decide_eq_true_eq] at hok
  obtain ⟨⟨⟨h0, h1⟩, h2⟩, h3⟩ := hok
  intro i hi w' hw
  match i, hi with
  | 0, _ => exact print_text 4 (.inr rfl) 0 _ w'
  | 1, _ => exact print_num _ _ w' (by show _ ≤ x.2.1; omega) (by show x.2.1 ≤ _; omega) (hP.below hw)
  | 2, _ => exact print_num _ _ w' (by show _ ≤ x.2.2.1; omega) (by show x.2.2.1 ≤ _; omega) (hP.below hw)
  | 3, _ => exact print_num _ _ w' (by show _ ≤ x.2.2.2; omega) (by show x.2.2.2 ≤ _; omega) (hP.below hw)
theorem headO_len (x : HV) (hok : headOk x = true) (i : Nat) : (headO x i).size ≤ 40 := by
  unfold headOk stOk inR at hok
  simp only [Bool.and_eq_true, decide_eq_true_eq] at hok
  obtain ⟨⟨⟨h0, h1⟩, h2⟩, h3⟩ := hok
  match i with
  | 0 => show (x.1).size ≤ 40; omega
  | 1 => show (itS (x.2.1)).size ≤ 40; unfold itS; rw [strOf_size]; exact Nat.le_trans (itoa_len _ (by omega) (by omega)) (by omega)
  | 2 => show (itS (x.2.2.1)).size ≤ 40; unfold itS; rw [strOf_size]; exact Nat.le_trans (itoa_len _ (by omega) (by omega)) (by omega)
  | _ + 3 => show (itS (x.2.2.2)).size ≤ 40; unfold itS; rw [strOf_size]; exact Nat.le_trans (itoa_len _ (by omega) (by omega)) (by omega)
theorem headFit_any (rb cb : Nat) (x : HV) (w : World) (h : HeadAt w rb cb x) (hst : x.1.size ≤ 9223372036854775807) :
    Calls Tryz.prog 26 #[.slice (some ⟨w.heap.size + 1 + 1, 0, none⟩) 4 4] (headW rb cb w) fun e w' => e = .returned (.bool (headOk x)) ∧ Below w.heap.size w w' := by
  have b := headW_below rb cb w
  have z := headW_size rb cb w
  have := fit_any (w.heap.size + 1 + 1) 4 (headFDs w.heap.size (w.heap.size + 1)) (headW rb cb w) (headN x) (headT x) (headOkI x) (by show 4 ≤ 1000000; omega) (tabW2_tab _ _ _ _ _ _) (by omega) (headFD_enters _ _) (headFD_gets rb cb w.heap.size (w.heap.size + 1) x (headW rb cb w) (tabW2_box _ _ _ _ _ _) (h.below b)) (headFD_allows _ _ x hst)
  refine this.mono fun e w' ⟨e1, b1⟩ => ⟨?_, b.trans (b1.mono b.size)⟩
  rw [e1]
  exact congrArg (fun x => Ending.returned (.bool x)) (headOk_all x)
theorem headWritten_any (rb cb : Nat) (x : HV) (w : World) (h : HeadAt w rb cb x) (hok : headOk x = true) (hP : Pow w) :
    Calls Tryz.prog 12 #[.slice (some ⟨w.heap.size + 1 + 1, 0, none⟩) 4 4] (headW rb cb w) fun e w' => e = .returned (.string (strOf (headL x))) ∧ Below w.heap.size w w' := by
  have b := headW_below rb cb w
  have z := headW_size rb cb w
  have := written_any (w.heap.size + 1 + 1) 4 (headFDs w.heap.size (w.heap.size + 1)) (headW rb cb w) (headN x) (headT x) (headO x) 40 (by omega) (by show 4 ≤ 64; omega) (tabW2_tab _ _ _ _ _ _) (by omega) (headFD_enters _ _) (headFD_gets rb cb w.heap.size (w.heap.size + 1) x (headW rb cb w) (tabW2_box _ _ _ _ _ _) (h.below b)) (headFD_prints _ _ x hok (headW rb cb w) (hP.below b)) (headFD_small _ _) (headO_len x hok)
  exact this.mono fun e w' ⟨e1, b1⟩ => ⟨e1, b.trans (b1.mono b.size)⟩
end Go.Proofs.YtgdopepghmjopaaGreatDoor
namespace Go.Proofs.YtgdopepghmjopaaGreatDoor
open Go.RowKit Go.Shelf
set_option maxHeartbeats 1000000 in
set_option maxRecDepth 100000 in
theorem get_tailTable_0 (bx rb : Nat) (n : Int) (w : World) (hx : bx < w.heap.size) (hr : rb < w.heap.size) (h1 : w.cell? ⟨bx, 0, none⟩ = some (.pointer (some ⟨rb, 0, none⟩))) (h2 : w.cell? ⟨rb, 4, none⟩ = some (.int .i64 n)) :
    Calls Tryz.prog 49 #[.pointer (some ⟨bx, 0, none⟩)] w fun e w' => e = .returned (.agg #[.int .i64 n, .string ⟨#[]⟩]) ∧ Below w.heap.size w w' := by
  go_enter Tryz.func49, Tryz.ntmps49
  go_wp2
  exact bodyPost_ret (v := .agg #[.int .i64 n, .string ⟨#[]⟩]) (by simp [results, Tryz.results49, go_sem]) rfl ⟨rfl, (Below.refl _ _).alloc (Nat.le_refl _) _⟩
set_option maxHeartbeats 1000000 in
set_option maxRecDepth 100000 in
theorem set_tailTable_0 (bx rb : Nat) (n : Int) (m : Int) (t : ByteArray) (w : World) (hx : bx < w.heap.size) (hr : rb < w.heap.size) (h1 : w.cell? ⟨bx, 0, none⟩ = some (.pointer (some ⟨rb, 0, none⟩))) (h2 : w.cell? ⟨rb, 4, none⟩ = some (.int .i64 n)) (h3 : w.frozen? ⟨rb, 4, none⟩ = false) :
    Calls Tryz.prog 50 #[.agg #[.int .i64 m, .string t], .pointer (some ⟨bx, 0, none⟩)] w fun e w' => e = .returned (.tuple #[]) ∧ w' = (w.setCell ⟨rb, 4, none⟩ (.int .i64 m)).alloc (.cells #[.int .i64 m, .string t] 76) := by
  go_enter Tryz.func50, Tryz.ntmps50
  go_wp2
  go_end0
  exact ⟨rfl, rfl⟩
set_option maxHeartbeats 1000000 in
set_option maxRecDepth 100000 in
theorem get_tailTable_1 (bx rb : Nat) (n : Int) (w : World) (hx : bx < w.heap.size) (hr : rb < w.heap.size) (h1 : w.cell? ⟨bx, 0, none⟩ = some (.pointer (some ⟨rb, 0, none⟩))) (h2 : w.cell? ⟨rb, 5, none⟩ = some (.int .i64 n)) :
    Calls Tryz.prog 51 #[.pointer (some ⟨bx, 0, none⟩)] w fun e w' => e = .returned (.agg #[.int .i64 n, .string ⟨#[]⟩]) ∧ Below w.heap.size w w' := by
  go_enter Tryz.func51, Tryz.ntmps51
  go_wp2
  exact bodyPost_ret (v := .agg #[.int .i64 n, .string ⟨#[]⟩]) (by simp [results, Tryz.results51, go_sem]) rfl ⟨rfl, (Below.refl _ _).alloc (Nat.le_refl _) _⟩
set_option maxHeartbeats 1000000 in
set_option maxRecDepth 100000 in
theorem set_tailTable_1 (bx rb : Nat) (n : Int) (m : Int) (t : ByteArray) (w : World) (hx : bx < w.heap.size) (hr : rb < w.heap.size) (h1 : w.cell? ⟨bx, 0, none⟩ = some (.pointer (some ⟨rb, 0, none⟩))) (h2 : w.cell? ⟨rb, 5, none⟩ = some (.int .i64 n)) (h3 : w.frozen? ⟨rb, 5, none⟩ = false) :
    Calls Tryz.prog 52 #[.agg #[.int .i64 m, .string t], .pointer (some ⟨bx, 0, none⟩)] w fun e w' => e = .returned (.tuple #[]) ∧ w' = (w.setCell ⟨rb, 5, none⟩ (.int .i64 m)).alloc (.cells #[.int .i64 m, .string t] 76) := by
  go_enter Tryz.func52, Tryz.ntmps52
  go_wp2
  go_end0
  exact ⟨rfl, rfl⟩
def tailFDs (bm : Nat) : List FD := [⟨⟨#[116, 111, 116, 97, 108, 32]⟩, 0, 0, 9007199254740992, 49, 50, bxv bm, nl⟩, ⟨⟨#[119, 104, 111, 108, 101, 32]⟩, 1, 0, 4294967295, 51, 52, bxv bm, nl⟩]
/-- the world in which the table lies -/
def tailW (rb : Nat) (w : World) : World := tabW 49 rb (tailFDs w.heap.size) w
theorem tailW_size (rb : Nat) (w : World) : (tailW rb w).heap.size = w.heap.size + 2 := tabW_size _ _ _ _
theorem tailW_below (rb : Nat) (w : World) : Below w.heap.size w (tailW rb w) := tabW_below _ _ _ _
set_option maxHeartbeats 4000000 in
set_option maxRecDepth 100000 in
theorem tailTable_any (rb : Nat) (w : World) :
    Calls Tryz.prog 15 #[.pointer (some ⟨rb, 0, none⟩)] w fun e w' => e = .returned (.slice (some ⟨w.heap.size + 1, 0, none⟩) 2 2) ∧ w' = tailW rb w := by
  have hmf : ∀ (fn : Fn) (first cap : Array Value) (w : World), (Instr.makeFunc fn first cap).run Tryz.prog w = .ok (.func fn first cap) w := fun _ _ _ _ => rfl
  unfold tailW
  go_enter Tryz.func15, Tryz.ntmps15
  go_wp2_with fail
  go_ret
  exact ⟨rfl, rfl⟩
abbrev TV := Int × Int
def tailN (x : TV) : Nat → Int
  | 0 => x.1
  | 1 => x.2
  | _ => 0
def tailT (_ : TV) (_ : Nat) : ByteArray := ⟨#[]⟩
def tailOkI (x : TV) : Nat → Bool
  | 0 => inR (x.1) 0 9007199254740992
  | _ => inR (x.2) 0 4294967295
def tailOk (x : TV) : Bool := inR (x.1) 0 9007199254740992 && inR (x.2) 0 4294967295
theorem tailOk_all (x : TV) : allB 2 (tailOkI x) = tailOk x := by
  unfold allB tailOk
  simp [List.range, List.range.loop, tailOkI]
def tailO (x : TV) : Nat → ByteArray
  | 0 => itS (x.1)
  | _ => strOf (hexL (be4 (x.2).toNat))
def tailL (x : TV) : List UInt8 := wrL (tailFDs 0) (tailO x) 2
def TailAt (w : World) (rb : Nat) (x : TV) : Prop := w.cell? ⟨rb, 4, none⟩ = some (.int .i64 (x.1)) ∧ w.cell? ⟨rb, 5, none⟩ = some (.int .i64 (x.2))
theorem TailAt.lt {w : World} {rb : Nat} {x : TV} (h : TailAt w rb x) : rb < w.heap.size := lt_of_cell? h.1
theorem TailAt.below {w w' : World} {rb : Nat} {x : TV} (h : TailAt w rb x) (hb : Below w.heap.size w w') : TailAt w' rb x := by
  have hl := h.lt
  obtain ⟨q0, q1⟩ := h
  exact ⟨by rw [hb.cell (by exact hl)]; exact q0, by rw [hb.cell (by exact hl)]; exact q1⟩
theorem tailFD_enters (bm : Nat) : ∀ i (h : i < (tailFDs bm).length), Enters Tryz.prog (tailFDs bm)[i].gf := by
  intro i hi
  match i, hi with
  | 0, _ => exact enters_of Tryz.func49 (by kernel_rfl) rfl
  | 1, _ => exact enters_of Tryz.func51 (by kernel_rfl) rfl
theorem tailFD_senters (bm : Nat) : ∀ i (h : i < (tailFDs bm).length), Enters Tryz.prog (tailFDs bm)[i].sf := by
  intro i hi
  match i, hi with
  | 0, _ => exact enters_of Tryz.func50 (by kernel_rfl) rfl
  | 1, _ => exact enters_of Tryz.func52 (by kernel_rfl) rfl
theorem tailFD_reads (bm : Nat) : ∀ i (h : i < (tailFDs bm).length), ReadsAs (tailFDs bm)[i].sh := by
  intro i hi
  match i, hi with
  | 0, _ => exact reads_num
  | 1, _ => exact reads_sum
theorem tailFD_small (bm : Nat) : ∀ i (h : i < (tailFDs bm).length), (tailFDs bm)[i].wd.size ≤ 1000 ∧ (tailFDs bm)[i].en.size ≤ 1000 := by
  intro i hi
  match i, hi with
  | 0, _ => exact ⟨Nat.le_of_ble_eq_true rfl, Nat.le_of_ble_eq_true rfl⟩
  | 1, _ => exact ⟨Nat.le_of_ble_eq_true rfl, Nat.le_of_ble_eq_true rfl⟩
theorem tailFD_gets (rb : Nat) (bm : Nat) (x : TV) (w : World) (h1 : w.cell? ⟨bm, 0, none⟩ = some (.pointer (some ⟨rb, 0, none⟩))) (h2 : TailAt w rb x) : ∀ i (h : i < (tailFDs bm).length), GetsAt w (tailFDs bm)[i] (tailN x i) (tailT x i) := by
  intro i hi w' hw
  have z := hw.size
  have hr := h2.lt
  obtain ⟨q0, q1⟩ := h2
  have lm : bm < w.heap.size := lt_of_cell? h1
  have hb : w'.cell? ⟨bm, 0, none⟩ = some (.pointer (some ⟨rb, 0, none⟩)) := by rw [hw.cell (by exact lm)]; exact h1
  match i, hi with
  | 0, _ => exact get_tailTable_0 bm rb _ w' (by omega) (by omega) hb (by rw [hw.cell (by exact hr)]; exact q0)
  | 1, _ => exact get_tailTable_1 bm rb _ w' (by omega) (by omega) hb (by rw [hw.cell (by exact hr)]; exact q1)
theorem tailFD_allows (bm : Nat) (x : TV) : ∀ i (h : i < (tailFDs bm).length), AllowsIs (tailFDs bm)[i] (tailN x i) (tailT x i) (tailOkI x i) := by
  intro i hi w'
  match i, hi with
  | 0, _ => exact allows_num 0 (.inl rfl) _ 0 9007199254740992 _ w'
  | 1, _ => exact allows_num 1 (.inr rfl) _ 0 4294967295 _ w'
theorem tailFD_prints (bm : Nat) (x : TV) (hok : tailOk x = true) (w : World) (hP : Pow w) : ∀ i (h : i < (tailFDs bm).length), PrintsAt w (tailFDs bm)[i] (tailN x i) (tailT x i) (tailO x i) := by
  unfold tailOk inR at hok
  simp only [Bool.and_eq_true, decide_eq_true_eq] at hok
  obtain ⟨h0, h1⟩ := hok
  intro i hi w' hw
  match i, hi with
  | 0, _ => exact print_num _ _ w' (by show _ ≤ x.1; omega) (by show x.1 ≤ _; omega) (hP.below hw)
  | 1, _ =>
    have := print_sum (x.2).toNat (by omega) ⟨#[]⟩ w'
    rw [Int.toNat_of_nonneg h1.1] at this
    exact this
theorem tailO_len (x : TV) (hok : tailOk x = true) (i : Nat) : (tailO x i).size ≤ 40 := by
  unfold tailOk inR at hok
  simp only [Bool.and_eq_true, decide_eq_true_eq] at hok
  obtain ⟨h0, h1⟩ := hok
  match i with
  | 0 => show (itS (x.1)).size ≤ 40; unfold itS; rw [strOf_size]; exact Nat.le_trans (itoa_len _ (by omega) (by omega)) (by omega)
  | _ + 1 => show (strOf (hexL (be4 (x.2).toNat))).size ≤ 40; rw [strOf_size, hexL_len]; show 2 * 4 ≤ 40; omega
theorem tailFit_any (rb : Nat) (x : TV) (w : World) (h : TailAt w rb x) :
    Calls Tryz.prog 26 #[.slice (some ⟨w.heap.size + 1, 0, none⟩) 2 2] (tailW rb w) fun e w' => e = .returned (.bool (tailOk x)) ∧ Below w.heap.size w w' := by
  have b := tailW_below rb w
  have z := tailW_size rb w
  have := fit_any (w.heap.size + 1) 2 (tailFDs w.heap.size) (tailW rb w) (tailN x) (tailT x) (tailOkI x) (by show 2 ≤ 1000000; omega) (tabW_tab _ _ _ _) (by omega) (tailFD_enters _) (tailFD_gets rb w.heap.size x (tailW rb w) (tabW_box _ _ _ _) (h.below b)) (tailFD_allows _ x)
  refine this.mono fun e w' ⟨e1, b1⟩ => ⟨?_, b.trans (b1.mono b.size)⟩
  rw [e1]
  exact congrArg (fun x => Ending.returned (.bool x)) (tailOk_all x)
theorem tailWritten_any (rb : Nat) (x : TV) (w : World) (h : TailAt w rb x) (hok : tailOk x = true) (hP : Pow w) :
    Calls Tryz.prog 12 #[.slice (some ⟨w.heap.size + 1, 0, none⟩) 2 2] (tailW rb w) fun e w' => e = .returned (.string (strOf (tailL x))) ∧ Below w.heap.size w w' := by
  have b := tailW_below rb w
  have z := tailW_size rb w
  have := written_any (w.heap.size + 1) 2 (tailFDs w.heap.size) (tailW rb w) (tailN x) (tailT x) (tailO x) 40 (by omega) (by show 2 ≤ 64; omega) (tabW_tab _ _ _ _) (by omega) (tailFD_enters _) (tailFD_gets rb w.heap.size x (tailW rb w) (tabW_box _ _ _ _) (h.below b)) (tailFD_prints _ x hok (tailW rb w) (hP.below b)) (tailFD_small _) (tailO_len x hok)
  exact this.mono fun e w' ⟨e1, b1⟩ => ⟨e1, b.trans (b1.mono b.size)⟩
end Go.Proofs.YtgdopepghmjopaaGreatDoor
