import Derived.Test.YtfpalfpfijcpbaaGreatDoorGPyExt
import Derived.Test.YtfpalfpfijcpbaaGreatDoorGPjSpNotes
import Derived.Test.YtfpalfpfijcpbaaGreatDoorGDmSeen
namespace Go.Proofs.YtfpalfpfijcpbaaGreatDoor
open Go.RowKit Go.Shelf
/-- a file: its name, its bytes -/
abbrev CT := ByteArray × ByteArray
def LiesC (b o : Nat) (w : World) (fs : List CT) : Prop := ∀ i (h : i < fs.length), w.cell? ⟨b, o + i * 2, none⟩ = some (.string fs[i].1) ∧ w.cell? ⟨b, o + i * 2 + 1, none⟩ = some (.string fs[i].2)
theorem LiesC.below {b o : Nat} {w w' : World} {fs : List CT} (h : LiesC b o w fs) (hb : b < w.heap.size) (hw : Below w.heap.size w w') : LiesC b o w' fs := fun i hi => by
  rw [hw.cell (by exact hb), hw.cell (by exact hb)]; exact h i hi
def rowC (c : CT) : RV := (c.1, (c.2.size : Int), (crcN 0 c.2.data.toList : Int), strOf (md5L c.2.data.toList))
def catC (fs : List CT) : List UInt8 := fs.flatMap fun c => c.2.data.toList
theorem catC_snoc (fs : List CT) (k : Nat) (h : k < fs.length) : catC (fs.take (k + 1)) = catC (fs.take k) ++ fs[k].2.data.toList := by
  unfold catC
  rw [List.take_succ_eq_append_getElem h, List.flatMap_append, List.flatMap_cons, List.flatMap_nil, List.append_nil]
theorem catC_le (fs : List CT) (k : Nat) : (catC (fs.take k)).length ≤ (catC fs).length := by
  have : catC fs = catC (fs.take k) ++ catC (fs.drop k) := by
    unfold catC
    rw [← List.flatMap_append, List.take_append_drop]
  rw [this, List.length_append]; omega
def gtS (a b : ByteArray) : Bool := !Op.bytesLess a.toList b.toList && !(a.toList == b.toList)
def cz : CT := (⟨#[]⟩, ⟨#[]⟩)
/-- is the row's name right? -/
def okAt (fs : List CT) (i : Nat) : Bool := lettersB (fs.getD i cz).1 && (decide (i = 0) || gtS (fs.getD i cz).1 (fs.getD (i - 1) cz).1)
def okUp (st : ByteArray) (fs : List CT) (k : Nat) : Bool := lettersB st && decide (fs.length ≤ 1025) && (List.range k).all (okAt fs)
theorem okUp_succ (st : ByteArray) (fs : List CT) (k : Nat) : okUp st fs (k + 1) = (okUp st fs k && okAt fs k) := by
  unfold okUp
  rw [List.range_succ, List.all_append]
  simp [Bool.and_assoc]
structure TabM (w : World) : Prop where
  four : Tab4 0 w
  s : TabS 2 w
  t : TabT 3 w
  sz : 4 ≤ w.heap.size
theorem KbX.toBelow {X : Nat → Prop} {w w' : World} {B : Nat} (h : KbX X w w') (hX : ∀ i, X i → B ≤ i) (hB : B ≤ w.heap.size) : Below B w w' := ⟨h.os, h.tape, h.output, h.size, fun i hi => h.block i (by omega) (fun e => by have := hX i e; omega)⟩
theorem TabM.below {w w' : World} (h : TabM w) (hb : Below w.heap.size w w') : TabM w' := by
  have hz := h.sz
  exact ⟨h.four.below hb h.four.lt, fun j hj => (hb.cell (p := ⟨2, j, none⟩) (by show 2 < _; omega)).trans (h.s j hj), fun j hj => (hb.cell (p := ⟨3, j, none⟩) (by show 3 < _; omega)).trans (h.t j hj), Nat.le_trans hz hb.size⟩
theorem lies_one {d : ByteArray} {h : Nat} {w : World} (t2 : w.cell? ⟨h, 0, none⟩ = some (.string d)) : Lies h 0 w [d] := fun j x hx => by
  match j, hx with
  | 0, hx => simp at hx; subst hx; exact t2
theorem crc_one (d : ByteArray) (h : Nat) (w : World) (hd : d.size ≤ 1099511627776) (t1 : TabM w) (t2 : w.cell? ⟨h, 0, none⟩ = some (.string d)) :
    Calls Tryz.prog 57 #[.slice (some ⟨h, 0, none⟩) 1 1] w fun e w' => e = .returned (.int .i64 (crcN 0 d.data.toList : Int)) ∧ w = w' := by
  have := crc_any (some ⟨h, 0, none⟩) h 0 1 [d] w (fun _ => rfl) (lies_one t2) (by simp) (fun x hx => by simp at hx; subst hx; omega) t1.four
  rw [cat_one] at this
  exact this
theorem md5_one (d : ByteArray) (h : Nat) (w : World) (hd : d.size ≤ 1099511627776) (t1 : TabM w) (t2 : w.cell? ⟨h, 0, none⟩ = some (.string d)) :
    Calls Tryz.prog 58 #[.slice (some ⟨h, 0, none⟩) 1 1] w fun e w' => e = .returned (.string (strOf (md5L d.data.toList))) ∧ Below w.heap.size w w' := by
  have := md5_any (some ⟨h, 0, none⟩) h 0 1 [d] w (fun _ => rfl) (fun _ => lt_of_cell? t2) (lies_one t2) (by simp) (by rw [cat_one, size_data]; exact hd) t1.sz t1.s t1.t
  rw [cat_one] at this
  exact this
theorem totC (fs : List CT) : totS (fs.map rowC) = (catC fs).length := by
  induction fs with
  | nil => rfl
  | cons c fs ih =>
    have e1 : totS ((c :: fs).map rowC) = c.2.size + totS (fs.map rowC) := by unfold totS; simp only [List.map_cons, List.sum_cons]; rfl
    have e2 : catC (c :: fs) = c.2.data.toList ++ catC fs := by unfold catC; rw [List.flatMap_cons]
    rw [e1, e2, List.length_append, size_data, ih]
theorem totC_le (fs : List CT) (k : Nat) : totS ((fs.take k).map rowC) ≤ (catC fs).length := by rw [totC]; exact catC_le fs k
theorem KbX.refl (X : Nat → Prop) (w : World) : KbX X w w := ⟨rfl, rfl, rfl, Nat.le_refl _, fun _ _ _ => rfl⟩
structure ManAt (w : World) (mb : Nat) (st : ByteArray) (v : Value) (t h : Int) : Prop where
  c0 : w.cell? ⟨mb, 0, none⟩ = some (.string st)
  c1 : w.cell? ⟨mb, 1, none⟩ = some (.int .i64 7)
  c2 : w.cell? ⟨mb, 2, none⟩ = some (.int .i64 3)
  c3 : w.cell? ⟨mb, 3, none⟩ = some v
  c4 : w.cell? ⟨mb, 4, none⟩ = some (.int .i64 t)
  c5 : w.cell? ⟨mb, 5, none⟩ = some (.int .i64 h)
  fz : ∀ i, 3 ≤ i ∧ i < 6 → w.frozen? ⟨mb, i, none⟩ = false
theorem ManAt.set3 {w : World} {mb : Nat} {st : ByteArray} {v : Value} {t h : Int} (m : ManAt w mb st v t h) (v' : Value) : ManAt (w.setCell ⟨mb, 3, none⟩ v') mb st v' t h := by
  have ot : ∀ i, i ≠ 3 → (w.setCell ⟨mb, 3, none⟩ v').cell? ⟨mb, i, none⟩ = w.cell? ⟨mb, i, none⟩ := fun i hi => World.cell?_setCell_other w _ _ _ (by intro e; injection e with _ e _; exact hi e.symm)
  exact ⟨by rw [ot 0 (by omega)]; exact m.c0, by rw [ot 1 (by omega)]; exact m.c1, by rw [ot 2 (by omega)]; exact m.c2, World.cell?_setCell_same w _ _ m.c3, by rw [ot 4 (by omega)]; exact m.c4, by rw [ot 5 (by omega)]; exact m.c5, fun i hi => by rw [World.frozen?_setCell]; exact m.fz i hi⟩
theorem ManAt.set4 {w : World} {mb : Nat} {st : ByteArray} {v : Value} {t h : Int} (m : ManAt w mb st v t h) (t' : Int) : ManAt (w.setCell ⟨mb, 4, none⟩ (.int .i64 t')) mb st v t' h := by
  have ot : ∀ i, i ≠ 4 → (w.setCell ⟨mb, 4, none⟩ (.int .i64 t')).cell? ⟨mb, i, none⟩ = w.cell? ⟨mb, i, none⟩ := fun i hi => World.cell?_setCell_other w _ _ _ (by intro e; injection e with _ e _; exact hi e.symm)
  exact ⟨by rw [ot 0 (by omega)]; exact m.c0, by rw [ot 1 (by omega)]; exact m.c1, by rw [ot 2 (by omega)]; exact m.c2, by rw [ot 3 (by omega)]; exact m.c3, World.cell?_setCell_same w _ _ m.c4, by rw [ot 5 (by omega)]; exact m.c5, fun i hi => by rw [World.frozen?_setCell]; exact m.fz i hi⟩
theorem ManAt.set5 {w : World} {mb : Nat} {st : ByteArray} {v : Value} {t h : Int} (m : ManAt w mb st v t h) (t' : Int) : ManAt (w.setCell ⟨mb, 5, none⟩ (.int .i64 t')) mb st v t t' := by
  have ot : ∀ i, i ≠ 5 → (w.setCell ⟨mb, 5, none⟩ (.int .i64 t')).cell? ⟨mb, i, none⟩ = w.cell? ⟨mb, i, none⟩ := fun i hi => World.cell?_setCell_other w _ _ _ (by intro e; injection e with _ e _; exact hi e.symm)
  exact ⟨by rw [ot 0 (by omega)]; exact m.c0, by rw [ot 1 (by omega)]; exact m.c1, by rw [ot 2 (by omega)]; exact m.c2, by rw [ot 3 (by omega)]; exact m.c3, by rw [ot 4 (by omega)]; exact m.c4, World.cell?_setCell_same w _ _ m.c5, fun i hi => by rw [World.frozen?_setCell]; exact m.fz i hi⟩
end Go.Proofs.YtfpalfpfijcpbaaGreatDoor
