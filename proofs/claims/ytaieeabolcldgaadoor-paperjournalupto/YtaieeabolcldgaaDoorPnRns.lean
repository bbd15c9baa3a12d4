import Derived.Test.YtaieeabolcldgaaDoorPnRn
import Derived.Test.YtaieeabolcldgaaDoorPnNotes
namespace Go.Proofs.YtaieeabolcldgaaDoor
open Go.RowKit Go.Shelf
def SameAt (tx : ByteArray) : Prop := ∀ a, a ≤ tx.size → rtSize tx a = nsz tx a ∧ rtV tx a (ntC tx a) = (nvAt tx a).1 ∧ rtV tx a (ntP tx a) = (nvAt tx a).2.1 ∧ rtV tx a (ntU tx a) = (nvAt tx a).2.2.1 ∧ rtV tx a (ntX tx a) = (nvAt tx a).2.2.2
theorem nsz_end (tx : ByteArray) : nsz tx tx.size = 0 := by have := nsz_le (Nat.le_refl tx.size); omega
set_option maxHeartbeats 2000000 in
set_option maxRecDepth 100000 in
theorem rparseNotes_any (tx : ByteArray) (w : World) (htx : tx.size ≤ 4000000) (hP : Pow w) (hsame : SameAt tx) :
    Calls Tryd.prog 26 #[.string tx] w fun e w' => ∃ (v : Value) (k : Nat) (l : List NV) (q : Nat), e = .returned (.tuple #[v, .int .i64 (q : Int)]) ∧ notesAt tx k = some (l, q) ∧ nsz tx q = 0 ∧ w'.ownsRow w.heap.size 23 4 v l.length (nc l) ∧ Below w.heap.size w w' := by
  obtain ⟨i0, hi, hz0, hz1, hz2⟩ := info_parts infoN
  have RN : Hid (∀ q wr, q ≤ tx.size → Below w.heap.size w wr → Calls Tryd.prog 54 #[.pointer (some ⟨wr.heap.size, 0, none⟩)] (wr.alloc (.cells #[.string tx, .int .i64 (q : Int), .bool false] 92)) fun x w' => x = .returned (.tuple #[.agg #[.int .i64 (nvAt tx q).1, .int .i64 (nvAt tx q).2.1, .int .i64 (nvAt tx q).2.2.1, .int .i64 (nvAt tx q).2.2.2], .int .i64 (nsz tx q : Int)]) ∧ Below wr.heap.size wr w') := fun q wr hq hb => by
    have b0 : Below wr.heap.size wr (wr.alloc (.cells #[.string tx, .int .i64 (q : Int), .bool false] 92)) := (Below.refl _ _).alloc (Nat.le_refl _) _
    have kb : ∀ w', Kb wr.heap.size (wr.alloc (.cells #[.string tx, .int .i64 (q : Int), .bool false] 92)) w' → Below wr.heap.size wr w' := fun w' k => k.below b0 (Nat.le_refl _) b0.size
    have := rnote_any wr.heap.size tx q (wr.alloc (.cells #[.string tx, .int .i64 (q : Int), .bool false] 92)) ⟨by simp, by simp, by simp, by simp, by simp⟩ hq (by omega) (fun w' k => (hP.below hb).below (kb w' k))
    obtain ⟨e0, e1, e2, e3, e4⟩ := hsame q hq
    rw [e0, e1, e2, e3, e4] at this
    exact this.mono fun x w' ⟨h1, h2⟩ => ⟨h1, kb w' h2⟩
  clear hP hsame
  go_enter Tryd.func26, Tryd.ntmps26
  go_wp2_with fail
  go_loopw [4, 5] (fun v g wr => ∃ (k : Nat) (l : List NV) (q : Nat), g = .int .i64 (q : Int) ∧ notesAt tx k = some (l, q) ∧ wr.ownsRow w.heap.size 23 4 v l.length (nc l) ∧ Below w.heap.size w wr)
    (fun _ g _ => tx.size - (intOf g).toNat)
  case atStart => exact ⟨0, [], 0, rfl, rfl, World.ownsRow_nil _ _ _ _, Below.refl _ _⟩
  case round =>
    obtain ⟨k, l, q, rfl, hpa, hown, hnx⟩ := hrel
    have hsz := hnx.size
    obtain ⟨hl1, hq1, hk1⟩ := notesAt_le _ _ _ hpa
    have hq2 := nsz_le hq1
    have HPA := hide hpa
    have HNX := hide hnx
    have HOWN := hide hown
    have RQ := hide (RN.out q wr hq1 hnx)
    clear hpa hnx hown
    by_cases hend : q = tx.size
    · have HZ : Hid (nsz tx q = 0) := by show _ = _; rw [hend]; exact nsz_end tx
      have hqi : ¬ ((q : Int) < (tx.size : Int)) := by omega
      clear hq2 RQ hend
      go_wp2_with fail
      go_ret2
      exact ⟨_, k, l, q, rfl, HPA.out, HZ.out, HOWN.out, HNX.out⟩
    · have hqi : (q : Int) < (tx.size : Int) := by omega
      by_cases hz : nsz tx q = 0
      · have HZ := hide hz
        rw [hz] at RQ
        clear hz hq2
        generalize nvAt tx q = n at *
        go_wp2_with fail
        refine Calls.mono RQ.out ?_
        rintro e w1 ⟨rfl, b1⟩
        have B1 := hide (HNX.out.trans (b1.mono hsz))
        have O1 := hide (own_below HOWN.out b1)
        clear b1 RQ
        go_wp2_with fail
        go_ret2
        exact ⟨_, k, l, q, rfl, HPA.out, HZ.out, O1.out.alloc _, B1.out.alloc B1.out.size _⟩
      · have HST := hide (notes_step HPA.out hz)
        have hzp : 0 < nsz tx q := by omega
        generalize nvAt tx q = n at *
        generalize nsz tx q = Z at *
        have hzi : ((Z : Int) == 0) = false := by simp; omega
        obtain ⟨hm1, hm2⟩ := note_room (k := l.length) (by omega)
        go_wp2_with fail
        refine Calls.mono RQ.out ?_
        rintro e w1 ⟨rfl, b1⟩
        have B1' := HNX.out.trans (b1.mono hsz)
        have s1 := B1'.size
        have O1 := hide (own_below HOWN.out b1)
        have B1 := hide B1'
        clear b1 RQ B1'
        go_wp2_with (at_builtin; refine wpList_append_own _ rfl _ _ 32 rfl w.heap.size 23 i0 (.agg #[.int .i64 0, .int .i64 0, .int .i64 0, .int .i64 0]) 4 32 Tryd.underlying32 hi hz0 hz1 hz2 rfl (by decide) _ _ _ rfl ((O1.out.alloc _).alloc _) ⟨w1.heap.size + 1, 0, none⟩ 1 1 (nc [n]) rfl (nc_one_len n) (cell_note2 w1 _ n) (nc_one _) hm1 hm2 (le_alloc (le_alloc s1)) ?_; intro v2 w2 o2 g2 n2; clear n2)
        go_roundw
        case rel =>
          refine ⟨k + 1, l ++ [n], q + Z, by go_num, HST.out, ?_, ?_⟩
          · rw [nc_append, List.length_append]
            exact o2
          · exact ((B1.out.alloc s1 _).alloc (le_alloc s1) _).grown g2 (le_alloc (le_alloc s1)) (fun j hj => (O1.out.lt j hj).1)
        case measure => simp [intOf]; omega
end Go.Proofs.YtaieeabolcldgaaDoor
