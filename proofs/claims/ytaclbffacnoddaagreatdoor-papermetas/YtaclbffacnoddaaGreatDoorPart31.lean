import Derived.Test.YtaclbffacnoddaaGreatDoorPnRead
import Derived.Laws.AppendOwnNone
import Derived.OwnWalk
import Derived.Test.YtaclbffacnoddaaGreatDoorPart30
namespace Go.Proofs.YtaclbffacnoddaaGreatDoor
open Go.RowKit Go.Shelf
abbrev NV := Int × Int × Int × Int
/-- the cells of notes -/
def nc (l : List NV) : List Value := l.flatMap fun n => [.int .i64 n.1, .int .i64 n.2.1, .int .i64 n.2.2.1, .int .i64 n.2.2.2]
theorem nc_append (a b : List NV) : nc (a ++ b) = nc a ++ nc b := by simp [nc]
theorem nc_one (l : List NV) : ∀ u ∈ nc l, u.oneCell' = true := by
  intro u hu
  obtain ⟨p, _, hp⟩ := List.mem_flatMap.1 hu
  simp at hp
  rcases hp with rfl | rfl | rfl | rfl <;> rfl
theorem nc_one_len (n : NV) : (nc [n]).length = 1 * 4 := rfl
theorem nc_at (l : List NV) : ∀ i (h : i < l.length), (nc l)[i * 4]? = some (.int .i64 l[i].1) ∧ (nc l)[i * 4 + 1]? = some (.int .i64 l[i].2.1) ∧ (nc l)[i * 4 + 2]? = some (.int .i64 l[i].2.2.1) ∧ (nc l)[i * 4 + 3]? = some (.int .i64 l[i].2.2.2) := by
  induction l with
  | nil => intro i h; simp at h
  | cons p r ih =>
    intro i h
    cases i with
    | zero => exact ⟨rfl, rfl, rfl, rfl⟩
    | succ i =>
      have := ih i (by simpa using h)
      have e : nc (p :: r) = .int .i64 p.1 :: .int .i64 p.2.1 :: .int .i64 p.2.2.1 :: .int .i64 p.2.2.2 :: nc r := rfl
      rw [e, show (i + 1) * 4 = i * 4 + 1 + 1 + 1 + 1 by omega, show i * 4 + 1 + 1 + 1 + 1 + 1 = i * 4 + 1 + 1 + 1 + 1 + 1 from rfl, show i * 4 + 1 + 1 + 1 + 1 + 2 = i * 4 + 2 + 1 + 1 + 1 + 1 by omega, show i * 4 + 1 + 1 + 1 + 1 + 3 = i * 4 + 3 + 1 + 1 + 1 + 1 by omega]
      simpa using this
theorem own_below {w w' : World} {base e sz n : Nat} {v : Value} {xs : List Value} (h : w.ownsRow base e sz v n xs) (hb : Below w.heap.size w w') : w'.ownsRow base e sz v n xs := by
  refine h.kept (row := none) ⟨hb.os, hb.tape, hb.output, hb.size, fun k hk _ => hb.block k hk⟩ ?_
  rcases hv : v.ownBlock with _ | _
  · exact .inl rfl
  · exact .inr (by simp)
theorem le_alloc {B : Nat} {w : World} {o : Obj} (h : B ≤ w.heap.size) : B ≤ (w.alloc o).heap.size := by simp; omega
theorem infoN : (Tryz.prog.info? 27).map (fun i => (i.zero, i.size, i.bytes)) = some (some (.agg #[.int .i64 0, .int .i64 0, .int .i64 0, .int .i64 0]), 4, 32) := by kernel_rfl
theorem nc_four (n : NV) : nc [n] = (#[.int .i64 n.1, .int .i64 n.2.1, .int .i64 n.2.2.1, .int .i64 n.2.2.2] : Array Value).toList := rfl
theorem cell_note (w : World) (n : NV) : ∀ j u, (nc [n])[j]? = some u → (w.alloc (.cells #[.int .i64 n.1, .int .i64 n.2.1, .int .i64 n.2.2.1, .int .i64 n.2.2.2] 27)).cell? ((⟨w.heap.size, 0, none⟩ : Addr).add j) = some u := by
  rw [nc_four]
  exact (World.ownsRow_lit (base := 0) (e := 27) (size := 4) w _ 1 (by omega) (by unfold maxLen; omega) rfl).cells (g := w.heap.size) rfl
theorem cell_note2 (w : World) (o : Obj) (n : NV) : ∀ j u, (nc [n])[j]? = some u → ((w.alloc o).alloc (.cells #[.int .i64 n.1, .int .i64 n.2.1, .int .i64 n.2.2.1, .int .i64 n.2.2.2] 27)).cell? ((⟨w.heap.size + 1, 0, none⟩ : Addr).add j) = some u := by
  have := cell_note (w.alloc o) n
  rwa [show (w.alloc o).heap.size = w.heap.size + 1 by simp] at this
/-- the note at a place of a text, its line's length -/
def nvAt (tx : ByteArray) (q : Nat) : NV := (ntV (restS tx q) 0, ntV (restS tx q) 1, ntV (restS tx q) 2, ntV (restS tx q) 3)
def nsz (tx : ByteArray) (q : Nat) : Nat := ntSize (restS tx q)
/-- the first k notes, and the place behind them -/
def notesAt (tx : ByteArray) : Nat → Option (List NV × Nat)
  | 0 => some ([], 0)
  | k + 1 => match notesAt tx k with
    | none => none
    | some (l, q) => if nsz tx q = 0 then none else some (l ++ [nvAt tx q], q + nsz tx q)
theorem ntSize_le (tx : ByteArray) : ntSize tx ≤ tx.size := by
  unfold ntSize
  by_cases h : ntOk tx = true
  · rw [if_pos h]
    unfold ntOk at h
    simp only [Bool.and_eq_true] at h
    obtain ⟨h1, h2, _⟩ := h
    have a1 := tabN_le _ _ h1
    rw [size_data] at a1
    unfold unsFit at h2
    simp only [Bool.and_eq_true] at h2
    have a2 := fldN_le h2.1
    rw [List.length_drop, size_data] at a2
    have a1' : ntN tx ≤ tx.size := a1
    unfold unsN
    omega
  · rw [if_neg h]; omega
theorem nsz_le {tx : ByteArray} {q : Nat} (h : q ≤ tx.size) : q + nsz tx q ≤ tx.size := by
  have := ntSize_le (restS tx q)
  rw [restS_size] at this
  unfold nsz; omega
theorem notesAt_le {tx : ByteArray} : ∀ k l q, notesAt tx k = some (l, q) → l.length = k ∧ q ≤ tx.size ∧ k ≤ q := by
  intro k
  induction k with
  | zero => intro l q h; simp [notesAt] at h; obtain ⟨rfl, rfl⟩ := h; simp
  | succ k ih =>
    intro l q h
    rw [notesAt] at h
    split at h
    · cases h
    · rename_i l' q' h'
      obtain ⟨a, b, c⟩ := ih _ _ h'
      by_cases hz : nsz tx q' = 0
      · rw [if_pos hz] at h; cases h
      · rw [if_neg hz] at h
        simp only [Option.some.injEq, Prod.mk.injEq] at h
        obtain ⟨rfl, rfl⟩ := h
        exact ⟨by simp [a], nsz_le b, by omega⟩
theorem notes_step {tx : ByteArray} {k : Nat} {l : List NV} {q : Nat} (h : notesAt tx k = some (l, q)) (hz : nsz tx q ≠ 0) : notesAt tx (k + 1) = some (l ++ [nvAt tx q], q + nsz tx q) := by
  rw [notesAt, h]; simp only; rw [if_neg hz]
theorem notes_none {tx : ByteArray} {k : Nat} {l : List NV} {q : Nat} (h : notesAt tx k = some (l, q)) (hz : nsz tx q = 0) (t : Nat) : notesAt tx (k + 1 + t) = none := by
  induction t with
  | zero => show notesAt tx (k + 1) = none; rw [notesAt, h]; simp only; rw [if_pos hz]
  | succ t ih => rw [show k + 1 + (t + 1) = k + 1 + t + 1 by omega, notesAt, ih]
theorem notes_one {tx : ByteArray} {k k' : Nat} {l l' : List NV} {q q' : Nat} (h : notesAt tx k = some (l, q)) (hz : nsz tx q = 0) (h' : notesAt tx k' = some (l', q')) (hz' : nsz tx q' = 0) : l = l' ∧ q = q' := by
  rcases Nat.lt_trichotomy k k' with c | c | c
  · have := notes_none h hz (k' - (k + 1)); rw [show k + 1 + (k' - (k + 1)) = k' by omega, h'] at this; cases this
  · subst c; rw [h] at h'; cases h'; exact ⟨rfl, rfl⟩
  · have := notes_none h' hz' (k - (k' + 1)); rw [show k' + 1 + (k - (k' + 1)) = k by omega, h] at this; cases this
theorem note_room {k : Nat} (h : k ≤ 1000000000000) : k + 1 ≤ maxLen ∧ (k + 1) * 32 ≤ 140737488355328 := by unfold maxLen; omega
set_option maxHeartbeats 2000000 in
set_option maxRecDepth 100000 in
theorem parseNotes_any (tx : ByteArray) (w : World) (htx : tx.size ≤ 1000000000000) (hT4 : Tab4 0 w) :
    Calls Tryz.prog 14 #[.string tx] w fun e w' => ∃ (v : Value) (k : Nat) (l : List NV) (q : Nat), e = .returned (.tuple #[v, .int .i64 (q : Int)]) ∧ notesAt tx k = some (l, q) ∧ nsz tx q = 0 ∧ w'.ownsRow w.heap.size 27 4 v l.length (nc l) ∧ Below w.heap.size w w' := by
  obtain ⟨i0, hi, hz0, hz1, hz2⟩ := info_parts infoN
  have RN := hide (fun q w' (hb : Below w.heap.size w w') => readNote_any (restS tx q) w' (by rw [restS_size]; omega) (hT4.below hb hT4.lt))
  clear hT4
  go_enter Tryz.func14, Tryz.ntmps14
  go_wp2_with fail
  go_loopw [4, 5] (fun v g wr => ∃ (k : Nat) (l : List NV) (q : Nat), g = .int .i64 (q : Int) ∧ notesAt tx k = some (l, q) ∧ wr.ownsRow w.heap.size 27 4 v l.length (nc l) ∧ Below w.heap.size w wr)
    (fun _ g _ => tx.size - (intOf g).toNat)
  case atStart => exact ⟨0, [], 0, rfl, rfl, World.ownsRow_nil _ _ _ _, Below.refl _ _⟩
  case round =>
    obtain ⟨k, l, q, rfl, hpa, hown, hnx⟩ := hrel
    have hsz := hnx.size
    obtain ⟨hl1, hq1, hk1⟩ := notesAt_le _ _ _ hpa
    have hq2 := nsz_le hq1
    have HPA := hide hpa
    have HNX := hide hnx
    have HOWN := hide hown
    have RQ := hide (RN.out q wr hnx)
    clear hpa hnx hown
    have ER : restS tx q = tx.extract q tx.size := rfl
    by_cases hz : nsz tx q = 0
    · have HZ := hide hz
      unfold nsz at hz
      rw [hz] at RQ
      rw [ER] at RQ
      clear hz hq2
      go_wp2_with fail
      refine Calls.mono RQ.out ?_
      rintro e w1 ⟨rfl, b1⟩
      have B1 := hide (HNX.out.trans (b1.mono hsz))
      have O1 := hide (own_below HOWN.out b1)
      clear b1 RQ
      go_wp2_with fail
      go_ret2
      exact ⟨_, k, l, q, rfl, HPA.out, HZ.out, O1.out.alloc _, B1.out.alloc B1.out.size _⟩
    · have HST := hide (notes_step HPA.out hz)
      have hzp : 0 < nsz tx q := by omega
      have ez : ntSize (restS tx q) = nsz tx q := rfl
      rw [ez] at RQ
      rw [ER] at RQ
      have PV : ∃ n : NV, n = nvAt tx q := ⟨_, rfl⟩
      obtain ⟨n, hn⟩ := PV
      have RQ' : Hid (Calls Tryz.prog 28 #[.string (tx.extract q tx.size)] wr fun x w' => x = .returned (.tuple #[.agg #[.int .i64 n.1, .int .i64 n.2.1, .int .i64 n.2.2.1, .int .i64 n.2.2.2], .int .i64 (nsz tx q : Int)]) ∧ Below wr.heap.size wr w') := by rw [hn]; exact RQ.out
      rw [← hn] at HST
      clear hn RQ ez ER
      generalize nsz tx q = Z at *
      have hzi : ((Z : Int) == 0) = false := by simp; omega
      obtain ⟨hm1, hm2⟩ := note_room (k := l.length) (by omega)
      go_wp2_with fail
      refine Calls.mono RQ'.out ?_
      rintro e w1 ⟨rfl, b1⟩
      have B1' := HNX.out.trans (b1.mono hsz)
      have s1 := B1'.size
      have O1 := hide (own_below HOWN.out b1)
      have B1 := hide B1'
      clear b1 RQ' B1'
      go_wp2_with (at_builtin; refine wpList_append_own _ rfl _ _ 41 rfl w.heap.size 27 i0 (.agg #[.int .i64 0, .int .i64 0, .int .i64 0, .int .i64 0]) 4 32 Tryz.underlying41 hi hz0 hz1 hz2 rfl (by decide) _ _ _ rfl ((O1.out.alloc _).alloc _) ⟨w1.heap.size + 1, 0, none⟩ 1 1 (nc [n]) rfl (nc_one_len n) (cell_note2 w1 _ n) (nc_one _) hm1 hm2 (le_alloc (le_alloc s1)) ?_; intro v2 w2 o2 g2 n2; clear n2)
      go_roundw
      case rel =>
        refine ⟨k + 1, l ++ [n], q + Z, by go_num, HST.out, ?_, ?_⟩
        · rw [nc_append, List.length_append]
          exact o2
        · exact ((B1.out.alloc s1 _).alloc (le_alloc s1) _).grown g2 (le_alloc (le_alloc s1)) (fun j hj => (O1.out.lt j hj).1)
      case measure => simp [intOf]; omega
end Go.Proofs.YtaclbffacnoddaaGreatDoor
namespace Go.Proofs.YtaclbffacnoddaaGreatDoor
open Go.RowKit Go.Shelf
def SameAt (tx : ByteArray) : Prop := ∀ a, a ≤ tx.size → rtSize tx a = nsz tx a ∧ rtV tx a (ntC tx a) = (nvAt tx a).1 ∧ rtV tx a (ntP tx a) = (nvAt tx a).2.1 ∧ rtV tx a (ntU tx a) = (nvAt tx a).2.2.1 ∧ rtV tx a (ntX tx a) = (nvAt tx a).2.2.2
theorem nsz_end (tx : ByteArray) : nsz tx tx.size = 0 := by have := nsz_le (Nat.le_refl tx.size); omega
end Go.Proofs.YtaclbffacnoddaaGreatDoor
