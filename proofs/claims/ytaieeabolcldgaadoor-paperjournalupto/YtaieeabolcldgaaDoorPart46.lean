import Derived.Test.YtaieeabolcldgaaDoorPart45
namespace Go.Proofs.YtaieeabolcldgaaDoor
open Go.RowKit Go.Shelf
/-- notes in memory, from a place of a block on -/
def LiesO (b o : Nat) (w : World) (l : List NV) : Prop := ∀ i (h : i < l.length), w.cell? ⟨b, o + i * 4, none⟩ = some (.int .i64 l[i].1) ∧ w.cell? ⟨b, o + i * 4 + 1, none⟩ = some (.int .i64 l[i].2.1) ∧ w.cell? ⟨b, o + i * 4 + 2, none⟩ = some (.int .i64 l[i].2.2.1) ∧ w.cell? ⟨b, o + i * 4 + 3, none⟩ = some (.int .i64 l[i].2.2.2)
theorem LiesO.below {b o : Nat} {w w' : World} {l : List NV} (h : LiesO b o w l) (hb : b < w.heap.size) (hw : Below w.heap.size w w') : LiesO b o w' l := fun i hi => by
  rw [hw.cell (by exact hb), hw.cell (by exact hb), hw.cell (by exact hb), hw.cell (by exact hb)]; exact h i hi
theorem LiesO.take {b o : Nat} {w : World} {l : List NV} (h : LiesO b o w l) (k : Nat) : LiesO b o w (l.take k) := fun i hi => by
  have hi' : i < l.length := by rw [List.length_take] at hi; omega
  rw [List.getElem_take]; exact h i hi'
set_option maxHeartbeats 1000000 in
set_option maxRecDepth 100000 in
/-- sameNotes, of two lists that are the same -/
theorem sameNotes_o (a1 a2 : Option Addr) (b1 o1 c1 b2 o2 c2 : Nat) (l : List NV) (w : World) (h1 : 0 < l.length → a1 = some ⟨b1, o1, none⟩) (h2 : 0 < l.length → a2 = some ⟨b2, o2, none⟩) (hb1 : 0 < l.length → b1 < w.heap.size) (hb2 : 0 < l.length → b2 < w.heap.size) (hlen : l.length ≤ 1000000000000) (l1 : LiesO b1 o1 w l) (l2 : LiesO b2 o2 w l) :
    Calls Tryd.prog 13 #[.slice a1 l.length c1, .slice a2 l.length c2] w fun e w' => e = .returned (.bool true) ∧ Below w.heap.size w w' := by
  have L1 := hide l1
  have L2 := hide l2
  clear l1 l2
  go_enter Tryd.func13, Tryd.ntmps13
  go_wp2_with fail
  go_loopw [5] (fun i wr => ∃ k : Nat, k ≤ l.length ∧ i = .int .i64 k ∧ Below w.heap.size w wr) (fun i _ => l.length - (intOf i).toNat)
  case atStart => exact ⟨0, Nat.zero_le _, rfl, Below.refl _ _⟩
  case round =>
    obtain ⟨k, hk, rfl, hnx⟩ := hrel
    by_cases hlt : k < l.length
    · obtain rfl := h1 (by omega)
      obtain rfl := h2 (by omega)
      obtain ⟨d1, d2, d3, d4⟩ := L1.out.below (hb1 (by omega)) hnx k hlt
      obtain ⟨d5, d6, d7, d8⟩ := L2.out.below (hb2 (by omega)) hnx k hlt
      have hk1 : (k : Int) < (l.length : Int) := by omega
      have HNX := hide hnx
      clear hnx
      generalize l[k].1 = X at *
      generalize l[k].2.1 = Y at *
      generalize l[k].2.2.1 = Z at *
      generalize l[k].2.2.2 = V at *
      go_wp2_with fail
      go_quiet (fail)
      go_wp2
      go_roundw
      case rel => exact ⟨k + 1, by omega, by go_num, below_drewN HNX.out _⟩
      case measure => simp [intOf]; omega
    · have HNX := hide hnx
      clear hnx
      go_wp2
      go_ret
      exact ⟨rfl, HNX.out⟩
theorem own_notesO {w : World} {base : Nat} {v : Value} {l : List NV} {e : TypeId} (h : w.ownsRow base e 4 v l.length (nc l)) : ∃ (a : Option Addr) (g c : Nat), v = .slice a l.length c ∧ l.length ≤ c ∧ (0 < l.length → a = some ⟨g, 0, none⟩) ∧ (0 < l.length → g < w.heap.size) ∧ LiesO g 0 w l := by
  have h' := h
  obtain ⟨_, ⟨rfl, hn⟩ | ⟨g, cap, cur, rfl, _, hg, hc, _⟩⟩ := h
  · exact ⟨none, 0, 0, by rw [hn], by omega, fun z => by omega, fun z => by omega, fun i hi => by omega⟩
  · exact ⟨_, g, cap, rfl, hc, fun _ => rfl, fun _ => (Array.getElem?_eq_some_iff.1 hg).1, fun i hi => by have := rowN_lies h' (Nat.le_refl _) i hi; simpa only [Nat.zero_add] using this⟩
/-- a journal's length, its lines -/
theorem nS_pos {n : NV} (h : nOk n) : 0 < (nS n).size := by
  unfold nS noteS
  rw [if_pos (show noteOk n.1 n.2.1 n.2.2.1 n.2.2.2 = true from h), ByteArray.size_append, strOf_size, strOf_size, sealL_len]
  omega
theorem jl_len_take (ns : List NV) (k : Nat) : (jl (ns.take k)).length ≤ (jl ns).length := by
  rw [jl_split ns k, List.length_append]; omega
theorem jl_mono (ns : List NV) {i k : Nat} (h : i ≤ k) : (jl (ns.take i)).length ≤ (jl (ns.take k)).length := by
  have := jl_len_take (ns.take k) i
  rwa [List.take_take, Nat.min_eq_left h] at this
/-- in which line a place lies -/
theorem jl_find (ns : List NV) (_hg : ∀ n ∈ ns, nOk n) (x : Nat) (hx : x < (jl ns).length) : ∃ k, ∃ _ : k < ns.length, (jl (ns.take k)).length ≤ x ∧ x < (jl (ns.take (k + 1))).length := by
  have : ∀ j, j ≤ ns.length → x < (jl (ns.take j)).length → ∃ k, ∃ _ : k < ns.length, (jl (ns.take k)).length ≤ x ∧ x < (jl (ns.take (k + 1))).length := by
    intro j
    induction j with
    | zero => intro _ h; simp [jl] at h
    | succ j ih =>
      intro hj h
      by_cases hc : (jl (ns.take j)).length ≤ x
      · exact ⟨j, by omega, hc, h⟩
      · exact ih (by omega) (by omega)
  exact this ns.length (Nat.le_refl _) (by rwa [List.take_length])
end Go.Proofs.YtaieeabolcldgaaDoor
namespace Go.Proofs.YtaieeabolcldgaaDoor
open Go.RowKit Go.Shelf
theorem notes_more {tx : ByteArray} {n : Nat} {l0 : List NV} {q0 : Nat} (h : notesAt tx n = some (l0, q0)) : ∀ t l q, notesAt tx (n + t) = some (l, q) → (∃ l', l = l0 ++ l') ∧ q0 ≤ q := by
  intro t
  induction t with
  | zero => intro l q h'; rw [Nat.add_zero, h] at h'; cases h'; exact ⟨⟨[], by simp⟩, Nat.le_refl _⟩
  | succ t ih =>
    intro l q h'
    rw [← Nat.add_assoc, notesAt] at h'
    split at h'
    · cases h'
    · rename_i l1 q1 h1
      obtain ⟨⟨l2, e2⟩, hq⟩ := ih _ _ h1
      by_cases hz : nsz tx q1 = 0
      · rw [if_pos hz] at h'; cases h'
      · rw [if_neg hz] at h'
        simp only [Option.some.injEq, Prod.mk.injEq] at h'
        obtain ⟨rfl, rfl⟩ := h'
        exact ⟨⟨l2 ++ [nvAt tx q1], by rw [e2, List.append_assoc]⟩, by omega⟩
theorem notes_long {tx : ByteArray} {n k : Nat} {l0 l : List NV} {q0 q : Nat} (h : notesAt tx n = some (l0, q0)) (h' : notesAt tx k = some (l, q)) (hz : nsz tx q = 0) : (∃ l', l = l0 ++ l') ∧ q0 ≤ q := by
  rcases Nat.lt_or_ge k n with c | c
  · have := notes_none h' hz (n - (k + 1)); rw [show k + 1 + (n - (k + 1)) = n by omega, h] at this; cases this
  · exact notes_more h (k - n) l q (by rwa [show n + (k - n) = k by omega])
theorem parse_one (tx : ByteArray) (w : World) (htx : tx.size ≤ 1000000000000) (hT4 : Tab4 0 w) {n q : Nat} {l : List NV} (h : notesAt tx n = some (l, q) ∧ nsz tx q = 0) :
    Calls Tryd.prog 12 #[.string tx] w fun e w' => ∃ (v : Value), e = .returned (.tuple #[v, .int .i64 (q : Int)]) ∧ w'.ownsRow w.heap.size 23 4 v l.length (nc l) ∧ Below w.heap.size w w' := by
  refine Calls.mono (parseNotes_any tx w htx hT4) ?_
  rintro e w' ⟨v, k, l', q', rfl, n1, z1, o1, b1⟩
  obtain ⟨rfl, rfl⟩ := notes_one n1 z1 h.1 h.2
  exact ⟨v, rfl, o1, b1⟩
theorem parse_more (tx : ByteArray) (w : World) (htx : tx.size ≤ 1000000000000) (hT4 : Tab4 0 w) {n q : Nat} {l : List NV} (h : notesAt tx n = some (l, q)) :
    Calls Tryd.prog 12 #[.string tx] w fun e w' => ∃ (v : Value) (l2 : List NV) (q2 : Nat), e = .returned (.tuple #[v, .int .i64 (q2 : Int)]) ∧ (∃ l', l2 = l ++ l') ∧ q ≤ q2 ∧ q2 ≤ tx.size ∧ l2.length ≤ tx.size ∧ w'.ownsRow w.heap.size 23 4 v l2.length (nc l2) ∧ Below w.heap.size w w' := by
  refine Calls.mono (parseNotes_any tx w htx hT4) ?_
  rintro e w' ⟨v, k, l', q', rfl, n1, z1, o1, b1⟩
  obtain ⟨a, b⟩ := notes_long h n1 z1
  obtain ⟨c, d, f⟩ := notesAt_le _ _ _ n1
  exact ⟨v, l', q', rfl, a, b, d, by omega, o1, b1⟩
/-- the notes are in their ranges -/
def nI (n : NV) : Prop := I64 n.1 ∧ I64 n.2.1 ∧ I64 n.2.2.1 ∧ I64 n.2.2.2
theorem nS_len {n : NV} (h : nI n) : (nS n).size ≤ 100 := noteS_len _ _ _ _ h.1 h.2.1 h.2.2.1
theorem jl_len {ns : List NV} (h : ∀ n ∈ ns, nI n) : (jl ns).length ≤ 100 * ns.length := by
  induction ns with
  | nil => simp [jl]
  | cons n r ih =>
    have h1 := ih (fun m hm => h m (List.mem_cons_of_mem _ hm))
    have h2 := nS_len (h n List.mem_cons_self)
    have e : jl (n :: r) = (nS n).data.toList ++ jl r := rfl
    rw [e, List.length_append, size_data, List.length_cons]
    omega
/-- what stands in ends -/
def endsOf (ns : List NV) (k : Nat) : List Value := (List.range k).map fun i => .int .i64 ((jl (ns.take (i + 1))).length : Int)
theorem endsOf_succ (ns : List NV) (k : Nat) : endsOf ns (k + 1) = endsOf ns k ++ [.int .i64 ((jl (ns.take (k + 1))).length : Int)] := by
  unfold endsOf; rw [List.range_succ, List.map_append]; rfl
theorem endsOf_at (ns : List NV) {k i : Nat} (h : i < k) : (endsOf ns k)[i]? = some (.int .i64 ((jl (ns.take (i + 1))).length : Int)) := by
  unfold endsOf; rw [List.getElem?_map, List.getElem?_range h]; rfl
theorem strOf_app (a : List UInt8) (t : ByteArray) : strOf a ++ t = strOf (a ++ t.data.toList) := by
  apply ByteArray.ext; apply Array.toList_inj.1
  rw [ba_app, strOf_data, strOf_data]
end Go.Proofs.YtaieeabolcldgaaDoor
