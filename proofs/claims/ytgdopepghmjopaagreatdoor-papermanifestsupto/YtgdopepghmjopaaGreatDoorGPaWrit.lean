import Derived.Test.YtgdopepghmjopaaGreatDoorGPaFit
import Derived.Test.YtgdopepghmjopaaGreatDoorGPaBuild
namespace Go.Proofs.YtgdopepghmjopaaGreatDoor
open Go.RowKit Go.Shelf
def PrintsAt (w : World) (f : FD) (n : Int) (t out : ByteArray) : Prop := ∀ w', Below w.heap.size w w' → Calls Tryz.prog 32 #[.int .i64 f.sh, .agg #[.int .i64 n, .string t]] w' fun e w'' => e = .returned (.string out) ∧ Below w'.heap.size w' w''
theorem PrintsAt.below {w w1 : World} {f : FD} {n : Int} {t out : ByteArray} (h : PrintsAt w f n t out) (hb : Below w.heap.size w w1) : PrintsAt w1 f n t out := fun w' hw => h w' (hb.trans (hw.mono hb.size))
theorem ownsRowF_below {w w' : World} {base e s n : Nat} {v : Value} {xs : List Value} (h : w.ownsRowF base e s v n xs) (hb : Below w.heap.size w w') : w'.ownsRowF base e s v n xs := by
  refine ⟨h.1, ?_⟩
  rcases h.2 with q | ⟨g, cap, cur, fz, q, hg, hblk, r⟩
  · exact .inl q
  · exact .inr ⟨g, cap, cur, fz, q, hg, by rw [hb.block g (by rcases Nat.lt_or_ge g w.heap.size with z | z; exact z; rw [Array.getElem?_eq_none z] at hblk; cases hblk)]; exact hblk, r⟩
theorem builderAtF_below {T e B b : Nat} {p : Value} {bs : List Value} {w w' : World} (h : Lib.BuilderAtF T e B b p bs w) (hb : Below w.heap.size w w') : Lib.BuilderAtF T e B b p bs w' := by
  have hl := h.lt
  obtain ⟨hB, v, h1, h2, h3⟩ := h
  exact ⟨hB, v, by rw [hb.block b hl]; exact h1, ownsRowF_below h2 hb, h3⟩
theorem isBuilderF_below {T e B b : Nat} {bs : List Value} {w w' : World} (h : Lib.IsBuilderF T e B b bs w) (hb : Below w.heap.size w w') : Lib.IsBuilderF T e B b bs w' := h.elim (fun x => .inl (builderAtF_below x hb)) (fun x => .inr (builderAtF_below x hb))
set_option maxHeartbeats 2000000 in
set_option maxRecDepth 100000 in
set_option linter.unusedSimpArgs false in
theorem written1_any (f : FD) (n : Int) (t out : ByteArray) (B bb : Nat) (l : List UInt8) (w : World) (he : Enters Tryz.prog f.gf) (hg : GetsAt w f n t) (ha : PrintsAt w f n t out) (hI : Lib.IsBuilderF 41 5 B bb (Lib.byteCells l) w) (hB : B ≤ w.heap.size) (h1 : f.wd.size ≤ 1000) (h2 : out.size ≤ 1099511627776) (h3 : f.en.size ≤ 1000) (h4 : l.length ≤ 70368744177664) :
    Calls Tryz.prog 31 (#[.agg f.cells.toArray] ++ #[.pointer (some ⟨bb, 0, none⟩)]) w fun e w' => e = .returned (.bool true) ∧ Lib.IsBuilderF 41 5 B bb (Lib.byteCells (l ++ (f.wd.data.toList ++ out.data.toList ++ f.en.data.toList))) w' ∧ Below B w w' := by
  unfold Enters at he
  rw [show (#[.agg f.cells.toArray] ++ #[.pointer (some ⟨bb, 0, none⟩)] : Array Value) = #[.agg f.cells.toArray, .pointer (some ⟨bb, 0, none⟩)] from rfl]
  obtain ⟨W0, hW0⟩ : ∃ W0, W0 = w.alloc (.cells f.cells.toArray 73) := ⟨_, rfl⟩
  have b0 : Below w.heap.size w W0 := by rw [hW0]; exact (Below.refl _ w).alloc (Nat.le_refl _) _
  have s0 : w.heap.size < W0.heap.size := by rw [hW0]; simp
  have hh : W0.heap[w.heap.size]? = some (.cells f.cells.toArray 73 (0, 0)) := by rw [hW0]; rw [World.alloc]; simp
  have KH : Hid (∀ w', Below W0.heap.size W0 w' → w'.heap[w.heap.size]? = some (.cells f.cells.toArray 73 (0, 0))) := fun w' hw => by
    rw [hw.block _ s0]; exact hh
  have FC : Hid (∀ w' : World, w'.heap[w.heap.size]? = some (.cells f.cells.toArray 73 (0, 0)) → w'.cell? ⟨w.heap.size, 0, none⟩ = some (.string f.wd) ∧ w'.cell? ⟨w.heap.size, 1, none⟩ = some (.int .i64 f.sh) ∧ w'.cell? ⟨w.heap.size, 4, none⟩ = some (.func (.func f.gf) #[] f.ca) ∧ w'.cell? ⟨w.heap.size, 6, none⟩ = some (.string f.en)) := fun w' h => by
    simp [World.cell?, h, FD.cells]
  have G := hide (hg.below b0)
  have A := hide (ha.below b0)
  have B0 := hide b0
  have I0 := hide (isBuilderF_below hI b0)
  have hne : some w.heap.size ≠ some bb := by
    intro e; injection e with e
    rcases hI with h | h
    · have := h.lt; omega
    · have := h.lt; omega
  have HNE := hide hne
  have W := hide (fun w' (hw : Below W0.heap.size W0 w') (hs : f.wd.size + out.size + f.en.size ≤ 1099511629776) => Tryz.bWriteString B bb (Lib.byteCells l) (f.wd ++ out ++ f.en) w' (isBuilderF_below I0.out hw) (by rw [Lib.byteCells_length]; simp; omega) (by have := hw.size; omega))
  have hsz : f.wd.size + out.size + f.en.size ≤ 1099511629776 := by omega
  clear hg ha b0 hI hne hh
  have hW1 := hW0
  unfold FD.cells at hW1 ⊢
  clear hW0
  go_enter Tryz.func31, Tryz.ntmps31
  go_wp2_with fail
  rw [← hW1]
  clear hW1
  refine wp_region_held_drew (S := fun w' => w'.heap[w.heap.size]? = some (.cells f.cells.toArray 73 (0, 0))) (by kernel_rfl) (KH.out _ (Below.refl _ W0).drew) (fun hHeld => ?_)
  refine wpAnyH_take (i := 0) (v := (.pointer (some ⟨w.heap.size, 0, none⟩))) rfl (by kernel_rfl) (by kernel_rfl) (by kernel_rfl) (fun _ _ _ h => h) (Or.inl ⟨by rfl, ?_⟩) (by assumption) ?_
  · intro w' hSw
    (try dsimp only at hSw)
    go_simp <;> first | exact i64_in (by omega) (by omega) | exact u32_in (by omega) (by omega) | exact u32_add _ _ | (rw [Int.tmod_eq_emod_of_nonneg (by omega)]; omega) | (rw [Int.tdiv_eq_ediv_of_nonneg (by omega)]; omega) | omega
  (try simp only [Act.put, List.setIfInBounds_toArray, List.set_cons_zero, List.set_cons_succ])
  refine wpAnyH_take (i := 1) (v := (.string f.wd)) rfl (by kernel_rfl) (by kernel_rfl) (by kernel_rfl) (fun _ _ _ h => h) (Or.inl ⟨by rfl, ?_⟩) (by assumption) ?_
  · intro w' hSw
    (try dsimp only at hSw)
    (obtain ⟨hS1, hS2, hS3, hS4⟩ := FC.out _ hSw; go_simp)
  (try simp only [Act.put, List.setIfInBounds_toArray, List.set_cons_zero, List.set_cons_succ])
  refine wpAnyH_take (i := 2) (v := (.pointer (some ⟨w.heap.size, 1, none⟩))) rfl (by kernel_rfl) (by kernel_rfl) (by kernel_rfl) (fun _ _ _ h => h) (Or.inl ⟨by rfl, ?_⟩) (by assumption) ?_
  · intro w' hSw
    (try dsimp only at hSw)
    go_simp <;> first | exact i64_in (by omega) (by omega) | exact u32_in (by omega) (by omega) | exact u32_add _ _ | (rw [Int.tmod_eq_emod_of_nonneg (by omega)]; omega) | (rw [Int.tdiv_eq_ediv_of_nonneg (by omega)]; omega) | omega
  (try simp only [Act.put, List.setIfInBounds_toArray, List.set_cons_zero, List.set_cons_succ])
  refine wpAnyH_take (i := 3) (v := (.int .i64 f.sh)) rfl (by kernel_rfl) (by kernel_rfl) (by kernel_rfl) (fun _ _ _ h => h) (Or.inl ⟨by rfl, ?_⟩) (by assumption) ?_
  · intro w' hSw
    (try dsimp only at hSw)
    (obtain ⟨hS1, hS2, hS3, hS4⟩ := FC.out _ hSw; go_simp)
  (try simp only [Act.put, List.setIfInBounds_toArray, List.set_cons_zero, List.set_cons_succ])
  refine wpAnyH_take (i := 4) (v := (.pointer (some ⟨w.heap.size, 4, none⟩))) rfl (by kernel_rfl) (by kernel_rfl) (by kernel_rfl) (fun _ _ _ h => h) (Or.inl ⟨by rfl, ?_⟩) (by assumption) ?_
  · intro w' hSw
    (try dsimp only at hSw)
    go_simp <;> first | exact i64_in (by omega) (by omega) | exact u32_in (by omega) (by omega) | exact u32_add _ _ | (rw [Int.tmod_eq_emod_of_nonneg (by omega)]; omega) | (rw [Int.tdiv_eq_ediv_of_nonneg (by omega)]; omega) | omega
  (try simp only [Act.put, List.setIfInBounds_toArray, List.set_cons_zero, List.set_cons_succ])
  refine wpAnyH_take (i := 5) (v := (.func (.func f.gf) #[] f.ca)) rfl (by kernel_rfl) (by kernel_rfl) (by kernel_rfl) (fun _ _ _ h => h) (Or.inl ⟨by rfl, ?_⟩) (by assumption) ?_
  · intro w' hSw
    (try dsimp only at hSw)
    (obtain ⟨hS1, hS2, hS3, hS4⟩ := FC.out _ hSw; go_simp)
  (try simp only [Act.put, List.setIfInBounds_toArray, List.set_cons_zero, List.set_cons_succ])
  refine wpAnyH_take (i := 9) (v := (.pointer (some ⟨w.heap.size, 6, none⟩))) rfl (by kernel_rfl) (by kernel_rfl) (by kernel_rfl) (fun _ _ _ h => h) (Or.inl ⟨by rfl, ?_⟩) (by assumption) ?_
  · intro w' hSw
    (try dsimp only at hSw)
    go_simp <;> first | exact i64_in (by omega) (by omega) | exact u32_in (by omega) (by omega) | exact u32_add _ _ | (rw [Int.tmod_eq_emod_of_nonneg (by omega)]; omega) | (rw [Int.tdiv_eq_ediv_of_nonneg (by omega)]; omega) | omega
  (try simp only [Act.put, List.setIfInBounds_toArray, List.set_cons_zero, List.set_cons_succ])
  refine wpAnyH_take (i := 10) (v := (.string f.en)) rfl (by kernel_rfl) (by kernel_rfl) (by kernel_rfl) (fun _ _ _ h => h) (Or.inl ⟨by rfl, ?_⟩) (by assumption) ?_
  · intro w' hSw
    (try dsimp only at hSw)
    (obtain ⟨hS1, hS2, hS3, hS4⟩ := FC.out _ hSw; go_simp)
  (try simp only [Act.put, List.setIfInBounds_toArray, List.set_cons_zero, List.set_cons_succ])
  refine wpAnyH_ready (rs := [6]) (by kernel_rfl) (by simp) ?_
  refine AllReadyH.cons rfl (fun K hK => ?_) AllReadyH.nil
  go_simp
  refine Calls.mono (G.out _ (Below.refl _ W0).drew) ?_
  rintro e w1 ⟨rfl, b1⟩
  have B1 := hide ((Below.refl _ W0).drew.trans (b1.mono (Nat.le_refl _)))
  clear b1
  refine hK.out _ _ (KH.out _ B1.out) (fun hHeld => ?_)
  clear hK
  (try simp only [Act.put, List.setIfInBounds_toArray, List.set_cons_zero, List.set_cons_succ])
  refine wpAnyH_ready (rs := [7]) (by kernel_rfl) (by simp) ?_
  refine AllReadyH.cons rfl (fun K hK => ?_) AllReadyH.nil
  go_simp
  refine Calls.mono (A.out _ B1.out) ?_
  rintro e w2 ⟨rfl, b2⟩
  have B2 := hide (B1.out.trans (b2.mono B1.out.size))
  clear b2
  refine hK.out _ _ (KH.out _ B2.out) (fun hHeld => ?_)
  clear hK
  (try simp only [Act.put, List.setIfInBounds_toArray, List.set_cons_zero, List.set_cons_succ])
  refine wpAnyH_take (i := 8) (v := (.string (f.wd ++ out))) rfl (by kernel_rfl) (by kernel_rfl) (by kernel_rfl) (fun _ _ _ h => h) (Or.inl ⟨by rfl, ?_⟩) (by assumption) ?_
  · intro w' hSw
    (try dsimp only at hSw)
    go_simp <;> first | exact i64_in (by omega) (by omega) | exact u32_in (by omega) (by omega) | exact u32_add _ _ | (rw [Int.tmod_eq_emod_of_nonneg (by omega)]; omega) | (rw [Int.tdiv_eq_ediv_of_nonneg (by omega)]; omega) | omega
  (try simp only [Act.put, List.setIfInBounds_toArray, List.set_cons_zero, List.set_cons_succ])
  refine wpAnyH_take (i := 11) (v := (.string (f.wd ++ out ++ f.en))) rfl (by kernel_rfl) (by kernel_rfl) (by kernel_rfl) (fun _ _ _ h => h) (Or.inl ⟨by rfl, ?_⟩) (by assumption) ?_
  · intro w' hSw
    (try dsimp only at hSw)
    go_simp <;> first | exact i64_in (by omega) (by omega) | exact u32_in (by omega) (by omega) | exact u32_add _ _ | (rw [Int.tmod_eq_emod_of_nonneg (by omega)]; omega) | (rw [Int.tdiv_eq_ediv_of_nonneg (by omega)]; omega) | omega
  (try simp only [Act.put, List.setIfInBounds_toArray, List.set_cons_zero, List.set_cons_succ])
  refine wpAnyH_ready (rs := [12]) (by kernel_rfl) (by simp) ?_
  refine AllReadyH.cons rfl (fun K hK => ?_) AllReadyH.nil
  go_simp
  refine Calls.mono (W.out _ B2.out hsz) ?_
  rintro e w3 ⟨rfl, h5, h6, h7⟩
  have H5 := hide h5
  have B3 := hide ((B0.out.trans (B2.out.mono B0.out.size)).mono hB |>.trans h6)
  have K3 := hide (h7 _ _ (KH.out _ B2.out) HNE.out (by intro c fz hc; injection hc with _ h _; exact absurd h (by decide)))
  clear h5 h6 h7
  refine hK.out _ _ (K3.out) (fun hHeld => ?_)
  clear hK
  (try simp only [Act.put, List.setIfInBounds_toArray, List.set_cons_zero, List.set_cons_succ])
  refine wpAnyH_done (by kernel_rfl) ?_ _
  go_wp2_with fail
  go_ret
  refine ⟨rfl, .inr ?_, B3.out⟩
  have := H5.out
  rw [Lib.strCells_eq, ← Lib.byteCells_append] at this
  simpa using this
/-- the text of the first k rows -/
def wrL (ts : List FD) (out : Nat → ByteArray) : Nat → List UInt8
  | 0 => []
  | k + 1 => wrL ts out k ++ (match ts[k]? with | some f => f.wd.data.toList ++ (out k).data.toList ++ f.en.data.toList | none => [])
theorem wrL_succ (ts : List FD) (out : Nat → ByteArray) (k : Nat) (h : k < ts.length) : wrL ts out (k + 1) = wrL ts out k ++ (ts[k].wd.data.toList ++ (out k).data.toList ++ ts[k].en.data.toList) := by
  rw [wrL, List.getElem?_eq_getElem h]
theorem wrL_len (ts : List FD) (out : Nat → ByteArray) (M : Nat) (h1 : ∀ i (h : i < ts.length), ts[i].wd.size ≤ 1000 ∧ ts[i].en.size ≤ 1000) (h2 : ∀ i, (out i).size ≤ M) : ∀ k, k ≤ ts.length → (wrL ts out k).length ≤ k * (M + 2000)
  | 0, _ => by simp [wrL]
  | k + 1, hk => by
    have := wrL_len ts out M h1 h2 k (by omega)
    have q := h1 k (by omega)
    have q2 := h2 k
    have a1 := size_data ts[k].wd
    have a2 := size_data ts[k].en
    have a3 := size_data (out k)
    rw [wrL_succ ts out k (by omega), List.length_append, List.length_append, List.length_append, Nat.add_mul, Nat.one_mul]
    omega
set_option maxHeartbeats 2000000 in
set_option maxRecDepth 100000 in
/-- written, over a table in memory -/
theorem written_any (b cap : Nat) (ts : List FD) (w : World) (nv : Nat → Int) (tv out : Nat → ByteArray) (M : Nat) (hM : M ≤ 1000000000) (hlen : ts.length ≤ 64) (hT : TabAt b w ts) (hb : b < w.heap.size)
    (he : ∀ i (h : i < ts.length), Enters Tryz.prog ts[i].gf) (hg : ∀ i (h : i < ts.length), GetsAt w ts[i] (nv i) (tv i)) (ha : ∀ i (h : i < ts.length), PrintsAt w ts[i] (nv i) (tv i) (out i))
    (h1 : ∀ i (h : i < ts.length), ts[i].wd.size ≤ 1000 ∧ ts[i].en.size ≤ 1000) (h2 : ∀ i, (out i).size ≤ M) :
    Calls Tryz.prog 12 #[.slice (some ⟨b, 0, none⟩) ts.length cap] w fun e w' => e = .returned (.string (strOf (wrL ts out ts.length))) ∧ Below w.heap.size w w' := by
  obtain ⟨W0, hW0⟩ : ∃ W0, W0 = w.alloc (.cells #[.pointer none, .slice none 0 0] 41) := ⟨_, rfl⟩
  have b0 : Below w.heap.size w W0 := by rw [hW0]; exact (Below.refl _ w).alloc (Nat.le_refl _) _
  have I0 : Lib.IsBuilderF 41 5 w.heap.size w.heap.size (Lib.byteCells []) W0 := by rw [hW0]; exact Lib.IsBuilderF.of (Lib.fresh_isBuilder 41 5 w)
  have C := hide (walk_any 31 (enters_of Tryz.func31 (by kernel_rfl) rfl) #[.pointer (some ⟨w.heap.size, 0, none⟩)] b cap ts W0 (fun i w' => Below w.heap.size w w' ∧ Lib.IsBuilderF 41 5 w.heap.size w.heap.size (Lib.byteCells (wrL ts out i)) w') (fun i w' => False) (by omega) ⟨b0, I0⟩
    (fun i w' _ h => hT.below hb h.1) (fun i w' o _ h => ⟨h.1.alloc h.1.size o, isBuilderF_below h.2 ((Below.refl _ w').alloc (Nat.le_refl _) o)⟩)
    (fun i h w' hI => (written1_any ts[i] (nv i) (tv i) (out i) w.heap.size w.heap.size (wrL ts out i) w' (he i h) ((hg i h).below hI.1) ((ha i h).below hI.1) hI.2 hI.1.size (h1 i h).1 (by have := h2 i; omega) (h1 i h).2 (by
        have q := wrL_len ts out M h1 h2 i (by omega)
        have : i * (M + 2000) ≤ 64 * (1000000000 + 2000) := Nat.mul_le_mul (by omega) (by omega)
        omega)).mono fun e w'' ⟨e1, i1, b1⟩ => .inl ⟨e1, hI.1.trans b1, by rw [wrL_succ ts out i h]; exact i1⟩))
  have D := hide (C.out.mono (R' := fun e w' => e = .returned (.bool true) ∧ Below w.heap.size w w' ∧ Lib.IsBuilderF 41 5 w.heap.size w.heap.size (Lib.byteCells (wrL ts out ts.length)) w') fun e w' h => by
    rcases h with ⟨rfl, h1, h2⟩ | ⟨rfl, i, hi, h1⟩
    · exact ⟨rfl, h1, h2⟩
    · cases h1)
  clear hT he hg ha C b0 I0 h1 h2
  have hmf : ∀ (fn : Fn) (first cap : Array Value) (w : World), (Instr.makeFunc fn first cap).run Tryz.prog w = .ok (.func fn first cap) w := fun _ _ _ _ => rfl
  go_enter Tryz.func12, Tryz.ntmps12
  go_wp2_with fail
  rw [← hW0]
  clear hW0
  refine Calls.mono D.out ?_
  rintro e w1 ⟨rfl, h1, h2⟩
  have S := hide (Tryz.Builder_String_any_k w.heap.size w.heap.size (wrL ts out ts.length) w1 h2 h1.size)
  have H1 := hide h1
  clear h1 h2 D
  go_wp2_with fail
  refine Calls.mono S.out ?_
  rintro e w2 ⟨rfl, i2, b2, k2⟩
  have B2 := hide (H1.out.trans b2)
  clear i2 b2 k2 S
  go_wp2
  go_ret
  exact ⟨rfl, B2.out⟩
end Go.Proofs.YtgdopepghmjopaaGreatDoor
namespace Go.Proofs.YtgdopepghmjopaaGreatDoor
open Go.RowKit Go.Shelf
set_option maxHeartbeats 1000000 in
set_option maxRecDepth 100000 in
theorem get_sumTable_0 (bx rb : Nat) (n : Int) (w : World) (hx : bx < w.heap.size) (hr : rb < w.heap.size) (h1 : w.cell? ⟨bx, 0, none⟩ = some (.pointer (some ⟨rb, 0, none⟩))) (h2 : w.cell? ⟨rb, 0, none⟩ = some (.int .i64 n)) :
    Calls Tryz.prog 78 #[.pointer (some ⟨bx, 0, none⟩)] w fun e w' => e = .returned (.agg #[.int .i64 n, .string ⟨#[]⟩]) ∧ Below w.heap.size w w' := by
  go_enter Tryz.func78, Tryz.ntmps78
  go_wp2
  exact bodyPost_ret (v := .agg #[.int .i64 n, .string ⟨#[]⟩]) (by simp [results, Tryz.results78, go_sem]) rfl ⟨rfl, (Below.refl _ _).alloc (Nat.le_refl _) _⟩
set_option maxHeartbeats 1000000 in
set_option maxRecDepth 100000 in
theorem set_sumTable_0 (bx rb : Nat) (n : Int) (m : Int) (t : ByteArray) (w : World) (hx : bx < w.heap.size) (hr : rb < w.heap.size) (h1 : w.cell? ⟨bx, 0, none⟩ = some (.pointer (some ⟨rb, 0, none⟩))) (h2 : w.cell? ⟨rb, 0, none⟩ = some (.int .i64 n)) (h3 : w.frozen? ⟨rb, 0, none⟩ = false) :
    Calls Tryz.prog 79 #[.agg #[.int .i64 m, .string t], .pointer (some ⟨bx, 0, none⟩)] w fun e w' => e = .returned (.tuple #[]) ∧ w' = (w.setCell ⟨rb, 0, none⟩ (.int .i64 m)).alloc (.cells #[.int .i64 m, .string t] 76) := by
  go_enter Tryz.func79, Tryz.ntmps79
  go_wp2
  go_end0
  exact ⟨rfl, rfl⟩
end Go.Proofs.YtgdopepghmjopaaGreatDoor
namespace Go.Proofs.YtgdopepghmjopaaGreatDoor
open Go.RowKit Go.Shelf
end Go.Proofs.YtgdopepghmjopaaGreatDoor
namespace Go.Proofs.YtgdopepghmjopaaGreatDoor
open Go.RowKit
/-- a list of texts in memory -/
def Lies (b off : Nat) (w : World) (xs : List ByteArray) : Prop := ∀ (j : Nat) x, xs[j]? = some x → w.cell? ⟨b, off + j, none⟩ = some (.string x)
def cat (xs : List ByteArray) : List UInt8 := (xs.map (·.data.toList)).flatten
theorem cat_snoc (xs : List ByteArray) (k : Nat) (h : k < xs.length) : cat (xs.take (k + 1)) = cat (xs.take k) ++ xs[k].data.toList := by
  unfold cat
  rw [List.take_succ_eq_append_getElem h, List.map_append, List.flatten_append]
  simp
theorem cat_nil : cat [] = [] := rfl
set_option maxHeartbeats 1000000 in
set_option maxRecDepth 100000 in
/-- digest.CRC, of parts that lie in memory -/
theorem crc_any (ao : Option Addr) (b off cap : Nat) (xs : List ByteArray) (w : World) (hao : 0 < xs.length → ao = some ⟨b, off, none⟩) (hl : Lies b off w xs) (hlen : xs.length ≤ 9223372036854775807) (hs : ∀ x ∈ xs, x.size ≤ 9223372036854775807) (hT : Tab4 1 w) :
    Calls Tryz.prog 53 #[.slice ao xs.length cap] w fun e w' => e = .returned (.int .i64 (crcN 0 (cat xs) : Int)) ∧ w = w' := by
  have HT := hide hT
  have HL := hide hl
  have HS := hide hs
  clear hT hl hs
  go_enter Tryz.func53, Tryz.ntmps53
  go_wp2
  go_loop [3, 8] (fun v i => ∃ k : Nat, k ≤ xs.length ∧ i = .int .i64 k ∧ v = .int .u32 (crcN 0 (cat (xs.take k)) : Int)) (fun _ i => xs.length - (intOf i).toNat)
  case atStart => exact ⟨0, Nat.zero_le _, rfl, by rw [List.take_zero, cat_nil, crcN_nil]; rfl⟩
  case round =>
    obtain ⟨k, hk, rfl, rfl⟩ := hrel
    have hW4 : crcN 0 (cat (xs.take k)) < 4294967296 := crcN_lt _ (by omega)
    by_cases hlt : k < xs.length
    · obtain rfl := hao (by omega)
      clear hao
      have hc := HL.out k _ (List.getElem?_eq_getElem hlt)
      have hx := HS.out _ (List.getElem_mem hlt)
      have hS := cat_snoc xs k hlt
      have hN : crcN 0 (cat (xs.take (k + 1))) = crcN (crcN 0 (cat (xs.take k))) xs[k].data.toList := by rw [hS, crcN_append]
      generalize xs[k] = X at *
      generalize crcN 0 (cat (xs.take k)) = W at *
      have HN := hide hN
      clear hS hN
      have C : Hid (Calls Tryz.prog 77 #[.int .u32 (W : Int), .string X] w fun e w' => e = .returned (.int .u32 (crcN W X.data.toList : Int)) ∧ w = w') := lengthen_any W X hW4 hx w HT.out
      go_wp2_with (go_at_call 77; refine Calls.mono C.out ?_; rintro e w' ⟨rfl, rfl⟩)
      go_round
      case rel => exact ⟨k + 1, by omega, by go_num, by rw [HN.out]⟩
      case measure => simp [intOf]; omega
    · obtain rfl : k = xs.length := by omega
      rw [List.take_of_length_le (Nat.le_refl _)] at hW4 ⊢
      go_wp2
      go_ret
      exact ⟨rfl, rfl⟩
end Go.Proofs.YtgdopepghmjopaaGreatDoor
namespace Go.Proofs.YtgdopepghmjopaaGreatDoor
open Go.RowKit Go.Shelf
def nl : ByteArray := ⟨#[10]⟩
def sumFD (wd : ByteArray) (bx : Nat) : FD := ⟨wd, 1, 0, 4294967295, 78, 79, #[.pointer (some ⟨bx, 0, none⟩)], nl⟩
/-- the two blocks that sumTable makes -/
def sumW (wd : ByteArray) (sb : Nat) (w : World) : World := (w.alloc (.cells #[.pointer (some ⟨sb, 0, none⟩)] 50)).alloc (.cells (sumFD wd w.heap.size).cells.toArray 73)
theorem rangeAt_new (w : World) (cs : List Value) (t : TypeId) : (w.alloc (.cells cs.toArray t)).rangeAt w.heap.size 0 cs := fun j v hv => by
  rw [World.cell?_alloc_at _ _ _ _ rfl]
  simpa using hv
theorem sumW_size (wd : ByteArray) (sb : Nat) (w : World) : (sumW wd sb w).heap.size = w.heap.size + 2 := by unfold sumW; simp
theorem sumW_below (wd : ByteArray) (sb : Nat) (w : World) : Below w.heap.size w (sumW wd sb w) := by unfold sumW; exact ((Below.refl _ w).alloc (Nat.le_refl _) _).alloc (by simp) _
theorem sumW_tab (wd : ByteArray) (sb : Nat) (w : World) : TabAt (w.heap.size + 1) (sumW wd sb w) [sumFD wd w.heap.size] := fun i hi => by
  obtain rfl : i = 0 := by simpa using hi
  have := rangeAt_new (w.alloc (.cells #[.pointer (some ⟨sb, 0, none⟩)] 50)) (sumFD wd w.heap.size).cells 73
  simpa [sumW] using this
theorem sumW_box (wd : ByteArray) (sb : Nat) (w : World) : (sumW wd sb w).cell? ⟨w.heap.size, 0, none⟩ = some (.pointer (some ⟨sb, 0, none⟩)) := by
  unfold sumW; simp
set_option maxHeartbeats 2000000 in
set_option maxRecDepth 100000 in
theorem sumTable_any (sb : Nat) (wd : ByteArray) (w : World) :
    Calls Tryz.prog 54 #[.string wd, .pointer (some ⟨sb, 0, none⟩)] w fun e w' => e = .returned (.slice (some ⟨w.heap.size + 1, 0, none⟩) 1 1) ∧ w' = sumW wd sb w := by
  have hmf : ∀ (fn : Fn) (first cap : Array Value) (w : World), (Instr.makeFunc fn first cap).run Tryz.prog w = .ok (.func fn first cap) w := fun _ _ _ _ => rfl
  go_enter Tryz.func54, Tryz.ntmps54
  go_wp2_with fail
  go_ret
  exact ⟨rfl, rfl⟩
theorem lt_of_cell? {w : World} {b o : Nat} {v : Value} (h : w.cell? ⟨b, o, none⟩ = some v) : b < w.heap.size := by
  rcases Nat.lt_or_ge b w.heap.size with z | z
  · exact z
  · simp [World.cell?, Array.getElem?_eq_none z] at h
theorem Tab4.lt {g : Nat} {w : World} (h : Tab4 g w) : g < w.heap.size := lt_of_cell? (h 0 (by omega))
/-- a sum's word, its eight digits, a line feed -/
def sealL (wd : ByteArray) (n : Nat) : List UInt8 := wd.data.toList ++ hexL (be4 n) ++ [10]
theorem sealL_len (wd : ByteArray) (n : Nat) : (sealL wd n).length = wd.size + 9 := by
  unfold sealL; rw [List.length_append, List.length_append, hexL_len, size_data]; simp [be4]
theorem cat_one (x : ByteArray) : cat [x] = x.data.toList := by simp [cat]
/-- a sum's table prints the word, eight digits, a line feed -/
theorem sumTab_writes (wd : ByteArray) (sb : Nat) (n : Nat) (hn : n < 4294967296) (hwd : wd.size ≤ 1000) (w : World) (hsb : sb < w.heap.size) (hc : w.cell? ⟨sb, 0, none⟩ = some (.int .i64 (n : Int))) :
    Calls Tryz.prog 12 #[.slice (some ⟨w.heap.size + 1, 0, none⟩) 1 1] (sumW wd sb w) fun e w' => e = .returned (.string (strOf (sealL wd n))) ∧ Below (sumW wd sb w).heap.size (sumW wd sb w) w' := by
  have hs := sumW_size wd sb w
  have hb := sumW_below wd sb w
  refine (written_any (w.heap.size + 1) 1 [sumFD wd w.heap.size] (sumW wd sb w) (fun _ => n) (fun _ => ⟨#[]⟩) (fun _ => strOf (hexL (be4 n))) 8 (by omega) (by simp) (sumW_tab wd sb w) (by omega) ?_ ?_ ?_ ?_ ?_).mono ?_
  · intro i hi
    obtain rfl : i = 0 := by simpa using hi
    exact enters_of Tryz.func78 (by kernel_rfl) rfl
  · intro i hi
    obtain rfl : i = 0 := by simpa using hi
    intro w' hw
    have z := hw.size
    exact get_sumTable_0 w.heap.size sb n w' (by omega) (by omega) (by rw [hw.cell (by show w.heap.size < _; omega)]; exact sumW_box wd sb w) (by rw [hw.cell (by show sb < _; omega), hb.cell (by exact hsb)]; exact hc)
  · intro i hi
    obtain rfl : i = 0 := by simpa using hi
    intro w' hw
    exact print_sum n hn _ w'
  · intro i hi
    obtain rfl : i = 0 := by simpa using hi
    exact ⟨hwd, by show nl.size ≤ 1000; decide⟩
  · intro i
    rw [strOf_size, hexL_len]; simp [be4]
  · rintro e w' ⟨rfl, b⟩
    refine ⟨?_, b⟩
    rw [show wrL [sumFD wd w.heap.size] (fun _ => strOf (hexL (be4 n))) [sumFD wd w.heap.size].length = sealL wd n from rfl]
set_option maxHeartbeats 2000000 in
set_option maxRecDepth 100000 in
theorem sealed_any (tx wd : ByteArray) (w : World) (hs : tx.size ≤ 70368744177664) (hwd : wd.size ≤ 1000) (hT : Tab4 1 w) :
    Calls Tryz.prog 16 #[.string tx, .string wd] w fun e w' => e = .returned (.string (tx ++ strOf (sealL wd (crcN 0 tx.data.toList)))) ∧ Below w.heap.size w w' := by
  have hlt : crcN 0 tx.data.toList < 4294967296 := crcN_lt _ (by omega)
  obtain ⟨W0, hW0⟩ : ∃ W0, W0 = w.alloc (.cells #[.string tx] 9) := ⟨_, rfl⟩
  have b0 : Below w.heap.size w W0 := by rw [hW0]; exact (Below.refl _ w).alloc (Nat.le_refl _) _
  have C := hide (crc_any (some ⟨w.heap.size, 0, none⟩) w.heap.size 0 1 [tx] W0 (fun _ => rfl) (by
    intro j x hj
    obtain rfl : j = 0 := by have := (List.getElem?_eq_some_iff.1 hj).1; simpa using this
    simp at hj; subst hj; rw [hW0]; simp) (by simp) (by intro x hx; simp at hx; subst hx; omega) (hT.below b0 hT.lt))
  rw [cat_one] at C
  generalize crcN 0 tx.data.toList = c at *
  go_enter Tryz.func16, Tryz.ntmps16
  go_wp2_with fail
  rw [← hW0]
  refine Calls.mono C.out ?_
  rintro e w1 ⟨rfl, rfl⟩
  obtain ⟨W1, hW1⟩ : ∃ W1, W1 = W0.alloc (.cells #[.int .i64 (c : Int)] 3) := ⟨_, rfl⟩
  have b1 : Below w.heap.size w W1 := by rw [hW1]; exact b0.alloc b0.size _
  have T := hide (sumTable_any W0.heap.size wd W1)
  have S := hide (sumTab_writes wd W0.heap.size c hlt hwd W1 (by rw [hW1]; simp) (by rw [hW1]; simp))
  have B1 := hide b1
  clear b1 b0 C hW0 hT
  go_wp2_with fail
  rw [← hW1]
  clear hW1
  refine Calls.mono T.out ?_
  rintro e w2 ⟨rfl, rfl⟩
  go_wp2_with fail
  refine Calls.mono S.out ?_
  rintro e w3 ⟨rfl, b3⟩
  have B3 := hide (B1.out.trans (((sumW_below wd W0.heap.size W1).trans (b3.mono (sumW_below wd W0.heap.size W1).size)).mono B1.out.size))
  have hsz : ¬ 9223372036854775807 < tx.size + (strOf (sealL wd c)).size := by rw [strOf_size, sealL_len]; omega
  clear b3 S T
  go_wp2
  go_ret
  exact ⟨rfl, B3.out⟩
end Go.Proofs.YtgdopepghmjopaaGreatDoor
namespace Go.Proofs.YtgdopepghmjopaaGreatDoor
open Go.RowKit Go.Shelf
def sumWd : ByteArray := ⟨#[115, 117, 109, 32]⟩
/-- the whole paper: a title, the rows, the sum's line -/
def paperS (title : ByteArray) (l : List UInt8) : ByteArray := (title ++ strOf l) ++ strOf (sealL sumWd (crcN 0 (title ++ strOf l).data.toList))
end Go.Proofs.YtgdopepghmjopaaGreatDoor
namespace Go.Proofs.YtgdopepghmjopaaGreatDoor
open Go.RowKit Go.Shelf
def tabCells (ts : List FD) : List Value := (ts.map FD.cells).flatten
theorem tabCells_at : ∀ (ts : List FD) (i j : Nat) (h : i < ts.length), j < 7 → (tabCells ts)[i * 7 + j]? = ts[i].cells[j]?
  | f :: r, 0, j, _, hj => by
    show (f.cells ++ tabCells r)[0 * 7 + j]? = _
    rw [List.getElem?_append_left (by simp [FD.cells]; omega)]; simp
  | f :: r, i + 1, j, h, hj => by
    show (f.cells ++ tabCells r)[(i + 1) * 7 + j]? = _
    rw [List.getElem?_append_right (by simp [FD.cells]; omega), show (i + 1) * 7 + j - f.cells.length = i * 7 + j by simp [FD.cells]; omega]
    exact tabCells_at r i j (by simpa using h) hj
/-- the two blocks that a table's function makes: the box of its parameter, the rows -/
def tabW (pt : TypeId) (rb : Nat) (ts : List FD) (w : World) : World := (w.alloc (.cells #[.pointer (some ⟨rb, 0, none⟩)] pt)).alloc (.cells (tabCells ts).toArray 73)
theorem tabW_size (pt : TypeId) (rb : Nat) (ts : List FD) (w : World) : (tabW pt rb ts w).heap.size = w.heap.size + 2 := by unfold tabW; simp
theorem tabW_below (pt : TypeId) (rb : Nat) (ts : List FD) (w : World) : Below w.heap.size w (tabW pt rb ts w) := by unfold tabW; exact ((Below.refl _ w).alloc (Nat.le_refl _) _).alloc (by simp) _
theorem tabW_tab (pt : TypeId) (rb : Nat) (ts : List FD) (w : World) : TabAt (w.heap.size + 1) (tabW pt rb ts w) ts := fun i hi j v hv => by
  have := rangeAt_new (w.alloc (.cells #[.pointer (some ⟨rb, 0, none⟩)] pt)) (tabCells ts) 73
  have hj : j < 7 := by have := (List.getElem?_eq_some_iff.1 hv).1; simpa [FD.cells] using this
  have q := this (i * 7 + j) v (by rw [tabCells_at ts i j hi hj]; exact hv)
  simpa [tabW] using q
theorem tabW_box (pt : TypeId) (rb : Nat) (ts : List FD) (w : World) : (tabW pt rb ts w).cell? ⟨w.heap.size, 0, none⟩ = some (.pointer (some ⟨rb, 0, none⟩)) := by
  unfold tabW; simp
/-- digits of a number that an int holds -/
theorem decDigits_len : ∀ (k u : Nat), u < 10 ^ k → 0 < k → (Lib.decDigits u).length ≤ k
  | 0, _, _, h => by omega
  | k + 1, u, hu, _ => by
    rw [Lib.decDigits]
    split
    · simp
    · have : u / 10 < 10 ^ k := by rw [Nat.pow_succ] at hu; omega
      rcases Nat.eq_zero_or_pos k with h | h
      · subst h; simp at hu; omega
      · have := decDigits_len k (u / 10) this h
        simp; omega
theorem itoa_len (n : Int) (h0 : -9223372036854775808 ≤ n) (h1 : n ≤ 9223372036854775807) : (Lib.itoa n).length ≤ 20 := by
  unfold Lib.itoa
  split
  · have := decDigits_len 19 n.natAbs (by have : (10 : Nat) ^ 19 = 10000000000000000000 := rfl; omega) (by omega)
    simp; omega
  · have := decDigits_len 19 n.toNat (by have : (10 : Nat) ^ 19 = 10000000000000000000 := rfl; omega) (by omega)
    omega
end Go.Proofs.YtgdopepghmjopaaGreatDoor
namespace Go.Proofs.YtgdopepghmjopaaGreatDoor
open Go.RowKit Go.Shelf
def bxv (bx : Nat) : Array Value := #[.pointer (some ⟨bx, 0, none⟩)]
/-- a pointer's four numbers -/
def ptrV (c p e s : Int) : Nat → Int
  | 0 => c
  | 1 => p
  | 2 => e
  | _ => s
def ptrHi : Nat → Int
  | 0 => 999999
  | 1 => 999999
  | 2 => 9007199254740992
  | _ => 9007199254740992
def ptrOkI (c p e s : Int) (i : Nat) : Bool := inR (ptrV c p e s i) 0 (ptrHi i)
def ptrOk (c p e s : Int) : Bool := inR c 0 999999 && inR p 0 999999 && inR e 0 9007199254740992 && inR s 0 9007199254740992
theorem ptrOk_all (c p e s : Int) : allB 4 (ptrOkI c p e s) = ptrOk c p e s := by
  unfold allB ptrOk
  simp [List.range, List.range.loop, ptrOkI, ptrV, ptrHi, Bool.and_assoc]
def itS (n : Int) : ByteArray := strOf (Lib.itoa n)
/-- the rows of a pointer -/
def ptrL (c p e s : Int) : List UInt8 := [99, 117, 114, 32] ++ Lib.itoa c ++ [10] ++ ([112, 114, 101, 118, 32] ++ Lib.itoa p ++ [10]) ++ ([101, 112, 111, 99, 104, 32] ++ Lib.itoa e ++ [10]) ++ ([115, 101, 113, 32] ++ Lib.itoa s ++ [10])
/-- the record of a pointer, in memory -/
def PtrAt (w : World) (rb : Nat) (c p e s : Int) : Prop := w.cell? ⟨rb, 0, none⟩ = some (.int .i64 c) ∧ w.cell? ⟨rb, 1, none⟩ = some (.int .i64 p) ∧ w.cell? ⟨rb, 2, none⟩ = some (.int .i64 e) ∧ w.cell? ⟨rb, 3, none⟩ = some (.int .i64 s)
def I64 (n : Int) : Prop := -9223372036854775808 ≤ n ∧ n ≤ 9223372036854775807
def Pow (w : World) : Prop := Lib.TabIs Tryz.prog w "internal/strconv.uint64pow10" .u64 Lib.pow10Tab
theorem Pow.below {w w' : World} (h : Pow w) (hb : Below w.heap.size w w') : Pow w' := Lib.tabBelow_of_tabIs h w' hb
theorem ptrV_i64 {c p e s : Int} (hc : I64 c) (hp : I64 p) (he : I64 e) (hs : I64 s) (i : Nat) : I64 (ptrV c p e s i) := by
  match i with
  | 0 => exact hc
  | 1 => exact hp
  | 2 => exact he
  | _ + 3 => exact hs
def ptrTitle : ByteArray := ⟨#[103, 114, 97, 110, 97, 114, 121, 32, 108, 97, 116, 101, 115, 116, 32, 49, 10]⟩
def ptrS (c p e s : Int) : ByteArray := if ptrOk c p e s then paperS ptrTitle (ptrL c p e s) else ⟨#[]⟩
def ptrE (c p e s : Int) : Int := if ptrOk c p e s then 0 else 42
end Go.Proofs.YtgdopepghmjopaaGreatDoor
namespace Go.Proofs.YtgdopepghmjopaaGreatDoor
open Go.RowKit Go.Shelf
def bl : ByteArray := ⟨#[32]⟩
/-- a note's four numbers -/
def noteV (c p e s : Int) : Nat → Int
  | 0 => c
  | 1 => p
  | 2 => e
  | _ => s
def noteLo : Nat → Int
  | 0 => 1
  | _ => 0
def noteHi : Nat → Int
  | 0 => 4
  | 1 => 9007199254740992
  | 2 => 9007199254740992
  | _ => 4294967295
def noteOkI (c p e s : Int) (i : Nat) : Bool := inR (noteV c p e s i) (noteLo i) (noteHi i)
def noteOk (c p e s : Int) : Bool := inR c 1 4 && inR p 0 9007199254740992 && inR e 0 9007199254740992 && inR s 0 4294967295
theorem noteOk_all (c p e s : Int) : allB 4 (noteOkI c p e s) = noteOk c p e s := by
  unfold allB noteOk
  simp [List.range, List.range.loop, noteOkI, noteV, noteLo, noteHi, Bool.and_assoc]
/-- what a note's fields print as -/
def noteO (c p e s : Int) : Nat → ByteArray
  | 0 => itS c
  | 1 => itS p
  | 2 => itS e
  | _ => strOf (hexL (be4 s.toNat))
/-- a note's line without its sum -/
def noteL (c p e s : Int) : List UInt8 := [] ++ Lib.itoa c ++ [32] ++ ([] ++ Lib.itoa p ++ [32]) ++ ([] ++ Lib.itoa e ++ [32]) ++ ([] ++ hexL (be4 s.toNat) ++ [32])
/-- the record of a note, in memory -/
def NoteAt (w : World) (rb : Nat) (c p e s : Int) : Prop := w.cell? ⟨rb, 0, none⟩ = some (.int .i64 c) ∧ w.cell? ⟨rb, 1, none⟩ = some (.int .i64 p) ∧ w.cell? ⟨rb, 2, none⟩ = some (.int .i64 e) ∧ w.cell? ⟨rb, 3, none⟩ = some (.int .i64 s)
theorem noteOk_sum {c p e s : Int} (h : noteOk c p e s = true) : ∃ n : Nat, n < 4294967296 ∧ s = (n : Int) := by
  unfold noteOk inR at h
  simp only [Bool.and_eq_true, decide_eq_true_eq] at h
  exact ⟨s.toNat, by omega, by omega⟩
theorem noteO_len (c p e s : Int) (hc : I64 c) (hp : I64 p) (he : I64 e) : ∀ i, (noteO c p e s i).size ≤ 20
  | 0 => by show (itS c).size ≤ 20; unfold itS; rw [strOf_size]; exact itoa_len c hc.1 hc.2
  | 1 => by show (itS p).size ≤ 20; unfold itS; rw [strOf_size]; exact itoa_len p hp.1 hp.2
  | 2 => by show (itS e).size ≤ 20; unfold itS; rw [strOf_size]; exact itoa_len e he.1 he.2
  | _ + 3 => by show (strOf (hexL (be4 s.toNat))).size ≤ 20; rw [strOf_size, hexL_len]; simp [be4]
/-- a note's line -/
def noteS (c p e s : Int) : ByteArray := if noteOk c p e s then strOf (noteL c p e s) ++ strOf (sealL ⟨#[]⟩ (crcN 0 (noteL c p e s))) else ⟨#[]⟩
def noteE (c p e s : Int) : Int := if noteOk c p e s then 0 else 42
end Go.Proofs.YtgdopepghmjopaaGreatDoor
