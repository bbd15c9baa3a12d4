import Derived.Test.YteiiolilpemimaaDoorGAaBeg
import Derived.Lib.SliceRun
import Derived.WalkKit
namespace Go.Proofs.YteiiolilpemimaaDoor.Cn
open Go.RowKit
set_option maxHeartbeats 8000000 in
set_option maxRecDepth 100000 in
set_option linter.unusedSimpArgs false in
set_option linter.unusedVariables false in
theorem clone_any {w : World} {base : Nat} {v : Value} {L : List Int} (h : w.ownsRow base 3 1 v L.length (ints L)) (hl : L.length ≤ 1000000) :
    Calls Tryd.prog 38 #[v] w fun e w' => ∃ v', e = .returned v' ∧ w'.ownsRow w.heap.size 3 1 v' L.length (ints L) ∧ Below w.heap.size w w' := by
  have qT : ∀ (w : World) (a : Option Addr) (n c n' c' : Nat), (binOp .eql 26 (.slice a n c) (.slice none n' c')).run Tryd.prog w = .ok (.bool a.isNone) w := fun w a n c n' c' => Lib.run_eql_slice_nil w _ _ a n c n' c' Tryd.underlying26
  rcases h.2 with ⟨rfl, hz⟩ | ⟨g, cap, cur, rfl, hb, hg, hr⟩
  · have hL : L = [] := List.length_eq_zero_iff.1 hz
    subst hL
    clear h hz
    go_enter Tryd.func38, Tryd.ntmps38
    go_wp2_with fail
    go_ret
    exact ⟨_, rfl, World.ownsRow_nil _ _ _ _, Below.refl _ _⟩
  · have H := hide h
    obtain ⟨n, hn⟩ : ∃ n, n = L.length := ⟨_, rfl⟩
    rw [← hn] at hl H
    have HN := hide hn
    rw [← hn]
    obtain ⟨i0, hi, hz0, hz1, hz2⟩ := mg_parts int_infos
    obtain ⟨W1, hW1⟩ : ∃ W1, W1 = w.alloc (.cells #[] 3) := ⟨_, rfl⟩
    have b1 : Hid (Below w.heap.size w W1) := by rw [hW1]; exact (Below.refl _ w).alloc (Nat.le_refl _) _
    have o1 : Hid (W1.ownsRow w.heap.size 3 1 (.slice (some ⟨w.heap.size, 0, none⟩) 0 0) 0 []) := by
      rw [hW1]
      exact World.ownsRow_lit w #[] 0 (Nat.le_refl _) (Nat.zero_le _) rfl
    have H1 : Hid (W1.ownsRow base 3 1 (.slice (some ⟨g, 0, none⟩) n cap) n (ints L)) := own_below H.out b1.out
    clear h hr hn hg
    go_enter Tryd.func38, Tryd.ntmps38
    go_upto_region 3 with fail
    replace hW1 := hide hW1
    have CC : Hid (∀ j u, (ints L)[j]? = some u → W1.cell? ((⟨g, 0, none⟩ : Addr).add j) = some u) := fun j u hj => by
      have h1 := (List.getElem?_eq_some_iff.1 hj).1
      rw [ints_len] at h1
      rw [Addr.add_mid, Nat.zero_add, H1.out.cellAt j (by have := HN.out; omega)]
      exact hj
    have LL : Hid ((ints L).length = n * 1) := by rw [ints_len, Nat.mul_one]; exact HN.out.symm
    go_wp2_with (at_builtin; rw [← hW1.out]; refine wpList_append_own_at _ rfl _ _ 26 rfl w.heap.size 3 i0 _ 1 8 Tryd.underlying26 hi hz0 hz1 hz2 rfl (by decide) _ _ _ rfl o1.out ⟨g, 0, none⟩ n cap (ints L) rfl LL.out CC.out (ints_one _) (by unfold maxLen; omega) (by omega) b1.out.size ?_; intro v' w' o2 g2 _ _; clear hi hz0 hz1 hz2)
    go_ret
    refine ⟨v', rfl, ?_, ?_⟩
    · rw [Nat.zero_add, List.nil_append] at o2
      exact o2
    · have k : Kp w w' non := (Kp.of_below b1.out non).trans (Kp.of_grown g2) (fun k hk => Or.inr (Nat.le_of_eq (Option.some.inj (show some k = some w.heap.size from hk)).symm))
      exact k.below
end Go.Proofs.YteiiolilpemimaaDoor.Cn
namespace Go.Proofs.YteiiolilpemimaaDoor.Cn
open Go.RowKit
/-- a report, with its lists -/
structure Rp where
  job : Int
  ver : Int
  out : Int
  hs : List Int
  ms : List Int
def rpA (p : Rp) (h m : Value) : Array Value := #[.int .i64 p.job, .int .i64 p.ver, .int .i64 p.out, h, m]
def rp0 : Rp := ⟨0, 0, 0, [], []⟩
def Au.last (v : Au) : Rp := ⟨v.jb, v.jv, v.jo, v.dl, v.ml⟩
theorem rp_info : (Tryd.prog.info? 49).map (·.size) = some 5 := by kernel_rfl
theorem rp_one (p : Rp) {h m : Value} (h1 : ∃ a n c, h = .slice a n c) (h2 : ∃ a n c, m = .slice a n c) : (rpA p h m).all (·.oneCell') = true := by
  obtain ⟨a, n, c, rfl⟩ := h1
  obtain ⟨a', n', c', rfl⟩ := h2
  simp [rpA, Value.oneCell']
theorem own_mono {w : World} {b0 b1 e sz n : Nat} {v : Value} {xs : List Value} (h : w.ownsRow b1 e sz v n xs) (hb : b0 ≤ b1) : w.ownsRow b0 e sz v n xs := own_base h hb
theorem getL {w w' : World} {R B : Nat} {o : Obj} (hk : Kp w w' (fun k => k = R)) (h : w.heap[B]? = some o) (hne : B ≠ R) : w'.heap[B]? = some o := (hk.block _ (blk_lt h) hne).trans h
set_option maxHeartbeats 8000000 in
set_option maxRecDepth 100000 in
set_option linter.unusedSimpArgs false in
set_option linter.unusedVariables false in
theorem Report_no {w : World} {A H hc M : Nat} {v : Au} (h : AuAt w A H hc M v) (hn : 0 < v.hs.length) (hj : v.last.job = 0) :
    Calls Tryd.prog 17 #[.pointer (some ⟨A, 0, none⟩)] w fun e w' => e = .returned (.tuple #[.agg (rpA rp0 (.slice none 0 0) (.slice none 0 0)), .int .i64 151]) ∧ Below w.heap.size w w' := by
  obtain ⟨W0, hW0⟩ : ∃ W0, W0 = w.alloc (.cells (rpA rp0 (.slice none 0 0) (.slice none 0 0)) 49) := ⟨_, rfl⟩
  have b0 : Hid (Below w.heap.size w W0) := by rw [hW0]; exact (Below.refl _ w).alloc (Nat.le_refl _) _
  have m0 : Hid (W0.heap[w.heap.size]? = some (.cells (rpA rp0 (.slice none 0 0) (.slice none 0 0)) 49)) := by rw [hW0]; exact heap_last w _
  have NO := hide (none_a (h.kp0 (Kp.of_below b0.out non)) hn)
  have c6 : W0.cell? ⟨A, 8, none⟩ = some (.int .i64 v.last.job) := (h.kp0 (Kp.of_below b0.out non)).cells.2.2.2.2.2.2.2.2
  rw [hj] at c6
  clear h hj hn
  go_enter Tryd.func17, Tryd.ntmps17
  go_upto_region 1 with fail
  rw [show (#[.int .i64 0, .int .i64 0, .int .i64 0, .slice none 0 0, .slice none 0 0] : Array Value) = rpA rp0 (.slice none 0 0) (.slice none 0 0) from rfl]
  rw [← hW0]
  clear hW0
  go_wp2_with fail
  refine Calls.mono NO.out ?_
  rintro e W1 ⟨rfl, rfl⟩
  go_wp2_with (first | refine wpList_blR rfl 49 #[] rfl (rpA rp0 (.slice none 0 0) (.slice none 0 0)) (by kernel_rfl) ?_ | refine wpList_stR rfl 49 (.tmp 2) (.tmp 16) rfl w.heap.size rfl (rpA rp0 (.slice none 0 0) (.slice none 0 0)) _ rfl _ m0.out rp_info rfl (by simp [rpA, Value.oneCell']) ?_)
  refine bodyPost_ret (v := .tuple #[.agg (rpA rp0 (.slice none 0 0) (.slice none 0 0)), .int .i64 151]) (res_row2 Tryd.results17 _ _ _ w.heap.size rfl _ rfl _ (setRow_heap _ _ _ _ _ _ m0.out) Tryd.underlying49 rp_info) rfl ⟨rfl, ?_⟩
  exact ((Kp.of_below b0.out non).row (Or.inr (Nat.le_refl _)) _).below
theorem rp_set3 {w : World} {b : Nat} {p : Rp} {h1 m1 : Value} (h : w.heap[b]? = some (.cells (rpA p h1 m1) 49)) (v : Value) : (w.setCell ⟨b, 3, none⟩ v).heap[b]? = some (.cells (rpA p v m1) 49) := set_row h 3 v
theorem rp_set4 {w : World} {b : Nat} {p : Rp} {h1 m1 : Value} (h : w.heap[b]? = some (.cells (rpA p h1 m1) 49)) (v : Value) : (w.setCell ⟨b, 4, none⟩ v).heap[b]? = some (.cells (rpA p h1 v) 49) := set_row h 4 v
theorem AuAt.rep {w : World} {A H hc M : Nat} {v : Au} (h : AuAt w A H hc M v) : w.rangeAt A 8 (rpA v.last v.dv v.mv).toList := by
  intro j u hj
  rw [cell_row h.blk]
  have hl := (List.getElem?_eq_some_iff.1 hj).1
  have : j = 0 ∨ j = 1 ∨ j = 2 ∨ j = 3 ∨ j = 4 := by simp [rpA] at hl; omega
  rcases this with rfl | rfl | rfl | rfl | rfl <;> exact hj
set_option maxHeartbeats 8000000 in
set_option maxRecDepth 100000 in
set_option linter.unusedSimpArgs false in
set_option linter.unusedVariables false in
theorem Report_yes {w : World} {A H hc M : Nat} {v : Au} (h : AuAt w A H hc M v) (hn : 0 < v.hs.length) (hj : v.last.job ≠ 0) (hl1 : v.last.hs.length ≤ 1000000) (hl2 : v.last.ms.length ≤ 1000000) :
    Calls Tryd.prog 17 #[.pointer (some ⟨A, 0, none⟩)] w fun e w' => ∃ nh nm, e = .returned (.tuple #[.agg (rpA v.last nh nm), .int .i64 0]) ∧ w'.ownsRow w.heap.size 3 1 nh v.last.hs.length (ints v.last.hs) ∧ w'.ownsRow w.heap.size 3 1 nm v.last.ms.length (ints v.last.ms) ∧ Below w.heap.size w w' := by
  obtain ⟨B, hB⟩ : ∃ B, B = w.heap.size := ⟨_, rfl⟩
  obtain ⟨W0, hW0⟩ : ∃ W0, W0 = w.alloc (.cells (rpA rp0 (.slice none 0 0) (.slice none 0 0)) 49) := ⟨_, rfl⟩
  have b0 : Hid (Below w.heap.size w W0) := by rw [hW0]; exact (Below.refl _ w).alloc (Nat.le_refl _) _
  have m0 : Hid (W0.heap[B]? = some (.cells (rpA rp0 (.slice none 0 0) (.slice none 0 0)) 49)) := by rw [hW0, hB]; exact heap_last w _
  have s0 : W0.heap.size = B + 1 := by rw [hW0, hB]; exact World.size_alloc _ _
  have NO := hide (none_a (h.kp0 (Kp.of_below b0.out non)) hn)
  have h0 := h.kp0 (Kp.of_below b0.out non)
  obtain ⟨hv, hhv⟩ : ∃ hv, hv = v.dv := ⟨_, rfl⟩
  obtain ⟨mv, hmv⟩ : ∃ mv, mv = v.mv := ⟨_, rfl⟩
  have c6 : W0.cell? ⟨A, 8, none⟩ = some (.int .i64 v.last.job) := h0.cells.2.2.2.2.2.2.2.2
  have hrep : W0.rangeAt A 8 (rpA v.last hv mv).toList := by rw [hhv, hmv]; exact h0.rep
  have hsO : W0.ownsRow 0 3 1 hv v.last.hs.length (ints v.last.hs) := by rw [hhv]; exact h0.df
  have msO : W0.ownsRow 0 3 1 mv v.last.ms.length (ints v.last.ms) := by rw [hmv]; exact h0.ms
  have q6 : (v.last.job == 0) = false := by simpa using hj
  have HR := hide hrep
  have HB := hide hB
  obtain ⟨W1, hW1⟩ : ∃ W1, W1 = (W0.alloc (.cells #[.int .i64 0, .int .i64 0, .int .i64 0, .slice none 0 0, .slice none 0 0] 49)).setRow W0.heap.size (rpA v.last hv mv) := ⟨_, rfl⟩
  have b1 : Below W0.heap.size W0 W1 := by rw [hW1]; exact (((Kp.refl W0 non).alloc _).row (Or.inr (Nat.le_refl _)) _).below
  have B1 := hide b1
  obtain ⟨R, hR⟩ : ∃ R, R = W0.heap.size := ⟨_, rfl⟩
  have m1 : Hid (W1.heap[R]? = some (.cells (rpA v.last hv mv) 49)) := by rw [hW1, hR]; exact setRow_heap _ _ _ _ _ _ (heap_last W0 _)
  have HRe : Hid (R = B + 1) := by rw [hR, s0]; rfl
  have s1 : Hid (W1.heap.size = R + 1) := by rw [hW1, hR]; simp only [World.setRow, Array.size_modify]; exact World.size_alloc _ _
  have O1 : Hid (W1.ownsRow 0 3 1 hv v.last.hs.length (ints v.last.hs)) := own_below hsO b1
  have O2 : Hid (W1.ownsRow 0 3 1 mv v.last.ms.length (ints v.last.ms)) := own_below msO b1
  have M1 : Hid (W1.heap[B]? = some (.cells (rpA rp0 (.slice none 0 0) (.slice none 0 0)) 49)) := (b1.block _ (blk_lt m0.out)).trans m0.out
  have hvs : ∃ a n cc, hv = .slice a n cc := by obtain ⟨a, cc, e⟩ := own_sl hsO; exact ⟨_, _, _, e⟩
  have mvs : ∃ a n cc, mv = .slice a n cc := by obtain ⟨a, cc, e⟩ := own_sl msO; exact ⟨_, _, _, e⟩
  have VS := hide (And.intro hvs mvs)
  have ONE := hide (rp_one v.last hvs mvs)
  have D1 : Below W1.heap.size W1 W1.drew := ⟨rfl, rfl, rfl, Nat.le_refl _, fun _ _ => rfl⟩
  replace hW1 := hide hW1
  rw [← hB]
  have HR2 := hide hR
  clear h h0 hj b1 hR s0 hvs mvs hrep hsO msO hhv hmv hn
  generalize v.last = la at *
  go_enter Tryd.func17, Tryd.ntmps17
  go_upto_region 1 with fail
  rw [show (#[.int .i64 0, .int .i64 0, .int .i64 0, .slice none 0 0, .slice none 0 0] : Array Value) = rpA rp0 (.slice none 0 0) (.slice none 0 0) from rfl]
  rw [← hW0, ← HB.out]
  clear hW0 hB
  go_wp2_with fail
  refine Calls.mono NO.out ?_
  rintro e Wx ⟨rfl, rfl⟩
  clear NO
  go_upto_region 6 with (first | refine wpList_load_mid rfl 49 (.tmp 19) rfl A 8 rfl (rpA la hv mv).toList _ HR.out Tryd.underlying49 rfl rp_info ?_ | refine wpList_stR rfl 49 (.tmp 4) (.tmp 20) rfl W0.heap.size rfl (rpA la hv mv) #[.int .i64 0, .int .i64 0, .int .i64 0, .slice none 0 0, .slice none 0 0] rfl _ (heap_last W0 _) rp_info rfl ONE.out ?_)
  rw [← hW1.out, ← HR2.out]
  clear hW1 HR2 c6 q6 HR
  have y4 : W1.cell? ⟨R, 3, none⟩ = some hv := by rw [cell_row m1.out]; rfl
  have y5 : W1.cell? ⟨R, 4, none⟩ = some mv := by rw [cell_row m1.out]; rfl
  obtain ⟨⟨ha, hnn, hc, rfl⟩, ⟨ma, mn, mc, rfl⟩⟩ := VS.out
  have C1 := hide (clone_any (own_below O1.out D1) hl1)
  have FIN : Hid (∀ (W2 W3 : World) (nh nm : Value), W2.ownsRow W1.heap.size 3 1 nh la.hs.length (ints la.hs) → Below W1.heap.size W1 W2 → W3.ownsRow W2.heap.size 3 1 nm la.ms.length (ints la.ms) → Below W2.heap.size W2 W3 → W3.heap[R]? = some (.cells (rpA la (.slice ha hnn hc) (.slice ma mn mc)) 49) ∧ W3.heap[B]? = some (.cells (rpA rp0 (.slice none 0 0) (.slice none 0 0)) 49) ∧ W3.ownsRow (R + 1) 3 1 nh la.hs.length (ints la.hs) ∧ W3.ownsRow (R + 1) 3 1 nm la.ms.length (ints la.ms) ∧ Kp w W3 non) := fun W2 W3 nh nm h1 h2 h3 h4 => by
    refine ⟨(h4.block _ (by have := h2.size; have := blk_lt m1.out; omega)).trans ((h2.block _ (blk_lt m1.out)).trans m1.out), (h4.block _ (by have := h2.size; have := blk_lt M1.out; omega)).trans ((h2.block _ (blk_lt M1.out)).trans M1.out), by rw [← s1.out]; exact own_below h1 h4, own_mono h3 (by rw [← s1.out]; exact h2.size), ?_⟩
    exact (((Kp.of_below b0.out non).trans (Kp.of_below B1.out non) (fun _ f => f.elim)).trans (Kp.of_below h2 non) (fun _ f => f.elim)).trans (Kp.of_below h4 non) (fun _ f => f.elim)
  refine wp_region_held_drew (S := fun _ => True) (by kernel_rfl) trivial (fun hHeld => ?_)
  refine wpAnyH_take (i := 0) (v := (.pointer (some ⟨R, 3, none⟩))) rfl (by kernel_rfl) (by kernel_rfl) (by kernel_rfl) (fun _ _ _ h => h) (Or.inl ⟨by kernel_rfl, ?_⟩) (by assumption) ?_
  · intro w' hSw
    (try dsimp only at hSw)
    go_simp
  (try simp only [Act.put, List.getElem_toArray, List.getElem_cons_zero, List.getElem_cons_succ, List.setIfInBounds_toArray, List.set_cons_zero, List.set_cons_succ])
  refine wpAnyH_take (i := 3) (v := (.pointer (some ⟨R, 4, none⟩))) rfl (by kernel_rfl) (by kernel_rfl) (by kernel_rfl) (fun _ _ _ h => h) (Or.inl ⟨by kernel_rfl, ?_⟩) (by assumption) ?_
  · intro w' hSw
    (try dsimp only at hSw)
    go_simp
  (try simp only [Act.put, List.getElem_toArray, List.getElem_cons_zero, List.getElem_cons_succ, List.setIfInBounds_toArray, List.set_cons_zero, List.set_cons_succ])
  refine wpAnyH_ready (rs := [1, 4]) (by kernel_rfl) (by simp) ?_
  refine AllReadyH.cons rfl (fun K hK => ?_) (AllReadyH.cons rfl (fun K hK => ?_) AllReadyH.nil)
  · go_simp
    refine hK.out _ _ (trivial) (fun hHeld => ?_)
    clear hK
    (try simp only [Act.put, List.setIfInBounds_toArray, List.set_cons_zero, List.set_cons_succ])
    refine wpAnyH_ready (rs := [2, 4]) (by kernel_rfl) (by simp) ?_
    refine AllReadyH.cons rfl (fun K hK => ?_) (AllReadyH.cons rfl (fun K hK => ?_) AllReadyH.nil)
    · go_simp
      refine Calls.mono C1.out ?_
      rintro e W2 ⟨nh, rfl, o1, hb⟩
      have BB2 := hide (D1.trans hb)
      have o1 := hide o1
      clear hb
      refine hK.out _ _ (trivial) (fun hHeld => ?_)
      clear hK
      (try simp only [Act.put, List.setIfInBounds_toArray, List.set_cons_zero, List.set_cons_succ])
      have yy : W2.cell? ⟨R, 4, none⟩ = some (.slice ma mn mc) := ((Kp.of_below BB2.out non).cell (blk_lt m1.out) (fun f => f)).trans y5
      refine wpAnyH_ready (rs := [4]) (by kernel_rfl) (by simp) ?_
      refine AllReadyH.cons rfl (fun K hK => ?_) AllReadyH.nil
      go_simp
      clear yy
      refine hK.out _ _ (trivial) (fun hHeld => ?_)
      clear hK
      (try simp only [Act.put, List.setIfInBounds_toArray, List.set_cons_zero, List.set_cons_succ])
      have C2 := hide (clone_any (own_below O2.out BB2.out) hl2)
      refine wpAnyH_take (i := 6) (v := (.pointer (some ⟨R, 3, none⟩))) rfl (by kernel_rfl) (by kernel_rfl) (by kernel_rfl) (fun _ _ _ h => h) (Or.inl ⟨by kernel_rfl, ?_⟩) (by assumption) ?_
      · intro w' hSw
        (try dsimp only at hSw)
        go_simp
      (try simp only [Act.put, List.getElem_toArray, List.getElem_cons_zero, List.getElem_cons_succ, List.setIfInBounds_toArray, List.set_cons_zero, List.set_cons_succ])
      refine wpAnyH_ready (rs := [5]) (by kernel_rfl) (by simp) ?_
      refine AllReadyH.cons rfl (fun K hK => ?_) AllReadyH.nil
      go_simp
      refine Calls.mono C2.out ?_
      rintro e W3 ⟨nm, rfl, o2, hb⟩
      have F := hide (FIN.out W2 W3 nh nm o1.out BB2.out o2 hb)
      clear hb o2 C2 C1
      obtain ⟨na, nc, rfl⟩ := own_sl F.out.2.2.1
      obtain ⟨ka, kc, rfl⟩ := own_sl F.out.2.2.2.1
      have z4 : W3.frozen? ⟨R, 3, none⟩ = false := fz_row F.out.1 3
      have x4 : W3.cell? ⟨R, 3, none⟩ = some (.slice ha hnn hc) := by rw [cell_row F.out.1]; rfl
      obtain ⟨W4, hW4⟩ : ∃ W4, W4 = W3.setCell ⟨R, 3, none⟩ (.slice na la.hs.length nc) := ⟨_, rfl⟩
      have f4 : W4.heap[R]? = some (.cells (rpA la (.slice na la.hs.length nc) (.slice ma mn mc)) 49) := by rw [hW4]; exact rp_set3 F.out.1 _
      obtain ⟨W5, hW5⟩ : ∃ W5, W5 = W4.setCell ⟨R, 4, none⟩ (.slice ka la.ms.length kc) := ⟨_, rfl⟩
      have f5 : Hid (W5.heap[R]? = some (.cells (rpA la (.slice na la.hs.length nc) (.slice ka la.ms.length kc)) 49)) := by rw [hW5]; exact rp_set4 f4 _
      have k5 : Hid (Kp W3 W5 (fun k => k = R)) := by rw [hW5, hW4]; exact ((Kp.refl W3 (fun k => k = R)).set (Or.inl rfl) _ _).set (Or.inl rfl) _ _
      have z5 : W4.frozen? ⟨R, 4, none⟩ = false := fz_row f4 4
      have x5 : W4.cell? ⟨R, 4, none⟩ = some (.slice ma mn mc) := by rw [cell_row f4]; rfl
      replace hW4 := hide hW4
      replace hW5 := hide hW5
      clear f4
      refine hK.out _ _ (trivial) (fun hHeld => ?_)
      clear hK
      (try simp only [Act.put, List.setIfInBounds_toArray, List.set_cons_zero, List.set_cons_succ])
      refine wpAnyH_ready (rs := [7]) (by kernel_rfl) (by simp) ?_
      refine AllReadyH.cons rfl (fun K hK => ?_) AllReadyH.nil
      go_simp
      rw [← hW4.out]
      clear hW4 z4 x4
      refine hK.out _ _ (trivial) (fun hHeld => ?_)
      clear hK
      (try simp only [Act.put, List.setIfInBounds_toArray, List.set_cons_zero, List.set_cons_succ])
      refine wpAnyH_take (i := 8) (v := (.pointer (some ⟨R, 4, none⟩))) rfl (by kernel_rfl) (by kernel_rfl) (by kernel_rfl) (fun _ _ _ h => h) (Or.inl ⟨by kernel_rfl, ?_⟩) (by assumption) ?_
      · intro w' hSw
        (try dsimp only at hSw)
        go_simp
      (try simp only [Act.put, List.getElem_toArray, List.getElem_cons_zero, List.getElem_cons_succ, List.setIfInBounds_toArray, List.set_cons_zero, List.set_cons_succ])
      refine wpAnyH_ready (rs := [9]) (by kernel_rfl) (by simp) ?_
      refine AllReadyH.cons rfl (fun K hK => ?_) AllReadyH.nil
      go_simp
      rw [← hW5.out]
      clear hW5 z5 x5
      refine hK.out _ _ (trivial) (fun hHeld => ?_)
      clear hK
      (try simp only [Act.put, List.setIfInBounds_toArray, List.set_cons_zero, List.set_cons_succ])
      refine wpAnyH_done (by kernel_rfl) ?_ _
      have mB : Hid (W5.heap[B]? = some (.cells (rpA rp0 (.slice none 0 0) (.slice none 0 0)) 49)) := getL k5.out F.out.2.1 (by have := HRe.out; omega)
      go_wp2_with (first | refine wpList_ldR rfl 49 (.tmp 4) rfl R rfl _ _ f5.out Tryd.underlying49 rp_info ?_ | refine wpList_stR rfl 49 (.tmp 2) (.tmp 29) rfl B rfl (rpA la (.slice na la.hs.length nc) (.slice ka la.ms.length kc)) _ rfl _ mB.out rp_info rfl (by simp [rpA, Value.oneCell']) ?_)
      have kr : Kp W3 (W5.setRow B (rpA la (.slice na la.hs.length nc) (.slice ka la.ms.length kc))) (fun k => k = R ∨ k = B) := (k5.out.mono (T := fun k => k = R ∨ k = B) (fun k e => Or.inl e)).row (b := B) (Or.inl (Or.inr rfl)) _
      refine bodyPost_ret (v := .tuple #[.agg (rpA la (.slice na la.hs.length nc) (.slice ka la.ms.length kc)), .int .i64 0]) (res_row2 Tryd.results17 _ _ _ B rfl _ rfl _ (setRow_heap _ _ _ _ _ _ mB.out) Tryd.underlying49 rp_info) rfl ⟨_, _, rfl, ?_, ?_, ?_⟩
      · refine own_mono (own_kp F.out.2.2.1 kr (fun k hk e => ?_)) (by have := HRe.out; omega)
        have := own_ge F.out.2.2.1 hk
        have := HRe.out
        omega
      · refine own_mono (own_kp F.out.2.2.2.1 kr (fun k hk e => ?_)) (by have := HRe.out; omega)
        have := own_ge F.out.2.2.2.1 hk
        have := HRe.out
        omega
      · have := (F.out.2.2.2.2.trans kr (fun k e => Or.inr (by have := HRe.out; have := HB.out; omega))).below
        rwa [← HB.out] at this
    · go_simp
      refine hK.out _ _ (trivial) (fun hHeld => ?_)
      clear hK
      (try simp only [Act.put, List.setIfInBounds_toArray, List.set_cons_zero, List.set_cons_succ])
      refine wpAnyH_ready (rs := [2]) (by kernel_rfl) (by simp) ?_
      refine AllReadyH.cons rfl (fun K hK => ?_) AllReadyH.nil
      go_simp
      refine Calls.mono C1.out ?_
      rintro e W2 ⟨nh, rfl, o1, hb⟩
      have BB2 := hide (D1.trans hb)
      have o1 := hide o1
      clear hb
      refine hK.out _ _ (trivial) (fun hHeld => ?_)
      clear hK
      (try simp only [Act.put, List.setIfInBounds_toArray, List.set_cons_zero, List.set_cons_succ])
      have C2 := hide (clone_any (own_below O2.out BB2.out) hl2)
      refine wpAnyH_take (i := 6) (v := (.pointer (some ⟨R, 3, none⟩))) rfl (by kernel_rfl) (by kernel_rfl) (by kernel_rfl) (fun _ _ _ h => h) (Or.inl ⟨by kernel_rfl, ?_⟩) (by assumption) ?_
      · intro w' hSw
        (try dsimp only at hSw)
        go_simp
      (try simp only [Act.put, List.getElem_toArray, List.getElem_cons_zero, List.getElem_cons_succ, List.setIfInBounds_toArray, List.set_cons_zero, List.set_cons_succ])
      refine wpAnyH_ready (rs := [5]) (by kernel_rfl) (by simp) ?_
      refine AllReadyH.cons rfl (fun K hK => ?_) AllReadyH.nil
      go_simp
      refine Calls.mono C2.out ?_
      rintro e W3 ⟨nm, rfl, o2, hb⟩
      have F := hide (FIN.out W2 W3 nh nm o1.out BB2.out o2 hb)
      clear hb o2 C2 C1
      obtain ⟨na, nc, rfl⟩ := own_sl F.out.2.2.1
      obtain ⟨ka, kc, rfl⟩ := own_sl F.out.2.2.2.1
      have z4 : W3.frozen? ⟨R, 3, none⟩ = false := fz_row F.out.1 3
      have x4 : W3.cell? ⟨R, 3, none⟩ = some (.slice ha hnn hc) := by rw [cell_row F.out.1]; rfl
      obtain ⟨W4, hW4⟩ : ∃ W4, W4 = W3.setCell ⟨R, 3, none⟩ (.slice na la.hs.length nc) := ⟨_, rfl⟩
      have f4 : W4.heap[R]? = some (.cells (rpA la (.slice na la.hs.length nc) (.slice ma mn mc)) 49) := by rw [hW4]; exact rp_set3 F.out.1 _
      obtain ⟨W5, hW5⟩ : ∃ W5, W5 = W4.setCell ⟨R, 4, none⟩ (.slice ka la.ms.length kc) := ⟨_, rfl⟩
      have f5 : Hid (W5.heap[R]? = some (.cells (rpA la (.slice na la.hs.length nc) (.slice ka la.ms.length kc)) 49)) := by rw [hW5]; exact rp_set4 f4 _
      have k5 : Hid (Kp W3 W5 (fun k => k = R)) := by rw [hW5, hW4]; exact ((Kp.refl W3 (fun k => k = R)).set (Or.inl rfl) _ _).set (Or.inl rfl) _ _
      have z5 : W4.frozen? ⟨R, 4, none⟩ = false := fz_row f4 4
      have x5 : W4.cell? ⟨R, 4, none⟩ = some (.slice ma mn mc) := by rw [cell_row f4]; rfl
      replace hW4 := hide hW4
      replace hW5 := hide hW5
      clear f4
      refine hK.out _ _ (trivial) (fun hHeld => ?_)
      clear hK
      (try simp only [Act.put, List.setIfInBounds_toArray, List.set_cons_zero, List.set_cons_succ])
      refine wpAnyH_ready (rs := [7]) (by kernel_rfl) (by simp) ?_
      refine AllReadyH.cons rfl (fun K hK => ?_) AllReadyH.nil
      go_simp
      rw [← hW4.out]
      clear hW4 z4 x4
      refine hK.out _ _ (trivial) (fun hHeld => ?_)
      clear hK
      (try simp only [Act.put, List.setIfInBounds_toArray, List.set_cons_zero, List.set_cons_succ])
      refine wpAnyH_take (i := 8) (v := (.pointer (some ⟨R, 4, none⟩))) rfl (by kernel_rfl) (by kernel_rfl) (by kernel_rfl) (fun _ _ _ h => h) (Or.inl ⟨by kernel_rfl, ?_⟩) (by assumption) ?_
      · intro w' hSw
        (try dsimp only at hSw)
        go_simp
      (try simp only [Act.put, List.getElem_toArray, List.getElem_cons_zero, List.getElem_cons_succ, List.setIfInBounds_toArray, List.set_cons_zero, List.set_cons_succ])
      refine wpAnyH_ready (rs := [9]) (by kernel_rfl) (by simp) ?_
      refine AllReadyH.cons rfl (fun K hK => ?_) AllReadyH.nil
      go_simp
      rw [← hW5.out]
      clear hW5 z5 x5
      refine hK.out _ _ (trivial) (fun hHeld => ?_)
      clear hK
      (try simp only [Act.put, List.setIfInBounds_toArray, List.set_cons_zero, List.set_cons_succ])
      refine wpAnyH_done (by kernel_rfl) ?_ _
      have mB : Hid (W5.heap[B]? = some (.cells (rpA rp0 (.slice none 0 0) (.slice none 0 0)) 49)) := getL k5.out F.out.2.1 (by have := HRe.out; omega)
      go_wp2_with (first | refine wpList_ldR rfl 49 (.tmp 4) rfl R rfl _ _ f5.out Tryd.underlying49 rp_info ?_ | refine wpList_stR rfl 49 (.tmp 2) (.tmp 29) rfl B rfl (rpA la (.slice na la.hs.length nc) (.slice ka la.ms.length kc)) _ rfl _ mB.out rp_info rfl (by simp [rpA, Value.oneCell']) ?_)
      have kr : Kp W3 (W5.setRow B (rpA la (.slice na la.hs.length nc) (.slice ka la.ms.length kc))) (fun k => k = R ∨ k = B) := (k5.out.mono (T := fun k => k = R ∨ k = B) (fun k e => Or.inl e)).row (b := B) (Or.inl (Or.inr rfl)) _
      refine bodyPost_ret (v := .tuple #[.agg (rpA la (.slice na la.hs.length nc) (.slice ka la.ms.length kc)), .int .i64 0]) (res_row2 Tryd.results17 _ _ _ B rfl _ rfl _ (setRow_heap _ _ _ _ _ _ mB.out) Tryd.underlying49 rp_info) rfl ⟨_, _, rfl, ?_, ?_, ?_⟩
      · refine own_mono (own_kp F.out.2.2.1 kr (fun k hk e => ?_)) (by have := HRe.out; omega)
        have := own_ge F.out.2.2.1 hk
        have := HRe.out
        omega
      · refine own_mono (own_kp F.out.2.2.2.1 kr (fun k hk e => ?_)) (by have := HRe.out; omega)
        have := own_ge F.out.2.2.2.1 hk
        have := HRe.out
        omega
      · have := (F.out.2.2.2.2.trans kr (fun k e => Or.inr (by have := HRe.out; have := HB.out; omega))).below
        rwa [← HB.out] at this
  · go_simp
    refine hK.out _ _ (trivial) (fun hHeld => ?_)
    clear hK
    (try simp only [Act.put, List.setIfInBounds_toArray, List.set_cons_zero, List.set_cons_succ])
    refine wpAnyH_ready (rs := [1]) (by kernel_rfl) (by simp) ?_
    refine AllReadyH.cons rfl (fun K hK => ?_) AllReadyH.nil
    go_simp
    refine hK.out _ _ (trivial) (fun hHeld => ?_)
    clear hK
    (try simp only [Act.put, List.setIfInBounds_toArray, List.set_cons_zero, List.set_cons_succ])
    refine wpAnyH_ready (rs := [2]) (by kernel_rfl) (by simp) ?_
    refine AllReadyH.cons rfl (fun K hK => ?_) AllReadyH.nil
    go_simp
    refine Calls.mono C1.out ?_
    rintro e W2 ⟨nh, rfl, o1, hb⟩
    have BB2 := hide (D1.trans hb)
    have o1 := hide o1
    clear hb
    refine hK.out _ _ (trivial) (fun hHeld => ?_)
    clear hK
    (try simp only [Act.put, List.setIfInBounds_toArray, List.set_cons_zero, List.set_cons_succ])
    have C2 := hide (clone_any (own_below O2.out BB2.out) hl2)
    refine wpAnyH_take (i := 6) (v := (.pointer (some ⟨R, 3, none⟩))) rfl (by kernel_rfl) (by kernel_rfl) (by kernel_rfl) (fun _ _ _ h => h) (Or.inl ⟨by kernel_rfl, ?_⟩) (by assumption) ?_
    · intro w' hSw
      (try dsimp only at hSw)
      go_simp
    (try simp only [Act.put, List.getElem_toArray, List.getElem_cons_zero, List.getElem_cons_succ, List.setIfInBounds_toArray, List.set_cons_zero, List.set_cons_succ])
    refine wpAnyH_ready (rs := [5]) (by kernel_rfl) (by simp) ?_
    refine AllReadyH.cons rfl (fun K hK => ?_) AllReadyH.nil
    go_simp
    refine Calls.mono C2.out ?_
    rintro e W3 ⟨nm, rfl, o2, hb⟩
    have F := hide (FIN.out W2 W3 nh nm o1.out BB2.out o2 hb)
    clear hb o2 C2 C1
    obtain ⟨na, nc, rfl⟩ := own_sl F.out.2.2.1
    obtain ⟨ka, kc, rfl⟩ := own_sl F.out.2.2.2.1
    have z4 : W3.frozen? ⟨R, 3, none⟩ = false := fz_row F.out.1 3
    have x4 : W3.cell? ⟨R, 3, none⟩ = some (.slice ha hnn hc) := by rw [cell_row F.out.1]; rfl
    obtain ⟨W4, hW4⟩ : ∃ W4, W4 = W3.setCell ⟨R, 3, none⟩ (.slice na la.hs.length nc) := ⟨_, rfl⟩
    have f4 : W4.heap[R]? = some (.cells (rpA la (.slice na la.hs.length nc) (.slice ma mn mc)) 49) := by rw [hW4]; exact rp_set3 F.out.1 _
    obtain ⟨W5, hW5⟩ : ∃ W5, W5 = W4.setCell ⟨R, 4, none⟩ (.slice ka la.ms.length kc) := ⟨_, rfl⟩
    have f5 : Hid (W5.heap[R]? = some (.cells (rpA la (.slice na la.hs.length nc) (.slice ka la.ms.length kc)) 49)) := by rw [hW5]; exact rp_set4 f4 _
    have k5 : Hid (Kp W3 W5 (fun k => k = R)) := by rw [hW5, hW4]; exact ((Kp.refl W3 (fun k => k = R)).set (Or.inl rfl) _ _).set (Or.inl rfl) _ _
    have z5 : W4.frozen? ⟨R, 4, none⟩ = false := fz_row f4 4
    have x5 : W4.cell? ⟨R, 4, none⟩ = some (.slice ma mn mc) := by rw [cell_row f4]; rfl
    replace hW4 := hide hW4
    replace hW5 := hide hW5
    clear f4
    refine hK.out _ _ (trivial) (fun hHeld => ?_)
    clear hK
    (try simp only [Act.put, List.setIfInBounds_toArray, List.set_cons_zero, List.set_cons_succ])
    refine wpAnyH_ready (rs := [7]) (by kernel_rfl) (by simp) ?_
    refine AllReadyH.cons rfl (fun K hK => ?_) AllReadyH.nil
    go_simp
    rw [← hW4.out]
    clear hW4 z4 x4
    refine hK.out _ _ (trivial) (fun hHeld => ?_)
    clear hK
    (try simp only [Act.put, List.setIfInBounds_toArray, List.set_cons_zero, List.set_cons_succ])
    refine wpAnyH_take (i := 8) (v := (.pointer (some ⟨R, 4, none⟩))) rfl (by kernel_rfl) (by kernel_rfl) (by kernel_rfl) (fun _ _ _ h => h) (Or.inl ⟨by kernel_rfl, ?_⟩) (by assumption) ?_
    · intro w' hSw
      (try dsimp only at hSw)
      go_simp
    (try simp only [Act.put, List.getElem_toArray, List.getElem_cons_zero, List.getElem_cons_succ, List.setIfInBounds_toArray, List.set_cons_zero, List.set_cons_succ])
    refine wpAnyH_ready (rs := [9]) (by kernel_rfl) (by simp) ?_
    refine AllReadyH.cons rfl (fun K hK => ?_) AllReadyH.nil
    go_simp
    rw [← hW5.out]
    clear hW5 z5 x5
    refine hK.out _ _ (trivial) (fun hHeld => ?_)
    clear hK
    (try simp only [Act.put, List.setIfInBounds_toArray, List.set_cons_zero, List.set_cons_succ])
    refine wpAnyH_done (by kernel_rfl) ?_ _
    have mB : Hid (W5.heap[B]? = some (.cells (rpA rp0 (.slice none 0 0) (.slice none 0 0)) 49)) := getL k5.out F.out.2.1 (by have := HRe.out; omega)
    go_wp2_with (first | refine wpList_ldR rfl 49 (.tmp 4) rfl R rfl _ _ f5.out Tryd.underlying49 rp_info ?_ | refine wpList_stR rfl 49 (.tmp 2) (.tmp 29) rfl B rfl (rpA la (.slice na la.hs.length nc) (.slice ka la.ms.length kc)) _ rfl _ mB.out rp_info rfl (by simp [rpA, Value.oneCell']) ?_)
    have kr : Kp W3 (W5.setRow B (rpA la (.slice na la.hs.length nc) (.slice ka la.ms.length kc))) (fun k => k = R ∨ k = B) := (k5.out.mono (T := fun k => k = R ∨ k = B) (fun k e => Or.inl e)).row (b := B) (Or.inl (Or.inr rfl)) _
    refine bodyPost_ret (v := .tuple #[.agg (rpA la (.slice na la.hs.length nc) (.slice ka la.ms.length kc)), .int .i64 0]) (res_row2 Tryd.results17 _ _ _ B rfl _ rfl _ (setRow_heap _ _ _ _ _ _ mB.out) Tryd.underlying49 rp_info) rfl ⟨_, _, rfl, ?_, ?_, ?_⟩
    · refine own_mono (own_kp F.out.2.2.1 kr (fun k hk e => ?_)) (by have := HRe.out; omega)
      have := own_ge F.out.2.2.1 hk
      have := HRe.out
      omega
    · refine own_mono (own_kp F.out.2.2.2.1 kr (fun k hk e => ?_)) (by have := HRe.out; omega)
      have := own_ge F.out.2.2.2.1 hk
      have := HRe.out
      omega
    · have := (F.out.2.2.2.2.trans kr (fun k e => Or.inr (by have := HRe.out; have := HB.out; omega))).below
      rwa [← HB.out] at this
end Go.Proofs.YteiiolilpemimaaDoor.Cn
namespace Go.Proofs.YteiiolilpemimaaDoor
/-- a node: its zone, its partitions -/
structure ND where
  z : Int
  ps : List Int
instance : Inhabited ND := ⟨⟨0, []⟩⟩
def flat (ns : List ND) : List Int := ns.flatMap fun n => n.ps
theorem flat_append (a b : List ND) : flat (a ++ b) = flat a ++ flat b := List.flatMap_append
theorem flat_one (n : ND) : flat [n] = n.ps := by simp [flat]
def cntI (k : Int) : List Int → Nat
  | [] => 0
  | x :: r => (if x = k then 1 else 0) + cntI k r
theorem cntI_append (k : Int) (a b : List Int) : cntI k (a ++ b) = cntI k a + cntI k b := by
  induction a with
  | nil => simp [cntI]
  | cons x r ih => simp only [List.cons_append, cntI, ih]; omega
theorem cntI_mem {k : Int} {l : List Int} : 0 < cntI k l ↔ k ∈ l := by
  induction l with
  | nil => simp [cntI]
  | cons x r ih =>
    simp only [cntI, List.mem_cons]
    by_cases e : x = k
    · rw [if_pos e]
      constructor
      · intro _
        exact Or.inl e.symm
      · intro _
        omega
    · rw [if_neg e, Nat.zero_add, ih]
      constructor
      · exact Or.inr
      · rintro (h | h)
        · exact absurd h.symm e
        · exact h
theorem cntI_zero {k : Int} {l : List Int} : cntI k l = 0 ↔ k ∉ l := by
  rw [← cntI_mem]
  omega
theorem cntI_perm {k : Int} {a b : List Int} (h : a.Perm b) : cntI k a = cntI k b := by
  induction h with
  | nil => rfl
  | cons x _ ih => simp only [cntI, ih]
  | swap x y l => simp only [cntI]; omega
  | trans _ _ i j => exact i.trans j
/-- all of 0 to p - 1 stand in a list of p: then it has nothing else, and nothing twice -/
theorem all_once : ∀ (p : Nat) (l : List Int), l.length = p → (∀ i : Nat, i < p → (i : Int) ∈ l) → (∀ x ∈ l, 0 ≤ x ∧ x < (p : Int)) ∧ ∀ k, cntI k l ≤ 1 := by
  intro p
  induction p with
  | zero =>
    intro l hl _
    obtain rfl := List.length_eq_zero_iff.1 hl
    exact ⟨fun x hx => by simp at hx, fun k => by simp [cntI]⟩
  | succ p ih =>
    intro l hl hm
    have hp : (p : Int) ∈ l := hm p (by omega)
    have pe := List.perm_cons_erase hp
    have le : (l.erase (p : Int)).length = p := by
      have := pe.length_eq
      simp at this
      omega
    have hm' : ∀ i : Nat, i < p → (i : Int) ∈ l.erase (p : Int) := fun i hi => by
      have := pe.mem_iff.1 (hm i (by omega))
      rcases List.mem_cons.1 this with h | h
      · omega
      · exact h
    obtain ⟨r1, r2⟩ := ih _ le hm'
    refine ⟨fun x hx => ?_, fun k => ?_⟩
    · rcases List.mem_cons.1 (pe.mem_iff.1 hx) with h | h
      · omega
      · have := r1 x h
        omega
    · rw [cntI_perm pe]
      simp only [cntI]
      by_cases e : (p : Int) = k
      · rw [if_pos e, cntI_zero.2 (fun h => by have := r1 k h; omega)]
        omega
      · rw [if_neg e]
        have := r2 k
        omega
theorem few_in : ∀ (p : Nat) (l : List Int), (∀ x ∈ l, 0 ≤ x ∧ x < (p : Int)) → (∀ k, cntI k l ≤ 1) → l.length ≤ p := by
  intro p
  induction p with
  | zero =>
    intro l h _
    cases l with
    | nil => exact Nat.le_refl _
    | cons x r => have := h x (by simp); omega
  | succ p ih =>
    intro l h1 h2
    by_cases hp : (p : Int) ∈ l
    · have pe := List.perm_cons_erase hp
      have le : l.length = (l.erase (p : Int)).length + 1 := by
        have := pe.length_eq
        simpa using this
      have k2 : ∀ k, cntI k (l.erase (p : Int)) ≤ 1 := fun k => by
        have := h2 k
        rw [cntI_perm pe] at this
        simp only [cntI] at this
        omega
      have np : (p : Int) ∉ l.erase (p : Int) := by
        have := h2 (p : Int)
        rw [cntI_perm pe] at this
        simp only [cntI, if_true] at this
        exact cntI_zero.1 (by omega)
      have k1 : ∀ x ∈ l.erase (p : Int), 0 ≤ x ∧ x < (p : Int) := fun x hx => by
        have := h1 x (List.mem_of_mem_erase hx)
        have ne : x ≠ (p : Int) := fun e => np (e ▸ hx)
        omega
      have := ih _ k1 k2
      omega
    · have := ih l (fun x hx => by
        have := h1 x hx
        have ne : x ≠ (p : Int) := fun e => hp (e ▸ hx)
        omega) h2
      omega
theorem once_all : ∀ (p : Nat) (l : List Int), l.length = p → (∀ x ∈ l, 0 ≤ x ∧ x < (p : Int)) → (∀ k, cntI k l ≤ 1) → ∀ i : Nat, i < p → cntI (i : Int) l = 1 := by
  intro p l hl h1 h2 i hi
  have : 0 < cntI (i : Int) l := by
    apply Classical.byContradiction
    intro hn
    have hz : cntI (i : Int) l = 0 := by omega
    -- i :: l has p + 1 of p
    have := few_in p ((i : Int) :: l) (fun x hx => by
      rcases List.mem_cons.1 hx with e | e
      · omega
      · exact h1 x e) (fun k => by
      simp only [cntI]
      by_cases e : (i : Int) = k
      · subst e
        rw [if_pos rfl, hz]
        omega
      · rw [if_neg e]
        have := h2 k
        omega)
    simp at this
    omega
  have := h2 (i : Int)
  omega
def Rising (l : List Int) : Prop := ∀ j (h : j + 1 < l.length), l[j] < l[j + 1]
/-- the document's dealt -/
structure Dealt (ns : List ND) : Prop where
  p1 : 1 ≤ (flat ns).length
  p2 : (flat ns).length ≤ 64
  once : ∀ i : Nat, i < (flat ns).length → cntI (i : Int) (flat ns) = 1
  rise : ∀ n ∈ ns, Rising n.ps
/-- the node that has a partition in its list; -1: none has -/
def ownF (k : Int) : Nat → List ND → Int
  | _, [] => -1
  | i, n :: r => if k ∈ n.ps then (i : Int) else ownF k (i + 1) r
theorem ownF_in {k : Int} {i : Nat} {n : ND} {r : List ND} (h : k ∈ n.ps) : ownF k i (n :: r) = (i : Int) := by simp [ownF, h]
theorem ownF_out {k : Int} {i : Nat} {n : ND} {r : List ND} (h : k ∉ n.ps) : ownF k i (n :: r) = ownF k (i + 1) r := by simp [ownF, h]
theorem flat_cons (n : ND) (r : List ND) : flat (n :: r) = n.ps ++ flat r := by simp [flat]
theorem ownF_none {k : Int} {i : Nat} {ns : List ND} : ownF k i ns = -1 ↔ k ∉ flat ns := by
  induction ns generalizing i with
  | nil => simp [ownF, flat]
  | cons n r ih =>
    rw [flat_cons, List.mem_append]
    by_cases e : k ∈ n.ps
    · rw [ownF_in e]
      constructor
      · intro h
        omega
      · intro h
        exact absurd (Or.inl e) h
    · rw [ownF_out e, ih]
      constructor
      · rintro h (h' | h')
        · exact e h'
        · exact h h'
      · intro h h'
        exact h (Or.inr h')
theorem ownF_append (k : Int) (i : Nat) (ns : List ND) (n : ND) : ownF k i (ns ++ [n]) = if ownF k i ns = -1 then (if k ∈ n.ps then ((i + ns.length : Nat) : Int) else -1) else ownF k i ns := by
  induction ns generalizing i with
  | nil => simp [ownF]
  | cons m r ih =>
    rw [List.cons_append]
    by_cases e : k ∈ m.ps
    · rw [ownF_in e, ownF_in e, if_neg (by omega)]
    · rw [ownF_out e, ownF_out e, ih, show i + 1 + r.length = i + (m :: r).length by simp; omega]
theorem ownF_range (k : Int) (i : Nat) (ns : List ND) : ownF k i ns = -1 ∨ ((i : Int) ≤ ownF k i ns ∧ ownF k i ns < ((i + ns.length : Nat) : Int)) := by
  induction ns generalizing i with
  | nil => exact Or.inl rfl
  | cons n r ih =>
    by_cases e : k ∈ n.ps
    · rw [ownF_in e]
      exact Or.inr ⟨Int.le_refl _, by simp; omega⟩
    · rw [ownF_out e]
      rcases ih (i + 1) with h | h
      · exact Or.inl h
      · refine Or.inr ⟨by omega, ?_⟩
        have := h.2
        simp at this ⊢
        omega
/-- nodes up to i, and j partitions of the node i -/
def preN (ns : List ND) (i j : Nat) : List ND := ns.take i ++ [⟨0, (ns[i]?.getD default).ps.take j⟩]
/-- so far all is well -/
structure Fine (ns : List ND) (i j : Nat) : Prop where
  rng : ∀ x ∈ flat (preN ns i j), 0 ≤ x ∧ x < ((flat ns).length : Int)
  one : ∀ k, cntI k (flat (preN ns i j)) ≤ 1
  ris : ∀ q (h : q < ns.length), q < i → Rising ns[q].ps
  now : Rising ((ns[i]?.getD default).ps.take j)
def lastP (ns : List ND) (i j : Nat) : Int := if j = 0 then -1 else (ns[i]?.getD default).ps[j - 1]?.getD 0
theorem Fine.start (ns : List ND) : Fine ns 0 0 := by
  refine ⟨fun x hx => ?_, fun k => ?_, fun q _ h => by omega, fun j h => ?_⟩
  · simp [preN, flat] at hx
  · simp [preN, flat, cntI]
  · simp at h
theorem preN_next {ns : List ND} {i : Nat} (hi : i < ns.length) : flat (preN ns i ns[i].ps.length) = flat (preN ns (i + 1) 0) := by
  unfold preN
  rw [List.getElem?_eq_getElem hi, Option.getD_some, List.take_length, flat_append, flat_append, flat_one, flat_one, List.take_succ_eq_append_getElem hi, flat_append, flat_one]
  simp
theorem Fine.next {ns : List ND} {i : Nat} (hi : i < ns.length) (h : Fine ns i ns[i].ps.length) : Fine ns (i + 1) 0 := by
  have e := preN_next hi
  refine ⟨fun x hx => h.rng x (by rw [e]; exact hx), fun k => by rw [← e]; exact h.one k, fun q hq hqi => ?_, fun j hj => ?_⟩
  · by_cases hq' : q < i
    · exact h.ris q hq hq'
    · obtain rfl : q = i := by omega
      have := h.now
      rw [List.getElem?_eq_getElem hi, Option.getD_some, List.take_length] at this
      exact this
  · simp at hj
theorem preN_step {ns : List ND} {i j : Nat} (hi : i < ns.length) (hj : j < ns[i].ps.length) : flat (preN ns i (j + 1)) = flat (preN ns i j) ++ [ns[i].ps[j]] := by
  unfold preN
  rw [List.getElem?_eq_getElem hi, Option.getD_some, flat_append, flat_append, flat_one, flat_one, List.take_succ_eq_append_getElem hj, List.append_assoc]
theorem Fine.step {ns : List ND} {i j : Nat} (h : Fine ns i j) (hi : i < ns.length) (hj : j < ns[i].ps.length) (h1 : lastP ns i j < ns[i].ps[j]) (h2 : ns[i].ps[j] < ((flat ns).length : Int)) (h3 : ownF ns[i].ps[j] 0 (preN ns i j) = -1) : Fine ns i (j + 1) := by
  have hge : 0 ≤ ns[i].ps[j] := by
    unfold lastP at h1
    by_cases j0 : j = 0
    · rw [if_pos j0] at h1
      omega
    · rw [if_neg j0, List.getElem?_eq_getElem hi, Option.getD_some, List.getElem?_eq_getElem (by omega), Option.getD_some] at h1
      have hm : ns[i].ps[j - 1] ∈ flat (preN ns i j) := by
        unfold preN
        rw [List.getElem?_eq_getElem hi, Option.getD_some, flat_append, flat_one]
        refine List.mem_append_right _ ?_
        rw [List.mem_take_iff_getElem]
        exact ⟨j - 1, by omega, rfl⟩
      have := (h.rng _ hm).1
      omega
  have e := preN_step hi hj
  refine ⟨fun x hx => ?_, fun k => ?_, h.ris, ?_⟩
  · rw [e] at hx
    rcases List.mem_append.1 hx with hx | hx
    · exact h.rng x hx
    · simp at hx
      subst hx
      exact ⟨hge, h2⟩
  · rw [e, cntI_append]
    have k1 := h.one k
    simp only [cntI]
    by_cases ek : ns[i].ps[j] = k
    · rw [if_pos ek, ← ek, cntI_zero.2 (ownF_none.1 h3)]
      omega
    · rw [if_neg ek]
      omega
  · have hnow := h.now
    rw [List.getElem?_eq_getElem hi, Option.getD_some] at hnow ⊢
    intro q hq
    have hl : (ns[i].ps.take (j + 1)).length = j + 1 := by rw [List.length_take]; omega
    rw [hl] at hq
    rw [List.getElem_take, List.getElem_take]
    by_cases hqj : q + 1 < j
    · have := hnow q (by rw [List.length_take]; omega)
      rw [List.getElem_take, List.getElem_take] at this
      exact this
    · have hq1 : q + 1 = j := by omega
      subst hq1
      unfold lastP at h1
      rw [if_neg (by omega), List.getElem?_eq_getElem hi, Option.getD_some, Nat.add_sub_cancel, List.getElem?_eq_getElem (by omega), Option.getD_some] at h1
      exact h1
theorem flat_pre_all (ns : List ND) : flat (preN ns ns.length 0) = flat ns := by
  unfold preN
  rw [flat_append, flat_one, List.take_length]
  simp
/-- all went well: then each is dealt once -/
theorem Fine.dealt {ns : List ND} (h : Fine ns ns.length 0) (p1 : 1 ≤ (flat ns).length) (p2 : (flat ns).length ≤ 64) : Dealt ns := by
  refine ⟨p1, p2, ?_, fun n hn => ?_⟩
  · exact once_all _ _ rfl (fun x hx => h.rng x (by rw [flat_pre_all]; exact hx)) (fun k => by have := h.one k; rw [flat_pre_all] at this; exact this)
  · obtain ⟨q, hq, rfl⟩ := List.getElem_of_mem hn
    exact h.ris q hq hq
theorem Dealt.all {ns : List ND} (h : Dealt ns) : (∀ x ∈ flat ns, 0 ≤ x ∧ x < ((flat ns).length : Int)) ∧ ∀ k, cntI k (flat ns) ≤ 1 :=
  all_once _ _ rfl (fun i hi => cntI_mem.1 (by rw [h.once i hi]; omega))
theorem mem_flat {ns : List ND} {i j : Nat} (hi : i < ns.length) (hj : j < ns[i].ps.length) : ns[i].ps[j] ∈ flat ns := by
  unfold flat
  exact List.mem_flatMap.2 ⟨ns[i], List.getElem_mem hi, List.getElem_mem hj⟩
theorem flat_split {ns : List ND} {i : Nat} (hi : i < ns.length) (j : Nat) : ∃ r, flat ns = flat (preN ns i j) ++ (ns[i].ps.drop j ++ r) := by
  refine ⟨flat (ns.drop (i + 1)), ?_⟩
  unfold preN
  rw [List.getElem?_eq_getElem hi, Option.getD_some, flat_append, flat_one, List.append_assoc, ← List.append_assoc (ns[i].ps.take j), List.take_append_drop]
  have : ns = ns.take i ++ ([ns[i]] ++ ns.drop (i + 1)) := by
    rw [← List.append_assoc, ← List.take_succ_eq_append_getElem hi, List.take_append_drop]
  conv => lhs; rw [this, flat_append, flat_append, flat_one]
/-- one went ill: then they are not dealt -/
theorem not_dealt {ns : List ND} {i j : Nat} (hi : i < ns.length) (hj : j < ns[i].ps.length) (hb : ns[i].ps[j] ≤ lastP ns i j ∨ ((flat ns).length : Int) ≤ ns[i].ps[j] ∨ ownF ns[i].ps[j] 0 (preN ns i j) ≠ -1) : ¬ Dealt ns := by
  intro h
  obtain ⟨a1, a2⟩ := h.all
  have hm := a1 _ (mem_flat hi hj)
  rcases hb with hb | hb | hb
  · unfold lastP at hb
    by_cases j0 : j = 0
    · rw [if_pos j0] at hb
      omega
    · rw [if_neg j0, List.getElem?_eq_getElem hi, Option.getD_some, List.getElem?_eq_getElem (by omega), Option.getD_some] at hb
      have := h.rise ns[i] (List.getElem_mem hi) (j - 1) (by omega)
      have e : j - 1 + 1 = j := by omega
      simp only [e] at this
      omega
  · omega
  · have hin : ns[i].ps[j] ∈ flat (preN ns i j) := by
      apply Classical.byContradiction
      intro hn
      exact hb (ownF_none.2 hn)
    obtain ⟨r, hr⟩ := flat_split hi j
    have c := a2 ns[i].ps[j]
    rw [hr, cntI_append, cntI_append] at c
    have c1 := cntI_mem.2 hin
    have c2 : 0 < cntI ns[i].ps[j] (ns[i].ps.drop j) := cntI_mem.2 (by
      rw [List.mem_drop_iff_getElem]
      exact ⟨0, by omega, by simp⟩)
    omega
end Go.Proofs.YteiiolilpemimaaDoor
