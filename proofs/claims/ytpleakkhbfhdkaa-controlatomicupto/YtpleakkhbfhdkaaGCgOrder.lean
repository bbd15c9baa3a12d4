import Derived.Test.YtpleakkhbfhdkaaCgOrd
import Derived.Test.YtpleakkhbfhdkaaGCaMiss
namespace Go.Proofs.Ytpleakkhbfhdkaa.Cn
open Go.RowKit
theorem order_any {w : World} {b o : Nat} {A0 : Array Value} {n : Nd} (h : NdX w b o A0 n) (m : Mg) :
    Calls Try.prog 64 #[.pointer (some ⟨b, o, none⟩), .agg (mgV m)] w fun e w' => e = .returned (.int .i64 (ordE n m)) ∧ NdX w' b o A0 (ordN n m) ∧ Kp w w' (fun k => k = b) := by
  by_cases bl : belN n m ∨ (sameN n m ∧ (m.kind = 5 ∧ n.cur ≠ m.ver))
  · have e1 : ordE n m = 122 := by unfold ordE; rw [if_pos bl]
    have e2 : ordN n m = n := by unfold ordN; rw [if_pos bl]
    rw [e1, e2]
    rcases bl with (a | a) | ⟨⟨c, e⟩, k, v⟩
    · exact order_A h m a
    · exact order_B1 h m a
    · exact order_B2 h m ⟨c, e, k, v⟩
  have e1 : ordE n m = 0 := by unfold ordE; rw [if_neg bl]
  rw [e1]
  have nb : ¬ belN n m := fun q => bl (Or.inl q)
  by_cases s : sameN n m
  · have e2 : ordN n m = n := by unfold ordN; rw [if_neg bl, if_pos s]
    rw [e2]
    by_cases k : m.kind = 5
    · by_cases v : n.cur = m.ver
      · exact order_B3 h m ⟨s.1, s.2, k, v⟩
      · exact absurd (Or.inr ⟨s, k, v⟩) bl
    · exact order_B4 h m ⟨s.1, s.2, k⟩
  have up : n.ep < m.ep ∨ (m.ep = n.ep ∧ n.sq < m.sq) := by
    unfold belN at nb
    unfold sameN at s
    omega
  by_cases k : m.kind = 5
  · have e2 : ordN n m = { n with was := n.cur, sw := m.ep, prev := n.cur, cur := m.ver, ep := m.ep, sq := m.sq } := by unfold ordN; rw [if_neg bl, if_neg s, if_pos k]
    rw [e2]
    rcases up with u | u
    · exact order_C1 h m ⟨u, k⟩
    · exact order_B5 h m ⟨u.1, u.2, k⟩
  · by_cases c : n.ep = m.ep
    · have e2 : ordN n m = { n with cur := n.prev, prev := n.prev, ep := m.ep, sq := m.sq } := by unfold ordN; rw [if_neg bl, if_neg s, if_neg k, if_pos c]
      rw [e2]
      rcases up with u | u
      · omega
      · exact order_B6 h m ⟨u.1, u.2, k⟩
    · have e2 : ordN n m = { n with prev := n.cur, ep := m.ep, sq := m.sq } := by unfold ordN; rw [if_neg bl, if_neg s, if_neg k, if_neg c]
      rw [e2]
      rcases up with u | u
      · exact order_C2 h m ⟨u, k⟩
      · exact absurd u.1.symm c
end Go.Proofs.Ytpleakkhbfhdkaa.Cn
namespace Go.Proofs.Ytpleakkhbfhdkaa.Cn
open Go.RowKit
theorem RdAt.setSd {w : World} {P A : Nat} {ty : TypeId} {u : Ru} {r : Rd} (h : RdAt w P A ty u r) (x : Int) : RdAt (w.setCell ⟨P, 9, none⟩ (.int .i64 x)) P A ty u { r with sd := x } :=
  ⟨set_row h.ob 9 _, (Below.heap_setCell _ _ _ _ (fun e => h.ne e.symm)).trans h.an, h.len, h.ne⟩
theorem RdAt.setTk {w : World} {P A : Nat} {ty : TypeId} {u : Ru} {r : Rd} (h : RdAt w P A ty u r) (x : Int) : RdAt (w.setCell ⟨P, 8, none⟩ (.int .i64 x)) P A ty u { r with tk := x } :=
  ⟨set_row h.ob 8 _, (Below.heap_setCell _ _ _ _ (fun e => h.ne e.symm)).trans h.an, h.len, h.ne⟩
theorem MgAt.setFr {w : World} {b : Nat} {m : Mg} (h : MgAt w b m) (x : Int) : MgAt (w.setCell ⟨b, 1, none⟩ (.int .i64 x)) b { m with fr := x } := set_row h 1 _
theorem MgAt.setTd {w : World} {b : Nat} {m : Mg} (h : MgAt w b m) (x : Int) : MgAt (w.setCell ⟨b, 2, none⟩ (.int .i64 x)) b { m with td := x } := set_row h 2 _
theorem MgAt.setId {w : World} {b : Nat} {m : Mg} (h : MgAt w b m) (x : Int) : MgAt (w.setCell ⟨b, 3, none⟩ (.int .i64 x)) b { m with id := x } := set_row h 3 _
/-- what is sent -/
def toAll (m : Mg) (id : Int) (L : List Int) : List Mg := L.map fun i => { m with fr := 64, td := i, id := id }
theorem toAll_len (m : Mg) (id : Int) (L : List Int) : (toAll m id L).length = L.length := by simp [toAll]
theorem toAll_succ (m : Mg) (id : Int) (L : List Int) (i : Nat) (h : i < L.length) : toAll m id (L.take (i + 1)) = toAll m id (L.take i) ++ [{ m with fr := 64, td := L[i], id := id }] := by
  unfold toAll
  rw [List.take_succ_eq_append_getElem h, List.map_append]
  rfl
theorem own_read {w : World} {base n : Nat} {v : Value} {L : List Int} (h : w.ownsRow base 3 1 v n (ints L)) (hn : n = L.length) (i : Nat) (hi : i < L.length) : ∃ g c, v = .slice (some ⟨g, 0, none⟩) n c ∧ base ≤ g ∧ g < w.heap.size ∧ w.cell? ⟨g, i, none⟩ = some (.int .i64 L[i]) := by
  rcases h.2 with ⟨hv, hz⟩ | ⟨g, cap', cur, hv, hb, hg, _⟩
  · omega
  · subst hv
    refine ⟨g, cap', rfl, hb, blk_lt hg, ?_⟩
    rw [h.cellAt i (by omega), ints_at, List.getElem?_eq_getElem hi]
    rfl
theorem own_apart {w : World} {b1 b2 n1 n2 s1 s2 : Nat} {t1 t2 : TypeId} {v1 v2 : Value} {x1 x2 : List Value} (h1 : w.ownsRow b1 t1 s1 v1 n1 x1) (h2 : w.ownsRow b2 t2 s2 v2 n2 x2) (ht : t1 ≠ t2) : ∀ g, v1.ownBlock = some g → v2.ownBlock ≠ some g := by
  intro g hg1 hg2
  rcases h1.2 with ⟨rfl, _⟩ | ⟨g1, c1, u1, rfl, _, k1, _⟩
  · simp [Value.ownBlock] at hg1
  · rcases h2.2 with ⟨rfl, _⟩ | ⟨g2, c2, u2, rfl, _, k2, _⟩
    · simp [Value.ownBlock] at hg2
    · simp [Value.ownBlock] at hg1 hg2
      subst hg1
      subst hg2
      have := k1.symm.trans k2
      simp only [Option.some.injEq, Obj.cells.injEq] at this
      exact ht this.2.1
theorem own_mono {w : World} {b0 b1 e sz n : Nat} {v : Value} {xs : List Value} (h : w.ownsRow b1 e sz v n xs) (hb : b0 ≤ b1) : w.ownsRow b0 e sz v n xs := by
  refine ⟨h.1, ?_⟩
  rcases h.2 with ⟨hv, hz⟩ | ⟨g, cap, cur, rfl, h1, h2, h3⟩
  · exact .inl ⟨hv, hz⟩
  · exact .inr ⟨g, cap, cur, rfl, Nat.le_trans hb h1, h2, h3⟩
theorem Below.to {w w' : World} {b : Nat} (h : Kp w w' non) (hb : b ≤ w.heap.size) : Below b w w' := ⟨h.os, h.tape, h.output, h.size, fun k hk => h.block k (by omega) (fun f => f)⟩
set_option maxHeartbeats 8000000 in
set_option maxRecDepth 100000 in
set_option linter.unusedSimpArgs false in
set_option linter.unusedVariables false in
theorem sending_any {w : World} {P A : Nat} {ty : TypeId} {u : Ru} {r : Rd} (h : RdAt w P A ty u r) (h16 : u.n ≤ 16) (m : Mg) (h0 : 0 ≤ r.sd) (h1 : r.sd ≤ 1000000000000000) :
    Calls Try.prog 98 #[.pointer (some ⟨P, 0, none⟩), .agg (mgV m)] w fun e w' => ∃ v, e = .returned v ∧ w'.ownsRow w.heap.size 44 11 v (miss r.al).length (mgs (toAll m r.num (miss r.al))) ∧ RdAt w' P A ty u { r with sd := r.sd + 1 } ∧ Kp w w' (fun k => k = P) := by
  obtain ⟨B, hB⟩ : ∃ B, B = w.heap.size := ⟨_, rfl⟩
  obtain ⟨W0, hW0⟩ : ∃ W0, W0 = w.alloc (.cells (mgV m) 44) := ⟨_, rfl⟩
  have k0 : Kp w W0 (fun k => k = P) := by rw [hW0]; exact (Kp.refl w _).alloc _
  have m0 : MgAt W0 B m := by rw [hW0, hB]; exact MgAt.new w m
  have r0 : RdAt W0 P A ty u r := h.below (by rw [hW0]; exact (Below.refl _ w).alloc (Nat.le_refl _) _)
  have s0 : W0.heap.size = B + 1 := by rw [hW0, hB]; simp
  have hP : P < B := by rw [hB]; exact blk_lt h.ob
  have hA : A < B := by rw [hB]; exact blk_lt h.an
  have c9 := r0.cells.2.2.2.2.2.2.2.2.2
  have z9 : W0.frozen? ⟨P, 9, none⟩ = false := fz_row r0.ob 9
  obtain ⟨W1, hW1⟩ : ∃ W1, W1 = W0.setCell ⟨P, 9, none⟩ (.int .i64 (r.sd + 1)) := ⟨_, rfl⟩
  have K1 : Hid (Kp w W1 (fun k => k = P)) := by rw [hW1]; exact k0.set (Or.inl rfl) _ _
  have R1 : Hid (RdAt W1 P A ty u { r with sd := r.sd + 1 }) := by rw [hW1]; exact r0.setSd _
  have M1 : Hid (MgAt W1 B m) := by rw [hW1]; exact (Below.heap_setCell _ _ _ _ (fun e => by have : B = P := e; omega)).trans m0
  have S1 : Hid (W1.heap.size = B + 1) := by rw [hW1, World.size_setCell]; exact s0
  have HB := hide hB
  rw [← hB]
  clear hB k0 m0 r0 s0 h
  generalize hr' : ({ r with sd := r.sd + 1 } : Rd) = r' at *
  have HM : Hid (r'.al = r.al ∧ r'.num = r.num) := by rw [← hr']; exact ⟨rfl, rfl⟩
  clear hr'
  go_enter Try.func98, Try.ntmps98
  go_upto_region 1 with fail
  rw [← hW0, ← HB.out]
  clear hW0
  replace hW1 := hide hW1
  go_upto_region 2 with fail
  rw [← hW1.out]
  clear hW1 c9 z9
  refine wp_region_held_drew (S := fun X => X.cell? ⟨P, 4, none⟩ = some (.int .i64 r'.num)) (by kernel_rfl) R1.out.cells.2.2.2.2.1 (fun hHeld => ?_)
  refine wpAnyH_take (i := 0) (v := (.pointer (some ⟨P, 0, none⟩))) rfl (by kernel_rfl) (by kernel_rfl) (by kernel_rfl) (fun _ _ _ h => h) (Or.inl ⟨by rfl, ?_⟩) (by assumption) ?_
  · intro w' hSw
    (try dsimp only at hSw)
    go_simp
  (try simp only [Act.put, List.getElem_toArray, List.getElem_cons_zero, List.getElem_cons_succ, List.setIfInBounds_toArray, List.set_cons_zero, List.set_cons_succ])
  refine wpAnyH_take (i := 1) (v := (.pointer (some ⟨P, 0, none⟩))) rfl (by kernel_rfl) (by kernel_rfl) (by kernel_rfl) (fun _ _ _ h => h) (Or.inl ⟨by rfl, ?_⟩) (by assumption) ?_
  · intro w' hSw
    (try dsimp only at hSw)
    go_simp
  (try simp only [Act.put, List.getElem_toArray, List.getElem_cons_zero, List.getElem_cons_succ, List.setIfInBounds_toArray, List.set_cons_zero, List.set_cons_succ])
  refine wpAnyH_take (i := 2) (v := (.pointer (some ⟨P, 4, none⟩))) rfl (by kernel_rfl) (by kernel_rfl) (by kernel_rfl) (fun _ _ _ h => h) (Or.inl ⟨by rfl, ?_⟩) (by assumption) ?_
  · intro w' hSw
    (try dsimp only at hSw)
    go_simp
  (try simp only [Act.put, List.getElem_toArray, List.getElem_cons_zero, List.getElem_cons_succ, List.setIfInBounds_toArray, List.set_cons_zero, List.set_cons_succ])
  refine wpAnyH_take (i := 3) (v := (.pointer (some ⟨P, 4, none⟩))) rfl (by kernel_rfl) (by kernel_rfl) (by kernel_rfl) (fun _ _ _ h => h) (Or.inl ⟨by rfl, ?_⟩) (by assumption) ?_
  · intro w' hSw
    (try dsimp only at hSw)
    go_simp
  (try simp only [Act.put, List.getElem_toArray, List.getElem_cons_zero, List.getElem_cons_succ, List.setIfInBounds_toArray, List.set_cons_zero, List.set_cons_succ])
  refine wpAnyH_take (i := 4) (v := (.int .i64 r'.num)) rfl (by kernel_rfl) (by kernel_rfl) (by kernel_rfl) (fun _ _ _ h => h) (Or.inl ⟨by rfl, ?_⟩) (by assumption) ?_
  · intro w' hSw
    (try dsimp only at hSw)
    go_simp
  (try simp only [Act.put, List.getElem_toArray, List.getElem_cons_zero, List.getElem_cons_succ, List.setIfInBounds_toArray, List.set_cons_zero, List.set_cons_succ])
  refine wpAnyH_take (i := 5) (v := (.pointer (some ⟨B, 1, none⟩))) rfl (by kernel_rfl) (by kernel_rfl) (by kernel_rfl) (fun _ _ _ h => h) (Or.inl ⟨by rfl, ?_⟩) (by assumption) ?_
  · intro w' hSw
    (try dsimp only at hSw)
    go_simp
  (try simp only [Act.put, List.getElem_toArray, List.getElem_cons_zero, List.getElem_cons_succ, List.setIfInBounds_toArray, List.set_cons_zero, List.set_cons_succ])
  have z1 : W1.frozen? ⟨B, 1, none⟩ = false := fz_row M1.out 1
  have y1 : W1.cell? ⟨B, 1, none⟩ = some (.int .i64 m.fr) := M1.out.cells.2.1
  obtain ⟨W2, hW2⟩ : ∃ W2, W2 = (W1.setCell ⟨B, 1, none⟩ (.int .i64 64)).drew := ⟨_, rfl⟩
  have M2 : Hid (MgAt W2 B { m with fr := 64 }) := by rw [hW2]; exact M1.out.setFr 64
  have R2 : Hid (RdAt W2 P A ty u r') := by rw [hW2]; exact R1.out.keep ((Kp.refl W1 (fun k => k = B)).set (Or.inl rfl) _ _).drew (by omega) (by omega)
  have K2 : Hid (Kp w W2 (fun k => k = P)) := by rw [hW2]; exact (K1.out.set (Or.inr (by rw [HB.out]; exact Nat.le_refl _)) _ _).drew
  have S2 : Hid (W2.heap.size = B + 1) := by rw [hW2]; exact (World.size_setCell _ _ _).trans S1.out
  refine wpAnyH_ready (rs := [6]) (by kernel_rfl) (by simp) ?_
  refine AllReadyH.cons rfl (fun K hK => ?_) AllReadyH.nil
  go_simp
  rw [← hW2]
  clear hW2 z1 y1 hHeld
  refine hK.out _ _ (R2.out.cells.2.2.2.2.1) (fun hHeld => ?_)
  clear hK
  (try simp only [Act.put, List.setIfInBounds_toArray, List.set_cons_zero, List.set_cons_succ])
  have z3 : W2.frozen? ⟨B, 3, none⟩ = false := fz_row M2.out 3
  have y3 : W2.cell? ⟨B, 3, none⟩ = some (.int .i64 m.id) := M2.out.cells.2.2.2.1
  obtain ⟨W3, hW3⟩ : ∃ W3, W3 = W2.setCell ⟨B, 3, none⟩ (.int .i64 r'.num) := ⟨_, rfl⟩
  have M3 : Hid (MgAt W3 B { m with fr := 64, id := r'.num }) := by rw [hW3]; exact M2.out.setId _
  have R3 : Hid (RdAt W3 P A ty u r') := by rw [hW3]; exact R2.out.keep ((Kp.refl W2 (fun k => k = B)).set (Or.inl rfl) _ _) (by omega) (by omega)
  have K3 : Hid (Kp w W3 (fun k => k = P)) := by rw [hW3]; exact K2.out.set (Or.inr (by rw [HB.out]; exact Nat.le_refl _)) _ _
  have S3 : Hid (W3.heap.size = B + 1) := by rw [hW3]; exact (World.size_setCell _ _ _).trans S2.out
  refine wpAnyH_take (i := 7) (v := (.pointer (some ⟨B, 3, none⟩))) rfl (by kernel_rfl) (by kernel_rfl) (by kernel_rfl) (fun _ _ _ h => h) (Or.inl ⟨by rfl, ?_⟩) (by assumption) ?_
  · intro w' hSw
    (try dsimp only at hSw)
    go_simp
  (try simp only [Act.put, List.getElem_toArray, List.getElem_cons_zero, List.getElem_cons_succ, List.setIfInBounds_toArray, List.set_cons_zero, List.set_cons_succ])
  refine wpAnyH_ready (rs := [8]) (by kernel_rfl) (by simp) ?_
  refine AllReadyH.cons rfl (fun K hK => ?_) AllReadyH.nil
  go_simp
  rw [← hW3]
  clear hW3 z3 y3 hHeld
  refine hK.out _ _ (R3.out.cells.2.2.2.2.1) (fun hHeld => ?_)
  clear hK
  (try simp only [Act.put, List.setIfInBounds_toArray, List.set_cons_zero, List.set_cons_succ])
  refine wpAnyH_done (by kernel_rfl) ?_ _
  clear hHeld
  have MI := hide (missing_any R3.out h16)
  clear R1 R2 M1 M2 K1 K2 S1 S2
  go_wp2_with fail
  refine Calls.mono MI.out ?_
  rintro e W4 ⟨v, rfl, ov, hb4⟩
  obtain ⟨ba, cap, rfl⟩ := own_sl ov
  have M4 : Hid (MgAt W4 B { m with fr := 64, id := r'.num }) := M3.out.keep (Kp.of_below hb4 non) (fun f => f)
  have R4 := hide (R3.out.below hb4)
  have K4 : Hid (Kp w W4 (fun k => k = P)) := K3.out.trans (Kp.of_below hb4 non) (fun k f => f.elim)
  have O4 : Hid (W4.ownsRow (B + 1) 3 1 (.slice ba (miss r'.al).length cap) (miss r'.al).length (ints (miss r'.al))) := by rw [← S3.out]; exact ov
  have hs4 : B < W4.heap.size := blk_lt M4.out
  clear hb4 ov MI M3 R3 K3 S3
  obtain ⟨X, hX⟩ : ∃ X, X = miss r'.al := ⟨_, rfl⟩
  have HX := hide hX
  have hlen : X.length ≤ 16 := by rw [hX]; unfold miss; have := missL_len r'.al r'.al.length; have := R4.out.len; omega
  rw [← hX] at O4 ⊢
  clear hX
  obtain ⟨q, hq⟩ : ∃ q, q = X.length := ⟨_, rfl⟩
  have HQ := hide hq
  rw [← hq] at O4 hlen ⊢
  clear hq
  go_wp2_with fail
  go_loopw [5, 25] (fun vl vi wr => ∃ (i : Nat) (t : Int), i ≤ q ∧ vi = .int .i64 (i : Int) ∧ Hid (wr.ownsRow (B + 1) 44 11 vl (toAll m r'.num (X.take i)).length (mgs (toAll m r'.num (X.take i)))) ∧ Hid (MgAt wr B { m with fr := 64, id := r'.num, td := t }) ∧ Hid (RdAt wr P A ty u r') ∧ Hid (Kp w wr (fun k => k = P)) ∧ Hid (wr.ownsRow (B + 1) 3 1 (.slice ba q cap) q (ints X))) (fun _ vi _ => q - (intOf vi).toNat)
  case atStart => exact ⟨0, m.td, Nat.zero_le _, rfl, World.ownsRow_nil _ _ _ _, M4.out, R4.out, K4.out, O4.out⟩
  case round =>
    obtain ⟨i, t, hi, rfl, HO, HM5, HR5, HK5, HV5⟩ := hrel
    by_cases hin : i < q
    case pos =>
      have hii : (i : Int) < (q : Int) := by omega
      have hiX : i < X.length := by rw [← HQ.out]; exact hin
      obtain ⟨g, c, hv, hg1, hg2, cg⟩ := own_read HV5.out HQ.out i hiX
      have HT := hide (toAll_succ m r'.num X i hiX)
      simp only [Value.slice.injEq, true_and] at hv
      obtain ⟨rfl, rfl⟩ := hv
      generalize X[i] = xi at *
      have y2 : wr.cell? ⟨B, 2, none⟩ = some (.int .i64 t) := HM5.out.cells.2.2.1
      have z2 : wr.frozen? ⟨B, 2, none⟩ = false := fz_row HM5.out 2
      obtain ⟨W5, hW5⟩ : ∃ W5, W5 = wr.setCell ⟨B, 2, none⟩ (.int .i64 xi) := ⟨_, rfl⟩
      have M5 : Hid (MgAt W5 B { m with fr := 64, td := xi, id := r'.num }) := by rw [hW5]; exact HM5.out.setTd xi
      have kk : Kp wr W5 (fun k => k = B) := by rw [hW5]; exact (Kp.refl wr (fun k => k = B)).set (Or.inl rfl) _ _
      have hne : ∀ k, u5.ownBlock = some k → k ≠ B := fun k hk e => by have := own_ge HO.out hk; omega
      have R5 : Hid (RdAt W5 P A ty u r') := HR5.out.keep kk (by omega) (by omega)
      have K5 : Hid (Kp w W5 (fun k => k = P)) := HK5.out.trans kk (fun k e => Or.inr (by rw [e, HB.out]; exact Nat.le_refl _))
      have V5 : Hid (W5.ownsRow (B + 1) 3 1 (.slice (some ⟨g, 0, none⟩) q cap) q (ints X)) := own_kp HV5.out kk (fun k hk => by simp [Value.ownBlock] at hk; omega)
      have O5 : Hid (W5.ownsRow (B + 1) 44 11 u5 (toAll m r'.num (X.take i)).length (mgs (toAll m r'.num (X.take i)))) := own_kp HO.out kk hne
      have ll : (toAll m r'.num (X.take i)).length ≤ 16 := by rw [toAll_len, List.length_take]; omega
      generalize toAll m r'.num (X.take i) = LL at *
      clear HO HM5 HR5 HK5 HV5 kk hne hiX
      go_upto_region 8 with fail
      rw [← hW5]
      clear hW5 y2 z2 cg
      have O6 : Hid ((W5.alloc (.cells (mgV { m with fr := 64, td := xi, id := r'.num }) 44)).ownsRow (B + 1) 44 11 u5 LL.length (mgs LL)) := own_below O5.out ((Below.refl _ W5).alloc (Nat.le_refl _) _)
      have hs5 : B < W5.heap.size := blk_lt M5.out
      go_wp2_with (first | refine wpList_ldM rfl (.tmp 3) rfl { m with fr := 64, td := xi, id := r'.num } B rfl M5.out ?_ | refine wpList_bsM rfl (.tmp 32) rfl { m with fr := 64, td := xi, id := r'.num } rfl ?_ | (at_builtin; refine wpList_apM rfl (.tmp 31) (.tmp 33) rfl (B + 1) _ LL rfl O6.out W5.heap.size { m with fr := 64, td := xi, id := r'.num } rfl (heap_last _ _) (by omega) (by simp; omega) ?_; intro v' w' o2 g2))
      have kA : Kp W5 w' (fun k => some k = u5.ownBlock) := ((Kp.refl W5 _).alloc _).trans (Kp.of_grown g2) (fun k hk => Or.inl hk)
      have ge : ∀ k, some k = u5.ownBlock → B + 1 ≤ k := fun k hk => own_ge O5.out hk.symm
      refine ⟨⟨i + 1, xi, by omega, rfl, ?_, ?_, ?_, ?_, ?_⟩, by simp [intOf]; omega⟩
      · rw [HT.out, List.length_append]
        exact o2
      · exact M5.out.keep kA (fun e => by have := ge _ e; omega)
      · exact R5.out.keep kA (fun e => by have := ge _ e; omega) (fun e => by have := ge _ e; omega)
      · exact K5.out.trans kA (fun k hk => Or.inr (by have := ge _ hk; have := HB.out; omega))
      · refine own_kp V5.out kA (fun k hk e => ?_)
        exact own_apart V5.out O5.out (by decide) k hk e.symm
    case neg =>
      obtain rfl : i = q := by omega
      go_wp2_with fail
      go_ret
      refine ⟨_, rfl, ?_, HR5.out, HK5.out⟩
      have e : X.take i = miss r.al := by rw [HQ.out, List.take_length, HX.out, HM.out.1]
      have e2 := own_mono HO.out (Nat.le_succ B)
      rw [e, toAll_len, HM.out.2] at e2
      exact e2
end Go.Proofs.Ytpleakkhbfhdkaa.Cn
namespace Go.Proofs.Ytpleakkhbfhdkaa.Cn
open Go.RowKit
inductive Ph
  | fetch
  | swap
  | back
  | look
def Ph.ty : Ph → TypeId
  | .fetch => 122
  | .swap => 124
  | .back => 89
  | .look => 126
def Ph.pt : Ph → TypeId
  | .fetch => 121
  | .swap => 123
  | .back => 81
  | .look => 125
/-- the phase's message, but for what all have alike -/
def mesP (p : Ph) (r : Rd) : Mg :=
  match p with
  | .fetch => { mg0 with kind := 3, ep := r.num, ver := r.ver }
  | .swap => { mg0 with kind := 5, ep := r.num, sq := 1, ver := r.ver }
  | .back => { mg0 with kind := 7, ep := r.num, sq := 2 }
  | .look => { mg0 with kind := 9 }
set_option maxHeartbeats 4000000 in
set_option maxRecDepth 100000 in
set_option linter.unusedSimpArgs false in
set_option linter.unusedVariables false in
theorem message_back {w : World} {P A : Nat} {ty : TypeId} {u : Ru} {r : Rd} (h : RdAt w P A ty u r) :
    Calls Try.prog 92 #[.pointer (some ⟨P, 0, none⟩)] w fun e w' => e = .returned (.agg (mgV (mesP .back r))) ∧ Below w.heap.size w w' := by
  obtain ⟨W0, hW0⟩ : ∃ W0, W0 = w.alloc (.cells (mgV mg0) 44) := ⟨_, rfl⟩
  have b0 : Hid (Below w.heap.size w W0) := by rw [hW0]; exact (Below.refl _ w).alloc (Nat.le_refl _) _
  have m0 : Hid (MgAt W0 w.heap.size mg0) := by rw [hW0]; exact MgAt.new w mg0
  have c4 := (h.below b0.out).cells.2.2.2.2.1
  clear h
  go_enter Try.func92, Try.ntmps92
  go_upto_region 1 with fail
  rw [show (#[.int .i64 0, .int .i64 0, .int .i64 0, .int .i64 0, .int .i64 0, .int .i64 0, .int .i64 0, .int .i64 0, .int .i64 0, .string ⟨#[]⟩, .string ⟨#[]⟩] : Array Value) = mgV mg0 from rfl]
  rw [← hW0]
  clear hW0
  go_wp2_with (first | refine wpList_blR rfl 44 #[(0, .const (.int .i64 7)), (4, .tmp 8), (5, .const (.int .i64 2))] rfl (mgV (mesP .back r)) (by kernel_rfl) ?_ | refine wpList_stR rfl 44 (.tmp 2) (.tmp 9) rfl w.heap.size rfl (mgV (mesP .back r)) (mgV mg0) rfl _ m0.out mg_info rfl (mg_one _) ?_)
  refine bodyPost_ret (v := .agg (mgV (mesP .back r))) (res_row1 Try.results92 _ _ _ w.heap.size rfl _ (setRow_heap _ _ _ _ _ _ m0.out) Try.underlying44 mg_info) rfl ⟨rfl, ?_⟩
  exact ((Kp.of_below b0.out non).row (Or.inr (Nat.le_refl _)) _).below
set_option maxHeartbeats 4000000 in
set_option maxRecDepth 100000 in
set_option linter.unusedSimpArgs false in
set_option linter.unusedVariables false in
theorem message_look {w : World} {P A : Nat} {ty : TypeId} {u : Ru} {r : Rd} (h : RdAt w P A ty u r) :
    Calls Try.prog 115 #[.pointer (some ⟨P, 0, none⟩)] w fun e w' => e = .returned (.agg (mgV (mesP .look r))) ∧ Below w.heap.size w w' := by
  obtain ⟨W0, hW0⟩ : ∃ W0, W0 = w.alloc (.cells (mgV mg0) 44) := ⟨_, rfl⟩
  have b0 : Hid (Below w.heap.size w W0) := by rw [hW0]; exact (Below.refl _ w).alloc (Nat.le_refl _) _
  have m0 : Hid (MgAt W0 w.heap.size mg0) := by rw [hW0]; exact MgAt.new w mg0
  clear h
  go_enter Try.func115, Try.ntmps115
  go_upto_region 1 with fail
  rw [show (#[.int .i64 0, .int .i64 0, .int .i64 0, .int .i64 0, .int .i64 0, .int .i64 0, .int .i64 0, .int .i64 0, .int .i64 0, .string ⟨#[]⟩, .string ⟨#[]⟩] : Array Value) = mgV mg0 from rfl]
  rw [← hW0]
  clear hW0
  go_wp2_with (first | refine wpList_blR rfl 44 #[(0, .const (.int .i64 9))] rfl (mgV (mesP .look r)) (by kernel_rfl) ?_ | refine wpList_stR rfl 44 (.tmp 2) (.tmp 3) rfl w.heap.size rfl (mgV (mesP .look r)) (mgV mg0) rfl _ m0.out mg_info rfl (mg_one _) ?_)
  refine bodyPost_ret (v := .agg (mgV (mesP .look r))) (res_row1 Try.results115 _ _ _ w.heap.size rfl _ (setRow_heap _ _ _ _ _ _ m0.out) Try.underlying44 mg_info) rfl ⟨rfl, ?_⟩
  exact ((Kp.of_below b0.out non).row (Or.inr (Nat.le_refl _)) _).below
end Go.Proofs.Ytpleakkhbfhdkaa.Cn
namespace Go.Proofs.Ytpleakkhbfhdkaa.Cn
open Go.RowKit
theorem below_drewN {k : Nat} {w w' : World} (h : Below k w w') (n : Nat) : Below k w (w'.drewN n) := ⟨h.os, h.tape, h.output, h.size, h.block⟩
def came (r : Rd) (i : Int) : Bool := (r.al.getD i.toNat (true, 0)).1
def dueP (u : Ru) (r : Rd) (k : Int) (m : Mg) : Bool := decide (m.kind = k) && (decide (m.id = r.num) && (decide (0 ≤ m.fr) && (decide (m.fr < (u.n : Int)) && !came r m.fr)))
set_option maxHeartbeats 8000000 in
set_option maxRecDepth 100000 in
set_option linter.unusedSimpArgs false in
set_option linter.unusedVariables false in
theorem isDue_any {w : World} {P A : Nat} {ty : TypeId} {u : Ru} {r : Rd} (h : RdAt w P A ty u r) (h16 : u.n ≤ 16) (k : Int) (m : Mg) :
    Calls Try.prog 101 #[.pointer (some ⟨P, 0, none⟩), .int .i64 k, .agg (mgV m)] w fun e w' => e = .returned (.bool (dueP u r k m)) ∧ Below w.heap.size w w' := by
  obtain ⟨B, hB⟩ : ∃ B, B = w.heap.size := ⟨_, rfl⟩
  obtain ⟨W0, hW0⟩ : ∃ W0, W0 = w.alloc (.cells (mgV m) 44) := ⟨_, rfl⟩
  have b0 : Hid (Below w.heap.size w W0) := by rw [hW0]; exact (Below.refl _ w).alloc (Nat.le_refl _) _
  have m0 : MgAt W0 B m := by rw [hW0, hB]; exact MgAt.new w m
  have r0 : RdAt W0 P A ty u r := h.below b0.out
  obtain ⟨y0, y1, _, y3, _⟩ := m0.cells
  obtain ⟨x0, _, _, _, x4, _, _, x7, _⟩ := r0.cells
  have R0 := hide r0
  have HB := hide hB
  clear h m0 r0
  obtain ⟨n, hn⟩ : ∃ n, n = u.n := ⟨_, rfl⟩
  have HN := hide hn
  rw [← hn] at x0 x7 h16
  clear hn
  by_cases e0 : m.kind = k
  case neg =>
    have q0 : (m.kind == k) = false := by simpa using e0
    have D : Hid (dueP u r k m = false) := by
      unfold Hid dueP
      rw [← HN.out]
      simp only [e0, decide_true, decide_false, Bool.true_and, Bool.false_and, Bool.and_false]
    rw [D.out]
    clear D e0
    go_enter Try.func101, Try.ntmps101
    go_upto_region 1 with fail
    rw [← hW0, ← HB.out]
    clear hW0 hB
    go_quiet (fail)
    go_wp2_with fail
    go_ret
    exact ⟨rfl, below_drewN b0.out _⟩
  have q0 : (m.kind == k) = true := by simpa using e0
  by_cases e1 : m.id = r.num
  case neg =>
    have q1 : (m.id == r.num) = false := by simpa using e1
    have D : Hid (dueP u r k m = false) := by
      unfold Hid dueP
      rw [← HN.out]
      simp only [e0, e1, decide_true, decide_false, Bool.true_and, Bool.false_and, Bool.and_false]
    rw [D.out]
    clear D e1
    go_enter Try.func101, Try.ntmps101
    go_upto_region 1 with fail
    rw [← hW0, ← HB.out]
    clear hW0 hB
    go_quiet (fail)
    go_wp2_with fail
    go_ret
    exact ⟨rfl, below_drewN b0.out _⟩
  have q1 : (m.id == r.num) = true := by simpa using e1
  by_cases e2 : 0 ≤ m.fr
  case neg =>
    have q2 : decide (0 ≤ m.fr) = false := by simpa using e2
    have D : Hid (dueP u r k m = false) := by
      unfold Hid dueP
      rw [← HN.out]
      simp only [e0, e1, e2, decide_true, decide_false, Bool.true_and, Bool.false_and, Bool.and_false]
    rw [D.out]
    clear D e2
    go_enter Try.func101, Try.ntmps101
    go_upto_region 1 with fail
    rw [← hW0, ← HB.out]
    clear hW0 hB
    go_quiet (fail)
    go_wp2_with fail
    go_ret
    exact ⟨rfl, below_drewN b0.out _⟩
  have q2 : decide (0 ≤ m.fr) = true := decide_eq_true e2
  by_cases e3 : m.fr < (n : Int)
  case neg =>
    have q3 : decide (m.fr < (n : Int)) = false := by simpa using e3
    have D : Hid (dueP u r k m = false) := by
      unfold Hid dueP
      rw [← HN.out]
      simp only [e0, e1, e2, e3, decide_true, decide_false, Bool.true_and, Bool.false_and, Bool.and_false]
    rw [D.out]
    clear D e3
    go_enter Try.func101, Try.ntmps101
    go_upto_region 1 with fail
    rw [← hW0, ← HB.out]
    clear hW0 hB
    go_quiet (fail)
    go_wp2_with fail
    go_ret
    exact ⟨rfl, below_drewN b0.out _⟩
  have q3 : decide (m.fr < (n : Int)) = true := decide_eq_true e3
  obtain ⟨i, hi⟩ : ∃ i : Nat, m.fr = (i : Int) := ⟨m.fr.toNat, by omega⟩
  have hin : i < n := by omega
  have hil : i < r.al.length := by rw [R0.out.len, ← HN.out]; exact hin
  have a0 := (R0.out.ans i hil).1
  have D : Hid (dueP u r k m = !r.al[i].1) := by
    unfold Hid dueP came
    rw [← HN.out, hi, Int.toNat_natCast, List.getD_eq_getElem?_getD, List.getElem?_eq_getElem hil, Option.getD_some]
    rw [hi] at e2 e3
    simp only [e0, e1, e2, e3, decide_true, Bool.true_and]
  rw [D.out]
  generalize r.al[i].1 = cc at *
  rw [hi] at y1 q2 q3
  have hii : (i : Int) < (n : Int) := by omega
  have q4 : decide (i < n) = true := decide_eq_true hin
  clear D hil e0 e1 e2 e3 hi
  go_enter Try.func101, Try.ntmps101
  go_upto_region 1 with fail
  rw [← hW0, ← HB.out]
  clear hW0 hB
  go_quiet (fail)
  go_wp2_with fail
  go_ret
  exact ⟨rfl, below_drewN b0.out _⟩
end Go.Proofs.Ytpleakkhbfhdkaa.Cn
