import Derived.Test.YteiiolilpemimaaDoorAnMark
import Derived.Test.YteiiolilpemimaaDoorGAeKeep
namespace Go.Proofs.YteiiolilpemimaaDoor.Cn
open Go.RowKit
/-- a list that lies in a block of its own, as one that lies anywhere -/
theorem own_pv {w : World} {base : Nat} {v : Value} {L : List Int} (h : w.ownsRow base 3 1 v L.length (ints L)) (hl : L.length ≤ 17592186043904) : Pv w.heap.size w v L := by
  by_cases hz : 0 < L.length
  · obtain ⟨g, cap, rfl⟩ := own_g h hz
    refine ⟨some ⟨g, 0, none⟩, g, 0, cap, rfl, fun _ => rfl, fun _ => ?_, fun q hq => ?_, hl⟩
    · obtain ⟨g', c', e, hc, -⟩ := own_at h (ints_at2 L 0 hz)
      injection e with e1 e2 e3
      clear e2
      simp only [Option.some.injEq, Addr.mk.injEq, and_true] at e1
      subst e1
      exact w.block_lt_of_cell? _ hc
    · obtain ⟨g', c', e, hc, -⟩ := own_at h (ints_at2 L q hq)
      injection e with e1 e2 e3
      clear e2
      simp only [Option.some.injEq, Addr.mk.injEq, and_true] at e1
      subst e1
      rw [Nat.zero_add]
      exact hc
  · obtain ⟨ba, cap, rfl⟩ := own_sl h
    exact ⟨ba, 0, 0, cap, rfl, fun h => absurd h hz, fun h => absurd h hz, fun q hq => absurd (Nat.lt_of_le_of_lt (Nat.zero_le q) hq) hz, hl⟩
theorem Pv.more {N M : Nat} {w : World} {v : Value} {L : List Int} (h : Pv N w v L) (hm : N ≤ M) : Pv M w v L := by
  obtain ⟨ao, b, o, cap, e, hp⟩ := h
  exact ⟨ao, b, o, cap, e, hp.at0, fun h => Nat.lt_of_lt_of_le (hp.lt h) hm, hp.c, hp.len⟩
theorem Pv.kp {N : Nat} {w w' : World} {v : Value} {L : List Int} (h : Pv N w v L) (hN : N ≤ w.heap.size) (hk : Kp w w' non) : Pv N w' v L := h.below (hk.below.mono hN)
set_option maxHeartbeats 8000000 in
set_option maxRecDepth 100000 in
set_option linter.unusedSimpArgs false in
set_option linter.unusedVariables false in
theorem same_pv {w : World} {N : Nat} {v1 v2 : Value} {L : List Int} (h1 : Pv N w v1 L) (h2 : Pv N w v2 L) (hN : N ≤ w.heap.size) :
    Calls Tryd.prog 21 #[v1, v2] w fun e w' => e = .returned (.bool true) ∧ Kp w w' non := by
  obtain ⟨a1, b1, o1, c1, rfl, p1⟩ := h1
  obtain ⟨a2, b2, o2, c2, rfl, p2⟩ := h2
  have H1 := hide fun X (hX : Kp w X non) => p1.below (hX.below.mono hN)
  have H2 := hide fun X (hX : Kp w X non) => p2.below (hX.below.mono hN)
  obtain ⟨n, hn⟩ : ∃ n, n = L.length := ⟨_, rfl⟩
  have HN := hide hn
  have hl := p1.len
  rw [← hn] at hl ⊢
  clear hn p1 p2
  go_enter Tryd.func21, Tryd.ntmps21
  go_wp2_with fail
  go_loopw [5] (fun vi wr => ∃ i : Nat, i ≤ n ∧ vi = .int .i64 (i : Int) ∧ Hid (Kp w wr non)) (fun vi _ => n - (intOf vi).toNat)
  case atStart => exact ⟨0, Nat.zero_le _, rfl, Kp.refl _ _⟩
  case round =>
    obtain ⟨i, hi, rfl, HK⟩ := hrel
    by_cases hin : i < n
    case neg =>
      obtain rfl : i = n := by omega
      go_wp2_with fail
      go_ret
      exact ⟨rfl, HK.out⟩
    case pos =>
      have hii : (i : Int) < (n : Int) := by omega
      have hiL : i < L.length := by rw [← HN.out]; exact hin
      have q1 := (H1.out wr HK.out).c i hiL
      have q2 := (H2.out wr HK.out).c i hiL
      have e1 := (H1.out wr HK.out).at0 (by omega)
      have e2 := (H2.out wr HK.out).at0 (by omega)
      subst e1
      subst e2
      obtain ⟨z, hz⟩ : ∃ z, z = L[i] := ⟨_, rfl⟩
      rw [← hz] at q1 q2
      have C0 : Hid (wr.cell? ⟨b1, o1 + i, none⟩ = some (.int .i64 z) ∧ wr.cell? ⟨b2, o2 + i, none⟩ = some (.int .i64 z)) := ⟨q1, q2⟩
      have qz : (z != z) = false := by simp
      clear hz q1 q2
      go_upto_region 6 with fail
      refine wp_region_held_drew (S := fun X => X.cell? ⟨b1, o1 + i, none⟩ = some (.int .i64 z) ∧ X.cell? ⟨b2, o2 + i, none⟩ = some (.int .i64 z)) (by kernel_rfl) C0.out (fun hHeld => ?_)
      refine wpAnyH_take (i := 0) (v := (.slice (some ⟨b1, o1, none⟩) n c1)) rfl (by kernel_rfl) (by kernel_rfl) (by kernel_rfl) (fun _ _ _ h => h) (Or.inl ⟨by kernel_rfl, ?_⟩) (by assumption) ?_
      · intro w' hSw
        (try dsimp only at hSw)
        go_simp
      (try simp only [Act.put, List.getElem_toArray, List.getElem_cons_zero, List.getElem_cons_succ, List.setIfInBounds_toArray, List.set_cons_zero, List.set_cons_succ])
      refine wpAnyH_take (i := 1) (v := (.int .i64 (i : Int))) rfl (by kernel_rfl) (by kernel_rfl) (by kernel_rfl) (fun _ _ _ h => h) (Or.inl ⟨by kernel_rfl, ?_⟩) (by assumption) ?_
      · intro w' hSw
        (try dsimp only at hSw)
        go_simp
      (try simp only [Act.put, List.getElem_toArray, List.getElem_cons_zero, List.getElem_cons_succ, List.setIfInBounds_toArray, List.set_cons_zero, List.set_cons_succ])
      refine wpAnyH_take (i := 2) (v := (.pointer (some ⟨b1, o1 + i, none⟩))) rfl (by kernel_rfl) (by kernel_rfl) (by kernel_rfl) (fun _ _ _ h => h) (Or.inl ⟨by kernel_rfl, ?_⟩) (by assumption) ?_
      · intro w' hSw
        (try dsimp only at hSw)
        go_simp
      (try simp only [Act.put, List.getElem_toArray, List.getElem_cons_zero, List.getElem_cons_succ, List.setIfInBounds_toArray, List.set_cons_zero, List.set_cons_succ])
      refine wpAnyH_take (i := 3) (v := (.int .i64 z)) rfl (by kernel_rfl) (by kernel_rfl) (by kernel_rfl) (fun _ _ _ h => h) (Or.inl ⟨by kernel_rfl, ?_⟩) (by assumption) ?_
      · intro w' hSw
        (try dsimp only at hSw)
        (have y := hSw.1; go_simp)
      (try simp only [Act.put, List.getElem_toArray, List.getElem_cons_zero, List.getElem_cons_succ, List.setIfInBounds_toArray, List.set_cons_zero, List.set_cons_succ])
      refine wpAnyH_take (i := 4) (v := (.slice (some ⟨b2, o2, none⟩) n c2)) rfl (by kernel_rfl) (by kernel_rfl) (by kernel_rfl) (fun _ _ _ h => h) (Or.inl ⟨by kernel_rfl, ?_⟩) (by assumption) ?_
      · intro w' hSw
        (try dsimp only at hSw)
        go_simp
      (try simp only [Act.put, List.getElem_toArray, List.getElem_cons_zero, List.getElem_cons_succ, List.setIfInBounds_toArray, List.set_cons_zero, List.set_cons_succ])
      refine wpAnyH_take (i := 5) (v := (.int .i64 (i : Int))) rfl (by kernel_rfl) (by kernel_rfl) (by kernel_rfl) (fun _ _ _ h => h) (Or.inl ⟨by kernel_rfl, ?_⟩) (by assumption) ?_
      · intro w' hSw
        (try dsimp only at hSw)
        go_simp
      (try simp only [Act.put, List.getElem_toArray, List.getElem_cons_zero, List.getElem_cons_succ, List.setIfInBounds_toArray, List.set_cons_zero, List.set_cons_succ])
      refine wpAnyH_take (i := 6) (v := (.pointer (some ⟨b2, o2 + i, none⟩))) rfl (by kernel_rfl) (by kernel_rfl) (by kernel_rfl) (fun _ _ _ h => h) (Or.inl ⟨by kernel_rfl, ?_⟩) (by assumption) ?_
      · intro w' hSw
        (try dsimp only at hSw)
        go_simp
      (try simp only [Act.put, List.getElem_toArray, List.getElem_cons_zero, List.getElem_cons_succ, List.setIfInBounds_toArray, List.set_cons_zero, List.set_cons_succ])
      refine wpAnyH_take (i := 7) (v := (.int .i64 z)) rfl (by kernel_rfl) (by kernel_rfl) (by kernel_rfl) (fun _ _ _ h => h) (Or.inl ⟨by kernel_rfl, ?_⟩) (by assumption) ?_
      · intro w' hSw
        (try dsimp only at hSw)
        (have y := hSw.2; go_simp)
      (try simp only [Act.put, List.getElem_toArray, List.getElem_cons_zero, List.getElem_cons_succ, List.setIfInBounds_toArray, List.set_cons_zero, List.set_cons_succ])
      refine wpAnyH_ready (rs := [8]) (by kernel_rfl) (by simp) ?_
      refine AllReadyH.cons rfl (fun K hK => ?_) AllReadyH.nil
      go_simp
      refine hK.out _ _ (C0.out) (fun hHeld => ?_)
      clear hK
      (try simp only [Act.put, List.setIfInBounds_toArray, List.set_cons_zero, List.set_cons_succ])
      refine wpAnyH_done (by kernel_rfl) ?_ _
      clear hHeld
      go_wp2_with fail
      go_roundw
      case rel => exact ⟨i + 1, by omega, by go_num, HK.out.drew⟩
      case measure => simp [intOf]; omega
end Go.Proofs.YteiiolilpemimaaDoor.Cn
