import Derived.Test.YtpleakkhbfhdkaaGCaMiss
namespace Go.Proofs.Ytpleakkhbfhdkaa.Cn
open Go.RowKit
set_option maxHeartbeats 8000000 in
set_option maxRecDepth 100000 in
set_option linter.unusedSimpArgs false in
set_option linter.unusedVariables false in
theorem order_A {w : World} {b o : Nat} {A0 : Array Value} {n : Nd} (h : NdX w b o A0 n) (m : Mg) (c : m.ep < n.ep) :
    Calls Try.prog 64 #[.pointer (some ⟨b, o, none⟩), .agg (mgV m)] w fun e w' => e = .returned (.int .i64 122) ∧ NdX w' b o A0 n ∧ Kp w w' (fun k => k = b) := by
  obtain ⟨B, hB⟩ : ∃ B, B = w.heap.size := ⟨_, rfl⟩
  obtain ⟨W0, hW0⟩ : ∃ W0, W0 = w.alloc (.cells (mgV m) 44) := ⟨_, rfl⟩
  have b0 : Hid (Below w.heap.size w W0) := by rw [hW0]; exact (Below.refl _ w).alloc (Nat.le_refl _) _
  have K0 : Hid (Kp w W0 (fun k => k = b)) := Kp.of_below b0.out _
  have m0 : MgAt W0 B m := by rw [hW0, hB]; exact MgAt.new w m
  have n0 : NdX W0 b o A0 n := h.keep (Kp.of_below b0.out non) (fun f => f)
  have hne : Hid (B ≠ b) := by
    obtain ⟨A, h⟩ := h
    have := blk_lt h.ob
    exact fun e => by omega
  have HB := hide hB
  obtain ⟨y0, _, _, _, y4, y5, y6, _⟩ := m0.cells
  obtain ⟨x0, x1, x2, x3, x4, x5, _, _⟩ := n0.cells
  have M0 := hide m0
  have N0 := hide n0
  clear h m0 n0
  have q0 : decide (m.ep < n.ep) = true := decide_eq_true (by omega)
  have q1 : (m.ep == n.ep) = false := by simpa using (by omega : ¬ m.ep = n.ep)
  clear c
  go_enter Try.func64, Try.ntmps64
  go_upto_region 1 with fail
  rw [← hW0, ← HB.out]
  clear hW0 hB
  go_quiet (fail)
  obtain ⟨W1, hW1⟩ : ∃ X, X = W0.drewN nq := ⟨_, rfl⟩
  have KK : Kp W0 W1 non := by rw [hW1]; exact (Kp.refl _ non).drewN _
  have N1 : Hid (NdX W1 b o A0 n) := N0.out.keep KK (fun f => f)
  have M1 : Hid (MgAt W1 B m) := M0.out.keep KK (fun f => f)
  have K1 : Hid (Kp w W1 (fun k => k = b)) := K0.out.trans KK (fun _ f => f.elim)
  rw [← hW1]
  clear KK hW1 K0 M0 N0
  clear x0 x1 x2 x3 x4 x5 y0 y4 y5 y6
  have x0 : W1.cell? ⟨b, o, none⟩ = some (.int .i64 n.cur) := N1.out.cells.1
  have x1 : W1.cell? ⟨b, o + 1, none⟩ = some (.int .i64 n.prev) := N1.out.cells.2.1
  have x2 : W1.cell? ⟨b, o + 2, none⟩ = some (.int .i64 n.ep) := N1.out.cells.2.2.1
  have x3 : W1.cell? ⟨b, o + 3, none⟩ = some (.int .i64 n.sq) := N1.out.cells.2.2.2.1
  have x4 : W1.cell? ⟨b, o + 4, none⟩ = some (.int .i64 n.sw) := N1.out.cells.2.2.2.2.1
  have x5 : W1.cell? ⟨b, o + 5, none⟩ = some (.int .i64 n.was) := N1.out.cells.2.2.2.2.2.1
  obtain ⟨y0, _, _, _, y4, y5, y6, _⟩ := M1.out.cells
  go_upto_region 2 with fail
  go_quiet (fail)
  obtain ⟨W2, hW2⟩ : ∃ X, X = W1.drewN nq := ⟨_, rfl⟩
  have KK : Kp W1 W2 non := by rw [hW2]; exact (Kp.refl _ non).drewN _
  have N2 : Hid (NdX W2 b o A0 n) := N1.out.keep KK (fun f => f)
  have M2 : Hid (MgAt W2 B m) := M1.out.keep KK (fun f => f)
  have K2 : Hid (Kp w W2 (fun k => k = b)) := K1.out.trans KK (fun _ f => f.elim)
  rw [← hW2]
  clear KK hW2 K1 M1 N1
  clear x0 x1 x2 x3 x4 x5 y0 y4 y5 y6
  have x0 : W2.cell? ⟨b, o, none⟩ = some (.int .i64 n.cur) := N2.out.cells.1
  have x1 : W2.cell? ⟨b, o + 1, none⟩ = some (.int .i64 n.prev) := N2.out.cells.2.1
  have x2 : W2.cell? ⟨b, o + 2, none⟩ = some (.int .i64 n.ep) := N2.out.cells.2.2.1
  have x3 : W2.cell? ⟨b, o + 3, none⟩ = some (.int .i64 n.sq) := N2.out.cells.2.2.2.1
  have x4 : W2.cell? ⟨b, o + 4, none⟩ = some (.int .i64 n.sw) := N2.out.cells.2.2.2.2.1
  have x5 : W2.cell? ⟨b, o + 5, none⟩ = some (.int .i64 n.was) := N2.out.cells.2.2.2.2.2.1
  obtain ⟨y0, _, _, _, y4, y5, y6, _⟩ := M2.out.cells
  go_upto_region 3 with fail
  go_quiet (fail)
  obtain ⟨W3, hW3⟩ : ∃ X, X = W2.drewN nq := ⟨_, rfl⟩
  have KK : Kp W2 W3 non := by rw [hW3]; exact (Kp.refl _ non).drewN _
  have N3 : Hid (NdX W3 b o A0 n) := N2.out.keep KK (fun f => f)
  have M3 : Hid (MgAt W3 B m) := M2.out.keep KK (fun f => f)
  have K3 : Hid (Kp w W3 (fun k => k = b)) := K2.out.trans KK (fun _ f => f.elim)
  rw [← hW3]
  clear KK hW3 K2 M2 N2
  clear x0 x1 x2 x3 x4 x5 y0 y4 y5 y6
  have x0 : W3.cell? ⟨b, o, none⟩ = some (.int .i64 n.cur) := N3.out.cells.1
  have x1 : W3.cell? ⟨b, o + 1, none⟩ = some (.int .i64 n.prev) := N3.out.cells.2.1
  have x2 : W3.cell? ⟨b, o + 2, none⟩ = some (.int .i64 n.ep) := N3.out.cells.2.2.1
  have x3 : W3.cell? ⟨b, o + 3, none⟩ = some (.int .i64 n.sq) := N3.out.cells.2.2.2.1
  have x4 : W3.cell? ⟨b, o + 4, none⟩ = some (.int .i64 n.sw) := N3.out.cells.2.2.2.2.1
  have x5 : W3.cell? ⟨b, o + 5, none⟩ = some (.int .i64 n.was) := N3.out.cells.2.2.2.2.2.1
  obtain ⟨y0, _, _, _, y4, y5, y6, _⟩ := M3.out.cells
  go_wp2_with fail
  go_ret
  exact ⟨rfl, N3.out, K3.out⟩
set_option maxHeartbeats 8000000 in
set_option maxRecDepth 100000 in
set_option linter.unusedSimpArgs false in
set_option linter.unusedVariables false in
theorem order_B1 {w : World} {b o : Nat} {A0 : Array Value} {n : Nd} (h : NdX w b o A0 n) (m : Mg) (c : m.ep = n.ep ∧ m.sq < n.sq) :
    Calls Try.prog 64 #[.pointer (some ⟨b, o, none⟩), .agg (mgV m)] w fun e w' => e = .returned (.int .i64 122) ∧ NdX w' b o A0 n ∧ Kp w w' (fun k => k = b) := by
  obtain ⟨B, hB⟩ : ∃ B, B = w.heap.size := ⟨_, rfl⟩
  obtain ⟨W0, hW0⟩ : ∃ W0, W0 = w.alloc (.cells (mgV m) 44) := ⟨_, rfl⟩
  have b0 : Hid (Below w.heap.size w W0) := by rw [hW0]; exact (Below.refl _ w).alloc (Nat.le_refl _) _
  have K0 : Hid (Kp w W0 (fun k => k = b)) := Kp.of_below b0.out _
  have m0 : MgAt W0 B m := by rw [hW0, hB]; exact MgAt.new w m
  have n0 : NdX W0 b o A0 n := h.keep (Kp.of_below b0.out non) (fun f => f)
  have hne : Hid (B ≠ b) := by
    obtain ⟨A, h⟩ := h
    have := blk_lt h.ob
    exact fun e => by omega
  have HB := hide hB
  obtain ⟨y0, _, _, _, y4, y5, y6, _⟩ := m0.cells
  obtain ⟨x0, x1, x2, x3, x4, x5, _, _⟩ := n0.cells
  have M0 := hide m0
  have N0 := hide n0
  clear h m0 n0
  have q0 : decide (m.ep < n.ep) = false := decide_eq_false (by omega)
  have q1 : (m.ep == n.ep) = true := by simpa using (by omega : m.ep = n.ep)
  have q2 : decide (m.sq < n.sq) = true := decide_eq_true (by omega)
  have q3 : (m.sq == n.sq) = false := by simpa using (by omega : ¬ m.sq = n.sq)
  clear c
  go_enter Try.func64, Try.ntmps64
  go_upto_region 1 with fail
  rw [← hW0, ← HB.out]
  clear hW0 hB
  go_quiet (fail)
  obtain ⟨W1, hW1⟩ : ∃ X, X = W0.drewN nq := ⟨_, rfl⟩
  have KK : Kp W0 W1 non := by rw [hW1]; exact (Kp.refl _ non).drewN _
  have N1 : Hid (NdX W1 b o A0 n) := N0.out.keep KK (fun f => f)
  have M1 : Hid (MgAt W1 B m) := M0.out.keep KK (fun f => f)
  have K1 : Hid (Kp w W1 (fun k => k = b)) := K0.out.trans KK (fun _ f => f.elim)
  rw [← hW1]
  clear KK hW1 K0 M0 N0
  clear x0 x1 x2 x3 x4 x5 y0 y4 y5 y6
  have x0 : W1.cell? ⟨b, o, none⟩ = some (.int .i64 n.cur) := N1.out.cells.1
  have x1 : W1.cell? ⟨b, o + 1, none⟩ = some (.int .i64 n.prev) := N1.out.cells.2.1
  have x2 : W1.cell? ⟨b, o + 2, none⟩ = some (.int .i64 n.ep) := N1.out.cells.2.2.1
  have x3 : W1.cell? ⟨b, o + 3, none⟩ = some (.int .i64 n.sq) := N1.out.cells.2.2.2.1
  have x4 : W1.cell? ⟨b, o + 4, none⟩ = some (.int .i64 n.sw) := N1.out.cells.2.2.2.2.1
  have x5 : W1.cell? ⟨b, o + 5, none⟩ = some (.int .i64 n.was) := N1.out.cells.2.2.2.2.2.1
  obtain ⟨y0, _, _, _, y4, y5, y6, _⟩ := M1.out.cells
  go_upto_region 2 with fail
  go_quiet (fail)
  obtain ⟨W2, hW2⟩ : ∃ X, X = W1.drewN nq := ⟨_, rfl⟩
  have KK : Kp W1 W2 non := by rw [hW2]; exact (Kp.refl _ non).drewN _
  have N2 : Hid (NdX W2 b o A0 n) := N1.out.keep KK (fun f => f)
  have M2 : Hid (MgAt W2 B m) := M1.out.keep KK (fun f => f)
  have K2 : Hid (Kp w W2 (fun k => k = b)) := K1.out.trans KK (fun _ f => f.elim)
  rw [← hW2]
  clear KK hW2 K1 M1 N1
  clear x0 x1 x2 x3 x4 x5 y0 y4 y5 y6
  have x0 : W2.cell? ⟨b, o, none⟩ = some (.int .i64 n.cur) := N2.out.cells.1
  have x1 : W2.cell? ⟨b, o + 1, none⟩ = some (.int .i64 n.prev) := N2.out.cells.2.1
  have x2 : W2.cell? ⟨b, o + 2, none⟩ = some (.int .i64 n.ep) := N2.out.cells.2.2.1
  have x3 : W2.cell? ⟨b, o + 3, none⟩ = some (.int .i64 n.sq) := N2.out.cells.2.2.2.1
  have x4 : W2.cell? ⟨b, o + 4, none⟩ = some (.int .i64 n.sw) := N2.out.cells.2.2.2.2.1
  have x5 : W2.cell? ⟨b, o + 5, none⟩ = some (.int .i64 n.was) := N2.out.cells.2.2.2.2.2.1
  obtain ⟨y0, _, _, _, y4, y5, y6, _⟩ := M2.out.cells
  go_upto_region 3 with fail
  go_quiet (fail)
  obtain ⟨W3, hW3⟩ : ∃ X, X = W2.drewN nq := ⟨_, rfl⟩
  have KK : Kp W2 W3 non := by rw [hW3]; exact (Kp.refl _ non).drewN _
  have N3 : Hid (NdX W3 b o A0 n) := N2.out.keep KK (fun f => f)
  have M3 : Hid (MgAt W3 B m) := M2.out.keep KK (fun f => f)
  have K3 : Hid (Kp w W3 (fun k => k = b)) := K2.out.trans KK (fun _ f => f.elim)
  rw [← hW3]
  clear KK hW3 K2 M2 N2
  clear x0 x1 x2 x3 x4 x5 y0 y4 y5 y6
  have x0 : W3.cell? ⟨b, o, none⟩ = some (.int .i64 n.cur) := N3.out.cells.1
  have x1 : W3.cell? ⟨b, o + 1, none⟩ = some (.int .i64 n.prev) := N3.out.cells.2.1
  have x2 : W3.cell? ⟨b, o + 2, none⟩ = some (.int .i64 n.ep) := N3.out.cells.2.2.1
  have x3 : W3.cell? ⟨b, o + 3, none⟩ = some (.int .i64 n.sq) := N3.out.cells.2.2.2.1
  have x4 : W3.cell? ⟨b, o + 4, none⟩ = some (.int .i64 n.sw) := N3.out.cells.2.2.2.2.1
  have x5 : W3.cell? ⟨b, o + 5, none⟩ = some (.int .i64 n.was) := N3.out.cells.2.2.2.2.2.1
  obtain ⟨y0, _, _, _, y4, y5, y6, _⟩ := M3.out.cells
  go_wp2_with fail
  go_ret
  exact ⟨rfl, N3.out, K3.out⟩
set_option maxHeartbeats 8000000 in
set_option maxRecDepth 100000 in
set_option linter.unusedSimpArgs false in
set_option linter.unusedVariables false in
theorem order_B2 {w : World} {b o : Nat} {A0 : Array Value} {n : Nd} (h : NdX w b o A0 n) (m : Mg) (c : m.ep = n.ep ∧ m.sq = n.sq ∧ m.kind = 5 ∧ ¬ n.cur = m.ver) :
    Calls Try.prog 64 #[.pointer (some ⟨b, o, none⟩), .agg (mgV m)] w fun e w' => e = .returned (.int .i64 122) ∧ NdX w' b o A0 n ∧ Kp w w' (fun k => k = b) := by
  obtain ⟨B, hB⟩ : ∃ B, B = w.heap.size := ⟨_, rfl⟩
  obtain ⟨W0, hW0⟩ : ∃ W0, W0 = w.alloc (.cells (mgV m) 44) := ⟨_, rfl⟩
  have b0 : Hid (Below w.heap.size w W0) := by rw [hW0]; exact (Below.refl _ w).alloc (Nat.le_refl _) _
  have K0 : Hid (Kp w W0 (fun k => k = b)) := Kp.of_below b0.out _
  have m0 : MgAt W0 B m := by rw [hW0, hB]; exact MgAt.new w m
  have n0 : NdX W0 b o A0 n := h.keep (Kp.of_below b0.out non) (fun f => f)
  have hne : Hid (B ≠ b) := by
    obtain ⟨A, h⟩ := h
    have := blk_lt h.ob
    exact fun e => by omega
  have HB := hide hB
  obtain ⟨y0, _, _, _, y4, y5, y6, _⟩ := m0.cells
  obtain ⟨x0, x1, x2, x3, x4, x5, _, _⟩ := n0.cells
  have M0 := hide m0
  have N0 := hide n0
  clear h m0 n0
  have q0 : decide (m.ep < n.ep) = false := decide_eq_false (by omega)
  have q1 : (m.ep == n.ep) = true := by simpa using (by omega : m.ep = n.ep)
  have q2 : decide (m.sq < n.sq) = false := decide_eq_false (by omega)
  have q3 : (m.sq == n.sq) = true := by simpa using (by omega : m.sq = n.sq)
  have q4 : (m.kind == 5) = true := by simpa using (by omega : m.kind = 5)
  have q5 : (n.cur != m.ver) = true := by simpa using (by omega : ¬ n.cur = m.ver)
  clear c
  go_enter Try.func64, Try.ntmps64
  go_upto_region 1 with fail
  rw [← hW0, ← HB.out]
  clear hW0 hB
  go_quiet (fail)
  obtain ⟨W1, hW1⟩ : ∃ X, X = W0.drewN nq := ⟨_, rfl⟩
  have KK : Kp W0 W1 non := by rw [hW1]; exact (Kp.refl _ non).drewN _
  have N1 : Hid (NdX W1 b o A0 n) := N0.out.keep KK (fun f => f)
  have M1 : Hid (MgAt W1 B m) := M0.out.keep KK (fun f => f)
  have K1 : Hid (Kp w W1 (fun k => k = b)) := K0.out.trans KK (fun _ f => f.elim)
  rw [← hW1]
  clear KK hW1 K0 M0 N0
  clear x0 x1 x2 x3 x4 x5 y0 y4 y5 y6
  have x0 : W1.cell? ⟨b, o, none⟩ = some (.int .i64 n.cur) := N1.out.cells.1
  have x1 : W1.cell? ⟨b, o + 1, none⟩ = some (.int .i64 n.prev) := N1.out.cells.2.1
  have x2 : W1.cell? ⟨b, o + 2, none⟩ = some (.int .i64 n.ep) := N1.out.cells.2.2.1
  have x3 : W1.cell? ⟨b, o + 3, none⟩ = some (.int .i64 n.sq) := N1.out.cells.2.2.2.1
  have x4 : W1.cell? ⟨b, o + 4, none⟩ = some (.int .i64 n.sw) := N1.out.cells.2.2.2.2.1
  have x5 : W1.cell? ⟨b, o + 5, none⟩ = some (.int .i64 n.was) := N1.out.cells.2.2.2.2.2.1
  obtain ⟨y0, _, _, _, y4, y5, y6, _⟩ := M1.out.cells
  go_upto_region 2 with fail
  go_quiet (fail)
  obtain ⟨W2, hW2⟩ : ∃ X, X = W1.drewN nq := ⟨_, rfl⟩
  have KK : Kp W1 W2 non := by rw [hW2]; exact (Kp.refl _ non).drewN _
  have N2 : Hid (NdX W2 b o A0 n) := N1.out.keep KK (fun f => f)
  have M2 : Hid (MgAt W2 B m) := M1.out.keep KK (fun f => f)
  have K2 : Hid (Kp w W2 (fun k => k = b)) := K1.out.trans KK (fun _ f => f.elim)
  rw [← hW2]
  clear KK hW2 K1 M1 N1
  clear x0 x1 x2 x3 x4 x5 y0 y4 y5 y6
  have x0 : W2.cell? ⟨b, o, none⟩ = some (.int .i64 n.cur) := N2.out.cells.1
  have x1 : W2.cell? ⟨b, o + 1, none⟩ = some (.int .i64 n.prev) := N2.out.cells.2.1
  have x2 : W2.cell? ⟨b, o + 2, none⟩ = some (.int .i64 n.ep) := N2.out.cells.2.2.1
  have x3 : W2.cell? ⟨b, o + 3, none⟩ = some (.int .i64 n.sq) := N2.out.cells.2.2.2.1
  have x4 : W2.cell? ⟨b, o + 4, none⟩ = some (.int .i64 n.sw) := N2.out.cells.2.2.2.2.1
  have x5 : W2.cell? ⟨b, o + 5, none⟩ = some (.int .i64 n.was) := N2.out.cells.2.2.2.2.2.1
  obtain ⟨y0, _, _, _, y4, y5, y6, _⟩ := M2.out.cells
  go_upto_region 3 with fail
  go_quiet (fail)
  obtain ⟨W3, hW3⟩ : ∃ X, X = W2.drewN nq := ⟨_, rfl⟩
  have KK : Kp W2 W3 non := by rw [hW3]; exact (Kp.refl _ non).drewN _
  have N3 : Hid (NdX W3 b o A0 n) := N2.out.keep KK (fun f => f)
  have M3 : Hid (MgAt W3 B m) := M2.out.keep KK (fun f => f)
  have K3 : Hid (Kp w W3 (fun k => k = b)) := K2.out.trans KK (fun _ f => f.elim)
  rw [← hW3]
  clear KK hW3 K2 M2 N2
  clear x0 x1 x2 x3 x4 x5 y0 y4 y5 y6
  have x0 : W3.cell? ⟨b, o, none⟩ = some (.int .i64 n.cur) := N3.out.cells.1
  have x1 : W3.cell? ⟨b, o + 1, none⟩ = some (.int .i64 n.prev) := N3.out.cells.2.1
  have x2 : W3.cell? ⟨b, o + 2, none⟩ = some (.int .i64 n.ep) := N3.out.cells.2.2.1
  have x3 : W3.cell? ⟨b, o + 3, none⟩ = some (.int .i64 n.sq) := N3.out.cells.2.2.2.1
  have x4 : W3.cell? ⟨b, o + 4, none⟩ = some (.int .i64 n.sw) := N3.out.cells.2.2.2.2.1
  have x5 : W3.cell? ⟨b, o + 5, none⟩ = some (.int .i64 n.was) := N3.out.cells.2.2.2.2.2.1
  obtain ⟨y0, _, _, _, y4, y5, y6, _⟩ := M3.out.cells
  go_wp2_with fail
  go_ret
  exact ⟨rfl, N3.out, K3.out⟩
set_option maxHeartbeats 8000000 in
set_option maxRecDepth 100000 in
set_option linter.unusedSimpArgs false in
set_option linter.unusedVariables false in
theorem order_B3 {w : World} {b o : Nat} {A0 : Array Value} {n : Nd} (h : NdX w b o A0 n) (m : Mg) (c : m.ep = n.ep ∧ m.sq = n.sq ∧ m.kind = 5 ∧ n.cur = m.ver) :
    Calls Try.prog 64 #[.pointer (some ⟨b, o, none⟩), .agg (mgV m)] w fun e w' => e = .returned (.int .i64 0) ∧ NdX w' b o A0 n ∧ Kp w w' (fun k => k = b) := by
  obtain ⟨B, hB⟩ : ∃ B, B = w.heap.size := ⟨_, rfl⟩
  obtain ⟨W0, hW0⟩ : ∃ W0, W0 = w.alloc (.cells (mgV m) 44) := ⟨_, rfl⟩
  have b0 : Hid (Below w.heap.size w W0) := by rw [hW0]; exact (Below.refl _ w).alloc (Nat.le_refl _) _
  have K0 : Hid (Kp w W0 (fun k => k = b)) := Kp.of_below b0.out _
  have m0 : MgAt W0 B m := by rw [hW0, hB]; exact MgAt.new w m
  have n0 : NdX W0 b o A0 n := h.keep (Kp.of_below b0.out non) (fun f => f)
  have hne : Hid (B ≠ b) := by
    obtain ⟨A, h⟩ := h
    have := blk_lt h.ob
    exact fun e => by omega
  have HB := hide hB
  obtain ⟨y0, _, _, _, y4, y5, y6, _⟩ := m0.cells
  obtain ⟨x0, x1, x2, x3, x4, x5, _, _⟩ := n0.cells
  have M0 := hide m0
  have N0 := hide n0
  clear h m0 n0
  have q0 : decide (m.ep < n.ep) = false := decide_eq_false (by omega)
  have q1 : (m.ep == n.ep) = true := by simpa using (by omega : m.ep = n.ep)
  have q2 : decide (m.sq < n.sq) = false := decide_eq_false (by omega)
  have q3 : (m.sq == n.sq) = true := by simpa using (by omega : m.sq = n.sq)
  have q4 : (m.kind == 5) = true := by simpa using (by omega : m.kind = 5)
  have q5 : (n.cur != m.ver) = false := by simpa using (by omega : n.cur = m.ver)
  clear c
  go_enter Try.func64, Try.ntmps64
  go_upto_region 1 with fail
  rw [← hW0, ← HB.out]
  clear hW0 hB
  go_quiet (fail)
  obtain ⟨W1, hW1⟩ : ∃ X, X = W0.drewN nq := ⟨_, rfl⟩
  have KK : Kp W0 W1 non := by rw [hW1]; exact (Kp.refl _ non).drewN _
  have N1 : Hid (NdX W1 b o A0 n) := N0.out.keep KK (fun f => f)
  have M1 : Hid (MgAt W1 B m) := M0.out.keep KK (fun f => f)
  have K1 : Hid (Kp w W1 (fun k => k = b)) := K0.out.trans KK (fun _ f => f.elim)
  rw [← hW1]
  clear KK hW1 K0 M0 N0
  clear x0 x1 x2 x3 x4 x5 y0 y4 y5 y6
  have x0 : W1.cell? ⟨b, o, none⟩ = some (.int .i64 n.cur) := N1.out.cells.1
  have x1 : W1.cell? ⟨b, o + 1, none⟩ = some (.int .i64 n.prev) := N1.out.cells.2.1
  have x2 : W1.cell? ⟨b, o + 2, none⟩ = some (.int .i64 n.ep) := N1.out.cells.2.2.1
  have x3 : W1.cell? ⟨b, o + 3, none⟩ = some (.int .i64 n.sq) := N1.out.cells.2.2.2.1
  have x4 : W1.cell? ⟨b, o + 4, none⟩ = some (.int .i64 n.sw) := N1.out.cells.2.2.2.2.1
  have x5 : W1.cell? ⟨b, o + 5, none⟩ = some (.int .i64 n.was) := N1.out.cells.2.2.2.2.2.1
  obtain ⟨y0, _, _, _, y4, y5, y6, _⟩ := M1.out.cells
  go_upto_region 2 with fail
  go_quiet (fail)
  obtain ⟨W2, hW2⟩ : ∃ X, X = W1.drewN nq := ⟨_, rfl⟩
  have KK : Kp W1 W2 non := by rw [hW2]; exact (Kp.refl _ non).drewN _
  have N2 : Hid (NdX W2 b o A0 n) := N1.out.keep KK (fun f => f)
  have M2 : Hid (MgAt W2 B m) := M1.out.keep KK (fun f => f)
  have K2 : Hid (Kp w W2 (fun k => k = b)) := K1.out.trans KK (fun _ f => f.elim)
  rw [← hW2]
  clear KK hW2 K1 M1 N1
  clear x0 x1 x2 x3 x4 x5 y0 y4 y5 y6
  have x0 : W2.cell? ⟨b, o, none⟩ = some (.int .i64 n.cur) := N2.out.cells.1
  have x1 : W2.cell? ⟨b, o + 1, none⟩ = some (.int .i64 n.prev) := N2.out.cells.2.1
  have x2 : W2.cell? ⟨b, o + 2, none⟩ = some (.int .i64 n.ep) := N2.out.cells.2.2.1
  have x3 : W2.cell? ⟨b, o + 3, none⟩ = some (.int .i64 n.sq) := N2.out.cells.2.2.2.1
  have x4 : W2.cell? ⟨b, o + 4, none⟩ = some (.int .i64 n.sw) := N2.out.cells.2.2.2.2.1
  have x5 : W2.cell? ⟨b, o + 5, none⟩ = some (.int .i64 n.was) := N2.out.cells.2.2.2.2.2.1
  obtain ⟨y0, _, _, _, y4, y5, y6, _⟩ := M2.out.cells
  go_upto_region 3 with fail
  go_quiet (fail)
  obtain ⟨W3, hW3⟩ : ∃ X, X = W2.drewN nq := ⟨_, rfl⟩
  have KK : Kp W2 W3 non := by rw [hW3]; exact (Kp.refl _ non).drewN _
  have N3 : Hid (NdX W3 b o A0 n) := N2.out.keep KK (fun f => f)
  have M3 : Hid (MgAt W3 B m) := M2.out.keep KK (fun f => f)
  have K3 : Hid (Kp w W3 (fun k => k = b)) := K2.out.trans KK (fun _ f => f.elim)
  rw [← hW3]
  clear KK hW3 K2 M2 N2
  clear x0 x1 x2 x3 x4 x5 y0 y4 y5 y6
  have x0 : W3.cell? ⟨b, o, none⟩ = some (.int .i64 n.cur) := N3.out.cells.1
  have x1 : W3.cell? ⟨b, o + 1, none⟩ = some (.int .i64 n.prev) := N3.out.cells.2.1
  have x2 : W3.cell? ⟨b, o + 2, none⟩ = some (.int .i64 n.ep) := N3.out.cells.2.2.1
  have x3 : W3.cell? ⟨b, o + 3, none⟩ = some (.int .i64 n.sq) := N3.out.cells.2.2.2.1
  have x4 : W3.cell? ⟨b, o + 4, none⟩ = some (.int .i64 n.sw) := N3.out.cells.2.2.2.2.1
  have x5 : W3.cell? ⟨b, o + 5, none⟩ = some (.int .i64 n.was) := N3.out.cells.2.2.2.2.2.1
  obtain ⟨y0, _, _, _, y4, y5, y6, _⟩ := M3.out.cells
  go_wp2_with fail
  go_ret
  exact ⟨rfl, N3.out, K3.out⟩
set_option maxHeartbeats 8000000 in
set_option maxRecDepth 100000 in
set_option linter.unusedSimpArgs false in
set_option linter.unusedVariables false in
theorem order_B4 {w : World} {b o : Nat} {A0 : Array Value} {n : Nd} (h : NdX w b o A0 n) (m : Mg) (c : m.ep = n.ep ∧ m.sq = n.sq ∧ ¬ m.kind = 5) :
    Calls Try.prog 64 #[.pointer (some ⟨b, o, none⟩), .agg (mgV m)] w fun e w' => e = .returned (.int .i64 0) ∧ NdX w' b o A0 n ∧ Kp w w' (fun k => k = b) := by
  obtain ⟨B, hB⟩ : ∃ B, B = w.heap.size := ⟨_, rfl⟩
  obtain ⟨W0, hW0⟩ : ∃ W0, W0 = w.alloc (.cells (mgV m) 44) := ⟨_, rfl⟩
  have b0 : Hid (Below w.heap.size w W0) := by rw [hW0]; exact (Below.refl _ w).alloc (Nat.le_refl _) _
  have K0 : Hid (Kp w W0 (fun k => k = b)) := Kp.of_below b0.out _
  have m0 : MgAt W0 B m := by rw [hW0, hB]; exact MgAt.new w m
  have n0 : NdX W0 b o A0 n := h.keep (Kp.of_below b0.out non) (fun f => f)
  have hne : Hid (B ≠ b) := by
    obtain ⟨A, h⟩ := h
    have := blk_lt h.ob
    exact fun e => by omega
  have HB := hide hB
  obtain ⟨y0, _, _, _, y4, y5, y6, _⟩ := m0.cells
  obtain ⟨x0, x1, x2, x3, x4, x5, _, _⟩ := n0.cells
  have M0 := hide m0
  have N0 := hide n0
  clear h m0 n0
  have q0 : decide (m.ep < n.ep) = false := decide_eq_false (by omega)
  have q1 : (m.ep == n.ep) = true := by simpa using (by omega : m.ep = n.ep)
  have q2 : decide (m.sq < n.sq) = false := decide_eq_false (by omega)
  have q3 : (m.sq == n.sq) = true := by simpa using (by omega : m.sq = n.sq)
  have q4 : (m.kind == 5) = false := by simpa using (by omega : ¬ m.kind = 5)
  clear c
  go_enter Try.func64, Try.ntmps64
  go_upto_region 1 with fail
  rw [← hW0, ← HB.out]
  clear hW0 hB
  go_quiet (fail)
  obtain ⟨W1, hW1⟩ : ∃ X, X = W0.drewN nq := ⟨_, rfl⟩
  have KK : Kp W0 W1 non := by rw [hW1]; exact (Kp.refl _ non).drewN _
  have N1 : Hid (NdX W1 b o A0 n) := N0.out.keep KK (fun f => f)
  have M1 : Hid (MgAt W1 B m) := M0.out.keep KK (fun f => f)
  have K1 : Hid (Kp w W1 (fun k => k = b)) := K0.out.trans KK (fun _ f => f.elim)
  rw [← hW1]
  clear KK hW1 K0 M0 N0
  clear x0 x1 x2 x3 x4 x5 y0 y4 y5 y6
  have x0 : W1.cell? ⟨b, o, none⟩ = some (.int .i64 n.cur) := N1.out.cells.1
  have x1 : W1.cell? ⟨b, o + 1, none⟩ = some (.int .i64 n.prev) := N1.out.cells.2.1
  have x2 : W1.cell? ⟨b, o + 2, none⟩ = some (.int .i64 n.ep) := N1.out.cells.2.2.1
  have x3 : W1.cell? ⟨b, o + 3, none⟩ = some (.int .i64 n.sq) := N1.out.cells.2.2.2.1
  have x4 : W1.cell? ⟨b, o + 4, none⟩ = some (.int .i64 n.sw) := N1.out.cells.2.2.2.2.1
  have x5 : W1.cell? ⟨b, o + 5, none⟩ = some (.int .i64 n.was) := N1.out.cells.2.2.2.2.2.1
  obtain ⟨y0, _, _, _, y4, y5, y6, _⟩ := M1.out.cells
  go_upto_region 2 with fail
  go_quiet (fail)
  obtain ⟨W2, hW2⟩ : ∃ X, X = W1.drewN nq := ⟨_, rfl⟩
  have KK : Kp W1 W2 non := by rw [hW2]; exact (Kp.refl _ non).drewN _
  have N2 : Hid (NdX W2 b o A0 n) := N1.out.keep KK (fun f => f)
  have M2 : Hid (MgAt W2 B m) := M1.out.keep KK (fun f => f)
  have K2 : Hid (Kp w W2 (fun k => k = b)) := K1.out.trans KK (fun _ f => f.elim)
  rw [← hW2]
  clear KK hW2 K1 M1 N1
  clear x0 x1 x2 x3 x4 x5 y0 y4 y5 y6
  have x0 : W2.cell? ⟨b, o, none⟩ = some (.int .i64 n.cur) := N2.out.cells.1
  have x1 : W2.cell? ⟨b, o + 1, none⟩ = some (.int .i64 n.prev) := N2.out.cells.2.1
  have x2 : W2.cell? ⟨b, o + 2, none⟩ = some (.int .i64 n.ep) := N2.out.cells.2.2.1
  have x3 : W2.cell? ⟨b, o + 3, none⟩ = some (.int .i64 n.sq) := N2.out.cells.2.2.2.1
  have x4 : W2.cell? ⟨b, o + 4, none⟩ = some (.int .i64 n.sw) := N2.out.cells.2.2.2.2.1
  have x5 : W2.cell? ⟨b, o + 5, none⟩ = some (.int .i64 n.was) := N2.out.cells.2.2.2.2.2.1
  obtain ⟨y0, _, _, _, y4, y5, y6, _⟩ := M2.out.cells
  go_upto_region 3 with fail
  go_quiet (fail)
  obtain ⟨W3, hW3⟩ : ∃ X, X = W2.drewN nq := ⟨_, rfl⟩
  have KK : Kp W2 W3 non := by rw [hW3]; exact (Kp.refl _ non).drewN _
  have N3 : Hid (NdX W3 b o A0 n) := N2.out.keep KK (fun f => f)
  have M3 : Hid (MgAt W3 B m) := M2.out.keep KK (fun f => f)
  have K3 : Hid (Kp w W3 (fun k => k = b)) := K2.out.trans KK (fun _ f => f.elim)
  rw [← hW3]
  clear KK hW3 K2 M2 N2
  clear x0 x1 x2 x3 x4 x5 y0 y4 y5 y6
  have x0 : W3.cell? ⟨b, o, none⟩ = some (.int .i64 n.cur) := N3.out.cells.1
  have x1 : W3.cell? ⟨b, o + 1, none⟩ = some (.int .i64 n.prev) := N3.out.cells.2.1
  have x2 : W3.cell? ⟨b, o + 2, none⟩ = some (.int .i64 n.ep) := N3.out.cells.2.2.1
  have x3 : W3.cell? ⟨b, o + 3, none⟩ = some (.int .i64 n.sq) := N3.out.cells.2.2.2.1
  have x4 : W3.cell? ⟨b, o + 4, none⟩ = some (.int .i64 n.sw) := N3.out.cells.2.2.2.2.1
  have x5 : W3.cell? ⟨b, o + 5, none⟩ = some (.int .i64 n.was) := N3.out.cells.2.2.2.2.2.1
  obtain ⟨y0, _, _, _, y4, y5, y6, _⟩ := M3.out.cells
  go_wp2_with fail
  go_ret
  exact ⟨rfl, N3.out, K3.out⟩
set_option maxHeartbeats 8000000 in
set_option maxRecDepth 100000 in
set_option linter.unusedSimpArgs false in
set_option linter.unusedVariables false in
theorem order_B5 {w : World} {b o : Nat} {A0 : Array Value} {n : Nd} (h : NdX w b o A0 n) (m : Mg) (c : m.ep = n.ep ∧ n.sq < m.sq ∧ m.kind = 5) :
    Calls Try.prog 64 #[.pointer (some ⟨b, o, none⟩), .agg (mgV m)] w fun e w' => e = .returned (.int .i64 0) ∧ NdX w' b o A0 { n with cur := m.ver, prev := n.cur, ep := m.ep, sq := m.sq, sw := m.ep, was := n.cur } ∧ Kp w w' (fun k => k = b) := by
  obtain ⟨B, hB⟩ : ∃ B, B = w.heap.size := ⟨_, rfl⟩
  obtain ⟨W0, hW0⟩ : ∃ W0, W0 = w.alloc (.cells (mgV m) 44) := ⟨_, rfl⟩
  have b0 : Hid (Below w.heap.size w W0) := by rw [hW0]; exact (Below.refl _ w).alloc (Nat.le_refl _) _
  have K0 : Hid (Kp w W0 (fun k => k = b)) := Kp.of_below b0.out _
  have m0 : MgAt W0 B m := by rw [hW0, hB]; exact MgAt.new w m
  have n0 : NdX W0 b o A0 n := h.keep (Kp.of_below b0.out non) (fun f => f)
  have hne : Hid (B ≠ b) := by
    obtain ⟨A, h⟩ := h
    have := blk_lt h.ob
    exact fun e => by omega
  have HB := hide hB
  obtain ⟨y0, _, _, _, y4, y5, y6, _⟩ := m0.cells
  obtain ⟨x0, x1, x2, x3, x4, x5, _, _⟩ := n0.cells
  have M0 := hide m0
  have N0 := hide n0
  clear h m0 n0
  have q0 : decide (m.ep < n.ep) = false := decide_eq_false (by omega)
  have q1 : (m.ep == n.ep) = true := by simpa using (by omega : m.ep = n.ep)
  have q2 : decide (m.sq < n.sq) = false := decide_eq_false (by omega)
  have q3 : (m.sq == n.sq) = false := by simpa using (by omega : ¬ m.sq = n.sq)
  have q4 : (m.kind == 5) = true := by simpa using (by omega : m.kind = 5)
  clear c
  go_enter Try.func64, Try.ntmps64
  go_upto_region 1 with fail
  rw [← hW0, ← HB.out]
  clear hW0 hB
  go_quiet (fail)
  obtain ⟨W1, hW1⟩ : ∃ X, X = W0.drewN nq := ⟨_, rfl⟩
  have KK : Kp W0 W1 non := by rw [hW1]; exact (Kp.refl _ non).drewN _
  have N1 : Hid (NdX W1 b o A0 n) := N0.out.keep KK (fun f => f)
  have M1 : Hid (MgAt W1 B m) := M0.out.keep KK (fun f => f)
  have K1 : Hid (Kp w W1 (fun k => k = b)) := K0.out.trans KK (fun _ f => f.elim)
  rw [← hW1]
  clear KK hW1 K0 M0 N0
  clear x0 x1 x2 x3 x4 x5 y0 y4 y5 y6
  have x0 : W1.cell? ⟨b, o, none⟩ = some (.int .i64 n.cur) := N1.out.cells.1
  have x1 : W1.cell? ⟨b, o + 1, none⟩ = some (.int .i64 n.prev) := N1.out.cells.2.1
  have x2 : W1.cell? ⟨b, o + 2, none⟩ = some (.int .i64 n.ep) := N1.out.cells.2.2.1
  have x3 : W1.cell? ⟨b, o + 3, none⟩ = some (.int .i64 n.sq) := N1.out.cells.2.2.2.1
  have x4 : W1.cell? ⟨b, o + 4, none⟩ = some (.int .i64 n.sw) := N1.out.cells.2.2.2.2.1
  have x5 : W1.cell? ⟨b, o + 5, none⟩ = some (.int .i64 n.was) := N1.out.cells.2.2.2.2.2.1
  obtain ⟨y0, _, _, _, y4, y5, y6, _⟩ := M1.out.cells
  go_upto_region 2 with fail
  go_quiet (fail)
  obtain ⟨W2, hW2⟩ : ∃ X, X = W1.drewN nq := ⟨_, rfl⟩
  have KK : Kp W1 W2 non := by rw [hW2]; exact (Kp.refl _ non).drewN _
  have N2 : Hid (NdX W2 b o A0 n) := N1.out.keep KK (fun f => f)
  have M2 : Hid (MgAt W2 B m) := M1.out.keep KK (fun f => f)
  have K2 : Hid (Kp w W2 (fun k => k = b)) := K1.out.trans KK (fun _ f => f.elim)
  rw [← hW2]
  clear KK hW2 K1 M1 N1
  clear x0 x1 x2 x3 x4 x5 y0 y4 y5 y6
  have x0 : W2.cell? ⟨b, o, none⟩ = some (.int .i64 n.cur) := N2.out.cells.1
  have x1 : W2.cell? ⟨b, o + 1, none⟩ = some (.int .i64 n.prev) := N2.out.cells.2.1
  have x2 : W2.cell? ⟨b, o + 2, none⟩ = some (.int .i64 n.ep) := N2.out.cells.2.2.1
  have x3 : W2.cell? ⟨b, o + 3, none⟩ = some (.int .i64 n.sq) := N2.out.cells.2.2.2.1
  have x4 : W2.cell? ⟨b, o + 4, none⟩ = some (.int .i64 n.sw) := N2.out.cells.2.2.2.2.1
  have x5 : W2.cell? ⟨b, o + 5, none⟩ = some (.int .i64 n.was) := N2.out.cells.2.2.2.2.2.1
  obtain ⟨y0, _, _, _, y4, y5, y6, _⟩ := M2.out.cells
  go_upto_region 3 with fail
  go_quiet (fail)
  obtain ⟨W3, hW3⟩ : ∃ X, X = W2.drewN nq := ⟨_, rfl⟩
  have KK : Kp W2 W3 non := by rw [hW3]; exact (Kp.refl _ non).drewN _
  have N3 : Hid (NdX W3 b o A0 n) := N2.out.keep KK (fun f => f)
  have M3 : Hid (MgAt W3 B m) := M2.out.keep KK (fun f => f)
  have K3 : Hid (Kp w W3 (fun k => k = b)) := K2.out.trans KK (fun _ f => f.elim)
  rw [← hW3]
  clear KK hW3 K2 M2 N2
  clear x0 x1 x2 x3 x4 x5 y0 y4 y5 y6
  have x0 : W3.cell? ⟨b, o, none⟩ = some (.int .i64 n.cur) := N3.out.cells.1
  have x1 : W3.cell? ⟨b, o + 1, none⟩ = some (.int .i64 n.prev) := N3.out.cells.2.1
  have x2 : W3.cell? ⟨b, o + 2, none⟩ = some (.int .i64 n.ep) := N3.out.cells.2.2.1
  have x3 : W3.cell? ⟨b, o + 3, none⟩ = some (.int .i64 n.sq) := N3.out.cells.2.2.2.1
  have x4 : W3.cell? ⟨b, o + 4, none⟩ = some (.int .i64 n.sw) := N3.out.cells.2.2.2.2.1
  have x5 : W3.cell? ⟨b, o + 5, none⟩ = some (.int .i64 n.was) := N3.out.cells.2.2.2.2.2.1
  obtain ⟨y0, _, _, _, y4, y5, y6, _⟩ := M3.out.cells
  go_upto_region 8 with fail
  obtain ⟨W4, hW4⟩ : ∃ X, X = W3.setCell ⟨b, o + 5, none⟩ (.int .i64 n.cur) := ⟨_, rfl⟩
  have KK : Hid (Kp W3 W4 (fun k => k = b)) := by rw [hW4]; exact (Kp.refl _ (fun k => k = b)).set (Or.inl rfl) _ _
  have N4 : Hid (NdX W4 b o A0 { n with was := n.cur }) := by rw [hW4]; exact N3.out.set _ 5 _ (by decide) rfl (fun i hi hn => by rcases i with _|_|_|_|_|_|_|_|i <;> first | rfl | omega | exact absurd rfl hn)
  have M4 : Hid (MgAt W4 B m) := M3.out.keep KK.out hne.out
  have K4 : Hid (Kp w W4 (fun k => k = b)) := K3.out.trans KK.out (fun _ f => Or.inl f)
  have zf : W3.frozen? ⟨b, o + 5, none⟩ = false := N3.out.fz _
  replace hW4 := hide hW4
  go_upto_region 9 with fail
  rw [← hW4.out]
  clear KK hW4 zf K3 M3 N3
  clear x0 x1 x2 x3 x4 x5 y0 y4 y5 y6
  have x0 : W4.cell? ⟨b, o, none⟩ = some (.int .i64 n.cur) := N4.out.cells.1
  have x1 : W4.cell? ⟨b, o + 1, none⟩ = some (.int .i64 n.prev) := N4.out.cells.2.1
  have x2 : W4.cell? ⟨b, o + 2, none⟩ = some (.int .i64 n.ep) := N4.out.cells.2.2.1
  have x3 : W4.cell? ⟨b, o + 3, none⟩ = some (.int .i64 n.sq) := N4.out.cells.2.2.2.1
  have x4 : W4.cell? ⟨b, o + 4, none⟩ = some (.int .i64 n.sw) := N4.out.cells.2.2.2.2.1
  have x5 : W4.cell? ⟨b, o + 5, none⟩ = some (.int .i64 n.cur) := N4.out.cells.2.2.2.2.2.1
  obtain ⟨y0, _, _, _, y4, y5, y6, _⟩ := M4.out.cells
  obtain ⟨W5, hW5⟩ : ∃ X, X = W4.setCell ⟨b, o + 4, none⟩ (.int .i64 m.ep) := ⟨_, rfl⟩
  have KK : Hid (Kp W4 W5 (fun k => k = b)) := by rw [hW5]; exact (Kp.refl _ (fun k => k = b)).set (Or.inl rfl) _ _
  have N5 : Hid (NdX W5 b o A0 { n with sw := m.ep, was := n.cur }) := by rw [hW5]; exact N4.out.set _ 4 _ (by decide) rfl (fun i hi hn => by rcases i with _|_|_|_|_|_|_|_|i <;> first | rfl | omega | exact absurd rfl hn)
  have M5 : Hid (MgAt W5 B m) := M4.out.keep KK.out hne.out
  have K5 : Hid (Kp w W5 (fun k => k = b)) := K4.out.trans KK.out (fun _ f => Or.inl f)
  have zf : W4.frozen? ⟨b, o + 4, none⟩ = false := N4.out.fz _
  replace hW5 := hide hW5
  go_upto_region 10 with fail
  rw [← hW5.out]
  clear KK hW5 zf K4 M4 N4
  clear x0 x1 x2 x3 x4 x5 y0 y4 y5 y6
  have x0 : W5.cell? ⟨b, o, none⟩ = some (.int .i64 n.cur) := N5.out.cells.1
  have x1 : W5.cell? ⟨b, o + 1, none⟩ = some (.int .i64 n.prev) := N5.out.cells.2.1
  have x2 : W5.cell? ⟨b, o + 2, none⟩ = some (.int .i64 n.ep) := N5.out.cells.2.2.1
  have x3 : W5.cell? ⟨b, o + 3, none⟩ = some (.int .i64 n.sq) := N5.out.cells.2.2.2.1
  have x4 : W5.cell? ⟨b, o + 4, none⟩ = some (.int .i64 m.ep) := N5.out.cells.2.2.2.2.1
  have x5 : W5.cell? ⟨b, o + 5, none⟩ = some (.int .i64 n.cur) := N5.out.cells.2.2.2.2.2.1
  obtain ⟨y0, _, _, _, y4, y5, y6, _⟩ := M5.out.cells
  obtain ⟨W6, hW6⟩ : ∃ X, X = W5.setCell ⟨b, o + 1, none⟩ (.int .i64 n.cur) := ⟨_, rfl⟩
  have KK : Hid (Kp W5 W6 (fun k => k = b)) := by rw [hW6]; exact (Kp.refl _ (fun k => k = b)).set (Or.inl rfl) _ _
  have N6 : Hid (NdX W6 b o A0 { n with prev := n.cur, sw := m.ep, was := n.cur }) := by rw [hW6]; exact N5.out.set _ 1 _ (by decide) rfl (fun i hi hn => by rcases i with _|_|_|_|_|_|_|_|i <;> first | rfl | omega | exact absurd rfl hn)
  have M6 : Hid (MgAt W6 B m) := M5.out.keep KK.out hne.out
  have K6 : Hid (Kp w W6 (fun k => k = b)) := K5.out.trans KK.out (fun _ f => Or.inl f)
  have zf : W5.frozen? ⟨b, o + 1, none⟩ = false := N5.out.fz _
  replace hW6 := hide hW6
  go_upto_region 11 with fail
  rw [← hW6.out]
  clear KK hW6 zf K5 M5 N5
  clear x0 x1 x2 x3 x4 x5 y0 y4 y5 y6
  have x0 : W6.cell? ⟨b, o, none⟩ = some (.int .i64 n.cur) := N6.out.cells.1
  have x1 : W6.cell? ⟨b, o + 1, none⟩ = some (.int .i64 n.cur) := N6.out.cells.2.1
  have x2 : W6.cell? ⟨b, o + 2, none⟩ = some (.int .i64 n.ep) := N6.out.cells.2.2.1
  have x3 : W6.cell? ⟨b, o + 3, none⟩ = some (.int .i64 n.sq) := N6.out.cells.2.2.2.1
  have x4 : W6.cell? ⟨b, o + 4, none⟩ = some (.int .i64 m.ep) := N6.out.cells.2.2.2.2.1
  have x5 : W6.cell? ⟨b, o + 5, none⟩ = some (.int .i64 n.cur) := N6.out.cells.2.2.2.2.2.1
  obtain ⟨y0, _, _, _, y4, y5, y6, _⟩ := M6.out.cells
  obtain ⟨W7, hW7⟩ : ∃ X, X = W6.setCell ⟨b, o, none⟩ (.int .i64 m.ver) := ⟨_, rfl⟩
  have KK : Hid (Kp W6 W7 (fun k => k = b)) := by rw [hW7]; exact (Kp.refl _ (fun k => k = b)).set (Or.inl rfl) _ _
  have N7 : Hid (NdX W7 b o A0 { n with cur := m.ver, prev := n.cur, sw := m.ep, was := n.cur }) := by rw [hW7]; exact N6.out.set _ 0 _ (by decide) rfl (fun i hi hn => by rcases i with _|_|_|_|_|_|_|_|i <;> first | rfl | omega | exact absurd rfl hn)
  have M7 : Hid (MgAt W7 B m) := M6.out.keep KK.out hne.out
  have K7 : Hid (Kp w W7 (fun k => k = b)) := K6.out.trans KK.out (fun _ f => Or.inl f)
  have zf : W6.frozen? ⟨b, o, none⟩ = false := N6.out.fz _
  replace hW7 := hide hW7
  go_upto_region 15 with fail
  rw [← hW7.out]
  clear KK hW7 zf K6 M6 N6
  clear x0 x1 x2 x3 x4 x5 y0 y4 y5 y6
  have x0 : W7.cell? ⟨b, o, none⟩ = some (.int .i64 m.ver) := N7.out.cells.1
  have x1 : W7.cell? ⟨b, o + 1, none⟩ = some (.int .i64 n.cur) := N7.out.cells.2.1
  have x2 : W7.cell? ⟨b, o + 2, none⟩ = some (.int .i64 n.ep) := N7.out.cells.2.2.1
  have x3 : W7.cell? ⟨b, o + 3, none⟩ = some (.int .i64 n.sq) := N7.out.cells.2.2.2.1
  have x4 : W7.cell? ⟨b, o + 4, none⟩ = some (.int .i64 m.ep) := N7.out.cells.2.2.2.2.1
  have x5 : W7.cell? ⟨b, o + 5, none⟩ = some (.int .i64 n.cur) := N7.out.cells.2.2.2.2.2.1
  obtain ⟨y0, _, _, _, y4, y5, y6, _⟩ := M7.out.cells
  obtain ⟨W8, hW8⟩ : ∃ X, X = W7.setCell ⟨b, o + 2, none⟩ (.int .i64 m.ep) := ⟨_, rfl⟩
  have KK : Hid (Kp W7 W8 (fun k => k = b)) := by rw [hW8]; exact (Kp.refl _ (fun k => k = b)).set (Or.inl rfl) _ _
  have N8 : Hid (NdX W8 b o A0 { n with cur := m.ver, prev := n.cur, ep := m.ep, sw := m.ep, was := n.cur }) := by rw [hW8]; exact N7.out.set _ 2 _ (by decide) rfl (fun i hi hn => by rcases i with _|_|_|_|_|_|_|_|i <;> first | rfl | omega | exact absurd rfl hn)
  have M8 : Hid (MgAt W8 B m) := M7.out.keep KK.out hne.out
  have K8 : Hid (Kp w W8 (fun k => k = b)) := K7.out.trans KK.out (fun _ f => Or.inl f)
  have zf : W7.frozen? ⟨b, o + 2, none⟩ = false := N7.out.fz _
  replace hW8 := hide hW8
  go_upto_region 16 with fail
  rw [← hW8.out]
  clear KK hW8 zf K7 M7 N7
  clear x0 x1 x2 x3 x4 x5 y0 y4 y5 y6
  have x0 : W8.cell? ⟨b, o, none⟩ = some (.int .i64 m.ver) := N8.out.cells.1
  have x1 : W8.cell? ⟨b, o + 1, none⟩ = some (.int .i64 n.cur) := N8.out.cells.2.1
  have x2 : W8.cell? ⟨b, o + 2, none⟩ = some (.int .i64 m.ep) := N8.out.cells.2.2.1
  have x3 : W8.cell? ⟨b, o + 3, none⟩ = some (.int .i64 n.sq) := N8.out.cells.2.2.2.1
  have x4 : W8.cell? ⟨b, o + 4, none⟩ = some (.int .i64 m.ep) := N8.out.cells.2.2.2.2.1
  have x5 : W8.cell? ⟨b, o + 5, none⟩ = some (.int .i64 n.cur) := N8.out.cells.2.2.2.2.2.1
  obtain ⟨y0, _, _, _, y4, y5, y6, _⟩ := M8.out.cells
  obtain ⟨W9, hW9⟩ : ∃ X, X = W8.setCell ⟨b, o + 3, none⟩ (.int .i64 m.sq) := ⟨_, rfl⟩
  have KK : Hid (Kp W8 W9 (fun k => k = b)) := by rw [hW9]; exact (Kp.refl _ (fun k => k = b)).set (Or.inl rfl) _ _
  have N9 : Hid (NdX W9 b o A0 { n with cur := m.ver, prev := n.cur, ep := m.ep, sq := m.sq, sw := m.ep, was := n.cur }) := by rw [hW9]; exact N8.out.set _ 3 _ (by decide) rfl (fun i hi hn => by rcases i with _|_|_|_|_|_|_|_|i <;> first | rfl | omega | exact absurd rfl hn)
  have M9 : Hid (MgAt W9 B m) := M8.out.keep KK.out hne.out
  have K9 : Hid (Kp w W9 (fun k => k = b)) := K8.out.trans KK.out (fun _ f => Or.inl f)
  have zf : W8.frozen? ⟨b, o + 3, none⟩ = false := N8.out.fz _
  replace hW9 := hide hW9
  go_upto_region 17 with fail
  rw [← hW9.out]
  clear KK hW9 zf K8 M8 N8
  clear x0 x1 x2 x3 x4 x5 y0 y4 y5 y6
  have x0 : W9.cell? ⟨b, o, none⟩ = some (.int .i64 m.ver) := N9.out.cells.1
  have x1 : W9.cell? ⟨b, o + 1, none⟩ = some (.int .i64 n.cur) := N9.out.cells.2.1
  have x2 : W9.cell? ⟨b, o + 2, none⟩ = some (.int .i64 m.ep) := N9.out.cells.2.2.1
  have x3 : W9.cell? ⟨b, o + 3, none⟩ = some (.int .i64 m.sq) := N9.out.cells.2.2.2.1
  have x4 : W9.cell? ⟨b, o + 4, none⟩ = some (.int .i64 m.ep) := N9.out.cells.2.2.2.2.1
  have x5 : W9.cell? ⟨b, o + 5, none⟩ = some (.int .i64 n.cur) := N9.out.cells.2.2.2.2.2.1
  obtain ⟨y0, _, _, _, y4, y5, y6, _⟩ := M9.out.cells
  go_wp2_with fail
  go_ret
  exact ⟨rfl, N9.out, K9.out⟩
set_option maxHeartbeats 8000000 in
set_option maxRecDepth 100000 in
set_option linter.unusedSimpArgs false in
set_option linter.unusedVariables false in
theorem order_B6 {w : World} {b o : Nat} {A0 : Array Value} {n : Nd} (h : NdX w b o A0 n) (m : Mg) (c : m.ep = n.ep ∧ n.sq < m.sq ∧ ¬ m.kind = 5) :
    Calls Try.prog 64 #[.pointer (some ⟨b, o, none⟩), .agg (mgV m)] w fun e w' => e = .returned (.int .i64 0) ∧ NdX w' b o A0 { n with cur := n.prev, ep := m.ep, sq := m.sq } ∧ Kp w w' (fun k => k = b) := by
  obtain ⟨B, hB⟩ : ∃ B, B = w.heap.size := ⟨_, rfl⟩
  obtain ⟨W0, hW0⟩ : ∃ W0, W0 = w.alloc (.cells (mgV m) 44) := ⟨_, rfl⟩
  have b0 : Hid (Below w.heap.size w W0) := by rw [hW0]; exact (Below.refl _ w).alloc (Nat.le_refl _) _
  have K0 : Hid (Kp w W0 (fun k => k = b)) := Kp.of_below b0.out _
  have m0 : MgAt W0 B m := by rw [hW0, hB]; exact MgAt.new w m
  have n0 : NdX W0 b o A0 n := h.keep (Kp.of_below b0.out non) (fun f => f)
  have hne : Hid (B ≠ b) := by
    obtain ⟨A, h⟩ := h
    have := blk_lt h.ob
    exact fun e => by omega
  have HB := hide hB
  obtain ⟨y0, _, _, _, y4, y5, y6, _⟩ := m0.cells
  obtain ⟨x0, x1, x2, x3, x4, x5, _, _⟩ := n0.cells
  have M0 := hide m0
  have N0 := hide n0
  clear h m0 n0
  have q0 : decide (m.ep < n.ep) = false := decide_eq_false (by omega)
  have q1 : (m.ep == n.ep) = true := by simpa using (by omega : m.ep = n.ep)
  have q2 : decide (m.sq < n.sq) = false := decide_eq_false (by omega)
  have q3 : (m.sq == n.sq) = false := by simpa using (by omega : ¬ m.sq = n.sq)
  have q4 : (m.kind == 5) = false := by simpa using (by omega : ¬ m.kind = 5)
  have q6 : (n.ep == m.ep) = true := by simpa using (by omega : n.ep = m.ep)
  clear c
  go_enter Try.func64, Try.ntmps64
  go_upto_region 1 with fail
  rw [← hW0, ← HB.out]
  clear hW0 hB
  go_quiet (fail)
  obtain ⟨W1, hW1⟩ : ∃ X, X = W0.drewN nq := ⟨_, rfl⟩
  have KK : Kp W0 W1 non := by rw [hW1]; exact (Kp.refl _ non).drewN _
  have N1 : Hid (NdX W1 b o A0 n) := N0.out.keep KK (fun f => f)
  have M1 : Hid (MgAt W1 B m) := M0.out.keep KK (fun f => f)
  have K1 : Hid (Kp w W1 (fun k => k = b)) := K0.out.trans KK (fun _ f => f.elim)
  rw [← hW1]
  clear KK hW1 K0 M0 N0
  clear x0 x1 x2 x3 x4 x5 y0 y4 y5 y6
  have x0 : W1.cell? ⟨b, o, none⟩ = some (.int .i64 n.cur) := N1.out.cells.1
  have x1 : W1.cell? ⟨b, o + 1, none⟩ = some (.int .i64 n.prev) := N1.out.cells.2.1
  have x2 : W1.cell? ⟨b, o + 2, none⟩ = some (.int .i64 n.ep) := N1.out.cells.2.2.1
  have x3 : W1.cell? ⟨b, o + 3, none⟩ = some (.int .i64 n.sq) := N1.out.cells.2.2.2.1
  have x4 : W1.cell? ⟨b, o + 4, none⟩ = some (.int .i64 n.sw) := N1.out.cells.2.2.2.2.1
  have x5 : W1.cell? ⟨b, o + 5, none⟩ = some (.int .i64 n.was) := N1.out.cells.2.2.2.2.2.1
  obtain ⟨y0, _, _, _, y4, y5, y6, _⟩ := M1.out.cells
  go_upto_region 2 with fail
  go_quiet (fail)
  obtain ⟨W2, hW2⟩ : ∃ X, X = W1.drewN nq := ⟨_, rfl⟩
  have KK : Kp W1 W2 non := by rw [hW2]; exact (Kp.refl _ non).drewN _
  have N2 : Hid (NdX W2 b o A0 n) := N1.out.keep KK (fun f => f)
  have M2 : Hid (MgAt W2 B m) := M1.out.keep KK (fun f => f)
  have K2 : Hid (Kp w W2 (fun k => k = b)) := K1.out.trans KK (fun _ f => f.elim)
  rw [← hW2]
  clear KK hW2 K1 M1 N1
  clear x0 x1 x2 x3 x4 x5 y0 y4 y5 y6
  have x0 : W2.cell? ⟨b, o, none⟩ = some (.int .i64 n.cur) := N2.out.cells.1
  have x1 : W2.cell? ⟨b, o + 1, none⟩ = some (.int .i64 n.prev) := N2.out.cells.2.1
  have x2 : W2.cell? ⟨b, o + 2, none⟩ = some (.int .i64 n.ep) := N2.out.cells.2.2.1
  have x3 : W2.cell? ⟨b, o + 3, none⟩ = some (.int .i64 n.sq) := N2.out.cells.2.2.2.1
  have x4 : W2.cell? ⟨b, o + 4, none⟩ = some (.int .i64 n.sw) := N2.out.cells.2.2.2.2.1
  have x5 : W2.cell? ⟨b, o + 5, none⟩ = some (.int .i64 n.was) := N2.out.cells.2.2.2.2.2.1
  obtain ⟨y0, _, _, _, y4, y5, y6, _⟩ := M2.out.cells
  go_upto_region 3 with fail
  go_quiet (fail)
  obtain ⟨W3, hW3⟩ : ∃ X, X = W2.drewN nq := ⟨_, rfl⟩
  have KK : Kp W2 W3 non := by rw [hW3]; exact (Kp.refl _ non).drewN _
  have N3 : Hid (NdX W3 b o A0 n) := N2.out.keep KK (fun f => f)
  have M3 : Hid (MgAt W3 B m) := M2.out.keep KK (fun f => f)
  have K3 : Hid (Kp w W3 (fun k => k = b)) := K2.out.trans KK (fun _ f => f.elim)
  rw [← hW3]
  clear KK hW3 K2 M2 N2
  clear x0 x1 x2 x3 x4 x5 y0 y4 y5 y6
  have x0 : W3.cell? ⟨b, o, none⟩ = some (.int .i64 n.cur) := N3.out.cells.1
  have x1 : W3.cell? ⟨b, o + 1, none⟩ = some (.int .i64 n.prev) := N3.out.cells.2.1
  have x2 : W3.cell? ⟨b, o + 2, none⟩ = some (.int .i64 n.ep) := N3.out.cells.2.2.1
  have x3 : W3.cell? ⟨b, o + 3, none⟩ = some (.int .i64 n.sq) := N3.out.cells.2.2.2.1
  have x4 : W3.cell? ⟨b, o + 4, none⟩ = some (.int .i64 n.sw) := N3.out.cells.2.2.2.2.1
  have x5 : W3.cell? ⟨b, o + 5, none⟩ = some (.int .i64 n.was) := N3.out.cells.2.2.2.2.2.1
  obtain ⟨y0, _, _, _, y4, y5, y6, _⟩ := M3.out.cells
  go_upto_region 12 with fail
  go_quiet (fail)
  obtain ⟨W4, hW4⟩ : ∃ X, X = W3.drewN nq := ⟨_, rfl⟩
  have KK : Kp W3 W4 non := by rw [hW4]; exact (Kp.refl _ non).drewN _
  have N4 : Hid (NdX W4 b o A0 n) := N3.out.keep KK (fun f => f)
  have M4 : Hid (MgAt W4 B m) := M3.out.keep KK (fun f => f)
  have K4 : Hid (Kp w W4 (fun k => k = b)) := K3.out.trans KK (fun _ f => f.elim)
  rw [← hW4]
  clear KK hW4 K3 M3 N3
  clear x0 x1 x2 x3 x4 x5 y0 y4 y5 y6
  have x0 : W4.cell? ⟨b, o, none⟩ = some (.int .i64 n.cur) := N4.out.cells.1
  have x1 : W4.cell? ⟨b, o + 1, none⟩ = some (.int .i64 n.prev) := N4.out.cells.2.1
  have x2 : W4.cell? ⟨b, o + 2, none⟩ = some (.int .i64 n.ep) := N4.out.cells.2.2.1
  have x3 : W4.cell? ⟨b, o + 3, none⟩ = some (.int .i64 n.sq) := N4.out.cells.2.2.2.1
  have x4 : W4.cell? ⟨b, o + 4, none⟩ = some (.int .i64 n.sw) := N4.out.cells.2.2.2.2.1
  have x5 : W4.cell? ⟨b, o + 5, none⟩ = some (.int .i64 n.was) := N4.out.cells.2.2.2.2.2.1
  obtain ⟨y0, _, _, _, y4, y5, y6, _⟩ := M4.out.cells
  go_upto_region 13 with fail
  obtain ⟨W5, hW5⟩ : ∃ X, X = W4.setCell ⟨b, o, none⟩ (.int .i64 n.prev) := ⟨_, rfl⟩
  have KK : Hid (Kp W4 W5 (fun k => k = b)) := by rw [hW5]; exact (Kp.refl _ (fun k => k = b)).set (Or.inl rfl) _ _
  have N5 : Hid (NdX W5 b o A0 { n with cur := n.prev }) := by rw [hW5]; exact N4.out.set _ 0 _ (by decide) rfl (fun i hi hn => by rcases i with _|_|_|_|_|_|_|_|i <;> first | rfl | omega | exact absurd rfl hn)
  have M5 : Hid (MgAt W5 B m) := M4.out.keep KK.out hne.out
  have K5 : Hid (Kp w W5 (fun k => k = b)) := K4.out.trans KK.out (fun _ f => Or.inl f)
  have zf : W4.frozen? ⟨b, o, none⟩ = false := N4.out.fz _
  replace hW5 := hide hW5
  go_upto_region 14 with fail
  rw [← hW5.out]
  clear KK hW5 zf K4 M4 N4
  clear x0 x1 x2 x3 x4 x5 y0 y4 y5 y6
  have x0 : W5.cell? ⟨b, o, none⟩ = some (.int .i64 n.prev) := N5.out.cells.1
  have x1 : W5.cell? ⟨b, o + 1, none⟩ = some (.int .i64 n.prev) := N5.out.cells.2.1
  have x2 : W5.cell? ⟨b, o + 2, none⟩ = some (.int .i64 n.ep) := N5.out.cells.2.2.1
  have x3 : W5.cell? ⟨b, o + 3, none⟩ = some (.int .i64 n.sq) := N5.out.cells.2.2.2.1
  have x4 : W5.cell? ⟨b, o + 4, none⟩ = some (.int .i64 n.sw) := N5.out.cells.2.2.2.2.1
  have x5 : W5.cell? ⟨b, o + 5, none⟩ = some (.int .i64 n.was) := N5.out.cells.2.2.2.2.2.1
  obtain ⟨y0, _, _, _, y4, y5, y6, _⟩ := M5.out.cells
  obtain ⟨W6, hW6⟩ : ∃ X, X = W5.setCell ⟨b, o + 1, none⟩ (.int .i64 n.prev) := ⟨_, rfl⟩
  have KK : Hid (Kp W5 W6 (fun k => k = b)) := by rw [hW6]; exact (Kp.refl _ (fun k => k = b)).set (Or.inl rfl) _ _
  have N6 : Hid (NdX W6 b o A0 { n with cur := n.prev }) := by rw [hW6]; exact N5.out.set _ 1 _ (by decide) rfl (fun i hi hn => by rcases i with _|_|_|_|_|_|_|_|i <;> first | rfl | omega | exact absurd rfl hn)
  have M6 : Hid (MgAt W6 B m) := M5.out.keep KK.out hne.out
  have K6 : Hid (Kp w W6 (fun k => k = b)) := K5.out.trans KK.out (fun _ f => Or.inl f)
  have zf : W5.frozen? ⟨b, o + 1, none⟩ = false := N5.out.fz _
  replace hW6 := hide hW6
  go_upto_region 15 with fail
  rw [← hW6.out]
  clear KK hW6 zf K5 M5 N5
  clear x0 x1 x2 x3 x4 x5 y0 y4 y5 y6
  have x0 : W6.cell? ⟨b, o, none⟩ = some (.int .i64 n.prev) := N6.out.cells.1
  have x1 : W6.cell? ⟨b, o + 1, none⟩ = some (.int .i64 n.prev) := N6.out.cells.2.1
  have x2 : W6.cell? ⟨b, o + 2, none⟩ = some (.int .i64 n.ep) := N6.out.cells.2.2.1
  have x3 : W6.cell? ⟨b, o + 3, none⟩ = some (.int .i64 n.sq) := N6.out.cells.2.2.2.1
  have x4 : W6.cell? ⟨b, o + 4, none⟩ = some (.int .i64 n.sw) := N6.out.cells.2.2.2.2.1
  have x5 : W6.cell? ⟨b, o + 5, none⟩ = some (.int .i64 n.was) := N6.out.cells.2.2.2.2.2.1
  obtain ⟨y0, _, _, _, y4, y5, y6, _⟩ := M6.out.cells
  obtain ⟨W7, hW7⟩ : ∃ X, X = W6.setCell ⟨b, o + 2, none⟩ (.int .i64 m.ep) := ⟨_, rfl⟩
  have KK : Hid (Kp W6 W7 (fun k => k = b)) := by rw [hW7]; exact (Kp.refl _ (fun k => k = b)).set (Or.inl rfl) _ _
  have N7 : Hid (NdX W7 b o A0 { n with cur := n.prev, ep := m.ep }) := by rw [hW7]; exact N6.out.set _ 2 _ (by decide) rfl (fun i hi hn => by rcases i with _|_|_|_|_|_|_|_|i <;> first | rfl | omega | exact absurd rfl hn)
  have M7 : Hid (MgAt W7 B m) := M6.out.keep KK.out hne.out
  have K7 : Hid (Kp w W7 (fun k => k = b)) := K6.out.trans KK.out (fun _ f => Or.inl f)
  have zf : W6.frozen? ⟨b, o + 2, none⟩ = false := N6.out.fz _
  replace hW7 := hide hW7
  go_upto_region 16 with fail
  rw [← hW7.out]
  clear KK hW7 zf K6 M6 N6
  clear x0 x1 x2 x3 x4 x5 y0 y4 y5 y6
  have x0 : W7.cell? ⟨b, o, none⟩ = some (.int .i64 n.prev) := N7.out.cells.1
  have x1 : W7.cell? ⟨b, o + 1, none⟩ = some (.int .i64 n.prev) := N7.out.cells.2.1
  have x2 : W7.cell? ⟨b, o + 2, none⟩ = some (.int .i64 m.ep) := N7.out.cells.2.2.1
  have x3 : W7.cell? ⟨b, o + 3, none⟩ = some (.int .i64 n.sq) := N7.out.cells.2.2.2.1
  have x4 : W7.cell? ⟨b, o + 4, none⟩ = some (.int .i64 n.sw) := N7.out.cells.2.2.2.2.1
  have x5 : W7.cell? ⟨b, o + 5, none⟩ = some (.int .i64 n.was) := N7.out.cells.2.2.2.2.2.1
  obtain ⟨y0, _, _, _, y4, y5, y6, _⟩ := M7.out.cells
  obtain ⟨W8, hW8⟩ : ∃ X, X = W7.setCell ⟨b, o + 3, none⟩ (.int .i64 m.sq) := ⟨_, rfl⟩
  have KK : Hid (Kp W7 W8 (fun k => k = b)) := by rw [hW8]; exact (Kp.refl _ (fun k => k = b)).set (Or.inl rfl) _ _
  have N8 : Hid (NdX W8 b o A0 { n with cur := n.prev, ep := m.ep, sq := m.sq }) := by rw [hW8]; exact N7.out.set _ 3 _ (by decide) rfl (fun i hi hn => by rcases i with _|_|_|_|_|_|_|_|i <;> first | rfl | omega | exact absurd rfl hn)
  have M8 : Hid (MgAt W8 B m) := M7.out.keep KK.out hne.out
  have K8 : Hid (Kp w W8 (fun k => k = b)) := K7.out.trans KK.out (fun _ f => Or.inl f)
  have zf : W7.frozen? ⟨b, o + 3, none⟩ = false := N7.out.fz _
  replace hW8 := hide hW8
  go_upto_region 17 with fail
  rw [← hW8.out]
  clear KK hW8 zf K7 M7 N7
  clear x0 x1 x2 x3 x4 x5 y0 y4 y5 y6
  have x0 : W8.cell? ⟨b, o, none⟩ = some (.int .i64 n.prev) := N8.out.cells.1
  have x1 : W8.cell? ⟨b, o + 1, none⟩ = some (.int .i64 n.prev) := N8.out.cells.2.1
  have x2 : W8.cell? ⟨b, o + 2, none⟩ = some (.int .i64 m.ep) := N8.out.cells.2.2.1
  have x3 : W8.cell? ⟨b, o + 3, none⟩ = some (.int .i64 m.sq) := N8.out.cells.2.2.2.1
  have x4 : W8.cell? ⟨b, o + 4, none⟩ = some (.int .i64 n.sw) := N8.out.cells.2.2.2.2.1
  have x5 : W8.cell? ⟨b, o + 5, none⟩ = some (.int .i64 n.was) := N8.out.cells.2.2.2.2.2.1
  obtain ⟨y0, _, _, _, y4, y5, y6, _⟩ := M8.out.cells
  go_wp2_with fail
  go_ret
  exact ⟨rfl, N8.out, K8.out⟩
set_option maxHeartbeats 8000000 in
set_option maxRecDepth 100000 in
set_option linter.unusedSimpArgs false in
set_option linter.unusedVariables false in
theorem order_C1 {w : World} {b o : Nat} {A0 : Array Value} {n : Nd} (h : NdX w b o A0 n) (m : Mg) (c : n.ep < m.ep ∧ m.kind = 5) :
    Calls Try.prog 64 #[.pointer (some ⟨b, o, none⟩), .agg (mgV m)] w fun e w' => e = .returned (.int .i64 0) ∧ NdX w' b o A0 { n with cur := m.ver, prev := n.cur, ep := m.ep, sq := m.sq, sw := m.ep, was := n.cur } ∧ Kp w w' (fun k => k = b) := by
  obtain ⟨B, hB⟩ : ∃ B, B = w.heap.size := ⟨_, rfl⟩
  obtain ⟨W0, hW0⟩ : ∃ W0, W0 = w.alloc (.cells (mgV m) 44) := ⟨_, rfl⟩
  have b0 : Hid (Below w.heap.size w W0) := by rw [hW0]; exact (Below.refl _ w).alloc (Nat.le_refl _) _
  have K0 : Hid (Kp w W0 (fun k => k = b)) := Kp.of_below b0.out _
  have m0 : MgAt W0 B m := by rw [hW0, hB]; exact MgAt.new w m
  have n0 : NdX W0 b o A0 n := h.keep (Kp.of_below b0.out non) (fun f => f)
  have hne : Hid (B ≠ b) := by
    obtain ⟨A, h⟩ := h
    have := blk_lt h.ob
    exact fun e => by omega
  have HB := hide hB
  obtain ⟨y0, _, _, _, y4, y5, y6, _⟩ := m0.cells
  obtain ⟨x0, x1, x2, x3, x4, x5, _, _⟩ := n0.cells
  have M0 := hide m0
  have N0 := hide n0
  clear h m0 n0
  have q0 : decide (m.ep < n.ep) = false := decide_eq_false (by omega)
  have q1 : (m.ep == n.ep) = false := by simpa using (by omega : ¬ m.ep = n.ep)
  have q4 : (m.kind == 5) = true := by simpa using (by omega : m.kind = 5)
  clear c
  go_enter Try.func64, Try.ntmps64
  go_upto_region 1 with fail
  rw [← hW0, ← HB.out]
  clear hW0 hB
  go_quiet (fail)
  obtain ⟨W1, hW1⟩ : ∃ X, X = W0.drewN nq := ⟨_, rfl⟩
  have KK : Kp W0 W1 non := by rw [hW1]; exact (Kp.refl _ non).drewN _
  have N1 : Hid (NdX W1 b o A0 n) := N0.out.keep KK (fun f => f)
  have M1 : Hid (MgAt W1 B m) := M0.out.keep KK (fun f => f)
  have K1 : Hid (Kp w W1 (fun k => k = b)) := K0.out.trans KK (fun _ f => f.elim)
  rw [← hW1]
  clear KK hW1 K0 M0 N0
  clear x0 x1 x2 x3 x4 x5 y0 y4 y5 y6
  have x0 : W1.cell? ⟨b, o, none⟩ = some (.int .i64 n.cur) := N1.out.cells.1
  have x1 : W1.cell? ⟨b, o + 1, none⟩ = some (.int .i64 n.prev) := N1.out.cells.2.1
  have x2 : W1.cell? ⟨b, o + 2, none⟩ = some (.int .i64 n.ep) := N1.out.cells.2.2.1
  have x3 : W1.cell? ⟨b, o + 3, none⟩ = some (.int .i64 n.sq) := N1.out.cells.2.2.2.1
  have x4 : W1.cell? ⟨b, o + 4, none⟩ = some (.int .i64 n.sw) := N1.out.cells.2.2.2.2.1
  have x5 : W1.cell? ⟨b, o + 5, none⟩ = some (.int .i64 n.was) := N1.out.cells.2.2.2.2.2.1
  obtain ⟨y0, _, _, _, y4, y5, y6, _⟩ := M1.out.cells
  go_upto_region 2 with fail
  go_quiet (fail)
  obtain ⟨W2, hW2⟩ : ∃ X, X = W1.drewN nq := ⟨_, rfl⟩
  have KK : Kp W1 W2 non := by rw [hW2]; exact (Kp.refl _ non).drewN _
  have N2 : Hid (NdX W2 b o A0 n) := N1.out.keep KK (fun f => f)
  have M2 : Hid (MgAt W2 B m) := M1.out.keep KK (fun f => f)
  have K2 : Hid (Kp w W2 (fun k => k = b)) := K1.out.trans KK (fun _ f => f.elim)
  rw [← hW2]
  clear KK hW2 K1 M1 N1
  clear x0 x1 x2 x3 x4 x5 y0 y4 y5 y6
  have x0 : W2.cell? ⟨b, o, none⟩ = some (.int .i64 n.cur) := N2.out.cells.1
  have x1 : W2.cell? ⟨b, o + 1, none⟩ = some (.int .i64 n.prev) := N2.out.cells.2.1
  have x2 : W2.cell? ⟨b, o + 2, none⟩ = some (.int .i64 n.ep) := N2.out.cells.2.2.1
  have x3 : W2.cell? ⟨b, o + 3, none⟩ = some (.int .i64 n.sq) := N2.out.cells.2.2.2.1
  have x4 : W2.cell? ⟨b, o + 4, none⟩ = some (.int .i64 n.sw) := N2.out.cells.2.2.2.2.1
  have x5 : W2.cell? ⟨b, o + 5, none⟩ = some (.int .i64 n.was) := N2.out.cells.2.2.2.2.2.1
  obtain ⟨y0, _, _, _, y4, y5, y6, _⟩ := M2.out.cells
  go_upto_region 3 with fail
  go_quiet (fail)
  obtain ⟨W3, hW3⟩ : ∃ X, X = W2.drewN nq := ⟨_, rfl⟩
  have KK : Kp W2 W3 non := by rw [hW3]; exact (Kp.refl _ non).drewN _
  have N3 : Hid (NdX W3 b o A0 n) := N2.out.keep KK (fun f => f)
  have M3 : Hid (MgAt W3 B m) := M2.out.keep KK (fun f => f)
  have K3 : Hid (Kp w W3 (fun k => k = b)) := K2.out.trans KK (fun _ f => f.elim)
  rw [← hW3]
  clear KK hW3 K2 M2 N2
  clear x0 x1 x2 x3 x4 x5 y0 y4 y5 y6
  have x0 : W3.cell? ⟨b, o, none⟩ = some (.int .i64 n.cur) := N3.out.cells.1
  have x1 : W3.cell? ⟨b, o + 1, none⟩ = some (.int .i64 n.prev) := N3.out.cells.2.1
  have x2 : W3.cell? ⟨b, o + 2, none⟩ = some (.int .i64 n.ep) := N3.out.cells.2.2.1
  have x3 : W3.cell? ⟨b, o + 3, none⟩ = some (.int .i64 n.sq) := N3.out.cells.2.2.2.1
  have x4 : W3.cell? ⟨b, o + 4, none⟩ = some (.int .i64 n.sw) := N3.out.cells.2.2.2.2.1
  have x5 : W3.cell? ⟨b, o + 5, none⟩ = some (.int .i64 n.was) := N3.out.cells.2.2.2.2.2.1
  obtain ⟨y0, _, _, _, y4, y5, y6, _⟩ := M3.out.cells
  go_upto_region 8 with fail
  obtain ⟨W4, hW4⟩ : ∃ X, X = W3.setCell ⟨b, o + 5, none⟩ (.int .i64 n.cur) := ⟨_, rfl⟩
  have KK : Hid (Kp W3 W4 (fun k => k = b)) := by rw [hW4]; exact (Kp.refl _ (fun k => k = b)).set (Or.inl rfl) _ _
  have N4 : Hid (NdX W4 b o A0 { n with was := n.cur }) := by rw [hW4]; exact N3.out.set _ 5 _ (by decide) rfl (fun i hi hn => by rcases i with _|_|_|_|_|_|_|_|i <;> first | rfl | omega | exact absurd rfl hn)
  have M4 : Hid (MgAt W4 B m) := M3.out.keep KK.out hne.out
  have K4 : Hid (Kp w W4 (fun k => k = b)) := K3.out.trans KK.out (fun _ f => Or.inl f)
  have zf : W3.frozen? ⟨b, o + 5, none⟩ = false := N3.out.fz _
  replace hW4 := hide hW4
  go_upto_region 9 with fail
  rw [← hW4.out]
  clear KK hW4 zf K3 M3 N3
  clear x0 x1 x2 x3 x4 x5 y0 y4 y5 y6
  have x0 : W4.cell? ⟨b, o, none⟩ = some (.int .i64 n.cur) := N4.out.cells.1
  have x1 : W4.cell? ⟨b, o + 1, none⟩ = some (.int .i64 n.prev) := N4.out.cells.2.1
  have x2 : W4.cell? ⟨b, o + 2, none⟩ = some (.int .i64 n.ep) := N4.out.cells.2.2.1
  have x3 : W4.cell? ⟨b, o + 3, none⟩ = some (.int .i64 n.sq) := N4.out.cells.2.2.2.1
  have x4 : W4.cell? ⟨b, o + 4, none⟩ = some (.int .i64 n.sw) := N4.out.cells.2.2.2.2.1
  have x5 : W4.cell? ⟨b, o + 5, none⟩ = some (.int .i64 n.cur) := N4.out.cells.2.2.2.2.2.1
  obtain ⟨y0, _, _, _, y4, y5, y6, _⟩ := M4.out.cells
  obtain ⟨W5, hW5⟩ : ∃ X, X = W4.setCell ⟨b, o + 4, none⟩ (.int .i64 m.ep) := ⟨_, rfl⟩
  have KK : Hid (Kp W4 W5 (fun k => k = b)) := by rw [hW5]; exact (Kp.refl _ (fun k => k = b)).set (Or.inl rfl) _ _
  have N5 : Hid (NdX W5 b o A0 { n with sw := m.ep, was := n.cur }) := by rw [hW5]; exact N4.out.set _ 4 _ (by decide) rfl (fun i hi hn => by rcases i with _|_|_|_|_|_|_|_|i <;> first | rfl | omega | exact absurd rfl hn)
  have M5 : Hid (MgAt W5 B m) := M4.out.keep KK.out hne.out
  have K5 : Hid (Kp w W5 (fun k => k = b)) := K4.out.trans KK.out (fun _ f => Or.inl f)
  have zf : W4.frozen? ⟨b, o + 4, none⟩ = false := N4.out.fz _
  replace hW5 := hide hW5
  go_upto_region 10 with fail
  rw [← hW5.out]
  clear KK hW5 zf K4 M4 N4
  clear x0 x1 x2 x3 x4 x5 y0 y4 y5 y6
  have x0 : W5.cell? ⟨b, o, none⟩ = some (.int .i64 n.cur) := N5.out.cells.1
  have x1 : W5.cell? ⟨b, o + 1, none⟩ = some (.int .i64 n.prev) := N5.out.cells.2.1
  have x2 : W5.cell? ⟨b, o + 2, none⟩ = some (.int .i64 n.ep) := N5.out.cells.2.2.1
  have x3 : W5.cell? ⟨b, o + 3, none⟩ = some (.int .i64 n.sq) := N5.out.cells.2.2.2.1
  have x4 : W5.cell? ⟨b, o + 4, none⟩ = some (.int .i64 m.ep) := N5.out.cells.2.2.2.2.1
  have x5 : W5.cell? ⟨b, o + 5, none⟩ = some (.int .i64 n.cur) := N5.out.cells.2.2.2.2.2.1
  obtain ⟨y0, _, _, _, y4, y5, y6, _⟩ := M5.out.cells
  obtain ⟨W6, hW6⟩ : ∃ X, X = W5.setCell ⟨b, o + 1, none⟩ (.int .i64 n.cur) := ⟨_, rfl⟩
  have KK : Hid (Kp W5 W6 (fun k => k = b)) := by rw [hW6]; exact (Kp.refl _ (fun k => k = b)).set (Or.inl rfl) _ _
  have N6 : Hid (NdX W6 b o A0 { n with prev := n.cur, sw := m.ep, was := n.cur }) := by rw [hW6]; exact N5.out.set _ 1 _ (by decide) rfl (fun i hi hn => by rcases i with _|_|_|_|_|_|_|_|i <;> first | rfl | omega | exact absurd rfl hn)
  have M6 : Hid (MgAt W6 B m) := M5.out.keep KK.out hne.out
  have K6 : Hid (Kp w W6 (fun k => k = b)) := K5.out.trans KK.out (fun _ f => Or.inl f)
  have zf : W5.frozen? ⟨b, o + 1, none⟩ = false := N5.out.fz _
  replace hW6 := hide hW6
  go_upto_region 11 with fail
  rw [← hW6.out]
  clear KK hW6 zf K5 M5 N5
  clear x0 x1 x2 x3 x4 x5 y0 y4 y5 y6
  have x0 : W6.cell? ⟨b, o, none⟩ = some (.int .i64 n.cur) := N6.out.cells.1
  have x1 : W6.cell? ⟨b, o + 1, none⟩ = some (.int .i64 n.cur) := N6.out.cells.2.1
  have x2 : W6.cell? ⟨b, o + 2, none⟩ = some (.int .i64 n.ep) := N6.out.cells.2.2.1
  have x3 : W6.cell? ⟨b, o + 3, none⟩ = some (.int .i64 n.sq) := N6.out.cells.2.2.2.1
  have x4 : W6.cell? ⟨b, o + 4, none⟩ = some (.int .i64 m.ep) := N6.out.cells.2.2.2.2.1
  have x5 : W6.cell? ⟨b, o + 5, none⟩ = some (.int .i64 n.cur) := N6.out.cells.2.2.2.2.2.1
  obtain ⟨y0, _, _, _, y4, y5, y6, _⟩ := M6.out.cells
  obtain ⟨W7, hW7⟩ : ∃ X, X = W6.setCell ⟨b, o, none⟩ (.int .i64 m.ver) := ⟨_, rfl⟩
  have KK : Hid (Kp W6 W7 (fun k => k = b)) := by rw [hW7]; exact (Kp.refl _ (fun k => k = b)).set (Or.inl rfl) _ _
  have N7 : Hid (NdX W7 b o A0 { n with cur := m.ver, prev := n.cur, sw := m.ep, was := n.cur }) := by rw [hW7]; exact N6.out.set _ 0 _ (by decide) rfl (fun i hi hn => by rcases i with _|_|_|_|_|_|_|_|i <;> first | rfl | omega | exact absurd rfl hn)
  have M7 : Hid (MgAt W7 B m) := M6.out.keep KK.out hne.out
  have K7 : Hid (Kp w W7 (fun k => k = b)) := K6.out.trans KK.out (fun _ f => Or.inl f)
  have zf : W6.frozen? ⟨b, o, none⟩ = false := N6.out.fz _
  replace hW7 := hide hW7
  go_upto_region 15 with fail
  rw [← hW7.out]
  clear KK hW7 zf K6 M6 N6
  clear x0 x1 x2 x3 x4 x5 y0 y4 y5 y6
  have x0 : W7.cell? ⟨b, o, none⟩ = some (.int .i64 m.ver) := N7.out.cells.1
  have x1 : W7.cell? ⟨b, o + 1, none⟩ = some (.int .i64 n.cur) := N7.out.cells.2.1
  have x2 : W7.cell? ⟨b, o + 2, none⟩ = some (.int .i64 n.ep) := N7.out.cells.2.2.1
  have x3 : W7.cell? ⟨b, o + 3, none⟩ = some (.int .i64 n.sq) := N7.out.cells.2.2.2.1
  have x4 : W7.cell? ⟨b, o + 4, none⟩ = some (.int .i64 m.ep) := N7.out.cells.2.2.2.2.1
  have x5 : W7.cell? ⟨b, o + 5, none⟩ = some (.int .i64 n.cur) := N7.out.cells.2.2.2.2.2.1
  obtain ⟨y0, _, _, _, y4, y5, y6, _⟩ := M7.out.cells
  obtain ⟨W8, hW8⟩ : ∃ X, X = W7.setCell ⟨b, o + 2, none⟩ (.int .i64 m.ep) := ⟨_, rfl⟩
  have KK : Hid (Kp W7 W8 (fun k => k = b)) := by rw [hW8]; exact (Kp.refl _ (fun k => k = b)).set (Or.inl rfl) _ _
  have N8 : Hid (NdX W8 b o A0 { n with cur := m.ver, prev := n.cur, ep := m.ep, sw := m.ep, was := n.cur }) := by rw [hW8]; exact N7.out.set _ 2 _ (by decide) rfl (fun i hi hn => by rcases i with _|_|_|_|_|_|_|_|i <;> first | rfl | omega | exact absurd rfl hn)
  have M8 : Hid (MgAt W8 B m) := M7.out.keep KK.out hne.out
  have K8 : Hid (Kp w W8 (fun k => k = b)) := K7.out.trans KK.out (fun _ f => Or.inl f)
  have zf : W7.frozen? ⟨b, o + 2, none⟩ = false := N7.out.fz _
  replace hW8 := hide hW8
  go_upto_region 16 with fail
  rw [← hW8.out]
  clear KK hW8 zf K7 M7 N7
  clear x0 x1 x2 x3 x4 x5 y0 y4 y5 y6
  have x0 : W8.cell? ⟨b, o, none⟩ = some (.int .i64 m.ver) := N8.out.cells.1
  have x1 : W8.cell? ⟨b, o + 1, none⟩ = some (.int .i64 n.cur) := N8.out.cells.2.1
  have x2 : W8.cell? ⟨b, o + 2, none⟩ = some (.int .i64 m.ep) := N8.out.cells.2.2.1
  have x3 : W8.cell? ⟨b, o + 3, none⟩ = some (.int .i64 n.sq) := N8.out.cells.2.2.2.1
  have x4 : W8.cell? ⟨b, o + 4, none⟩ = some (.int .i64 m.ep) := N8.out.cells.2.2.2.2.1
  have x5 : W8.cell? ⟨b, o + 5, none⟩ = some (.int .i64 n.cur) := N8.out.cells.2.2.2.2.2.1
  obtain ⟨y0, _, _, _, y4, y5, y6, _⟩ := M8.out.cells
  obtain ⟨W9, hW9⟩ : ∃ X, X = W8.setCell ⟨b, o + 3, none⟩ (.int .i64 m.sq) := ⟨_, rfl⟩
  have KK : Hid (Kp W8 W9 (fun k => k = b)) := by rw [hW9]; exact (Kp.refl _ (fun k => k = b)).set (Or.inl rfl) _ _
  have N9 : Hid (NdX W9 b o A0 { n with cur := m.ver, prev := n.cur, ep := m.ep, sq := m.sq, sw := m.ep, was := n.cur }) := by rw [hW9]; exact N8.out.set _ 3 _ (by decide) rfl (fun i hi hn => by rcases i with _|_|_|_|_|_|_|_|i <;> first | rfl | omega | exact absurd rfl hn)
  have M9 : Hid (MgAt W9 B m) := M8.out.keep KK.out hne.out
  have K9 : Hid (Kp w W9 (fun k => k = b)) := K8.out.trans KK.out (fun _ f => Or.inl f)
  have zf : W8.frozen? ⟨b, o + 3, none⟩ = false := N8.out.fz _
  replace hW9 := hide hW9
  go_upto_region 17 with fail
  rw [← hW9.out]
  clear KK hW9 zf K8 M8 N8
  clear x0 x1 x2 x3 x4 x5 y0 y4 y5 y6
  have x0 : W9.cell? ⟨b, o, none⟩ = some (.int .i64 m.ver) := N9.out.cells.1
  have x1 : W9.cell? ⟨b, o + 1, none⟩ = some (.int .i64 n.cur) := N9.out.cells.2.1
  have x2 : W9.cell? ⟨b, o + 2, none⟩ = some (.int .i64 m.ep) := N9.out.cells.2.2.1
  have x3 : W9.cell? ⟨b, o + 3, none⟩ = some (.int .i64 m.sq) := N9.out.cells.2.2.2.1
  have x4 : W9.cell? ⟨b, o + 4, none⟩ = some (.int .i64 m.ep) := N9.out.cells.2.2.2.2.1
  have x5 : W9.cell? ⟨b, o + 5, none⟩ = some (.int .i64 n.cur) := N9.out.cells.2.2.2.2.2.1
  obtain ⟨y0, _, _, _, y4, y5, y6, _⟩ := M9.out.cells
  go_wp2_with fail
  go_ret
  exact ⟨rfl, N9.out, K9.out⟩
set_option maxHeartbeats 8000000 in
set_option maxRecDepth 100000 in
set_option linter.unusedSimpArgs false in
set_option linter.unusedVariables false in
theorem order_C2 {w : World} {b o : Nat} {A0 : Array Value} {n : Nd} (h : NdX w b o A0 n) (m : Mg) (c : n.ep < m.ep ∧ ¬ m.kind = 5) :
    Calls Try.prog 64 #[.pointer (some ⟨b, o, none⟩), .agg (mgV m)] w fun e w' => e = .returned (.int .i64 0) ∧ NdX w' b o A0 { n with prev := n.cur, ep := m.ep, sq := m.sq } ∧ Kp w w' (fun k => k = b) := by
  obtain ⟨B, hB⟩ : ∃ B, B = w.heap.size := ⟨_, rfl⟩
  obtain ⟨W0, hW0⟩ : ∃ W0, W0 = w.alloc (.cells (mgV m) 44) := ⟨_, rfl⟩
  have b0 : Hid (Below w.heap.size w W0) := by rw [hW0]; exact (Below.refl _ w).alloc (Nat.le_refl _) _
  have K0 : Hid (Kp w W0 (fun k => k = b)) := Kp.of_below b0.out _
  have m0 : MgAt W0 B m := by rw [hW0, hB]; exact MgAt.new w m
  have n0 : NdX W0 b o A0 n := h.keep (Kp.of_below b0.out non) (fun f => f)
  have hne : Hid (B ≠ b) := by
    obtain ⟨A, h⟩ := h
    have := blk_lt h.ob
    exact fun e => by omega
  have HB := hide hB
  obtain ⟨y0, _, _, _, y4, y5, y6, _⟩ := m0.cells
  obtain ⟨x0, x1, x2, x3, x4, x5, _, _⟩ := n0.cells
  have M0 := hide m0
  have N0 := hide n0
  clear h m0 n0
  have q0 : decide (m.ep < n.ep) = false := decide_eq_false (by omega)
  have q1 : (m.ep == n.ep) = false := by simpa using (by omega : ¬ m.ep = n.ep)
  have q4 : (m.kind == 5) = false := by simpa using (by omega : ¬ m.kind = 5)
  have q6 : (n.ep == m.ep) = false := by simpa using (by omega : ¬ n.ep = m.ep)
  clear c
  go_enter Try.func64, Try.ntmps64
  go_upto_region 1 with fail
  rw [← hW0, ← HB.out]
  clear hW0 hB
  go_quiet (fail)
  obtain ⟨W1, hW1⟩ : ∃ X, X = W0.drewN nq := ⟨_, rfl⟩
  have KK : Kp W0 W1 non := by rw [hW1]; exact (Kp.refl _ non).drewN _
  have N1 : Hid (NdX W1 b o A0 n) := N0.out.keep KK (fun f => f)
  have M1 : Hid (MgAt W1 B m) := M0.out.keep KK (fun f => f)
  have K1 : Hid (Kp w W1 (fun k => k = b)) := K0.out.trans KK (fun _ f => f.elim)
  rw [← hW1]
  clear KK hW1 K0 M0 N0
  clear x0 x1 x2 x3 x4 x5 y0 y4 y5 y6
  have x0 : W1.cell? ⟨b, o, none⟩ = some (.int .i64 n.cur) := N1.out.cells.1
  have x1 : W1.cell? ⟨b, o + 1, none⟩ = some (.int .i64 n.prev) := N1.out.cells.2.1
  have x2 : W1.cell? ⟨b, o + 2, none⟩ = some (.int .i64 n.ep) := N1.out.cells.2.2.1
  have x3 : W1.cell? ⟨b, o + 3, none⟩ = some (.int .i64 n.sq) := N1.out.cells.2.2.2.1
  have x4 : W1.cell? ⟨b, o + 4, none⟩ = some (.int .i64 n.sw) := N1.out.cells.2.2.2.2.1
  have x5 : W1.cell? ⟨b, o + 5, none⟩ = some (.int .i64 n.was) := N1.out.cells.2.2.2.2.2.1
  obtain ⟨y0, _, _, _, y4, y5, y6, _⟩ := M1.out.cells
  go_upto_region 2 with fail
  go_quiet (fail)
  obtain ⟨W2, hW2⟩ : ∃ X, X = W1.drewN nq := ⟨_, rfl⟩
  have KK : Kp W1 W2 non := by rw [hW2]; exact (Kp.refl _ non).drewN _
  have N2 : Hid (NdX W2 b o A0 n) := N1.out.keep KK (fun f => f)
  have M2 : Hid (MgAt W2 B m) := M1.out.keep KK (fun f => f)
  have K2 : Hid (Kp w W2 (fun k => k = b)) := K1.out.trans KK (fun _ f => f.elim)
  rw [← hW2]
  clear KK hW2 K1 M1 N1
  clear x0 x1 x2 x3 x4 x5 y0 y4 y5 y6
  have x0 : W2.cell? ⟨b, o, none⟩ = some (.int .i64 n.cur) := N2.out.cells.1
  have x1 : W2.cell? ⟨b, o + 1, none⟩ = some (.int .i64 n.prev) := N2.out.cells.2.1
  have x2 : W2.cell? ⟨b, o + 2, none⟩ = some (.int .i64 n.ep) := N2.out.cells.2.2.1
  have x3 : W2.cell? ⟨b, o + 3, none⟩ = some (.int .i64 n.sq) := N2.out.cells.2.2.2.1
  have x4 : W2.cell? ⟨b, o + 4, none⟩ = some (.int .i64 n.sw) := N2.out.cells.2.2.2.2.1
  have x5 : W2.cell? ⟨b, o + 5, none⟩ = some (.int .i64 n.was) := N2.out.cells.2.2.2.2.2.1
  obtain ⟨y0, _, _, _, y4, y5, y6, _⟩ := M2.out.cells
  go_upto_region 3 with fail
  go_quiet (fail)
  obtain ⟨W3, hW3⟩ : ∃ X, X = W2.drewN nq := ⟨_, rfl⟩
  have KK : Kp W2 W3 non := by rw [hW3]; exact (Kp.refl _ non).drewN _
  have N3 : Hid (NdX W3 b o A0 n) := N2.out.keep KK (fun f => f)
  have M3 : Hid (MgAt W3 B m) := M2.out.keep KK (fun f => f)
  have K3 : Hid (Kp w W3 (fun k => k = b)) := K2.out.trans KK (fun _ f => f.elim)
  rw [← hW3]
  clear KK hW3 K2 M2 N2
  clear x0 x1 x2 x3 x4 x5 y0 y4 y5 y6
  have x0 : W3.cell? ⟨b, o, none⟩ = some (.int .i64 n.cur) := N3.out.cells.1
  have x1 : W3.cell? ⟨b, o + 1, none⟩ = some (.int .i64 n.prev) := N3.out.cells.2.1
  have x2 : W3.cell? ⟨b, o + 2, none⟩ = some (.int .i64 n.ep) := N3.out.cells.2.2.1
  have x3 : W3.cell? ⟨b, o + 3, none⟩ = some (.int .i64 n.sq) := N3.out.cells.2.2.2.1
  have x4 : W3.cell? ⟨b, o + 4, none⟩ = some (.int .i64 n.sw) := N3.out.cells.2.2.2.2.1
  have x5 : W3.cell? ⟨b, o + 5, none⟩ = some (.int .i64 n.was) := N3.out.cells.2.2.2.2.2.1
  obtain ⟨y0, _, _, _, y4, y5, y6, _⟩ := M3.out.cells
  go_upto_region 12 with fail
  go_quiet (fail)
  obtain ⟨W4, hW4⟩ : ∃ X, X = W3.drewN nq := ⟨_, rfl⟩
  have KK : Kp W3 W4 non := by rw [hW4]; exact (Kp.refl _ non).drewN _
  have N4 : Hid (NdX W4 b o A0 n) := N3.out.keep KK (fun f => f)
  have M4 : Hid (MgAt W4 B m) := M3.out.keep KK (fun f => f)
  have K4 : Hid (Kp w W4 (fun k => k = b)) := K3.out.trans KK (fun _ f => f.elim)
  rw [← hW4]
  clear KK hW4 K3 M3 N3
  clear x0 x1 x2 x3 x4 x5 y0 y4 y5 y6
  have x0 : W4.cell? ⟨b, o, none⟩ = some (.int .i64 n.cur) := N4.out.cells.1
  have x1 : W4.cell? ⟨b, o + 1, none⟩ = some (.int .i64 n.prev) := N4.out.cells.2.1
  have x2 : W4.cell? ⟨b, o + 2, none⟩ = some (.int .i64 n.ep) := N4.out.cells.2.2.1
  have x3 : W4.cell? ⟨b, o + 3, none⟩ = some (.int .i64 n.sq) := N4.out.cells.2.2.2.1
  have x4 : W4.cell? ⟨b, o + 4, none⟩ = some (.int .i64 n.sw) := N4.out.cells.2.2.2.2.1
  have x5 : W4.cell? ⟨b, o + 5, none⟩ = some (.int .i64 n.was) := N4.out.cells.2.2.2.2.2.1
  obtain ⟨y0, _, _, _, y4, y5, y6, _⟩ := M4.out.cells
  go_upto_region 14 with fail
  obtain ⟨W5, hW5⟩ : ∃ X, X = W4.setCell ⟨b, o + 1, none⟩ (.int .i64 n.cur) := ⟨_, rfl⟩
  have KK : Hid (Kp W4 W5 (fun k => k = b)) := by rw [hW5]; exact (Kp.refl _ (fun k => k = b)).set (Or.inl rfl) _ _
  have N5 : Hid (NdX W5 b o A0 { n with prev := n.cur }) := by rw [hW5]; exact N4.out.set _ 1 _ (by decide) rfl (fun i hi hn => by rcases i with _|_|_|_|_|_|_|_|i <;> first | rfl | omega | exact absurd rfl hn)
  have M5 : Hid (MgAt W5 B m) := M4.out.keep KK.out hne.out
  have K5 : Hid (Kp w W5 (fun k => k = b)) := K4.out.trans KK.out (fun _ f => Or.inl f)
  have zf : W4.frozen? ⟨b, o + 1, none⟩ = false := N4.out.fz _
  replace hW5 := hide hW5
  go_upto_region 15 with fail
  rw [← hW5.out]
  clear KK hW5 zf K4 M4 N4
  clear x0 x1 x2 x3 x4 x5 y0 y4 y5 y6
  have x0 : W5.cell? ⟨b, o, none⟩ = some (.int .i64 n.cur) := N5.out.cells.1
  have x1 : W5.cell? ⟨b, o + 1, none⟩ = some (.int .i64 n.cur) := N5.out.cells.2.1
  have x2 : W5.cell? ⟨b, o + 2, none⟩ = some (.int .i64 n.ep) := N5.out.cells.2.2.1
  have x3 : W5.cell? ⟨b, o + 3, none⟩ = some (.int .i64 n.sq) := N5.out.cells.2.2.2.1
  have x4 : W5.cell? ⟨b, o + 4, none⟩ = some (.int .i64 n.sw) := N5.out.cells.2.2.2.2.1
  have x5 : W5.cell? ⟨b, o + 5, none⟩ = some (.int .i64 n.was) := N5.out.cells.2.2.2.2.2.1
  obtain ⟨y0, _, _, _, y4, y5, y6, _⟩ := M5.out.cells
  obtain ⟨W6, hW6⟩ : ∃ X, X = W5.setCell ⟨b, o + 2, none⟩ (.int .i64 m.ep) := ⟨_, rfl⟩
  have KK : Hid (Kp W5 W6 (fun k => k = b)) := by rw [hW6]; exact (Kp.refl _ (fun k => k = b)).set (Or.inl rfl) _ _
  have N6 : Hid (NdX W6 b o A0 { n with prev := n.cur, ep := m.ep }) := by rw [hW6]; exact N5.out.set _ 2 _ (by decide) rfl (fun i hi hn => by rcases i with _|_|_|_|_|_|_|_|i <;> first | rfl | omega | exact absurd rfl hn)
  have M6 : Hid (MgAt W6 B m) := M5.out.keep KK.out hne.out
  have K6 : Hid (Kp w W6 (fun k => k = b)) := K5.out.trans KK.out (fun _ f => Or.inl f)
  have zf : W5.frozen? ⟨b, o + 2, none⟩ = false := N5.out.fz _
  replace hW6 := hide hW6
  go_upto_region 16 with fail
  rw [← hW6.out]
  clear KK hW6 zf K5 M5 N5
  clear x0 x1 x2 x3 x4 x5 y0 y4 y5 y6
  have x0 : W6.cell? ⟨b, o, none⟩ = some (.int .i64 n.cur) := N6.out.cells.1
  have x1 : W6.cell? ⟨b, o + 1, none⟩ = some (.int .i64 n.cur) := N6.out.cells.2.1
  have x2 : W6.cell? ⟨b, o + 2, none⟩ = some (.int .i64 m.ep) := N6.out.cells.2.2.1
  have x3 : W6.cell? ⟨b, o + 3, none⟩ = some (.int .i64 n.sq) := N6.out.cells.2.2.2.1
  have x4 : W6.cell? ⟨b, o + 4, none⟩ = some (.int .i64 n.sw) := N6.out.cells.2.2.2.2.1
  have x5 : W6.cell? ⟨b, o + 5, none⟩ = some (.int .i64 n.was) := N6.out.cells.2.2.2.2.2.1
  obtain ⟨y0, _, _, _, y4, y5, y6, _⟩ := M6.out.cells
  obtain ⟨W7, hW7⟩ : ∃ X, X = W6.setCell ⟨b, o + 3, none⟩ (.int .i64 m.sq) := ⟨_, rfl⟩
  have KK : Hid (Kp W6 W7 (fun k => k = b)) := by rw [hW7]; exact (Kp.refl _ (fun k => k = b)).set (Or.inl rfl) _ _
  have N7 : Hid (NdX W7 b o A0 { n with prev := n.cur, ep := m.ep, sq := m.sq }) := by rw [hW7]; exact N6.out.set _ 3 _ (by decide) rfl (fun i hi hn => by rcases i with _|_|_|_|_|_|_|_|i <;> first | rfl | omega | exact absurd rfl hn)
  have M7 : Hid (MgAt W7 B m) := M6.out.keep KK.out hne.out
  have K7 : Hid (Kp w W7 (fun k => k = b)) := K6.out.trans KK.out (fun _ f => Or.inl f)
  have zf : W6.frozen? ⟨b, o + 3, none⟩ = false := N6.out.fz _
  replace hW7 := hide hW7
  go_upto_region 17 with fail
  rw [← hW7.out]
  clear KK hW7 zf K6 M6 N6
  clear x0 x1 x2 x3 x4 x5 y0 y4 y5 y6
  have x0 : W7.cell? ⟨b, o, none⟩ = some (.int .i64 n.cur) := N7.out.cells.1
  have x1 : W7.cell? ⟨b, o + 1, none⟩ = some (.int .i64 n.cur) := N7.out.cells.2.1
  have x2 : W7.cell? ⟨b, o + 2, none⟩ = some (.int .i64 m.ep) := N7.out.cells.2.2.1
  have x3 : W7.cell? ⟨b, o + 3, none⟩ = some (.int .i64 m.sq) := N7.out.cells.2.2.2.1
  have x4 : W7.cell? ⟨b, o + 4, none⟩ = some (.int .i64 n.sw) := N7.out.cells.2.2.2.2.1
  have x5 : W7.cell? ⟨b, o + 5, none⟩ = some (.int .i64 n.was) := N7.out.cells.2.2.2.2.2.1
  obtain ⟨y0, _, _, _, y4, y5, y6, _⟩ := M7.out.cells
  go_wp2_with fail
  go_ret
  exact ⟨rfl, N7.out, K7.out⟩
end Go.Proofs.Ytpleakkhbfhdkaa.Cn
