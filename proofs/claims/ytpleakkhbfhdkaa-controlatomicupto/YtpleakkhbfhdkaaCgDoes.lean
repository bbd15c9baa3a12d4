import Derived.Test.YtpleakkhbfhdkaaGCgOrder
import Derived.Test.YtpleakkhbfhdkaaGCbRep
namespace Go.Proofs.Ytpleakkhbfhdkaa.Cn
open Go.RowKit
theorem MgAt.set {w : World} {b : Nat} {m : Mg} (h : MgAt w b m) (i : Nat) (v : Value) (m' : Mg) (hm : (mgV m).setIfInBounds i v = mgV m') : MgAt (w.setCell ⟨b, i, none⟩ v) b m' := by
  have := set_row h i v
  rw [hm] at this
  exact this
theorem MgAt.fz {w : World} {b : Nat} {m : Mg} (h : MgAt w b m) (i : Nat) : w.frozen? ⟨b, i, none⟩ = false := fz_row h i
/-- what is there while a node does something: the message, the answer's place, the answer, the node -/
structure DoX (w0 w : World) (b o B : Nat) (A0 : Array Value) (n : Nd) (m a : Mg) : Prop where
  nd : NdX w b o A0 n
  ms : MgAt w B m
  rs : MgAt w (B + 1) mg0
  an : MgAt w (B + 2) a
  kp : Kp w0 w (fun k => k = b)
  lt : b < B
  le : w0.heap.size ≤ B
theorem DoX.set {w0 w : World} {b o B : Nat} {A0 : Array Value} {n : Nd} {m a : Mg} (h : DoX w0 w b o B A0 n m a) (i : Nat) (v : Value) (a' : Mg) (ha : (mgV a).setIfInBounds i v = mgV a') : DoX w0 (w.setCell ⟨B + 2, i, none⟩ v) b o B A0 n m a' := by
  have kp : Kp w (w.setCell ⟨B + 2, i, none⟩ v) (fun k => k = B + 2) := (Kp.refl w (fun k => k = B + 2)).set (Or.inl rfl) _ _
  have lt := h.lt
  exact ⟨h.nd.keep kp (by omega), h.ms.keep kp (by omega), h.rs.keep kp (by omega), h.an.set i v a' ha, h.kp.trans kp (fun k e => Or.inr (by have := h.le; omega)), h.lt, h.le⟩
theorem DoX.nod {w0 w w' : World} {b o B : Nat} {A0 : Array Value} {n n' : Nd} {m a : Mg} (h : DoX w0 w b o B A0 n m a) (hn : NdX w' b o A0 n') (kp : Kp w w' (fun k => k = b)) : DoX w0 w' b o B A0 n' m a := by
  have lt := h.lt
  exact ⟨hn, h.ms.keep kp (by omega), h.rs.keep kp (by omega), h.an.keep kp (by omega), h.kp.trans kp (fun k e => Or.inl e), h.lt, h.le⟩
theorem DoX.fin {w0 w : World} {b o B : Nat} {A0 : Array Value} {n : Nd} {m a : Mg} (h : DoX w0 w b o B A0 n m a) : NdX (w.setRow (B + 1) (mgV a)) b o A0 n ∧ Kp w0 (w.setRow (B + 1) (mgV a)) (fun k => k = b) ∧ (w.setRow (B + 1) (mgV a)).heap[B + 1]? = some (.cells (mgV a) 44) := by
  have kp : Kp w (w.setRow (B + 1) (mgV a)) (fun k => k = B + 1) := (Kp.refl w (fun k => k = B + 1)).row (Or.inl rfl) _
  have lt := h.lt
  exact ⟨h.nd.keep kp (by omega), h.kp.trans kp (fun k e => Or.inr (by have := h.le; omega)), setRow_heap _ _ _ _ _ _ h.rs⟩
theorem dox0 {w : World} {b o : Nat} {A0 : Array Value} {n : Nd} (h : NdX w b o A0 n) (m a : Mg) : DoX w ((((w.alloc (.cells (mgV m) 44)).alloc (.cells (mgV mg0) 44)).alloc (.cells (mgV mg0) 44)).setRow (w.heap.size + 2) (mgV a)) b o w.heap.size A0 n m a := by
  obtain ⟨B, hB⟩ : ∃ B, B = w.heap.size := ⟨_, rfl⟩
  rw [← hB]
  have s1 : (w.alloc (.cells (mgV m) 44)).heap.size = B + 1 := by rw [hB]; exact World.size_alloc _ _
  have s2 : ((w.alloc (.cells (mgV m) 44)).alloc (.cells (mgV mg0) 44)).heap.size = B + 2 := by rw [World.size_alloc, s1]
  have k1 : Kp (w.alloc (.cells (mgV m) 44)) ((w.alloc (.cells (mgV m) 44)).alloc (.cells (mgV mg0) 44)) non := (Kp.refl _ non).alloc _
  have k2 : Kp ((w.alloc (.cells (mgV m) 44)).alloc (.cells (mgV mg0) 44)) (((w.alloc (.cells (mgV m) 44)).alloc (.cells (mgV mg0) 44)).alloc (.cells (mgV mg0) 44)) non := (Kp.refl _ non).alloc _
  have m0 : MgAt (w.alloc (.cells (mgV m) 44)) B m := by rw [hB]; exact MgAt.new w m
  have m1 : MgAt ((w.alloc (.cells (mgV m) 44)).alloc (.cells (mgV mg0) 44)) (B + 1) mg0 := by rw [← s1]; exact MgAt.new _ _
  have m2 : MgAt (((w.alloc (.cells (mgV m) 44)).alloc (.cells (mgV mg0) 44)).alloc (.cells (mgV mg0) 44)) (B + 2) mg0 := by rw [← s2]; exact MgAt.new _ _
  have m0' := (m0.keep k1 (fun f => f)).keep k2 (fun f => f)
  have m1' := m1.keep k2 (fun f => f)
  have k0 : Kp w (((w.alloc (.cells (mgV m) 44)).alloc (.cells (mgV mg0) 44)).alloc (.cells (mgV mg0) 44)) non := (((Kp.refl w non).alloc _).alloc _).alloc _
  have hlt : b < B := by obtain ⟨A, h⟩ := h; rw [hB]; exact blk_lt h.ob
  generalize (((w.alloc (.cells (mgV m) 44)).alloc (.cells (mgV mg0) 44)).alloc (.cells (mgV mg0) 44)) = W3 at *
  have k3 : Kp W3 (W3.setRow (B + 2) (mgV a)) (fun k => k = B + 2) := (Kp.refl W3 (fun k => k = B + 2)).row (Or.inl rfl) _
  exact ⟨(h.keep k0 (fun f => f)).keep k3 (by omega), m0'.keep k3 (by omega), m1'.keep k3 (by omega), setRow_heap _ _ _ _ _ _ m2, (k0.mono (fun _ f => f.elim)).trans k3 (fun k e => Or.inr (by omega)), hlt, by omega⟩
set_option maxHeartbeats 8000000 in
set_option maxRecDepth 100000 in
set_option linter.unusedSimpArgs false in
set_option linter.unusedVariables false in
theorem does_3s {w : World} {b o : Nat} {A0 : Array Value} {n : Nd} (h : NdX w b o A0 n) (m : Mg) (hk : m.kind = 3) (hs : n.sick = true) :
    Calls Try.prog 56 #[.pointer (some ⟨b, o, none⟩), .agg (mgV m)] w fun e w' => e = .returned (.agg (mgV (doesA n m))) ∧ NdX w' b o A0 (doesN n m) ∧ Kp w w' (fun k => k = b) := by
  obtain ⟨B, hB⟩ : ∃ B, B = w.heap.size := ⟨_, rfl⟩
  obtain ⟨W0, hW0⟩ : ∃ W0, W0 = (w.alloc (.cells (mgV m) 44)).alloc (.cells (mgV mg0) 44) := ⟨_, rfl⟩
  have k1 : Kp (w.alloc (.cells (mgV m) 44)) W0 non := by rw [hW0]; exact (Kp.refl _ non).alloc _
  have m0 : MgAt W0 B m := by
    have q : MgAt (w.alloc (.cells (mgV m) 44)) B m := by rw [hB]; exact MgAt.new w m
    exact q.keep k1 (fun f => f)
  have s0 : W0.heap.size = B + 2 := by rw [hW0, World.size_alloc, World.size_alloc, hB]
  obtain ⟨y0, y1, y2, y3, y4, y5, y6, _⟩ := m0.cells
  rw [hk] at y0
  obtain ⟨a, ha⟩ : ∃ a : Mg, a = { mg0 with kind := 4, fr := m.td, td := m.fr, id := m.id, ep := m.ep, sq := m.sq } := ⟨_, rfl⟩
  obtain ⟨W1, hW1⟩ : ∃ W1, W1 = (W0.alloc (.cells (mgV mg0) 44)).setRow W0.heap.size (mgV a) := ⟨_, rfl⟩
  have D1 : Hid (DoX w W1 b o B A0 n m a) := by rw [hW1, s0, hW0, hB]; exact dox0 h m a
  have hW1' := hide hW1
  have HB := hide hB
  have S0 := hide s0
  have HK := hide hk
  have HS := hide hs
  have HA := hide ha
  clear h hk hs k1 m0 s0 ha hW1
  go_enter Try.func56, Try.ntmps56
  go_upto_region 1 with fail
  rw [show (#[.int .i64 0, .int .i64 0, .int .i64 0, .int .i64 0, .int .i64 0, .int .i64 0, .int .i64 0, .int .i64 0, .int .i64 0, .string ⟨#[]⟩, .string ⟨#[]⟩] : Array Value) = mgV mg0 from rfl, ← hW0, ← HB.out]
  clear hW0 hB
  go_upto_region 3 with (first | refine wpList_blR rfl 44 #[(0, .tmp 8), (1, .tmp 10), (2, .tmp 12), (3, .tmp 14), (4, .tmp 16), (5, .tmp 18)] rfl (mgV a) (by rw [HA.out]; kernel_rfl) ?_ | refine wpList_stR rfl 44 (.tmp 5) (.tmp 19) rfl W0.heap.size rfl (mgV a) (mgV mg0) rfl _ (heap_last W0 _) mg_info rfl (mg_one _) ?_)
  rw [show (#[.int .i64 0, .int .i64 0, .int .i64 0, .int .i64 0, .int .i64 0, .int .i64 0, .int .i64 0, .int .i64 0, .int .i64 0, .string ⟨#[]⟩, .string ⟨#[]⟩] : Array Value) = mgV mg0 from rfl, ← hW1'.out, S0.out]
  clear hW1' y0 y1 y2 y3 y4 y5 y6 S0
  have y0 : W1.cell? ⟨B, 0, none⟩ = some (.int .i64 3) := by rw [← HK.out]; exact D1.out.ms.cells.1
  have y6 : W1.cell? ⟨B, 6, none⟩ = some (.int .i64 m.ver) := D1.out.ms.cells.2.2.2.2.2.2.1
  obtain ⟨x0, x1, _, _, _, _, x6, _⟩ := D1.out.nd.cells
  obtain ⟨_, _, _, _, _, _, v6, v7, v8, _⟩ := D1.out.an.cells
  rw [HS.out] at x6
  go_upto_region 4 with fail
  obtain ⟨W2, hW⟩ : ∃ X, X = W1.setCell ⟨B + 2, 6, none⟩ (.int .i64 m.ver) := ⟨_, rfl⟩
  have D2 : Hid (DoX w W2 b o B A0 n m { a with ver := m.ver }) := by rw [hW]; exact D1.out.set 6 _ _ rfl
  have zf : W1.frozen? ⟨B + 2, 6, none⟩ = false := D1.out.an.fz _
  replace hW := hide hW
  go_upto_region 5 with fail
  rw [← hW.out]
  clear hW zf
  clear y0 y6 x0 x1 x6 v6 v7 v8
  have y0 : W2.cell? ⟨B, 0, none⟩ = some (.int .i64 3) := by rw [← HK.out]; exact D2.out.ms.cells.1
  have y6 : W2.cell? ⟨B, 6, none⟩ = some (.int .i64 m.ver) := D2.out.ms.cells.2.2.2.2.2.2.1
  obtain ⟨x0, x1, _, _, _, _, x6, _⟩ := D2.out.nd.cells
  obtain ⟨_, _, _, _, _, _, v6, v7, v8, _⟩ := D2.out.an.cells
  rw [HS.out] at x6
  obtain ⟨W3, hW⟩ : ∃ X, X = W2.setCell ⟨B + 2, 8, none⟩ (.int .i64 99) := ⟨_, rfl⟩
  have D3 : Hid (DoX w W3 b o B A0 n m { a with ver := m.ver, code := 99 }) := by rw [hW]; exact D2.out.set 8 _ _ rfl
  have zf : W2.frozen? ⟨B + 2, 8, none⟩ = false := D2.out.an.fz _
  replace hW := hide hW
  go_upto_region 7 with fail
  rw [← hW.out]
  clear hW zf
  clear y0 y6 x0 x1 x6 v6 v7 v8
  have y0 : W3.cell? ⟨B, 0, none⟩ = some (.int .i64 3) := by rw [← HK.out]; exact D3.out.ms.cells.1
  have y6 : W3.cell? ⟨B, 6, none⟩ = some (.int .i64 m.ver) := D3.out.ms.cells.2.2.2.2.2.2.1
  obtain ⟨x0, x1, _, _, _, _, x6, _⟩ := D3.out.nd.cells
  obtain ⟨_, _, _, _, _, _, v6, v7, v8, _⟩ := D3.out.an.cells
  rw [HS.out] at x6
  go_wp2_with (first | refine wpList_ldM rfl (.tmp 5) rfl ({ a with ver := m.ver, code := 99 }) (B + 2) rfl D3.out.an ?_ | refine wpList_stR rfl 44 (.tmp 4) (.tmp 36) rfl (B + 1) rfl (mgV { a with ver := m.ver, code := 99 }) (mgV mg0) rfl _ D3.out.rs mg_info rfl (mg_one _) ?_)
  refine bodyPost_ret (v := .agg (mgV { a with ver := m.ver, code := 99 })) (res_row1 Try.results56 _ _ _ (B + 1) rfl _ D3.out.fin.2.2 Try.underlying44 mg_info) rfl ⟨?_, ?_, D3.out.fin.2.1⟩
  · unfold doesA
    rw [if_pos HK.out, HA.out, HS.out, HK.out]
    rfl
  · unfold doesN
    rw [if_pos (Or.inl HK.out)]
    exact D3.out.fin.1
set_option maxHeartbeats 8000000 in
set_option maxRecDepth 100000 in
set_option linter.unusedSimpArgs false in
set_option linter.unusedVariables false in
theorem does_3w {w : World} {b o : Nat} {A0 : Array Value} {n : Nd} (h : NdX w b o A0 n) (m : Mg) (hk : m.kind = 3) (hs : n.sick = false) :
    Calls Try.prog 56 #[.pointer (some ⟨b, o, none⟩), .agg (mgV m)] w fun e w' => e = .returned (.agg (mgV (doesA n m))) ∧ NdX w' b o A0 (doesN n m) ∧ Kp w w' (fun k => k = b) := by
  obtain ⟨B, hB⟩ : ∃ B, B = w.heap.size := ⟨_, rfl⟩
  obtain ⟨W0, hW0⟩ : ∃ W0, W0 = (w.alloc (.cells (mgV m) 44)).alloc (.cells (mgV mg0) 44) := ⟨_, rfl⟩
  have k1 : Kp (w.alloc (.cells (mgV m) 44)) W0 non := by rw [hW0]; exact (Kp.refl _ non).alloc _
  have m0 : MgAt W0 B m := by
    have q : MgAt (w.alloc (.cells (mgV m) 44)) B m := by rw [hB]; exact MgAt.new w m
    exact q.keep k1 (fun f => f)
  have s0 : W0.heap.size = B + 2 := by rw [hW0, World.size_alloc, World.size_alloc, hB]
  obtain ⟨y0, y1, y2, y3, y4, y5, y6, _⟩ := m0.cells
  rw [hk] at y0
  obtain ⟨a, ha⟩ : ∃ a : Mg, a = { mg0 with kind := 4, fr := m.td, td := m.fr, id := m.id, ep := m.ep, sq := m.sq } := ⟨_, rfl⟩
  obtain ⟨W1, hW1⟩ : ∃ W1, W1 = (W0.alloc (.cells (mgV mg0) 44)).setRow W0.heap.size (mgV a) := ⟨_, rfl⟩
  have D1 : Hid (DoX w W1 b o B A0 n m a) := by rw [hW1, s0, hW0, hB]; exact dox0 h m a
  have hW1' := hide hW1
  have HB := hide hB
  have S0 := hide s0
  have HK := hide hk
  have HS := hide hs
  have HA := hide ha
  clear h hk hs k1 m0 s0 ha hW1
  go_enter Try.func56, Try.ntmps56
  go_upto_region 1 with fail
  rw [show (#[.int .i64 0, .int .i64 0, .int .i64 0, .int .i64 0, .int .i64 0, .int .i64 0, .int .i64 0, .int .i64 0, .int .i64 0, .string ⟨#[]⟩, .string ⟨#[]⟩] : Array Value) = mgV mg0 from rfl, ← hW0, ← HB.out]
  clear hW0 hB
  go_upto_region 3 with (first | refine wpList_blR rfl 44 #[(0, .tmp 8), (1, .tmp 10), (2, .tmp 12), (3, .tmp 14), (4, .tmp 16), (5, .tmp 18)] rfl (mgV a) (by rw [HA.out]; kernel_rfl) ?_ | refine wpList_stR rfl 44 (.tmp 5) (.tmp 19) rfl W0.heap.size rfl (mgV a) (mgV mg0) rfl _ (heap_last W0 _) mg_info rfl (mg_one _) ?_)
  rw [show (#[.int .i64 0, .int .i64 0, .int .i64 0, .int .i64 0, .int .i64 0, .int .i64 0, .int .i64 0, .int .i64 0, .int .i64 0, .string ⟨#[]⟩, .string ⟨#[]⟩] : Array Value) = mgV mg0 from rfl, ← hW1'.out, S0.out]
  clear hW1' y0 y1 y2 y3 y4 y5 y6 S0
  have y0 : W1.cell? ⟨B, 0, none⟩ = some (.int .i64 3) := by rw [← HK.out]; exact D1.out.ms.cells.1
  have y6 : W1.cell? ⟨B, 6, none⟩ = some (.int .i64 m.ver) := D1.out.ms.cells.2.2.2.2.2.2.1
  obtain ⟨x0, x1, _, _, _, _, x6, _⟩ := D1.out.nd.cells
  obtain ⟨_, _, _, _, _, _, v6, v7, v8, _⟩ := D1.out.an.cells
  rw [HS.out] at x6
  go_upto_region 4 with fail
  obtain ⟨W2, hW⟩ : ∃ X, X = W1.setCell ⟨B + 2, 6, none⟩ (.int .i64 m.ver) := ⟨_, rfl⟩
  have D2 : Hid (DoX w W2 b o B A0 n m { a with ver := m.ver }) := by rw [hW]; exact D1.out.set 6 _ _ rfl
  have zf : W1.frozen? ⟨B + 2, 6, none⟩ = false := D1.out.an.fz _
  replace hW := hide hW
  go_upto_region 5 with fail
  rw [← hW.out]
  clear hW zf
  clear y0 y6 x0 x1 x6 v6 v7 v8
  have y0 : W2.cell? ⟨B, 0, none⟩ = some (.int .i64 3) := by rw [← HK.out]; exact D2.out.ms.cells.1
  have y6 : W2.cell? ⟨B, 6, none⟩ = some (.int .i64 m.ver) := D2.out.ms.cells.2.2.2.2.2.2.1
  obtain ⟨x0, x1, _, _, _, _, x6, _⟩ := D2.out.nd.cells
  obtain ⟨_, _, _, _, _, _, v6, v7, v8, _⟩ := D2.out.an.cells
  rw [HS.out] at x6
  go_wp2_with (first | refine wpList_ldM rfl (.tmp 5) rfl ({ a with ver := m.ver }) (B + 2) rfl D2.out.an ?_ | refine wpList_stR rfl 44 (.tmp 4) (.tmp 36) rfl (B + 1) rfl (mgV { a with ver := m.ver }) (mgV mg0) rfl _ D2.out.rs mg_info rfl (mg_one _) ?_)
  refine bodyPost_ret (v := .agg (mgV { a with ver := m.ver })) (res_row1 Try.results56 _ _ _ (B + 1) rfl _ D2.out.fin.2.2 Try.underlying44 mg_info) rfl ⟨?_, ?_, D2.out.fin.2.1⟩
  · unfold doesA
    rw [if_pos HK.out, HA.out, HS.out, HK.out]
    rfl
  · unfold doesN
    rw [if_pos (Or.inl HK.out)]
    exact D2.out.fin.1
set_option maxHeartbeats 8000000 in
set_option maxRecDepth 100000 in
set_option linter.unusedSimpArgs false in
set_option linter.unusedVariables false in
theorem does_5s {w : World} {b o : Nat} {A0 : Array Value} {n : Nd} (h : NdX w b o A0 n) (m : Mg) (hk : m.kind = 5) (hs : n.sick = true) :
    Calls Try.prog 56 #[.pointer (some ⟨b, o, none⟩), .agg (mgV m)] w fun e w' => e = .returned (.agg (mgV (doesA n m))) ∧ NdX w' b o A0 (doesN n m) ∧ Kp w w' (fun k => k = b) := by
  obtain ⟨B, hB⟩ : ∃ B, B = w.heap.size := ⟨_, rfl⟩
  obtain ⟨W0, hW0⟩ : ∃ W0, W0 = (w.alloc (.cells (mgV m) 44)).alloc (.cells (mgV mg0) 44) := ⟨_, rfl⟩
  have k1 : Kp (w.alloc (.cells (mgV m) 44)) W0 non := by rw [hW0]; exact (Kp.refl _ non).alloc _
  have m0 : MgAt W0 B m := by
    have q : MgAt (w.alloc (.cells (mgV m) 44)) B m := by rw [hB]; exact MgAt.new w m
    exact q.keep k1 (fun f => f)
  have s0 : W0.heap.size = B + 2 := by rw [hW0, World.size_alloc, World.size_alloc, hB]
  obtain ⟨y0, y1, y2, y3, y4, y5, y6, _⟩ := m0.cells
  rw [hk] at y0
  obtain ⟨a, ha⟩ : ∃ a : Mg, a = { mg0 with kind := 6, fr := m.td, td := m.fr, id := m.id, ep := m.ep, sq := m.sq } := ⟨_, rfl⟩
  obtain ⟨W1, hW1⟩ : ∃ W1, W1 = (W0.alloc (.cells (mgV mg0) 44)).setRow W0.heap.size (mgV a) := ⟨_, rfl⟩
  have D1 : Hid (DoX w W1 b o B A0 n m a) := by rw [hW1, s0, hW0, hB]; exact dox0 h m a
  have hW1' := hide hW1
  have HB := hide hB
  have S0 := hide s0
  have HK := hide hk
  have HS := hide hs
  have HA := hide ha
  clear h hk hs k1 m0 s0 ha hW1
  go_enter Try.func56, Try.ntmps56
  go_upto_region 1 with fail
  rw [show (#[.int .i64 0, .int .i64 0, .int .i64 0, .int .i64 0, .int .i64 0, .int .i64 0, .int .i64 0, .int .i64 0, .int .i64 0, .string ⟨#[]⟩, .string ⟨#[]⟩] : Array Value) = mgV mg0 from rfl, ← hW0, ← HB.out]
  clear hW0 hB
  go_upto_region 3 with (first | refine wpList_blR rfl 44 #[(0, .tmp 8), (1, .tmp 10), (2, .tmp 12), (3, .tmp 14), (4, .tmp 16), (5, .tmp 18)] rfl (mgV a) (by rw [HA.out]; kernel_rfl) ?_ | refine wpList_stR rfl 44 (.tmp 5) (.tmp 19) rfl W0.heap.size rfl (mgV a) (mgV mg0) rfl _ (heap_last W0 _) mg_info rfl (mg_one _) ?_)
  rw [show (#[.int .i64 0, .int .i64 0, .int .i64 0, .int .i64 0, .int .i64 0, .int .i64 0, .int .i64 0, .int .i64 0, .int .i64 0, .string ⟨#[]⟩, .string ⟨#[]⟩] : Array Value) = mgV mg0 from rfl, ← hW1'.out, S0.out]
  clear hW1' y0 y1 y2 y3 y4 y5 y6 S0
  have y0 : W1.cell? ⟨B, 0, none⟩ = some (.int .i64 5) := by rw [← HK.out]; exact D1.out.ms.cells.1
  have y6 : W1.cell? ⟨B, 6, none⟩ = some (.int .i64 m.ver) := D1.out.ms.cells.2.2.2.2.2.2.1
  obtain ⟨x0, x1, _, _, _, _, x6, _⟩ := D1.out.nd.cells
  obtain ⟨_, _, _, _, _, _, v6, v7, v8, _⟩ := D1.out.an.cells
  rw [HS.out] at x6
  go_upto_region 12 with fail
  obtain ⟨W2, hW⟩ : ∃ X, X = W1.setCell ⟨B + 2, 8, none⟩ (.int .i64 99) := ⟨_, rfl⟩
  have D2 : Hid (DoX w W2 b o B A0 n m { a with code := 99 }) := by rw [hW]; exact D1.out.set 8 _ _ rfl
  have zf : W1.frozen? ⟨B + 2, 8, none⟩ = false := D1.out.an.fz _
  replace hW := hide hW
  go_upto_region 13 with fail
  rw [← hW.out]
  clear hW zf
  clear y0 y6 x0 x1 x6 v6 v7 v8
  have y0 : W2.cell? ⟨B, 0, none⟩ = some (.int .i64 5) := by rw [← HK.out]; exact D2.out.ms.cells.1
  have y6 : W2.cell? ⟨B, 6, none⟩ = some (.int .i64 m.ver) := D2.out.ms.cells.2.2.2.2.2.2.1
  obtain ⟨x0, x1, _, _, _, _, x6, _⟩ := D2.out.nd.cells
  obtain ⟨_, _, _, _, _, _, v6, v7, v8, _⟩ := D2.out.an.cells
  rw [HS.out] at x6
  obtain ⟨W3, hW⟩ : ∃ X, X = W2.setCell ⟨B + 2, 6, none⟩ (.int .i64 n.cur) := ⟨_, rfl⟩
  have D3 : Hid (DoX w W3 b o B A0 n m { a with code := 99, ver := n.cur }) := by rw [hW]; exact D2.out.set 6 _ _ rfl
  have zf : W2.frozen? ⟨B + 2, 6, none⟩ = false := D2.out.an.fz _
  replace hW := hide hW
  go_upto_region 14 with fail
  rw [← hW.out]
  clear hW zf
  clear y0 y6 x0 x1 x6 v6 v7 v8
  have y0 : W3.cell? ⟨B, 0, none⟩ = some (.int .i64 5) := by rw [← HK.out]; exact D3.out.ms.cells.1
  have y6 : W3.cell? ⟨B, 6, none⟩ = some (.int .i64 m.ver) := D3.out.ms.cells.2.2.2.2.2.2.1
  obtain ⟨x0, x1, _, _, _, _, x6, _⟩ := D3.out.nd.cells
  obtain ⟨_, _, _, _, _, _, v6, v7, v8, _⟩ := D3.out.an.cells
  rw [HS.out] at x6
  obtain ⟨W4, hW⟩ : ∃ X, X = W3.setCell ⟨B + 2, 7, none⟩ (.int .i64 n.prev) := ⟨_, rfl⟩
  have D4 : Hid (DoX w W4 b o B A0 n m { a with code := 99, ver := n.cur, prev := n.prev }) := by rw [hW]; exact D3.out.set 7 _ _ rfl
  have zf : W3.frozen? ⟨B + 2, 7, none⟩ = false := D3.out.an.fz _
  replace hW := hide hW
  go_upto_region 15 with fail
  rw [← hW.out]
  clear hW zf
  clear y0 y6 x0 x1 x6 v6 v7 v8
  have y0 : W4.cell? ⟨B, 0, none⟩ = some (.int .i64 5) := by rw [← HK.out]; exact D4.out.ms.cells.1
  have y6 : W4.cell? ⟨B, 6, none⟩ = some (.int .i64 m.ver) := D4.out.ms.cells.2.2.2.2.2.2.1
  obtain ⟨x0, x1, _, _, _, _, x6, _⟩ := D4.out.nd.cells
  obtain ⟨_, _, _, _, _, _, v6, v7, v8, _⟩ := D4.out.an.cells
  rw [HS.out] at x6
  go_wp2_with (first | refine wpList_ldM rfl (.tmp 5) rfl ({ a with code := 99, ver := n.cur, prev := n.prev }) (B + 2) rfl D4.out.an ?_ | refine wpList_stR rfl 44 (.tmp 4) (.tmp 67) rfl (B + 1) rfl (mgV { a with code := 99, ver := n.cur, prev := n.prev }) (mgV mg0) rfl _ D4.out.rs mg_info rfl (mg_one _) ?_)
  refine bodyPost_ret (v := .agg (mgV { a with code := 99, ver := n.cur, prev := n.prev })) (res_row1 Try.results56 _ _ _ (B + 1) rfl _ D4.out.fin.2.2 Try.underlying44 mg_info) rfl ⟨?_, ?_, D4.out.fin.2.1⟩
  · unfold doesA
    rw [if_neg (fun f => by have := HK.out; omega), if_neg (fun f => by have := HK.out; omega), if_pos HS.out, HA.out, HK.out]
    rfl
  · unfold doesN
    rw [if_pos (Or.inr (Or.inr HS.out))]
    exact D4.out.fin.1
set_option maxHeartbeats 8000000 in
set_option maxRecDepth 100000 in
set_option linter.unusedSimpArgs false in
set_option linter.unusedVariables false in
theorem does_5w {w : World} {b o : Nat} {A0 : Array Value} {n : Nd} (h : NdX w b o A0 n) (m : Mg) (hk : m.kind = 5) (hs : n.sick = false) :
    Calls Try.prog 56 #[.pointer (some ⟨b, o, none⟩), .agg (mgV m)] w fun e w' => e = .returned (.agg (mgV (doesA n m))) ∧ NdX w' b o A0 (doesN n m) ∧ Kp w w' (fun k => k = b) := by
  obtain ⟨B, hB⟩ : ∃ B, B = w.heap.size := ⟨_, rfl⟩
  obtain ⟨W0, hW0⟩ : ∃ W0, W0 = (w.alloc (.cells (mgV m) 44)).alloc (.cells (mgV mg0) 44) := ⟨_, rfl⟩
  have k1 : Kp (w.alloc (.cells (mgV m) 44)) W0 non := by rw [hW0]; exact (Kp.refl _ non).alloc _
  have m0 : MgAt W0 B m := by
    have q : MgAt (w.alloc (.cells (mgV m) 44)) B m := by rw [hB]; exact MgAt.new w m
    exact q.keep k1 (fun f => f)
  have s0 : W0.heap.size = B + 2 := by rw [hW0, World.size_alloc, World.size_alloc, hB]
  obtain ⟨y0, y1, y2, y3, y4, y5, y6, _⟩ := m0.cells
  rw [hk] at y0
  obtain ⟨a, ha⟩ : ∃ a : Mg, a = { mg0 with kind := 6, fr := m.td, td := m.fr, id := m.id, ep := m.ep, sq := m.sq } := ⟨_, rfl⟩
  obtain ⟨W1, hW1⟩ : ∃ W1, W1 = (W0.alloc (.cells (mgV mg0) 44)).setRow W0.heap.size (mgV a) := ⟨_, rfl⟩
  have D1 : Hid (DoX w W1 b o B A0 n m a) := by rw [hW1, s0, hW0, hB]; exact dox0 h m a
  have hW1' := hide hW1
  have HB := hide hB
  have S0 := hide s0
  have HK := hide hk
  have HS := hide hs
  have HA := hide ha
  clear h hk hs k1 m0 s0 ha hW1
  go_enter Try.func56, Try.ntmps56
  go_upto_region 1 with fail
  rw [show (#[.int .i64 0, .int .i64 0, .int .i64 0, .int .i64 0, .int .i64 0, .int .i64 0, .int .i64 0, .int .i64 0, .int .i64 0, .string ⟨#[]⟩, .string ⟨#[]⟩] : Array Value) = mgV mg0 from rfl, ← hW0, ← HB.out]
  clear hW0 hB
  go_upto_region 3 with (first | refine wpList_blR rfl 44 #[(0, .tmp 8), (1, .tmp 10), (2, .tmp 12), (3, .tmp 14), (4, .tmp 16), (5, .tmp 18)] rfl (mgV a) (by rw [HA.out]; kernel_rfl) ?_ | refine wpList_stR rfl 44 (.tmp 5) (.tmp 19) rfl W0.heap.size rfl (mgV a) (mgV mg0) rfl _ (heap_last W0 _) mg_info rfl (mg_one _) ?_)
  rw [show (#[.int .i64 0, .int .i64 0, .int .i64 0, .int .i64 0, .int .i64 0, .int .i64 0, .int .i64 0, .int .i64 0, .int .i64 0, .string ⟨#[]⟩, .string ⟨#[]⟩] : Array Value) = mgV mg0 from rfl, ← hW1'.out, S0.out]
  clear hW1' y0 y1 y2 y3 y4 y5 y6 S0
  have y0 : W1.cell? ⟨B, 0, none⟩ = some (.int .i64 5) := by rw [← HK.out]; exact D1.out.ms.cells.1
  have y6 : W1.cell? ⟨B, 6, none⟩ = some (.int .i64 m.ver) := D1.out.ms.cells.2.2.2.2.2.2.1
  obtain ⟨x0, x1, _, _, _, _, x6, _⟩ := D1.out.nd.cells
  obtain ⟨_, _, _, _, _, _, v6, v7, v8, _⟩ := D1.out.an.cells
  rw [HS.out] at x6
  have OR := hide (order_any D1.out.nd m)
  go_upto_region 2 with fail
  go_wp2_with (refine wpList_ldM rfl (.tmp 3) rfl m B rfl D1.out.ms ?_)
  refine Calls.mono OR.out ?_
  rintro e W2 ⟨rfl, n2, k2⟩
  have D2 := hide (D1.out.nod n2 k2)
  have HE : Hid (doesN n m = ordN n m) := hide (by unfold doesN; rw [if_neg (fun f => by have := HK.out; rcases f with f | f | f; omega; omega; rw [HS.out] at f; simp at f)])
  have HD : Hid (doesA n m = { mg0 with kind := m.kind + 1, fr := m.td, td := m.fr, id := m.id, ep := m.ep, sq := m.sq, code := ordE n m, ver := (ordN n m).cur, prev := (ordN n m).prev }) := hide (by unfold doesA; rw [if_neg (fun f => by have := HK.out; omega), if_neg (fun f => by have := HK.out; omega), if_neg (fun f => by rw [HS.out] at f; simp at f)])
  obtain ⟨n', hn'⟩ : ∃ n', n' = ordN n m := ⟨_, rfl⟩
  obtain ⟨ce, hce⟩ : ∃ ce, ce = ordE n m := ⟨_, rfl⟩
  rw [← hn'] at D2 HE HD
  rw [← hce] at HD ⊢
  clear n2 k2 OR hn' hce
  clear y0 y6 x0 x1 x6 v6 v7 v8
  have y0 : W2.cell? ⟨B, 0, none⟩ = some (.int .i64 5) := by rw [← HK.out]; exact D2.out.ms.cells.1
  have y6 : W2.cell? ⟨B, 6, none⟩ = some (.int .i64 m.ver) := D2.out.ms.cells.2.2.2.2.2.2.1
  obtain ⟨x0, x1, _, _, _, _, x6, _⟩ := D2.out.nd.cells
  obtain ⟨_, _, _, _, _, _, v6, v7, v8, _⟩ := D2.out.an.cells
  obtain ⟨W3, hW⟩ : ∃ X, X = W2.setCell ⟨B + 2, 8, none⟩ (.int .i64 ce) := ⟨_, rfl⟩
  have D3 : Hid (DoX w W3 b o B A0 n' m { a with code := ce }) := by rw [hW]; exact D2.out.set 8 _ _ rfl
  have zf : W2.frozen? ⟨B + 2, 8, none⟩ = false := D2.out.an.fz _
  replace hW := hide hW
  go_upto_region 13 with fail
  rw [← hW.out]
  clear hW zf
  clear y0 y6 x0 x1 x6 v6 v7 v8
  have y0 : W3.cell? ⟨B, 0, none⟩ = some (.int .i64 5) := by rw [← HK.out]; exact D3.out.ms.cells.1
  have y6 : W3.cell? ⟨B, 6, none⟩ = some (.int .i64 m.ver) := D3.out.ms.cells.2.2.2.2.2.2.1
  obtain ⟨x0, x1, _, _, _, _, x6, _⟩ := D3.out.nd.cells
  obtain ⟨_, _, _, _, _, _, v6, v7, v8, _⟩ := D3.out.an.cells
  obtain ⟨W4, hW⟩ : ∃ X, X = W3.setCell ⟨B + 2, 6, none⟩ (.int .i64 n'.cur) := ⟨_, rfl⟩
  have D4 : Hid (DoX w W4 b o B A0 n' m { a with code := ce, ver := n'.cur }) := by rw [hW]; exact D3.out.set 6 _ _ rfl
  have zf : W3.frozen? ⟨B + 2, 6, none⟩ = false := D3.out.an.fz _
  replace hW := hide hW
  go_upto_region 14 with fail
  rw [← hW.out]
  clear hW zf
  clear y0 y6 x0 x1 x6 v6 v7 v8
  have y0 : W4.cell? ⟨B, 0, none⟩ = some (.int .i64 5) := by rw [← HK.out]; exact D4.out.ms.cells.1
  have y6 : W4.cell? ⟨B, 6, none⟩ = some (.int .i64 m.ver) := D4.out.ms.cells.2.2.2.2.2.2.1
  obtain ⟨x0, x1, _, _, _, _, x6, _⟩ := D4.out.nd.cells
  obtain ⟨_, _, _, _, _, _, v6, v7, v8, _⟩ := D4.out.an.cells
  obtain ⟨W5, hW⟩ : ∃ X, X = W4.setCell ⟨B + 2, 7, none⟩ (.int .i64 n'.prev) := ⟨_, rfl⟩
  have D5 : Hid (DoX w W5 b o B A0 n' m { a with code := ce, ver := n'.cur, prev := n'.prev }) := by rw [hW]; exact D4.out.set 7 _ _ rfl
  have zf : W4.frozen? ⟨B + 2, 7, none⟩ = false := D4.out.an.fz _
  replace hW := hide hW
  go_upto_region 15 with fail
  rw [← hW.out]
  clear hW zf
  clear y0 y6 x0 x1 x6 v6 v7 v8
  have y0 : W5.cell? ⟨B, 0, none⟩ = some (.int .i64 5) := by rw [← HK.out]; exact D5.out.ms.cells.1
  have y6 : W5.cell? ⟨B, 6, none⟩ = some (.int .i64 m.ver) := D5.out.ms.cells.2.2.2.2.2.2.1
  obtain ⟨x0, x1, _, _, _, _, x6, _⟩ := D5.out.nd.cells
  obtain ⟨_, _, _, _, _, _, v6, v7, v8, _⟩ := D5.out.an.cells
  go_wp2_with (first | refine wpList_ldM rfl (.tmp 5) rfl ({ a with code := ce, ver := n'.cur, prev := n'.prev }) (B + 2) rfl D5.out.an ?_ | refine wpList_stR rfl 44 (.tmp 4) (.tmp 67) rfl (B + 1) rfl (mgV { a with code := ce, ver := n'.cur, prev := n'.prev }) (mgV mg0) rfl _ D5.out.rs mg_info rfl (mg_one _) ?_)
  refine bodyPost_ret (v := .agg (mgV { a with code := ce, ver := n'.cur, prev := n'.prev })) (res_row1 Try.results56 _ _ _ (B + 1) rfl _ D5.out.fin.2.2 Try.underlying44 mg_info) rfl ⟨?_, ?_, D5.out.fin.2.1⟩
  · rw [HD.out, HA.out, HK.out]
    rfl
  · rw [HE.out]
    exact D5.out.fin.1
set_option maxHeartbeats 8000000 in
set_option maxRecDepth 100000 in
set_option linter.unusedSimpArgs false in
set_option linter.unusedVariables false in
theorem does_7s {w : World} {b o : Nat} {A0 : Array Value} {n : Nd} (h : NdX w b o A0 n) (m : Mg) (hk : m.kind = 7) (hs : n.sick = true) :
    Calls Try.prog 56 #[.pointer (some ⟨b, o, none⟩), .agg (mgV m)] w fun e w' => e = .returned (.agg (mgV (doesA n m))) ∧ NdX w' b o A0 (doesN n m) ∧ Kp w w' (fun k => k = b) := by
  obtain ⟨B, hB⟩ : ∃ B, B = w.heap.size := ⟨_, rfl⟩
  obtain ⟨W0, hW0⟩ : ∃ W0, W0 = (w.alloc (.cells (mgV m) 44)).alloc (.cells (mgV mg0) 44) := ⟨_, rfl⟩
  have k1 : Kp (w.alloc (.cells (mgV m) 44)) W0 non := by rw [hW0]; exact (Kp.refl _ non).alloc _
  have m0 : MgAt W0 B m := by
    have q : MgAt (w.alloc (.cells (mgV m) 44)) B m := by rw [hB]; exact MgAt.new w m
    exact q.keep k1 (fun f => f)
  have s0 : W0.heap.size = B + 2 := by rw [hW0, World.size_alloc, World.size_alloc, hB]
  obtain ⟨y0, y1, y2, y3, y4, y5, y6, _⟩ := m0.cells
  rw [hk] at y0
  obtain ⟨a, ha⟩ : ∃ a : Mg, a = { mg0 with kind := 8, fr := m.td, td := m.fr, id := m.id, ep := m.ep, sq := m.sq } := ⟨_, rfl⟩
  obtain ⟨W1, hW1⟩ : ∃ W1, W1 = (W0.alloc (.cells (mgV mg0) 44)).setRow W0.heap.size (mgV a) := ⟨_, rfl⟩
  have D1 : Hid (DoX w W1 b o B A0 n m a) := by rw [hW1, s0, hW0, hB]; exact dox0 h m a
  have hW1' := hide hW1
  have HB := hide hB
  have S0 := hide s0
  have HK := hide hk
  have HS := hide hs
  have HA := hide ha
  clear h hk hs k1 m0 s0 ha hW1
  go_enter Try.func56, Try.ntmps56
  go_upto_region 1 with fail
  rw [show (#[.int .i64 0, .int .i64 0, .int .i64 0, .int .i64 0, .int .i64 0, .int .i64 0, .int .i64 0, .int .i64 0, .int .i64 0, .string ⟨#[]⟩, .string ⟨#[]⟩] : Array Value) = mgV mg0 from rfl, ← hW0, ← HB.out]
  clear hW0 hB
  go_upto_region 3 with (first | refine wpList_blR rfl 44 #[(0, .tmp 8), (1, .tmp 10), (2, .tmp 12), (3, .tmp 14), (4, .tmp 16), (5, .tmp 18)] rfl (mgV a) (by rw [HA.out]; kernel_rfl) ?_ | refine wpList_stR rfl 44 (.tmp 5) (.tmp 19) rfl W0.heap.size rfl (mgV a) (mgV mg0) rfl _ (heap_last W0 _) mg_info rfl (mg_one _) ?_)
  rw [show (#[.int .i64 0, .int .i64 0, .int .i64 0, .int .i64 0, .int .i64 0, .int .i64 0, .int .i64 0, .int .i64 0, .int .i64 0, .string ⟨#[]⟩, .string ⟨#[]⟩] : Array Value) = mgV mg0 from rfl, ← hW1'.out, S0.out]
  clear hW1' y0 y1 y2 y3 y4 y5 y6 S0
  have y0 : W1.cell? ⟨B, 0, none⟩ = some (.int .i64 7) := by rw [← HK.out]; exact D1.out.ms.cells.1
  have y6 : W1.cell? ⟨B, 6, none⟩ = some (.int .i64 m.ver) := D1.out.ms.cells.2.2.2.2.2.2.1
  obtain ⟨x0, x1, _, _, _, _, x6, _⟩ := D1.out.nd.cells
  obtain ⟨_, _, _, _, _, _, v6, v7, v8, _⟩ := D1.out.an.cells
  rw [HS.out] at x6
  go_upto_region 12 with fail
  obtain ⟨W2, hW⟩ : ∃ X, X = W1.setCell ⟨B + 2, 8, none⟩ (.int .i64 99) := ⟨_, rfl⟩
  have D2 : Hid (DoX w W2 b o B A0 n m { a with code := 99 }) := by rw [hW]; exact D1.out.set 8 _ _ rfl
  have zf : W1.frozen? ⟨B + 2, 8, none⟩ = false := D1.out.an.fz _
  replace hW := hide hW
  go_upto_region 13 with fail
  rw [← hW.out]
  clear hW zf
  clear y0 y6 x0 x1 x6 v6 v7 v8
  have y0 : W2.cell? ⟨B, 0, none⟩ = some (.int .i64 7) := by rw [← HK.out]; exact D2.out.ms.cells.1
  have y6 : W2.cell? ⟨B, 6, none⟩ = some (.int .i64 m.ver) := D2.out.ms.cells.2.2.2.2.2.2.1
  obtain ⟨x0, x1, _, _, _, _, x6, _⟩ := D2.out.nd.cells
  obtain ⟨_, _, _, _, _, _, v6, v7, v8, _⟩ := D2.out.an.cells
  rw [HS.out] at x6
  obtain ⟨W3, hW⟩ : ∃ X, X = W2.setCell ⟨B + 2, 6, none⟩ (.int .i64 n.cur) := ⟨_, rfl⟩
  have D3 : Hid (DoX w W3 b o B A0 n m { a with code := 99, ver := n.cur }) := by rw [hW]; exact D2.out.set 6 _ _ rfl
  have zf : W2.frozen? ⟨B + 2, 6, none⟩ = false := D2.out.an.fz _
  replace hW := hide hW
  go_upto_region 14 with fail
  rw [← hW.out]
  clear hW zf
  clear y0 y6 x0 x1 x6 v6 v7 v8
  have y0 : W3.cell? ⟨B, 0, none⟩ = some (.int .i64 7) := by rw [← HK.out]; exact D3.out.ms.cells.1
  have y6 : W3.cell? ⟨B, 6, none⟩ = some (.int .i64 m.ver) := D3.out.ms.cells.2.2.2.2.2.2.1
  obtain ⟨x0, x1, _, _, _, _, x6, _⟩ := D3.out.nd.cells
  obtain ⟨_, _, _, _, _, _, v6, v7, v8, _⟩ := D3.out.an.cells
  rw [HS.out] at x6
  obtain ⟨W4, hW⟩ : ∃ X, X = W3.setCell ⟨B + 2, 7, none⟩ (.int .i64 n.prev) := ⟨_, rfl⟩
  have D4 : Hid (DoX w W4 b o B A0 n m { a with code := 99, ver := n.cur, prev := n.prev }) := by rw [hW]; exact D3.out.set 7 _ _ rfl
  have zf : W3.frozen? ⟨B + 2, 7, none⟩ = false := D3.out.an.fz _
  replace hW := hide hW
  go_upto_region 15 with fail
  rw [← hW.out]
  clear hW zf
  clear y0 y6 x0 x1 x6 v6 v7 v8
  have y0 : W4.cell? ⟨B, 0, none⟩ = some (.int .i64 7) := by rw [← HK.out]; exact D4.out.ms.cells.1
  have y6 : W4.cell? ⟨B, 6, none⟩ = some (.int .i64 m.ver) := D4.out.ms.cells.2.2.2.2.2.2.1
  obtain ⟨x0, x1, _, _, _, _, x6, _⟩ := D4.out.nd.cells
  obtain ⟨_, _, _, _, _, _, v6, v7, v8, _⟩ := D4.out.an.cells
  rw [HS.out] at x6
  go_wp2_with (first | refine wpList_ldM rfl (.tmp 5) rfl ({ a with code := 99, ver := n.cur, prev := n.prev }) (B + 2) rfl D4.out.an ?_ | refine wpList_stR rfl 44 (.tmp 4) (.tmp 67) rfl (B + 1) rfl (mgV { a with code := 99, ver := n.cur, prev := n.prev }) (mgV mg0) rfl _ D4.out.rs mg_info rfl (mg_one _) ?_)
  refine bodyPost_ret (v := .agg (mgV { a with code := 99, ver := n.cur, prev := n.prev })) (res_row1 Try.results56 _ _ _ (B + 1) rfl _ D4.out.fin.2.2 Try.underlying44 mg_info) rfl ⟨?_, ?_, D4.out.fin.2.1⟩
  · unfold doesA
    rw [if_neg (fun f => by have := HK.out; omega), if_neg (fun f => by have := HK.out; omega), if_pos HS.out, HA.out, HK.out]
    rfl
  · unfold doesN
    rw [if_pos (Or.inr (Or.inr HS.out))]
    exact D4.out.fin.1
set_option maxHeartbeats 8000000 in
set_option maxRecDepth 100000 in
set_option linter.unusedSimpArgs false in
set_option linter.unusedVariables false in
theorem does_7w {w : World} {b o : Nat} {A0 : Array Value} {n : Nd} (h : NdX w b o A0 n) (m : Mg) (hk : m.kind = 7) (hs : n.sick = false) :
    Calls Try.prog 56 #[.pointer (some ⟨b, o, none⟩), .agg (mgV m)] w fun e w' => e = .returned (.agg (mgV (doesA n m))) ∧ NdX w' b o A0 (doesN n m) ∧ Kp w w' (fun k => k = b) := by
  obtain ⟨B, hB⟩ : ∃ B, B = w.heap.size := ⟨_, rfl⟩
  obtain ⟨W0, hW0⟩ : ∃ W0, W0 = (w.alloc (.cells (mgV m) 44)).alloc (.cells (mgV mg0) 44) := ⟨_, rfl⟩
  have k1 : Kp (w.alloc (.cells (mgV m) 44)) W0 non := by rw [hW0]; exact (Kp.refl _ non).alloc _
  have m0 : MgAt W0 B m := by
    have q : MgAt (w.alloc (.cells (mgV m) 44)) B m := by rw [hB]; exact MgAt.new w m
    exact q.keep k1 (fun f => f)
  have s0 : W0.heap.size = B + 2 := by rw [hW0, World.size_alloc, World.size_alloc, hB]
  obtain ⟨y0, y1, y2, y3, y4, y5, y6, _⟩ := m0.cells
  rw [hk] at y0
  obtain ⟨a, ha⟩ : ∃ a : Mg, a = { mg0 with kind := 8, fr := m.td, td := m.fr, id := m.id, ep := m.ep, sq := m.sq } := ⟨_, rfl⟩
  obtain ⟨W1, hW1⟩ : ∃ W1, W1 = (W0.alloc (.cells (mgV mg0) 44)).setRow W0.heap.size (mgV a) := ⟨_, rfl⟩
  have D1 : Hid (DoX w W1 b o B A0 n m a) := by rw [hW1, s0, hW0, hB]; exact dox0 h m a
  have hW1' := hide hW1
  have HB := hide hB
  have S0 := hide s0
  have HK := hide hk
  have HS := hide hs
  have HA := hide ha
  clear h hk hs k1 m0 s0 ha hW1
  go_enter Try.func56, Try.ntmps56
  go_upto_region 1 with fail
  rw [show (#[.int .i64 0, .int .i64 0, .int .i64 0, .int .i64 0, .int .i64 0, .int .i64 0, .int .i64 0, .int .i64 0, .int .i64 0, .string ⟨#[]⟩, .string ⟨#[]⟩] : Array Value) = mgV mg0 from rfl, ← hW0, ← HB.out]
  clear hW0 hB
  go_upto_region 3 with (first | refine wpList_blR rfl 44 #[(0, .tmp 8), (1, .tmp 10), (2, .tmp 12), (3, .tmp 14), (4, .tmp 16), (5, .tmp 18)] rfl (mgV a) (by rw [HA.out]; kernel_rfl) ?_ | refine wpList_stR rfl 44 (.tmp 5) (.tmp 19) rfl W0.heap.size rfl (mgV a) (mgV mg0) rfl _ (heap_last W0 _) mg_info rfl (mg_one _) ?_)
  rw [show (#[.int .i64 0, .int .i64 0, .int .i64 0, .int .i64 0, .int .i64 0, .int .i64 0, .int .i64 0, .int .i64 0, .int .i64 0, .string ⟨#[]⟩, .string ⟨#[]⟩] : Array Value) = mgV mg0 from rfl, ← hW1'.out, S0.out]
  clear hW1' y0 y1 y2 y3 y4 y5 y6 S0
  have y0 : W1.cell? ⟨B, 0, none⟩ = some (.int .i64 7) := by rw [← HK.out]; exact D1.out.ms.cells.1
  have y6 : W1.cell? ⟨B, 6, none⟩ = some (.int .i64 m.ver) := D1.out.ms.cells.2.2.2.2.2.2.1
  obtain ⟨x0, x1, _, _, _, _, x6, _⟩ := D1.out.nd.cells
  obtain ⟨_, _, _, _, _, _, v6, v7, v8, _⟩ := D1.out.an.cells
  rw [HS.out] at x6
  have OR := hide (order_any D1.out.nd m)
  go_upto_region 2 with fail
  go_wp2_with (refine wpList_ldM rfl (.tmp 3) rfl m B rfl D1.out.ms ?_)
  refine Calls.mono OR.out ?_
  rintro e W2 ⟨rfl, n2, k2⟩
  have D2 := hide (D1.out.nod n2 k2)
  have HE : Hid (doesN n m = ordN n m) := hide (by unfold doesN; rw [if_neg (fun f => by have := HK.out; rcases f with f | f | f; omega; omega; rw [HS.out] at f; simp at f)])
  have HD : Hid (doesA n m = { mg0 with kind := m.kind + 1, fr := m.td, td := m.fr, id := m.id, ep := m.ep, sq := m.sq, code := ordE n m, ver := (ordN n m).cur, prev := (ordN n m).prev }) := hide (by unfold doesA; rw [if_neg (fun f => by have := HK.out; omega), if_neg (fun f => by have := HK.out; omega), if_neg (fun f => by rw [HS.out] at f; simp at f)])
  obtain ⟨n', hn'⟩ : ∃ n', n' = ordN n m := ⟨_, rfl⟩
  obtain ⟨ce, hce⟩ : ∃ ce, ce = ordE n m := ⟨_, rfl⟩
  rw [← hn'] at D2 HE HD
  rw [← hce] at HD ⊢
  clear n2 k2 OR hn' hce
  clear y0 y6 x0 x1 x6 v6 v7 v8
  have y0 : W2.cell? ⟨B, 0, none⟩ = some (.int .i64 7) := by rw [← HK.out]; exact D2.out.ms.cells.1
  have y6 : W2.cell? ⟨B, 6, none⟩ = some (.int .i64 m.ver) := D2.out.ms.cells.2.2.2.2.2.2.1
  obtain ⟨x0, x1, _, _, _, _, x6, _⟩ := D2.out.nd.cells
  obtain ⟨_, _, _, _, _, _, v6, v7, v8, _⟩ := D2.out.an.cells
  obtain ⟨W3, hW⟩ : ∃ X, X = W2.setCell ⟨B + 2, 8, none⟩ (.int .i64 ce) := ⟨_, rfl⟩
  have D3 : Hid (DoX w W3 b o B A0 n' m { a with code := ce }) := by rw [hW]; exact D2.out.set 8 _ _ rfl
  have zf : W2.frozen? ⟨B + 2, 8, none⟩ = false := D2.out.an.fz _
  replace hW := hide hW
  go_upto_region 13 with fail
  rw [← hW.out]
  clear hW zf
  clear y0 y6 x0 x1 x6 v6 v7 v8
  have y0 : W3.cell? ⟨B, 0, none⟩ = some (.int .i64 7) := by rw [← HK.out]; exact D3.out.ms.cells.1
  have y6 : W3.cell? ⟨B, 6, none⟩ = some (.int .i64 m.ver) := D3.out.ms.cells.2.2.2.2.2.2.1
  obtain ⟨x0, x1, _, _, _, _, x6, _⟩ := D3.out.nd.cells
  obtain ⟨_, _, _, _, _, _, v6, v7, v8, _⟩ := D3.out.an.cells
  obtain ⟨W4, hW⟩ : ∃ X, X = W3.setCell ⟨B + 2, 6, none⟩ (.int .i64 n'.cur) := ⟨_, rfl⟩
  have D4 : Hid (DoX w W4 b o B A0 n' m { a with code := ce, ver := n'.cur }) := by rw [hW]; exact D3.out.set 6 _ _ rfl
  have zf : W3.frozen? ⟨B + 2, 6, none⟩ = false := D3.out.an.fz _
  replace hW := hide hW
  go_upto_region 14 with fail
  rw [← hW.out]
  clear hW zf
  clear y0 y6 x0 x1 x6 v6 v7 v8
  have y0 : W4.cell? ⟨B, 0, none⟩ = some (.int .i64 7) := by rw [← HK.out]; exact D4.out.ms.cells.1
  have y6 : W4.cell? ⟨B, 6, none⟩ = some (.int .i64 m.ver) := D4.out.ms.cells.2.2.2.2.2.2.1
  obtain ⟨x0, x1, _, _, _, _, x6, _⟩ := D4.out.nd.cells
  obtain ⟨_, _, _, _, _, _, v6, v7, v8, _⟩ := D4.out.an.cells
  obtain ⟨W5, hW⟩ : ∃ X, X = W4.setCell ⟨B + 2, 7, none⟩ (.int .i64 n'.prev) := ⟨_, rfl⟩
  have D5 : Hid (DoX w W5 b o B A0 n' m { a with code := ce, ver := n'.cur, prev := n'.prev }) := by rw [hW]; exact D4.out.set 7 _ _ rfl
  have zf : W4.frozen? ⟨B + 2, 7, none⟩ = false := D4.out.an.fz _
  replace hW := hide hW
  go_upto_region 15 with fail
  rw [← hW.out]
  clear hW zf
  clear y0 y6 x0 x1 x6 v6 v7 v8
  have y0 : W5.cell? ⟨B, 0, none⟩ = some (.int .i64 7) := by rw [← HK.out]; exact D5.out.ms.cells.1
  have y6 : W5.cell? ⟨B, 6, none⟩ = some (.int .i64 m.ver) := D5.out.ms.cells.2.2.2.2.2.2.1
  obtain ⟨x0, x1, _, _, _, _, x6, _⟩ := D5.out.nd.cells
  obtain ⟨_, _, _, _, _, _, v6, v7, v8, _⟩ := D5.out.an.cells
  go_wp2_with (first | refine wpList_ldM rfl (.tmp 5) rfl ({ a with code := ce, ver := n'.cur, prev := n'.prev }) (B + 2) rfl D5.out.an ?_ | refine wpList_stR rfl 44 (.tmp 4) (.tmp 67) rfl (B + 1) rfl (mgV { a with code := ce, ver := n'.cur, prev := n'.prev }) (mgV mg0) rfl _ D5.out.rs mg_info rfl (mg_one _) ?_)
  refine bodyPost_ret (v := .agg (mgV { a with code := ce, ver := n'.cur, prev := n'.prev })) (res_row1 Try.results56 _ _ _ (B + 1) rfl _ D5.out.fin.2.2 Try.underlying44 mg_info) rfl ⟨?_, ?_, D5.out.fin.2.1⟩
  · rw [HD.out, HA.out, HK.out]
    rfl
  · rw [HE.out]
    exact D5.out.fin.1
theorem Does_any {w : World} {b o : Nat} {A0 : Array Value} {n : Nd} (h : NdX w b o A0 n) (m : Mg) (hk : m.kind = 3 ∨ m.kind = 5 ∨ m.kind = 7) :
    Calls Try.prog 56 #[.pointer (some ⟨b, o, none⟩), .agg (mgV m)] w fun e w' => e = .returned (.agg (mgV (doesA n m))) ∧ NdX w' b o A0 (doesN n m) ∧ Kp w w' (fun k => k = b) := by
  cases hs : n.sick with
  | true =>
    rcases hk with k | k | k
    · exact does_3s h m k hs
    · exact does_5s h m k hs
    · exact does_7s h m k hs
  | false =>
    rcases hk with k | k | k
    · exact does_3w h m k hs
    · exact does_5w h m k hs
    · exact does_7w h m k hs
end Go.Proofs.Ytpleakkhbfhdkaa.Cn
