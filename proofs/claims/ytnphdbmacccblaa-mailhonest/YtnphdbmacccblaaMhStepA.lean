import Derived.Test.YtnphdbmacccblaaMhTb
import Derived.Test.YtnphdbmacccblaaMbPlays
namespace Go.Proofs.Ytnphdbmacccblaa
open Go.RowKit
set_option maxHeartbeats 8000000 in
set_option maxRecDepth 100000 in
set_option linter.unusedSimpArgs false in
set_option linter.unusedVariables false in
theorem step_none {w : World} {S : Nat → Prop} {R Q : Nat} {d : DS} (h : Tb w S R Q d d.A) (g : DGood d) (f : DFit d) (ids : IdsOk d.A) (k a n mm : Int) (s : ByteArray) (hf : OpFit a n s) (hk : ¬ (1 ≤ k ∧ k ≤ 6)) :
    Calls Try.prog 19 #[.pointer (some ⟨Q, 0, none⟩), .pointer (some ⟨R, 0, none⟩), opV k a n mm s] w (StB w S R Q (stpD d k n mm s)) := by
  have SD : stpD d k n mm s = d := by unfold stpD; rw [if_neg (by omega), if_neg (by omega), if_neg (by omega), if_neg (by omega), if_neg (by omega), if_neg (by omega)]
  rw [SD]
  clear SD
  obtain ⟨W0, hW0⟩ : ∃ W0, W0 = w.alloc (.cells #[.int .i64 k, .int .i64 a, .int .i64 n, .int .i64 mm, .string s] 41) := ⟨_, rfl⟩
  obtain ⟨I, hI⟩ : ∃ I, I = w.heap.size := ⟨_, rfl⟩
  have O0 : Hid (OpAt W0 I k a n mm s) := by subst hW0; subst hI; exact heap_last w _
  have B0 : Hid (Below w.heap.size w W0) := by subst hW0; exact (Below.refl _ w).alloc (Nat.le_refl _) _
  have T0 := hide (h.below B0.out)
  have SB : Hid (∀ k, S k → k < w.heap.size) := h.sb
  have NI : Hid (¬ S I) := fun e => by have := h.sb I e; omega
  have LF := hide (left_all T0.out f.a)
  have G := hide g
  have FT := hide f
  have ID := hide ids
  clear h g f ids
  go_enter Try.func19, Try.ntmps19
  unfold opV
  go_wp2_with fail
  rw [← hW0, ← hI]
  clear hW0 hI
  refine Calls.mono LF.out ?_
  rintro e w1 ⟨v, rfl, ho, hb⟩
  have O1 : Hid (OpAt w1 I k a n mm s) := (hb.block _ (blk_lt O0.out)).trans O0.out
  have T1 := hide (T0.out.below hb)
  have B1 : Hid (Below w.heap.size w w1) := B0.out.trans (hb.mono B0.out.size)
  have OW := hide ho
  have NV : Hid (∀ k, v.ownBlock = some k → ¬ S k) := fun k e e2 => by have := (OW.out.lt k e).1; have := SB.out k e2; have := B0.out.size; omega
  have lle := live_le d.A
  have fa := FT.out.a
  clear ho hb LF O0 T0 B0
  have q0 := O1.out.c0
  have n1 : (k == 1) = false := by simp; omega
  have n2 : (k == 2) = false := by simp; omega
  have n3 : (k == 3) = false := by simp; omega
  have n4 : (k == 4) = false := by simp; omega
  have n5 : (k == 5) = false := by simp; omega
  have n6 : (k == 6) = false := by simp; omega
  clear hk
  go_wp2_with fail
  go_ret
  exact ⟨rfl, S, T1.out, Kp.of_below B1.out S, Nr.refl _ _⟩
set_option maxHeartbeats 8000000 in
set_option maxRecDepth 100000 in
set_option linter.unusedSimpArgs false in
set_option linter.unusedVariables false in
theorem step_cut {w : World} {S : Nat → Prop} {R Q : Nat} {d : DS} (h : Tb w S R Q d d.A) (g : DGood d) (f : DFit d) (ids : IdsOk d.A) (a n mm : Int) (s : ByteArray) (hf : OpFit a n s) :
    Calls Try.prog 19 #[.pointer (some ⟨Q, 0, none⟩), .pointer (some ⟨R, 0, none⟩), opV 5 a n mm s] w (StB w S R Q (stpD d 5 n mm s)) := by
  have SD : stpD d 5 n mm s = cutD d n mm true := by simp [stpD]
  rw [SD]
  clear SD
  obtain ⟨W0, hW0⟩ : ∃ W0, W0 = w.alloc (.cells #[.int .i64 5, .int .i64 a, .int .i64 n, .int .i64 mm, .string s] 41) := ⟨_, rfl⟩
  obtain ⟨I, hI⟩ : ∃ I, I = w.heap.size := ⟨_, rfl⟩
  have O0 : Hid (OpAt W0 I 5 a n mm s) := by subst hW0; subst hI; exact heap_last w _
  have B0 : Hid (Below w.heap.size w W0) := by subst hW0; exact (Below.refl _ w).alloc (Nat.le_refl _) _
  have T0 := hide (h.below B0.out)
  have SB : Hid (∀ k, S k → k < w.heap.size) := h.sb
  have NI : Hid (¬ S I) := fun e => by have := h.sb I e; omega
  have LF := hide (left_all T0.out f.a)
  have G := hide g
  have FT := hide f
  have ID := hide ids
  clear h g f ids
  go_enter Try.func19, Try.ntmps19
  unfold opV
  go_wp2_with fail
  rw [← hW0, ← hI]
  clear hW0 hI
  refine Calls.mono LF.out ?_
  rintro e w1 ⟨v, rfl, ho, hb⟩
  have O1 : Hid (OpAt w1 I 5 a n mm s) := (hb.block _ (blk_lt O0.out)).trans O0.out
  have T1 := hide (T0.out.below hb)
  have B1 : Hid (Below w.heap.size w w1) := B0.out.trans (hb.mono B0.out.size)
  have OW := hide ho
  have NV : Hid (∀ k, v.ownBlock = some k → ¬ S k) := fun k e e2 => by have := (OW.out.lt k e).1; have := SB.out k e2; have := B0.out.size; omega
  have lle := live_le d.A
  have fa := FT.out.a
  clear ho hb LF O0 T0 B0
  have q0 := O1.out.c0
  have q2 := O1.out.c2
  have q3 := O1.out.c3
  go_wp2_with fail
  refine Calls.mono (b_cut T1.out G.out FT.out n mm) ?_
  rintro e w3 ⟨rfl, S3, T3, K3, N3⟩
  have Z : Hid (Tb w3 S3 R Q (cutD d n mm true) d.A ∧ Kp w w3 S ∧ Nr w S S3) := ⟨T3, (Kp.of_below B1.out S).trans K3 (fun _ e => Or.inl e), fun k e => by rcases N3 k e with a | a; exact Or.inl a; exact Or.inr (Nat.le_trans B1.out.size a)⟩
  clear T3 K3 N3 q0 q2 q3
  go_wp2_with fail
  go_ret
  exact ⟨rfl, S3, Z.out⟩
set_option maxHeartbeats 8000000 in
set_option maxRecDepth 100000 in
set_option linter.unusedSimpArgs false in
set_option linter.unusedVariables false in
theorem step_heal {w : World} {S : Nat → Prop} {R Q : Nat} {d : DS} (h : Tb w S R Q d d.A) (g : DGood d) (f : DFit d) (ids : IdsOk d.A) (a n mm : Int) (s : ByteArray) (hf : OpFit a n s) :
    Calls Try.prog 19 #[.pointer (some ⟨Q, 0, none⟩), .pointer (some ⟨R, 0, none⟩), opV 6 a n mm s] w (StB w S R Q (stpD d 6 n mm s)) := by
  have SD : stpD d 6 n mm s = cutD d n mm false := by simp [stpD]
  rw [SD]
  clear SD
  obtain ⟨W0, hW0⟩ : ∃ W0, W0 = w.alloc (.cells #[.int .i64 6, .int .i64 a, .int .i64 n, .int .i64 mm, .string s] 41) := ⟨_, rfl⟩
  obtain ⟨I, hI⟩ : ∃ I, I = w.heap.size := ⟨_, rfl⟩
  have O0 : Hid (OpAt W0 I 6 a n mm s) := by subst hW0; subst hI; exact heap_last w _
  have B0 : Hid (Below w.heap.size w W0) := by subst hW0; exact (Below.refl _ w).alloc (Nat.le_refl _) _
  have T0 := hide (h.below B0.out)
  have SB : Hid (∀ k, S k → k < w.heap.size) := h.sb
  have NI : Hid (¬ S I) := fun e => by have := h.sb I e; omega
  have LF := hide (left_all T0.out f.a)
  have G := hide g
  have FT := hide f
  have ID := hide ids
  clear h g f ids
  go_enter Try.func19, Try.ntmps19
  unfold opV
  go_wp2_with fail
  rw [← hW0, ← hI]
  clear hW0 hI
  refine Calls.mono LF.out ?_
  rintro e w1 ⟨v, rfl, ho, hb⟩
  have O1 : Hid (OpAt w1 I 6 a n mm s) := (hb.block _ (blk_lt O0.out)).trans O0.out
  have T1 := hide (T0.out.below hb)
  have B1 : Hid (Below w.heap.size w w1) := B0.out.trans (hb.mono B0.out.size)
  have OW := hide ho
  have NV : Hid (∀ k, v.ownBlock = some k → ¬ S k) := fun k e e2 => by have := (OW.out.lt k e).1; have := SB.out k e2; have := B0.out.size; omega
  have lle := live_le d.A
  have fa := FT.out.a
  clear ho hb LF O0 T0 B0
  have q0 := O1.out.c0
  have q2 := O1.out.c2
  have q3 := O1.out.c3
  go_wp2_with fail
  refine Calls.mono (b_heal T1.out G.out n mm) ?_
  rintro e w3 ⟨rfl, S3, T3, K3, N3⟩
  have Z : Hid (Tb w3 S3 R Q (cutD d n mm false) d.A ∧ Kp w w3 S ∧ Nr w S S3) := ⟨T3, (Kp.of_below B1.out S).trans K3 (fun _ e => Or.inl e), fun k e => by rcases N3 k e with a | a; exact Or.inl a; exact Or.inr (Nat.le_trans B1.out.size a)⟩
  clear T3 K3 N3 q0 q2 q3
  go_wp2_with fail
  go_ret
  exact ⟨rfl, S3, Z.out⟩
set_option maxHeartbeats 8000000 in
set_option maxRecDepth 100000 in
set_option linter.unusedSimpArgs false in
set_option linter.unusedVariables false in
theorem step_send {w : World} {S : Nat → Prop} {R Q : Nat} {d : DS} (h : Tb w S R Q d d.A) (g : DGood d) (f : DFit d) (ids : IdsOk d.A) (a n mm : Int) (s : ByteArray) (hf : OpFit a n s) :
    Calls Try.prog 19 #[.pointer (some ⟨Q, 0, none⟩), .pointer (some ⟨R, 0, none⟩), opV 1 a n mm s] w (StB w S R Q (stpD d 1 n mm s)) := by
  have SD : stpD d 1 n mm s = sndD d n mm s := by simp [stpD]
  rw [SD]
  clear SD
  obtain ⟨W0, hW0⟩ : ∃ W0, W0 = w.alloc (.cells #[.int .i64 1, .int .i64 a, .int .i64 n, .int .i64 mm, .string s] 41) := ⟨_, rfl⟩
  obtain ⟨I, hI⟩ : ∃ I, I = w.heap.size := ⟨_, rfl⟩
  have O0 : Hid (OpAt W0 I 1 a n mm s) := by subst hW0; subst hI; exact heap_last w _
  have B0 : Hid (Below w.heap.size w W0) := by subst hW0; exact (Below.refl _ w).alloc (Nat.le_refl _) _
  have T0 := hide (h.below B0.out)
  have SB : Hid (∀ k, S k → k < w.heap.size) := h.sb
  have NI : Hid (¬ S I) := fun e => by have := h.sb I e; omega
  have LF := hide (left_all T0.out f.a)
  have G := hide g
  have FT := hide f
  have ID := hide ids
  clear h g f ids
  go_enter Try.func19, Try.ntmps19
  unfold opV
  go_wp2_with fail
  rw [← hW0, ← hI]
  clear hW0 hI
  refine Calls.mono LF.out ?_
  rintro e w1 ⟨v, rfl, ho, hb⟩
  have O1 : Hid (OpAt w1 I 1 a n mm s) := (hb.block _ (blk_lt O0.out)).trans O0.out
  have T1 := hide (T0.out.below hb)
  have B1 : Hid (Below w.heap.size w w1) := B0.out.trans (hb.mono B0.out.size)
  have OW := hide ho
  have NV : Hid (∀ k, v.ownBlock = some k → ¬ S k) := fun k e e2 => by have := (OW.out.lt k e).1; have := SB.out k e2; have := B0.out.size; omega
  have lle := live_le d.A
  have fa := FT.out.a
  clear ho hb LF O0 T0 B0
  have q0 := O1.out.c0
  have q2 := O1.out.c2
  have q3 := O1.out.c3
  have q4 := O1.out.c4
  have PS := b_send T1.out G.out FT.out n mm s hf.s1
  by_cases he : sndE (d.st 0) n mm = 0
  case neg =>
    have e1 : sndD d n mm s = d := by unfold sndD; rw [if_neg he]
    rw [e1] at PS
    have PS := hide PS
    have hb : (sndE (d.st 0) n mm != 0) = true := by simp [he]
    have HD := hide e1
    generalize sndE (d.st 0) n mm = E at *
    generalize sndN (d.st 0) n mm = NN at *
    clear e1
    go_wp2_with (first | (go_at_call 11; refine Calls.mono PS.out ?_; rintro e w3 ⟨rfl, S3, T3, K3, N3⟩) | (go_at_call 10; refine Calls.mono (num_any _ _) ?_; rintro e w8 ⟨rfl, rfl⟩))
    go_ret
    refine ⟨rfl, S3, ?_, (Kp.of_below B1.out S).trans K3 (fun _ e => Or.inl e), fun k e => by rcases N3 k e with a | a; exact Or.inl a; exact Or.inr (Nat.le_trans B1.out.size a)⟩
    rw [HD.out]
    exact T3
  case pos =>
    have e2 : sndN (d.st 0) n mm = (d.A.length : Int) + 1 := by unfold sndN; rw [if_pos he]; rfl
    have e3 : (sndD d n mm s).A = d.A ++ [(⟨(d.A.length : Int) + 1, n, mm, s⟩, false)] := by unfold sndD; rw [if_pos he]
    rw [he, e2] at PS
    have PS := hide PS
    have E3 := hide e3
    clear he e2 e3
    go_wp2_with fail
    refine Calls.mono PS.out ?_
    rintro e w3 ⟨rfl, S3, T3, K3, N3⟩
    have O3 := hide (O1.out.kp K3 NI.out)
    have T3H := hide T3
    have W3 := hide (own_kp OW.out K3 NV.out)
    have KN3 : Hid (Kp w w3 S ∧ Nr w S S3) := ⟨(Kp.of_below B1.out S).trans K3 (fun _ e => Or.inl e), fun k e => by rcases N3 k e with a | a; exact Or.inl a; exact Or.inr (Nat.le_trans B1.out.size a)⟩
    have NI3 : Hid (¬ S3 I) := fun e => by
      rcases N3 I e with a | a
      · exact NI.out a
      · have := blk_lt O1.out; omega
    have NV3 : Hid (∀ k, (v).ownBlock = some k → ¬ S3 k) := fun k e e2 => by
      rcases N3 k e2 with a | a
      · exact NV.out k e a
      · have := (OW.out.lt k e).2; omega
    clear T3 K3 N3 PS q0 q2 q3 q4
    have r2 := O3.out.c2
    have r3 := O3.out.c3
    have r4 := O3.out.c4
    have NO := hide (note_all T3H.out ⟨(d.A.length : Int) + 1, n, mm, s⟩ rfl FT.out.a)
    go_wp2_with (first | (go_at_call 10; refine Calls.mono (num_any _ _) ?_; rintro e w8 ⟨rfl, rfl⟩) | (go_at_call 38; refine Calls.mono NO.out ?_; rintro e w4 ⟨rfl, S4, T4, K4, N4⟩))
    go_ret
    obtain ⟨k4, n4⟩ := kp3 (Kp.refl w S) KN3.out.1 KN3.out.2 K4 N4
    refine ⟨rfl, S4, ?_, k4, n4⟩
    rw [E3.out]
    exact T4
end Go.Proofs.Ytnphdbmacccblaa
