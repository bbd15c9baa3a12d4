import Derived.Test.YtioiphonajinmaaDoorDrBlock
namespace Go.Proofs.YtioiphonajinmaaDoor
open Go.RowKit
theorem heap_setCells (w : World) (b k : Nat) (hk : k ≠ b) : ∀ (vs : List Value) (o : Nat), (w.setCells b o vs).heap[k]? = w.heap[k]? := by
  intro vs
  induction vs generalizing w with
  | nil => intro o; rfl
  | cons v vs ih => intro o; exact (ih (w.setCell ⟨b, o, none⟩ v) (o + 1)).trans (Below.heap_setCell _ _ _ _ hk)
theorem size_setCellsR (w : World) (b : Nat) : ∀ (vs : List Value) (o : Nat), (w.setCells b o vs).heap.size = w.heap.size := by
  intro vs
  induction vs generalizing w with
  | nil => intro o; rfl
  | cons v vs ih => intro o; exact (ih (w.setCell ⟨b, o, none⟩ v) (o + 1)).trans (World.size_setCell _ _ _)
/-- four words lie in a block -/
structure FI (b : Nat) (w : World) (q : Q) : Prop where
  rg : w.rangeAt b 0 (rL q)
  fz : ∀ j, w.frozen? ⟨b, j, none⟩ = false
  lt : b < w.heap.size
theorem FI.of {b : Nat} {w : World} {q : Q} {t : TypeId} (h : w.heap[b]? = some (.cells (rL q).toArray t (0, 0))) : FI b w q :=
  ⟨World.rangeAt_of_block h 0 4, fun j => by simp [World.frozen?, h], by
    rcases Nat.lt_or_ge b w.heap.size with h' | h'
    · exact h'
    · rw [Array.getElem?_eq_none h'] at h; simp at h⟩
theorem FI.there {b : Nat} {w : World} {q : Q} (h : FI b w q) (n : Nat) (hn : n ≤ 4) : w.there b 0 n := fun j hj => by
  refine ⟨?_, h.fz _⟩
  have hl : j < (rL q).length := by show j < 4; omega
  rw [h.rg j _ (List.getElem?_eq_getElem hl)]
  rfl
theorem FI.below {b : Nat} {w w' : World} {q : Q} (h : FI b w q) (hb : Below w.heap.size w w') : FI b w' q :=
  ⟨fun j v hv => (hb.cell h.lt).trans (h.rg j v hv), fun j => (hb.frozen h.lt).trans (h.fz j), Nat.lt_of_lt_of_le h.lt hb.size⟩
theorem FI.set {b : Nat} {w : World} {q q' : Q} (h : FI b w q) : FI b (w.setCells b 0 (rL q')) q' :=
  ⟨World.rangeAt_setCells_same _ _ _ _ (h.there _ (by show 4 ≤ 4; omega)), fun j => by rw [World.frozen?_setCells]; exact h.fz j, by rw [size_setCellsR]; exact h.lt⟩
theorem FI.cells {b : Nat} {w : World} {q : Q} (h : FI b w q) : w.cell? ⟨b, 0, none⟩ = some (.int .i64 (q.1 : Int)) ∧ w.cell? ⟨b, 1, none⟩ = some (.int .i64 (q.2.1 : Int)) ∧ w.cell? ⟨b, 2, none⟩ = some (.int .i64 (q.2.2.1 : Int)) ∧ w.cell? ⟨b, 3, none⟩ = some (.int .i64 (q.2.2.2 : Int)) :=
  ⟨h.rg 0 _ rfl, h.rg 1 _ rfl, h.rg 2 _ rfl, h.rg 3 _ rfl⟩
theorem FI.other {b c o : Nat} {w : World} {q : Q} {vs : List Value} (h : FI c w q) (hne : c ≠ b) : FI c (w.setCells b o vs) q := by
  have e := heap_setCells w b c hne vs o
  exact ⟨fun j v hv => (World.cell?_of_block (w := w) (a := ⟨c, 0 + j, none⟩) e).trans (h.rg j v hv), fun j => (World.frozen?_of_block (w := w) (a := ⟨c, j, none⟩) e).trans (h.fz j), by rw [size_setCellsR]; exact h.lt⟩
set_option maxHeartbeats 1000000 in
set_option maxRecDepth 100000 in
set_option linter.unusedSimpArgs false in
theorem rblocks_any (q : Q) (hq : Q4 q) (s : ByteArray) (hs : s.size ≤ 1099511627776) (w : World) (hT : RTabs w) :
    Calls Tryd.prog 67 #[qR q, .string s] w fun e w' => e = .returned (qR (blocksN q s.data.toList (s.size / 64))) ∧ Below w.heap.size w w' := by
  have HT := hide hT
  have HQ := hide hq
  clear hT hq
  obtain ⟨q1, q2, q3, q4⟩ := q
  unfold qR
  go_enter Tryd.func67, Tryd.ntmps67
  go_wp2_with fail
  go_loopw [5] (fun i wr => ∃ k : Nat, 64 * k ≤ s.size ∧ i = .int .i64 ((64 * k : Nat) : Int) ∧ FI w.heap.size wr (blocksN (q1, q2, q3, q4) s.data.toList k) ∧ (∃ rq, FI (w.heap.size + 1) wr rq) ∧ Below w.heap.size w wr) (fun i _ => s.size - (intOf i).toNat)
  case atStart =>
    refine ⟨0, by omega, rfl, FI.of (t := 134) ?_, ⟨(0, 0, 0, 0), FI.of (t := 134) ?_⟩, ((Below.refl _ w).alloc (Nat.le_refl _) _).alloc (by simp) _⟩
    · exact heap_new1 w _ _
    · exact heap_new2 w _ _
  case round =>
    obtain ⟨k, hk, rfl, hF, ⟨rq, hR⟩, hnx⟩ := hrel
    obtain ⟨c0, c1, c2, c3⟩ := hF.cells
    by_cases hlt : 64 * k + 64 ≤ s.size
    · have CB : Hid (∀ w', Below w.heap.size w w' → Calls Tryd.prog 86 #[qR (blocksN (q1, q2, q3, q4) s.data.toList k), .string s, .int .i64 ((64 * k : Nat) : Int)] w' fun e w'' => e = .returned (qR (blocksN (q1, q2, q3, q4) s.data.toList (k + 1))) ∧ Below w'.heap.size w' w'') := fun w' hb => rblock_any _ (blocksN_lt _ _ HQ.out k) s (64 * k) hlt hs w' (HT.out.below hb rfl)
      obtain ⟨nq, hnq⟩ : ∃ nq, nq = blocksN (q1, q2, q3, q4) s.data.toList (k + 1) := ⟨_, rfl⟩
      rw [← hnq] at CB
      have HNQ := hide hnq
      clear hnq
      have HF := hide hF
      have HR := hide hR
      clear hF hR
      generalize blocksN (q1, q2, q3, q4) s.data.toList k = kq at *
      obtain ⟨a, b, c, d⟩ := kq
      obtain ⟨a', b', c', d'⟩ := nq
      have CB2 : Hid (∀ w', Below w.heap.size w w' → Calls Tryd.prog 86 #[.agg #[.int .i64 (a : Int), .int .i64 (b : Int), .int .i64 (c : Int), .int .i64 (d : Int)], .string s, .int .i64 (64 * (k : Int))] w' fun e w'' => e = .returned (.agg #[.int .i64 (a' : Int), .int .i64 (b' : Int), .int .i64 (c' : Int), .int .i64 (d' : Int)]) ∧ Below w'.heap.size w' w'') := fun w' hb => by
        have := CB.out w' hb
        rw [Int.natCast_mul] at this
        exact this
      clear CB
      dsimp only at c0 c1 c2 c3
      have hle : 64 * (k : Int) + 64 ≤ (s.size : Int) := by omega
      go_wp2_with fail
      refine Calls.mono (CB2.out _ hnx) ?_
      rintro e w1 ⟨rfl, hb1⟩
      have F1 := HF.out.below hb1
      have R1 := HR.out.below hb1
      have N1 := hnx.trans (hb1.mono hnx.size)
      obtain ⟨d0, d1, d2, d3⟩ := F1.cells
      have f0 := F1.fz 0
      have f1 := F1.fz 1
      have f2 := F1.fz 2
      have f3 := F1.fz 3
      have HF1 := hide (F1.set (q' := (a', b', c', d')))
      have HR1 := hide (R1.other (b := w.heap.size) (o := 0) (vs := rL (a', b', c', d')) (by omega))
      have HN1 := hide (below_setCells N1 (Nat.le_refl _) (rL (a', b', c', d')) (o := 0))
      clear F1 R1 N1 hb1 CB2
      dsimp only at d0 d1 d2 d3
      go_wp2
      go_roundw
      case rel => exact ⟨k + 1, by omega, by go_num, by rw [← HNQ.out]; exact HF1.out, ⟨rq, HR1.out⟩, HN1.out⟩
      case measure => simp [intOf]; omega
    · obtain rfl : k = s.size / 64 := by omega
      obtain ⟨kq, hkq⟩ : ∃ kq, kq = blocksN (q1, q2, q3, q4) s.data.toList (s.size / 64) := ⟨_, rfl⟩
      rw [← hkq] at hF c0 c1 c2 c3
      have HKQ := hide hkq
      clear hkq
      obtain ⟨a, b, c, d⟩ := kq
      dsimp only at c0 c1 c2 c3
      obtain ⟨r0, r1, r2, r3⟩ := hR.cells
      have f0 := hR.fz 0
      have f1 := hR.fz 1
      have f2 := hR.fz 2
      have f3 := hR.fz 3
      have HS := hide (hR.set (q' := (a, b, c, d)))
      have HN := hide (below_setCells hnx (show w.heap.size ≤ w.heap.size + 1 by omega) (rL (a, b, c, d)) (o := 0))
      have hnle : ¬ (64 * ((s.size / 64 : Nat) : Int) + 64 ≤ (s.size : Int)) := by omega
      clear hR hF hlt
      go_wp2
      refine bodyPost_ret (v := .agg (rL (a, b, c, d)).toArray) ?_ rfl ⟨by rw [← HKQ.out]; rfl, HN.out⟩
      have hlv := run_loadVar_mid (P := Tryd.prog) _ (w.heap.size + 1) 0 134 (rL (a, b, c, d)) _ HS.out.rg Tryd.underlying134 rfl (by kernel_rfl)
      simp [results, Tryd.results67, asAddr, Act.put]
      exact hlv
set_option maxHeartbeats 1000000 in
set_option maxRecDepth 100000 in
set_option linter.unusedSimpArgs false in
/-- the document's MD5 -/
theorem rmd5_any (s : ByteArray) (hs : s.size ≤ 1099511620000) (w : World) (hT : RTabs w) :
    Calls Tryd.prog 41 #[.string s] w fun e w' => e = .returned (.string (strOf (md5L s.data.toList))) ∧ Below w.heap.size w w' := by
  have HT := hide hT
  clear hT
  have sd := size_data s
  have hPl : (padL s.size).length ≤ 73 := by rw [padL_len]; have : zerosN s.size < 64 := by unfold zerosN; omega
                                             omega
  have hsz : (s ++ strOf (padL s.size)).size = s.size + (padL s.size).length := by rw [ByteArray.size_append, strOf_size]
  have hdt : (s ++ strOf (padL s.size)).data.toList = s.data.toList ++ padL s.size := by
    rw [ByteArray.data_append, Array.toList_append]; rfl
  have hmx : (s ++ strOf (padL s.size)).size ≤ 9223372036854775807 := by omega
  obtain ⟨kq, hkq⟩ : ∃ kq, kq = blocksN Q0 (s.data.toList ++ padL s.size) ((s.size + (padL s.size).length) / 64) := ⟨_, rfl⟩
  have hk4 : Q4 kq := by rw [hkq]; exact blocksN_lt _ _ Q0_lt _
  have HM : Hid (md5L s.data.toList = tellQ kq) := by show _ = _; unfold md5L; rw [sd, hkq]
  have CB : Hid (∀ w', RTabs w' → Calls Tryd.prog 67 #[qR Q0, .string (s ++ strOf (padL s.size))] w' fun e w'' => e = .returned (qR kq) ∧ Below w'.heap.size w' w'') := fun w' h => by
    have := rblocks_any Q0 Q0_lt (s ++ strOf (padL s.size)) (by omega) w' h
    rw [hdt, hsz, ← hkq] at this
    exact this
  have CT := hide (fun w' => rtail_any s.size (by omega) w')
  have CD := hide (fun w' => rtold_any kq hk4 w')
  have hPz : (strOf (padL s.size)).size ≤ 73 := by rw [strOf_size]; exact hPl
  have hPs : s.size + (strOf (padL s.size)).size ≤ 9223372036854775807 := by omega
  clear hkq hk4 hdt hsz hPl
  generalize strOf (padL s.size) = P at *
  obtain ⟨a, b, c, d⟩ := kq
  unfold qR at CB CD
  have hq0 : qR Q0 = .agg #[.int .i64 1732584193, .int .i64 4023233417, .int .i64 2562383102, .int .i64 271733878] := rfl
  have CF : Hid (∀ w', Calls Tryd.prog 68 #[] w' fun e w'' => e = .returned (.agg #[.int .i64 1732584193, .int .i64 4023233417, .int .i64 2562383102, .int .i64 271733878]) ∧ Below w'.heap.size w' w'') := fun w' => by rw [← hq0]; exact rfirst_any w'
  have CB2 : Hid (∀ w', RTabs w' → Calls Tryd.prog 67 #[.agg #[.int .i64 1732584193, .int .i64 4023233417, .int .i64 2562383102, .int .i64 271733878], .string (s ++ P)] w' fun e w'' => e = .returned (.agg #[.int .i64 (a : Int), .int .i64 (b : Int), .int .i64 (c : Int), .int .i64 (d : Int)]) ∧ Below w'.heap.size w' w'') := CB
  clear CB hq0
  dsimp only at CD
  go_enter Tryd.func41, Tryd.ntmps41
  go_wp2_with fail
  refine Calls.mono (CF.out _) ?_
  rintro e w1 ⟨rfl, b1⟩
  have HN1 := hide b1
  clear b1 CF
  go_wp2_with fail
  refine Calls.mono (CT.out _) ?_
  rintro e w2 ⟨rfl, b2⟩
  have HN2 := hide (HN1.out.trans (b2.mono HN1.out.size))
  clear b2 HN1 CT
  go_wp2_with fail
  refine Calls.mono (CB2.out _ (HT.out.below HN2.out rfl)) ?_
  rintro e w3 ⟨rfl, b3⟩
  have HN3 := hide (HN2.out.trans (b3.mono HN2.out.size))
  clear b3 HN2 CB2
  go_wp2_with fail
  refine Calls.mono (CD.out _) ?_
  rintro e w5 ⟨rfl, b5⟩
  have HN4 := hide (HN3.out.alloc HN3.out.size (.cells #[.int .i64 (a : Int), .int .i64 (b : Int), .int .i64 (c : Int), .int .i64 (d : Int)] 134))
  have HN5 := hide (HN4.out.trans (b5.mono HN4.out.size))
  clear b5
  go_wp2
  go_ret
  exact ⟨by rw [HM.out]; rfl, HN5.out⟩
end Go.Proofs.YtioiphonajinmaaDoor
