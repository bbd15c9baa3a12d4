import Derived.Test.YtnphdbmacccblabMoOpen
namespace Go.Proofs.Ytnphdbmacccblab
open Go.ChangeShapes Go.WideShapes Go.ChangeAt Go.RowKit Go.Deep
theorem bulk_pos {H : Type} (d : DataW H) : 1 ≤ Rows.uptoBulk d := by
  cases d with
  | lit l => cases l <;> simp [Rows.uptoBulk]
  | _ => simp [Rows.uptoBulk]
theorem bulk_mem {H : Type} {d : DataW H} : ∀ {l : List (DataW H)}, d ∈ l → Rows.uptoBulk d ≤ Rows.uptoBulkAll l
  | [], h => by cases h
  | c :: r, h => by
    simp only [Rows.uptoBulkAll]
    rcases List.mem_cons.1 h with rfl | h
    · omega
    · have := bulk_mem h
      omega
theorem bulk_len {H : Type} : ∀ (l : List (DataW H)), l.length ≤ Rows.uptoBulkAll l
  | [] => Nat.zero_le _
  | c :: r => by
    have := bulk_len r
    have := bulk_pos c
    simp only [Rows.uptoBulkAll, List.length_cons]
    omega
set_option maxRecDepth 100000 in
set_option maxHeartbeats 1000000 in
set_option linter.unusedSimpArgs false in
/-- the cells of an op -/
theorem open_opU {H : Type} {enc : TypeId × Value → H} {w : World} {base fuel : Nat} {spare : Nat → Bool} {held : Bool} {cs : List Value} {x : DataW H × List MemPlace} (h : DataW.trod enc Try.prog w base spare held fuel 34 cs = some x) (hl : cs.length = 5) (hw : Rows.uptoBulk x.1 ≤ 1048576) :
    ∃ y : MO, cs = [.int .i64 y.kind, .int .i64 y.pl, .int .i64 y.n, .int .i64 y.m, .string y.s] ∧ MOFit y := by
  obtain ⟨c0, c1, c2, c3, c4, rfl⟩ := list5 hl
  obtain ⟨xs, n, _, hx, _, hxl, hq⟩ := DataW.trod_struct Try.underlying34 h
  obtain ⟨ya, yb, yc, yd, ye, rfl⟩ := list5 hxl
  have ga := hq 0 _ rfl
  have gb := hq 1 _ rfl
  have gc := hq 2 _ rfl
  have gd := hq 3 _ rfl
  have ge := hq 4 _ rfl
  simp [cellsI, cellsS] at ga gb gc gd ge
  obtain ⟨n0, f0, z0, w0⟩ := DataW.trod_int Try.underlying3 ga
  obtain ⟨n1, f1, z1, w1⟩ := DataW.trod_int Try.underlying3 gb
  obtain ⟨n2', f2, z2, w2⟩ := DataW.trod_int Try.underlying3 gc
  obtain ⟨n3, f3, z3, w3⟩ := DataW.trod_int Try.underlying3 gd
  obtain ⟨s4, f4, z4, w4⟩ := DataW.trod_string Try.underlying9 ge
  simp only [List.cons.injEq, and_true] at f0 f1 f2 f3 f4
  subst f0 f1 f2 f3 f4
  have h1 := int_of w1
  have h2 := int_of w2
  refine ⟨⟨n0, n1, n2', n3, s4⟩, rfl, ⟨h1.1, h1.2, h2.1, h2.2, ?_⟩⟩
  rw [hx] at hw
  have hb := bulk_mem (show ye.1 ∈ [ya, yb, yc, yd, ye].map (·.1) by simp)
  have hb2 : Rows.uptoBulk ye.1 ≤ 1048576 := by
    have : Rows.uptoBulkAll ([ya, yb, yc, yd, ye].map (·.1)) + 1 ≤ 1048576 := by simpa [Rows.uptoBulk] using hw
    omega
  have e3 : Rows.uptoBulk ye.1 = s4.data.toList.length + 1 := by rw [z4]; simp [Rows.uptoBulk]
  have e : s4.data.toList.length = s4.size := by simp
  show s4.size ≤ _
  omega
set_option maxRecDepth 100000 in
set_option linter.unusedVariables false in
/-- a script that is handed in -/
theorem open_scriptU {H : Type} {enc : TypeId × Value → H} {w : World} {base fuel : Nat} {spare : Nat → Bool} {held : Bool} {v : Value} {x : DataW H × List MemPlace} (h : DataW.trod enc Try.prog w base spare held fuel 22 [v] = some x) (hw : Rows.uptoBulk x.1 ≤ 1048576) :
    ∃ (ys : List MO) (ao : Option Addr) (b o cap : Nat), v = .slice ao ys.length cap ∧ SpAt w ao b o ys ∧ ys.length ≤ 1048576 := by
  rcases open_slice Try.underlying22 h with ⟨h0, _⟩ | ⟨a, len, cap, m, n, D, Pl, hv, hb, hl, hm, hmm, hx, hc⟩
  · simp only [List.cons.injEq, and_true] at h0
    exact ⟨[], none, 0, 0, 0, by rw [h0]; rfl, ⟨fun q => absurd q (by simp), fun q => absurd q (by simp), (fun q hq => absurd hq (by simp)), (fun q hq => absurd hq (by simp)), (fun q hq => absurd hq (by simp)), (fun q hq => absurd hq (by simp)), (fun q hq => absurd hq (by simp)), (fun q hq => absurd hq (by simp)), Nat.zero_le _⟩, Nat.zero_le _⟩
  · simp only [List.cons.injEq, and_true] at hv
    have hlm : len ≤ m := by rw [hmm]; split <;> omega
    have hb0 : Rows.uptoBulkAll ((List.range len).map D) ≤ 1048576 := by
      rw [hx] at hw
      simp only [Rows.uptoBulk] at hw
      omega
    have hwl : len ≤ 1048576 := by
      have := bulk_len ((List.range len).map D)
      simp only [List.length_map, List.length_range] at this
      omega
    have each : ∀ i, i < len → ∃ y : MO, MOFit y ∧ ∀ j u, [Value.int .i64 y.kind, .int .i64 y.pl, .int .i64 y.n, .int .i64 y.m, .string y.s][j]? = some u → w.cell? (a.add (i * 5 + j)) = some u := by
      intro i hi
      obtain ⟨cs', h1, h2⟩ := hc i (by omega)
      rw [cellsOp] at h1
      obtain ⟨_, hlen, hcell⟩ := World.cells?_some h1
      obtain ⟨y, hy, hf⟩ := open_opU h2 hlen (by
        have := bulk_mem (show D i ∈ (List.range len).map D from List.mem_map.2 ⟨i, List.mem_range.2 hi, rfl⟩)
        show Rows.uptoBulk (D i) ≤ _
        omega)
      refine ⟨y, hf, fun j u hj => ?_⟩
      have hj5 : j < 5 := (List.getElem?_eq_some_iff.1 hj).1
      have e := hcell j hj5
      rw [add_add] at e
      rw [e, ← hj, hy]
    haveI : Inhabited MO := ⟨⟨0, 0, 0, 0, ⟨#[]⟩⟩⟩
    obtain ⟨q, hq⟩ := choose_lt each
    have hplen : ((List.range len).map q).length = len := by simp
    obtain ⟨b, off, spot⟩ := a
    have hspot : 0 < len → spot = none := fun h => by simpa [Addr.add] using World.cell?_spot ((hq 0 (by omega)).2 0 _ rfl)
    have cell : ∀ (i : Nat) (hi : i < ((List.range len).map q).length) (j : Nat) (u : Value), [Value.int .i64 ((List.range len).map q)[i].kind, .int .i64 ((List.range len).map q)[i].pl, .int .i64 ((List.range len).map q)[i].n, .int .i64 ((List.range len).map q)[i].m, .string ((List.range len).map q)[i].s][j]? = some u → w.cell? ⟨b, off + i * 5 + j, none⟩ = some u := by
      intro i hi j u hj
      have hi' : i < len := by rw [hplen] at hi; exact hi
      rw [List.getElem_map, List.getElem_range] at hj
      have e := (hq i hi').2 j u hj
      rw [hspot (by omega), add_plainT] at e
      rw [Nat.add_assoc]
      exact e
    refine ⟨(List.range len).map q, some ⟨b, off, spot⟩, b, off, cap, by rw [hv, hplen], ⟨fun z => ?_, fun z => ?_, fun i hi => cell i hi 0 _ rfl, fun i hi => cell i hi 1 _ rfl, fun i hi => cell i hi 2 _ rfl, fun i hi => cell i hi 3 _ rfl, fun i hi => cell i hi 4 _ rfl, ?_, ?_⟩, by rw [hplen]; exact hwl⟩
    · rw [hplen] at z
      rw [hspot z]
    · have := cell 0 (by omega) 0 _ rfl
      exact World.block_lt_of_cell? w _ this
    · intro i hi
      rw [List.getElem_map, List.getElem_range]
      exact (hq i (by rw [hplen] at hi; exact hi)).1
    · rw [hplen]
      omega
end Go.Proofs.Ytnphdbmacccblab
