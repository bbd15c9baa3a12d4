import Derived.Test.YtfpalfpfijcpbaaGreatDoorPtDefs
import Derived.Test.YtfpalfpfijcpbaaGreatDoorRows
import Derived.ProofKit
import Derived.OpenShut
import Derived.SizedLaws
import Derived.SliceStrings
import Derived.Deep.SlicePairs
import Derived.Test.YtfpalfpfijcpbaaGreatDoorGPyExt
namespace Go.Proofs.YtfpalfpfijcpbaaGreatDoor
open Go.RowKit Go.Shelf
theorem md5L_len (l : List UInt8) : (md5L l).length = 16 := by unfold md5L tellQ; rfl
theorem low_nm : ∀ n : Fin 256, isLow (UInt8.ofNat n.1) = true → nmL.data.toList.contains (UInt8.ofNat n.1) = true := by decide +kernel
theorem low_nm2 {c : UInt8} (h : isLow c = true) : nmL.data.toList.contains c = true := by
  have := low_nm ⟨c.toNat, c.toNat_lt⟩
  simp only [UInt8.ofNat_toNat] at this
  exact this h
theorem letters_nm {t : ByteArray} (h : lettersB t = true) : nmOk t 1 40 = true := by
  unfold lettersB at h
  simp only [Bool.and_eq_true, decide_eq_true_eq] at h
  obtain ⟨⟨h1, h2⟩, h3⟩ := h
  have hall := List.all_eq_true.1 h3
  have hnd : ∀ c ∈ t.data.toList, c ≠ 46 := fun c hc e => by
    have := hall c hc
    rw [e] at this
    revert this
    decide
  unfold nmOk inR isNm allOf
  have a1 : (t.data.toList.all fun c => nmL.data.toList.contains c) = true := List.all_eq_true.2 (fun c hc => low_nm2 (hall c hc))
  have a2 : (t.data.toList == [46]) = false := beq_eq_false_iff_ne.2 (fun e => hnd 46 (by rw [e]; simp) rfl)
  have a3 : (t.data.toList == [46, 46]) = false := beq_eq_false_iff_ne.2 (fun e => hnd 46 (by rw [e]; simp) rfl)
  rw [a1, a2, a3, decide_eq_true (by omega), decide_eq_true (by omega)]
  rfl
def toldM (st : ByteArray) (fs : List CT) : MF := ⟨st, 7, 3, fs.map rowC, (totS (fs.map rowC) : Int), (crcN 0 (catC fs) : Int)⟩
theorem whlC (fs : List CT) : ∀ k, k ≤ fs.length → whlS ((fs.take k).map rowC) = crcN 0 (catC (fs.take k))
  | 0, _ => by simp [whlS, catC, crcN_nil]
  | k + 1, hk => by
    have ih := whlC fs k (by omega)
    rw [catC_snoc fs k (by omega), List.take_succ_eq_append_getElem (by omega), List.map_append, List.map_cons, List.map_nil, whlS_snoc, ih, crc_cat]
    show stps (8 * ((fs[k].2.size : Int)).toNat) _ ^^^ ((crcN 0 fs[k].2.data.toList : Int)).toNat = _
    rw [Int.toNat_natCast, Int.toNat_natCast, size_data]
theorem rowC_ok {c : CT} (h1 : lettersB c.1 = true) (h2 : c.2.size ≤ 1073741824) : rowOk (rowC c) = true := by
  have hc := crcN_lt (w := 0) c.2.data.toList (by decide)
  unfold rowOk rowC
  dsimp only
  rw [letters_nm h1]
  unfold inR
  rw [strOf_size, md5L_len]
  rw [decide_eq_true (by omega), decide_eq_true (by omega), decide_eq_true (by omega), decide_eq_true (by omega)]
  rfl
theorem told_fit {st : ByteArray} {fs : List CT} (h : okUp st fs fs.length = true) (hs : ∀ c ∈ fs, c.2.size ≤ 1073741824) (t : Int) (u : Int) (ht : 0 ≤ t ∧ t ≤ 1048577) (hu : 0 ≤ u ∧ u ≤ 4294967295) : mfFit ⟨st, 7, 3, fs.map rowC, t, u⟩ = true := by
  unfold okUp at h
  simp only [Bool.and_eq_true, decide_eq_true_eq] at h
  obtain ⟨⟨h1, h2⟩, h3⟩ := h
  have h4 := List.all_eq_true.1 h3
  unfold mfFit headOk tailOk MF.hv MF.tv inR
  dsimp only
  rw [letters_st h1, List.length_map, decide_eq_true (p := (1 : Int) ≤ 7) (by omega), decide_eq_true (p := (7 : Int) ≤ 999999) (by omega), decide_eq_true (p := (0 : Int) ≤ 3) (by omega), decide_eq_true (p := (3 : Int) ≤ 15) (by omega), decide_eq_true (p := (0 : Int) ≤ (fs.length : Int)) (by omega), decide_eq_true (p := (fs.length : Int) ≤ 1025) (by omega), decide_eq_true (p := 0 ≤ t) ht.1, decide_eq_true (p := t ≤ 9007199254740992) (by omega), decide_eq_true (p := 0 ≤ u) hu.1, decide_eq_true (p := u ≤ 4294967295) hu.2]
  have h5 : rowsOk (fs.map rowC) = true := by
    unfold rowsOk
    rw [List.all_eq_true]
    intro i hi
    rw [List.length_map, List.mem_range] at hi
    have g := h4 i (List.mem_range.2 hi)
    have e : ∀ j, j < fs.length → (fs.map rowC).getD j rz = rowC (fs.getD j cz) := fun j hj => by
      rw [List.getD_eq_getElem?_getD, List.getD_eq_getElem?_getD, List.getElem?_map, List.getElem?_eq_getElem hj]; rfl
    have hm : fs.getD i cz ∈ fs := by rw [List.getD_eq_getElem?_getD, List.getElem?_eq_getElem hi]; exact List.getElem_mem hi
    unfold okAt at g
    rw [Bool.and_eq_true] at g
    rw [e i hi, rowC_ok g.1 (hs _ hm), Bool.true_and]
    unfold risesB
    by_cases h0 : i = 0
    · rw [decide_eq_true h0]; rfl
    · have g2 := g.2
      rw [decide_eq_false h0, Bool.false_or] at g2 ⊢
      rw [e i hi, e (i - 1) (by omega)]
      unfold gtS at g2
      rw [Bool.not_or]
      exact g2
  rw [h5]
  rfl
theorem told_E {st : ByteArray} {fs : List CT} (h : okUp st fs fs.length = true) (hs : ∀ c ∈ fs, c.2.size ≤ 1073741824) (hcat : (catC fs).length ≤ 1048576) : mfE (toldM st fs) = 0 := by
  have hc := crcN_lt (w := 0) (catC fs) (by decide)
  have ht := totC fs
  unfold mfE toldM
  rw [told_fit h hs _ _ ⟨by omega, by omega⟩ ⟨by omega, by omega⟩]
  have hw := whlC fs fs.length (Nat.le_refl _)
  rw [List.take_length] at hw
  unfold mfTot
  dsimp only
  rw [hw]
  simp
theorem told_E1 {st : ByteArray} {fs : List CT} (h : okUp st fs fs.length = true) (hs : ∀ c ∈ fs, c.2.size ≤ 1073741824) (hcat : (catC fs).length ≤ 1048576) : mfE ⟨st, 7, 3, fs.map rowC, (totS (fs.map rowC) : Int) + 1, (crcN 0 (catC fs) : Int)⟩ = 43 := by
  have hc := crcN_lt (w := 0) (catC fs) (by decide)
  have ht := totC fs
  unfold mfE
  rw [told_fit h hs _ _ ⟨by omega, by omega⟩ ⟨by omega, by omega⟩]
  unfold mfTot
  dsimp only
  rw [decide_eq_false (by omega), Bool.false_and]
  rfl
theorem xor1_ne (a : Nat) : a ^^^ 1 ≠ a := fun e => by
  have := congrArg (a ^^^ ·) e
  simp only [← Nat.xor_assoc, Nat.xor_self, Nat.zero_xor] at this
  exact absurd this (by decide)
theorem told_E2 {st : ByteArray} {fs : List CT} (h : okUp st fs fs.length = true) (hs : ∀ c ∈ fs, c.2.size ≤ 1073741824) (hcat : (catC fs).length ≤ 1048576) : mfE ⟨st, 7, 3, fs.map rowC, (totS (fs.map rowC) : Int), ((crcN 0 (catC fs) ^^^ 1 : Nat) : Int)⟩ = 43 := by
  have hc := crcN_lt (w := 0) (catC fs) (by decide)
  have hx : crcN 0 (catC fs) ^^^ 1 < 4294967296 := xor32_lt hc (by omega)
  have ht := totC fs
  have hw := whlC fs fs.length (Nat.le_refl _)
  rw [List.take_length] at hw
  have hn := xor1_ne (crcN 0 (catC fs))
  unfold mfE
  rw [told_fit h hs _ _ ⟨by omega, by omega⟩ ⟨by omega, by omega⟩]
  unfold mfTot
  dsimp only
  rw [hw, decide_eq_false (p := ((crcN 0 (catC fs) : Nat) : Int) = ((crcN 0 (catC fs) ^^^ 1 : Nat) : Int)) (by omega), Bool.and_false]
  rfl
theorem catC_mem {fs : List CT} {c : CT} (h : c ∈ fs) : c.2.size ≤ (catC fs).length := by
  unfold catC
  induction fs with
  | nil => cases h
  | cons a r ih =>
    rw [List.flatMap_cons, List.length_append, size_data]
    rcases List.mem_cons.1 h with rfl | h
    · omega
    · have := ih h; omega
theorem mf_fit {m : MF} (h : mfE m = 0) : headOk m.hv = true ∧ tailOk m.tv = true ∧ rowsOk m.rs = true := by
  unfold mfE at h
  split at h
  · rename_i hf
    unfold mfFit at hf
    simp only [Bool.and_eq_true] at hf
    exact ⟨hf.1.1, hf.1.2, hf.2⟩
  · exact absurd h (by decide)
end Go.Proofs.YtfpalfpfijcpbaaGreatDoor
namespace Go.Proofs.YtfpalfpfijcpbaaGreatDoor
open Go.ChangeShapes Go.WideShapes Go.ChangeAt Go.RowKit Go.Deep
theorem cellsCont : Tryz.prog.cellsOf 58 = 2 := by kernel_rfl
theorem cells9C : Tryz.prog.cellsOf 9 = 1 := by kernel_rfl
theorem bulk_pos {H : Type} (d : DataW H) : 1 ≤ Rows.uptoBulk d := by
  cases d with
  | lit l => cases l <;> simp only [Rows.uptoBulk] <;> omega
  | _ => simp only [Rows.uptoBulk] <;> omega
theorem bulk_len {H α : Type} (l : List α) (f : α → DataW H) : l.length ≤ Rows.uptoBulkAll (l.map f) := by
  induction l with
  | nil => simp
  | cons a r ih =>
    have := bulk_pos (f a)
    simp only [List.map_cons, List.length_cons, Rows.uptoBulkAll]
    omega
theorem bulk_cats {H α : Type} (l : List α) (f : α → DataW H) (q : α → CT) (h : ∀ a ∈ l, (q a).1.size + (q a).2.size ≤ Rows.uptoBulk (f a)) : (catC (l.map q)).length ≤ Rows.uptoBulkAll (l.map f) ∧ ∀ c ∈ l.map q, c.1.size ≤ Rows.uptoBulkAll (l.map f) := by
  induction l with
  | nil => exact ⟨by simp [catC], fun c hc => by cases hc⟩
  | cons a r ih =>
    obtain ⟨h1, h3⟩ := ih (fun b hb => h b (List.mem_cons_of_mem _ hb))
    have h2 := h a List.mem_cons_self
    have e : catC ((a :: r).map q) = (q a).2.data.toList ++ catC (r.map q) := by unfold catC; rw [List.map_cons, List.flatMap_cons]
    rw [e, List.length_append, size_data]
    simp only [List.map_cons, Rows.uptoBulkAll]
    refine ⟨by omega, fun c hc => ?_⟩
    rcases List.mem_cons.1 hc with rfl | hc
    · omega
    · have := h3 c hc; omega
set_option maxRecDepth 100000 in
/-- files that are handed in -/
theorem open_files {H : Type} {enc : TypeId × Value → H} {w : World} {base fuel : Nat} {v : Value} {x : DataW H × List MemPlace} (h : DataW.trod enc Tryz.prog w base (fun _ => true) true fuel 56 [v] = some x) (hlt : ∀ q ∈ x.2, q.block < w.heap.size) :
    ∃ (fs : List CT) (ao : Option Addr) (b o cap : Nat), v = .slice ao fs.length cap ∧ (0 < fs.length → ao = some ⟨b, o, none⟩) ∧ (0 < fs.length → b < w.heap.size) ∧ fs.length ≤ cap ∧ LiesC b o w fs ∧ fs.length ≤ Rows.uptoBulk x.1 ∧ (∀ c ∈ fs, c.1.size ≤ Rows.uptoBulk x.1) ∧ (catC fs).length ≤ Rows.uptoBulk x.1 := by
  rcases open_slice_pairs Tryz.underlying56 Tryz.underlying58 cellsCont rfl rfl cells9C cells9C h with ⟨hcs, hx⟩ | ⟨a, len, cap, m, n, V0, V1, D0, D1, P0, P1, hcs, _, hl, hm, hmm, hx, hcell⟩
  · simp only [List.cons.injEq, and_true] at hcs
    subst hcs
    exact ⟨[], none, 0, 0, 0, rfl, fun z => absurd z (by simp), fun z => absurd z (by simp), Nat.le_refl _, fun i hi => absurd hi (by simp), by simp, (fun c hc => (by cases hc)), by simp [catC]⟩
  · simp only [List.cons.injEq, and_true] at hcs
    subst hcs
    simp only [if_true] at hmm
    have each : ∀ i, i < len → ∃ q : CT, V0 i = .string q.1 ∧ V1 i = .string q.2 ∧ D0 i = .lit (.string q.1.data.toList) ∧ D1 i = .lit (.string q.2.data.toList) := by
      intro i hi
      obtain ⟨_, _, t0, t1⟩ := hcell i (by omega)
      obtain ⟨s0, e0, f0, _⟩ := DataW.trod_string Tryz.underlying9 t0
      obtain ⟨s1, e1, f1, _⟩ := DataW.trod_string Tryz.underlying9 t1
      simp only [List.cons.injEq, and_true] at e0 e1
      simp only [Prod.mk.injEq] at f0 f1
      exact ⟨(s0, s1), e0, e1, f0.1, f1.1⟩
    obtain ⟨q, hq⟩ := choose_lt each
    have hplen : ((List.range len).map q).length = len := by simp
    obtain ⟨b, off, spot⟩ := a
    have hspot : 0 < len → spot = none := fun h => by simpa [Addr.add] using World.cell?_spot (hcell 0 (by omega)).1
    have hbk : Rows.uptoBulkAll ((List.range len).map fun i => DataW.agg [D0 i, D1 i]) + 1 ≤ Rows.uptoBulk x.1 := by
      rw [hx]
      simp only [Rows.uptoBulk]
      omega
    obtain ⟨bc1, bc2⟩ := bulk_cats (List.range len) (fun i => DataW.agg [D0 i, D1 i]) q (fun i hi => by
      have hi' := List.mem_range.1 hi
      rw [(hq i hi').2.2.1, (hq i hi').2.2.2]
      simp only [Rows.uptoBulk, Rows.uptoBulkAll]
      rw [size_data, size_data]
      omega)
    refine ⟨(List.range len).map q, some ⟨b, off, spot⟩, b, off, cap, by rw [hplen], fun z => ?_, fun z => ?_, by rw [hplen]; omega, fun i hi => ?_, ?_, fun c hc => by have := bc2 c hc; omega, by omega⟩
    · rw [hplen] at z
      rw [hspot z]
    · rw [hplen] at z
      refine hlt (.cell b off) ?_
      rw [hx]
      exact List.mem_append_left _ (MemPlace.mem_row.2 ⟨0, by omega, by simp⟩)
    · rw [hplen] at hi
      have hs := hspot (by omega)
      subst hs
      obtain ⟨c0, c1, _⟩ := hcell i (by omega)
      rw [add_plain] at c0 c1
      rw [show off + i * 2 + 1 = off + (i * 2 + 1) by omega, c0, c1, List.getElem_map, List.getElem_range, (hq i hi).1, (hq i hi).2.1]
      exact ⟨rfl, rfl⟩
    · rw [hplen]
      have := bulk_len (List.range len) (fun i => DataW.agg [D0 i, D1 i])
      rw [List.length_range] at this
      omega
end Go.Proofs.YtfpalfpfijcpbaaGreatDoor
namespace Go.Proofs.YtfpalfpfijcpbaaGreatDoor
open Go.RowKit Go.Shelf
set_option maxHeartbeats 2000000 in
set_option maxRecDepth 100000 in
/-- sameFiles, of two lists that are the same -/
theorem sameFiles_any (a1 a2 : Option Addr) (b1 c1 b2 c2 : Nat) (rs : List RV) (w : World) (h1 : 0 < rs.length → a1 = some ⟨b1, 0, none⟩) (h2 : 0 < rs.length → a2 = some ⟨b2, 0, none⟩) (hlen : rs.length ≤ 4000000) (l1 : LiesR b1 0 w rs) (l2 : LiesR b2 0 w rs) :
    Calls Tryz.prog 29 #[.slice a1 rs.length c1, .slice a2 rs.length c2] w fun e w' => e = .returned (.bool true) ∧ Below w.heap.size w w' := by
  have L1 := hide l1
  have L2 := hide l2
  clear l1 l2
  go_enter Tryz.func29, Tryz.ntmps29
  go_wp2_with fail
  go_loopw [5] (fun i wr => ∃ k : Nat, k ≤ rs.length ∧ i = .int .i64 k ∧ Below w.heap.size w wr) (fun i _ => rs.length - (intOf i).toNat)
  case atStart => exact ⟨0, Nat.zero_le _, rfl, Below.refl _ _⟩
  case round =>
    obtain ⟨k, hk, rfl, hnx⟩ := hrel
    by_cases hlt : k < rs.length
    · obtain rfl := h1 (by omega)
      obtain rfl := h2 (by omega)
      obtain ⟨d1, d2, d3, d4⟩ := L1.out.below hnx k hlt
      obtain ⟨d5, d6, d7, d8⟩ := L2.out.below hnx k hlt
      rw [Nat.zero_add] at d1 d2 d3 d4 d5 d6 d7 d8
      have hk1 : (k : Int) < (rs.length : Int) := by omega
      have HNX := hide hnx
      clear hnx
      generalize rs[k].1 = X at *
      generalize rs[k].2.1 = Y at *
      generalize rs[k].2.2.1 = Z at *
      generalize rs[k].2.2.2 = V at *
      go_wp2_with fail
      go_quiet (fail)
      go_wp2
      go_roundw
      case rel => exact ⟨k + 1, by omega, by go_num, below_drewN HNX.out _⟩
      case measure => simp [intOf]; omega
    · have HNX := hide hnx
      clear hnx
      go_wp2
      go_ret
      exact ⟨rfl, HNX.out⟩
set_option maxHeartbeats 2000000 in
set_option maxRecDepth 100000 in
/-- sameManifest, of two manifests that are the same -/
theorem sameManifest_any (st : ByteArray) (n1 n2 t h : Int) (a1 a2 : Option Addr) (b1 c1 b2 c2 : Nat) (rs : List RV) (w : World) (h1 : 0 < rs.length → a1 = some ⟨b1, 0, none⟩) (h2 : 0 < rs.length → a2 = some ⟨b2, 0, none⟩) (hlen : rs.length ≤ 4000000) (l1 : LiesR b1 0 w rs) (l2 : LiesR b2 0 w rs) :
    Calls Tryz.prog 25 #[.agg #[.string st, .int .i64 n1, .int .i64 n2, .slice a1 rs.length c1, .int .i64 t, .int .i64 h], .agg #[.string st, .int .i64 n1, .int .i64 n2, .slice a2 rs.length c2, .int .i64 t, .int .i64 h]] w fun e w' => e = .returned (.bool true) ∧ Below w.heap.size w w' := by
  have SF := hide (fun w' (hb : Below w.heap.size w w') => sameFiles_any a1 a2 b1 c1 b2 c2 rs w' h1 h2 hlen (l1.below hb) (l2.below hb))
  clear l1 l2 h1 h2
  go_enter Tryz.func25, Tryz.ntmps25
  go_wp2_with fail
  have b2 : Below w.heap.size w ((w.alloc (.cells #[.string st, .int .i64 n1, .int .i64 n2, .slice a1 rs.length c1, .int .i64 t, .int .i64 h] 52)).alloc (.cells #[.string st, .int .i64 n1, .int .i64 n2, .slice a2 rs.length c2, .int .i64 t, .int .i64 h] 52)) := ((Below.refl _ w).alloc (Nat.le_refl _) _).alloc (by simp) _
  refine Calls.mono (SF.out _ b2) ?_
  rintro x w1 ⟨rfl, b1⟩
  have BE := hide (b2.trans (b1.mono b2.size))
  clear b1 b2
  go_wp2_with fail
  go_ret
  exact ⟨rfl, BE.out⟩
end Go.Proofs.YtfpalfpfijcpbaaGreatDoor
