import Derived.Test.YtgdopepghmjopaaGreatDoorGPyBack
import Derived.Test.YtgdopepghmjopaaGreatDoorGPjSpoil
import Derived.Test.YtgdopepghmjopaaGreatDoorPwParse
import Derived.Test.YtgdopepghmjopaaGreatDoorGPnBack
import Derived.Test.YtgdopepghmjopaaGreatDoorRows
import Derived.ProofKit
import Derived.OpenShut
import Derived.SizedLaws
import Derived.SliceStrings
import Derived.Deep.SlicePairs
namespace Go.Proofs.YtgdopepghmjopaaGreatDoor
open Go.RowKit Go.Shelf
def SepF (f : FD) : Prop := ∃ b er, f.en.data.toList = b :: er ∧ isSep b = true
theorem wordL_nosep (l : List UInt8) : ∀ c ∈ wordL l, isSep c = false := by
  intro c hc
  unfold wordL at hc
  have := List.all_eq_true.1 (List.all_takeWhile (p := fun c => !isSep c) (l := l)) c hc
  simpa using this
theorem goods_of : ∀ (ts : List FD) (l : List UInt8), (∀ f ∈ ts, SepF f) → tabOk ts l = true → Goods ts (tabVs ts l)
  | [], _, _, _ => trivial
  | f :: r, l, hs, h => by
    rw [tabOk, Bool.and_eq_true] at h
    refine ⟨?_, goods_of r _ (fun g hg => hs g (List.mem_cons_of_mem _ hg)) h.2⟩
    have h1 := h.1
    unfold fldOk at h1
    rw [Bool.and_eq_true, Bool.and_eq_true] at h1
    have hp : prL f.sh (fldV f l) = fldW f l := pr_rd f.sh (fldW f l) h1.2.1
    refine ⟨hs f List.mem_cons_self, ?_, ?_, ?_⟩
    · rw [hp]; exact wordL_nosep _
    · rw [hp]; exact h1.2.1
    · rw [hp]; rfl
theorem tab_ext (ts : List FD) (l r : List UInt8) (hs : ∀ f ∈ ts, SepF f) (h : tabOk ts l = true) : tabOk ts (l ++ r) = true ∧ tabN ts (l ++ r) = tabN ts l ∧ tabVs ts (l ++ r) = tabVs ts l := by
  have hb := tab_back ts l h
  have hg := goods_of ts l hs h
  generalize hvs : tabVs ts l = vs at *
  generalize hd : l.drop (tabN ts l) = d at *
  obtain ⟨a1, a2, a3⟩ := tabP_fwd ts vs hg d
  obtain ⟨b1, b2, b3⟩ := tabP_fwd ts vs hg (d ++ r)
  rw [← hb] at a2
  rw [← List.append_assoc, ← hb] at b1 b2 b3
  exact ⟨b1, by rw [b2, a2], b3⟩
theorem drop_app {l r : List UInt8} {n : Nat} (h : n ≤ l.length) : (l ++ r).drop n = l.drop n ++ r := by
  rw [List.drop_append, Nat.sub_eq_zero_of_le h, List.drop_zero]
theorem rpA_ext {title tx tx' : ByteArray} {ts : List FD} {r : List UInt8} (hs : ∀ f ∈ ts, SepF f) (h : tx'.data.toList = tx.data.toList ++ r) (hf : rpForm title tx ts = true) : rpA title tx' ts = rpA title tx ts := by
  unfold rpForm at hf
  rw [Bool.and_eq_true] at hf
  unfold rpA
  rw [h, drop_app (pfx_le hf.1), (tab_ext ts _ r hs hf.2).2.1]
theorem rows_ext {tx tx' : ByteArray} {a : Nat} {r : List UInt8} (h : tx'.data.toList = tx.data.toList ++ r) (ha : a ≤ tx.size) (hs : ∀ f ∈ rowFDs 0, SepF f) : ∀ k l q, rowsAt tx a k = some (l, q) → rowsAt tx' a k = some (l, q) := by
  intro k
  induction k with
  | zero => intro l q h; exact h
  | succ k ih =>
    intro l q h'
    rw [rowsAt] at h'
    split at h'
    · cases h'
    · rename_i l' q' h1
      by_cases hz : tabOk (rowFDs 0) (tx.data.toList.drop q') = true
      · rw [if_pos hz] at h'
        have hq := (rowsAt_le ha _ _ _ h1).2.1
        obtain ⟨e1, e2, e3⟩ := tab_ext (rowFDs 0) _ r hs hz
        rw [rowsAt, ih _ _ h1]
        show (if tabOk (rowFDs 0) (tx'.data.toList.drop q') then some (l' ++ [rdRow (tx'.data.toList.drop q')], q' + tabN (rowFDs 0) (tx'.data.toList.drop q')) else none) = _
        unfold rdRow
        rw [h, drop_app (by rw [size_data]; exact hq), if_pos e1, e2, e3]
        exact h'
      · rw [if_neg hz] at h'; cases h'
theorem sep_nl (f : FD) (h : f.en = nl) : SepF f := ⟨10, [], by rw [h]; rfl, rfl⟩
theorem row_sep : ∀ f ∈ rowFDs 0, SepF f := by
  intro f hf
  unfold rowFDs at hf
  simp only [List.mem_cons, List.not_mem_nil, or_false] at hf
  rcases hf with rfl | rfl | rfl | rfl
  · exact ⟨32, [], rfl, rfl⟩
  · exact ⟨32, [], rfl, rfl⟩
  · exact ⟨32, [], rfl, rfl⟩
  · exact ⟨10, [], rfl, rfl⟩
theorem head_sep : ∀ f ∈ headFDs 0 0, SepF f := by
  intro f hf
  unfold headFDs at hf
  simp only [List.mem_cons, List.not_mem_nil, or_false] at hf
  rcases hf with rfl | rfl | rfl | rfl <;> exact sep_nl _ rfl
theorem tail_sep : ∀ f ∈ tailFDs 0, SepF f := by
  intro f hf
  unfold tailFDs at hf
  simp only [List.mem_cons, List.not_mem_nil, or_false] at hf
  rcases hf with rfl | rfl <;> exact sep_nl _ rfl
theorem cls_13 {tx : ByteArray} {a : Nat} (h : clsE tx a = 0) : a + 13 = tx.size := by
  obtain ⟨h1, h2⟩ := cls_back h
  have h3 := congrArg List.length h2
  rw [List.length_drop, size_data, sealL_len] at h3
  have h4 : sumWd.size = 4 := rfl
  omega
theorem man_parts {tx : ByteArray} (h : pmE tx = 0) : pmForm tx = true ∧ clsE tx (pmA3 tx) = 0 := by
  unfold pmE at h
  split at h
  · rename_i h1
    refine ⟨h1, ?_⟩
    split at h
    · rename_i h2; exact h2
    · rename_i h2; exact absurd h h2
  · exact absurd h (by decide)
theorem pmA3_ext {tx tx' : ByteArray} {r : List UInt8} (h : tx'.data.toList = tx.data.toList ++ r) (hf : pmForm tx = true) : pmA3 tx' = pmA3 tx := by
  unfold pmForm at hf
  simp only [Bool.and_eq_true] at hf
  obtain ⟨p1, p2, p3, p4⟩ := hf
  obtain ⟨⟨rs, q⟩, hr⟩ := Option.isSome_iff_exists.1 p3
  have hpl := pfx_le p1
  have d0 : tx'.data.toList.drop manTitle.size = tx.data.toList.drop manTitle.size ++ r := by rw [h, drop_app hpl]
  obtain ⟨e1, e2, e3⟩ := tab_ext (headFDs 0 0) _ r head_sep p2
  rw [← d0] at e1 e2 e3
  have hH : pmH tx' = pmH tx := by unfold pmH rdHead; rw [e3]
  have hN : pmN tx' = pmN tx := by unfold pmN; rw [hH]
  have hA1 : pmA1 tx' = pmA1 tx := by unfold pmA1; rw [e2]
  have n2 := tabN_le _ _ p2
  rw [List.length_drop, size_data] at n2
  rw [size_data] at hpl
  have hA : pmA1 tx ≤ tx.size := by unfold pmA1; omega
  have hr0 : rowsAt tx (pmA1 tx) (pmN tx) = some (rs, q) := hr
  have hR : pmR tx' = some (rs, q) := by unfold pmR; rw [hA1, hN]; exact rows_ext h hA row_sep _ _ _ hr0
  have hq := (rowsAt_le hA _ _ _ hr0).2.1
  have a2 : pmA2 tx = q := by unfold pmA2; rw [hr]; rfl
  have a2' : pmA2 tx' = q := by unfold pmA2; rw [hR]; rfl
  rw [a2] at p4
  obtain ⟨f1, f2, f3⟩ := tab_ext (tailFDs 0) _ r tail_sep p4
  unfold pmA3
  rw [a2, a2', h, drop_app (by rw [size_data]; exact hq), f2]
theorem man_title {tx : ByteArray} (h : pmE tx = 0) : pfx manTitle tx.data.toList = true := by
  have := (man_parts h).1; unfold pmForm at this; rw [Bool.and_eq_true] at this; exact this.1
theorem pfx_grow {t : ByteArray} {l r : List UInt8} (h : pfx t l = true) : pfx t (l ++ r) = true := by
  unfold pfx at h ⊢
  rw [List.isPrefixOf_iff_prefix] at h ⊢
  exact h.trans (List.prefix_append l r)
theorem len_nil {s t : ByteArray} {r : List UInt8} (h : t.data.toList = s.data.toList ++ r) (hs : s.size = t.size) : r = [] := by
  have := congrArg List.length h
  rw [List.length_append, size_data, size_data] at this
  exact List.length_eq_zero_iff.1 (by omega)
theorem seal_inj {a b : Nat} (ha : a < 4294967296) (hb : b < 4294967296) (h : sealL sumWd a = sealL sumWd b) : a = b := by
  unfold sealL at h
  have h1 := List.append_cancel_left (List.append_cancel_right h)
  have h2 : some (be4 a) = some (be4 b) := by rw [← unhex_hex (be4 a), ← unhex_hex (be4 b), h1]
  have h3 : be4 a = be4 b := Option.some.inj h2
  rw [← beV_be4 a ha, ← beV_be4 b hb, h3]
end Go.Proofs.YtgdopepghmjopaaGreatDoor
namespace Go.Proofs.YtgdopepghmjopaaGreatDoor
open Go.RowKit Go.Shelf
set_option maxHeartbeats 2000000 in
set_option maxRecDepth 100000 in
/-- sameFiles, of two lists that are the same -/
theorem sameFilesO_any (a1 a2 : Option Addr) (b1 o1 c1 b2 o2 c2 : Nat) (rs : List RV) (w : World) (h1 : 0 < rs.length → a1 = some ⟨b1, o1, none⟩) (h2 : 0 < rs.length → a2 = some ⟨b2, o2, none⟩) (hlen : rs.length ≤ 1000000000000) (l1 : LiesR b1 o1 w rs) (l2 : LiesR b2 o2 w rs) :
    Calls Tryz.prog 6 #[.slice a1 rs.length c1, .slice a2 rs.length c2] w fun e w' => e = .returned (.bool true) ∧ Below w.heap.size w w' := by
  have L1 := hide l1
  have L2 := hide l2
  clear l1 l2
  go_enter Tryz.func6, Tryz.ntmps6
  go_wp2_with fail
  go_loopw [5] (fun i wr => ∃ k : Nat, k ≤ rs.length ∧ i = .int .i64 k ∧ Below w.heap.size w wr) (fun i _ => rs.length - (intOf i).toNat)
  case atStart => exact ⟨0, Nat.zero_le _, rfl, Below.refl _ _⟩
  case round =>
    obtain ⟨k, hk, rfl, hnx⟩ := hrel
    by_cases hlt : k < rs.length
    · obtain rfl := h1 (by omega)
      obtain rfl := h2 (by omega)
      obtain ⟨d1, d2, d3, d4⟩ := L1.out.below hnx k hlt
      obtain ⟨d5, d6, d7, d8⟩ := L2.out.below hnx k hlt
      have hk1 : (k : Int) < (rs.length : Int) := by omega
      have HNX := hide hnx
      clear hnx
      generalize rs[k].1 = X at *
      generalize rs[k].2.1 = Y at *
      generalize rs[k].2.2.1 = Z at *
      generalize rs[k].2.2.2 = V at *
      go_wp2_with fail
      go_quiet (fail)
      go_wp2
      go_roundw
      case rel => exact ⟨k + 1, by omega, by go_num, below_drewN HNX.out _⟩
      case measure => simp [intOf]; omega
    · have HNX := hide hnx
      clear hnx
      go_wp2
      go_ret
      exact ⟨rfl, HNX.out⟩
set_option maxHeartbeats 2000000 in
set_option maxRecDepth 100000 in
/-- sameManifest, of two manifests that are the same -/
theorem sameManO_any (st : ByteArray) (n1 n2 t h : Int) (a1 a2 : Option Addr) (b1 c1 b2 c2 : Nat) (rs : List RV) (w : World) (h1 : 0 < rs.length → a1 = some ⟨b1, 0, none⟩) (h2 : 0 < rs.length → a2 = some ⟨b2, 0, none⟩) (hlen : rs.length ≤ 1000000000000) (l1 : LiesR b1 0 w rs) (l2 : LiesR b2 0 w rs) :
    Calls Tryz.prog 25 #[.agg #[.string st, .int .i64 n1, .int .i64 n2, .slice a1 rs.length c1, .int .i64 t, .int .i64 h], .agg #[.string st, .int .i64 n1, .int .i64 n2, .slice a2 rs.length c2, .int .i64 t, .int .i64 h]] w fun e w' => e = .returned (.bool true) ∧ Below w.heap.size w w' := by
  have SF := hide (fun w' (hb : Below w.heap.size w w') => sameFilesO_any a1 a2 b1 0 c1 b2 0 c2 rs w' h1 h2 hlen (l1.below hb) (l2.below hb))
  clear l1 l2 h1 h2
  go_enter Tryz.func25, Tryz.ntmps25
  go_wp2_with fail
  have b2 : Below w.heap.size w ((w.alloc (.cells #[.string st, .int .i64 n1, .int .i64 n2, .slice a1 rs.length c1, .int .i64 t, .int .i64 h] 24)).alloc (.cells #[.string st, .int .i64 n1, .int .i64 n2, .slice a2 rs.length c2, .int .i64 t, .int .i64 h] 24)) := ((Below.refl _ w).alloc (Nat.le_refl _) _).alloc (by simp) _
  refine Calls.mono (SF.out _ b2) ?_
  rintro x w1 ⟨rfl, b1⟩
  have BE := hide (b2.trans (b1.mono b2.size))
  clear b1 b2
  go_wp2_with fail
  go_ret
  exact ⟨rfl, BE.out⟩
theorem pm_len {tx : ByteArray} (h : pmE tx = 0) : (pmM tx).rs.length ≤ tx.size := by
  unfold pmE at h
  cases hf : pmForm tx with
  | false => rw [hf] at h; cases h
  | true =>
    unfold pmForm at hf
    simp only [Bool.and_eq_true] at hf
    obtain ⟨hp, hh, hr, -⟩ := hf
    obtain ⟨⟨rs, q⟩, hr⟩ := Option.isSome_iff_exists.1 hr
    have hN := tabN_le _ _ hh
    rw [List.length_drop, size_data] at hN
    have htl := pfx_le hp
    rw [size_data] at htl
    have hA1 : pmA1 tx ≤ tx.size := by unfold pmA1; omega
    obtain ⟨g1, g2, g3⟩ := rowsAt_le hA1 _ _ _ hr
    have : pmRs tx = rs := by unfold pmRs; rw [hr]; rfl
    show (pmRs tx).length ≤ _
    rw [this]; omega
set_option maxHeartbeats 4000000 in
set_option maxRecDepth 100000 in
/-- manifestAnswers -/
theorem manAnswers_any (tx : ByteArray) (w : World) (htx : tx.size ≤ 1000000000000) (hT4 : Tab4 1 w) (hT : TabP w) :
    Calls Tryz.prog 9 #[.string tx] w fun e w' => e = .returned (.bool true) ∧ Below w.heap.size w w' := by
  have C1 := hide (parseManifest_any tx w htx hT4)
  have C2 := hide (fun w' (hb : Below w.heap.size w w') => rparseMan_any tx w' htx (hT.below hb (World.block_lt_of_cell? w _ (hT 0 (by omega)))))
  have PL := hide (fun h => pm_len (tx := tx) h)
  clear hT hT4
  generalize pmM tx = M at *
  generalize pmE tx = E at *
  obtain ⟨st, v1, v2, rs, v4, v5⟩ := M
  dsimp only at C1 C2 PL
  by_cases hE : E = 0
  · subst hE
    have hrl := PL.out rfl
    clear PL
    go_enter Tryz.func9, Tryz.ntmps9
    go_wp2_with fail
    refine Calls.mono C1.out ?_
    rintro e w1 ⟨hy, -, b1⟩
    obtain ⟨v, rfl, o1⟩ := hy trivial
    clear hy
    obtain ⟨a1, g1, c1, rfl, _, x1, x2⟩ := own_rows o1
    have B1 := hide b1
    have X1 := hide x1
    have X2 := hide x2
    obtain ⟨Wm, hWm⟩ : ∃ Wm, Wm = w1.alloc (.cells #[.string st, .int .i64 v1, .int .i64 v2, .slice a1 rs.length c1, .int .i64 v4, .int .i64 v5] 24) := ⟨_, rfl⟩
    have bm : Below w1.heap.size w1 Wm := by rw [hWm]; exact (Below.refl _ _).alloc (Nat.le_refl _) _
    have sm : w1.heap.size < Wm.heap.size := by rw [hWm]; simp
    have km : Hid (∀ w', Below Wm.heap.size Wm w' → w'.cell? ⟨w1.heap.size, 0, none⟩ = some (.string st) ∧ w'.cell? ⟨w1.heap.size, 1, none⟩ = some (.int .i64 v1) ∧ w'.cell? ⟨w1.heap.size, 2, none⟩ = some (.int .i64 v2) ∧ w'.cell? ⟨w1.heap.size, 3, none⟩ = some (.slice a1 rs.length c1) ∧ w'.cell? ⟨w1.heap.size, 4, none⟩ = some (.int .i64 v4) ∧ w'.cell? ⟨w1.heap.size, 5, none⟩ = some (.int .i64 v5)) := fun w' hb => by
      rw [hb.cell (by exact sm), hb.cell (by exact sm), hb.cell (by exact sm), hb.cell (by exact sm), hb.cell (by exact sm), hb.cell (by exact sm), hWm]
      exact ⟨by simp, by simp, by simp, by simp, by simp, by simp⟩
    have BM := hide bm
    have D2 := hide (C2.out Wm (b1.trans (bm.mono b1.size)))
    clear bm b1 o1 x1 x2 C1 C2
    go_wp2_with fail
    rw [← hWm]
    clear hWm
    refine Calls.mono D2.out ?_
    rintro e w2 ⟨hy, -, b2⟩
    obtain ⟨v, rfl, o2⟩ := hy trivial
    clear hy D2
    obtain ⟨a2, g2, c2, rfl, _, x1, x2⟩ := own_rows o2
    obtain ⟨j0, j1, j2, j3, j4, j5⟩ := km.out _ b2
    have hl2 : w1.heap.size < w2.heap.size := Nat.lt_of_lt_of_le sm b2.size
    have bmx := BM.out.trans (b2.mono BM.out.size)
    have B2 := hide (B1.out.trans (bmx.mono B1.out.size))
    have SM := hide (fun w' (hb : Below w2.heap.size w2 w') => sameManO_any st v1 v2 v4 v5 a1 a2 g1 c1 g2 c2 rs w' X1.out x1 (by omega) ((X2.out.below bmx).below hb) (x2.below hb))
    clear b2 km o2 x1 x2 bmx
    go_wp2_with fail
    refine Calls.mono (SM.out _ ((Below.refl _ _).alloc (Nat.le_refl _) _)) ?_
    rintro e w3 ⟨rfl, b3⟩
    have B3 := hide ((B2.out.alloc B2.out.size _).trans (b3.mono (B2.out.alloc B2.out.size _).size))
    clear b3 SM j0 j1 j2 j3 j4 j5
    go_wp2_with fail
    refine Calls.mono (pnum_any _ _) ?_
    rintro e w4 ⟨rfl, rfl⟩
    go_wp2_with fail
    go_ret
    exact ⟨rfl, B3.out⟩
  · have HE := hide hE
    clear PL
    go_enter Tryz.func9, Tryz.ntmps9
    go_wp2_with fail
    refine Calls.mono C1.out ?_
    rintro e w1 ⟨-, hy, b1⟩
    obtain rfl := hy HE.out
    clear hy
    have B1 := hide b1
    obtain ⟨Wm, hWm⟩ : ∃ Wm, Wm = w1.alloc (.cells #[.string ⟨#[]⟩, .int .i64 0, .int .i64 0, .slice none 0 0, .int .i64 0, .int .i64 0] 24) := ⟨_, rfl⟩
    have bm : Below w1.heap.size w1 Wm := by rw [hWm]; exact (Below.refl _ _).alloc (Nat.le_refl _) _
    have sm : w1.heap.size < Wm.heap.size := by rw [hWm]; simp
    have km : Hid (∀ w', Below Wm.heap.size Wm w' → w'.cell? ⟨w1.heap.size, 0, none⟩ = some (.string ⟨#[]⟩) ∧ w'.cell? ⟨w1.heap.size, 1, none⟩ = some (.int .i64 0) ∧ w'.cell? ⟨w1.heap.size, 2, none⟩ = some (.int .i64 0) ∧ w'.cell? ⟨w1.heap.size, 3, none⟩ = some (.slice none 0 0) ∧ w'.cell? ⟨w1.heap.size, 4, none⟩ = some (.int .i64 0) ∧ w'.cell? ⟨w1.heap.size, 5, none⟩ = some (.int .i64 0)) := fun w' hb => by
      rw [hb.cell (by exact sm), hb.cell (by exact sm), hb.cell (by exact sm), hb.cell (by exact sm), hb.cell (by exact sm), hb.cell (by exact sm), hWm]
      exact ⟨by simp, by simp, by simp, by simp, by simp, by simp⟩
    have BM := hide bm
    have D2 := hide (C2.out Wm (b1.trans (bm.mono b1.size)))
    clear bm b1 C1 C2
    go_wp2_with fail
    rw [← hWm]
    clear hWm
    refine Calls.mono D2.out ?_
    rintro e w2 ⟨-, hy, b2⟩
    obtain rfl := hy HE.out
    clear hy D2
    obtain ⟨j0, j1, j2, j3, j4, j5⟩ := km.out _ b2
    have hl2 : w1.heap.size < w2.heap.size := Nat.lt_of_lt_of_le sm b2.size
    have bmx := BM.out.trans (b2.mono BM.out.size)
    have B2 := hide (B1.out.trans (bmx.mono B1.out.size))
    have SM := hide (fun w' => sameManO_any ⟨#[]⟩ 0 0 0 0 none none 0 0 0 0 [] w' (fun z => absurd z (by simp)) (fun z => absurd z (by simp)) (by simp) (fun i hi => absurd hi (by simp)) (fun i hi => absurd hi (by simp)))
    rw [show ([] : List RV).length = 0 from rfl] at SM
    clear b2 km bmx
    go_wp2_with fail
    refine Calls.mono (SM.out _) ?_
    rintro e w3 ⟨rfl, b3⟩
    have B3 := hide ((B2.out.alloc B2.out.size _).trans (b3.mono (B2.out.alloc B2.out.size _).size))
    clear b3 SM j0 j1 j2 j3 j4 j5
    go_wp2_with fail
    refine Calls.mono (pnum_any _ _) ?_
    rintro e w4 ⟨rfl, rfl⟩
    go_wp2_with fail
    go_ret
    exact ⟨rfl, B3.out⟩
end Go.Proofs.YtgdopepghmjopaaGreatDoor
namespace Go.Proofs.YtgdopepghmjopaaGreatDoor
open Go.RowKit Go.Shelf
set_option maxHeartbeats 4000000 in
set_option maxRecDepth 100000 in
/-- copied: a list of files, in memory of its own -/
theorem copied_any (ao : Option Addr) (b o cap : Nat) (rs : List RV) (w : World) (hao : 0 < rs.length → ao = some ⟨b, o, none⟩) (hl : LiesR b o w rs) (hlen : rs.length ≤ 1000000000000) :
    Calls Tryz.prog 4 #[.slice ao rs.length cap] w fun e w' => ∃ v, e = .returned v ∧ w'.ownsRow w.heap.size 36 4 v rs.length (rcs rs) ∧ Below w.heap.size w w' := by
  obtain ⟨i0, hi, hz0, hz1, hz2⟩ := info_parts infoR
  have HL := hide hl
  clear hl
  go_enter Tryz.func4, Tryz.ntmps4
  go_wp2_with fail
  go_loopw [3, 4] (fun v i wr => ∃ k : Nat, k ≤ rs.length ∧ i = .int .i64 k ∧ wr.ownsRow w.heap.size 36 4 v k (rcs (rs.take k)) ∧ Below w.heap.size w wr) (fun _ i _ => rs.length - (intOf i).toNat)
  case atStart => exact ⟨0, Nat.zero_le _, rfl, World.ownsRow_nil _ _ _ _, Below.refl _ _⟩
  case round =>
    obtain ⟨k, hk, rfl, hown, hnx⟩ := hrel
    have HOWN := hide hown
    have HNX := hide hnx
    have s1 := hnx.size
    by_cases hlt : k < rs.length
    · obtain rfl := hao (by omega)
      obtain ⟨d1, d2, d3, d4⟩ := HL.out.below hnx k hlt
      have hk1 : (k : Int) < (rs.length : Int) := by omega
      have HTK : Hid (rcs (rs.take (k + 1)) = rcs (rs.take k) ++ rcs [rs[k]]) := by show _ = _; rw [List.take_succ_eq_append_getElem hlt, rcs_append]
      generalize hr : rs[k] = r at *
      obtain ⟨nm, sz, cr, md⟩ := r
      dsimp only at d1 d2 d3 d4
      obtain ⟨hm1, hm2⟩ : k + 1 ≤ maxLen ∧ (k + 1) * 48 ≤ 140737488355328 := by unfold maxLen; omega
      clear hown hnx hr
      go_wp2_with (at_builtin; refine wpList_append_own _ rfl _ _ 22 rfl w.heap.size 36 i0 (.agg #[.string ⟨#[]⟩, .int .i64 0, .int .i64 0, .string ⟨#[]⟩]) 4 48 Tryz.underlying22 hi hz0 hz1 hz2 rfl (by decide) _ _ _ rfl (HOWN.out.alloc _) ⟨wr.heap.size, 0, none⟩ 1 1 (rcs [(nm, sz, cr, md)]) rfl (rcs_one_len _) (cell_row wr (nm, sz, cr, md)) (rcs_one _) hm1 hm2 (le_allocX s1) ?_; intro v2 w2 o2 g2 n2; clear n2)
      go_roundw
      case rel =>
        refine ⟨k + 1, by omega, by go_num, ?_, ?_⟩
        · rw [HTK.out]; exact o2
        · have ba := HNX.out.alloc s1 (.cells #[.string nm, .int .i64 sz, .int .i64 cr, .string md] 36)
          exact ⟨g2.os.trans ba.os, g2.tape.trans ba.tape, g2.output.trans ba.output, Nat.le_trans ba.size g2.size, fun i hi => by rw [g2.block i (by have := ba.size; omega) (fun e => by have := HOWN.out.lt i e.symm; omega), ba.block i hi]⟩
      case measure => simp [intOf]; omega
    · obtain rfl : k = rs.length := by omega
      clear hown hnx
      go_wp2_with fail
      go_ret
      refine ⟨_, rfl, ?_, HNX.out⟩
      have h := HOWN.out
      rwa [List.take_length] at h
end Go.Proofs.YtgdopepghmjopaaGreatDoor
namespace Go.Proofs.YtgdopepghmjopaaGreatDoor
open Go.RowKit Go.Shelf
theorem mf_fitW {m : MF} (h : mfE m = 0) : headOk m.hv = true ∧ tailOk m.tv = true ∧ rowsOk m.rs = true := by
  unfold mfE at h
  split at h
  · rename_i hf
    unfold mfFit at hf
    simp only [Bool.and_eq_true] at hf
    exact ⟨hf.1.1, hf.1.2, hf.2⟩
  · exact absurd h (by decide)
theorem mfS_lenM {m : MF} (h : mfE m = 0) : (mfS m).size ≤ 1000000000 := by
  obtain ⟨s1, s2, s3⟩ := mf_fitW h
  have hrow := rowsOk_all s3
  have h1 := wrL_len (headFDs 0 0) (headO m.hv) 40 (headFD_small 0 0) (headO_len m.hv s1) 4 (Nat.le_refl _)
  have h2 := wrL_len (tailFDs 0) (tailO m.tv) 40 (tailFD_small 0) (tailO_len m.tv s2) 2 (Nat.le_refl _)
  have h3 := rowsL_len m.rs (fun r hr => by
    have := wrL_len (rowFDs 0) (rowO r) 40 (rowFD_small 0) (rowO_len r (hrow r hr)) 4 (Nat.le_refl _)
    exact this) m.rs.length (Nat.le_refl _)
  rw [List.take_length] at h3
  have h4 : m.rs.length ≤ 1025 := by
    unfold headOk inR MF.hv at s1
    simp only [Bool.and_eq_true, decide_eq_true_eq] at s1
    omega
  have e1 : (headL m.hv).length ≤ 4 * (40 + 2000) := h1
  have e2 : (tailL m.tv).length ≤ 2 * (40 + 2000) := h2
  have e3 : m.rs.length * 8160 ≤ 1025 * 8160 := Nat.mul_le_mul_right _ h4
  unfold mfS
  rw [if_pos h]
  unfold paperS mfL
  have t1 : manTitle.size = 19 := rfl
  have t2 : sumWd.size = 4 := rfl
  rw [ByteArray.size_append, ByteArray.size_append, strOf_size, strOf_size, sealL_len, t1, List.length_append, List.length_append]
  omega
theorem mfS_len2 (m : MF) : (mfS m).size ≤ 1000000000000 := by
  by_cases h : mfE m = 0
  · have := mfS_lenM h; omega
  · unfold mfS; rw [if_neg h]; decide
set_option maxHeartbeats 4000000 in
set_option maxRecDepth 100000 in
/-- the law PaperManifests -/
theorem manifests_any (st : ByteArray) (v1 v2 t4 t5 : Int) (ao : Option Addr) (b o cap : Nat) (rs : List RV) (tx : ByteArray) (w : World) (hao : 0 < rs.length → ao = some ⟨b, o, none⟩) (hl : LiesR b o w rs) (hlen : rs.length ≤ 1000000000000) (hst : st.size ≤ 9223372036854775807) (hsz : ∀ r ∈ rs, r.1.size ≤ 9223372036854775807) (htx : tx.size ≤ 1000000000000) (hT4 : Tab4 1 w) (hT : TabP w) (hP : Pow w) :
    Calls Tryz.prog 3 #[.agg #[.string st, .int .i64 v1, .int .i64 v2, .slice ao rs.length cap, .int .i64 t4, .int .i64 t5], .string tx] w fun e w' => e = .returned (.bool true) ∧ Below w.heap.size w w' := by
  have hTl := World.block_lt_of_cell? w _ (hT 0 (by omega))
  obtain ⟨W0, hW0⟩ : ∃ W0, W0 = w.alloc (.cells #[.string st, .int .i64 v1, .int .i64 v2, .slice ao rs.length cap, .int .i64 t4, .int .i64 t5] 24) := ⟨_, rfl⟩
  have b0 : Below w.heap.size w W0 := by rw [hW0]; exact (Below.refl _ w).alloc (Nat.le_refl _) _
  have s0 : w.heap.size < W0.heap.size := by rw [hW0]; simp
  have km : Hid (∀ w', Below W0.heap.size W0 w' → w'.cell? ⟨w.heap.size, 0, none⟩ = some (.string st) ∧ w'.cell? ⟨w.heap.size, 1, none⟩ = some (.int .i64 v1) ∧ w'.cell? ⟨w.heap.size, 2, none⟩ = some (.int .i64 v2) ∧ w'.cell? ⟨w.heap.size, 3, none⟩ = some (.slice ao rs.length cap) ∧ w'.cell? ⟨w.heap.size, 4, none⟩ = some (.int .i64 t4) ∧ w'.cell? ⟨w.heap.size, 5, none⟩ = some (.int .i64 t5)) := fun w' hb => by
    rw [hb.cell (by exact s0), hb.cell (by exact s0), hb.cell (by exact s0), hb.cell (by exact s0), hb.cell (by exact s0), hb.cell (by exact s0), hW0]
    exact ⟨by simp, by simp, by simp, by simp, by simp, by simp⟩
  have C1 := hide (copied_any ao b o cap rs W0 hao (hl.below b0) hlen)
  have C2 := hide (fun w' (hb : Below w.heap.size w w') => printManifest_any ⟨st, v1, v2, rs, t4, t5⟩ ao b o cap w' hao (hl.below hb) hst hsz hlen (hP.below hb) (hT4.below hb hT4.lt))
  have C3 := hide (fun w' (hb : Below w.heap.size w w') (a1 : Option Addr) (g c : Nat) h1 l1 => sameFilesO_any a1 ao g 0 c b o cap rs w' h1 hao hlen l1 (hl.below hb))
  have C4 := hide (fun w' (hb : Below w.heap.size w w') => rprintMan_any st v1 v2 t4 t5 ao b o cap rs w' hao (hl.below hb) hlen (hT.below hb hTl) (hP.below hb))
  have C5 := hide (fun w' (hb : Below w.heap.size w w') => manAnswers_any tx w' htx (hT4.below hb hT4.lt) (hT.below hb hTl))
  have C6 := hide (fun w' (hb : Below w.heap.size w w') => manAnswers_any (mfS ⟨st, v1, v2, rs, t4, t5⟩) w' (mfS_len2 _) (hT4.below hb hT4.lt) (hT.below hb hTl))
  have B0 := hide b0
  unfold mfCells at C2
  generalize mfS ⟨st, v1, v2, rs, t4, t5⟩ = S at *
  generalize mfE ⟨st, v1, v2, rs, t4, t5⟩ = E at *
  clear hl hT4 hT hP hTl b0
  go_enter Tryz.func3, Tryz.ntmps3
  obtain ⟨j0, j1, j2, j3, j4, j5⟩ := km.out _ (Below.refl _ _)
  go_wp2_with fail
  rw [← hW0]
  clear hW0
  refine Calls.mono C1.out ?_
  rintro x w1 ⟨v, rfl, o1, b1⟩
  have B1 := hide (B0.out.trans (b1.mono B0.out.size))
  have O1 := hide o1
  have R1 := hide b1
  clear j0 j1 j2 j3 j4 j5 o1 C1
  obtain ⟨j0, j1, j2, j3, j4, j5⟩ := km.out _ b1
  obtain ⟨a1, g1, c1, rfl, _, x1, x2⟩ := own_rows O1.out
  have X1 := hide x1
  have X2 := hide x2
  have D2 := hide (C2.out w1 B1.out)
  have h1 := Nat.lt_of_lt_of_le s0 b1.size
  clear b1 x1 x2 C2
  go_wp2_with fail
  refine Calls.mono D2.out ?_
  rintro x w2 ⟨rfl, b2⟩
  have B2 := hide (B1.out.trans (b2.mono B1.out.size))
  have R2 := hide (R1.out.trans (b2.mono R1.out.size))
  have D3 := hide (C3.out w2 B2.out a1 g1 c1 X1.out (X2.out.below b2))
  clear j0 j1 j2 j3 j4 j5 D2
  obtain ⟨j0, j1, j2, j3, j4, j5⟩ := km.out _ R2.out
  have h2 := Nat.lt_of_lt_of_le h1 b2.size
  clear b2
  go_wp2_with fail
  refine Calls.mono D3.out ?_
  rintro x w3 ⟨rfl, b3⟩
  have B3 := hide (B2.out.trans (b3.mono B2.out.size))
  have R3 := hide (R2.out.trans (b3.mono R2.out.size))
  have D4 := hide (C4.out w3 B3.out)
  clear j0 j1 j2 j3 j4 j5 D3
  obtain ⟨j0, j1, j2, j3, j4, j5⟩ := km.out _ R3.out
  have h3 := Nat.lt_of_lt_of_le h2 b3.size
  clear b3
  go_wp2_with fail
  refine Calls.mono D4.out ?_
  rintro x w4 ⟨rfl, b4⟩
  have B4 := hide (B3.out.trans (b4.mono B3.out.size))
  have D5 := hide (C5.out w4 B4.out)
  clear b4 D4 j0 j1 j2 j3 j4 j5
  go_wp2_with fail
  refine Calls.mono (pnum_any _ _) ?_
  rintro x w5 ⟨rfl, rfl⟩
  go_wp2_with fail
  refine Calls.mono D5.out ?_
  rintro x w6 ⟨rfl, b6⟩
  have B6 := hide (B4.out.trans (b6.mono B4.out.size))
  have D6 := hide (C6.out w6 B6.out)
  clear b6 D5
  go_wp2_with fail
  refine Calls.mono D6.out ?_
  rintro x w7 ⟨rfl, b7⟩
  have B7 := hide (B6.out.trans (b7.mono B6.out.size))
  clear b7 D6
  go_wp2_with fail
  go_ret
  exact ⟨rfl, B7.out⟩
end Go.Proofs.YtgdopepghmjopaaGreatDoor
namespace Go.Proofs.YtgdopepghmjopaaGreatDoor
open Go.ChangeShapes Go.WideShapes Go.ChangeAt Go.RowKit Go.Deep
theorem cellsFRow : Tryz.prog.cellsOf 36 = 4 := by kernel_rfl
theorem cellsMan : Tryz.prog.cellsOf 24 = 6 := by kernel_rfl
theorem cellsFRows : Tryz.prog.cellsOf 22 = 1 := by kernel_rfl
theorem cells9W : Tryz.prog.cellsOf 9 = 1 := by kernel_rfl
theorem cells3W : Tryz.prog.cellsOf 3 = 1 := by kernel_rfl
theorem bulkW_pos {H : Type} (d : DataW H) : 1 ≤ Rows.uptoBulk d := by
  cases d with
  | lit l => cases l <;> simp only [Rows.uptoBulk] <;> omega
  | _ => simp only [Rows.uptoBulk] <;> omega
theorem bulkW_len {H α : Type} (l : List α) (f : α → DataW H) : l.length ≤ Rows.uptoBulkAll (l.map f) := by
  induction l with
  | nil => simp
  | cons a r ih =>
    have := bulkW_pos (f a)
    simp only [List.map_cons, List.length_cons, Rows.uptoBulkAll]
    omega
theorem bulkW_each {H α : Type} (l : List α) (f : α → DataW H) (q : α → Nat) (h : ∀ a ∈ l, q a ≤ Rows.uptoBulk (f a)) : ∀ a ∈ l, q a ≤ Rows.uptoBulkAll (l.map f) := by
  induction l with
  | nil => intro a ha; cases ha
  | cons b r ih =>
    intro a ha
    have h2 := h b List.mem_cons_self
    simp only [List.map_cons, Rows.uptoBulkAll]
    rcases List.mem_cons.1 ha with rfl | ha
    · omega
    · have := ih (fun c hc => h c (List.mem_cons_of_mem _ hc)) a ha
      omega
theorem list4 {α : Type} {l : List α} (h : l.length = 4) : ∃ a0 a1 a2 a3, l = [a0, a1, a2, a3] := by
  match l, h with
  | [a0, a1, a2, a3], _ => exact ⟨a0, a1, a2, a3, rfl⟩
theorem list6 {α : Type} {l : List α} (h : l.length = 6) : ∃ a0 a1 a2 a3 a4 a5, l = [a0, a1, a2, a3, a4, a5] := by
  match l, h with
  | [a0, a1, a2, a3, a4, a5], _ => exact ⟨a0, a1, a2, a3, a4, a5, rfl⟩
theorem array6 {α : Type} {l : Array α} (h : l.size = 6) : ∃ a0 a1 a2 a3 a4 a5, l = #[a0, a1, a2, a3, a4, a5] := by
  obtain ⟨l⟩ := l
  obtain ⟨a0, a1, a2, a3, a4, a5, h⟩ := list6 (l := l) (by simpa using h)
  exact ⟨a0, a1, a2, a3, a4, a5, by rw [h]⟩
set_option maxRecDepth 100000 in
/-- rows of files that are handed in -/
theorem open_rowsF {H : Type} {enc : TypeId × Value → H} {w : World} {base fuel : Nat} {v : Value} {x : DataW H × List MemPlace} (h : DataW.trod enc Tryz.prog w base (fun _ => true) true fuel 22 [v] = some x) :
    ∃ (rs : List RV) (ao : Option Addr) (b o cap : Nat), v = .slice ao rs.length cap ∧ (0 < rs.length → ao = some ⟨b, o, none⟩) ∧ LiesR b o w rs ∧ rs.length ≤ Rows.uptoBulk x.1 ∧ (∀ r ∈ rs, r.1.size ≤ Rows.uptoBulk x.1) := by
  rcases open_slice Tryz.underlying22 h with ⟨hcs, hx⟩ | ⟨a, len, cap, m, n, D, Pl, hcs, _, hl, hm, hmm, hx, hcell⟩
  · simp only [List.cons.injEq, and_true] at hcs
    subst hcs
    exact ⟨[], none, 0, 0, 0, rfl, fun z => absurd z (by simp), fun i hi => absurd hi (by simp), by simp, (fun c hc => (by cases hc))⟩
  · simp only [List.cons.injEq, and_true] at hcs
    subst hcs
    simp only [if_true] at hmm
    have each : ∀ i, i < len → ∃ q : RV, w.cell? (a.add (i * 4)) = some (.string q.1) ∧ w.cell? ((a.add (i * 4)).add 1) = some (.int .i64 q.2.1) ∧ w.cell? ((a.add (i * 4)).add 2) = some (.int .i64 q.2.2.1) ∧ w.cell? ((a.add (i * 4)).add 3) = some (.string q.2.2.2) ∧ q.1.size ≤ Rows.uptoBulk (D i) := by
      intro i hi
      obtain ⟨cs', h1, h2⟩ := hcell i (by omega)
      rw [cellsFRow] at h1
      obtain ⟨_, hlen, hce⟩ := World.cells?_some h1
      obtain ⟨xs, k, hk, hxy, _, hxl, hf⟩ := DataW.trod_struct Tryz.underlying36 h2
      obtain ⟨y0, y1, y2, y3, rfl⟩ := list4 hxl
      obtain ⟨v0, v1, v2, v3, rfl⟩ := list4 hlen
      have g0 := hf 0 _ rfl
      have g1 := hf 1 _ rfl
      have g2 := hf 2 _ rfl
      have g3 := hf 3 _ rfl
      simp [cells9W, cells3W] at g0 g1 g2 g3
      obtain ⟨s0, e0, f0, _⟩ := DataW.trod_string Tryz.underlying9 g0
      obtain ⟨s1, e1, f1, _⟩ := DataW.trod_int Tryz.underlying3 g1
      obtain ⟨s2, e2, f2, _⟩ := DataW.trod_int Tryz.underlying3 g2
      obtain ⟨s3, e3, f3, _⟩ := DataW.trod_string Tryz.underlying9 g3
      simp only [List.cons.injEq, and_true] at e0 e1 e2 e3
      subst e0 e1 e2 e3 f0 f1 f2 f3
      have c0 := hce 0 (by omega)
      have c1 := hce 1 (by omega)
      have c2 := hce 2 (by omega)
      have c3 := hce 3 (by omega)
      simp only [Prod.mk.injEq] at hxy
      refine ⟨(s0, s1, s2, s3), by simpa [Addr.add] using c0, by simpa using c1, by simpa using c2, by simpa using c3, ?_⟩
      rw [hxy.1]
      simp only [List.map_cons, List.map_nil, Rows.uptoBulk, Rows.uptoBulkAll]
      rw [size_data]
      omega
    obtain ⟨q, hq⟩ := choose_lt each
    have hplen : ((List.range len).map q).length = len := by simp
    obtain ⟨b, off, spot⟩ := a
    have hspot : 0 < len → spot = none := fun h => by simpa [Addr.add] using World.cell?_spot (hq 0 (by omega)).1
    have hbk : Rows.uptoBulkAll ((List.range len).map D) + 1 ≤ Rows.uptoBulk x.1 := by
      rw [hx]
      simp only [Rows.uptoBulk]
      omega
    have be := bulkW_each (List.range len) D (fun i => (q i).1.size) (fun i hi => (hq i (List.mem_range.1 hi)).2.2.2.2)
    refine ⟨(List.range len).map q, some ⟨b, off, spot⟩, b, off, cap, by rw [hplen], fun z => ?_, fun i hi => ?_, ?_, fun c hc => ?_⟩
    · rw [hplen] at z
      rw [hspot z]
    · rw [hplen] at hi
      have hs := hspot (by omega)
      subst hs
      obtain ⟨c0, c1, c2, c3, _⟩ := hq i hi
      rw [add_plain] at c0 c1 c2 c3
      rw [add_plain] at c1 c2 c3
      rw [List.getElem_map, List.getElem_range]
      exact ⟨c0, c1, c2, c3⟩
    · rw [hplen]
      have := bulkW_len (List.range len) D
      rw [List.length_range] at this
      omega
    · obtain ⟨i, hi, rfl⟩ := List.mem_map.1 hc
      have := be i hi
      omega
set_option maxRecDepth 100000 in
set_option maxHeartbeats 1000000 in
/-- a manifest that is handed in -/
theorem open_man {H : Type} {enc : TypeId × Value → H} {w : World} {r : Reach} {b0 base : Nat} {v : Value} {d : DataW H} {p : List MemPlace} (hv : Value.okWide Tryz.prog w r b0 24 v) (h : DataW.Trod enc Tryz.prog w base (fun _ => true) true 24 v d p) :
    ∃ (st : ByteArray) (n1 n2 n4 n5 : Int) (rs : List RV) (ao : Option Addr) (b o cap : Nat), v = .agg #[.string st, .int .i64 n1, .int .i64 n2, .slice ao rs.length cap, .int .i64 n4, .int .i64 n5] ∧ (0 < rs.length → ao = some ⟨b, o, none⟩) ∧ LiesR b o w rs ∧ rs.length ≤ Rows.uptoBulk d ∧ (∀ r ∈ rs, r.1.size ≤ Rows.uptoBulk d) ∧ st.size ≤ Rows.uptoBulk d := by
  obtain ⟨cs, rfl, hsz⟩ := okWide_struct Tryz.underlying24 hv
  obtain ⟨c0, c1, c2, c3, c4, c5, rfl⟩ := array6 (hsz.trans cellsMan)
  obtain ⟨fuel, hf⟩ := h
  obtain ⟨xs, n, _, hx, _, hxl, hq⟩ := DataW.trod_struct Tryz.underlying24 hf
  obtain ⟨y0, y1, y2, y3, y4, y5, rfl⟩ := list6 hxl
  have g0 := hq 0 _ rfl
  have g1 := hq 1 _ rfl
  have g2 := hq 2 _ rfl
  have g3 := hq 3 _ rfl
  have g4 := hq 4 _ rfl
  have g5 := hq 5 _ rfl
  simp [Value.cells, cells9W, cells3W, cellsFRows] at g0 g1 g2 g3 g4 g5
  obtain ⟨st, f0, z0, w0⟩ := DataW.trod_string Tryz.underlying9 g0
  obtain ⟨n1, f1, z1, w1⟩ := DataW.trod_int Tryz.underlying3 g1
  obtain ⟨n2, f2, z2, w2⟩ := DataW.trod_int Tryz.underlying3 g2
  obtain ⟨rs, ao, b, o, cap, f3, k1, k2, k3, k4⟩ := open_rowsF g3
  obtain ⟨n4, f4, z4, w4⟩ := DataW.trod_int Tryz.underlying3 g4
  obtain ⟨n5, f5, z5, w5⟩ := DataW.trod_int Tryz.underlying3 g5
  simp only [List.cons.injEq, and_true] at f0 f1 f2 f4 f5
  subst f0 f1 f2 f3 f4 f5 z0
  simp only [Prod.mk.injEq] at hx
  rw [hx.1]
  simp only [List.map_cons, List.map_nil, Rows.uptoBulk, Rows.uptoBulkAll]
  have hz := size_data st
  refine ⟨st, n1, n2, n4, n5, rs, ao, b, o, cap, rfl, k1, k2, by omega, fun r hr => by have := k4 r hr; omega, by omega⟩
end Go.Proofs.YtgdopepghmjopaaGreatDoor
