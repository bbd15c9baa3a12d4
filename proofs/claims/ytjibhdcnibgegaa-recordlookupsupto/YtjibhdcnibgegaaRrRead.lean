import Derived.Test.YtjibhdcnibgegaaRrPlain
namespace Go.Proofs.Ytjibhdcnibgegaa
open Go.RowKit
def okB (d : ByteArray) (p : Nat) : Bool := decide (pairOk d p)
def pairV (d : ByteArray) (p : Nat) : Value := if pairOk d p then .agg #[.string (pairOf d p).1, .string (pairOf d p).2] else .agg #[.string ⟨#[]⟩, .string ⟨#[]⟩]
def pairN (d : ByteArray) (p : Nat) : Int := if pairOk d p then (pairEnd d p : Int) else 0
theorem pairV_ok {d : ByteArray} {p : Nat} (h : pairOk d p) : pairV d p = .agg #[.string (pairOf d p).1, .string (pairOf d p).2] ∧ pairN d p = (pairEnd d p : Int) ∧ okB d p = true := by
  unfold pairV pairN okB; rw [if_pos h, if_pos h]; exact ⟨rfl, rfl, decide_eq_true h⟩
theorem pairV_no {d : ByteArray} {p : Nat} (h : ¬ pairOk d p) : pairV d p = .agg #[.string ⟨#[]⟩, .string ⟨#[]⟩] ∧ pairN d p = 0 ∧ okB d p = false := by
  unfold pairV pairN okB; rw [if_neg h, if_neg h]; exact ⟨rfl, rfl, decide_eq_false h⟩
theorem results_c3 (tmps : Array Value) (w : World) (g : Nat) (cs : Array Value) (hg : w.heap[g]? = some (.cells cs 81 (0, 0))) (hp : tmps.getD 4 undef = .pointer (some ⟨g, 0, none⟩)) (hs : cs.size = 2) :
    (results Try.f55 tmps).run Try.prog w = .ok (.tuple #[.agg cs, tmps.getD 5 undef, tmps.getD 6 undef]) w := by
  have hp' : tmps[4]?.getD undef = .pointer (some ⟨g, 0, none⟩) := by simpa using hp
  have hi : (Try.prog.info? 81).map (·.size) = some cs.size := by rw [hs]; kernel_rfl
  have hl := run_loadVar_row (P := Try.prog) w g 81 81 cs (0, 0) _ hg Try.underlying81 rfl hi
  simp [results, Try.results55, hp', asAddr, hl]
set_option maxHeartbeats 2000000 in
set_option maxRecDepth 100000 in
set_option linter.unusedSimpArgs false in
/-- readPair -/
theorem readPair_any (d : ByteArray) (p : Nat) (hd : d.size ≤ 140737488351232) (hp : p ≤ d.size) (w : World) :
    Calls Try.prog 55 #[.string d, .int .i64 (p : Int)] w fun e w' => e = .returned (.tuple #[pairV d p, .int .i64 (pairN d p), .bool (okB d p)]) ∧ Below w.heap.size w w' := by
  by_cases h6 : p + 6 ≤ d.size
  · have C1 := take16_any (d.extract p (p + 2)) (by simp; omega) 
    have C2 := take32_any (d.extract (p + 2) (p + 6)) (by simp; omega)
    rw [slice_str, show p + 2 - p = 2 by omega] at C1
    rw [slice_str, show p + 6 - (p + 2) = 4 by omega] at C2
    have hk := kAt_lt d p
    have hv := vAt_lt d p
    have HC1 : Hid (∀ w', Calls Try.prog 54 #[.string (d.extract p (p + 2))] w' fun e w'' => e = .returned (.int .u16 (kAt d p : Int)) ∧ w' = w'') := C1
    have HC2 : Hid (∀ w', Calls Try.prog 33 #[.string (d.extract (p + 2) (p + 6))] w' fun e w'' => e = .returned (.int .u32 (vAt d p : Int)) ∧ w' = w'') := C2
    clear C1 C2
    have hEnd : pairEnd d p = p + 6 + kAt d p + vAt d p := rfl
    have hF1 : (pairOf d p).1 = d.extract (p + 6) (p + 6 + kAt d p) := rfl
    have hF2 : (pairOf d p).2 = d.extract (p + 6 + kAt d p) (p + 6 + kAt d p + vAt d p) := rfl
    by_cases he : pairEnd d p ≤ d.size
    · obtain ⟨e1, e2, e3⟩ := pairV_ok (d := d) (p := p) ⟨h6, he⟩
      rw [e1, e2, e3, hF1, hF2, hEnd]
      rw [hEnd] at he
      clear e1 e2 e3 hF1 hF2 hEnd
      generalize kAt d p = K at *
      generalize vAt d p = V at *
      go_enter Try.func55, Try.ntmps55
      go_wp2_with fail
      refine Calls.mono (HC1.out _) ?_
      rintro e wx ⟨rfl, rfl⟩
      go_wp2_with fail
      refine Calls.mono (HC2.out _) ?_
      rintro e wx ⟨rfl, rfl⟩
      go_wp2_with fail
      refine wp_region_held_drew (S := fun _ => True) (by kernel_rfl) trivial (fun hHeld => ?_)
      refine wpAnyH_take (i := 0) (v := (.string d)) rfl (by kernel_rfl) (by kernel_rfl) (by kernel_rfl) (fun _ _ _ h => h) (Or.inl ⟨by rfl, ?_⟩) (by assumption) ?_
      · intro w' hSw
        (try dsimp only at hSw)
        go_simp <;> first | exact i64_in (by omega) (by omega) | exact u32_in (by omega) (by omega) | exact u32_add _ _ | (rw [Int.tmod_eq_emod_of_nonneg (by omega)]; omega) | (rw [Int.tdiv_eq_ediv_of_nonneg (by omega)]; omega) | omega
      (try simp only [Act.put, List.setIfInBounds_toArray, List.set_cons_zero, List.set_cons_succ])
      refine wpAnyH_take (i := 1) (v := (.int .i64 ((p : Int) + 6))) rfl (by kernel_rfl) (by kernel_rfl) (by kernel_rfl) (fun _ _ _ h => h) (Or.inl ⟨by rfl, ?_⟩) (by assumption) ?_
      · intro w' hSw
        (try dsimp only at hSw)
        go_simp <;> first | exact i64_in (by omega) (by omega) | exact u32_in (by omega) (by omega) | exact u32_add _ _ | (rw [Int.tmod_eq_emod_of_nonneg (by omega)]; omega) | (rw [Int.tdiv_eq_ediv_of_nonneg (by omega)]; omega) | omega
      (try simp only [Act.put, List.setIfInBounds_toArray, List.set_cons_zero, List.set_cons_succ])
      refine wpAnyH_take (i := 2) (v := (.int .i64 ((p : Int) + 6 + (K : Int)))) rfl (by kernel_rfl) (by kernel_rfl) (by kernel_rfl) (fun _ _ _ h => h) (Or.inl ⟨by rfl, ?_⟩) (by assumption) ?_
      · intro w' hSw
        (try dsimp only at hSw)
        go_simp <;> first | exact i64_in (by omega) (by omega) | exact u32_in (by omega) (by omega) | exact u32_add _ _ | (rw [Int.tmod_eq_emod_of_nonneg (by omega)]; omega) | (rw [Int.tdiv_eq_ediv_of_nonneg (by omega)]; omega) | omega
      (try simp only [Act.put, List.setIfInBounds_toArray, List.set_cons_zero, List.set_cons_succ])
      refine wpAnyH_take (i := 3) (v := (.string (d.extract (p + 6) (p + 6 + K)))) rfl (by kernel_rfl) (by kernel_rfl) (by kernel_rfl) (fun _ _ _ h => h) (Or.inl ⟨by rfl, ?_⟩) (by assumption) ?_
      · intro w' hSw
        (try dsimp only at hSw)
        (go_simp; (repeat rw [if_pos (by first | omega | exact ⟨by omega, by omega⟩)]); (try rw [show ((p : Int) + 6).toNat = p + 6 by omega]); (try rw [show ((p : Int) + 6 + (K : Int)).toNat = p + 6 + K by omega]); (try rw [show ((p : Int) + 6 + (K : Int) + (V : Int)).toNat = p + 6 + K + V by omega]))
      (try simp only [Act.put, List.setIfInBounds_toArray, List.set_cons_zero, List.set_cons_succ])
      refine wpAnyH_take (i := 4) (v := (.string d)) rfl (by kernel_rfl) (by kernel_rfl) (by kernel_rfl) (fun _ _ _ h => h) (Or.inl ⟨by rfl, ?_⟩) (by assumption) ?_
      · intro w' hSw
        (try dsimp only at hSw)
        go_simp <;> first | exact i64_in (by omega) (by omega) | exact u32_in (by omega) (by omega) | exact u32_add _ _ | (rw [Int.tmod_eq_emod_of_nonneg (by omega)]; omega) | (rw [Int.tdiv_eq_ediv_of_nonneg (by omega)]; omega) | omega
      (try simp only [Act.put, List.setIfInBounds_toArray, List.set_cons_zero, List.set_cons_succ])
      refine wpAnyH_take (i := 5) (v := (.int .i64 ((p : Int) + 6 + (K : Int)))) rfl (by kernel_rfl) (by kernel_rfl) (by kernel_rfl) (fun _ _ _ h => h) (Or.inl ⟨by rfl, ?_⟩) (by assumption) ?_
      · intro w' hSw
        (try dsimp only at hSw)
        go_simp <;> first | exact i64_in (by omega) (by omega) | exact u32_in (by omega) (by omega) | exact u32_add _ _ | (rw [Int.tmod_eq_emod_of_nonneg (by omega)]; omega) | (rw [Int.tdiv_eq_ediv_of_nonneg (by omega)]; omega) | omega
      (try simp only [Act.put, List.setIfInBounds_toArray, List.set_cons_zero, List.set_cons_succ])
      refine wpAnyH_take (i := 6) (v := (.int .i64 ((p : Int) + 6 + (K : Int) + (V : Int)))) rfl (by kernel_rfl) (by kernel_rfl) (by kernel_rfl) (fun _ _ _ h => h) (Or.inl ⟨by rfl, ?_⟩) (by assumption) ?_
      · intro w' hSw
        (try dsimp only at hSw)
        go_simp <;> first | exact i64_in (by omega) (by omega) | exact u32_in (by omega) (by omega) | exact u32_add _ _ | (rw [Int.tmod_eq_emod_of_nonneg (by omega)]; omega) | (rw [Int.tdiv_eq_ediv_of_nonneg (by omega)]; omega) | omega
      (try simp only [Act.put, List.setIfInBounds_toArray, List.set_cons_zero, List.set_cons_succ])
      refine wpAnyH_take (i := 7) (v := (.string (d.extract (p + 6 + K) (p + 6 + K + V)))) rfl (by kernel_rfl) (by kernel_rfl) (by kernel_rfl) (fun _ _ _ h => h) (Or.inl ⟨by rfl, ?_⟩) (by assumption) ?_
      · intro w' hSw
        (try dsimp only at hSw)
        (go_simp; (repeat rw [if_pos (by first | omega | exact ⟨by omega, by omega⟩)]); (try rw [show ((p : Int) + 6).toNat = p + 6 by omega]); (try rw [show ((p : Int) + 6 + (K : Int)).toNat = p + 6 + K by omega]); (try rw [show ((p : Int) + 6 + (K : Int) + (V : Int)).toNat = p + 6 + K + V by omega]))
      (try simp only [Act.put, List.setIfInBounds_toArray, List.set_cons_zero, List.set_cons_succ])
      refine wpAnyH_take (i := 8) (v := (.agg #[.string (d.extract (p + 6) (p + 6 + K)), .string (d.extract (p + 6 + K) (p + 6 + K + V))])) rfl (by kernel_rfl) (by kernel_rfl) (by kernel_rfl) (fun _ _ _ h => h) (Or.inl ⟨by rfl, ?_⟩) (by assumption) ?_
      · intro w' hSw
        (try dsimp only at hSw)
        go_simp <;> first | exact i64_in (by omega) (by omega) | exact u32_in (by omega) (by omega) | exact u32_add _ _ | (rw [Int.tmod_eq_emod_of_nonneg (by omega)]; omega) | (rw [Int.tdiv_eq_ediv_of_nonneg (by omega)]; omega) | omega
      (try simp only [Act.put, List.setIfInBounds_toArray, List.set_cons_zero, List.set_cons_succ])
      refine wpAnyH_take (i := 9) (v := (.int .i64 ((p : Int) + 6 + (K : Int) + (V : Int)))) rfl (by kernel_rfl) (by kernel_rfl) (by kernel_rfl) (fun _ _ _ h => h) (Or.inl ⟨by rfl, ?_⟩) (by assumption) ?_
      · intro w' hSw
        (try dsimp only at hSw)
        go_simp <;> first | exact i64_in (by omega) (by omega) | exact u32_in (by omega) (by omega) | exact u32_add _ _ | (rw [Int.tmod_eq_emod_of_nonneg (by omega)]; omega) | (rw [Int.tdiv_eq_ediv_of_nonneg (by omega)]; omega) | omega
      (try simp only [Act.put, List.setIfInBounds_toArray, List.set_cons_zero, List.set_cons_succ])
      refine wpAnyH_ready (rs := [10]) (by kernel_rfl) (by simp) ?_
      refine AllReadyH.cons rfl (fun K hK => ?_) AllReadyH.nil
      go_simp
      refine hK.out _ _ trivial (fun hHeld => ?_)
      clear hK K
      (try simp only [Act.put, List.setIfInBounds_toArray, List.set_cons_zero, List.set_cons_succ])
      refine wpAnyH_ready (rs := [11]) (by kernel_rfl) (by simp) ?_
      refine AllReadyH.cons rfl (fun K hK => ?_) AllReadyH.nil
      go_simp
      refine hK.out _ _ trivial (fun hHeld => ?_)
      clear hK K
      (try simp only [Act.put, List.setIfInBounds_toArray, List.set_cons_zero, List.set_cons_succ])
      refine wpAnyH_ready (rs := [12]) (by kernel_rfl) (by simp) ?_
      refine AllReadyH.cons rfl (fun K hK => ?_) AllReadyH.nil
      go_simp
      refine hK.out _ _ trivial (fun hHeld => ?_)
      clear hK K
      (try simp only [Act.put, List.setIfInBounds_toArray, List.set_cons_zero, List.set_cons_succ])
      refine wpAnyH_done (by kernel_rfl) ?_ _
      go_wp2
      refine bodyPost_ret (results_c3 _ _ w.heap.size _ (heap_alloc_new w _) rfl rfl) rfl ⟨by go_num, ?_⟩
      exact ((Below.refl _ w).alloc (Nat.le_refl _) _).drew
    · obtain ⟨e1, e2, e3⟩ := pairV_no (d := d) (p := p) (fun h => he h.2)
      rw [e1, e2, e3]
      rw [hEnd] at he
      clear e1 e2 e3 hF1 hF2 hEnd
      generalize kAt d p = K at *
      generalize vAt d p = V at *
      have he2 : (d.size : Int) < (p : Int) + 6 + K + V := by omega
      go_enter Try.func55, Try.ntmps55
      go_wp2_with fail
      refine Calls.mono (HC1.out _) ?_
      rintro e wx ⟨rfl, rfl⟩
      go_wp2_with fail
      refine Calls.mono (HC2.out _) ?_
      rintro e wx ⟨rfl, rfl⟩
      go_wp2_with fail
      refine bodyPost_ret (results_c3 _ _ w.heap.size _ (heap_alloc_new w _) rfl rfl) rfl ⟨rfl, ?_⟩
      exact (Below.refl _ w).alloc (Nat.le_refl _) _
  · obtain ⟨e1, e2, e3⟩ := pairV_no (d := d) (p := p) (fun h => h6 h.1)
    rw [e1, e2, e3]
    clear e1 e2 e3
    have h7 : (d.size : Int) < (p : Int) + 6 := by omega
    go_enter Try.func55, Try.ntmps55
    go_wp2_with fail
    refine bodyPost_ret (results_c3 _ _ w.heap.size _ (heap_alloc_new w _) rfl rfl) rfl ⟨rfl, ?_⟩
    exact (Below.refl _ w).alloc (Nat.le_refl _) _
/-- what read gives -/
def spL (d : ByteArray) (p : Nat) : List KV := ((spellAt d p).getD ([], 0)).1
def spN (d : ByteArray) (p : Nat) : Nat := ((spellAt d p).getD ([], 0)).2
theorem spL_some {d : ByteArray} {p : Nat} {l : List KV} {q : Nat} (h : spellAt d p = some (l, q)) : spL d p = l ∧ spN d p = q := by unfold spL spN; rw [h]; exact ⟨rfl, rfl⟩
theorem spL_none {d : ByteArray} {p : Nat} (h : spellAt d p = none) : spL d p = [] ∧ spN d p = 0 := by unfold spL spN; rw [h]; exact ⟨rfl, rfl⟩
theorem pc_two (p : KV) : pc [p] = (#[.string p.1, .string p.2] : Array Value).toList := rfl
theorem cell_pair (w : World) (p : KV) : ∀ j u, (pc [p])[j]? = some u → (w.alloc (.cells #[.string p.1, .string p.2] 81)).cell? ((⟨w.heap.size, 0, none⟩ : Addr).add j) = some u := by
  rw [pc_two]
  exact (World.ownsRow_lit (base := 0) (e := 81) (size := 2) w _ 1 (by omega) (by unfold maxLen; omega) rfl).cells (g := w.heap.size) rfl
theorem cell_pair2 (w : World) (o : Obj) (p : KV) : ∀ j u, (pc [p])[j]? = some u → ((w.alloc o).alloc (.cells #[.string p.1, .string p.2] 81)).cell? ((⟨w.heap.size + 1, 0, none⟩ : Addr).add j) = some u := by
  have := cell_pair (w.alloc o) p
  rwa [show (w.alloc o).heap.size = w.heap.size + 1 by simp] at this
theorem pc_one_len (p : KV) : (pc [p]).length = 1 * 2 := rfl
theorem small_room {k : Nat} (h : k < 65536) : k + 1 ≤ maxLen ∧ (k + 1) * 32 ≤ 140737488355328 := by unfold maxLen; omega
set_option maxHeartbeats 2000000 in
set_option maxRecDepth 100000 in
/-- read -/
theorem read_any (d : ByteArray) (p : Nat) (hd : d.size ≤ 140737488351232) (hp : p ≤ d.size) (w : World) :
    Calls Try.prog 38 #[.string d, .int .i64 (p : Int)] w fun e w' => ∃ v, e = .returned (.tuple #[v, .int .i64 (spN d p : Int)]) ∧ w'.ownsRow w.heap.size 81 2 v (spL d p).length (pc (spL d p)) ∧ Below w.heap.size w w' := by
  obtain ⟨i0, hi, hz0, hz1, hz2⟩ := info_parts infoP
  by_cases h2 : p + 2 ≤ d.size
  · have C1 := take16_any (d.extract p (p + 2)) (by simp; omega)
    rw [slice_str, show p + 2 - p = 2 by omega] at C1
    have HC1 : Hid (∀ w', Calls Try.prog 54 #[.string (d.extract p (p + 2))] w' fun e w'' => e = .returned (.int .u16 (kAt d p : Int)) ∧ w' = w'') := C1
    clear C1
    have hk := kAt_lt d p
    have hsp : spellAt d p = pairsAt d (p + 2) (kAt d p) := by unfold spellAt; rw [if_pos h2]
    have HSP := hide hsp
    clear hsp
    have RP := hide (fun q (hq : q ≤ d.size) w' => readPair_any d q hd hq w')
    generalize hCN : kAt d p = CN at *
    have HCN := hide hCN
    clear hCN
    go_enter Try.func38, Try.ntmps38
    go_wp2_with fail
    refine Calls.mono (HC1.out _) ?_
    rintro e wx ⟨rfl, rfl⟩
    go_wp2_with fail
    go_loopw [1, 7, 26] (fun at' v i wr => ∃ (k : Nat) (l : List KV) (q : Nat), k ≤ CN ∧ i = .int .i64 (k : Int) ∧ at' = .int .i64 (q : Int) ∧ pairsAt d (p + 2) k = some (l, q) ∧ wr.ownsRow w.heap.size 81 2 v l.length (pc l) ∧ Below w.heap.size w wr)
      (fun _ _ i _ => CN - (intOf i).toNat)
    case atStart => exact ⟨0, [], p + 2, by omega, rfl, by go_num, rfl, World.ownsRow_nil _ _ _ _, Below.refl _ _⟩
    case round =>
      obtain ⟨k, l, q, hk2, rfl, rfl, hpa, hown, hnx⟩ := hrel
      have hsz := hnx.size
      obtain ⟨hq1, hq2, hq3, _⟩ := pairs_body h2 k l q hpa
      have HPA := hide hpa
      have HNX := hide hnx
      have HOWN := hide hown
      clear hpa hnx
      by_cases hlt : k < CN
      · have hki : (k : Int) < (CN : Int) := by omega
        have RQ := hide (RP.out q hq2)
        by_cases hok : pairOk d q
        · obtain ⟨e1, e2, e3⟩ := pairV_ok hok
          rw [e1, e2, e3] at RQ
          have HST := hide (pairs_step HPA.out hok)
          have hend := hok.2
          clear e1 e2 e3 hok
          have hx : (pairOf d q).1 = (pairOf d q).1 := rfl
          generalize hPO : pairOf d q = PO at *
          generalize pairEnd d q = PE at *
          clear hx hPO
          obtain ⟨hm1, hm2⟩ := small_room (k := l.length) (by omega)
          clear hown
          go_wp2_with fail
          refine Calls.mono (RQ.out _) ?_
          rintro e w1 ⟨rfl, hb1⟩
          have B1 := HNX.out.trans (hb1.mono hsz)
          have s1 := B1.size
          have O1 := hide (own_below HOWN.out hb1)
          have HB1 := hide B1
          clear hb1 B1
          go_wp2_with (at_builtin; refine wpList_append_own _ rfl _ _ 40 rfl w.heap.size 81 i0 (.agg #[.string ⟨#[]⟩, .string ⟨#[]⟩]) 2 32 Try.underlying40 hi hz0 hz1 hz2 rfl (by decide) _ _ _ rfl ((O1.out.alloc _).alloc _) ⟨w1.heap.size + 1, 0, none⟩ 1 1 (pc [PO]) rfl (pc_one_len PO) (cell_pair2 w1 _ PO) (pc_one _) hm1 hm2 (le_alloc (le_alloc s1)) ?_; intro v2 w2 o2 g2 n2; clear n2)
          go_roundw
          case rel =>
            refine ⟨k + 1, l ++ [PO], PE, by omega, by go_num, rfl, HST.out, ?_, ?_⟩
            · rw [pc_append, List.length_append]
              exact o2
            · exact ((HB1.out.alloc s1 _).alloc (le_alloc s1) _).grown g2 (le_alloc (le_alloc s1)) (fun j hj => (O1.out.lt j hj).1)
          case measure => simp [intOf]; omega
        · obtain ⟨e1, e2, e3⟩ := pairV_no hok
          rw [e1, e2, e3] at RQ
          have hns : spellAt d p = none := by
            rw [HSP.out, show CN = k + 1 + (CN - (k + 1)) by omega]
            exact pairs_none (pairs_stop HPA.out hok) _
          have HS1 := hide (spL_none hns)
          clear hns e1 e2 e3 hok hown
          go_wp2_with fail
          refine Calls.mono (RQ.out _) ?_
          rintro e w1 ⟨rfl, hb1⟩
          have B1 := hide ((HNX.out.trans (hb1.mono hsz)).alloc (Nat.le_trans hsz hb1.size) (.cells #[.string ⟨#[]⟩, .string ⟨#[]⟩] 81))
          go_wp2_with fail
          go_ret2
          exact ⟨_, by rw [HS1.out.2]; rfl, by rw [HS1.out.1]; exact World.ownsRow_nil _ _ _ _, B1.out⟩
      · obtain rfl : k = CN := by omega
        have HS1 := hide (spL_some (HSP.out.trans HPA.out))
        clear hown
        go_wp2_with fail
        go_ret2
        exact ⟨_, by rw [HS1.out.2]; rfl, by rw [HS1.out.1]; exact HOWN.out, HNX.out⟩
  · have hs : spellAt d p = none := by unfold spellAt; rw [if_neg h2]
    rw [(spL_none hs).1, (spL_none hs).2]
    have h3 : (d.size : Int) - (p : Int) < 2 := by omega
    clear hs
    go_enter Try.func38, Try.ntmps38
    go_wp2_with fail
    go_ret2
    exact ⟨_, rfl, World.ownsRow_nil _ _ _ _, Below.refl _ _⟩
end Go.Proofs.Ytjibhdcnibgegaa
