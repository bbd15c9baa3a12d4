import Derived.Test.YtfmmfophdfjopaaGRrRec
namespace Go.Proofs.Ytfmmfophdfjopaa
open Go.RowKit
theorem row_someE {w : World} {base : Nat} {v : Value} {n e sz : Nat} {xs : List Value} (h : w.ownsRow base e sz v (n + 1) xs) : ∃ g cap, v = .slice (some ⟨g, 0, none⟩) (n + 1) cap := by
  rcases h.2 with ⟨_, h0⟩ | ⟨g, cap, cur, rfl, hg, _⟩
  · omega
  · exact ⟨g, cap, rfl⟩
set_option maxHeartbeats 2000000 in
set_option maxRecDepth 100000 in
/-- readIndex -/
theorem readIndex_any (m : Int) (x : ByteArray) (hx : x.size ≤ 1099511627776) (w : World) :
    Calls Try.prog 24 #[.int .i64 m, .string x] w fun e w' => ∃ v, e = .returned (.tuple #[v, .int .i64 (riE m x)]) ∧ w'.ownsRow w.heap.size 67 2 v (riL m x).length (ec (riL m x)) ∧ Below w.heap.size w w' := by
  have C := countEntries_any m x (by omega) w
  by_cases hm : 1 ≤ m ∧ m ≤ 16
  · by_cases hq : x.size % (m.toNat + 4) = 0
    · rw [if_pos ⟨hm, hq⟩, if_pos hm, if_pos hq] at C
      obtain ⟨i0, hi, hz0, hz1, hz2⟩ := info_parts infoE
      obtain ⟨k, rfl⟩ : ∃ k : Nat, m = (k : Int) := ⟨m.toNat, by omega⟩
      rw [Int.toNat_natCast] at C hq
      have hdv : x.size / (k + 4) ≤ x.size := Nat.div_le_self _ _
      have EA := hide (fun i (hi : i < x.size / (k + 4)) w' => entryAt_any k i x (by omega) (by omega) (by omega) hi w')
      have HC := hide C
      have HQ := hide hq
      clear C hq
      obtain ⟨N, hN⟩ : ∃ N, N = x.size / (k + 4) := ⟨_, rfl⟩
      rw [← hN] at HC EA hdv
      have HN := hide hN
      clear hN
      go_enter Try.func24, Try.ntmps24
      go_wp2_with fail
      refine Calls.mono HC.out ?_
      rintro e w' ⟨rfl, rfl⟩
      go_wp2_with fail
      go_loopw [8, 20] (fun v i wr => ∃ j : Nat, j ≤ N ∧ i = .int .i64 (j : Int) ∧ (∀ t, t < j → upB k x t = true) ∧ wr.ownsRow w.heap.size 67 2 v j (ec (ents k x j)) ∧ Below w.heap.size w wr)
        (fun _ i _ => N - (intOf i).toNat)
      case atStart => exact ⟨0, by omega, rfl, fun t ht => by omega, World.ownsRow_nil _ _ _ _, Below.refl _ _⟩
      case round =>
        obtain ⟨j, hj, rfl, hup, hown, hnx⟩ := hrel
        have hsz := hnx.size
        have HUP := hide hup
        have HOWN := hide hown
        have HNX := hide hnx
        clear hup hown hnx
        by_cases hlt : j < N
        · have hji : (j : Int) < (N : Int) := by omega
          have E1 := hide (EA.out j hlt)
          have HES := hide (ents_succ k x j)
          have RI := hide (fun g cap w' (hb : g < w'.heap.size) (hl : LiesE g 0 w' (ents k x (j + 1))) => riseE_any (some ⟨g, 0, none⟩) g 0 cap (ents k x (j + 1)) j w' (by rw [ents_len]; omega) (by rw [ents_len]; omega) rfl hb hl)
          obtain ⟨Z, hZ⟩ : ∃ Z : Int, Z = if j = 0 then 1 else if rdeH k x j = rdeH k x (j - 1) then 0 else if lessS (rdeH k x j) (rdeH k x (j - 1)) then -1 else 1 := ⟨_, rfl⟩
          have RZ : Hid (∀ g cap w', g < w'.heap.size → LiesE g 0 w' (ents k x (j + 1)) → Calls Try.prog 36 #[.slice (some ⟨g, 0, none⟩) (j + 1) cap, .int .i64 (j : Int), .func (.func 37) #[] #[]] w' fun e w'' => e = .returned (.int .i64 Z) ∧ Below w'.heap.size w' w'') := fun g cap w' hb hl => by
            have := RI.out g cap w' hb hl
            rw [ents_at k x (j + 1) j (by omega)] at this
            rw [hZ]
            by_cases h0 : j = 0
            · rw [if_pos h0, ents_len] at this
              rw [if_pos h0]
              exact this
            · rw [List.getD_eq_getElem?_getD, List.getElem?_eq_getElem (by rw [ents_len]; omega), Option.getD_some, ents_at k x (j + 1) (j - 1) (by omega), ents_len] at this
              exact this
          have UZ := hide (rise_up k x j hZ)
          have HZ := hide hZ
          clear hZ RI
          generalize rdeH k x j = XH at *
          generalize rdeO k x j = XO at *
          obtain ⟨hm1, hm2⟩ : j + 1 ≤ maxLen ∧ (j + 1) * 24 ≤ 140737488355328 := by unfold maxLen; omega
          go_wp2_with fail
          refine Calls.mono (E1.out _) ?_
          rintro e w1 ⟨rfl, hb1⟩
          have B1 := HNX.out.trans (hb1.mono hsz)
          have s1 := B1.size
          have O1 := hide (own_below HOWN.out hb1)
          have HB1 := hide B1
          have CE := hide (cell_ent w1 XH XO)
          clear hb1 B1
          go_wp2_with (at_builtin; refine wpList_append_own _ rfl _ _ 63 rfl w.heap.size 67 i0 (.agg #[.string ⟨#[]⟩, .int .i64 0]) 2 24 Try.underlying63 hi hz0 hz1 hz2 rfl (by decide) _ _ _ rfl (O1.out.alloc _) ⟨w1.heap.size, 0, none⟩ 1 1 (ec [(XH, XO)]) rfl (ec_one_len XH XO) CE.out (ec_one _) hm1 hm2 (le_alloc s1) ?_; intro v2 w2 o2 g2 n2; clear n2; obtain ⟨g', c', rfl⟩ := row_someE o2; have o3 := o2; rw [← ec_append, ← HES.out] at o3; have O3 := hide o3; have B2 := hide ((HB1.out.alloc s1 _).grown g2 (le_alloc s1) (fun t ht => (O1.out.lt t ht).1)); have L3 := hide (row_liesE o3 (by rw [ents_len]; exact Nat.le_refl _)); have lt3 := row_lt o3; clear o2 o3 g2)
          refine Calls.mono (RZ.out g' c' w2 lt3 L3.out) ?_
          rintro e w3 ⟨rfl, hb3⟩
          have B3 := hide (B2.out.trans (hb3.mono B2.out.size))
          have O4 := hide (own_below O3.out hb3)
          clear hb3
          cases hu : upB k x j with
          | true =>
            have hz3 := UZ.out.1 hu
            have HU := hide hu
            clear hu
            go_wp2_with fail
            go_roundw
            case rel =>
              refine ⟨j + 1, by omega, by go_num, fun t ht => ?_, O4.out, B3.out⟩
              rcases Nat.lt_or_ge t j with h | h
              · exact HUP.out t h
              · obtain rfl : t = j := by omega
                exact HU.out
            case measure => simp [intOf]; omega
          | false =>
            have hz3 := UZ.out.2 hu
            have hno : allUp k x = false := allUp_no (by rw [← HN.out]; exact hlt) hu
            have HR := hide (ri_no (m := (k : Int)) (x := x) hm (fun h => by rw [Int.toNat_natCast, hno] at h; exact Bool.noConfusion h.2))
            clear hu hno
            go_wp2_with fail
            go_ret2
            exact ⟨_, by rw [HR.out.1]; rfl, by rw [HR.out.2]; exact World.ownsRow_nil _ _ _ _, B3.out⟩
        · obtain rfl : j = N := by omega
          have HR := hide (ri_yes (m := (k : Int)) (x := x) hm ⟨by rw [Int.toNat_natCast]; exact HQ.out, by rw [Int.toNat_natCast]; exact allUp_yes (fun i hi => HUP.out i (by rw [HN.out]; exact hi))⟩)
          rw [Int.toNat_natCast, ← HN.out] at HR
          go_wp2_with fail
          go_ret2
          exact ⟨_, by rw [HR.out.1]; rfl, by rw [HR.out.2, ents_len]; exact HOWN.out, HNX.out⟩
    · obtain ⟨e1, e2⟩ := ri_no (x := x) hm (fun h => hq h.1)
      rw [e1, e2]
      rw [if_neg (fun h => hq h.2), if_pos hm, if_neg hq] at C
      have HC := hide C
      clear C e1 e2 hq
      go_enter Try.func24, Try.ntmps24
      go_wp2_with fail
      refine Calls.mono HC.out ?_
      rintro e w' ⟨rfl, rfl⟩
      go_wp2_with fail
      go_ret2
      exact ⟨_, rfl, World.ownsRow_nil _ _ _ _, Below.refl _ _⟩
  · obtain ⟨e1, e2⟩ := ri_width (x := x) hm
    rw [e1, e2]
    rw [if_neg (fun h => hm h.1), if_neg hm] at C
    have HC := hide C
    clear C e1 e2
    go_enter Try.func24, Try.ntmps24
    go_wp2_with fail
    refine Calls.mono HC.out ?_
    rintro e w' ⟨rfl, rfl⟩
    go_wp2_with fail
    go_ret2
    exact ⟨_, rfl, World.ownsRow_nil _ _ _ _, Below.refl _ _⟩
end Go.Proofs.Ytfmmfophdfjopaa
namespace Go.Proofs.Ytfmmfophdfjopaa
open Go.RowKit
abbrev GR := ByteArray × List KV
/-- the groups that a chunk's first n entries say -/
def decAt (m : Nat) (x d : ByteArray) : Nat → Option (List GR × Nat)
  | 0 => some ([], 0)
  | n + 1 => match decAt m x d n with
    | none => none
    | some (l, q) => if errL (spL d q) = 0 ∧ rdeO m x n = q then some (l ++ [(rdeH m x n, spL d q)], spN d q) else none
theorem dec_step {m : Nat} {x d : ByteArray} {n : Nat} {l : List GR} {q : Nat} (h : decAt m x d n = some (l, q)) (h1 : errL (spL d q) = 0) (h2 : rdeO m x n = q) : decAt m x d (n + 1) = some (l ++ [(rdeH m x n, spL d q)], spN d q) := by
  rw [decAt, h]; simp only; rw [if_pos ⟨h1, h2⟩]
theorem dec_stop {m : Nat} {x d : ByteArray} {n : Nat} {l : List GR} {q : Nat} (h : decAt m x d n = some (l, q)) (h1 : ¬ (errL (spL d q) = 0 ∧ rdeO m x n = q)) : decAt m x d (n + 1) = none := by
  rw [decAt, h]; simp only; rw [if_neg h1]
theorem dec_none {m : Nat} {x d : ByteArray} {n : Nat} (h : decAt m x d n = none) (t : Nat) : decAt m x d (n + t) = none := by
  induction t with
  | zero => exact h
  | succ t ih => rw [show n + (t + 1) = n + t + 1 by omega, decAt, ih]
theorem sp_le {d : ByteArray} {q : Nat} (h : errL (spL d q) = 0) : q + 2 ≤ spN d q ∧ spN d q ≤ d.size := by
  cases hs : spellAt d q with
  | none =>
    rw [(spL_none hs).1] at h
    have : errL [] = 36 := rfl
    omega
  | some y =>
    obtain ⟨l, r⟩ := y
    rw [(spL_some hs).2]
    exact ⟨(spell_rec hs).1, (spell_rec hs).2.1⟩
theorem dec_le {m : Nat} {x d : ByteArray} : ∀ n l q, decAt m x d n = some (l, q) → q ≤ d.size ∧ l.length = n := by
  intro n
  induction n with
  | zero => intro l q h; simp [decAt] at h; obtain ⟨rfl, rfl⟩ := h; simp
  | succ n ih =>
    intro l q h
    rw [decAt] at h
    split at h
    · cases h
    · rename_i l' q' h'
      by_cases hc : errL (spL d q') = 0 ∧ rdeO m x n = q'
      · rw [if_pos hc] at h
        simp only [Option.some.injEq, Prod.mk.injEq] at h
        obtain ⟨rfl, rfl⟩ := h
        exact ⟨(sp_le hc.1).2, by simp [(ih _ _ h').2]⟩
      · rw [if_neg hc] at h; cases h
/-- what both Decodes answer -/
def dcOk (m : Int) (x d : ByteArray) : Option (List GR) := match decAt m.toNat x d (x.size / (m.toNat + 4)) with
  | some (l, q) => if q = d.size ∧ d.size ≤ 65536 then some l else none
  | none => none
def dcE (m : Int) (x d : ByteArray) : Int := if riE m x = 0 then if (dcOk m x d).isSome then 0 else 39 else riE m x
def dcG (m : Int) (x d : ByteArray) : List GR := if riE m x = 0 then (dcOk m x d).getD [] else []
theorem dc_index {m : Int} {x d : ByteArray} (h : riE m x ≠ 0) : dcE m x d = riE m x ∧ dcG m x d = [] := by
  unfold dcE dcG; rw [if_neg h, if_neg h]; exact ⟨rfl, rfl⟩
theorem dc_no {m : Int} {x d : ByteArray} (h : riE m x = 0) (hn : dcOk m x d = none) : dcE m x d = 39 ∧ dcG m x d = [] := by
  unfold dcE dcG; rw [if_pos h, if_pos h, hn]; exact ⟨rfl, rfl⟩
theorem dc_yes {m : Int} {x d : ByteArray} {l : List GR} (h : riE m x = 0) (hn : dcOk m x d = some l) : dcE m x d = 0 ∧ dcG m x d = l := by
  unfold dcE dcG; rw [if_pos h, if_pos h, hn]; exact ⟨rfl, rfl⟩
theorem ok_big {m : Int} {x d : ByteArray} (h : 65536 < d.size) : dcOk m x d = none := by
  unfold dcOk
  split
  · rw [if_neg (fun k => by omega)]
  · rfl
theorem ok_none {m : Int} {x d : ByteArray} (h : decAt m.toNat x d (x.size / (m.toNat + 4)) = none) : dcOk m x d = none := by
  unfold dcOk; rw [h]
theorem ok_end {m : Int} {x d : ByteArray} {l : List GR} {q : Nat} (h : decAt m.toNat x d (x.size / (m.toNat + 4)) = some (l, q)) (hq : q ≠ d.size) : dcOk m x d = none := by
  unfold dcOk; rw [h]; simp only; rw [if_neg (fun k => hq k.1)]
theorem ok_yes {m : Int} {x d : ByteArray} {l : List GR} (h : decAt m.toNat x d (x.size / (m.toNat + 4)) = some (l, d.size)) (hd : d.size ≤ 65536) : dcOk m x d = some l := by
  unfold dcOk; rw [h]; show (if d.size = d.size ∧ d.size ≤ 65536 then some l else none) = some l; rw [if_pos ⟨rfl, hd⟩]
/-- groups in memory -/
def gcell (ts : List (GR × Value)) : List Value := ts.flatMap fun t => [.string t.1.1, t.2]
theorem gcell_append (a b : List (GR × Value)) : gcell (a ++ b) = gcell a ++ gcell b := by simp [gcell]
def GroupsAt (w : World) (base : Nat) (v : Value) (gs : List GR) : Prop := ∃ ts : List (GR × Value), ts.map Prod.fst = gs ∧ w.ownsRow base 41 2 v ts.length (gcell ts) ∧ ∀ t ∈ ts, w.ownsRow base 55 2 t.2 t.1.2.length (pc t.1.2)
theorem GroupsAt.nil (w : World) (base : Nat) : GroupsAt w base (.slice none 0 0) [] := ⟨[], rfl, World.ownsRow_nil _ _ _ _, fun t ht => by cases ht⟩
theorem GroupsAt.below {w w' : World} {base : Nat} {v : Value} {gs : List GR} (h : GroupsAt w base v gs) (hb : Below w.heap.size w w') : GroupsAt w' base v gs := by
  obtain ⟨ts, h1, h2, h3⟩ := h
  exact ⟨ts, h1, own_below h2 hb, fun t ht => own_below (h3 t ht) hb⟩
theorem own_type {w : World} {b1 b2 e1 e2 s1 s2 n1 n2 : Nat} {v1 v2 : Value} {x1 x2 : List Value} (h1 : w.ownsRow b1 e1 s1 v1 n1 x1) (h2 : w.ownsRow b2 e2 s2 v2 n2 x2) (hne : e1 ≠ e2) : v1.ownBlock = none ∨ v1.ownBlock ≠ v2.ownBlock := by
  rcases h1.2 with ⟨rfl, _⟩ | ⟨g1, c1, u1, rfl, _, k1, _⟩
  · exact .inl rfl
  · right
    rcases h2.2 with ⟨rfl, _⟩ | ⟨g2, c2, u2, rfl, _, k2, _⟩
    · intro h; cases h
    · intro h
      simp only [Value.ownBlock, Option.some.injEq] at h
      subst h
      rw [k1] at k2
      simp only [Option.some.injEq, Obj.cells.injEq] at k2
      exact hne k2.2.1
theorem row_type {w : World} {b1 b2 e1 e2 s1 s2 n1 n2 : Nat} {v1 v2 : Value} {x1 x2 : List Value} {w' : World} (h1 : w.ownsRow b1 e1 s1 v1 n1 x1) (h2 : w.ownsRow b2 e2 s2 v2 n2 x2) (hne : e1 ≠ e2) (hg : w.grownBy w' v2.ownBlock) : w'.ownsRow b1 e1 s1 v1 n1 x1 := h1.kept hg (own_type h1 h2 hne)
theorem own_base {w : World} {b1 b2 e s n : Nat} {v : Value} {x : List Value} (h : w.ownsRow b1 e s v n x) (hb : b2 ≤ b1) : w.ownsRow b2 e s v n x := by
  refine ⟨h.1, ?_⟩
  rcases h.2 with h0 | ⟨g, c, u, h1, h2, h3⟩
  · exact .inl h0
  · exact .inr ⟨g, c, u, h1, Nat.le_trans hb h2, h3⟩
theorem GroupsAt.base {w : World} {b1 b2 : Nat} {v : Value} {gs : List GR} (h : GroupsAt w b1 v gs) (hb : b2 ≤ b1) : GroupsAt w b2 v gs := by
  obtain ⟨ts, h1, h2, h3⟩ := h
  exact ⟨ts, h1, own_base h2 hb, fun t ht => own_base (h3 t ht) hb⟩
theorem ri_inv {m : Int} {x : ByteArray} (h : riE m x = 0) : (1 ≤ m ∧ m ≤ 16) ∧ x.size % (m.toNat + 4) = 0 ∧ allUp m.toNat x = true ∧ riL m x = ents m.toNat x (x.size / (m.toNat + 4)) := by
  by_cases hm : 1 ≤ m ∧ m ≤ 16
  · by_cases hx : x.size % (m.toNat + 4) = 0 ∧ allUp m.toNat x = true
    · exact ⟨hm, hx.1, hx.2, (ri_yes hm hx).2⟩
    · rw [(ri_no hm hx).1] at h; omega
  · rw [(ri_width hm).1] at h; omega
theorem own_ents {w : World} {base : Nat} {v : Value} {n : Nat} {ps : List EN} (hn : ps.length = n) (h : w.ownsRow base 67 2 v n (ec ps)) : ∃ ao g cap, v = .slice ao n cap ∧ (0 < n → ao = some ⟨g, 0, none⟩) ∧ (0 < n → g < w.heap.size) ∧ LiesE g 0 w ps := by
  rcases h.2 with ⟨rfl, h0⟩ | ⟨g, cap, cur, rfl, hg, hblk, _⟩
  · rw [h0]
    exact ⟨none, 0, 0, rfl, fun k => by omega, fun k => by omega, fun i hi => by omega⟩
  · exact ⟨some ⟨g, 0, none⟩, g, cap, rfl, fun _ => rfl, fun _ => row_lt h, row_liesE h (by omega)⟩
theorem LiesE.below {b off : Nat} {w w' : World} {ps : List EN} (h : LiesE b off w ps) (hb : b < w.heap.size) (hw : Below w.heap.size w w') : LiesE b off w' ps := fun i hi => by
  rw [hw.cell (by exact hb), hw.cell (by exact hb)]; exact h i hi
theorem infoG : (Try.prog.info? 41).map (fun i => (i.zero, i.size, i.bytes)) = some (some (.agg #[.string ⟨#[]⟩, .slice none 0 0]), 2, 40) := by kernel_rfl
theorem g_two (X : ByteArray) (L : List KV) (v : Value) : gcell [((X, L), v)] = (#[.string X, v] : Array Value).toList := rfl
theorem cell_grp (w : World) (X : ByteArray) (L : List KV) (v : Value) : ∀ j u, (gcell [((X, L), v)])[j]? = some u → (w.alloc (.cells #[.string X, v] 41)).cell? ((⟨w.heap.size, 0, none⟩ : Addr).add j) = some u := by
  rw [g_two]
  exact (World.ownsRow_lit (base := 0) (e := 41) (size := 2) w _ 1 (by omega) (by unfold maxLen; omega) rfl).cells (g := w.heap.size) rfl
theorem g_one_len (X : ByteArray) (L : List KV) (v : Value) : (gcell [((X, L), v)]).length = 1 * 2 := rfl
theorem g_one (X : ByteArray) (L : List KV) (v : Value) (hv : v.oneCell' = true) : ∀ u ∈ gcell [((X, L), v)], u.oneCell' = true := by
  intro u hu
  simp [gcell] at hu
  rcases hu with rfl | rfl
  · rfl
  · exact hv
end Go.Proofs.Ytfmmfophdfjopaa
namespace Go.Proofs.Ytfmmfophdfjopaa
open Go.RowKit
set_option maxHeartbeats 2000000 in
set_option maxRecDepth 100000 in
/-- Decode -/
theorem decode_any (m : Int) (x d : ByteArray) (hx : x.size ≤ 1099511627776) (hd : d.size ≤ 1099511627776) (w : World) :
    Calls Try.prog 9 #[.int .i64 m, .agg #[.string x, .string d]] w fun e w' => ∃ v, e = .returned (.tuple #[v, .int .i64 (dcE m x d)]) ∧ GroupsAt w' w.heap.size v (dcG m x d) ∧ Below w.heap.size w w' := by
  obtain ⟨W0, hW0⟩ : ∃ W0, W0 = w.alloc (.cells #[.string x, .string d] 27) := ⟨_, rfl⟩
  have s0 : W0.heap.size = w.heap.size + 1 := by rw [hW0]; simp
  have b0 : Below w.heap.size w W0 := by rw [hW0]; exact (Below.refl _ w).alloc (Nat.le_refl _) _
  have k0 : W0.cell? ⟨w.heap.size, 0, none⟩ = some (.string x) := by rw [hW0]; simp
  have k1 : W0.cell? ⟨w.heap.size, 1, none⟩ = some (.string d) := by rw [hW0]; simp
  have CC : Hid (∀ w', Below W0.heap.size W0 w' → w'.cell? ⟨w.heap.size, 0, none⟩ = some (.string x) ∧ w'.cell? ⟨w.heap.size, 1, none⟩ = some (.string d)) := fun w' hw => by
    rw [hw.cell (by rw [s0]; exact Nat.lt_succ_self _), hw.cell (by rw [s0]; exact Nat.lt_succ_self _)]; exact ⟨k0, k1⟩
  have HB0 := hide b0
  have RI := hide (readIndex_any m x hx W0)
  clear b0
  go_enter Try.func9, Try.ntmps9
  go_wp2_with fail
  rw [← hW0]
  refine Calls.mono RI.out ?_
  rintro e w1 ⟨v1, rfl, o1, hb1⟩
  obtain ⟨c10, c11⟩ := CC.out w1 hb1
  have O1 := hide o1
  have HB1 := hide hb1
  have s1 := hb1.size
  clear o1 hb1 k0 k1
  by_cases hri : riE m x = 0
  · by_cases hbig : 65536 < d.size
    · obtain ⟨e1, e2⟩ := dc_no hri (ok_big hbig)
      have HE1 := hide e1
      have HE2 := hide e2
      have hbi : (65536 : Int) < (d.size : Int) := by omega
      clear e1 e2
      rw [hri]
      go_wp2_with fail
      go_ret2
      exact ⟨_, by rw [HE1.out]; rfl, by rw [HE2.out]; exact GroupsAt.nil _ _, HB0.out.trans (HB1.out.mono (by omega))⟩
    · have hbi : (d.size : Int) ≤ 65536 := by omega
      rw [hri]
      obtain ⟨hm, hdm, hau, hrl⟩ := ri_inv hri
      obtain ⟨k, rfl⟩ : ∃ k : Nat, m = (k : Int) := ⟨m.toNat, by omega⟩
      rw [Int.toNat_natCast] at hdm hau hrl
      have hdv : x.size / (k + 4) ≤ x.size := Nat.div_le_self _ _
      obtain ⟨N, hN⟩ : ∃ N, N = x.size / (k + 4) := ⟨_, rfl⟩
      rw [← hN] at hrl hdv
      have o1 := O1.out
      rw [hrl, ents_len] at o1
      obtain ⟨ao, g1, cap1, rfl, h11, h12, h13⟩ := own_ents (ents_len k x N) o1
      have HRI := hide hri
      have HN := hide hN
      have HL1 := hide h13
      clear o1 h13 hrl hau hdm hri hN O1
      obtain ⟨i0, hi, hz0, hz1, hz2⟩ := info_parts infoG
      have hd2 : d.size ≤ 65536 := by omega
      have RR := hide (fun q w' => readRecord_any d q (by omega) w')
      go_wp2_with fail
      go_loopw [8, 9, 31] (fun v at' i wr => ∃ (j : Nat) (l : List GR) (q : Nat), j ≤ N ∧ i = .int .i64 (j : Int) ∧ at' = .int .i64 (q : Int) ∧ decAt k x d j = some (l, q) ∧ GroupsAt wr w1.heap.size v l ∧ Below w1.heap.size w1 wr)
        (fun _ _ i _ => N - (intOf i).toNat)
      case atStart => exact ⟨0, [], 0, by omega, rfl, rfl, rfl, GroupsAt.nil _ _, Below.refl _ _⟩
      case round =>
        obtain ⟨j, l, q, hj, rfl, rfl, hda, hgr, hnx⟩ := hrel
        obtain ⟨hq, hll⟩ := dec_le j l q hda
        have hsz := hnx.size
        have HDA := hide hda
        have HGR := hide hgr
        have HNX := hide hnx
        have HW : Hid (∀ w', Below wr.heap.size wr w' → Below W0.heap.size W0 w') := fun w' hw => (HB1.out.trans (hnx.mono s1)).trans (hw.mono (Nat.le_trans s1 hsz))
        clear hda hgr hnx
        by_cases hlt : j < N
        · obtain rfl := h11 (by omega)
          have lt1 := h12 (by omega)
          have hji : (j : Int) < (N : Int) := by omega
          obtain ⟨g0, g01⟩ := HL1.out.below lt1 HNX.out j (by rw [ents_len]; exact hlt)
          rw [ents_at k x N j hlt, Nat.zero_add] at g0 g01
          have HST := hide (dec_step (m := k) (x := x) HDA.out)
          have HSP := hide (dec_stop (m := k) (x := x) HDA.out)
          simp only at g0 g01
          generalize rdeH k x j = XH at *
          generalize rdeO k x j = XO at *
          obtain ⟨WA, hWA⟩ : ∃ WA, WA = wr.alloc (.cells #[.string XH, .int .i64 (XO : Int)] 67) := ⟨_, rfl⟩
          have sA : WA.heap.size = wr.heap.size + 1 := by rw [hWA]; simp
          have bA : Below wr.heap.size wr WA := by rw [hWA]; exact (Below.refl _ wr).alloc (Nat.le_refl _) _
          have p0 : WA.cell? ⟨wr.heap.size, 0, none⟩ = some (.string XH) := by rw [hWA]; simp
          have p1 : WA.cell? ⟨wr.heap.size, 1, none⟩ = some (.int .i64 (XO : Int)) := by rw [hWA]; simp
          obtain ⟨ca0, ca1⟩ := CC.out WA (HW.out WA bA)
          rw [hWA] at ca1
          have R2 := hide (RR.out (q : Int) WA)
          have BA := hide bA
          have P0 := hide p0
          have P1 := hide p1
          clear bA p0 p1 ca0
          have hin : 0 ≤ (q : Int) ∧ (q : Int) ≤ (d.size : Int) := by omega
          by_cases he : errL (spL d q) = 0
          · obtain ⟨r1, r2, r3⟩ := rr_good hin (by rwa [Int.toNat_natCast])
            rw [r1, r2, r3, Int.toNat_natCast] at R2
            clear r1 r2 r3
            have hsl := spL_len d q
            by_cases ho : XO = q
            · have HS2 := hide (HST.out he ho)
              have hoi : ((XO : Int) != (q : Int)) = false := by rw [ho]; simp
              clear HST HSP
              have HO := hide ho
              clear ho he
              generalize spL d q = L at *
              generalize spN d q = NN at *
              go_wp2_with fail
              rw [← hWA]
              refine Calls.mono R2.out ?_
              rintro e w2 ⟨v2, rfl, o2, hb2⟩
              have c20 : w2.cell? ⟨wr.heap.size, 0, none⟩ = some (.string XH) := (hb2.cell (by rw [sA]; exact Nat.lt_succ_self _)).trans P0.out
              have c21 : w2.cell? ⟨wr.heap.size, 1, none⟩ = some (.int .i64 (XO : Int)) := (hb2.cell (by rw [sA]; exact Nat.lt_succ_self _)).trans P1.out
              have B2 := BA.out.trans (hb2.mono (by rw [sA]; exact Nat.le_succ _))
              have s2 := B2.size
              obtain ⟨ts, t1, t2, t3⟩ := HGR.out.below B2
              obtain ⟨a2, g2, cap2, rfl, _⟩ := own_pairs o2
              have O2 := hide o2
              have T2 := hide t2
              have T3 := hide t3
              have HB2 := hide B2
              have hts : ts.length = j := by rw [← hll, ← t1, List.length_map]
              obtain ⟨hm1, hm2⟩ : ts.length + 1 ≤ maxLen ∧ (ts.length + 1) * 40 ≤ 140737488355328 := by rw [hts]; unfold maxLen; omega
              have CG := hide (cell_grp w2 XH L (.slice a2 L.length cap2))
              have s12 : w1.heap.size ≤ w2.heap.size := Nat.le_trans hsz s2
              clear o2 hb2 t2 t3 B2
              go_wp2_with (at_builtin; refine wpList_append_own _ rfl _ _ 24 rfl w1.heap.size 41 i0 (.agg #[.string ⟨#[]⟩, .slice none 0 0]) 2 40 Try.underlying24 hi hz0 hz1 hz2 rfl (by decide) _ _ _ rfl (T2.out.alloc _) ⟨w2.heap.size, 0, none⟩ 1 1 (gcell [((XH, L), .slice a2 L.length cap2)]) rfl (g_one_len _ _ _) CG.out (g_one _ _ _ rfl) hm1 hm2 (le_alloc s12) ?_; intro v3 w3 o3 g3 n3; clear n3; have O3 := hide o3; have G3 := hide g3; clear o3 g3)
              go_roundw
              case rel =>
                refine ⟨j + 1, _, _, by omega, by go_num, rfl, HS2.out, ⟨ts ++ [((XH, L), .slice a2 L.length cap2)], by rw [List.map_append, t1]; rfl, ?_, fun t ht => ?_⟩, ?_⟩
                · rw [gcell_append, List.length_append]
                  exact O3.out
                · rcases List.mem_append.1 ht with ht | ht
                  · exact row_type ((T3.out t ht).alloc _) (T2.out.alloc _) (by decide) G3.out
                  · obtain rfl : t = ((XH, L), .slice a2 L.length cap2) := by simpa using ht
                    exact row_type ((own_base O2.out (by rw [sA]; omega)).alloc _) (T2.out.alloc _) (by decide) G3.out
                · exact ((HNX.out.trans (HB2.out.mono hsz)).alloc s12 _).grown G3.out (le_alloc s12) (fun t ht => (T2.out.lt t ht).1)
              case measure => simp [intOf]; omega
            · have hns := HSP.out (fun h => ho h.2)
              have hnn : decAt k x d N = none := by rw [show N = j + 1 + (N - (j + 1)) by omega]; exact dec_none hns _
              have HE := hide (dc_no (d := d) HRI.out (ok_none (by rw [Int.toNat_natCast, ← HN.out]; exact hnn)))
              have hoi : ((XO : Int) != (q : Int)) = true := by simp; omega
              clear hns hnn HST HSP ho he
              generalize spL d q = L at *
              generalize spN d q = NN at *
              go_wp2_with fail
              rw [← hWA]
              refine Calls.mono R2.out ?_
              rintro e w2 ⟨v2, rfl, o2, hb2⟩
              have c21 : w2.cell? ⟨wr.heap.size, 1, none⟩ = some (.int .i64 (XO : Int)) := (hb2.cell (by rw [sA]; exact Nat.lt_succ_self _)).trans P1.out
              have B2 := hide (HB0.out.trans ((HW.out w2 (BA.out.trans (hb2.mono (by rw [sA]; exact Nat.le_succ _)))).mono (by rw [s0]; exact Nat.le_succ _)))
              clear o2 hb2
              go_wp2_with fail
              go_ret2
              exact ⟨_, by rw [HE.out.1]; rfl, by rw [HE.out.2]; exact GroupsAt.nil _ _, B2.out⟩
          · obtain ⟨r1, r2, r3⟩ := rr_bad hin (by rwa [Int.toNat_natCast])
            rw [r1, r2, r3] at R2
            have hns := HSP.out (fun h => he h.1)
            have hnn : decAt k x d N = none := by rw [show N = j + 1 + (N - (j + 1)) by omega]; exact dec_none hns _
            have HE := hide (dc_no (d := d) HRI.out (ok_none (by rw [Int.toNat_natCast, ← HN.out]; exact hnn)))
            clear r1 r2 r3 hns hnn HST HSP he
            go_wp2_with fail
            rw [← hWA]
            refine Calls.mono R2.out ?_
            rintro e w2 ⟨v2, rfl, o2, hb2⟩
            have B2 := hide (HB0.out.trans ((HW.out w2 (BA.out.trans (hb2.mono (by rw [sA]; exact Nat.le_succ _)))).mono (by rw [s0]; exact Nat.le_succ _)))
            clear o2 hb2
            go_wp2_with fail
            go_ret2
            exact ⟨_, by rw [HE.out.1]; rfl, by rw [HE.out.2]; exact GroupsAt.nil _ _, B2.out⟩
        · obtain rfl : j = N := by omega
          obtain ⟨cr0, cr1⟩ := CC.out wr (HW.out wr (Below.refl _ _))
          have HBR := hide (HB0.out.trans ((HW.out wr (Below.refl _ _)).mono (by rw [s0]; exact Nat.le_succ _)))
          by_cases hqd : q = d.size
          · subst hqd
            have HE := hide (dc_yes (d := d) HRI.out (ok_yes (by rw [Int.toNat_natCast, ← HN.out]; exact HDA.out) hd2))
            have HG := hide (HGR.out.base (b2 := w.heap.size) (by omega))
            go_wp2_with fail
            go_ret2
            exact ⟨_, by rw [HE.out.1]; rfl, by rw [HE.out.2]; exact HG.out, HBR.out⟩
          · have HE := hide (dc_no (d := d) HRI.out (ok_end (by rw [Int.toNat_natCast, ← HN.out]; exact HDA.out) hqd))
            have hqi : ((q : Int) != (d.size : Int)) = true := by simp; omega
            go_wp2_with fail
            go_ret2
            exact ⟨_, by rw [HE.out.1]; rfl, by rw [HE.out.2]; exact GroupsAt.nil _ _, HBR.out⟩
  · obtain ⟨e1, e2⟩ := dc_index (d := d) hri
    have HE1 := hide e1
    have HE2 := hide e2
    have hne : (riE m x != 0) = true := by simpa using hri
    clear e1 e2 hri
    generalize riE m x = RE at *
    go_wp2_with fail
    go_ret2
    exact ⟨_, by rw [HE1.out]; rfl, by rw [HE2.out]; exact GroupsAt.nil _ _, HB0.out.trans (HB1.out.mono (by omega))⟩
end Go.Proofs.Ytfmmfophdfjopaa
namespace Go.Proofs.Ytfmmfophdfjopaa
open Go.RowKit
/-- the groups without a look at the offsets -/
def chAt (m : Nat) (x d : ByteArray) : Nat → Option (List GR × Nat)
  | 0 => some ([], 0)
  | n + 1 => match chAt m x d n with
    | none => none
    | some (l, q) => if errL (spL d q) = 0 then some (l ++ [(rdeH m x n, spL d q)], spN d q) else none
theorem ch_step {m : Nat} {x d : ByteArray} {n : Nat} {l : List GR} {q : Nat} (h : chAt m x d n = some (l, q)) (h1 : errL (spL d q) = 0) : chAt m x d (n + 1) = some (l ++ [(rdeH m x n, spL d q)], spN d q) := by
  rw [chAt, h]; simp only; rw [if_pos h1]
theorem ch_stop {m : Nat} {x d : ByteArray} {n : Nat} {l : List GR} {q : Nat} (h : chAt m x d n = some (l, q)) (h1 : ¬ errL (spL d q) = 0) : chAt m x d (n + 1) = none := by
  rw [chAt, h]; simp only; rw [if_neg h1]
theorem ch_none {m : Nat} {x d : ByteArray} {n : Nat} (h : chAt m x d n = none) (t : Nat) : chAt m x d (n + t) = none := by
  induction t with
  | zero => exact h
  | succ t ih => rw [show n + (t + 1) = n + t + 1 by omega, chAt, ih]
/-- the data and the index that groups make -/
def encD (gs : List GR) : List UInt8 := gs.flatMap fun g => recL g.2
def encN (gs : List GR) : Nat → List UInt8
  | 0 => []
  | n + 1 => encN gs n ++ (gs.getD n default).1.data.toList ++ dig 4 (encD (gs.take n)).length
theorem encD_snoc (l : List GR) (g : GR) : encD (l ++ [g]) = encD l ++ recL g.2 := by simp [encD]
theorem encN_more (l r : List GR) : ∀ n, n ≤ l.length → encN (l ++ r) n = encN l n := by
  intro n
  induction n with
  | zero => intro _; rfl
  | succ n ih =>
    intro h
    rw [encN, encN, ih (by omega), List.take_append_of_le_length (by omega)]
    rw [List.getD_eq_getElem?_getD, List.getD_eq_getElem?_getD, List.getElem?_append_left (by omega)]
theorem encN_snoc (l : List GR) (g : GR) : encN (l ++ [g]) (l.length + 1) = encN l l.length ++ g.1.data.toList ++ dig 4 (encD l).length := by
  rw [encN, encN_more l [g] _ (Nat.le_refl _), List.take_left' rfl, List.getD_eq_getElem?_getD, List.getElem?_append_right (Nat.le_refl _)]
  simp
theorem recL_sp {d : ByteArray} {q : Nat} (h : errL (spL d q) = 0) : recL (spL d q) = (d.data.toList.drop q).take (spN d q - q) := by
  cases hs : spellAt d q with
  | none =>
    rw [(spL_none hs).1] at h
    have : errL [] = 36 := rfl
    omega
  | some y =>
    obtain ⟨l, r⟩ := y
    rw [(spL_some hs).1, (spL_some hs).2]
    exact (spell_rec hs).2.2.2
theorem rdeH_size {k : Nat} {x : ByteArray} {i : Nat} (hi : i < x.size / (k + 4)) : (rdeH k x i).size = k := by
  have := in_index hi
  unfold rdeH
  simp; omega
/-- what a chain is -/
theorem ch_facts {k : Nat} {x d : ByteArray} : ∀ n l q, n ≤ x.size / (k + 4) → chAt k x d n = some (l, q) → q ≤ d.size ∧ l.length = n ∧ encD l = d.data.toList.take q ∧ (∀ i (h : i < l.length), l[i].1 = rdeH k x i ∧ errL l[i].2 = 0) := by
  intro n
  induction n with
  | zero => intro l q _ h; simp [chAt] at h; obtain ⟨rfl, rfl⟩ := h; simp [encD]
  | succ n ih =>
    intro l q hn h
    rw [chAt] at h
    split at h
    · cases h
    · rename_i l' q' h'
      obtain ⟨i1, i2, i3, i4⟩ := ih l' q' (by omega) h'
      by_cases hc : errL (spL d q') = 0
      · rw [if_pos hc] at h
        simp only [Option.some.injEq, Prod.mk.injEq] at h
        obtain ⟨rfl, rfl⟩ := h
        have hsp := sp_le hc
        refine ⟨hsp.2, by simp [i2], ?_, fun i hi => ?_⟩
        · rw [encD_snoc, i3, recL_sp hc]
          rw [show d.data.toList.take (spN d q') = d.data.toList.take (q' + (spN d q' - q')) by congr 1; omega, List.take_add]
        · rcases Nat.lt_or_ge i l'.length with hlt | hge
          · rw [List.getElem_append_left hlt]; exact i4 i hlt
          · have : i = l'.length := by simp at hi; omega
            subst this
            rw [List.getElem_append_right (Nat.le_refl _)]
            simp [i2, hc]
      · rw [if_neg hc] at h; cases h
theorem entry_bytes {k : Nat} {x : ByteArray} {i : Nat} (hi : i < x.size / (k + 4)) : x.data.toList.take ((i + 1) * (k + 4)) = x.data.toList.take (i * (k + 4)) ++ (rdeH k x i).data.toList ++ dig 4 (rdeO k x i) := by
  have hin := in_index hi
  have hz := size_data x
  have e1 : (rdeH k x i).data.toList = (x.data.toList.drop (i * (k + 4))).take k := by
    unfold rdeH; rw [slice_str, show i * (k + 4) + k - i * (k + 4) = k by omega]
  have e2 : dig 4 (rdeO k x i) = (x.data.toList.drop (i * (k + 4) + k)).take 4 := by
    have := dig_val ((x.data.toList.drop (i * (k + 4) + k)).take 4)
    rw [show ((x.data.toList.drop (i * (k + 4) + k)).take 4).length = 4 by rw [List.length_take, List.length_drop]; omega] at this
    exact this
  rw [e1, e2, show (i + 1) * (k + 4) = i * (k + 4) + (k + 4) by rw [Nat.succ_mul], List.take_add, List.take_add, List.drop_drop, List.append_assoc]
theorem rdeO_lt (k : Nat) (x : ByteArray) (i : Nat) : rdeO k x i < 256 ^ 4 := by
  unfold rdeO
  exact Nat.lt_of_lt_of_le (val_lt _) (Nat.pow_le_pow_right (show 256 > 0 by omega) (show ((x.data.toList.drop (i * (k + 4) + k)).take 4).length ≤ 4 by rw [List.length_take]; omega))
theorem dig_eq {w n m : Nat} (hn : n < 256 ^ w) (hm : m < 256 ^ w) (h : dig w n = dig w m) : n = m := by
  rw [← val_dig w n hn, ← val_dig w m hm, h]
theorem dec_ch {m : Nat} {x d : ByteArray} : ∀ n r, decAt m x d n = some r → chAt m x d n = some r := by
  intro n
  induction n with
  | zero => intro r h; exact h
  | succ n ih =>
    intro r h
    rw [decAt] at h
    split at h
    · cases h
    · rename_i l q h'
      by_cases hc : errL (spL d q) = 0 ∧ rdeO m x n = q
      · rw [if_pos hc] at h
        rw [ch_step (ih _ h') hc.1]
        exact h
      · rw [if_neg hc] at h; cases h
/-- offsets that fit are an index that fits -/
theorem ch_dec {k : Nat} {x d : ByteArray} (hd : d.size ≤ 65536) : ∀ n l q, n ≤ x.size / (k + 4) → chAt k x d n = some (l, q) → (encN l n).length = n * (k + 4) ∧ (encN l n = x.data.toList.take (n * (k + 4)) ↔ decAt k x d n = some (l, q)) := by
  intro n
  induction n with
  | zero => intro l q _ h; simp [chAt] at h; obtain ⟨rfl, rfl⟩ := h; simp [encN, decAt]
  | succ n ih =>
    intro l q hn h
    rw [chAt] at h
    split at h
    · cases h
    · rename_i l' q' h'
      by_cases hc : errL (spL d q') = 0
      · rw [if_pos hc] at h
        simp only [Option.some.injEq, Prod.mk.injEq] at h
        obtain ⟨rfl, rfl⟩ := h
        obtain ⟨j1, j2⟩ := ih l' q' (by omega) h'
        obtain ⟨f1, f2, f3, _⟩ := ch_facts n l' q' (by omega) h'
        have hq : (encD l').length = q' := by rw [f3, List.length_take, size_data]; omega
        have hs := encN_snoc l' (rdeH k x n, spL d q')
        rw [f2, hq] at hs
        rw [hs, entry_bytes (by omega)]
        have hk : (rdeH k x n).data.toList.length = k := by rw [size_data]; exact rdeH_size (by omega)
        have hl : (x.data.toList.take (n * (k + 4))).length = n * (k + 4) := by
          have := in_index (x := x) (m := k) (i := n) (by omega)
          rw [List.length_take, size_data]; omega
        refine ⟨by simp only [List.length_append, j1, hk, dig_len]; rw [Nat.succ_mul]; omega, ?_⟩
        constructor
        · intro he
          rw [List.append_assoc, List.append_assoc] at he
          obtain ⟨h1, h2⟩ := List.append_inj he (by rw [j1, hl])
          obtain ⟨_, h3⟩ := List.append_inj h2 rfl
          have := dig_eq (by omega) (rdeO_lt k x n) h3
          exact dec_step (j2.1 h1) hc this.symm
        · intro he
          rw [decAt] at he
          split at he
          · cases he
          · rename_i l2 q2 h2
            by_cases hc2 : errL (spL d q2) = 0 ∧ rdeO k x n = q2
            · rw [if_pos hc2] at he
              simp only [Option.some.injEq, Prod.mk.injEq] at he
              have e2 := (dec_ch n _ h2).symm.trans h'
              simp only [Option.some.injEq, Prod.mk.injEq] at e2
              obtain ⟨rfl, rfl⟩ := e2
              rw [j2.2 h2, hc2.2]
            · rw [if_neg hc2] at he; cases he
      · rw [if_neg hc] at h; cases h
/-- the two looks at a chunk are one -/
theorem dc_ref {k : Nat} {x d : ByteArray} {l : List GR} {q : Nat} (hx : x.size % (k + 4) = 0) (hd : d.size ≤ 65536) (h : chAt k x d (x.size / (k + 4)) = some (l, q)) :
    dcOk (k : Int) x d = if strOf (encN l l.length) = x ∧ strOf (encD l) = d then some l else none := by
  obtain ⟨f1, f2, f3, _⟩ := ch_facts _ l q (Nat.le_refl _) h
  obtain ⟨_, j2⟩ := ch_dec hd _ l q (Nat.le_refl _) h
  have hN : x.size / (k + 4) * (k + 4) = x.size := Nat.div_mul_cancel (Nat.dvd_of_mod_eq_zero hx)
  rw [hN, List.take_of_length_le (by rw [size_data]; exact Nat.le_refl _)] at j2
  have hI : strOf (encN l l.length) = x ↔ encN l (x.size / (k + 4)) = x.data.toList := by
    rw [f2]
    constructor
    · intro e; rw [← strOf_data (encN l _), e]
    · intro e; rw [e, strOf_toList]
  have hD : strOf (encD l) = d ↔ q = d.size := by
    rw [f3]
    constructor
    · intro e
      have := congrArg ByteArray.size e
      rw [strOf_size, List.length_take, size_data] at this
      omega
    · intro e; rw [e, List.take_of_length_le (by rw [size_data]; exact Nat.le_refl _), strOf_toList]
  by_cases hi : encN l (x.size / (k + 4)) = x.data.toList
  · have hdec := j2.1 hi
    by_cases hq : q = d.size
    · rw [if_pos ⟨hI.2 hi, hD.2 hq⟩]
      subst hq
      exact ok_yes (by rw [Int.toNat_natCast]; exact hdec) hd
    · rw [if_neg (fun e => hq (hD.1 e.2))]
      exact ok_end (by rw [Int.toNat_natCast]; exact hdec) hq
  · rw [if_neg (fun e => hi (hI.1 e.1))]
    apply ok_none
    rw [Int.toNat_natCast]
    cases hdc : decAt k x d (x.size / (k + 4)) with
    | none => rfl
    | some r =>
      have := (dec_ch _ _ hdc).symm.trans h
      rw [this] at hdc
      exact absurd (j2.2 hdc) hi
theorem dc_ref_none {k : Nat} {x d : ByteArray} (h : chAt k x d (x.size / (k + 4)) = none) : dcOk (k : Int) x d = none := by
  apply ok_none
  rw [Int.toNat_natCast]
  cases hdc : decAt k x d (x.size / (k + 4)) with
  | none => rfl
  | some r => rw [dec_ch _ _ hdc] at h; cases h
end Go.Proofs.Ytfmmfophdfjopaa
namespace Go.Proofs.Ytfmmfophdfjopaa
open Go.RowKit
end Go.Proofs.Ytfmmfophdfjopaa
