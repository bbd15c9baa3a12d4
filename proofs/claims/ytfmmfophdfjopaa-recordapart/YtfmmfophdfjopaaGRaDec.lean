import Derived.Test.YtfmmfophdfjopaaGRkCopied
namespace Go.Proofs.Ytfmmfophdfjopaa
open Go.RowKit
/-- groups in memory, no two lists of pairs in one block -/
def GD (w : World) (base : Nat) (v : Value) (gs : List GR) : Prop := ∃ ts : List (GR × Value), ts.map Prod.fst = gs ∧ w.ownsRow base 41 2 v ts.length (gcell ts) ∧ (∀ t ∈ ts, w.ownsRow base 55 2 t.2 t.1.2.length (pc t.1.2)) ∧ ts.Pairwise (fun a b => ∀ k, a.2.ownBlock = some k → b.2.ownBlock ≠ some k)
theorem GD.groups {w : World} {base : Nat} {v : Value} {gs : List GR} (h : GD w base v gs) : GroupsAt w base v gs := by
  obtain ⟨ts, a, b, c, _⟩ := h
  exact ⟨ts, a, b, c⟩
theorem GD.nil (w : World) (base : Nat) : GD w base (.slice none 0 0) [] := ⟨[], rfl, World.ownsRow_nil _ _ _ _, fun t ht => (by cases ht), List.Pairwise.nil⟩
theorem GD.below {w w' : World} {base : Nat} {v : Value} {gs : List GR} (h : GD w base v gs) (hb : Below w.heap.size w w') : GD w' base v gs := by
  obtain ⟨ts, a, b, c, d⟩ := h
  exact ⟨ts, a, own_below b hb, fun t ht => own_below (c t ht) hb, d⟩
theorem GD.base {w : World} {b1 b2 : Nat} {v : Value} {gs : List GR} (h : GD w b1 v gs) (hb : b2 ≤ b1) : GD w b2 v gs := by
  obtain ⟨ts, a, b, c, d⟩ := h
  exact ⟨ts, a, own_base b hb, fun t ht => own_base (c t ht) hb, d⟩
set_option maxHeartbeats 2000000 in
set_option maxRecDepth 100000 in
/-- Decode: no two lists of its answer share memory -/
theorem decode_apart (m : Int) (x d : ByteArray) (hx : x.size ≤ 1099511627776) (hd : d.size ≤ 1099511627776) (w : World) :
    Calls Try.prog 9 #[.int .i64 m, .agg #[.string x, .string d]] w fun e w' => ∃ v, e = .returned (.tuple #[v, .int .i64 (dcE m x d)]) ∧ GD w' w.heap.size v (dcG m x d) ∧ Below w.heap.size w w' := by
  obtain ⟨W0, hW0⟩ : ∃ W0, W0 = w.alloc (.cells #[.string x, .string d] 27) := ⟨_, rfl⟩
  have s0 : W0.heap.size = w.heap.size + 1 := by rw [hW0]; simp
  have b0 : Below w.heap.size w W0 := by rw [hW0]; exact (Below.refl _ w).alloc (Nat.le_refl _) _
  have k0 : W0.cell? ⟨w.heap.size, 0, none⟩ = some (.string x) := by rw [hW0]; simp
  have k1 : W0.cell? ⟨w.heap.size, 1, none⟩ = some (.string d) := by rw [hW0]; simp
  have CC : Hid (∀ w', Below W0.heap.size W0 w' → w'.cell? ⟨w.heap.size, 0, none⟩ = some (.string x) ∧ w'.cell? ⟨w.heap.size, 1, none⟩ = some (.string d)) := fun w' hw => by
    rw [hw.cell (by rw [s0]; exact Nat.lt_succ_self _), hw.cell (by rw [s0]; exact Nat.lt_succ_self _)]; exact ⟨k0, k1⟩
  have HB0 := hide b0
  have RI := hide (readIndex_any m x hx W0)
  clear b0
  go_enter Try.func9, Try.ntmps9
  go_wp2_with fail
  rw [← hW0]
  refine Calls.mono RI.out ?_
  rintro e w1 ⟨v1, rfl, o1, hb1⟩
  obtain ⟨c10, c11⟩ := CC.out w1 hb1
  have O1 := hide o1
  have HB1 := hide hb1
  have s1 := hb1.size
  clear o1 hb1 k0 k1
  by_cases hri : riE m x = 0
  · by_cases hbig : 65536 < d.size
    · obtain ⟨e1, e2⟩ := dc_no hri (ok_big hbig)
      have HE1 := hide e1
      have HE2 := hide e2
      have hbi : (65536 : Int) < (d.size : Int) := by omega
      clear e1 e2
      rw [hri]
      go_wp2_with fail
      go_ret2
      exact ⟨_, by rw [HE1.out]; rfl, by rw [HE2.out]; exact GD.nil _ _, HB0.out.trans (HB1.out.mono (by omega))⟩
    · have hbi : (d.size : Int) ≤ 65536 := by omega
      rw [hri]
      obtain ⟨hm, hdm, hau, hrl⟩ := ri_inv hri
      obtain ⟨k, rfl⟩ : ∃ k : Nat, m = (k : Int) := ⟨m.toNat, by omega⟩
      rw [Int.toNat_natCast] at hdm hau hrl
      have hdv : x.size / (k + 4) ≤ x.size := Nat.div_le_self _ _
      obtain ⟨N, hN⟩ : ∃ N, N = x.size / (k + 4) := ⟨_, rfl⟩
      rw [← hN] at hrl hdv
      have o1 := O1.out
      rw [hrl, ents_len] at o1
      obtain ⟨ao, g1, cap1, rfl, h11, h12, h13⟩ := own_ents (ents_len k x N) o1
      have HRI := hide hri
      have HN := hide hN
      have HL1 := hide h13
      clear o1 h13 hrl hau hdm hri hN O1
      obtain ⟨i0, hi, hz0, hz1, hz2⟩ := info_parts infoG
      have hd2 : d.size ≤ 65536 := by omega
      have RR := hide (fun q w' => readRecord_any d q (by omega) w')
      go_wp2_with fail
      go_loopw [8, 9, 31] (fun v at' i wr => ∃ (j : Nat) (l : List GR) (q : Nat), j ≤ N ∧ i = .int .i64 (j : Int) ∧ at' = .int .i64 (q : Int) ∧ decAt k x d j = some (l, q) ∧ GD wr w1.heap.size v l ∧ Below w1.heap.size w1 wr)
        (fun _ _ i _ => N - (intOf i).toNat)
      case atStart => exact ⟨0, [], 0, by omega, rfl, rfl, rfl, GD.nil _ _, Below.refl _ _⟩
      case round =>
        obtain ⟨j, l, q, hj, rfl, rfl, hda, hgr, hnx⟩ := hrel
        obtain ⟨hq, hll⟩ := dec_le j l q hda
        have hsz := hnx.size
        have HDA := hide hda
        have HGR := hide hgr
        have HNX := hide hnx
        have HW : Hid (∀ w', Below wr.heap.size wr w' → Below W0.heap.size W0 w') := fun w' hw => (HB1.out.trans (hnx.mono s1)).trans (hw.mono (Nat.le_trans s1 hsz))
        clear hda hgr hnx
        by_cases hlt : j < N
        · obtain rfl := h11 (by omega)
          have lt1 := h12 (by omega)
          have hji : (j : Int) < (N : Int) := by omega
          obtain ⟨g0, g01⟩ := HL1.out.below lt1 HNX.out j (by rw [ents_len]; exact hlt)
          rw [ents_at k x N j hlt, Nat.zero_add] at g0 g01
          have HST := hide (dec_step (m := k) (x := x) HDA.out)
          have HSP := hide (dec_stop (m := k) (x := x) HDA.out)
          simp only at g0 g01
          generalize rdeH k x j = XH at *
          generalize rdeO k x j = XO at *
          obtain ⟨WA, hWA⟩ : ∃ WA, WA = wr.alloc (.cells #[.string XH, .int .i64 (XO : Int)] 67) := ⟨_, rfl⟩
          have sA : WA.heap.size = wr.heap.size + 1 := by rw [hWA]; simp
          have bA : Below wr.heap.size wr WA := by rw [hWA]; exact (Below.refl _ wr).alloc (Nat.le_refl _) _
          have p0 : WA.cell? ⟨wr.heap.size, 0, none⟩ = some (.string XH) := by rw [hWA]; simp
          have p1 : WA.cell? ⟨wr.heap.size, 1, none⟩ = some (.int .i64 (XO : Int)) := by rw [hWA]; simp
          obtain ⟨ca0, ca1⟩ := CC.out WA (HW.out WA bA)
          rw [hWA] at ca1
          have R2 := hide (RR.out (q : Int) WA)
          have BA := hide bA
          have P0 := hide p0
          have P1 := hide p1
          clear bA p0 p1 ca0
          have hin : 0 ≤ (q : Int) ∧ (q : Int) ≤ (d.size : Int) := by omega
          by_cases he : errL (spL d q) = 0
          · obtain ⟨r1, r2, r3⟩ := rr_good hin (by rwa [Int.toNat_natCast])
            rw [r1, r2, r3, Int.toNat_natCast] at R2
            clear r1 r2 r3
            have hsl := spL_len d q
            by_cases ho : XO = q
            · have HS2 := hide (HST.out he ho)
              have hoi : ((XO : Int) != (q : Int)) = false := by rw [ho]; simp
              clear HST HSP
              have HO := hide ho
              clear ho he
              generalize spL d q = L at *
              generalize spN d q = NN at *
              go_wp2_with fail
              rw [← hWA]
              refine Calls.mono R2.out ?_
              rintro e w2 ⟨v2, rfl, o2, hb2⟩
              have c20 : w2.cell? ⟨wr.heap.size, 0, none⟩ = some (.string XH) := (hb2.cell (by rw [sA]; exact Nat.lt_succ_self _)).trans P0.out
              have c21 : w2.cell? ⟨wr.heap.size, 1, none⟩ = some (.int .i64 (XO : Int)) := (hb2.cell (by rw [sA]; exact Nat.lt_succ_self _)).trans P1.out
              have B2 := BA.out.trans (hb2.mono (by rw [sA]; exact Nat.le_succ _))
              have s2 := B2.size
              obtain ⟨ts, t1, t2', t3', t4⟩ := HGR.out
              have t2 := own_below t2' B2
              have t3 := fun t ht => own_below (t3' t ht) B2
              have T4 : Hid (∀ t ∈ ts, ∀ k, t.2.ownBlock = some k → k < wr.heap.size) := fun t ht k hk => ((t3' t ht).lt k hk).2
              have T5 := hide t4
              clear t2' t3' t4
              obtain ⟨a2, g2, cap2, rfl, _⟩ := own_pairs o2
              have O2 := hide o2
              have T2 := hide t2
              have T3 := hide t3
              have HB2 := hide B2
              have hts : ts.length = j := by rw [← hll, ← t1, List.length_map]
              obtain ⟨hm1, hm2⟩ : ts.length + 1 ≤ maxLen ∧ (ts.length + 1) * 40 ≤ 140737488355328 := by rw [hts]; unfold maxLen; omega
              have CG := hide (cell_grp w2 XH L (.slice a2 L.length cap2))
              have s12 : w1.heap.size ≤ w2.heap.size := Nat.le_trans hsz s2
              clear o2 hb2 t2 t3 B2
              go_wp2_with (at_builtin; refine wpList_append_own _ rfl _ _ 24 rfl w1.heap.size 41 i0 (.agg #[.string ⟨#[]⟩, .slice none 0 0]) 2 40 Try.underlying24 hi hz0 hz1 hz2 rfl (by decide) _ _ _ rfl (T2.out.alloc _) ⟨w2.heap.size, 0, none⟩ 1 1 (gcell [((XH, L), .slice a2 L.length cap2)]) rfl (g_one_len _ _ _) CG.out (g_one _ _ _ rfl) hm1 hm2 (le_alloc s12) ?_; intro v3 w3 o3 g3 n3; clear n3; have O3 := hide o3; have G3 := hide g3; clear o3 g3)
              go_roundw
              case rel =>
                refine ⟨j + 1, _, _, by omega, by go_num, rfl, HS2.out, ⟨ts ++ [((XH, L), .slice a2 L.length cap2)], by rw [List.map_append, t1]; rfl, ?_, fun t ht => ?_, ?_⟩, ?_⟩
                · rw [gcell_append, List.length_append]
                  exact O3.out
                · rcases List.mem_append.1 ht with ht | ht
                  · exact row_type ((T3.out t ht).alloc _) (T2.out.alloc _) (by decide) G3.out
                  · obtain rfl : t = ((XH, L), .slice a2 L.length cap2) := by simpa using ht
                    exact row_type ((own_base O2.out (by rw [sA]; omega)).alloc _) (T2.out.alloc _) (by decide) G3.out
                · refine List.pairwise_append.2 ⟨T5.out, List.pairwise_singleton _ _, fun a ha b hb k hk hk2 => ?_⟩
                  rw [List.mem_singleton] at hb
                  subst hb
                  have q1 := T4.out a ha k hk
                  have q2 := (O2.out.lt k hk2).1
                  omega
                · exact ((HNX.out.trans (HB2.out.mono hsz)).alloc s12 _).grown G3.out (le_alloc s12) (fun t ht => (T2.out.lt t ht).1)
              case measure => simp [intOf]; omega
            · have hns := HSP.out (fun h => ho h.2)
              have hnn : decAt k x d N = none := by rw [show N = j + 1 + (N - (j + 1)) by omega]; exact dec_none hns _
              have HE := hide (dc_no (d := d) HRI.out (ok_none (by rw [Int.toNat_natCast, ← HN.out]; exact hnn)))
              have hoi : ((XO : Int) != (q : Int)) = true := by simp; omega
              clear hns hnn HST HSP ho he
              generalize spL d q = L at *
              generalize spN d q = NN at *
              go_wp2_with fail
              rw [← hWA]
              refine Calls.mono R2.out ?_
              rintro e w2 ⟨v2, rfl, o2, hb2⟩
              have c21 : w2.cell? ⟨wr.heap.size, 1, none⟩ = some (.int .i64 (XO : Int)) := (hb2.cell (by rw [sA]; exact Nat.lt_succ_self _)).trans P1.out
              have B2 := hide (HB0.out.trans ((HW.out w2 (BA.out.trans (hb2.mono (by rw [sA]; exact Nat.le_succ _)))).mono (by rw [s0]; exact Nat.le_succ _)))
              clear o2 hb2
              go_wp2_with fail
              go_ret2
              exact ⟨_, by rw [HE.out.1]; rfl, by rw [HE.out.2]; exact GD.nil _ _, B2.out⟩
          · obtain ⟨r1, r2, r3⟩ := rr_bad hin (by rwa [Int.toNat_natCast])
            rw [r1, r2, r3] at R2
            have hns := HSP.out (fun h => he h.1)
            have hnn : decAt k x d N = none := by rw [show N = j + 1 + (N - (j + 1)) by omega]; exact dec_none hns _
            have HE := hide (dc_no (d := d) HRI.out (ok_none (by rw [Int.toNat_natCast, ← HN.out]; exact hnn)))
            clear r1 r2 r3 hns hnn HST HSP he
            go_wp2_with fail
            rw [← hWA]
            refine Calls.mono R2.out ?_
            rintro e w2 ⟨v2, rfl, o2, hb2⟩
            have B2 := hide (HB0.out.trans ((HW.out w2 (BA.out.trans (hb2.mono (by rw [sA]; exact Nat.le_succ _)))).mono (by rw [s0]; exact Nat.le_succ _)))
            clear o2 hb2
            go_wp2_with fail
            go_ret2
            exact ⟨_, by rw [HE.out.1]; rfl, by rw [HE.out.2]; exact GD.nil _ _, B2.out⟩
        · obtain rfl : j = N := by omega
          obtain ⟨cr0, cr1⟩ := CC.out wr (HW.out wr (Below.refl _ _))
          have HBR := hide (HB0.out.trans ((HW.out wr (Below.refl _ _)).mono (by rw [s0]; exact Nat.le_succ _)))
          by_cases hqd : q = d.size
          · subst hqd
            have HE := hide (dc_yes (d := d) HRI.out (ok_yes (by rw [Int.toNat_natCast, ← HN.out]; exact HDA.out) hd2))
            have HG := hide (HGR.out.base (b2 := w.heap.size) (by omega))
            go_wp2_with fail
            go_ret2
            exact ⟨_, by rw [HE.out.1]; rfl, by rw [HE.out.2]; exact HG.out, HBR.out⟩
          · have HE := hide (dc_no (d := d) HRI.out (ok_end (by rw [Int.toNat_natCast, ← HN.out]; exact HDA.out) hqd))
            have hqi : ((q : Int) != (d.size : Int)) = true := by simp; omega
            go_wp2_with fail
            go_ret2
            exact ⟨_, by rw [HE.out.1]; rfl, by rw [HE.out.2]; exact GD.nil _ _, HBR.out⟩
  · obtain ⟨e1, e2⟩ := dc_index (d := d) hri
    have HE1 := hide e1
    have HE2 := hide e2
    have hne : (riE m x != 0) = true := by simpa using hri
    clear e1 e2 hri
    generalize riE m x = RE at *
    go_wp2_with fail
    go_ret2
    exact ⟨_, by rw [HE1.out]; rfl, by rw [HE2.out]; exact GD.nil _ _, HB0.out.trans (HB1.out.mono (by omega))⟩
end Go.Proofs.Ytfmmfophdfjopaa
namespace Go.Proofs.Ytfmmfophdfjopaa
open Go.RowKit
/-- an append to a row that is there: the answer lies in the same block, or in a new one -/
theorem wpList_append_sf {P : Program} {w : World} {ops : Array Oper} {rest : List Oper} {o : Oper} {a : Act} {Q : Exit → Act → World → Prop} (hgd : o.guard = none) (s x : Operand) (t : TypeId)
    (ho : o.op = .call { callee := .builtin .append, args := #[s, x], argTypes := #[t, t] })
    (base : Nat) (e : TypeId) (i : TypeInfo) (z : Value) (size bytes : Nat) (ht : P.underlying t = some (.slice e)) (hi : P.info? e = some i) (hz : i.zero = some z)
    (hsize : i.size = size) (hby : i.bytes = bytes) (hzs : z.cells.size = size) (hsz : 0 < size)
    (g cap n : Nat) (xs : List Value) (hs : a.eval s = .slice (some ⟨g, 0, none⟩) n cap) (hown : w.ownsRow base e size (.slice (some ⟨g, 0, none⟩) n cap) n xs)
    (ad : Addr) (m c : Nat) (news : List Value) (hx : a.eval x = .slice (some ad) m c) (hl : news.length = m * size) (hnews : ∀ j u, news[j]? = some u → w.cell? (ad.add j) = some u) (h1 : ∀ u ∈ news, u.oneCell' = true)
    (h63 : n + m ≤ maxLen) (hbytes : (n + m) * bytes ≤ 140737488355328) (hbase : base ≤ w.heap.size)
    (h : ∀ g' cap' w', w'.ownsRow base e size (.slice (some ⟨g', 0, none⟩) (n + m) cap') (n + m) (xs ++ news) → w.grownBy w' (some g) → (g' = g ∨ g' = w.heap.size ∧ w.grownBy w' none) → wpList P ops Q rest (a.put o.dst (.slice (some ⟨g', 0, none⟩) (n + m) cap')) w') : wpList P ops Q (o :: rest) a w := by
  refine wpList_plain hgd fun _ hK => ?_
  obtain ⟨v', w', hr, h2, h3, h4⟩ := run_append_own (P := P) w base t o.type e i z size bytes ht hi hz hsize hby hzs hsz _ n xs hown ad m c news hl hnews h1 h63 hbytes hbase
  have hsmall : n + m ≤ 9223372036854775807 := by simp only [maxLen] at h63; omega
  have hsf : ∃ g' cap', v' = .slice (some ⟨g', 0, none⟩) (n + m) cap' ∧ (g' = g ∨ g' = w.heap.size ∧ w.grownBy w' none) := by
    subst hsize
    subst hby
    rcases hown.2 with ⟨q, _⟩ | ⟨g0, cap0, cur, q, hbg, hg, hnc, hcm, hcs, htake⟩
    · cases q
    · simp only [Value.slice.injEq, Option.some.injEq, Addr.mk.injEq, and_true, true_and] at q
      obtain ⟨rfl, rfl⟩ := q
      by_cases hroom : n + m ≤ cap
      · have hfit : n * i.size + news.length ≤ cur.size := by rw [hl, hcs, ← Nat.add_mul]; exact Nat.mul_le_mul_right _ hroom
        have hr2 := run_append_room (P := P) w t o.type e i ht hi g n cap cur hg ad m c news hl hnews h1 hroom hfit
        rw [hr2] at hr
        simp only [Result.ok.injEq] at hr
        exact ⟨g, cap, hr.1.symm, .inl rfl⟩
      · have holds : ∀ j u, xs[j]? = some u → w.cell? ((⟨g, 0, none⟩ : Addr).add j) = some u := hown.cells (g := g) rfl
        have hr2 := run_append_grow (P := P) w t o.type e i z ht hi hz ⟨g, 0, none⟩ n cap xs hown.1 holds ad m c news hl hnews (by omega) (by omega) (growslice_fits (by omega) hbytes)
        rw [hr2] at hr
        simp only [Result.ok.injEq] at hr
        exact ⟨w.heap.size, _, hr.1.symm, .inr ⟨rfl, by rw [← hr.2]; exact ⟨rfl, rfl, rfl, by simp, fun k hk _ => Below.heap_alloc w.drew _ k hk⟩⟩⟩
  obtain ⟨g', cap', rfl, hor⟩ := hsf
  unfold Oper.wp execOp
  simp only [ho, resolve, invoke, builtin, Sem.run_bind, Sem.run_pure, Result.andThen_ok, List.map_toArray, List.map_cons, List.map_nil, hs, hx, hr]
  exact hK _ _ (h g' cap' w' h2 h3 hor)
end Go.Proofs.Ytfmmfophdfjopaa
namespace Go.Proofs.Ytfmmfophdfjopaa
open Go.RowKit
def mks (n : Nat) (mk : ByteArray) : List KV := List.replicate n (mk, mk)
theorem mks_len (n : Nat) (mk : ByteArray) : (mks n mk).length = n := List.length_replicate
theorem mks_succ (n : Nat) (mk : ByteArray) : mks (n + 1) mk = mks n mk ++ [(mk, mk)] := List.replicate_succ'
theorem pc_set (a b : List KV) (p : KV) (mk : ByteArray) : ((pc (a ++ p :: b)).set (a.length * 2) (.string mk)).set (a.length * 2 + 1) (.string mk) = pc (a ++ (mk, mk) :: b) := by
  have e : ∀ q : KV, pc (a ++ q :: b) = pc a ++ (.string q.1 :: .string q.2 :: pc b) := fun q => by rw [pc_append]; rfl
  rw [e p, e (mk, mk), ← pc_len a, List.set_append_right _ _ (Nat.le_refl _), Nat.sub_self, List.set_cons_zero, List.set_append_right _ _ (by omega), show (pc a).length + 1 - (pc a).length = 1 by omega]
  rfl
theorem grown_more {w w1 w2 : World} {g g' : Nat} (h : w.grownBy w1 (some g)) (k : w1.grownBy w2 (some g')) (ho : g' = g ∨ w.heap.size ≤ g') : w.grownBy w2 (some g) := by
  refine ⟨k.os.trans h.os, k.tape.trans h.tape, k.output.trans h.output, Nat.le_trans h.size k.size, fun i hi hne => ?_⟩
  rw [← h.block i hi hne]
  refine k.block i (Nat.lt_of_lt_of_le hi h.size) (fun e => ?_)
  rcases ho with rfl | ho
  · exact hne e
  · injection e with e; omega
theorem lies_grown {w w' : World} {g : Nat} {ps : List KV} {row : Option Nat} (h : LiesP g 0 w ps) (hl : g < w.heap.size) (hg : w.grownBy w' row) (hne : some g ≠ row) : LiesP g 0 w' ps := fun i hi => by
  rw [hg.cell_far ⟨g, 0 + i * 2, none⟩ hl hne, hg.cell_far ⟨g, 0 + i * 2 + 1, none⟩ hl hne]
  exact h i hi
/-- how far marked is, behind the first append -/
def MI (w wr : World) (base g g' c' n k : Nat) (mk : ByteArray) : Prop := wr.ownsRow base 55 2 (.slice (some ⟨g', 0, none⟩) (n + k) c') (n + k) (pc (mks (n + k) mk)) ∧ LiesP g 0 wr (mks n mk) ∧ w.grownBy wr (some g) ∧ (g' = g ∨ w.heap.size ≤ g')
theorem MI.step {w wr w2 : World} {base g g' c' g2 c2 n k : Nat} {mk : ByteArray} {o : Obj} (h : MI w wr base g g' c' n k mk) (hgl : g < w.heap.size)
    (o2 : w2.ownsRow base 55 2 (.slice (some ⟨g2, 0, none⟩) (n + k + 1) c2) (n + k + 1) (pc (mks (n + k) mk) ++ pc [(mk, mk)])) (q : (wr.alloc o).grownBy w2 (some g')) (r : g2 = g' ∨ g2 = (wr.alloc o).heap.size ∧ (wr.alloc o).grownBy w2 none) : MI w w2 base g g2 c2 n (k + 1) mk := by
  obtain ⟨h1, h2, h3, h4⟩ := h
  have e : pc (mks (n + k) mk) ++ pc [(mk, mk)] = pc (mks (n + (k + 1)) mk) := by rw [← pc_append, ← mks_succ]; rfl
  rw [e] at o2
  have ha : wr.grownBy (wr.alloc o) (some g) := ⟨rfl, rfl, rfl, by simp, fun k hk _ => Below.heap_alloc wr o k hk⟩
  have hl : g < wr.heap.size := Nat.lt_of_lt_of_le hgl h3.size
  have hl2 : g < (wr.alloc o).heap.size := by simp; omega
  have lA : LiesP g 0 (wr.alloc o) (mks n mk) := h2.below hl ((Below.refl _ wr).alloc (Nat.le_refl _) _)
  refine ⟨o2, ?_, grown_more (grown_more h3 ha (.inl rfl)) q h4, ?_⟩
  · rcases r with rfl | ⟨rfl, rn⟩
    · by_cases e2 : g2 = g
      · subst e2
        have e3 : mks (n + (k + 1)) mk = mks n mk ++ mks (k + 1) mk := by unfold mks; rw [List.replicate_append_replicate]
        rw [e3] at o2
        exact row_lies o2 (by rw [mks_len]; omega)
      · exact lies_grown lA hl2 q (fun z => e2 (by injection z with z; exact z.symm))
    · exact lies_grown lA hl2 rn (by simp)
  · rcases r with rfl | ⟨rfl, _⟩
    · exact h4
    · right
      have := h3.size
      simp
      omega
set_option maxHeartbeats 4000000 in
set_option maxRecDepth 100000 in
set_option linter.unusedSimpArgs false in
/-- marked -/
theorem marked_any (g c base : Nat) (ps : List KV) (mk : ByteArray) (w : World) (h : w.ownsRow base 55 2 (.slice (some ⟨g, 0, none⟩) ps.length c) ps.length (pc ps)) (hb : base ≤ w.heap.size) (hlen : ps.length ≤ 65536) :
    Calls Try.prog 11 #[.slice (some ⟨g, 0, none⟩) ps.length c, .string mk] w fun e w' => ∃ g' c', e = .returned (.slice (some ⟨g', 0, none⟩) (ps.length + 65) c') ∧ w'.ownsRow base 55 2 (.slice (some ⟨g', 0, none⟩) (ps.length + 65) c') (ps.length + 65) (pc (mks (ps.length + 65) mk)) ∧ LiesP g 0 w' (mks ps.length mk) ∧ w.grownBy w' (some g) ∧ (g' = g ∨ w.heap.size ≤ g') := by
  obtain ⟨i1, hj, hy0, hy1, hy2⟩ := info_parts infoP
  have hgl : g < w.heap.size := row_lt h
  have HH := hide h
  clear h
  go_enter Try.func11, Try.ntmps11
  go_wp2_with fail
  go_loopw [5] (fun i wr => ∃ j : Nat, j ≤ ps.length ∧ i = .int .i64 (j : Int) ∧ wr.ownsRow base 55 2 (.slice (some ⟨g, 0, none⟩) ps.length c) ps.length (pc (mks j mk ++ ps.drop j)) ∧ w.grownBy wr (some g)) (fun i _ => ps.length - (intOf i).toNat)
  case atStart => exact ⟨0, Nat.zero_le _, rfl, HH.out, ⟨rfl, rfl, rfl, Nat.le_refl _, fun _ _ _ => rfl⟩⟩
  case round =>
    obtain ⟨j, hj9, rfl, ho, hg⟩ := hrel
    have HO := hide ho
    have HG := hide hg
    by_cases hlt : j < ps.length
    · have hji : (j : Int) < (ps.length : Int) := by omega
      have hd := List.drop_eq_getElem_cons hlt
      have o1 := ho.stored (j * 2) (.string mk)
      have o2 := o1.1.stored (j * 2 + 1) (.string mk)
      have e : ((pc (mks j mk ++ ps.drop j)).set (j * 2) (.string mk)).set (j * 2 + 1) (.string mk) = pc (mks (j + 1) mk ++ ps.drop (j + 1)) := by
        have := pc_set (mks j mk) (ps.drop (j + 1)) ps[j] mk
        rw [mks_len] at this
        rw [hd, this, mks_succ, List.append_assoc]; rfl
      rw [e] at o2
      have O2 := hide o2.1
      have G2 := hide (grown_more (grown_more HG.out o1.2 (.inl rfl)) o2.2 (.inl rfl))
      have xl : (pc (mks j mk ++ ps.drop j)).length = ps.length * 2 := ho.1
      obtain ⟨u0, c0⟩ : ∃ u, wr.cell? ⟨g, j * 2, none⟩ = some u := ⟨_, (ho.cellAt (j * 2) (by omega)).trans (List.getElem?_eq_getElem (by omega))⟩
      obtain ⟨u1, c1⟩ : ∃ u, wr.cell? ⟨g, j * 2 + 1, none⟩ = some u := ⟨_, (ho.cellAt (j * 2 + 1) (by omega)).trans (List.getElem?_eq_getElem (by omega))⟩
      have f0 := ho.frozenAt (j * 2)
      have f1 := ho.frozenAt (j * 2 + 1)
      clear ho hg o1 o2 e hd xl
      go_wp2_with fail
      refine ⟨⟨j + 1, by omega, by go_num, O2.out, G2.out⟩, ?_⟩
      simp [intOf]
      omega
    · obtain rfl : j = ps.length := by omega
      have hji : ¬ (ps.length : Int) < (ps.length : Int) := by omega
      rw [List.drop_length, List.append_nil] at HO
      have hbr : base ≤ wr.heap.size := Nat.le_trans hb HG.out.size
      have hsz := HG.out.size
      obtain ⟨hm1, hm2⟩ : ps.length + 1 ≤ maxLen ∧ (ps.length + 1) * 32 ≤ 140737488355328 := by unfold maxLen; omega
      clear ho hg
      go_wp2_with (at_builtin; refine wpList_append_sf rfl _ _ 38 rfl base 55 i1 (.agg #[.string ⟨#[]⟩, .string ⟨#[]⟩]) 2 32 Try.underlying38 hj hy0 hy1 hy2 rfl (by decide) g c ps.length (pc (mks ps.length mk)) rfl (HO.out.alloc _) ⟨_, 0, none⟩ 1 1 (pc [(mk, mk)]) rfl (pc_len _) (cell_pair _ (mk, mk)) (pc_one _) hm1 hm2 (le_alloc hbr) ?_; intro g1 c1 w1 o1 q1 r1; have O1 := hide o1; have Q1 := hide q1; have R1 := hide r1; clear o1 q1 r1)
      have M0 : Hid (MI w wr base g g c ps.length 0 mk) := ⟨HO.out, row_lies (qs := []) (by rw [List.append_nil]; exact HO.out) (by rw [mks_len]; exact Nat.le_refl _), HG.out, .inl rfl⟩
      have M1 := hide (M0.out.step hgl O1.out Q1.out R1.out)
      clear O1 Q1 R1 M0 HO HG
      go_loopw [6, 7] (fun v i wr => ∃ (k g' c' : Nat), k ≤ 64 ∧ i = .int .i64 (k : Int) ∧ v = .slice (some ⟨g', 0, none⟩) (ps.length + (1 + k)) c' ∧ MI w wr base g g' c' ps.length (1 + k) mk) (fun _ i _ => 64 - (intOf i).toNat)
      case atStart => exact ⟨0, g1, c1, by omega, rfl, rfl, M1.out⟩
      case round =>
        obtain ⟨k, g', c', hk, rfl, rfl, hM⟩ := hrel
        have HM := hide hM
        obtain ⟨a1, a2, a3, a4⟩ := hM
        have A1 := hide a1
        have hbr2 : base ≤ wr.heap.size := Nat.le_trans hb a3.size
        clear a1 a2 a3 a4
        by_cases hlt : k < 64
        · have hki : (k : Int) < 64 := by omega
          obtain ⟨hm3, hm4⟩ : ps.length + (1 + k) + 1 ≤ maxLen ∧ (ps.length + (1 + k) + 1) * 32 ≤ 140737488355328 := by unfold maxLen; omega
          go_wp2_with (at_builtin; refine wpList_append_sf rfl _ _ 38 rfl base 55 i1 (.agg #[.string ⟨#[]⟩, .string ⟨#[]⟩]) 2 32 Try.underlying38 hj hy0 hy1 hy2 rfl (by decide) g' c' (ps.length + (1 + k)) (pc (mks (ps.length + (1 + k)) mk)) rfl (A1.out.alloc _) ⟨_, 0, none⟩ 1 1 (pc [(mk, mk)]) rfl (pc_len _) (cell_pair _ (mk, mk)) (pc_one _) hm3 hm4 (le_alloc hbr2) ?_; intro g2 c2 w2 o2 q2 r2; have M2 := hide (HM.out.step hgl o2 q2 r2); clear o2 q2 r2)
          go_roundw
          case rel => exact ⟨k + 1, g2, c2, by omega, by go_num, rfl, M2.out⟩
          case measure => simp [intOf]; omega
        · obtain rfl : k = 64 := by omega
          go_wp2_with fail
          go_ret
          obtain ⟨b1, b2, b3, b4⟩ := HM.out
          exact ⟨g', c', rfl, b1, b2, b3, b4⟩
end Go.Proofs.Ytfmmfophdfjopaa
namespace Go.Proofs.Ytfmmfophdfjopaa
open Go.RowKit
set_option maxHeartbeats 2000000 in
set_option maxRecDepth 100000 in
set_option linter.unusedSimpArgs false in
/-- all -/
theorem all_any (ao : Option Addr) (g c n : Nat) (mk : ByteArray) (w : World) (hao : 0 < n → ao = some ⟨g, 0, none⟩) (hgl : 0 < n → g < w.heap.size) (h : LiesP g 0 w (mks n mk)) (hlen : n ≤ 1099511627776) :
    Calls Try.prog 14 #[.slice ao n c, .string mk] w fun e w' => e = .returned (.bool true) ∧ Below w.heap.size w w' := by
  have L : Hid (∀ i, i < n → w.cell? ⟨g, i * 2, none⟩ = some (.string mk) ∧ w.cell? ⟨g, i * 2 + 1, none⟩ = some (.string mk)) := fun i hi => by
    have q := h i (by rw [mks_len]; exact hi)
    rw [Nat.zero_add] at q
    have e : (mks n mk)[i]'(by rw [mks_len]; exact hi) = (mk, mk) := by unfold mks; rw [List.getElem_replicate]
    rw [e] at q
    exact q
  clear h
  go_enter Try.func14, Try.ntmps14
  go_wp2_with fail
  go_loopw [5] (fun i wr => ∃ k : Nat, k ≤ n ∧ i = .int .i64 k ∧ Below w.heap.size w wr) (fun i _ => n - (intOf i).toNat)
  case atStart => exact ⟨0, Nat.zero_le _, rfl, Below.refl _ _⟩
  case round =>
    obtain ⟨k, hk, rfl, hnx⟩ := hrel
    by_cases hlt : k < n
    · obtain rfl := hao (by omega)
      have lt0 := hgl (by omega)
      obtain ⟨d1, d2⟩ := L.out k hlt
      rw [← hnx.cell (by exact lt0)] at d1 d2
      have hk1 : (k : Int) < (n : Int) := by omega
      have HNX := hide hnx
      clear hnx
      go_wp2_with fail
      refine ⟨⟨k + 1, by omega, by go_num, HNX.out⟩, ?_⟩
      simp [intOf]
      omega
    · have HNX := hide hnx
      have hk1 : ¬ (k : Int) < (n : Int) := by omega
      clear hnx
      go_wp2
      go_ret
      exact ⟨rfl, HNX.out⟩
end Go.Proofs.Ytfmmfophdfjopaa
namespace Go.Proofs.Ytfmmfophdfjopaa
open Go.RowKit
set_option maxHeartbeats 2000000 in
set_option maxRecDepth 100000 in
set_option linter.unusedSimpArgs false in
/-- copied: no two lists of the answer share memory -/
theorem copied_apart (v : Value) (gs : List GR) (w : World) (hg : GLies w v gs) (hne : ∀ g ∈ gs, 0 < g.2.length) (hlen : gs.length ≤ 65536) (hps : ∀ g ∈ gs, g.2.length ≤ 65536) :
    Calls Try.prog 7 #[v] w fun e w' => ∃ v', e = .returned v' ∧ GD w' w.heap.size v' gs ∧ Below w.heap.size w w' := by
  obtain ⟨i0, hi, hz0, hz1, hz2⟩ := info_parts infoG
  obtain ⟨i1, hj, hy0, hy1, hy2⟩ := info_parts infoP
  obtain ⟨qs, ao, g, off, cap, hql, rfl, h3, h4, h5, h6⟩ := hg
  have H5 := hide h5
  have H6 := hide h6
  have HNE := hide hne
  have HPS := hide hps
  rw [hql] at h3 h4 ⊢
  clear h5 h6 hne hps
  go_enter Try.func7, Try.ntmps7
  go_wp2_with fail
  go_loopw [3, 4] (fun l i wr => ∃ j : Nat, j ≤ gs.length ∧ i = .int .i64 (j : Int) ∧ GD wr w.heap.size l (gs.take j) ∧ Below w.heap.size w wr) (fun _ i _ => gs.length - (intOf i).toNat)
  case atStart => exact ⟨0, Nat.zero_le _, rfl, GD.nil _ _, Below.refl _ _⟩
  case round =>
    obtain ⟨j, hj9, rfl, hga, hnx⟩ := hrel
    by_cases hlt : j < gs.length
    · obtain rfl := h3 (by omega)
      have x1 := h4 (by omega)
      have hji : (j : Int) < (gs.length : Int) := by omega
      obtain ⟨d0, d1⟩ := H5.out j (by omega)
      obtain ⟨y0, y1⟩ := H6.out j hlt (by omega)
      have hpos := HNE.out _ (List.getElem_mem hlt)
      have hpl := HPS.out _ (List.getElem_mem hlt)
      have RE : Hid (gs.take (j + 1) = gs.take j ++ [(gs[j].1, gs[j].2)]) := List.take_succ_eq_append_getElem hlt
      rw [y0] at d0
      clear y0
      generalize gs[j].1 = QH at *
      generalize gs[j].2 = QL at *
      generalize qs[j].2 = sq at *
      obtain ⟨b, of2, z1, z2, z3, z4⟩ := y1
      obtain ⟨s1, s2, s3⟩ := sq
      simp only at z1 z2 d1
      obtain rfl := z2 hpos
      subst z1
      have x2 := z3 hpos
      have hlj : (gs.take j).length = j := by rw [List.length_take]; omega
      generalize hT : gs.take j = T at *
      obtain ⟨ms, rfl, hown, hrows, hdis⟩ := hga
      rw [List.length_map] at hlj
      obtain ⟨a3, c3, rfl⟩ := own_shape hown
      have HOWN := hide hown
      have HROWS := hide hrows
      have HDIS := hide hdis
      have HLT : Hid (∀ t ∈ ms, ∀ k, t.2.ownBlock = some k → k < wr.heap.size) := fun t ht k hk => ((hrows t ht).lt k hk).2
      have HNX := hide hnx
      have hsz := hnx.size
      have C : Hid (∀ i u, (pc QL)[i]? = some u → wr.drew.cell? ((⟨b, of2, none⟩ : Addr).add i) = some u) := fun i u hu => lies_cells (z4.below x2 hnx.drew) i u hu
      have hszd : w.heap.size ≤ wr.drew.heap.size := hnx.drew.size
      have e0 : wr.cell? ⟨g, off + j * 2, none⟩ = some (.string QH) := by rw [hnx.cell (by exact x1)]; exact d0
      have e1 : wr.cell? ⟨g, off + j * 2 + 1, none⟩ = some (.slice (some ⟨b, of2, none⟩) QL.length s3) := by rw [hnx.cell (by exact x1)]; exact d1
      obtain ⟨hm1, hm2, hm3, hm4⟩ : ms.length + 1 ≤ maxLen ∧ (ms.length + 1) * 40 ≤ 140737488355328 ∧ 0 + QL.length ≤ maxLen ∧ (0 + QL.length) * 32 ≤ 140737488355328 := by unfold maxLen; omega
      clear hlj
      have HD : Hid (∀ w', Below w.heap.size w w' → w'.cell? ⟨g, off + j * 2, none⟩ = some (.string QH) ∧ w'.cell? ⟨g, off + j * 2 + 1, none⟩ = some (.slice (some ⟨b, of2, none⟩) QL.length s3)) := fun w' hb => by
        rw [hb.cell (by exact x1), hb.cell (by exact x1)]; exact ⟨d0, d1⟩
      clear hown hrows hdis hnx z4 d0 d1 z3 hT e0 e1
      go_wp2_with fail
      refine wp_region_held_drew (S := fun w' => w'.cell? ⟨g, off + j * 2, none⟩ = some (.string QH) ∧ w'.cell? ⟨g, off + j * 2 + 1, none⟩ = some (.slice (some ⟨b, of2, none⟩) QL.length s3)) (by kernel_rfl) (HD.out _ HNX.out.drew) (fun hHeld => ?_)
      refine wpAnyH_take (i := 0) (v := (.slice a3 ms.length c3)) rfl (by kernel_rfl) (by kernel_rfl) (by kernel_rfl) (fun _ _ _ h => h) (Or.inl ⟨by rfl, ?_⟩) (by assumption) ?_
      · intro w' hSw
        (try dsimp only at hSw)
        go_simp <;> first | exact i64_in (by omega) (by omega) | exact u32_in (by omega) (by omega) | exact u32_add _ _ | (rw [Int.tmod_eq_emod_of_nonneg (by omega)]; omega) | (rw [Int.tdiv_eq_ediv_of_nonneg (by omega)]; omega) | omega
      (try simp only [Act.put, List.setIfInBounds_toArray, List.set_cons_zero, List.set_cons_succ])
      refine wpAnyH_take (i := 1) (v := (.slice (some ⟨g, off, none⟩) gs.length cap)) rfl (by kernel_rfl) (by kernel_rfl) (by kernel_rfl) (fun _ _ _ h => h) (Or.inl ⟨by rfl, ?_⟩) (by assumption) ?_
      · intro w' hSw
        (try dsimp only at hSw)
        go_simp <;> first | exact i64_in (by omega) (by omega) | exact u32_in (by omega) (by omega) | exact u32_add _ _ | (rw [Int.tmod_eq_emod_of_nonneg (by omega)]; omega) | (rw [Int.tdiv_eq_ediv_of_nonneg (by omega)]; omega) | omega
      (try simp only [Act.put, List.setIfInBounds_toArray, List.set_cons_zero, List.set_cons_succ])
      refine wpAnyH_take (i := 2) (v := (.int .i64 (j : Int))) rfl (by kernel_rfl) (by kernel_rfl) (by kernel_rfl) (fun _ _ _ h => h) (Or.inl ⟨by rfl, ?_⟩) (by assumption) ?_
      · intro w' hSw
        (try dsimp only at hSw)
        go_simp <;> first | exact i64_in (by omega) (by omega) | exact u32_in (by omega) (by omega) | exact u32_add _ _ | (rw [Int.tmod_eq_emod_of_nonneg (by omega)]; omega) | (rw [Int.tdiv_eq_ediv_of_nonneg (by omega)]; omega) | omega
      (try simp only [Act.put, List.setIfInBounds_toArray, List.set_cons_zero, List.set_cons_succ])
      refine wpAnyH_take (i := 3) (v := (.pointer (some ⟨g, off + j * 2, none⟩))) rfl (by kernel_rfl) (by kernel_rfl) (by kernel_rfl) (fun _ _ _ h => h) (Or.inl ⟨by rfl, ?_⟩) (by assumption) ?_
      · intro w' hSw
        (try dsimp only at hSw)
        go_simp <;> first | exact i64_in (by omega) (by omega) | exact u32_in (by omega) (by omega) | exact u32_add _ _ | (rw [Int.tmod_eq_emod_of_nonneg (by omega)]; omega) | (rw [Int.tdiv_eq_ediv_of_nonneg (by omega)]; omega) | omega
      (try simp only [Act.put, List.setIfInBounds_toArray, List.set_cons_zero, List.set_cons_succ])
      refine wpAnyH_take (i := 4) (v := (.pointer (some ⟨g, off + j * 2, none⟩))) rfl (by kernel_rfl) (by kernel_rfl) (by kernel_rfl) (fun _ _ _ h => h) (Or.inl ⟨by rfl, ?_⟩) (by assumption) ?_
      · intro w' hSw
        (try dsimp only at hSw)
        go_simp <;> first | exact i64_in (by omega) (by omega) | exact u32_in (by omega) (by omega) | exact u32_add _ _ | (rw [Int.tmod_eq_emod_of_nonneg (by omega)]; omega) | (rw [Int.tdiv_eq_ediv_of_nonneg (by omega)]; omega) | omega
      (try simp only [Act.put, List.setIfInBounds_toArray, List.set_cons_zero, List.set_cons_succ])
      refine wpAnyH_take (i := 5) (v := (.string QH)) rfl (by kernel_rfl) (by kernel_rfl) (by kernel_rfl) (fun _ _ _ h => h) (Or.inl ⟨by rfl, ?_⟩) (by assumption) ?_
      · intro w' hSw
        (try dsimp only at hSw)
        (obtain ⟨hS1, hS2⟩ := hSw; go_simp)
      (try simp only [Act.put, List.setIfInBounds_toArray, List.set_cons_zero, List.set_cons_succ])
      refine wpAnyH_take (i := 6) (v := (.slice (some ⟨g, off, none⟩) gs.length cap)) rfl (by kernel_rfl) (by kernel_rfl) (by kernel_rfl) (fun _ _ _ h => h) (Or.inl ⟨by rfl, ?_⟩) (by assumption) ?_
      · intro w' hSw
        (try dsimp only at hSw)
        go_simp <;> first | exact i64_in (by omega) (by omega) | exact u32_in (by omega) (by omega) | exact u32_add _ _ | (rw [Int.tmod_eq_emod_of_nonneg (by omega)]; omega) | (rw [Int.tdiv_eq_ediv_of_nonneg (by omega)]; omega) | omega
      (try simp only [Act.put, List.setIfInBounds_toArray, List.set_cons_zero, List.set_cons_succ])
      refine wpAnyH_take (i := 7) (v := (.int .i64 (j : Int))) rfl (by kernel_rfl) (by kernel_rfl) (by kernel_rfl) (fun _ _ _ h => h) (Or.inl ⟨by rfl, ?_⟩) (by assumption) ?_
      · intro w' hSw
        (try dsimp only at hSw)
        go_simp <;> first | exact i64_in (by omega) (by omega) | exact u32_in (by omega) (by omega) | exact u32_add _ _ | (rw [Int.tmod_eq_emod_of_nonneg (by omega)]; omega) | (rw [Int.tdiv_eq_ediv_of_nonneg (by omega)]; omega) | omega
      (try simp only [Act.put, List.setIfInBounds_toArray, List.set_cons_zero, List.set_cons_succ])
      refine wpAnyH_take (i := 8) (v := (.pointer (some ⟨g, off + j * 2, none⟩))) rfl (by kernel_rfl) (by kernel_rfl) (by kernel_rfl) (fun _ _ _ h => h) (Or.inl ⟨by rfl, ?_⟩) (by assumption) ?_
      · intro w' hSw
        (try dsimp only at hSw)
        go_simp <;> first | exact i64_in (by omega) (by omega) | exact u32_in (by omega) (by omega) | exact u32_add _ _ | (rw [Int.tmod_eq_emod_of_nonneg (by omega)]; omega) | (rw [Int.tdiv_eq_ediv_of_nonneg (by omega)]; omega) | omega
      (try simp only [Act.put, List.setIfInBounds_toArray, List.set_cons_zero, List.set_cons_succ])
      refine wpAnyH_take (i := 9) (v := (.pointer (some ⟨g, off + j * 2 + 1, none⟩))) rfl (by kernel_rfl) (by kernel_rfl) (by kernel_rfl) (fun _ _ _ h => h) (Or.inl ⟨by rfl, ?_⟩) (by assumption) ?_
      · intro w' hSw
        (try dsimp only at hSw)
        go_simp <;> first | exact i64_in (by omega) (by omega) | exact u32_in (by omega) (by omega) | exact u32_add _ _ | (rw [Int.tmod_eq_emod_of_nonneg (by omega)]; omega) | (rw [Int.tdiv_eq_ediv_of_nonneg (by omega)]; omega) | omega
      (try simp only [Act.put, List.setIfInBounds_toArray, List.set_cons_zero, List.set_cons_succ])
      refine wpAnyH_take (i := 10) (v := (.slice (some ⟨b, of2, none⟩) QL.length s3)) rfl (by kernel_rfl) (by kernel_rfl) (by kernel_rfl) (fun _ _ _ h => h) (Or.inl ⟨by rfl, ?_⟩) (by assumption) ?_
      · intro w' hSw
        (try dsimp only at hSw)
        (obtain ⟨hS1, hS2⟩ := hSw; go_simp)
      (try simp only [Act.put, List.setIfInBounds_toArray, List.set_cons_zero, List.set_cons_succ])
      refine wpAnyH_ready (rs := [11]) (by kernel_rfl) (by simp) ?_
      refine AllReadyH.cons rfl (fun K hK => ?_) AllReadyH.nil
      refine ite_yes (by rfl) ?_
      refine wp_append_own wr.drew (.const (.slice none 0 0)) (.tmp 21) 38 ?hho wr.drew.heap.size 55 i1 (.agg #[.string ⟨#[]⟩, .string ⟨#[]⟩]) 2 32 Try.underlying38 hj hy0 hy1 hy2 ?hzs (by decide) (.slice none 0 0) 0 [] ?hhs ?hhn ⟨b, of2, none⟩ QL.length s3 (pc QL) ?hhx (pc_len _) ?hhc (pc_one _) hm3 hm4 (Nat.le_refl _) ?hhk
      case hho => rfl
      case hzs => rfl
      case hhs => rfl
      case hhx => kernel_rfl
      case hhn => exact World.ownsRow_nil _ _ _ _
      case hhc => exact C.out
      intro v1 w1 o1 g1 n1
      clear n1
      rw [Nat.zero_add, List.nil_append] at o1
      have b1 := ((Below.refl wr.heap.size wr).drew).grown g1 (Nat.le_refl _) (by intro k hk; cases hk)
      have B1 := hide (HNX.out.trans (b1.mono hsz))
      have OW := hide (own_below HOWN.out b1)
      have RW := hide (fun t ht => own_below (HROWS.out t ht) b1)
      obtain ⟨a1, c1, rfl⟩ := own_shape o1
      have O1F := hide o1
      have O1 := hide (own_base o1 hszd)
      have s1 := B1.out.size
      clear o1 g1 b1
      refine hK.out _ _ (HD.out _ B1.out) (fun hHeld => ?_)
      clear hK
      (try simp only [Act.put, List.setIfInBounds_toArray, List.set_cons_zero, List.set_cons_succ])
      refine wpAnyH_take (i := 12) (v := (.agg #[.string QH, .slice a1 QL.length c1])) rfl (by kernel_rfl) (by kernel_rfl) (by kernel_rfl) (fun _ _ _ h => h) (Or.inl ⟨by rfl, ?_⟩) (by assumption) ?_
      · intro w' hSw
        (try dsimp only at hSw)
        go_simp <;> first | exact i64_in (by omega) (by omega) | exact u32_in (by omega) (by omega) | exact u32_add _ _ | (rw [Int.tmod_eq_emod_of_nonneg (by omega)]; omega) | (rw [Int.tdiv_eq_ediv_of_nonneg (by omega)]; omega) | omega
      (try simp only [Act.put, List.setIfInBounds_toArray, List.set_cons_zero, List.set_cons_succ])
      refine wpAnyH_ready (rs := [13]) (by kernel_rfl) (by simp) ?_
      refine AllReadyH.cons rfl (fun K hK => ?_) AllReadyH.nil
      go_simp
      refine hK.out _ _ (HD.out _ (B1.out.alloc s1 _)) (fun hHeld => ?_)
      clear hK
      (try simp only [Act.put, List.setIfInBounds_toArray, List.set_cons_zero, List.set_cons_succ])
      refine wpAnyH_ready (rs := [14]) (by kernel_rfl) (by simp) ?_
      refine AllReadyH.cons rfl (fun K hK => ?_) AllReadyH.nil
      refine ite_yes (by rfl) ?_
      refine wp_append_own (w1.alloc (.cells #[.string QH, .slice a1 QL.length c1] 41)) (.tmp 11) (.tmp 24) 24 ?jhho w.heap.size 41 i0 (.agg #[.string ⟨#[]⟩, .slice none 0 0]) 2 40 Try.underlying24 hi hz0 hz1 hz2 ?jhzs (by decide) (.slice a3 ms.length c3) ms.length (gcell ms) ?jhhs (OW.out.alloc _) ⟨w1.heap.size, 0, none⟩ 1 1 (gcell [((QH, QL), .slice a1 QL.length c1)]) ?jhhx (g_one_len _ _ _) (cell_grp _ QH QL _) (g_one _ _ _ rfl) hm1 hm2 (le_alloc s1) ?jhhk
      case jhho => rfl
      case jhzs => rfl
      case jhhs => kernel_rfl
      case jhhx => kernel_rfl
      intro v2 w2 o2 g2 n2
      clear n2
      have N2 := hide (app_below (n := 0) B1.out s1 OW.out g2)
      have GA2 : Hid (GD w2 w.heap.size v2 (ms.map Prod.fst ++ [(QH, QL)])) := by
        have e : GD w2 w.heap.size v2 (ms.map Prod.fst ++ [(QH, QL)]) := by
          refine ⟨ms ++ [((QH, QL), .slice a1 QL.length c1)], by rw [List.map_append]; rfl, by rw [gcell_append, List.length_append]; exact o2, fun t ht => ?_, List.pairwise_append.2 ⟨HDIS.out, List.pairwise_singleton _ _, fun a ha b hb k hk hk2 => ?_⟩⟩
          · rcases List.mem_append.1 ht with ht | ht
            · exact row_type (own_below (RW.out t ht) ((Below.refl _ w1).alloc (Nat.le_refl _) _)) (own_below OW.out ((Below.refl _ w1).alloc (Nat.le_refl _) _)) (by decide) g2
            · obtain rfl : t = ((QH, QL), .slice a1 QL.length c1) := by simpa using ht
              exact row_type (own_below O1.out ((Below.refl _ w1).alloc (Nat.le_refl _) _)) (own_below OW.out ((Below.refl _ w1).alloc (Nat.le_refl _) _)) (by decide) g2
          · rw [List.mem_singleton] at hb
            subst hb
            have q1 := HLT.out a ha k hk
            have q2 : wr.heap.size ≤ k := (O1F.out.lt k hk2).1
            omega
        exact e
      clear o2 g2
      refine hK.out _ _ (HD.out _ N2.out) (fun hHeld => ?_)
      clear hK
      (try simp only [Act.put, List.setIfInBounds_toArray, List.set_cons_zero, List.set_cons_succ])
      refine wpAnyH_ready (rs := [15]) (by kernel_rfl) (by simp) ?_
      refine AllReadyH.cons rfl (fun K hK => ?_) AllReadyH.nil
      go_simp
      refine hK.out _ _ (HD.out _ N2.out) (fun hHeld => ?_)
      clear hK
      (try simp only [Act.put, List.setIfInBounds_toArray, List.set_cons_zero, List.set_cons_succ])
      refine wpAnyH_done (by kernel_rfl) ?_ _
      go_wp2_with fail
      go_roundw
      case rel => exact ⟨j + 1, by omega, by go_num, by rw [RE.out]; exact GA2.out, N2.out⟩
      case measure => simp [intOf]; omega
    · obtain rfl : j = gs.length := by omega
      have HGA := hide hga
      have HNX := hide hnx
      clear hnx hga
      have hji : ¬ ((gs.length : Int) < (gs.length : Int)) := by omega
      rw [List.take_length] at HGA
      go_wp2_with fail
      go_ret
      exact ⟨_, rfl, HGA.out, HNX.out⟩
end Go.Proofs.Ytfmmfophdfjopaa
