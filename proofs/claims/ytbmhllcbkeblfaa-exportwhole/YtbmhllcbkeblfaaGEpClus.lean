import Derived.Test.YtbmhllcbkeblfaaGEpApp
import Derived.Test.YtbmhllcbkeblfaaGGcName
import Derived.Test.YtbmhllcbkeblfaaGCaBase
import Derived.Test.YtbmhllcbkeblfaaGEpNo
import Derived.Test.YtbmhllcbkeblfaaGEpCopy
import Derived.Test.YtbmhllcbkeblfaaGEwPure
namespace Go.Proofs.Ytbmhllcbkeblfaa.Cn
open Go.RowKit
theorem wpList_apIB {w : World} {ops : Array Oper} {rest : List Oper} {o : Oper} {a : Act} {Q : Exit → Act → World → Prop} (hgd : o.guard = none) (x y : Operand) (ho : o.op = .call { callee := .builtin .append, args := #[x, y], argTypes := #[47, 47] }) (base : Nat) (v : Value) (n : Nat) (L : List Int) (hx : a.eval x = v) (hv : w.ownsRow base 3 1 v n (ints L)) (g : Nat) (m : Int) (hy : a.eval y = .slice (some ⟨g, 0, none⟩) 1 1) (hg : w.heap[g]? = some (.cells #[.int .i64 m] 3)) (hl : n < 17592186043904) (hb : base ≤ w.heap.size)
    (h : ∀ v' w', w'.ownsRow base 3 1 v' (n + 1) (ints (L ++ [m])) → w.grownBy w' v.ownBlock → (v'.ownBlock = v.ownBlock ∨ v'.ownBlock = some w.heap.size) → wpList Try.prog ops Q rest (a.put o.dst v') w') : wpList Try.prog ops Q (o :: rest) a w := by
  obtain ⟨i0, hi, hz0, hz1, hz2⟩ := info_parts int_infos
  refine wpList_append_own_at _ hgd _ _ 47 ho base 3 i0 _ 1 8 Try.underlying47 hi hz0 hz1 hz2 rfl (by decide) _ _ _ hx hv ⟨g, 0, none⟩ 1 1 (ints [m]) hy rfl ?_ (ints_one _) (by unfold maxLen; omega) (by omega) hb ?_
  · intro j u hj
    rw [Addr.add_mid, Nat.zero_add, cell_row hg]
    simpa [ints] using hj
  · intro v' w' h1 h2 _ h4
    rw [← ints_append] at h1
    exact h v' w' h1 h2 h4
set_option maxHeartbeats 16000000 in
set_option maxRecDepth 100000 in
set_option linter.unusedSimpArgs false in
set_option linter.unusedVariables false in
theorem cluster_any (N : Nat) (w : World) (st : ByteArray) (x : Nat → Int) (ao : Option Addr) (b o cap : Nat) (pv : Nat → Value) (ns : List ND) (h : NsAt N w ao b o pv ns) (hN : N ≤ w.heap.size) :
    Calls Try.prog 10 #[.agg (clA st x (.slice ao ns.length cap))] w fun e w' => ∃ vl zs, e = .returned (.agg (clA st x vl)) ∧ zs.length = ns.length ∧ Tw (w.heap.size + 2) w' ns vl zs ∧ Below w.heap.size w w' := by
  have hps : ∀ (q : Nat) (hq : q < ns.length), ns[q].ps.length ≤ 17592186043904 := fun q hq => by
    obtain ⟨_, _, _, _, _, hp⟩ := h.ps q hq
    exact hp.len
  have hns := h.len
  obtain ⟨W0, hW0⟩ : ∃ W0, W0 = (w.alloc (.cells (clA st x (.slice ao ns.length cap)) 24)).alloc (.cells (clA ⟨#[]⟩ zx (.slice none 0 0)) 24) := ⟨_, rfl⟩
  have B0 : Hid (Below w.heap.size w W0) := by rw [hW0]; exact ((Below.refl _ _).alloc (Nat.le_refl _) _).alloc (by simp) _
  have C0 : Hid (ClAt W0 w.heap.size st x (.slice ao ns.length cap)) := by rw [hW0]; exact (new_cl _ _ _ _).below ((Below.refl _ _).alloc (Nat.le_refl _) _)
  have R0 : Hid (ClAt W0 (w.heap.size + 1) ⟨#[]⟩ zx (.slice none 0 0)) := by
    rw [hW0]
    have := new_cl (w.alloc (.cells (clA st x (.slice ao ns.length cap)) 24)) ⟨#[]⟩ zx (.slice none 0 0)
    simp only [World.size_alloc] at this
    exact this
  have s0 : Hid (W0.heap.size = w.heap.size + 2) := by rw [hW0]; show _ = _; simp
  have HN := hide h
  have hlen := h.len
  clear h
  obtain ⟨i0, hi0, hz0, hz1, hz2⟩ := Ytbmhllcbkeblfaa.info_parts infoNd
  have HI : Hid (Try.prog.info? 79 = some i0 ∧ i0.zero = some (.agg #[.int .i64 0, .slice none 0 0]) ∧ i0.size = 2 ∧ i0.bytes = 32) := ⟨hi0, hz0, hz1, hz2⟩
  clear hi0 hz0 hz1 hz2
  go_enter Try.func10, Try.ntmps10
  go_upto_region 1 with fail
  rw [show (w.alloc (.cells (clA st x (.slice ao ns.length cap)) 24)).alloc (.cells #[.string ⟨#[]⟩, .int .i64 0, .int .i64 0, .int .i64 0, .int .i64 0, .int .i64 0, .int .i64 0, .int .i64 0, .int .i64 0, .int .i64 0, .int .i64 0, .int .i64 0, .int .i64 0, .int .i64 0, .int .i64 0, .int .i64 0, .int .i64 0, .int .i64 0, .int .i64 0, .int .i64 0, .int .i64 0, .int .i64 0, .slice none 0 0] 24) = W0 from hW0.symm]
  clear hW0
  go_wp2_with fail
  go_loopw [3, 4, 5, 6] (fun vl vi _ _ wr => ∃ (zs : List (Int × Value)), zs.length ≤ ns.length ∧ vi = .int .i64 (zs.length : Int) ∧ Tw W0.heap.size wr ns vl zs ∧ Below W0.heap.size W0 wr) (fun _ vi _ _ _ => ns.length - (intOf vi).toNat)
  case atStart => exact ⟨[], Nat.zero_le _, rfl, ⟨World.ownsRow_nil _ _ _ _, fun q hq => absurd hq (Nat.not_lt_zero _), fun q hq => absurd hq (Nat.not_lt_zero _)⟩, Below.refl _ _⟩
  case round =>
    obtain ⟨zs, hq, rfl, hT, hB⟩ := hrel
    have HT := hide hT
    have HB := hide hB
    clear hT hB
    obtain ⟨ba, cp, hv⟩ := own_sl HT.out.row
    subst hv
    by_cases hql : zs.length < ns.length
    case pos =>
      have hao := HN.out.at0 (by omega)
      subst hao
      have hqi : (zs.length : Int) < (ns.length : Int) := by omega
      obtain ⟨pa, pb, po, pc, hpv, hp⟩ := HN.out.ps zs.length hql
      have P0 := hide hp
      have hpl := hps zs.length hql
      have CC : Hid (∀ Y, Below W0.heap.size W0 Y → Y.cell? ⟨w.heap.size, 22, none⟩ = some (.slice (some ⟨b, o, none⟩) ns.length cap) ∧ Y.cell? ⟨b, o + zs.length * 2, none⟩ = some (.int .i64 ns[zs.length].z) ∧ Y.cell? ⟨b, o + zs.length * 2 + 1, none⟩ = some (.slice pa ns[zs.length].ps.length pc)) := fun Y hY => by
        have hN0 := HN.out.below ((B0.out.trans (hY.mono B0.out.size)).mono hN)
        refine ⟨(C0.out.below hY).nv, hN0.cz _ hql, ?_⟩
        rw [← hpv]
        exact hN0.cp _ hql
      have PP : Hid (∀ Y, Below W0.heap.size W0 Y → PsAt N Y pa pb po ns[zs.length].ps) := fun Y hY => P0.out.below ((B0.out.trans (hY.mono B0.out.size)).mono hN)
      clear hpv hp P0
      have TS := hide (fun X1 X3 vl' v1 => HT.out.step (X1 := X1) (X3 := X3) (vl' := vl') (v1 := v1) hql)
      have nvw := (CC.out _ HB.out).1
      have hnn : ns.length ≤ 4398046510976 := hlen
      generalize hzz : ns[zs.length].z = z at *
      generalize hpp : ns[zs.length].ps = ps at *
      clear hzz hpp
      go_wp2_with fail
      clear nvw
      generalize wr = wo at *
      go_loopw [5, 6] (fun v5 vk wr => ∃ (j : Nat) (a5 : Option Addr) (c5 : Nat) (QQ : List Int), j ≤ ps.length ∧ vk = .int .i64 (j : Int) ∧ QQ = ps.take j ∧ v5 = .slice a5 QQ.length c5 ∧ wr.ownsRow W0.heap.size 3 1 (.slice a5 QQ.length c5) QQ.length (ints QQ) ∧ (∀ k, (Value.slice a5 QQ.length c5).ownBlock = some k → wo.heap.size ≤ k) ∧ Kp wo wr non) (fun _ vk _ => ps.length - (intOf vk).toNat)
      case atStart => exact ⟨0, none, 0, [], Nat.zero_le _, rfl, rfl, rfl, World.ownsRow_nil _ _ _ _, fun k e => by simp [Value.ownBlock] at e, Kp.refl _ _⟩
      case round =>
        obtain ⟨j, a5, c5, QQ, hj, rfl, hQ, rfl, ho, hge, hk⟩ := hrel
        have HQ := hide hQ
        have HO := hide ho
        have HGE := hide hge
        have HK := hide hk
        have bq : Below W0.heap.size W0 wr := HB.out.trans (hk.below.mono HB.out.size)
        obtain ⟨y1, y2, y3⟩ := CC.out wr bq
        have PQ := PP.out wr bq
        have BQ := hide bq
        clear hQ ho hge hk bq
        by_cases hjl : j < ps.length
        case pos =>
          have hji : (j : Int) < (ps.length : Int) := by omega
          obtain rfl := PQ.at0 (by omega)
          have cj := PQ.c j hjl
          have hQl : QQ.length < 17592186043904 := by
            rw [HQ.out, List.length_take]
            omega
          have HQ1 : Hid (QQ ++ [ps[j]] = ps.take (j + 1)) := by show _ = _; rw [HQ.out, List.take_succ_eq_append_getElem hjl]
          generalize ps[j] = pj at *
          obtain ⟨W4, hW4⟩ : ∃ W4, W4 = wr.alloc (.cells #[.int .i64 pj] 3) := ⟨_, rfl⟩
          have k4 : Kp wr W4 non := by rw [hW4]; exact (Kp.refl wr non).alloc _
          have GG : Hid (W4.heap[wr.heap.size]? = some (.cells #[.int .i64 pj] 3)) := by rw [hW4]; exact heap_last _ _
          have O4 := hide (own_kp HO.out k4 (fun _ _ f => f))
          have K4 : Hid (Kp wo W4 non) := HK.out.trans k4 (fun _ f => f.elim)
          have hz4 : Hid (W0.heap.size ≤ W4.heap.size ∧ wo.heap.size ≤ W4.heap.size) := ⟨Nat.le_trans BQ.out.size k4.size, K4.out.size⟩
          clear k4 PQ
          go_wp2_with (at_builtin; rw [← hW4]; refine wpList_apIB rfl (.tmp 25) (.tmp 35) rfl W0.heap.size _ QQ.length QQ rfl O4.out wr.heap.size pj rfl GG.out hQl hz4.out.1 ?_; intro v' w' o2 g2 n2; have O5 := hide o2; have KG := hide (Kp.of_grown g2); have N5 := hide n2; clear o2 g2 n2)
          obtain ⟨a6, c6, rfl⟩ := own_sl O5.out
          have K5 : Hid (Kp wo w' non) := K4.out.trans KG.out (fun k e => Or.inr (HGE.out k e.symm))
          have GE5 : Hid (∀ k, (Value.slice a6 (QQ.length + 1) c6).ownBlock = some k → wo.heap.size ≤ k) := fun k e => by
            rcases N5.out with r | r
            · exact HGE.out k (r.symm.trans e)
            · rw [e] at r
              simp at r
              have := hz4.out.2
              omega
          go_roundw
          case rel => exact ⟨j + 1, a6, c6, QQ ++ [pj], by omega, by go_num, HQ1.out, by rw [List.length_append]; rfl, by rw [List.length_append]; exact O5.out, by rw [List.length_append]; exact GE5.out, K5.out⟩
          case measure => simp [intOf]; omega
        case neg =>
          obtain rfl : j = ps.length := by omega
          have hQe := HQ.out
          rw [List.take_length] at hQe
          subst hQe
          have G1 : Below wo.heap.size wo wr := HK.out.below
          obtain ⟨W5, hW5⟩ : ∃ W5, W5 = wr.alloc (.cells #[.int .i64 z, .slice a5 QQ.length c5] 79) := ⟨_, rfl⟩
          have T1 : Hid (Tw W0.heap.size W5 ns (.slice ba zs.length cp) zs) := by rw [hW5]; exact (HT.out.keep G1).keep ((Below.refl _ _).alloc (Nat.le_refl _) _)
          have NC := hide (nd_cells wr z (.slice a5 QQ.length c5))
          rw [← hW5] at NC
          have hb5 : Hid (W0.heap.size ≤ W5.heap.size) := by rw [hW5]; exact Nat.le_trans BQ.out.size (by simp)
          have BB5 : Hid (Below W0.heap.size W0 W5) := by rw [hW5]; exact BQ.out.alloc BQ.out.size _
          have GN : Hid (wo.grownBy wr none) := ⟨G1.os, G1.tape, G1.output, G1.size, fun i hi _ => G1.block i hi⟩
          have HW5 : Hid (W5 = wr.alloc (.cells #[.int .i64 z, .slice a5 QQ.length c5] 79)) := hW5
          have hzl2 : zs.length < 4398046510976 := by omega
          clear PQ G1
          go_wp2_with (first
            | refine wpList_blR rfl 79 #[(0, .tmp 43), (1, .tmp 44)] rfl #[.int .i64 z, .slice a5 QQ.length c5] (built_nd _ _ _ _) ?_
            | refine wpList_plain rfl fun _ hK => wp_bsNd (.tmp 45) rfl rfl (hK _ _ ?_)
            | (at_builtin; rw [← hW5]; refine wpList_append_own_at _ rfl (.tmp 37) (.tmp 46) 22 rfl W0.heap.size 79 i0 _ 2 32 Try.underlying22 HI.out.1 HI.out.2.1 HI.out.2.2.1 HI.out.2.2.2 rfl (by decide) (.slice ba zs.length cp) zs.length (ndc zs) rfl T1.out.row ⟨wr.heap.size, 0, none⟩ 1 1 (ndc [(z, .slice a5 QQ.length c5)]) rfl rfl NC.out (nd_one rfl) (by unfold maxLen; omega) (by omega) hb5.out ?_; intro vl' X3 o3 g3 _ _; have O3 := hide o3; have G3 := hide g3; clear o3 g3))
          have g3' := G3.out
          rw [HW5.out] at g3'
          have T3 := hide (TS.out wr X3 vl' _ HO.out GN.out O3.out g3')
          have S3 : Hid (Below W0.heap.size W0 X3) := BB5.out.grown G3.out hb5.out (fun j hj => (Ytbmhllcbkeblfaa.own_lt T1.out.row hj).1)
          clear g3' hW5
          obtain ⟨ba', cp', hvl'⟩ := own_sl O3.out
          subst hvl'
          go_roundw
          case rel => exact ⟨zs ++ [(z, .slice a5 QQ.length c5)], by simp; omega, by simp, T3.out, S3.out⟩
          case measure => simp [intOf]; omega
    case neg =>
      have hqe : zs.length = ns.length := by omega
      rw [hqe] at HT ⊢
      have hqi : ¬ (ns.length : Int) < (ns.length : Int) := by omega
      have CW := C0.out.below HB.out
      have nvw := CW.nv
      have fvw : wr.frozen? ⟨w.heap.size, 22, none⟩ = false := fz_row CW 22
      obtain ⟨X6, hX6⟩ : ∃ X6, X6 = wr.setCell ⟨w.heap.size, 22, none⟩ (.slice ba ns.length cp) := ⟨_, rfl⟩
      have C6 : Hid (ClAt X6 w.heap.size st x (.slice ba ns.length cp)) := by rw [hX6]; exact CW.set _
      have B6 : Hid (Below w.heap.size w X6) := by rw [hX6]; exact set_below (B0.out.trans (HB.out.mono B0.out.size)) (Nat.le_refl _)
      have k6 : Kp wr X6 (fun k => k = w.heap.size) := by rw [hX6]; exact (Kp.refl wr (fun k => k = w.heap.size)).set (Or.inl rfl) _ _
      have R5 : ClAt wr (w.heap.size + 1) ⟨#[]⟩ zx (.slice none 0 0) := (HB.out.block _ (by have := s0.out; omega)).trans R0.out
      have R6 : Hid (ClAt X6 (w.heap.size + 1) ⟨#[]⟩ zx (.slice none 0 0)) := (k6.block _ (blk_lt R5) (by omega)).trans R5
      have T6 : Hid (Tw W0.heap.size X6 ns (.slice ba ns.length cp) zs) := ⟨own_keep HT.out.row fun g hg => k6.block g (Ytbmhllcbkeblfaa.own_lt HT.out.row hg).2 (by have := (Ytbmhllcbkeblfaa.own_lt HT.out.row hg).1; have := s0.out; omega), HT.out.z, fun q hq hq' => own_keep (HT.out.p q hq hq') fun g hg => k6.block g (Ytbmhllcbkeblfaa.own_lt (HT.out.p q hq hq') hg).2 (by have := (Ytbmhllcbkeblfaa.own_lt (HT.out.p q hq hq') hg).1; have := s0.out; omega)⟩
      clear CW k6 R5 HN hqi
      go_upto_region 12 with fail
      rw [← hX6]
      clear hX6 nvw fvw
      go_wp2_with (first | (refine wpList_loadCl rfl (.tmp 1) rfl w.heap.size st x _ rfl C6.out ?_) | (refine wpList_store_row rfl 24 (.tmp 2) (.tmp 50) rfl (w.heap.size + 1) (clA st x (.slice ba ns.length cp)) rfl rfl 24 _ R6.out infoCl rfl (clA_one st x rfl) ?_))
      have E6 : ClAt (X6.setRow (w.heap.size + 1) (clA st x (.slice ba ns.length cp))) (w.heap.size + 1) st x (.slice ba ns.length cp) := setRow_heap X6 (w.heap.size + 1) _ _ 24 _ R6.out
      have oth : ∀ i, i ≠ w.heap.size + 1 → (X6.setRow (w.heap.size + 1) (clA st x (.slice ba ns.length cp))).heap[i]? = X6.heap[i]? := fun i hi => setRow_other X6 (w.heap.size + 1) i _ (fun e => hi (by first | exact e | exact e.symm))
      have T7 : Tw W0.heap.size (X6.setRow (w.heap.size + 1) (clA st x (.slice ba ns.length cp))) ns (.slice ba ns.length cp) zs := ⟨own_keep T6.out.row fun g hg => oth g (by have := (Ytbmhllcbkeblfaa.own_lt T6.out.row hg).1; have := s0.out; omega), T6.out.z, fun q hq hq' => own_keep (T6.out.p q hq hq') fun g hg => oth g (by have := (Ytbmhllcbkeblfaa.own_lt (T6.out.p q hq hq') hg).1; have := s0.out; omega)⟩
      rw [s0.out] at T7
      have B7 : Below w.heap.size w (X6.setRow (w.heap.size + 1) (clA st x (.slice ba ns.length cp))) := below_setRow B6.out (by omega) _
      refine bodyPost_ret (v := .agg (clA st x (.slice ba ns.length cp))) (res_cl Try.results10 _ st x _ _ (w.heap.size + 1) rfl E6) rfl (by first | exact ⟨_, rfl, zs, hqe, T7, B7⟩ | exact ⟨_, zs, rfl, hqe, T7, B7⟩)
end Go.Proofs.Ytbmhllcbkeblfaa.Cn
namespace Go.Proofs.Ytbmhllcbkeblfaa.Cn
open Go.RowKit
/-- a step of a script -/
structure Sp where
  k : Int
  n : Int
  v : Int
  m : Mg
def spV (s : Sp) : Array Value := #[.int .i64 s.k, .int .i64 s.n, .int .i64 s.v, .int .i64 s.m.kind, .int .i64 s.m.fr, .int .i64 s.m.td, .int .i64 s.m.id, .int .i64 s.m.ep, .int .i64 s.m.sq, .int .i64 s.m.ver, .int .i64 s.m.prev, .int .i64 s.m.code, .string s.m.key, .string s.m.val]
/-- rows of k cells that are handed in -/
structure RwAt {α : Type} (k : Nat) (V : α → Array Value) (N : Nat) (w : World) (ao : Option Addr) (b o : Nat) (L : List α) : Prop where
  at0 : 0 < L.length → ao = some ⟨b, o, none⟩
  lt : 0 < L.length → b < N
  c : ∀ (q : Nat) (h : q < L.length) (j : Nat) (u : Value), (V L[q])[j]? = some u → w.cell? ⟨b, o + q * k + j, none⟩ = some u
  len : L.length ≤ 9223372036854775807
theorem RwAt.below {α : Type} {k : Nat} {V : α → Array Value} {N : Nat} {w w' : World} {ao : Option Addr} {b o : Nat} {L : List α} (h : RwAt k V N w ao b o L) (hb : Below N w w') : RwAt k V N w' ao b o L :=
  ⟨h.at0, h.lt, fun q hq j u hj => (hb.cell (h.lt (by omega))).trans (h.c q hq j u hj), h.len⟩
theorem sp_info : (Try.prog.info? 38).map (·.size) = some 14 := by kernel_rfl
theorem sp_one (s : Sp) : (spV s).all (·.oneCell') = true := by simp [spV, Value.oneCell']
/-- texts that can be copied -/
def MgFit (m : Mg) : Prop := m.key.size ≤ 281474976710656 ∧ m.val.size ≤ 281474976710656
end Go.Proofs.Ytbmhllcbkeblfaa.Cn
namespace Go.Proofs.Ytbmhllcbkeblfaa.Cn
open Go.RowKit
theorem keep_up (e : Ex) (p : Nat) : (upX e p).rows = e.rows ∧ (upX e p).gw = e.gw := by unfold upX; split <;> exact ⟨rfl, rfl⟩
theorem keep_lv (e : Ex) : (lvX e).rows = e.rows ∧ (lvX e).gw = e.gw := by
  unfold lvX
  split
  · exact ⟨rfl, rfl⟩
  · exact keep_up (missX e) _
theorem keep_hear (e : Ex) (m : Mg) : (hearX e m).rows = e.rows ∧ (hearX e m).gw = e.gw := by
  unfold hearX
  split
  · exact keep_up (doneX e) _
  · split
    · exact ⟨rfl, rfl⟩
    · exact keep_lv e
theorem keep_take (e : Ex) (m : Mg) : (takeX e m).rows = e.rows ∧ (takeX e m).gw = e.gw := by
  unfold takeX
  split
  · exact keep_hear e m
  · exact ⟨rfl, rfl⟩
theorem keep_tick (e : Ex) : (tickX e).rows = e.rows ∧ (tickX e).gw = e.gw := by
  unfold tickX
  split
  · exact keep_lv (nowX e)
  · exact ⟨rfl, rfl⟩
theorem keep_beg (e : Ex) (v : Int) : (begX e v).rows = e.rows ∧ (begX e v).gw = e.gw := by
  unfold begX
  split
  · exact keep_up (jobX e v) _
  · exact ⟨rfl, rfl⟩
theorem exec_remi {ρ : Operand → Value} {op : Oper} {w : World} {a b : Int} {t2 : TypeId} (x y : Operand) (ho : op.op = .binOp .rem 3 x y t2) (hx : ρ x = .int .i64 a) (hy : ρ y = .int .i64 b) (h0 : 0 < b) (h1 : b < 9223372036854775808) : (execOp ρ op).run Try.prog w = .ok (.value (.int .i64 (a.tmod b))) w := by
  unfold execOp
  simp only [ho, hx, hy]
  obtain ⟨_, _, t3, t4⟩ := tm_facts a b h0
  have hb0 : ¬ b = 0 := by omega
  have hb1 : ¬ b = -1 := by omega
  have e := wrap_in (x := a.tmod b) (by omega) (by omega)
  go_simp
theorem wpList_remG {w : World} {ops : Array Oper} {rest : List Oper} {op : Oper} {a : Act} {Q : Exit → Act → World → Prop} {t2 : TypeId} (x y : Operand) (ho : op.op = .binOp .rem 3 x y t2) (hw : Region.wanted op (yielded ops a.tmps) = true) (A B : Int) (hx : a.eval x = .int .i64 A) (hy : a.eval y = .int .i64 B) (h0 : 0 < B) (h1 : B < 9223372036854775808) (C : Int) (hC : A.tmod B = C) (h : wpList Try.prog ops Q rest (a.put op.dst (.int .i64 C)) w) : wpList Try.prog ops Q (op :: rest) a w := by
  subst hC
  refine wpList_step fun K hK => ?_
  rw [if_pos hw]
  exact wp_exec (exec_remi x y ho hx hy h0 h1) (hK _ _ h)
/-- what the law keeps: the exporter, the definition, what lies below -/
structure Eg (w : World) (N : Nat) (st : ByteArray) (x : Nat → Int) (ao : Option Addr) (b o cap : Nat) (pv : Nat → Value) (ns : List ND) (R X i : Nat) (v : Ex) (Z : Zz) (wr : World) : Prop where
  ex : ExAt wr X v Z
  ok : Eok v R i
  rl : v.rows.length = ptN ns
  gw : v.gw = x 17
  ge : ∀ k, Ap X Z k → w.heap.size ≤ k
  sd : Stand N w.heap.size wr st x ao b o cap pv ns
  be : Below w.heap.size w wr
section
variable {w : World} {N : Nat} {st : ByteArray} {x : Nat → Int} {ao : Option Addr} {b o cap : Nat} {pv : Nat → Value} {ns : List ND} {R X i i' : Nat} {v v' : Ex} {Z Z' : Zz} {wr w' : World}
theorem Eg.next (h : Eg w N st x ao b o cap pv ns R X i v Z wr) (hN : N ≤ w.heap.size) (l : Lv wr w' X Z v' Z') (ok : Eok v' R i') (hr : v'.rows = v.rows ∧ v'.gw = v.gw) : Eg w N st x ao b o cap pv ns R X i' v' Z' w' := by
  have ge : ∀ k, Fp X Z k → w.heap.size ≤ k := fun k e => h.ge k (Or.inl e)
  have k := l.kp
  refine ⟨l.at_, ok, by rw [hr.1]; exact h.rl, by rw [hr.2]; exact h.gw, fun k' e => ?_, ⟨(k.block _ (blk_lt h.sd.cl) (fun e => ?_)).trans h.sd.cl, h.sd.nd.below ⟨k.os, k.tape, k.output, k.size, fun j hj => k.block j (Nat.lt_of_lt_of_le hj h.sd.le) (fun e => by have := ge _ e; omega)⟩, Nat.le_trans h.sd.le k.size⟩, h.be.trans ⟨k.os, k.tape, k.output, k.size, fun j hj => k.block j (Nat.lt_of_lt_of_le hj h.be.size) (fun e => by have := ge _ e; omega)⟩⟩
  · rcases l.gr k' e with q | q
    · exact h.ge k' q
    · have := h.be.size
      omega
  · exact h.ex.not h.sd.cl (by decide) (Or.inl e)
theorem Eg.same (h : Eg w N st x ao b o cap pv ns R X i v Z wr) (hN : N ≤ w.heap.size) (hk : Kp wr w' non) : Eg w N st x ao b o cap pv ns R X i v Z w' := h.next hN (Lv.same h.ex hk) h.ok ⟨rfl, rfl⟩
theorem Eg.more (h : Eg w N st x ao b o cap pv ns R X i v Z wr) (hi : i ≤ i') : Eg w N st x ao b o cap pv ns R X i' v Z wr := ⟨h.ex, h.ok.more hi, h.rl, h.gw, h.ge, h.sd, h.be⟩
end
end Go.Proofs.Ytbmhllcbkeblfaa.Cn
namespace Go.Proofs.Ytbmhllcbkeblfaa.Cn
open Go.RowKit
/-- a talk, as cells -/
def tkA (X : Nat) (t : Tk) (ov mv : Value) : Array Value := #[.pointer (some ⟨X, 0, none⟩), .int .i64 t.q.kind, .int .i64 t.q.fr, .int .i64 t.q.td, .int .i64 t.q.id, .int .i64 t.q.ep, .int .i64 t.q.sq, .int .i64 t.q.ver, .int .i64 t.q.prev, .int .i64 t.q.code, .string t.q.key, .string t.q.val, .bool t.op, ov, .int .i64 t.pt, .int .i64 t.lf, mv, .int .i64 t.st]
structure TkAt (w : World) (T X : Nat) (t : Tk) (ov mv : Value) : Prop where
  blk : w.heap[T]? = some (.cells (tkA X t ov mv) 57)
  ov : w.ownsRow 0 36 11 ov t.old.length (mgs t.old)
  mv : w.ownsRow 0 3 1 mv t.ms.length (ints t.ms)
section
variable {w w' : World} {T X : Nat} {t t' : Tk} {ov mv : Value} {S : Nat → Prop}
theorem TkAt.kp (h : TkAt w T X t ov mv) (hk : Kp w w' S) (hS : ∀ k, (k = T ∨ ov.ownBlock = some k ∨ mv.ownBlock = some k) → ¬ S k) : TkAt w' T X t ov mv :=
  ⟨(hk.block _ (blk_lt h.blk) (hS _ (Or.inl rfl))).trans h.blk, own_kp h.ov hk (fun k e => hS k (Or.inr (Or.inl e))), own_kp h.mv hk (fun k e => hS k (Or.inr (Or.inr e)))⟩
theorem TkAt.nO (h : TkAt w T X t ov mv) : ∀ k, ov.ownBlock = some k → k ≠ T := fun k e q => by
  obtain ⟨c, hc⟩ := own_typ h.ov e
  rw [q, h.blk] at hc
  simp at hc
theorem TkAt.nM (h : TkAt w T X t ov mv) : ∀ k, mv.ownBlock = some k → k ≠ T := fun k e q => by
  obtain ⟨c, hc⟩ := own_typ h.mv e
  rw [q, h.blk] at hc
  simp at hc
/-- its own block is written -/
theorem TkAt.setT (h : TkAt w T X t ov mv) (hk : Kp w w' (fun k => k = T)) (hb : w'.heap[T]? = some (.cells (tkA X t' ov mv) 57)) (e1 : t'.old = t.old) (e2 : t'.ms = t.ms) : TkAt w' T X t' ov mv :=
  ⟨hb, by rw [e1]; exact own_kp h.ov hk (fun k e q => h.nO k e q), by rw [e2]; exact own_kp h.mv hk (fun k e q => h.nM k e q)⟩
theorem upd_q (X : Nat) (t : Tk) (ov mv : Value) (m : Mg) : updA (tkA X t ov mv) 1 (mgV m).toList = tkA X { t with q := m } ov mv := by kernel_rfl
theorem there_t {C : Array Value} (hC : C.size = 18) (h : w.heap[T]? = some (.cells C 57)) (o n : Nat) (hn : o + n ≤ 18) : w.there T o n := fun j hj => ⟨by
  rw [cell_row h, Array.getElem?_eq_getElem (by omega)]
  rfl, fz_row h _⟩
set_option maxHeartbeats 16000000 in
set_option maxRecDepth 100000 in
set_option linter.unusedSimpArgs false in
set_option linter.unusedVariables false in
theorem hear_t (h : TkAt w T X t ov mv) {b : Nat} {u : Value} {L : List Mg} (ho : w.ownsRow b 36 11 u L.length (mgs L)) (hL : L.length ≤ 1) :
    Calls Try.prog 17 #[.pointer (some ⟨T, 0, none⟩), u, .int .i64 0] w fun e w' => e = .returned (.bool true) ∧ TkAt w' T X (hearT t L) ov mv ∧ Kp w w' (fun k => k = T) := by
  have NU := hide fun w n => num21 w n
  have hc : L = [] ∨ ∃ m, L = [m] := by
    cases L with
    | nil => exact Or.inl rfl
    | cons m r =>
      cases r with
      | nil => exact Or.inr ⟨m, rfl⟩
      | cons a r => exact absurd hL (by simp)
  rcases hc with rfl | ⟨m, rfl⟩
  · obtain ⟨ua, uc, hu⟩ := own_sl ho
    have hu : u = .slice ua 0 uc := hu
    subst hu
    have HT : Hid (TkAt w T X (hearT t []) ov mv) := h
    clear h ho hL
    go_enter Try.func17, Try.ntmps17
    go_wp2_with (go_at_call 6; refine Calls.mono (NU.out _ _) ?_; rintro e w' ⟨rfl, rfl⟩)
    go_ret
    exact ⟨rfl, HT.out, Kp.refl _ _⟩
  · obtain ⟨g, uc, hu⟩ := own_g ho (by simp)
    have hu : u = .slice (some ⟨g, 0, none⟩) 1 uc := hu
    subst hu
    have RG : Hid (w.rangeAt g 0 (mgV m).toList) := fun j q hj => by
      obtain ⟨g', c', e1, hc, _⟩ := own_at ho (j := j) (u := q) (by rw [mgs_one]; exact hj)
      injection e1 with e1
      injection e1 with e1
      injection e1 with e1
      rw [Nat.zero_add, e1]
      exact hc
    obtain ⟨W1, hW1⟩ : ∃ W1, W1 = w.setCells T 1 (mgV m).toList := ⟨_, rfl⟩
    have k1 : Kp w W1 (fun k => k = T) := by rw [hW1]; exact kp_setCells _ _ _ _
    have b1 : W1.heap[T]? = some (.cells (tkA X { t with q := m } ov mv) 57) := by
      rw [hW1, ← upd_q]
      exact heap_setCells _ _ _ _ _ _ h.blk
    have th := hide (there_t rfl h.blk 1 11 (by omega))
    obtain ⟨W2, hW2⟩ : ∃ W2, W2 = W1.setCell ⟨T, 12, none⟩ (.bool true) := ⟨_, rfl⟩
    have k2 : Kp w W2 (fun k => k = T) := by rw [hW2]; exact k1.set (Or.inl rfl) _ _
    have b2 : W2.heap[T]? = some (.cells (tkA X { t with q := m, op := true } ov mv) 57) := by rw [hW2]; exact set_row b1 12 _
    have HT : Hid (TkAt W2 T X (hearT t [m]) ov mv ∧ Kp w W2 (fun k => k = T)) := ⟨h.setT k2 b2 rfl rfl, k2⟩
    have c12 : W1.cell? ⟨T, 12, none⟩ = some (.bool t.op) := by rw [cell_row b1]; rfl
    have f12 := fz_row b1 12
    have HW1 := hide hW1
    have MI := hide mg_info
    have M1 := hide (mg_one m)
    clear h ho hL k1 b1 k2 b2 hW1
    go_enter Try.func17, Try.ntmps17
    go_upto_region 5 with (first | (go_at_call 6; refine Calls.mono (NU.out _ _) ?_; rintro e w' ⟨rfl, rfl⟩) | refine wpList_load_mid rfl 36 (.tmp 20) rfl g 0 rfl (mgV m).toList _ RG.out Try.underlying36 rfl MI.out ?_ | (refine wpList_store_mid rfl 36 (.tmp 23) (.tmp 21) rfl T 1 (mgV m) rfl rfl th.out MI.out M1.out ?_; rw [← HW1.out]))
    go_wp2_with fail
    rw [← hW2]
    go_ret
    exact ⟨rfl, HT.out.1, HT.out.2⟩
end
end Go.Proofs.Ytbmhllcbkeblfaa.Cn
namespace Go.Proofs.Ytbmhllcbkeblfaa.Cn
open Go.RowKit
/-- an exporter and its talk, apart -/
structure Bo (w : World) (T X : Nat) (v : Ex) (Z : Zz) (t : Tk) (ov mv : Value) : Prop where
  ex : ExAt w X v Z
  tk : TkAt w T X t ov mv
  ap : ∀ k, mv.ownBlock = some k → ¬ Ap X Z k
section
variable {w w' : World} {T X : Nat} {v v' : Ex} {Z Z' : Zz} {t t' : Tk} {ov mv mv' : Value}
theorem Bo.nT (h : Bo w T X v Z t ov mv) : ¬ Ap X Z T := h.ex.not h.tk.blk (by decide)
theorem Bo.nO (h : Bo w T X v Z t ov mv) : ∀ k, ov.ownBlock = some k → ¬ Ap X Z k := fun k e => by
  obtain ⟨c, hc⟩ := own_typ h.tk.ov e
  exact h.ex.not hc (by decide)
theorem Bo.lv (h : Bo w T X v Z t ov mv) (l : Lv w w' X Z v' Z') : Bo w' T X v' Z' t ov mv :=
  ⟨l.at_, h.tk.kp l.kp (fun k e q => by
    have q' : Ap X Z k := Or.inl q
    rcases e with e | e | e
    · exact h.nT (e ▸ q')
    · exact h.nO k e q'
    · exact h.ap k e q'), fun k e q => by
    rcases l.gr k q with s | s
    · exact h.ap k e s
    · have := own_lt h.tk.mv e
      omega⟩
/-- the talk's own block is written -/
theorem Bo.talk (h : Bo w T X v Z t ov mv) (hk : Kp w w' (fun k => k = T)) (ht : TkAt w' T X t' ov mv) : Bo w' T X v Z t' ov mv :=
  ⟨h.ex.kp hk (fun _ e q => h.nT (q ▸ e)), ht, h.ap⟩
theorem Bo.same (h : Bo w T X v Z t ov mv) (hk : Kp w w' non) : Bo w' T X v Z t ov mv := h.lv (Lv.same h.ex hk)
end
set_option maxHeartbeats 16000000 in
set_option maxRecDepth 100000 in
set_option linter.unusedSimpArgs false in
set_option linter.unusedVariables false in
theorem ticks_wait {w : World} {T X : Nat} {v : Ex} {Z : Zz} {t : Tk} {ov mv : Value} (h : Bo w T X v Z t ov mv) {tb : List (List Pr)} {ver : Int} {R n : Nat} {old : List Mg} {ms : List Int} (j : Tj tb ver R n v old ms) (h0 : v.at_ = v.now) (k : Nat) (hk : (k : Int) < v.gw) (hn : n ≤ 100000000000) :
    Calls Try.prog 37 #[.pointer (some ⟨T, 0, none⟩), .int .i64 (k : Int)] w fun e w' => e = .returned (.bool true) ∧ ∃ Z', Bo w' T X (nowN v k) Z' t ov mv ∧ Kp w w' (fun q => Ap X Z q ∨ q = T) ∧ (∀ q, Ap X Z' q → Ap X Z q ∨ w.heap.size ≤ q) := by
  have hg := j.ok.gw
  have BO : Hid (Bo w T X (nowN v 0) Z t ov mv) := by
    have e : nowN v 0 = v := by unfold nowN; simp
    rw [e]
    exact h
  have TJ : Hid (∀ i : Nat, i < k → Tj tb ver R (n + i) (nowN v i) old ms ∧ tickX (nowN v i) = nowN v (i + 1) ∧ tickL (nowN v i) = []) := fun i hi => ⟨nowN_tj j h0 i (by omega), tick_wait h0 i (by omega)⟩
  have hkb : k ≤ 1000000000 := by omega
  clear h j h0 hk hg
  go_enter Try.func37, Try.ntmps37
  go_wp2_with fail
  go_loopw [5, 6, 7] (fun vi _ _ wr => ∃ i : Nat, i ≤ k ∧ vi = .int .i64 (i : Int) ∧ ∃ Z', Hid (Bo wr T X (nowN v i) Z' t ov mv) ∧ Hid (Kp w wr (fun q => Ap X Z q ∨ q = T)) ∧ Hid (∀ q, Ap X Z' q → Ap X Z q ∨ w.heap.size ≤ q)) (fun vi _ _ _ => k - (intOf vi).toNat)
  case atStart => exact ⟨0, Nat.zero_le _, rfl, Z, BO.out, Kp.refl _ _, fun _ e => Or.inl e⟩
  case round =>
    clear BO
    obtain ⟨i, hi, rfl, Z1, B1, K1, G1⟩ := hrel
    by_cases hik : i < k
    case pos =>
      have hii : (i : Int) < (k : Int) := by omega
      obtain ⟨j1, j2, j3⟩ := TJ.out i hik
      have TX := hide (Tick_x B1.out.ex j1.ok (by omega))
      have J2 := hide j2
      have J3 := hide j3
      have cT : wr.cell? ⟨T, 0, none⟩ = some (.pointer (some ⟨X, 0, none⟩)) := by rw [cell_row B1.out.tk.blk]; rfl
      clear j1 j2 j3
      go_wp2_with fail
      refine Calls.mono TX.out ?_
      rintro e W2 ⟨u, Z2, rfl, o2, l2⟩
      rw [J3.out] at o2
      have hu : ∃ a c, u = .slice a 0 c := own_sl o2
      obtain ⟨ua, uc, rfl⟩ := hu
      rw [J2.out] at l2
      have B2 := hide (B1.out.lv l2)
      have HE := hide (hear_t B2.out.tk (L := []) o2 (by simp))
      have K2 : Hid (Kp w W2 (fun q => Ap X Z q ∨ q = T)) := K1.out.trans l2.kp (fun q e => by
        rcases G1.out q (Or.inl e) with s | s
        · exact Or.inl (Or.inl s)
        · exact Or.inr s)
      have G2 : Hid (∀ q, Ap X Z2 q → Ap X Z q ∨ w.heap.size ≤ q) := fun q e => by
        rcases l2.gr q e with s | s
        · exact G1.out q s
        · exact Or.inr (Nat.le_trans K1.out.size s)
      clear o2 l2 TX cT J2 J3 B1 K1 G1
      go_wp2_with fail
      refine Calls.mono HE.out ?_
      rintro e W3 ⟨rfl, t3, k3⟩
      have B3 : Hid (Bo W3 T X (nowN v (i + 1)) Z2 t ov mv) := B2.out.talk k3 t3
      have K3 : Hid (Kp w W3 (fun q => Ap X Z q ∨ q = T)) := K2.out.trans k3 (fun q e => Or.inl (Or.inr e))
      clear t3 k3 HE B2 K2
      go_wp2_with fail
      go_roundw
      case rel => exact ⟨i + 1, by omega, by go_num, Z2, B3.out, K3.out, G2.out⟩
      case measure => simp [intOf]; omega
    case neg =>
      obtain rfl : i = k := by omega
      go_wp2_with fail
      go_ret
      exact ⟨rfl, Z1, B1.out, K1.out, G1.out⟩
set_option maxHeartbeats 16000000 in
set_option maxRecDepth 100000 in
set_option linter.unusedSimpArgs false in
set_option linter.unusedVariables false in
theorem ticks_last {w : World} {T X : Nat} {v : Ex} {Z : Zz} {t : Tk} {ov mv : Value} (h : Bo w T X v Z t ov mv) {tb : List (List Pr)} {ver : Int} {R n : Nat} {old : List Mg} {ms : List Int} (j : Tj tb ver R n v old ms) (h0 : v.at_ = v.now) (kk : Nat) (hk : (kk : Int) + 1 = v.gw) (hn : n ≤ 100000000000) :
    Calls Try.prog 37 #[.pointer (some ⟨T, 0, none⟩), .int .i64 ((kk + 1 : Nat) : Int)] w fun e w' => e = .returned (.bool true) ∧ ∃ Z', Bo w' T X (tickX (nowN v kk)) Z' (hearT t (tickL (nowN v kk))) ov mv ∧ Kp w w' (fun q => Ap X Z q ∨ q = T) ∧ (∀ q, Ap X Z' q → Ap X Z q ∨ w.heap.size ≤ q) := by
  have hg := j.ok.gw
  have BO : Hid (Bo w T X (nowN v 0) Z t ov mv) := by
    have e : nowN v 0 = v := by unfold nowN; simp
    rw [e]
    exact h
  have TJ : Hid (∀ i : Nat, i ≤ kk → Eok (nowN v i) R (n + i)) := fun i hi => (nowN_tj j h0 i (by omega)).ok
  have TW : Hid (∀ i : Nat, i < kk → tickX (nowN v i) = nowN v (i + 1) ∧ tickL (nowN v i) = []) := fun i hi => tick_wait h0 i (by omega)
  have LL : Hid ((tickL (nowN v kk)).length ≤ 1) := by
    show _ ≤ _
    rcases tick_last j h0 kk hk with ⟨_, hL, _⟩ | ⟨_, hL⟩
    · rw [hL]; simp
    · rw [hL]; simp
  have hkb : kk ≤ 1000000000 := by omega
  obtain ⟨v9, hv9⟩ : ∃ v9, v9 = tickX (nowN v kk) := ⟨_, rfl⟩
  obtain ⟨L9, hL9⟩ : ∃ L9, L9 = tickL (nowN v kk) := ⟨_, rfl⟩
  have TV : Hid (tickX (nowN v kk) = v9 ∧ tickL (nowN v kk) = L9) := ⟨hv9.symm, hL9.symm⟩
  rw [← hL9] at LL ⊢
  rw [← hv9]
  obtain ⟨g, hgg⟩ : ∃ g, g = kk + 1 := ⟨_, rfl⟩
  rw [← hgg]
  have HG := hide hgg
  have hgb : g ≤ 1000000001 := by omega
  clear h j h0 hk hg hv9 hL9 hgg
  go_enter Try.func37, Try.ntmps37
  go_wp2_with fail
  go_loopw [5, 6, 7] (fun vi _ _ wr => ∃ i : Nat, i ≤ g ∧ vi = .int .i64 (i : Int) ∧ ∃ Z' v' t', Hid ((i ≤ kk ∧ v' = nowN v i ∧ t' = t) ∨ (i = kk + 1 ∧ v' = v9 ∧ t' = hearT t L9)) ∧ Hid (Bo wr T X v' Z' t' ov mv) ∧ Hid (Kp w wr (fun q => Ap X Z q ∨ q = T)) ∧ Hid (∀ q, Ap X Z' q → Ap X Z q ∨ w.heap.size ≤ q)) (fun vi _ _ _ => g - (intOf vi).toNat)
  case atStart => exact ⟨0, Nat.zero_le _, rfl, Z, nowN v 0, t, Or.inl ⟨Nat.zero_le _, rfl, rfl⟩, BO.out, Kp.refl _ _, fun _ e => Or.inl e⟩
  case round =>
    clear BO
    obtain ⟨i, hi, rfl, Z1, v1, t1, A1, B1, K1, G1⟩ := hrel
    by_cases hik : i < g
    case pos =>
      have hii : (i : Int) < (g : Int) := by omega
      obtain ⟨hle, hv1, ht1⟩ : i ≤ kk ∧ v1 = nowN v i ∧ t1 = t := by
        rcases A1.out with q | ⟨q, _⟩
        · exact q
        · have := HG.out
          omega
      subst hv1 ht1
      have TX := hide (Tick_x B1.out.ex (TJ.out i hle) (by omega))
      have cT : wr.cell? ⟨T, 0, none⟩ = some (.pointer (some ⟨X, 0, none⟩)) := by rw [cell_row B1.out.tk.blk]; rfl
      have gi : wrap64 ((g : Int) - 1) = (kk : Int) := by
        have e : (g : Int) - 1 = (kk : Int) := by have := HG.out; omega
        rw [e]
        exact wrap_in (by omega) (by omega)
      have gi2 : ¬ (kk : Int) < (g : Int) - 1 := by have := HG.out; omega
      by_cases hlt : i < kk
      case pos =>
        obtain ⟨j2, j3⟩ := TW.out i hlt
        have J2 := hide j2
        have J3 := hide j3
        clear j2 j3 A1
        go_wp2_with fail
        refine Calls.mono TX.out ?_
        rintro e W2 ⟨u, Z2, rfl, o2, l2⟩
        rw [J3.out] at o2
        have hu : ∃ a c, u = .slice a 0 c := own_sl o2
        obtain ⟨ua, uc, rfl⟩ := hu
        rw [J2.out] at l2
        have B2 := hide (B1.out.lv l2)
        have HE := hide (hear_t B2.out.tk (L := []) o2 (by simp))
        have K2 : Hid (Kp w W2 (fun q => Ap X Z q ∨ q = T)) := K1.out.trans l2.kp (fun q e => by
          rcases G1.out q (Or.inl e) with s | s
          · exact Or.inl (Or.inl s)
          · exact Or.inr s)
        have G2 : Hid (∀ q, Ap X Z2 q → Ap X Z q ∨ w.heap.size ≤ q) := fun q e => by
          rcases l2.gr q e with s | s
          · exact G1.out q s
          · exact Or.inr (Nat.le_trans K1.out.size s)
        clear o2 l2 TX cT J2 J3 B1 K1 G1 gi gi2
        go_wp2_with fail
        refine Calls.mono HE.out ?_
        rintro e W3 ⟨rfl, t3, k3⟩
        have B3 : Hid (Bo W3 T X (nowN v (i + 1)) Z2 t1 ov mv) := B2.out.talk k3 t3
        have K3 : Hid (Kp w W3 (fun q => Ap X Z q ∨ q = T)) := K2.out.trans k3 (fun q e => Or.inl (Or.inr e))
        clear t3 k3 HE B2 K2
        go_wp2_with fail
        go_roundw
        case rel => exact ⟨i + 1, by omega, by go_num, Z2, _, _, Or.inl ⟨by omega, rfl, rfl⟩, B3.out, K3.out, G2.out⟩
        case measure => simp [intOf]; omega
      case neg =>
        obtain rfl : i = kk := by omega
        clear A1
        go_wp2_with fail
        refine Calls.mono TX.out ?_
        rintro e W2 ⟨u, Z2, rfl, o2, l2⟩
        rw [TV.out.2] at o2
        rw [TV.out.1] at l2
        have B2 := hide (B1.out.lv l2)
        have HE := hide (hear_t B2.out.tk o2 LL.out)
        have K2 : Hid (Kp w W2 (fun q => Ap X Z q ∨ q = T)) := K1.out.trans l2.kp (fun q e => by
          rcases G1.out q (Or.inl e) with s | s
          · exact Or.inl (Or.inl s)
          · exact Or.inr s)
        have G2 : Hid (∀ q, Ap X Z2 q → Ap X Z q ∨ w.heap.size ≤ q) := fun q e => by
          rcases l2.gr q e with s | s
          · exact G1.out q s
          · exact Or.inr (Nat.le_trans K1.out.size s)
        have hu : ∃ a c, u = .slice a L9.length c := own_sl o2
        obtain ⟨ua, uc, rfl⟩ := hu
        obtain ⟨ln, hln⟩ : ∃ ln, ln = L9.length := ⟨_, rfl⟩
        have hl1 : ln ≤ 1 := by rw [hln]; exact LL.out
        rw [← hln] at HE ⊢
        clear o2 l2 TX cT B1 K1 G1 hln
        have hl01 : ln = 0 ∨ ln = 1 := by omega
        clear hl1
        rcases hl01 with rfl | rfl
        · go_wp2_with fail
          refine Calls.mono HE.out ?_
          rintro e W3 ⟨rfl, t3, k3⟩
          have B3 : Hid (Bo W3 T X v9 Z2 (hearT t1 L9) ov mv) := B2.out.talk k3 t3
          have K3 : Hid (Kp w W3 (fun q => Ap X Z q ∨ q = T)) := K2.out.trans k3 (fun q e => Or.inl (Or.inr e))
          clear t3 k3 HE B2 K2
          go_wp2_with fail
          go_roundw
          case rel => exact ⟨i + 1, by omega, by go_num, Z2, _, _, Or.inr ⟨rfl, rfl, rfl⟩, B3.out, K3.out, G2.out⟩
          case measure => simp [intOf]; omega
        · go_wp2_with fail
          refine Calls.mono HE.out ?_
          rintro e W3 ⟨rfl, t3, k3⟩
          have B3 : Hid (Bo W3 T X v9 Z2 (hearT t1 L9) ov mv) := B2.out.talk k3 t3
          have K3 : Hid (Kp w W3 (fun q => Ap X Z q ∨ q = T)) := K2.out.trans k3 (fun q e => Or.inl (Or.inr e))
          clear t3 k3 HE B2 K2
          go_wp2_with fail
          exact ⟨⟨i + 1, by have := HG.out; omega, by go_num, Z2, _, _, Or.inr ⟨rfl, rfl, rfl⟩, B3.out, K3.out, G2.out⟩, by simp [intOf]; have := HG.out; omega⟩
    case neg =>
      have hig : i = g := by omega
      obtain ⟨hv1, ht1⟩ : v1 = v9 ∧ t1 = hearT t L9 := by
        rcases A1.out with ⟨q, _⟩ | ⟨_, q⟩
        · have := HG.out
          omega
        · exact q
      subst hv1 ht1
      have hii : ¬ (i : Int) < (g : Int) := by omega
      clear hig
      go_wp2_with fail
      go_ret
      exact ⟨rfl, Z1, B1.out, K1.out, G1.out⟩
end Go.Proofs.Ytbmhllcbkeblfaa.Cn
