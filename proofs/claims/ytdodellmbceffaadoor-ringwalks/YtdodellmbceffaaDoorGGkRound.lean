import Derived.Test.YtdodellmbceffaaDoorGGcLaw
import Derived.Test.YtdodellmbceffaaDoorGcHand
import Derived.Test.YtdodellmbceffaaDoorGGcDoc
import Derived.Test.YtdodellmbceffaaDoorGGcSame
namespace Go.Proofs.YtdodellmbceffaaDoor
open Go.RowKit
/-- the error of a walk -/
noncomputable def rdE (st : ByteArray) (x : Nat → Int) (ns : List ND) (p : Int) : Int := if errP st x ns = 0 then (if p < 0 ∨ (ptN ns : Int) ≤ p then 69 else 0) else errP st x ns
/-- the walk from p on -/
def wk (x : Nat → Int) (ns : List ND) (p : Int) : List Nat := wkR ns (ptN ns) p.toNat (x 0).toNat
theorem errP_ok {st : ByteArray} {x : Nat → Int} {ns : List ND} (h : errP st x ns = 0) : sfP x = true ∧ nfP ns = true := by
  unfold errP at h
  constructor
  · cases e : sfP x with
    | true => rfl
    | false => rw [e] at h; split at h <;> simp at h
  · cases e : nfP ns with
    | true => rfl
    | false => rw [e] at h; split at h <;> (try split at h) <;> simp at h
theorem rdE_bad {st : ByteArray} {x : Nat → Int} {ns : List ND} {p : Int} (h : errP st x ns ≠ 0) : rdE st x ns p = errP st x ns := if_neg h
theorem rdE_part {st : ByteArray} {x : Nat → Int} {ns : List ND} {p : Int} (h : errP st x ns = 0) (hp : p < 0 ∨ (ptN ns : Int) ≤ p) : rdE st x ns p = 69 := by unfold rdE; rw [if_pos h, if_pos hp]
theorem rdE_ok {st : ByteArray} {x : Nat → Int} {ns : List ND} {p : Int} (h : errP st x ns = 0) (hp : ¬ (p < 0 ∨ (ptN ns : Int) ≤ p)) : rdE st x ns p = 0 := by unfold rdE; rw [if_pos h, if_neg hp]
theorem rdE_zero {st : ByteArray} {x : Nat → Int} {ns : List ND} {p : Int} (h : rdE st x ns p = 0) : errP st x ns = 0 ∧ 0 ≤ p ∧ p < (ptN ns : Int) := by
  by_cases e : errP st x ns = 0
  · by_cases hp : p < 0 ∨ (ptN ns : Int) ≤ p
    · rw [rdE_part e hp] at h
      omega
    · exact ⟨e, by omega, by omega⟩
  · rw [rdE_bad e] at h
    exact absurd h e
theorem wk_len (x : Nat → Int) (ns : List ND) (p : Int) : (wk x ns p).length ≤ ptN ns := by
  unfold wk wkR
  rw [List.length_take]
  have := wkL_len ns (ptN ns) p.toNat (ptN ns)
  omega
theorem wk_lt {x : Nat → Int} {ns : List ND} {p : Int} (h : 0 < ptN ns) : ∀ k ∈ wk x ns p, k < ptN ns := fun k hk => wkL_lt h _ k (List.mem_of_mem_take hk)
/-- the walk, where there is one -/
noncomputable def wkE (st : ByteArray) (x : Nat → Int) (ns : List ND) (p : Int) : List Nat := if rdE st x ns p = 0 then wk x ns p else []
theorem wkE_ok {st : ByteArray} {x : Nat → Int} {ns : List ND} {p : Int} (h : rdE st x ns p = 0) : wkE st x ns p = wk x ns p := if_pos h
theorem wkE_bad {st : ByteArray} {x : Nat → Int} {ns : List ND} {p : Int} (h : rdE st x ns p ≠ 0) : wkE st x ns p = [] := if_neg h
/-- what round answers -/
structure RdOf (st : ByteArray) (x : Nat → Int) (ns : List ND) (p : Int) (w : World) (e : Ending) (w' : World) : Prop where
  out : ∃ vn vp, e = .returned (.tuple #[vn, vp, .int .i64 (rdE st x ns p)]) ∧ (rdE st x ns p = 0 → Dealt ns ∧ (∃ g, vn = .slice (some ⟨g, 0, none⟩) (ptN ns) (ptN ns) ∧ w'.heap[g]? = some (.cells (outL ns).toArray 3 (0, 0))) ∧ w'.ownsRow w.heap.size 3 1 vp (wk x ns p).length (ints (nis (wk x ns p)))) ∧ (rdE st x ns p ≠ 0 → vn = .slice none 0 0 ∧ vp = .slice none 0 0)
  bel : Below w.heap.size w w'
theorem RdOf.bad {st : ByteArray} {x : Nat → Int} {ns : List ND} {p : Int} {w w' : World} {e : Ending} {k : Int} (he : rdE st x ns p = k) (hk : k ≠ 0) (h : e = .returned (.tuple #[.slice none 0 0, .slice none 0 0, .int .i64 k])) (hb : Below w.heap.size w w') : RdOf st x ns p w e w' :=
  ⟨⟨_, _, by rw [he]; exact h, fun h0 => absurd (he.symm.trans h0) hk, fun _ => ⟨rfl, rfl⟩⟩, hb⟩
set_option maxHeartbeats 8000000 in
set_option maxRecDepth 100000 in
set_option linter.unusedSimpArgs false in
set_option linter.unusedVariables false in
theorem round_any (N : Nat) (w : World) (st : ByteArray) (x : Nat → Int) (ao : Option Addr) (b o cap : Nat) (pv : Nat → Value) (ns : List ND) (p : Int) (h : NsAt N w ao b o pv ns) (hN : N ≤ w.heap.size) (hs : st.size ≤ 9223372036854775807) :
    Calls Tryd.prog 22 #[.agg (clA st x (.slice ao ns.length cap)), .int .i64 p] w fun e w' => RdOf st x ns p w e w' := by
  obtain ⟨W0, hW0, hX⟩ := boxed st x cap h hN
  have HX := hide (hX.stand hN)
  have B0 := hide hX.bel
  clear hX h
  have ND := hide (nodesOf_any N W0 st x ao b o cap pv ns HX.out.nd HX.out.le hs)
  go_enter Tryd.func22, Tryd.ntmps22
  go_upto_region 1 with fail
  rw [← hW0]
  clear hW0
  go_wp2_with (refine wpList_loadCl rfl (.tmp 2) rfl w.heap.size st x _ rfl HX.out.cl ?_)
  refine Calls.mono ND.out ?_
  rintro e W1 ⟨⟨v, rfl, h1, h2⟩, hb⟩
  have X1 := hide (HX.out.below hb)
  have B1 := hide (B0.out.trans (hb.mono B0.out.size))
  clear hb HX ND
  by_cases he : errP st x ns = 0
  case neg =>
    obtain rfl := h2 he
    have HE := hide (rdE_bad (p := p) he)
    have HK := hide he
    generalize errP st x ns = k at *
    clear h1 h2
    go_wp2_with fail
    go_ret3
    exact RdOf.bad HE.out HK.out rfl B1.out
  case pos =>
    obtain ⟨hd, g, rfl, hg, hgs⟩ := h1 he
    have d1 := hd.p1
    have d2 := hd.p2
    have hpt : (flat ns).length = ptN ns := rfl
    rw [hpt] at d1 d2
    have RP := hide (rdE_part (p := p) he)
    have RO := hide (rdE_ok (p := p) he)
    have L0 := sfP_lim (errP_ok he).1 0 (by omega)
    have L0 : 1 ≤ x 0 ∧ x 0 ≤ 16 := L0
    have HD := hide hd
    have HG := hide hg
    have HPT := hide hpt
    rw [he]
    clear h1 h2 hd hg hpt he
    by_cases hp0 : p < 0
    · have HE := hide (RP.out (Or.inl hp0))
      go_wp2_with fail
      go_ret3
      exact RdOf.bad HE.out (by omega) rfl B1.out
    · by_cases hp1 : (ptN ns : Int) ≤ p
      · have HE := hide (RP.out (Or.inr hp1))
        go_wp2_with fail
        go_ret3
        exact RdOf.bad HE.out (by omega) rfl B1.out
      · have HE := hide (RO.out (by omega))
        have WK := walk_any W1 g (ptN ns) p.toNat (x 0).toNat ns HG.out HPT.out.symm (by omega) (by omega) (by omega) (by omega) (by omega)
        rw [Int.toNat_of_nonneg (by omega), Int.toNat_of_nonneg (by omega)] at WK
        have WK := hide WK
        have x0 := X1.out.cl.x0
        clear RP RO
        go_wp2_with fail
        refine Calls.mono WK.out ?_
        rintro e W2 ⟨v2, rfl, o2, hb⟩
        have B2 := hide (B1.out.trans (hb.mono B1.out.size))
        have G2 : Hid (W2.heap[g]? = some (.cells (outL ns).toArray 3 (0, 0))) := (hb.block _ (blk_lt HG.out)).trans HG.out
        have O2 := hide (own_lower o2 B1.out.size)
        clear hb o2 WK x0
        go_wp2_with fail
        go_ret3
        exact ⟨⟨_, _, by rw [HE.out]; rfl, fun _ => ⟨HD.out, ⟨g, rfl, G2.out⟩, O2.out⟩, fun h => absurd HE.out h⟩, B2.out⟩
set_option maxHeartbeats 8000000 in
set_option maxRecDepth 100000 in
set_option linter.unusedSimpArgs false in
set_option linter.unusedVariables false in
/-- Walk: the walk, the error -/
theorem Walk_any (N : Nat) (w : World) (st : ByteArray) (x : Nat → Int) (ao : Option Addr) (b o cap : Nat) (pv : Nat → Value) (ns : List ND) (p : Int) (h : NsAt N w ao b o pv ns) (hN : N ≤ w.heap.size) (hs : st.size ≤ 9223372036854775807) :
    Calls Tryd.prog 10 #[.agg (clA st x (.slice ao ns.length cap)), .int .i64 p] w fun e w' => ∃ v, e = .returned (.tuple #[v, .int .i64 (rdE st x ns p)]) ∧ w'.ownsRow w.heap.size 3 1 v (wkE st x ns p).length (ints (nis (wkE st x ns p))) ∧ Below w.heap.size w w' := by
  obtain ⟨L, hL⟩ : ∃ L, L = wkE st x ns p := ⟨_, rfl⟩
  obtain ⟨k, hk⟩ : ∃ k, k = rdE st x ns p := ⟨_, rfl⟩
  rw [← hL, ← hk]
  have HLL := hide hL
  have HKK := hide hk
  obtain ⟨W0, hW0, hX⟩ := boxed st x cap h hN
  have HX := hide (hX.stand hN)
  have B0 := hide hX.bel
  clear hX h hk hL
  have ND := hide (round_any N W0 st x ao b o cap pv ns p HX.out.nd HX.out.le hs)
  go_enter Tryd.func10, Tryd.ntmps10
  go_upto_region 1 with fail
  rw [← hW0]
  clear hW0
  go_wp2_with (refine wpList_loadCl rfl (.tmp 2) rfl w.heap.size st x _ rfl HX.out.cl ?_)
  refine Calls.mono ND.out ?_
  rintro e W1 ⟨⟨vn, vp, rfl, h1, h2⟩, hb⟩
  rw [← HKK.out] at h1 h2 ⊢
  have B1 := hide (B0.out.trans (hb.mono B0.out.size))
  have HO : Hid (W1.ownsRow w.heap.size 3 1 vp L.length (ints (nis L))) := by
    by_cases he : k = 0
    · rw [HLL.out, wkE_ok (HKK.out ▸ he)]
      exact own_lower (h1 he).2.2 B0.out.size
    · rw [HLL.out, wkE_bad (HKK.out ▸ he), (h2 he).2]
      exact World.ownsRow_nil _ _ _ _
  clear hb HX ND h1 h2
  obtain ⟨ba, cp, hv, _⟩ := own_sl HO.out
  subst hv
  go_wp2_with fail
  go_ret2
  exact ⟨_, rfl, HO.out, B1.out⟩
set_option maxHeartbeats 8000000 in
set_option maxRecDepth 100000 in
set_option linter.unusedSimpArgs false in
set_option linter.unusedVariables false in
/-- Owners: the owners, the error -/
theorem Owners_any (N : Nat) (w : World) (st : ByteArray) (x : Nat → Int) (ao : Option Addr) (b o cap : Nat) (pv : Nat → Value) (ns : List ND) (p : Int) (h : NsAt N w ao b o pv ns) (hN : N ≤ w.heap.size) (hs : st.size ≤ 9223372036854775807) :
    Calls Tryd.prog 13 #[.agg (clA st x (.slice ao ns.length cap)), .int .i64 p] w fun e w' => ∃ v, e = .returned (.tuple #[v, .int .i64 (rdE st x ns p)]) ∧ w'.ownsRow w.heap.size 3 1 v (wkE st x ns p).length (ints (owL ns (wkE st x ns p))) ∧ Below w.heap.size w w' := by
  obtain ⟨L, hL⟩ : ∃ L, L = wkE st x ns p := ⟨_, rfl⟩
  obtain ⟨k, hk⟩ : ∃ k, k = rdE st x ns p := ⟨_, rfl⟩
  rw [← hL, ← hk]
  have HLL := hide hL
  have HKK := hide hk
  obtain ⟨W0, hW0, hX⟩ := boxed st x cap h hN
  have HX := hide (hX.stand hN)
  have B0 := hide hX.bel
  clear hX h hk hL
  have ND := hide (round_any N W0 st x ao b o cap pv ns p HX.out.nd HX.out.le hs)
  go_enter Tryd.func13, Tryd.ntmps13
  go_upto_region 1 with fail
  rw [← hW0]
  clear hW0
  go_wp2_with (refine wpList_loadCl rfl (.tmp 2) rfl w.heap.size st x _ rfl HX.out.cl ?_)
  refine Calls.mono ND.out ?_
  rintro e W1 ⟨⟨vn, vp, rfl, h1, h2⟩, hb⟩
  rw [← HKK.out] at h1 h2 ⊢
  have B1 := hide (B0.out.trans (hb.mono B0.out.size))
  have H1 := hide h1
  have H2 := hide h2
  clear hb HX ND h1 h2
  by_cases he : k = 0
  case neg =>
    obtain ⟨rfl, rfl⟩ := H2.out he
    have KE := hide (keepers_any 0 W1 0 0 none ns [] none 0 0 0 ⟨fun h => absurd h (Nat.lt_irrefl _), fun h => absurd h (Nat.lt_irrefl _), fun q hq => absurd hq (Nat.not_lt_zero _), by simp [nis]⟩ (Nat.zero_le _) (fun h => absurd h (Nat.lt_irrefl _)) (fun k hk => absurd hk (Nat.not_lt_zero _)) (fun k hk => absurd hk (by simp)) (by simp) (by omega))
    obtain rfl : L = [] := HLL.out.trans (wkE_bad (HKK.out ▸ he))
    clear he H1 H2
    go_wp2_with fail
    refine Calls.mono KE.out ?_
    rintro e W2 ⟨v, rfl, o2, hb⟩
    have B2 := hide (B1.out.trans (hb.mono B1.out.size))
    have O2 := hide (own_lower o2 B1.out.size)
    clear hb o2 KE
    obtain ⟨ba, cp, hv, _⟩ := own_sl O2.out
    subst hv
    go_wp2_with fail
    go_ret2
    exact ⟨_, rfl, O2.out, B2.out⟩
  case pos =>
    obtain ⟨hd, ⟨g, rfl, hg⟩, ho⟩ := H1.out he
    have HLw : Hid (L = wk x ns p) := HLL.out.trans (wkE_ok (HKK.out ▸ he))
    rw [← HLw.out] at ho
    obtain ⟨pa, cp, hv, _⟩ := own_sl ho
    subst hv
    have d1 := hd.p1
    have d2 := hd.p2
    have hpt : (flat ns).length = ptN ns := rfl
    rw [hpt] at d1 d2
    have hl : L.length ≤ ptN ns := by rw [HLw.out]; exact wk_len x ns p
    have hlt : ∀ k ∈ L, k < ptN ns := by rw [HLw.out]; exact wk_lt (by omega)
    obtain ⟨pa', pb, po, pc, e1, hps⟩ := own_ps ho (nis_len _).symm (by rw [nis_len]; omega)
    injection e1 with e1 e2 e3
    subst e1
    subst e3
    have KE := hide (keepers_any W1.heap.size W1 g (ptN ns) (some ⟨g, 0, none⟩) ns L pa pb po cp hps (Nat.le_refl _) (fun _ => ⟨rfl, blk_lt hg⟩) (fun k hk => outL_cell hg hk) hlt (by omega) (by omega))
    clear he H1 H2 hps hg ho hpt hd HLL e2 HLw hlt
    go_wp2_with fail
    refine Calls.mono KE.out ?_
    rintro e W2 ⟨v, rfl, o2, hb⟩
    have B2 := hide (B1.out.trans (hb.mono B1.out.size))
    have O2 := hide (own_lower o2 B1.out.size)
    clear hb o2 KE
    obtain ⟨ba, cp2, hv, _⟩ := own_sl O2.out
    subst hv
    go_wp2_with fail
    go_ret2
    exact ⟨_, rfl, O2.out, B2.out⟩
end Go.Proofs.YtdodellmbceffaaDoor
namespace Go.Proofs.YtdodellmbceffaaDoor
open Go.RowKit
theorem ownF_app (k : Int) (s : Nat) (a b : List ND) : ownF k s (a ++ b) = if k ∈ flat a then ownF k s a else ownF k (s + a.length) b := by
  induction a generalizing s with
  | nil => simp [flat, Nat.add_zero]
  | cons n r ih =>
    rw [List.cons_append, flat_cons]
    by_cases e : k ∈ n.ps
    · rw [ownF_in e, ownF_in e, if_pos (List.mem_append_left _ e)]
    · rw [ownF_out e, ownF_out e, ih, List.length_cons, show s + 1 + r.length = s + (r.length + 1) by omega]
      have : k ∈ n.ps ++ flat r ↔ k ∈ flat r := by rw [List.mem_append]; exact ⟨fun h => h.resolve_left e, Or.inr⟩
      simp only [this]
theorem ownF_here {k : Int} {ns : List ND} {i : Nat} (hi : i < ns.length) (h : k ∉ flat (ns.take i)) (hk : k ∈ ns[i].ps) : ownF k 0 ns = (i : Int) := by
  have e : ns = ns.take i ++ (ns[i] :: ns.drop (i + 1)) := by
    rw [← List.drop_eq_getElem_cons hi, List.take_append_drop]
  rw [e, ownF_app, if_neg h, ownF_in hk, List.length_take]
  congr 1
  omega
set_option maxHeartbeats 8000000 in
set_option maxRecDepth 100000 in
set_option linter.unusedSimpArgs false in
set_option linter.unusedVariables false in
theorem home_any (N : Nat) (w : World) (st : ByteArray) (x : Nat → Int) (ao : Option Addr) (b o cap : Nat) (pv : Nat → Value) (ns : List ND) (k : Int) (h : NsAt N w ao b o pv ns) (hN : N ≤ w.heap.size) :
    Calls Tryd.prog 25 #[.agg (clA st x (.slice ao ns.length cap)), .int .i64 k] w fun e w' => e = .returned (.int .i64 (ownF k 0 ns)) ∧ Below w.heap.size w w' := by
  obtain ⟨W0, hW0, hX⟩ := boxed st x cap h hN
  have HX := hide hX
  have hlen := h.len
  clear hX h
  obtain ⟨R, hR⟩ : ∃ R, R = ownF k 0 ns := ⟨_, rfl⟩
  rw [← hR]
  have HR := hide hR
  clear hR
  have nv := HX.out.cl.nv
  go_enter Tryd.func25, Tryd.ntmps25
  go_upto_region 1 with fail
  rw [← hW0]
  clear hW0
  go_wp2_with fail
  go_loopw [5] (fun vi wr => ∃ (i : Nat), i ≤ ns.length ∧ vi = .int .i64 (i : Int) ∧ Hid (k ∉ flat (ns.take i)) ∧ wr = W0) (fun vi _ => ns.length - (intOf vi).toNat)
  case atStart => exact ⟨0, Nat.zero_le _, rfl, (by intro h; simp [flat] at h), rfl⟩
  case round =>
    obtain ⟨i, hi, rfl, hK, rfl⟩ := hrel
    by_cases hil : i < ns.length
    case neg =>
      obtain rfl : i = ns.length := by omega
      have hK' := hK.out
      rw [List.take_length] at hK'
      have HE := hide (HR.out.trans (ownF_none.2 hK'))
      clear hK hK'
      go_wp2_with fail
      go_ret
      exact ⟨by rw [HE.out]; rfl, HX.out.bel⟩
    case pos =>
      have hao := HX.out.nd.at0 (by omega)
      subst hao
      have hii : (i : Int) < (ns.length : Int) := by omega
      have e1 := HX.out.nd.cp i hil
      obtain ⟨pa, pb, po, pc, hpv, hp⟩ := HX.out.nd.ps i hil
      have hpl := hp.len
      rw [hpv] at e1
      have HP := hide hp
      have HH : Hid (k ∈ ns[i].ps → R = (i : Int)) := fun hk => HR.out.trans (ownF_here hil hK.out hk)
      have HS : Hid (k ∉ ns[i].ps → k ∉ flat (ns.take (i + 1))) := fun hk hc => by
        rw [List.take_succ_eq_append_getElem hil, flat_append, flat_one] at hc
        rcases List.mem_append.1 hc with hc | hc
        · exact hK.out hc
        · exact hk hc
      clear hpv hp hK
      generalize ns[i].ps = ps at *
      go_wp2_with fail
      go_loopw [6] (fun vj wq => ∃ (j : Nat), j ≤ ps.length ∧ vj = .int .i64 (j : Int) ∧ Hid (k ∉ ps.take j) ∧ wq = wr) (fun vj _ => ps.length - (intOf vj).toNat)
      case atStart => exact ⟨0, Nat.zero_le _, rfl, (by intro h; simp at h), rfl⟩
      case round =>
        obtain ⟨j, hj, rfl, hJ, rfl⟩ := hrel
        by_cases hjl : j < ps.length
        case neg =>
          obtain rfl : j = ps.length := by omega
          have hJ' := hJ.out
          rw [List.take_length] at hJ'
          have HT := hide (HS.out hJ')
          clear hJ hJ' HS
          go_wp2_with fail
          go_roundw
          case rel => exact ⟨i + 1, by omega, by go_num, HT.out, by first | rfl | trivial⟩
          case measure => simp [intOf]; omega
        case pos =>
          have hpa := HP.out.at0 (by omega)
          subst hpa
          have hji : (j : Int) < (ps.length : Int) := by omega
          have cx := HP.out.c j hjl
          have HY : Hid (ps[j] = k → R = (i : Int)) := fun e => HH.out (e ▸ List.getElem_mem hjl)
          have HM : Hid (¬ ps[j] = k → k ∉ ps.take (j + 1)) := fun hne hc => by
            rw [List.take_succ_eq_append_getElem hjl] at hc
            rcases List.mem_append.1 hc with hc | hc
            · exact hJ.out hc
            · simp at hc
              exact hne hc.symm
          clear hJ
          generalize ps[j] = y at *
          by_cases hy : y = k
          · have HE := hide (HY.out hy)
            clear HY HM
            subst hy
            go_wp2_with fail
            go_ret
            exact ⟨by rw [HE.out]; rfl, HX.out.bel⟩
          · have HM2 := hide (HM.out hy)
            clear HY HM
            have hy' : (y == k) = false := by simpa using hy
            go_wp2_with fail
            go_roundw
            case rel => exact ⟨j + 1, by omega, by go_num, HM2.out, by first | rfl | trivial⟩
            case measure => simp [intOf]; omega
end Go.Proofs.YtdodellmbceffaaDoor
namespace Go.Proofs.YtdodellmbceffaaDoor
open Go.RowKit
theorem exec_addn {ρ : Operand → Value} {op : Oper} {w : World} {a b : Nat} {t2 : TypeId} (x y : Operand) (ho : op.op = .binOp .add 3 x y t2) (hx : ρ x = .int .i64 (a : Int)) (hy : ρ y = .int .i64 (b : Int)) (h1 : a + b < 9223372036854775808) : (execOp ρ op).run Tryd.prog w = .ok (.value (.int .i64 ((a + b : Nat) : Int))) w := by
  unfold execOp
  simp only [ho, hx, hy]
  go_simp
  exact i64_in (by omega) (by omega)
theorem exec_remn {ρ : Operand → Value} {op : Oper} {w : World} {a b : Nat} {t2 : TypeId} (x y : Operand) (ho : op.op = .binOp .rem 3 x y t2) (hx : ρ x = .int .i64 (a : Int)) (hy : ρ y = .int .i64 (b : Int)) (h0 : 0 < b) (h1 : b < 9223372036854775808) : (execOp ρ op).run Tryd.prog w = .ok (.value (.int .i64 ((a % b : Nat) : Int))) w := by
  unfold execOp
  simp only [ho, hx, hy]
  have hm : (a : Int).tmod (b : Int) = ((a % b : Nat) : Int) := by rw [Int.tmod_eq_emod_of_nonneg (by omega)]; rfl
  have hl : a % b < b := Nat.mod_lt _ h0
  generalize a % b = r at *
  have hb0 : ((b : Int) == 0) = false := beq_eq_false_iff_ne.2 (by omega)
  have e := wrap_in (x := (r : Int)) (by omega) (by omega)
  go_simp
  omega
theorem wpList_addn {w : World} {ops : Array Oper} {rest : List Oper} {op : Oper} {a : Act} {Q : Exit → Act → World → Prop} (hgd : op.guard = none) {t2 : TypeId} (x y : Operand) (ho : op.op = .binOp .add 3 x y t2) (A B : Nat) (hx : a.eval x = .int .i64 (A : Int)) (hy : a.eval y = .int .i64 (B : Int)) (h1 : A + B < 9223372036854775808) (h : wpList Tryd.prog ops Q rest (a.put op.dst (.int .i64 ((A + B : Nat) : Int))) w) : wpList Tryd.prog ops Q (op :: rest) a w :=
  wpList_plain hgd fun _ hK => wp_exec (exec_addn x y ho hx hy h1) (hK _ _ h)
theorem wpList_plc {w : World} {ops : Array Oper} {rest : List Oper} {op : Oper} {a : Act} {Q : Exit → Act → World → Prop} (hgd : op.guard = none) {t2 : TypeId} (x y : Operand) (ho : op.op = .binOp .rem 3 x y t2) (P f i : Nat) (hx : a.eval x = .int .i64 ((f + i : Nat) : Int)) (hy : a.eval y = .int .i64 (P : Int)) (h0 : 0 < P) (h1 : P < 9223372036854775808) (h : wpList Tryd.prog ops Q rest (a.put op.dst (.int .i64 ((plc P f i : Nat) : Int))) w) : wpList Tryd.prog ops Q (op :: rest) a w :=
  wpList_plain hgd fun _ hK => wp_exec (exec_remn x y ho hx hy h0 h1) (hK _ _ h)
theorem exec_eqls {ρ : Operand → Value} {op : Oper} {w : World} {m n : Int} {t2 : TypeId} (x y : Operand) (ho : op.op = .binOp .eql 3 x y t2) (hx : ρ x = .int .i64 m) (hy : ρ y = .int .i64 n) : (execOp ρ op).run Tryd.prog w = .ok (.value (.bool (m == n))) w := by
  unfold execOp
  simp only [ho, hx, hy]
  go_simp
set_option maxHeartbeats 8000000 in
set_option maxRecDepth 100000 in
set_option linter.unusedSimpArgs false in
set_option linter.unusedVariables false in
/-- the document's walk -/
theorem rwalk_any (N : Nat) (w : World) (st : ByteArray) (x : Nat → Int) (ao : Option Addr) (b o cap : Nat) (pv : Nat → Value) (ns : List ND) (f R : Nat) (h : NsAt N w ao b o pv ns) (hN : N ≤ w.heap.size) (h16 : ns.length ≤ 16) (p1 : 1 ≤ ptN ns) (p2 : ptN ns ≤ 64) (hf : f < ptN ns) (hR : x 0 = (R : Int)) (r1 : 1 ≤ R) (r2 : R ≤ 16) :
    Calls Tryd.prog 23 #[.agg (clA st x (.slice ao ns.length cap)), .int .i64 (f : Int)] w fun e w' => ∃ v, e = .returned v ∧ w'.ownsRow w.heap.size 3 1 v (wkR ns (ptN ns) f R).length (ints (nis (wkR ns (ptN ns) f R))) ∧ Below w.heap.size w w' := by
  obtain ⟨P, hP⟩ : ∃ P, P = ptN ns := ⟨_, rfl⟩
  obtain ⟨W0, hW0, hX⟩ := boxed st x cap h hN
  have HX := hide (hX.stand hN)
  have B0 := hide hX.bel
  clear hX h
  have PA := hide (parts_any N W0 st x ao b o cap pv ns HX.out.nd HX.out.le h16)
  rw [← hP] at p1 p2 hf PA ⊢
  clear hP
  obtain ⟨k0, hk0, hx0, hx1, hx2⟩ := info_parts infoInt
  go_enter Tryd.func23, Tryd.ntmps23
  go_upto_region 1 with fail
  rw [← hW0]
  clear hW0
  go_wp2_with (refine wpList_loadCl rfl (.tmp 2) rfl w.heap.size st x _ rfl HX.out.cl ?_)
  refine Calls.mono PA.out ?_
  rintro e W1 ⟨rfl, hb⟩
  have H1 := hide (HX.out.below hb)
  have B1 := hide (B0.out.trans (hb.mono B0.out.size))
  clear hb HX B0 PA
  go_wp2_with fail
  go_loopw [5, 7] (fun vt vi wr => ∃ (i : Nat), i ≤ P ∧ vi = .int .i64 (i : Int) ∧ (wkL ns P f i).length ≤ R ∧ Hid (wr.ownsRow W1.heap.size 3 1 vt (wkL ns P f i).length (ints (nis (wkL ns P f i)))) ∧ Hid (Below W1.heap.size W1 wr)) (fun _ vi _ => P - (intOf vi).toNat)
  case atStart => exact ⟨0, Nat.zero_le _, rfl, by simp [wkL], World.ownsRow_nil _ _ _ _, Below.refl _ _⟩
  case round =>
    obtain ⟨i, hi, rfl, hlt, HO, HB⟩ := hrel
    obtain ⟨ba, cp, hv, _⟩ := own_sl HO.out
    subst hv
    have x0 := (H1.out.cl.below HB.out).x0
    rw [hR] at x0
    by_cases hil : i < P
    case neg =>
      obtain rfl : i = P := by omega
      have HE := hide (wkR_all (ns := ns) (P := i) (f := f) (R := R) hlt)
      go_wp2_with fail
      go_ret
      exact ⟨_, rfl, by rw [HE.out]; exact own_lower HO.out B1.out.size, B1.out.trans (HB.out.mono B1.out.size)⟩
    case pos =>
      have hii : (i : Int) < (P : Int) := by omega
      by_cases hlr : (wkL ns P f i).length < R
      case neg =>
        have HE := hide (wkR_at (ns := ns) (P := P) (f := f) (R := R) (i := i) (by omega) (by omega))
        have hli : ¬ ((wkL ns P f i).length : Int) < (R : Int) := by omega
        generalize wkL ns P f i = L at *
        go_wp2_with fail
        go_ret
        exact ⟨_, rfl, by rw [HE.out]; exact own_lower HO.out B1.out.size, B1.out.trans (HB.out.mono B1.out.size)⟩
      case pos =>
        have hli : ((wkL ns P f i).length : Int) < (R : Int) := by omega
        have HT := hide (frsh_true (ns := ns) (P := P) (f := f) (i := i))
        have HYes : Hid (frsh ns P f i = true → wkL ns P f (i + 1) = wkL ns P f i ++ [plc P f i]) := wkL_yes
        have HNo : Hid (frsh ns P f i = false → wkL ns P f (i + 1) = wkL ns P f i) := wkL_no
        generalize wkL ns P f i = L at *
        go_wp2_with fail
        go_loopw [8, 9] (fun vf vj wq => ∃ (j : Nat), j ≤ i ∧ vj = .int .i64 (j : Int) ∧ vf = .bool ((List.range j).all fun j => !(hm ns (plc P f j) == hm ns (plc P f i))) ∧ Hid (wq.ownsRow W1.heap.size 3 1 (.slice ba L.length cp) L.length (ints (nis L))) ∧ Hid (Below W1.heap.size W1 wq)) (fun _ vj _ => i - (intOf vj).toNat)
        case atStart => exact ⟨0, Nat.zero_le _, rfl, rfl, HO, HB⟩
        case round =>
          clear HO HB x0
          obtain ⟨j, hj, rfl, rfl, HO, HB⟩ := hrel
          by_cases hji : j < i
          case neg =>
            obtain rfl : j = i := by omega
            have hfr : (List.range j).all (fun q => !(hm ns (plc P f q) == hm ns (plc P f j))) = frsh ns P f j := rfl
            rw [hfr]
            clear hfr HT
            cases hc : frsh ns P f j with
            | false =>
              have HE := hide (HNo.out hc)
              clear HNo HYes hc
              go_wp2_with fail
              go_roundw
              case rel => exact ⟨j + 1, by omega, by go_num, by rw [HE.out]; omega, by rw [HE.out]; exact HO, HB⟩
              case measure => simp [intOf]; omega
            | true =>
              have HE := hide (HYes.out hc)
              clear HNo HYes hc
              go_upto_region 5 with (first | refine wpList_addn rfl (.tmp 46) (.tmp 47) rfl f j rfl rfl (by omega) ?_ | refine wpList_plc rfl (.tmp 48) (.tmp 49) rfl P f j rfl rfl (by omega) (by omega) ?_ | (at_builtin; refine wpList_append_own_at _ rfl (.tmp 45) (.tmp 51) 36 rfl W1.heap.size 3 k0 (.int .i64 0) 1 8 Tryd.underlying36 hk0 hx0 hx1 hx2 rfl (by decide) _ _ _ rfl (HO.out.alloc _) ⟨wr.heap.size, 0, none⟩ 1 1 (ints [((plc P f j : Nat) : Int)]) rfl rfl (one_cells wr _) (ints_one _) (by unfold maxLen; omega) (by omega) (by have := HB.out.size; simp; omega) ?_; intro v2 X3 o3 g3 n3 a3; clear n3 a3))
              have B3 : Hid (Below W1.heap.size W1 X3) := (HB.out.alloc HB.out.size _).grown g3 (by have := HB.out.size; simp; omega) (fun j hj => (own_lt HO.out hj).1)
              have O3 : Hid (X3.ownsRow W1.heap.size 3 1 v2 (wkL ns P f (j + 1)).length (ints (nis (wkL ns P f (j + 1))))) := by
                rw [HE.out, List.length_append, nis_append]
                unfold ints at o3 ⊢
                rw [List.map_append]
                exact o3
              have HLn : Hid ((wkL ns P f (j + 1)).length ≤ R) := by
                show _ ≤ _
                rw [HE.out, List.length_append]
                exact hlr
              clear o3 g3 HE
              go_wp2_with fail
              go_roundw
              case rel => exact ⟨j + 1, by omega, by go_num, HLn.out, O3, B3⟩
              case measure => simp [intOf]; omega
          case pos =>
            have hjii : (j : Int) < (i : Int) := by omega
            have HS : Hid ((List.range (j + 1)).all (fun j => !(hm ns (plc P f j) == hm ns (plc P f i))) = ((List.range j).all (fun j => !(hm ns (plc P f j) == hm ns (plc P f i))) && !(hm ns (plc P f j) == hm ns (plc P f i)))) := by
              show _ = _
              rw [List.range_succ, List.all_append]
              simp
            generalize (List.range j).all (fun j => !(hm ns (plc P f j) == hm ns (plc P f i))) = fr at *
            have HC : Hid (∀ Y, Below wr.heap.size wr Y → ClAt Y w.heap.size st x (.slice ao ns.length cap)) := fun Y hY => (H1.out.cl.below HB.out).below hY
            have HH : Hid (∀ Y k, Below wr.heap.size wr Y → Calls Tryd.prog 25 #[.agg (clA st x (.slice ao ns.length cap)), .int .i64 ((k : Nat) : Int)] Y fun e w' => e = .returned (.int .i64 (hm ns k)) ∧ Below Y.heap.size Y w') := fun Y k hY => home_any N Y st x ao b o cap pv ns _ (H1.out.nd.below ((HB.out.trans (hY.mono HB.out.size)).mono H1.out.le)) (Nat.le_trans H1.out.le (Nat.le_trans HB.out.size hY.size))
            go_upto_region 10 with fail
            refine wp_region_held_drew (S := fun Y => Below wr.heap.size wr Y) (by kernel_rfl) ((Below.refl _ _).drew) (fun hHeld => ?_)
            refine wpAnyH_take (i := 0) (v := (.agg (clA st x (.slice ao ns.length cap)))) rfl (by kernel_rfl) (by kernel_rfl) (by kernel_rfl) (fun _ _ _ h => h) (Or.inl ⟨by rfl, ?_⟩) (by assumption) ?_
            · intro w' hSw
              (try dsimp only at hSw)
              exact exec_loadCl (.tmp 2) rfl rfl (HC.out _ hSw)
            (try simp only [Act.put, List.setIfInBounds_toArray, List.set_cons_zero, List.set_cons_succ])
            refine wpAnyH_take (i := 1) (v := (.int .i64 (f : Int))) rfl (by kernel_rfl) (by kernel_rfl) (by kernel_rfl) (fun _ _ _ h => h) (Or.inl ⟨by rfl, ?_⟩) (by assumption) ?_
            · intro w' hSw
              (try dsimp only at hSw)
              exact exec_move (.tmp 1) rfl (by kernel_rfl)
            (try simp only [Act.put, List.setIfInBounds_toArray, List.set_cons_zero, List.set_cons_succ])
            refine wpAnyH_take (i := 2) (v := (.int .i64 (j : Int))) rfl (by kernel_rfl) (by kernel_rfl) (by kernel_rfl) (fun _ _ _ h => h) (Or.inl ⟨by rfl, ?_⟩) (by assumption) ?_
            · intro w' hSw
              (try dsimp only at hSw)
              exact exec_move (.tmp 9) rfl (by kernel_rfl)
            (try simp only [Act.put, List.setIfInBounds_toArray, List.set_cons_zero, List.set_cons_succ])
            refine wpAnyH_take (i := 3) (v := (.int .i64 ((f + j : Nat) : Int))) rfl (by kernel_rfl) (by kernel_rfl) (by kernel_rfl) (fun _ _ _ h => h) (Or.inl ⟨by rfl, ?_⟩) (by assumption) ?_
            · intro w' hSw
              (try dsimp only at hSw)
              exact exec_addn (.tmp 30) (.tmp 31) rfl (by kernel_rfl) (by kernel_rfl) (by omega)
            (try simp only [Act.put, List.setIfInBounds_toArray, List.set_cons_zero, List.set_cons_succ])
            refine wpAnyH_take (i := 4) (v := (.int .i64 (P : Int))) rfl (by kernel_rfl) (by kernel_rfl) (by kernel_rfl) (fun _ _ _ h => h) (Or.inl ⟨by rfl, ?_⟩) (by assumption) ?_
            · intro w' hSw
              (try dsimp only at hSw)
              exact exec_move (.tmp 6) rfl (by kernel_rfl)
            (try simp only [Act.put, List.setIfInBounds_toArray, List.set_cons_zero, List.set_cons_succ])
            refine wpAnyH_take (i := 5) (v := (.int .i64 ((plc P f j : Nat) : Int))) rfl (by kernel_rfl) (by kernel_rfl) (by kernel_rfl) (fun _ _ _ h => h) (Or.inl ⟨by rfl, ?_⟩) (by assumption) ?_
            · intro w' hSw
              (try dsimp only at hSw)
              exact exec_remn (.tmp 32) (.tmp 33) rfl (by kernel_rfl) (by kernel_rfl) (by omega) (by omega)
            (try simp only [Act.put, List.setIfInBounds_toArray, List.set_cons_zero, List.set_cons_succ])
            refine wpAnyH_take (i := 7) (v := (.agg (clA st x (.slice ao ns.length cap)))) rfl (by kernel_rfl) (by kernel_rfl) (by kernel_rfl) (fun _ _ _ h => h) (Or.inl ⟨by rfl, ?_⟩) (by assumption) ?_
            · intro w' hSw
              (try dsimp only at hSw)
              exact exec_loadCl (.tmp 2) rfl rfl (HC.out _ hSw)
            (try simp only [Act.put, List.setIfInBounds_toArray, List.set_cons_zero, List.set_cons_succ])
            refine wpAnyH_take (i := 8) (v := (.int .i64 (f : Int))) rfl (by kernel_rfl) (by kernel_rfl) (by kernel_rfl) (fun _ _ _ h => h) (Or.inl ⟨by rfl, ?_⟩) (by assumption) ?_
            · intro w' hSw
              (try dsimp only at hSw)
              exact exec_move (.tmp 1) rfl (by kernel_rfl)
            (try simp only [Act.put, List.setIfInBounds_toArray, List.set_cons_zero, List.set_cons_succ])
            refine wpAnyH_take (i := 9) (v := (.int .i64 (i : Int))) rfl (by kernel_rfl) (by kernel_rfl) (by kernel_rfl) (fun _ _ _ h => h) (Or.inl ⟨by rfl, ?_⟩) (by assumption) ?_
            · intro w' hSw
              (try dsimp only at hSw)
              exact exec_move (.tmp 7) rfl (by kernel_rfl)
            (try simp only [Act.put, List.setIfInBounds_toArray, List.set_cons_zero, List.set_cons_succ])
            refine wpAnyH_take (i := 10) (v := (.int .i64 ((f + i : Nat) : Int))) rfl (by kernel_rfl) (by kernel_rfl) (by kernel_rfl) (fun _ _ _ h => h) (Or.inl ⟨by rfl, ?_⟩) (by assumption) ?_
            · intro w' hSw
              (try dsimp only at hSw)
              exact exec_addn (.tmp 37) (.tmp 38) rfl (by kernel_rfl) (by kernel_rfl) (by omega)
            (try simp only [Act.put, List.setIfInBounds_toArray, List.set_cons_zero, List.set_cons_succ])
            refine wpAnyH_take (i := 11) (v := (.int .i64 (P : Int))) rfl (by kernel_rfl) (by kernel_rfl) (by kernel_rfl) (fun _ _ _ h => h) (Or.inl ⟨by rfl, ?_⟩) (by assumption) ?_
            · intro w' hSw
              (try dsimp only at hSw)
              exact exec_move (.tmp 6) rfl (by kernel_rfl)
            (try simp only [Act.put, List.setIfInBounds_toArray, List.set_cons_zero, List.set_cons_succ])
            refine wpAnyH_take (i := 12) (v := (.int .i64 ((plc P f i : Nat) : Int))) rfl (by kernel_rfl) (by kernel_rfl) (by kernel_rfl) (fun _ _ _ h => h) (Or.inl ⟨by rfl, ?_⟩) (by assumption) ?_
            · intro w' hSw
              (try dsimp only at hSw)
              exact exec_remn (.tmp 39) (.tmp 40) rfl (by kernel_rfl) (by kernel_rfl) (by omega) (by omega)
            (try simp only [Act.put, List.setIfInBounds_toArray, List.set_cons_zero, List.set_cons_succ])
            refine wpAnyH_ready (rs := [6]) (by kernel_rfl) (by simp) ?_
            refine AllReadyH.cons rfl (fun K hK => ?_) AllReadyH.nil
            go_simp
            refine Calls.mono (HH.out _ (plc P f j) (Below.refl _ _).drew) ?_
            rintro e W3 ⟨rfl, hb⟩
            have B3 : Hid (Below wr.heap.size wr W3) := ⟨hb.os, hb.tape, hb.output, hb.size, hb.block⟩
            clear hb
            refine hK.out _ _ (B3.out) (fun hHeld => ?_)
            clear hK
            (try simp only [Act.put, List.setIfInBounds_toArray, List.set_cons_zero, List.set_cons_succ])
            refine wpAnyH_ready (rs := [13]) (by kernel_rfl) (by simp) ?_
            refine AllReadyH.cons rfl (fun K hK => ?_) AllReadyH.nil
            go_simp
            refine Calls.mono (HH.out _ (plc P f i) B3.out) ?_
            rintro e W4 ⟨rfl, hb⟩
            have B4 : Hid (Below wr.heap.size wr W4) := B3.out.trans (hb.mono B3.out.size)
            clear hb B3
            refine hK.out _ _ (B4.out) (fun hHeld => ?_)
            clear hK
            (try simp only [Act.put, List.setIfInBounds_toArray, List.set_cons_zero, List.set_cons_succ])
            refine wpAnyH_take (i := 14) (v := (.bool (hm ns (plc P f j) == hm ns (plc P f i)))) rfl (by kernel_rfl) (by kernel_rfl) (by kernel_rfl) (fun _ _ _ h => h) (Or.inl ⟨by rfl, ?_⟩) (by assumption) ?_
            · intro w' hSw
              (try dsimp only at hSw)
              exact exec_eqls (.tmp 35) (.tmp 42) rfl (by kernel_rfl) (by kernel_rfl)
            (try simp only [Act.put, List.setIfInBounds_toArray, List.set_cons_zero, List.set_cons_succ])
            refine wpAnyH_done (by kernel_rfl) ?_ _
            clear hHeld HC HH
            have O4 : Hid (W4.ownsRow W1.heap.size 3 1 (.slice ba L.length cp) L.length (ints (nis L))) := own_keep HO.out (fun g hg => B4.out.block g (own_lt HO.out hg).2)
            have B5 := hide (HB.out.trans (B4.out.mono HB.out.size))
            clear HO HB B4
            cases he : (hm ns (plc P f j) == hm ns (plc P f i)) with
            | true =>
              rw [he] at HS
              have HS2 := HS.out
              rw [Bool.not_true, Bool.and_false] at HS2
              have HS3 := hide HS2
              clear HS HS2
              go_wp2_with fail
              go_roundw
              case rel => exact ⟨j + 1, by omega, by go_num, by rw [HS3.out], O4, B5⟩
              case measure => simp [intOf]; omega
            | false =>
              rw [he] at HS
              have HS2 := HS.out
              rw [Bool.not_false, Bool.and_true] at HS2
              have HS3 := hide HS2
              clear HS HS2
              go_wp2_with fail
              go_roundw
              case rel => exact ⟨j + 1, by omega, by go_num, by rw [HS3.out], O4, B5⟩
              case measure => simp [intOf]; omega
end Go.Proofs.YtdodellmbceffaaDoor
namespace Go.Proofs.YtdodellmbceffaaDoor
open Go.RowKit
theorem errP_dl {st : ByteArray} {x : Nat → Int} {ns : List ND} (h : errP st x ns = 0) : Dealt ns := by
  apply Classical.byContradiction
  intro hn
  unfold errP at h
  rw [dlB_false hn] at h
  split at h <;> (try split at h) <;> (try split at h) <;> simp at h
theorem wpList_loadClG {w : World} {ops : Array Oper} {rest : List Oper} {o : Oper} {a : Act} {Q : Exit → Act → World → Prop} (p : Operand) (ho : o.op = .load 24 p) (hw : Region.wanted o (yielded ops a.tmps) = true) (b : Nat) (st : ByteArray) (x : Nat → Int) (nv : Value) (hx : a.eval p = .pointer (some ⟨b, 0, none⟩)) (hO : ClAt w b st x nv)
    (h : wpList Tryd.prog ops Q rest (a.put o.dst (.agg (clA st x nv))) w) : wpList Tryd.prog ops Q (o :: rest) a w := by
  refine wpList_step fun K hK => ?_
  rw [if_pos hw]
  exact wp_exec (exec_loadCl p ho hx hO) (hK _ _ h)
set_option maxHeartbeats 8000000 in
set_option maxRecDepth 100000 in
set_option linter.unusedSimpArgs false in
set_option linter.unusedVariables false in
/-- the document's Walk -/
theorem rWalk_any (N : Nat) (w : World) (st : ByteArray) (x : Nat → Int) (ao : Option Addr) (b o cap : Nat) (pv : Nat → Value) (ns : List ND) (p : Int) (h : NsAt N w ao b o pv ns) (hN : N ≤ w.heap.size) (hs : st.size ≤ 9223372036854775807) (hT : TabG w) :
    Calls Tryd.prog 11 #[.agg (clA st x (.slice ao ns.length cap)), .int .i64 p] w fun e w' => ∃ v, e = .returned (.tuple #[v, .int .i64 (rdE st x ns p)]) ∧ w'.ownsRow w.heap.size 3 1 v (wkE st x ns p).length (ints (nis (wkE st x ns p))) ∧ Below w.heap.size w w' := by
  obtain ⟨L, hL⟩ : ∃ L, L = wkE st x ns p := ⟨_, rfl⟩
  obtain ⟨k, hk⟩ : ∃ k, k = rdE st x ns p := ⟨_, rfl⟩
  rw [← hL, ← hk]
  have HLL := hide hL
  have HKK := hide hk
  obtain ⟨W0, hW0, hX⟩ := boxed st x cap h hN
  have HX := hide (hX.stand hN)
  have B0 := hide hX.bel
  have T0 := hide (hT.below hX.bel)
  clear hX h hk hL hT
  have CK := hide (rcheck_any N W0 st x ao b o cap pv ns HX.out.nd HX.out.le hs T0.out)
  go_enter Tryd.func11, Tryd.ntmps11
  go_upto_region 1 with fail
  rw [← hW0]
  clear hW0
  go_wp2_with (refine wpList_loadCl rfl (.tmp 2) rfl w.heap.size st x _ rfl HX.out.cl ?_)
  refine Calls.mono CK.out ?_
  rintro e W1 ⟨rfl, hb⟩
  have H1 := hide (HX.out.below hb)
  have B1 := hide (B0.out.trans (hb.mono B0.out.size))
  clear hb HX CK T0
  by_cases he : errP st x ns = 0
  case neg =>
    have hk2 : k = errP st x ns := HKK.out.trans (rdE_bad he)
    have hL2 : L = [] := HLL.out.trans (wkE_bad (by rw [rdE_bad he]; exact he))
    rw [← hk2] at he ⊢
    subst hL2
    have HE := hide he
    clear HLL HKK hk2 he
    have hkn : (k == 0) = false := beq_eq_false_iff_ne.2 HE.out
    go_wp2_with fail
    go_ret2
    exact ⟨_, rfl, World.ownsRow_nil _ _ _ _, B1.out⟩
  case pos =>
    have RP := hide (rdE_part (p := p) he)
    have RO := hide (rdE_ok (p := p) he)
    have L0 : 1 ≤ x 0 ∧ x 0 ≤ 16 := sfP_lim (errP_ok he).1 0 (by omega)
    have n16 := nfP_len (errP_ok he).2
    have HD : Hid (1 ≤ ptN ns ∧ ptN ns ≤ 64) := ⟨(errP_dl he).p1, (errP_dl he).p2⟩
    rw [he]
    clear he
    have PA := hide (parts_any N W1 st x ao b o cap pv ns H1.out.nd H1.out.le n16.2)
    by_cases hp0 : p < 0
    · have hk2 : k = 69 := HKK.out.trans (RP.out (Or.inl hp0))
      have hL2 : L = [] := HLL.out.trans (wkE_bad (by rw [RP.out (Or.inl hp0)]; omega))
      subst hL2
      subst hk2
      clear HLL HKK RP RO
      go_wp2_with fail
      go_ret2
      exact ⟨_, rfl, World.ownsRow_nil _ _ _ _, B1.out⟩
    · have hp0' : decide (p < 0) = false := decide_eq_false hp0
      go_upto_region 4 with fail
      go_wp2_with (first | refine wpList_loadClG (.tmp 2) rfl (by rfl) w.heap.size st x _ rfl H1.out.cl ?_)
      refine Calls.mono PA.out ?_
      rintro e W2 ⟨rfl, hb⟩
      have H2 := hide (H1.out.below hb)
      have B2 := hide (B1.out.trans (hb.mono B1.out.size))
      clear hb H1 B1 PA
      by_cases hp1 : (ptN ns : Int) ≤ p
      · have hk2 : k = 69 := HKK.out.trans (RP.out (Or.inr hp1))
        have hL2 : L = [] := HLL.out.trans (wkE_bad (by rw [RP.out (Or.inr hp1)]; omega))
        subst hL2
        subst hk2
        clear HLL HKK RP RO
        go_wp2_with fail
        go_ret2
        exact ⟨_, rfl, World.ownsRow_nil _ _ _ _, B2.out⟩
      · have hr := RO.out (by omega)
        have hk2 : k = 0 := HKK.out.trans hr
        have HL2 : Hid (L = wk x ns p) := HLL.out.trans (wkE_ok hr)
        subst hk2
        clear HLL HKK RP RO hr
        have RW := rwalk_any N W2 st x ao b o cap pv ns p.toNat (x 0).toNat H2.out.nd H2.out.le n16.2 HD.out.1 HD.out.2 (by omega) (by omega) (by omega) (by omega)
        rw [Int.toNat_of_nonneg (by omega)] at RW
        have RW := hide RW
        go_upto_region 6 with fail
        go_wp2_with (refine wpList_loadCl rfl (.tmp 2) rfl w.heap.size st x _ rfl H2.out.cl ?_)
        refine Calls.mono RW.out ?_
        rintro e W3 ⟨v, rfl, o3, hb⟩
        have B3 := hide (B2.out.trans (hb.mono B2.out.size))
        have O3 : Hid (W3.ownsRow w.heap.size 3 1 v L.length (ints (nis L))) := by
          rw [HL2.out]
          exact own_lower o3 B2.out.size
        clear hb o3 RW HL2
        obtain ⟨ba, cp2, hv, _⟩ := own_sl O3.out
        subst hv
        go_wp2_with fail
        go_ret2
        exact ⟨_, rfl, O3.out, B3.out⟩
end Go.Proofs.YtdodellmbceffaaDoor
