import Derived.Test.YtpoegknmkbnjlaaDoorGGcApp
import Derived.Test.YtpoegknmkbnjlaaDoorGGcDoc
import Derived.Test.YtpoegknmkbnjlaaDoorGEpAsk
import Derived.Test.YtpoegknmkbnjlaaDoorGKbMap
namespace Go.Proofs.YtpoegknmkbnjlaaDoor
open Go.RowKit
/-- the error of a walk -/
noncomputable def rdE (st : ByteArray) (x : Nat → Int) (ns : List ND) (p : Int) : Int := if errP st x ns = 0 then (if p < 0 ∨ (ptN ns : Int) ≤ p then 69 else 0) else errP st x ns
/-- the walk from p on -/
def wk (x : Nat → Int) (ns : List ND) (p : Int) : List Nat := wkR ns (ptN ns) p.toNat (x 0).toNat
theorem errP_ok {st : ByteArray} {x : Nat → Int} {ns : List ND} (h : errP st x ns = 0) : sfP x = true ∧ nfP ns = true := by
  unfold errP at h
  constructor
  · cases e : sfP x with
    | true => rfl
    | false => rw [e] at h; split at h <;> simp at h
  · cases e : nfP ns with
    | true => rfl
    | false => rw [e] at h; split at h <;> (try split at h) <;> simp at h
theorem rdE_bad {st : ByteArray} {x : Nat → Int} {ns : List ND} {p : Int} (h : errP st x ns ≠ 0) : rdE st x ns p = errP st x ns := if_neg h
theorem rdE_part {st : ByteArray} {x : Nat → Int} {ns : List ND} {p : Int} (h : errP st x ns = 0) (hp : p < 0 ∨ (ptN ns : Int) ≤ p) : rdE st x ns p = 69 := by unfold rdE; rw [if_pos h, if_pos hp]
theorem rdE_ok {st : ByteArray} {x : Nat → Int} {ns : List ND} {p : Int} (h : errP st x ns = 0) (hp : ¬ (p < 0 ∨ (ptN ns : Int) ≤ p)) : rdE st x ns p = 0 := by unfold rdE; rw [if_pos h, if_neg hp]
theorem rdE_zero {st : ByteArray} {x : Nat → Int} {ns : List ND} {p : Int} (h : rdE st x ns p = 0) : errP st x ns = 0 ∧ 0 ≤ p ∧ p < (ptN ns : Int) := by
  by_cases e : errP st x ns = 0
  · by_cases hp : p < 0 ∨ (ptN ns : Int) ≤ p
    · rw [rdE_part e hp] at h
      omega
    · exact ⟨e, by omega, by omega⟩
  · rw [rdE_bad e] at h
    exact absurd h e
theorem wk_len (x : Nat → Int) (ns : List ND) (p : Int) : (wk x ns p).length ≤ ptN ns := by
  unfold wk wkR
  rw [List.length_take]
  have := wkL_len ns (ptN ns) p.toNat (ptN ns)
  omega
theorem wk_lt {x : Nat → Int} {ns : List ND} {p : Int} (h : 0 < ptN ns) : ∀ k ∈ wk x ns p, k < ptN ns := fun k hk => wkL_lt h _ k (List.mem_of_mem_take hk)
/-- the walk, where there is one -/
noncomputable def wkE (st : ByteArray) (x : Nat → Int) (ns : List ND) (p : Int) : List Nat := if rdE st x ns p = 0 then wk x ns p else []
theorem wkE_ok {st : ByteArray} {x : Nat → Int} {ns : List ND} {p : Int} (h : rdE st x ns p = 0) : wkE st x ns p = wk x ns p := if_pos h
theorem wkE_bad {st : ByteArray} {x : Nat → Int} {ns : List ND} {p : Int} (h : rdE st x ns p ≠ 0) : wkE st x ns p = [] := if_neg h
/-- what round answers -/
structure RdOf (st : ByteArray) (x : Nat → Int) (ns : List ND) (p : Int) (w : World) (e : Ending) (w' : World) : Prop where
  out : ∃ vn vp, e = .returned (.tuple #[vn, vp, .int .i64 (rdE st x ns p)]) ∧ (rdE st x ns p = 0 → Dealt ns ∧ (∃ g, vn = .slice (some ⟨g, 0, none⟩) (ptN ns) (ptN ns) ∧ w'.heap[g]? = some (.cells (outL ns).toArray 3 (0, 0))) ∧ w'.ownsRow w.heap.size 3 1 vp (wk x ns p).length (ints (nis (wk x ns p)))) ∧ (rdE st x ns p ≠ 0 → vn = .slice none 0 0 ∧ vp = .slice none 0 0)
  bel : Below w.heap.size w w'
theorem RdOf.bad {st : ByteArray} {x : Nat → Int} {ns : List ND} {p : Int} {w w' : World} {e : Ending} {k : Int} (he : rdE st x ns p = k) (hk : k ≠ 0) (h : e = .returned (.tuple #[.slice none 0 0, .slice none 0 0, .int .i64 k])) (hb : Below w.heap.size w w') : RdOf st x ns p w e w' :=
  ⟨⟨_, _, by rw [he]; exact h, fun h0 => absurd (he.symm.trans h0) hk, fun _ => ⟨rfl, rfl⟩⟩, hb⟩
set_option maxHeartbeats 8000000 in
set_option maxRecDepth 100000 in
set_option linter.unusedSimpArgs false in
set_option linter.unusedVariables false in
theorem round_any (N : Nat) (w : World) (st : ByteArray) (x : Nat → Int) (ao : Option Addr) (b o cap : Nat) (pv : Nat → Value) (ns : List ND) (p : Int) (h : NsAt N w ao b o pv ns) (hN : N ≤ w.heap.size) (hs : st.size ≤ 9223372036854775807) :
    Calls Tryd.prog 41 #[.agg (clA st x (.slice ao ns.length cap)), .int .i64 p] w fun e w' => RdOf st x ns p w e w' := by
  obtain ⟨W0, hW0, hX⟩ := boxed st x cap h hN
  have HX := hide (hX.stand hN)
  have B0 := hide hX.bel
  clear hX h
  have ND := hide (nodesOf_any N W0 st x ao b o cap pv ns HX.out.nd HX.out.le hs)
  go_enter Tryd.func41, Tryd.ntmps41
  go_upto_region 1 with fail
  rw [← hW0]
  clear hW0
  go_wp2_with (refine wpList_loadCl rfl (.tmp 2) rfl w.heap.size st x _ rfl HX.out.cl ?_)
  refine Calls.mono ND.out ?_
  rintro e W1 ⟨⟨v, rfl, h1, h2⟩, hb⟩
  have X1 := hide (HX.out.below hb)
  have B1 := hide (B0.out.trans (hb.mono B0.out.size))
  clear hb HX ND
  by_cases he : errP st x ns = 0
  case neg =>
    obtain rfl := h2 he
    have HE := hide (rdE_bad (p := p) he)
    have HK := hide he
    generalize errP st x ns = k at *
    clear h1 h2
    go_wp2_with fail
    go_ret3
    exact RdOf.bad HE.out HK.out rfl B1.out
  case pos =>
    obtain ⟨hd, g, rfl, hg, hgs⟩ := h1 he
    have d1 := hd.p1
    have d2 := hd.p2
    have hpt : (flat ns).length = ptN ns := rfl
    rw [hpt] at d1 d2
    have RP := hide (rdE_part (p := p) he)
    have RO := hide (rdE_ok (p := p) he)
    have L0 := sfP_lim (errP_ok he).1 0 (by omega)
    have L0 : 1 ≤ x 0 ∧ x 0 ≤ 16 := L0
    have HD := hide hd
    have HG := hide hg
    have HPT := hide hpt
    rw [he]
    clear h1 h2 hd hg hpt he
    by_cases hp0 : p < 0
    · have HE := hide (RP.out (Or.inl hp0))
      go_wp2_with fail
      go_ret3
      exact RdOf.bad HE.out (by omega) rfl B1.out
    · by_cases hp1 : (ptN ns : Int) ≤ p
      · have HE := hide (RP.out (Or.inr hp1))
        go_wp2_with fail
        go_ret3
        exact RdOf.bad HE.out (by omega) rfl B1.out
      · have HE := hide (RO.out (by omega))
        have WK := walk_any W1 g (ptN ns) p.toNat (x 0).toNat ns HG.out HPT.out.symm (by omega) (by omega) (by omega) (by omega) (by omega)
        rw [Int.toNat_of_nonneg (by omega), Int.toNat_of_nonneg (by omega)] at WK
        have WK := hide WK
        have x0 := X1.out.cl.x0
        clear RP RO
        go_wp2_with fail
        refine Calls.mono WK.out ?_
        rintro e W2 ⟨v2, rfl, o2, hb⟩
        have B2 := hide (B1.out.trans (hb.mono B1.out.size))
        have G2 : Hid (W2.heap[g]? = some (.cells (outL ns).toArray 3 (0, 0))) := (hb.block _ (blk_lt HG.out)).trans HG.out
        have O2 := hide (own_lower o2 B1.out.size)
        clear hb o2 WK x0
        go_wp2_with fail
        go_ret3
        exact ⟨⟨_, _, by rw [HE.out]; rfl, fun _ => ⟨HD.out, ⟨g, rfl, G2.out⟩, O2.out⟩, fun h => absurd HE.out h⟩, B2.out⟩
set_option maxHeartbeats 8000000 in
set_option maxRecDepth 100000 in
set_option linter.unusedSimpArgs false in
set_option linter.unusedVariables false in
/-- Owners: the owners, the error -/
theorem Owners_any (N : Nat) (w : World) (st : ByteArray) (x : Nat → Int) (ao : Option Addr) (b o cap : Nat) (pv : Nat → Value) (ns : List ND) (p : Int) (h : NsAt N w ao b o pv ns) (hN : N ≤ w.heap.size) (hs : st.size ≤ 9223372036854775807) :
    Calls Tryd.prog 23 #[.agg (clA st x (.slice ao ns.length cap)), .int .i64 p] w fun e w' => ∃ v, e = .returned (.tuple #[v, .int .i64 (rdE st x ns p)]) ∧ w'.ownsRow w.heap.size 3 1 v (wkE st x ns p).length (ints (owL ns (wkE st x ns p))) ∧ Below w.heap.size w w' := by
  obtain ⟨L, hL⟩ : ∃ L, L = wkE st x ns p := ⟨_, rfl⟩
  obtain ⟨k, hk⟩ : ∃ k, k = rdE st x ns p := ⟨_, rfl⟩
  rw [← hL, ← hk]
  have HLL := hide hL
  have HKK := hide hk
  obtain ⟨W0, hW0, hX⟩ := boxed st x cap h hN
  have HX := hide (hX.stand hN)
  have B0 := hide hX.bel
  clear hX h hk hL
  have ND := hide (round_any N W0 st x ao b o cap pv ns p HX.out.nd HX.out.le hs)
  go_enter Tryd.func23, Tryd.ntmps23
  go_upto_region 1 with fail
  rw [← hW0]
  clear hW0
  go_wp2_with (refine wpList_loadCl rfl (.tmp 2) rfl w.heap.size st x _ rfl HX.out.cl ?_)
  refine Calls.mono ND.out ?_
  rintro e W1 ⟨⟨vn, vp, rfl, h1, h2⟩, hb⟩
  rw [← HKK.out] at h1 h2 ⊢
  have B1 := hide (B0.out.trans (hb.mono B0.out.size))
  have H1 := hide h1
  have H2 := hide h2
  clear hb HX ND h1 h2
  by_cases he : k = 0
  case neg =>
    obtain ⟨rfl, rfl⟩ := H2.out he
    have KE := hide (keepers_any 0 W1 0 0 none ns [] none 0 0 0 ⟨fun h => absurd h (Nat.lt_irrefl _), fun h => absurd h (Nat.lt_irrefl _), fun q hq => absurd hq (Nat.not_lt_zero _), by simp [nis]⟩ (Nat.zero_le _) (fun h => absurd h (Nat.lt_irrefl _)) (fun k hk => absurd hk (Nat.not_lt_zero _)) (fun k hk => absurd hk (by simp)) (by simp) (by omega))
    obtain rfl : L = [] := HLL.out.trans (wkE_bad (HKK.out ▸ he))
    clear he H1 H2
    go_wp2_with fail
    refine Calls.mono KE.out ?_
    rintro e W2 ⟨v, rfl, o2, hb⟩
    have B2 := hide (B1.out.trans (hb.mono B1.out.size))
    have O2 := hide (own_lower o2 B1.out.size)
    clear hb o2 KE
    obtain ⟨ba, cp, hv, _⟩ := own_sl O2.out
    subst hv
    go_wp2_with fail
    go_ret2
    exact ⟨_, rfl, O2.out, B2.out⟩
  case pos =>
    obtain ⟨hd, ⟨g, rfl, hg⟩, ho⟩ := H1.out he
    have HLw : Hid (L = wk x ns p) := HLL.out.trans (wkE_ok (HKK.out ▸ he))
    rw [← HLw.out] at ho
    obtain ⟨pa, cp, hv, _⟩ := own_sl ho
    subst hv
    have d1 := hd.p1
    have d2 := hd.p2
    have hpt : (flat ns).length = ptN ns := rfl
    rw [hpt] at d1 d2
    have hl : L.length ≤ ptN ns := by rw [HLw.out]; exact wk_len x ns p
    have hlt : ∀ k ∈ L, k < ptN ns := by rw [HLw.out]; exact wk_lt (by omega)
    obtain ⟨pa', pb, po, pc, e1, hps⟩ := own_ps ho (nis_len _).symm (by rw [nis_len]; omega)
    injection e1 with e1 e2 e3
    subst e1
    subst e3
    have KE := hide (keepers_any W1.heap.size W1 g (ptN ns) (some ⟨g, 0, none⟩) ns L pa pb po cp hps (Nat.le_refl _) (fun _ => ⟨rfl, blk_lt hg⟩) (fun k hk => outL_cell hg hk) hlt (by omega) (by omega))
    clear he H1 H2 hps hg ho hpt hd HLL e2 HLw hlt
    go_wp2_with fail
    refine Calls.mono KE.out ?_
    rintro e W2 ⟨v, rfl, o2, hb⟩
    have B2 := hide (B1.out.trans (hb.mono B1.out.size))
    have O2 := hide (own_lower o2 B1.out.size)
    clear hb o2 KE
    obtain ⟨ba, cp2, hv, _⟩ := own_sl O2.out
    subst hv
    go_wp2_with fail
    go_ret2
    exact ⟨_, rfl, O2.out, B2.out⟩
end Go.Proofs.YtpoegknmkbnjlaaDoor
namespace Go.Proofs.YtpoegknmkbnjlaaDoor
end Go.Proofs.YtpoegknmkbnjlaaDoor
namespace Go.Proofs.YtpoegknmkbnjlaaDoor
open Go.RowKit
theorem ownF_app (k : Int) (s : Nat) (a b : List ND) : ownF k s (a ++ b) = if k ∈ flat a then ownF k s a else ownF k (s + a.length) b := by
  induction a generalizing s with
  | nil => simp [flat, Nat.add_zero]
  | cons n r ih =>
    rw [List.cons_append, flat_cons]
    by_cases e : k ∈ n.ps
    · rw [ownF_in e, ownF_in e, if_pos (List.mem_append_left _ e)]
    · rw [ownF_out e, ownF_out e, ih, List.length_cons, show s + 1 + r.length = s + (r.length + 1) by omega]
      have : k ∈ n.ps ++ flat r ↔ k ∈ flat r := by rw [List.mem_append]; exact ⟨fun h => h.resolve_left e, Or.inr⟩
      simp only [this]
theorem ownF_here {k : Int} {ns : List ND} {i : Nat} (hi : i < ns.length) (h : k ∉ flat (ns.take i)) (hk : k ∈ ns[i].ps) : ownF k 0 ns = (i : Int) := by
  have e : ns = ns.take i ++ (ns[i] :: ns.drop (i + 1)) := by
    rw [← List.drop_eq_getElem_cons hi, List.take_append_drop]
  rw [e, ownF_app, if_neg h, ownF_in hk, List.length_take]
  congr 1
  omega
set_option maxHeartbeats 8000000 in
set_option maxRecDepth 100000 in
set_option linter.unusedSimpArgs false in
set_option linter.unusedVariables false in
theorem home_any (N : Nat) (w : World) (st : ByteArray) (x : Nat → Int) (ao : Option Addr) (b o cap : Nat) (pv : Nat → Value) (ns : List ND) (k : Int) (h : NsAt N w ao b o pv ns) (hN : N ≤ w.heap.size) :
    Calls Tryd.prog 65 #[.agg (clA st x (.slice ao ns.length cap)), .int .i64 k] w fun e w' => e = .returned (.int .i64 (ownF k 0 ns)) ∧ Below w.heap.size w w' := by
  obtain ⟨W0, hW0, hX⟩ := boxed st x cap h hN
  have HX := hide hX
  have hlen := h.len
  clear hX h
  obtain ⟨R, hR⟩ : ∃ R, R = ownF k 0 ns := ⟨_, rfl⟩
  rw [← hR]
  have HR := hide hR
  clear hR
  have nv := HX.out.cl.nv
  go_enter Tryd.func65, Tryd.ntmps65
  go_upto_region 1 with fail
  rw [← hW0]
  clear hW0
  go_wp2_with fail
  go_loopw [5] (fun vi wr => ∃ (i : Nat), i ≤ ns.length ∧ vi = .int .i64 (i : Int) ∧ Hid (k ∉ flat (ns.take i)) ∧ wr = W0) (fun vi _ => ns.length - (intOf vi).toNat)
  case atStart => exact ⟨0, Nat.zero_le _, rfl, (by intro h; simp [flat] at h), rfl⟩
  case round =>
    obtain ⟨i, hi, rfl, hK, rfl⟩ := hrel
    by_cases hil : i < ns.length
    case neg =>
      obtain rfl : i = ns.length := by omega
      have hK' := hK.out
      rw [List.take_length] at hK'
      have HE := hide (HR.out.trans (ownF_none.2 hK'))
      clear hK hK'
      go_wp2_with fail
      go_ret
      exact ⟨by rw [HE.out]; rfl, HX.out.bel⟩
    case pos =>
      have hao := HX.out.nd.at0 (by omega)
      subst hao
      have hii : (i : Int) < (ns.length : Int) := by omega
      have e1 := HX.out.nd.cp i hil
      obtain ⟨pa, pb, po, pc, hpv, hp⟩ := HX.out.nd.ps i hil
      have hpl := hp.len
      rw [hpv] at e1
      have HP := hide hp
      have HH : Hid (k ∈ ns[i].ps → R = (i : Int)) := fun hk => HR.out.trans (ownF_here hil hK.out hk)
      have HS : Hid (k ∉ ns[i].ps → k ∉ flat (ns.take (i + 1))) := fun hk hc => by
        rw [List.take_succ_eq_append_getElem hil, flat_append, flat_one] at hc
        rcases List.mem_append.1 hc with hc | hc
        · exact hK.out hc
        · exact hk hc
      clear hpv hp hK
      generalize ns[i].ps = ps at *
      go_wp2_with fail
      go_loopw [6] (fun vj wq => ∃ (j : Nat), j ≤ ps.length ∧ vj = .int .i64 (j : Int) ∧ Hid (k ∉ ps.take j) ∧ wq = wr) (fun vj _ => ps.length - (intOf vj).toNat)
      case atStart => exact ⟨0, Nat.zero_le _, rfl, (by intro h; simp at h), rfl⟩
      case round =>
        obtain ⟨j, hj, rfl, hJ, rfl⟩ := hrel
        by_cases hjl : j < ps.length
        case neg =>
          obtain rfl : j = ps.length := by omega
          have hJ' := hJ.out
          rw [List.take_length] at hJ'
          have HT := hide (HS.out hJ')
          clear hJ hJ' HS
          go_wp2_with fail
          go_roundw
          case rel => exact ⟨i + 1, by omega, by go_num, HT.out, by first | rfl | trivial⟩
          case measure => simp [intOf]; omega
        case pos =>
          have hpa := HP.out.at0 (by omega)
          subst hpa
          have hji : (j : Int) < (ps.length : Int) := by omega
          have cx := HP.out.c j hjl
          have HY : Hid (ps[j] = k → R = (i : Int)) := fun e => HH.out (e ▸ List.getElem_mem hjl)
          have HM : Hid (¬ ps[j] = k → k ∉ ps.take (j + 1)) := fun hne hc => by
            rw [List.take_succ_eq_append_getElem hjl] at hc
            rcases List.mem_append.1 hc with hc | hc
            · exact hJ.out hc
            · simp at hc
              exact hne hc.symm
          clear hJ
          generalize ps[j] = y at *
          by_cases hy : y = k
          · have HE := hide (HY.out hy)
            clear HY HM
            subst hy
            go_wp2_with fail
            go_ret
            exact ⟨by rw [HE.out]; rfl, HX.out.bel⟩
          · have HM2 := hide (HM.out hy)
            clear HY HM
            have hy' : (y == k) = false := by simpa using hy
            go_wp2_with fail
            go_roundw
            case rel => exact ⟨j + 1, by omega, by go_num, HM2.out, by first | rfl | trivial⟩
            case measure => simp [intOf]; omega
end Go.Proofs.YtpoegknmkbnjlaaDoor
namespace Go.Proofs.YtpoegknmkbnjlaaDoor
open Go.RowKit
theorem nodup_le : ∀ (a b : List Int), a.Nodup → (∀ x ∈ a, x ∈ b) → a.length ≤ b.length
  | [], _, _, _ => Nat.zero_le _
  | x :: a, b, hn, hs => by
    have hx : x ∈ b := hs x (by simp)
    have hn' := List.nodup_cons.1 hn
    have := nodup_le a (b.erase x) hn'.2 (fun y hy => by
      have hne : y ≠ x := fun e => hn'.1 (e ▸ hy)
      exact (List.mem_erase_of_ne hne).2 (hs y (by simp [hy])))
    rw [List.length_erase_of_mem hx] at this
    have hp : 0 < b.length := List.length_pos_of_mem hx
    simp only [List.length_cons]
    omega
/-- the nodes that have a partition -/
def fulL (ns : List ND) (q : Nat) : List Nat := (List.range q).filter fun i => decide (0 < (ns[i]?.getD default).ps.length)
theorem fulL_len (ns : List ND) (q : Nat) (h : q ≤ ns.length) : (fulL ns q).length = kpN (ns.take q) := by
  induction q with
  | zero => simp [fulL, kpN]
  | succ q ih =>
    have hq : q < ns.length := by omega
    rw [kpN_take hq, ← ih (by omega)]
    unfold fulL
    rw [List.range_succ, List.filter_append, List.length_append]
    congr 1
    rw [List.filter_cons, List.getElem?_eq_getElem hq, Option.getD_some]
    by_cases e : 0 < ns[q].ps.length
    · simp [e]
    · simp [e]
theorem ownF_mem {ns : List ND} (hd : Dealt ns) {i : Nat} (hi : i < ns.length) {k : Int} (hk : k ∈ ns[i].ps) : ownF k 0 ns = (i : Int) := by
  refine ownF_here hi (fun hc => ?_) hk
  have h1 := hd.all.2 k
  have e : flat ns = flat (ns.take i) ++ (ns[i].ps ++ flat (ns.drop (i + 1))) := by
    rw [← flat_cons, ← flat_append, ← List.drop_eq_getElem_cons hi, List.take_append_drop]
  rw [e, cntI_append, cntI_append] at h1
  have h2 := cntI_mem.2 hc
  have h3 := cntI_mem.2 hk
  omega
theorem plc_all {P f k : Nat} (hf : f < P) (hk : k < P) : ∃ j, j < P ∧ plc P f j = k := by
  unfold plc
  by_cases h : f ≤ k
  · exact ⟨k - f, by omega, by rw [show f + (k - f) = k by omega]; exact Nat.mod_eq_of_lt hk⟩
  · exact ⟨k + P - f, by omega, by rw [show f + (k + P - f) = k + P by omega, Nat.add_mod_right]; exact Nat.mod_eq_of_lt hk⟩
/-- a walk goes to every node that has a partition -/
theorem walk_full {ns : List ND} (hd : Dealt ns) {f : Nat} (hf : f < ptN ns) : kpN ns ≤ (wkL ns (ptN ns) f (ptN ns)).length := by
  have h1 := fulL_len ns ns.length (Nat.le_refl _)
  rw [List.take_length] at h1
  rw [← h1, ← nis_len (fulL ns ns.length), ← owL_len ns]
  refine nodup_le _ _ ?_ ?_
  · unfold nis
    have hn : (fulL ns ns.length).Pairwise (· < ·) := List.Pairwise.filter _ List.pairwise_lt_range
    refine List.pairwise_map.2 (hn.imp fun h => ?_)
    omega
  · intro y hy
    unfold nis at hy
    obtain ⟨i, hi, rfl⟩ := List.mem_map.1 hy
    unfold fulL at hi
    obtain ⟨hi1, hi2⟩ := List.mem_filter.1 hi
    have hil := List.mem_range.1 hi1
    rw [List.getElem?_eq_getElem hil, Option.getD_some] at hi2
    have hpos := of_decide_eq_true hi2
    have hk0 := List.getElem_mem hpos
    have hr := hd.all.1 _ (mem_flat hil hpos)
    have hpt : (flat ns).length = ptN ns := rfl
    rw [hpt] at hr
    have ho := ownF_mem hd hil hk0
    obtain ⟨k, hk⟩ : ∃ k : Nat, (k : Int) = ns[i].ps[0] := ⟨(ns[i].ps[0]).toNat, by omega⟩
    obtain ⟨j, hj, ej⟩ := plc_all hf (show k < ptN ns by omega)
    obtain ⟨p, hp, ep⟩ := wkL_homes (ns := ns) (P := ptN ns) (f := f) (ptN ns) j hj
    unfold owL
    refine List.mem_map.2 ⟨p, hp, ?_⟩
    rw [ep, ej]
    unfold hm
    rw [hk]
    exact ho
theorem wk_full {x : Nat → Int} {ns : List ND} {p : Int} (hd : Dealt ns) (h0 : 0 ≤ p) (h1 : p < (ptN ns : Int)) (h2 : 0 ≤ x 0) (h3 : x 0 ≤ (kpN ns : Int)) : ((wk x ns p).length : Int) = x 0 := by
  have := walk_full hd (f := p.toNat) (by omega)
  unfold wk wkR
  rw [List.length_take]
  omega
end Go.Proofs.YtpoegknmkbnjlaaDoor
namespace Go.Proofs.YtpoegknmkbnjlaaDoor.Cn
open Go.RowKit
def znF (ns : List ND) (k : Int) : Int := (ns[k.toNat]?.map (·.z)).getD 0
def homeF (ns : List ND) (hm : Int) (k : Int) : Bool := decide (znF ns k = hm)
/-- those at home ahead of the others -/
def rowOf (ns : List ND) (hm : Int) (os : List Int) : List Int := os.filter (homeF ns hm) ++ os.filter (fun k => !homeF ns hm k)
theorem rowOf_perm (ns : List ND) (hm : Int) (os : List Int) : (rowOf ns hm os).Perm os := List.filter_append_perm (homeF ns hm) os
theorem filt_take {f : Int → Bool} {os : List Int} {i : Nat} (h : i < os.length) : (os.take (i + 1)).filter f = (os.take i).filter f ++ if f os[i] then [os[i]] else [] := by
  rw [List.take_succ_eq_append_getElem h, List.filter_append]
  congr 1
  by_cases e : f os[i] = true
  · simp [e]
  · simp [e]
theorem ints_at2 (L : List Int) (j : Nat) (h : j < L.length) : (ints L)[j]? = some (.int .i64 L[j]) := by
  unfold ints
  rw [List.getElem?_map, List.getElem?_eq_getElem h]
  rfl
theorem wpList_apI3 {w : World} {ops : Array Oper} {rest : List Oper} {o : Oper} {a : Act} {Q : Exit → Act → World → Prop} (hgd : o.guard = none) (x y : Operand) (ho : o.op = .call { callee := .builtin .append, args := #[x, y], argTypes := #[48, 48] }) (base : Nat) (v : Value) (n : Nat) (L : List Int) (hx : a.eval x = v) (hv : w.ownsRow base 3 1 v n (ints L)) (base2 : Nat) (v2 : Value) (n2 : Nat) (L2 : List Int) (hy : a.eval y = v2) (hv2 : w.ownsRow base2 3 1 v2 n2 (ints L2)) (hl : n + n2 < 17592186043904) (hb : base ≤ w.heap.size)
    (h : ∀ v' w', w'.ownsRow base 3 1 v' (n + n2) (ints (L ++ L2)) → w.grownBy w' v.ownBlock → (v'.ownBlock = v.ownBlock ∨ v'.ownBlock = some w.heap.size) → wpList Tryd.prog ops Q rest (a.put o.dst v') w') : wpList Tryd.prog ops Q (o :: rest) a w :=
  wpList_plain hgd fun _ hK => wp_apRow x y 48 ho base 3 Tryd.underlying48 int_infos rfl (by decide) v n (ints L) hx hv base2 v2 n2 (ints L2) hy hv2 (ints_one _) (by unfold maxLen; omega) (by omega) hb (fun v' w' h1 h2 h3 => hK _ _ (h v' w' (by rw [ints_append]; exact h1) h2 h3))
set_option maxHeartbeats 16000000 in
set_option maxRecDepth 100000 in
set_option linter.unusedSimpArgs false in
set_option linter.unusedVariables false in
theorem homeFirst_x (N : Nat) (w : World) (st : ByteArray) (x : Nat → Int) (ao : Option Addr) (b o cap : Nat) (pv : Nat → Value) (ns : List ND) (h : NsAt N w ao b o pv ns) (hN : N ≤ w.heap.size) (u : Value) (os : List Int) (ho : w.ownsRow 0 3 1 u os.length (ints os)) (hos : ∀ k ∈ os, 0 ≤ k ∧ k < (ns.length : Int)) (hlen : os.length ≤ 16) :
    Calls Tryd.prog 24 #[.agg (clA st x (.slice ao ns.length cap)), u] w fun e w' => ∃ u', e = .returned u' ∧ w'.ownsRow w.heap.size 3 1 u' (rowOf ns (x 20) os).length (ints (rowOf ns (x 20) os)) ∧ Below w.heap.size w w' := by
  obtain ⟨ua, uc, hu⟩ := own_sl ho
  subst hu
  obtain ⟨W3, hW0, hX⟩ := boxed st x cap h hN
  have HX := hide (hX.stand hN)
  have B0 := hide hX.bel
  have OU := hide (own_below ho hX.bel)
  have HO2 := hide hos
  obtain ⟨hm, hhm⟩ : ∃ hm, hm = x 20 := ⟨_, rfl⟩
  have RS : Hid (rowOf ns hm os = os.filter (homeF ns hm) ++ os.filter (fun k => !homeF ns hm k)) := rfl
  rw [← hhm]
  have HHM := hide hhm
  obtain ⟨B3, hB3⟩ : ∃ B3, B3 = W3.heap.size := ⟨_, rfl⟩
  have HB3 := hide hB3
  clear hX h ho hos hhm hB3
  go_enter Tryd.func24, Tryd.ntmps24
  go_upto_region 2 with fail
  rw [← hW0]
  clear hW0
  go_wp2_with fail
  go_loopw [5, 6, 8, 11] (fun v9 v10 _ vi wr => ∃ (i : Nat), i ≤ os.length ∧ vi = .int .i64 (i : Int) ∧ ∃ (a9 : Option Addr) (c9 : Nat) (a10 : Option Addr) (c10 : Nat) (HH AA : List Int), v9 = .slice a9 HH.length c9 ∧ v10 = .slice a10 AA.length c10 ∧ HH = (os.take i).filter (homeF ns hm) ∧ AA = (os.take i).filter (fun k => !homeF ns hm k) ∧ wr.ownsRow B3 3 1 (.slice a9 HH.length c9) HH.length (ints HH) ∧ wr.ownsRow B3 3 1 (.slice a10 AA.length c10) AA.length (ints AA) ∧ (∀ k, (Value.slice a9 HH.length c9).ownBlock = some k → (Value.slice a10 AA.length c10).ownBlock ≠ some k) ∧ Kp W3 wr non) (fun _ _ _ vi _ => os.length - (intOf vi).toNat)
  case atStart => exact ⟨0, Nat.zero_le _, rfl, none, 0, none, 0, [], [], rfl, rfl, rfl, rfl, World.ownsRow_nil _ _ _ _, World.ownsRow_nil _ _ _ _, fun k e => by simp [Value.ownBlock] at e, Kp.refl _ _⟩
  case round =>
    obtain ⟨i, hi, rfl, a9, c9, a10, c10, HH, AA, rfl, rfl, hHH, hAA, oh, oa, hne, kw⟩ := hrel
    have OH := hide oh
    have OA := hide oa
    have NE := hide hne
    have KW := hide kw
    have HHl : Hid (HH.length ≤ 16) := by
      rw [hHH]
      show _ ≤ _
      have := List.length_filter_le (homeF ns hm) (os.take i)
      rw [List.length_take] at this
      omega
    have HAl : Hid (AA.length ≤ 16) := by
      rw [hAA]
      show _ ≤ _
      have := List.length_filter_le (fun k => !homeF ns hm k) (os.take i)
      rw [List.length_take] at this
      omega
    have H0 := hide hHH
    have A0 := hide hAA
    clear oh oa hne kw hHH hAA
    by_cases hin : i < os.length
    case pos =>
      have hii : (i : Int) < (os.length : Int) := by omega
      have xr := HX.out.below (KW.out.below)
      obtain ⟨ug, uc', hug⟩ := own_g OU.out (by omega)
      injection hug with hug _ huc
      subst hug
      subst huc
      have our := own_kp OU.out KW.out (fun _ _ f => f)
      have cu := our.cellAt i (by omega)
      rw [ints_at2 os i hin] at cu
      obtain ⟨z0, z1⟩ := HO2.out os[i] (List.getElem_mem hin)
      have hfF := filt_take (f := homeF ns hm) hin
      have hfA := filt_take (f := fun k => !homeF ns hm k) hin
      obtain ⟨q, hq⟩ : ∃ q : Nat, os[i] = (q : Int) := ⟨os[i].toNat, by omega⟩
      rw [hq] at cu z0 z1 hfF hfA
      have hqn : q < ns.length := by omega
      obtain ⟨x20, hx20⟩ : ∃ x20, x20 = hm := ⟨_, rfl⟩
      have hz : homeF ns hm (q : Int) = decide (ns[q].z = x20) := by
        rw [hx20]
        unfold homeF znF
        simp [hqn]
      have nat' := xr.nd
      have hao := nat'.at0 (by omega)
      subst hao
      have zc := nat'.cz q hqn
      have d22 := xr.cl.nv
      have d21 := xr.cl.x 20 (by omega)
      rw [← HHM.out] at d21
      have hqi : (q : Int) < (ns.length : Int) := by omega
      have hqb : ns.length ≤ 9223372036854775807 := by have := nat'.len; omega
      rw [← hx20] at d21
      obtain ⟨zz, hzz0⟩ : ∃ zz, zz = ns[q].z := ⟨_, rfl⟩
      rw [← hzz0] at zc hz
      clear hzz0
      generalize hnl : ns.length = nl at *
      clear xr our nat' z0 hq hx20
      by_cases hzz : zz = x20
      · have hz2 : homeF ns hm (q : Int) = true := by rw [hz]; exact decide_eq_true hzz
        have HF : Hid (HH ++ [(q : Int)] = (os.take (i + 1)).filter (homeF ns hm)) := by show _ = _; rw [hfF, hz2, if_pos rfl, H0.out]
        have HA : Hid (AA = (os.take (i + 1)).filter (fun k => !homeF ns hm k)) := by show _ = _; rw [hfA, hz2, A0.out]; simp
        have hze : (zz == x20) = true := by simp [hzz]
        clear hfF hfA hz hz2
        go_wp2_with fail
        go_quiet (fail)
        have kq := (Kp.refl wr non).drewN nq
        have Hq := own_kp OH.out kq (fun _ _ f => f)
        have Aq := own_kp OA.out kq (fun _ _ f => f)
        have Kq : Kp W3 (wr.drewN nq) non := KW.out.trans kq (fun _ f => f.elim)
        clear kq d21 d22 zc cu
        obtain ⟨wq, hwq⟩ : ∃ wq, wq = wr.drewN nq := ⟨_, rfl⟩
        rw [← hwq] at Hq Aq Kq ⊢
        clear hwq
        obtain ⟨W4, hW4⟩ : ∃ W4, W4 = wq.alloc (.cells #[.int .i64 (q : Int)] 3) := ⟨_, rfl⟩
        have hb4 : Below wq.heap.size wq W4 := by rw [hW4]; exact (Below.refl _ _).alloc (Nat.le_refl _) _
        have HGG : Hid (W4.ownsRow wq.heap.size 3 1 (.slice (some ⟨wq.heap.size, 0, none⟩) 1 1) 1 (ints [(q : Int)])) := by rw [hW4]; exact own_one wq 3 1 #[.int .i64 (q : Int)] rfl
        have H4 := hide (own_kp Hq (Kp.of_below hb4 non) (fun _ _ f => f))
        have A4 := hide (own_kp Aq (Kp.of_below hb4 non) (fun _ _ f => f))
        have K4 : Hid (Kp W3 W4 non) := Kq.trans (Kp.of_below hb4 non) (fun _ f => f.elim)
        have hsz : Hid (B3 ≤ W4.heap.size) := by rw [HB3.out]; exact K4.out.size
        have AQL : ∀ k, (Value.slice a10 AA.length c10).ownBlock = some k → k < wq.heap.size := fun k e => by
          obtain ⟨cur, hc⟩ := own_typ Aq e
          exact blk_lt hc
        have W4s : wq.heap.size ≤ W4.heap.size := hb4.size
        clear hb4 Hq Aq Kq
        go_wp2_with (at_builtin; rw [← hW4]; refine wpList_apI3 rfl (.tmp 24) (.tmp 26) rfl B3 _ HH.length HH rfl H4.out wq.heap.size _ 1 [(q : Int)] rfl HGG.out (by have := HHl.out; omega) hsz.out ?_; intro v' w' o2 g2 hn2; have HO5 := hide o2; have KG := hide (Kp.of_grown g2); have N5 := hide hn2; clear o2 g2 hn2)
        obtain ⟨a5, c5, rfl⟩ := own_sl HO5.out
        have A5 : Hid (w'.ownsRow B3 3 1 (.slice a10 AA.length c10) AA.length (ints AA)) := own_kp A4.out KG.out (fun k e f => NE.out k f.symm e)
        have K5 : Hid (Kp W3 w' non) := K4.out.trans KG.out (fun k e => Or.inr (by have := own_ge H4.out e.symm; have := HB3.out; omega))
        go_roundw
        case rel =>
          refine ⟨i + 1, by omega, by go_num, a5, c5, a10, c10, HH ++ [(q : Int)], AA, by rw [List.length_append]; rfl, rfl, by rw [HF.out], HA.out, by rw [List.length_append]; exact HO5.out, A5.out, fun k e f => ?_, K5.out⟩
          rw [show (HH ++ [(q : Int)]).length = HH.length + 1 by simp] at e
          rcases N5.out with r | r
          · exact NE.out k (r.symm.trans e) f
          · rw [e] at r
            simp at r
            have h9 : k < wq.heap.size := AQL k f
            have h8 := W4s
            omega
        case measure => simp [intOf]; omega
      · have hz2 : homeF ns hm (q : Int) = false := by rw [hz]; exact decide_eq_false hzz
        have HF : Hid (HH = (os.take (i + 1)).filter (homeF ns hm)) := by show _ = _; rw [hfF, hz2, H0.out]; simp
        have HA : Hid (AA ++ [(q : Int)] = (os.take (i + 1)).filter (fun k => !homeF ns hm k)) := by show _ = _; rw [hfA, hz2, A0.out]; simp
        have hze : (zz == x20) = false := by simp [hzz]
        clear hfF hfA hz hz2
        go_wp2_with fail
        go_quiet (fail)
        have kq := (Kp.refl wr non).drewN nq
        have Hq := own_kp OH.out kq (fun _ _ f => f)
        have Aq := own_kp OA.out kq (fun _ _ f => f)
        have Kq : Kp W3 (wr.drewN nq) non := KW.out.trans kq (fun _ f => f.elim)
        clear kq d21 d22 zc cu
        obtain ⟨wq, hwq⟩ : ∃ wq, wq = wr.drewN nq := ⟨_, rfl⟩
        rw [← hwq] at Hq Aq Kq ⊢
        clear hwq
        obtain ⟨W4, hW4⟩ : ∃ W4, W4 = wq.alloc (.cells #[.int .i64 (q : Int)] 3) := ⟨_, rfl⟩
        have hb4 : Below wq.heap.size wq W4 := by rw [hW4]; exact (Below.refl _ _).alloc (Nat.le_refl _) _
        have HGG : Hid (W4.ownsRow wq.heap.size 3 1 (.slice (some ⟨wq.heap.size, 0, none⟩) 1 1) 1 (ints [(q : Int)])) := by rw [hW4]; exact own_one wq 3 1 #[.int .i64 (q : Int)] rfl
        have H4 := hide (own_kp Hq (Kp.of_below hb4 non) (fun _ _ f => f))
        have A4 := hide (own_kp Aq (Kp.of_below hb4 non) (fun _ _ f => f))
        have K4 : Hid (Kp W3 W4 non) := Kq.trans (Kp.of_below hb4 non) (fun _ f => f.elim)
        have hsz : Hid (B3 ≤ W4.heap.size) := by rw [HB3.out]; exact K4.out.size
        have AQL : ∀ k, (Value.slice a9 HH.length c9).ownBlock = some k → k < wq.heap.size := fun k e => by
          obtain ⟨cur, hc⟩ := own_typ Hq e
          exact blk_lt hc
        have W4s : wq.heap.size ≤ W4.heap.size := hb4.size
        clear hb4 Hq Aq Kq
        go_wp2_with (at_builtin; rw [← hW4]; refine wpList_apI3 rfl (.tmp 28) (.tmp 30) rfl B3 _ AA.length AA rfl A4.out wq.heap.size _ 1 [(q : Int)] rfl HGG.out (by have := HAl.out; omega) hsz.out ?_; intro v' w' o2 g2 hn2; have HO5 := hide o2; have KG := hide (Kp.of_grown g2); have N5 := hide hn2; clear o2 g2 hn2)
        obtain ⟨a5, c5, rfl⟩ := own_sl HO5.out
        have H5 : Hid (w'.ownsRow B3 3 1 (.slice a9 HH.length c9) HH.length (ints HH)) := own_kp H4.out KG.out (fun k e f => NE.out k e f.symm)
        have K5 : Hid (Kp W3 w' non) := K4.out.trans KG.out (fun k e => Or.inr (by have := own_ge A4.out e.symm; have := HB3.out; omega))
        go_roundw
        case rel =>
          refine ⟨i + 1, by omega, by go_num, a9, c9, a5, c5, HH, AA ++ [(q : Int)], rfl, by rw [List.length_append]; rfl, HF.out, by rw [HA.out], H5.out, by rw [List.length_append]; exact HO5.out, fun k e f => ?_, K5.out⟩
          rw [show (AA ++ [(q : Int)]).length = AA.length + 1 by simp] at f
          rcases N5.out with r | r
          · exact NE.out k e (r.symm.trans f)
          · rw [f] at r
            simp at r
            have h9 : k < wq.heap.size := AQL k e
            have h8 := W4s
            omega
        case measure => simp [intOf]; omega
    case neg =>
      obtain rfl : i = os.length := by omega
      have hrow : Hid (HH ++ AA = rowOf ns hm os) := by show _ = _; rw [RS.out, H0.out, A0.out, List.take_length]
      have hsz : Hid (B3 ≤ wr.heap.size) := by rw [HB3.out]; exact KW.out.size
      clear H0 A0
      go_wp2_with (at_builtin; refine wpList_apI3 rfl (.tmp 33) (.tmp 34) rfl B3 _ HH.length HH rfl OH.out B3 _ AA.length AA rfl OA.out (by have := HHl.out; have := HAl.out; omega) hsz.out ?_; intro v' w' o2 g2 hn2; have HO5 := hide o2; have KG := hide (Kp.of_grown g2); clear o2 g2 hn2)
      have K5 : Hid (Kp W3 w' non) := KW.out.trans KG.out (fun k e => Or.inr (by have := own_ge OH.out e.symm; have := HB3.out; omega))
      go_ret
      refine ⟨_, rfl, ?_, B0.out.trans ((K5.out.below).mono B0.out.size)⟩
      rw [← hrow.out, List.length_append]
      exact own_base HO5.out (by rw [HB3.out]; exact B0.out.size)
end Go.Proofs.YtpoegknmkbnjlaaDoor.Cn
namespace Go.Proofs.YtpoegknmkbnjlaaDoor.Cn
open Go.RowKit
theorem cntP_take {f : Int → Bool} {l : List Int} {i : Nat} (h : i < l.length) : (l.take (i + 1)).countP f = (l.take i).countP f + if f l[i] then 1 else 0 := by
  rw [List.take_succ_eq_append_getElem h, List.countP_append]
  simp [List.countP_cons]
theorem cntP_le (f : Int → Bool) (l : List Int) (i : Nat) : (l.take i).countP f ≤ l.length := by
  have h1 := List.countP_le_length (p := f) (l := l.take i)
  rw [List.length_take] at h1
  omega
set_option maxHeartbeats 16000000 in
set_option maxRecDepth 100000 in
set_option linter.unusedSimpArgs false in
set_option linter.unusedVariables false in
theorem count_r {w : World} {Y : Nat} {r : Rx} {Z : Zr} (h : RxAt w Y r Z) (hb : r.of_.length ≤ 1000000) :
    Calls Tryd.prog 52 #[.pointer (some ⟨Y, 0, none⟩)] w fun e w' => e = .returned (.int .i64 (cntR r : Int)) ∧ Kp w w' non := by
  obtain ⟨n, hn⟩ : ∃ n, n = r.of_.length := ⟨_, rfl⟩
  obtain ⟨L, hL⟩ : ∃ L, L = r.of_ := ⟨_, rfl⟩
  obtain ⟨oa, oc, hov⟩ := own_sl h.ow.ofv
  rw [← hn] at hov
  obtain ⟨p, hp⟩ : ∃ p : Int, p = (r.part : Int) := ⟨_, rfl⟩
  have HC : Hid (∀ Y2 : World, Kp w Y2 non → Y2.cell? ⟨Y, 11, none⟩ = some (.slice oa n oc) ∧ Y2.cell? ⟨Y, 7, none⟩ = some (.int .i64 p) ∧ Y2.ownsRow 0 3 1 (.slice oa n oc) n (ints L)) := fun Y2 hk => by
    have z := h.kp0 hk
    obtain ⟨-, -, -, -, -, -, -, c7, -, -, -, c11, -⟩ := rx_cells z.blk
    rw [hov] at c11
    rw [← hp] at c7
    have o := z.ow.ofv
    rw [hov, ← hn, ← hL] at o
    exact ⟨c11, c7, o⟩
  have HR : Hid (cntR r = L.countP (fun k => k == p)) := by rw [hL, hp]; exact rfl
  have HN : Hid (n = L.length) := by rw [hL]; exact hn
  rw [← hn] at hb
  clear h hn hL hov hp
  go_enter Tryd.func52, Tryd.ntmps52
  go_wp2_with fail
  go_loopw [3, 4] (fun v3 vi wr => ∃ (i : Nat), i ≤ n ∧ vi = .int .i64 (i : Int) ∧ ∃ a : Nat, v3 = .int .i64 (a : Int) ∧ Hid (a = (L.take i).countP (fun k => k == p)) ∧ Hid (Kp w wr non)) (fun _ vi _ => n - (intOf vi).toNat)
  case atStart => exact ⟨0, Nat.zero_le _, rfl, 0, rfl, by show 0 = _; simp, Kp.refl _ _⟩
  case round =>
    obtain ⟨i, hi, rfl, a, rfl, HA, KW⟩ := hrel
    obtain ⟨c11, c7, ro⟩ := HC.out wr KW.out
    by_cases hin : i < n
    case pos =>
      have hii : (i : Int) < (n : Int) := by omega
      have hiL : i < L.length := by rw [← HN.out]; exact hin
      have hal : a ≤ 1000000 := by rw [HA.out]; have := cntP_le (fun k => k == p) L i; have := HN.out; omega
      obtain ⟨ug, uc', hug⟩ := own_g ro (by omega)
      injection hug with hug _ huc
      subst hug
      subst huc
      have cu := ro.cellAt i (by omega)
      rw [ints_at2 L i hiL] at cu
      have hc := cntP_take (f := fun k => k == p) hiL
      obtain ⟨y, hy⟩ : ∃ y, y = L[i] := ⟨_, rfl⟩
      rw [← hy] at cu hc
      have HCC := hide hc
      have I2 := hide (wrap_in (x := (a : Int) + 1) (by omega) (by omega))
      have HI := hide hi
      have hnb : n ≤ 1000000 := hb
      clear ro hc hy hal hi
      by_cases hyp : y = p
      · have hze : (y == p) = true := by simp [hyp]
        have HA2 : Hid (a + 1 = (L.take (i + 1)).countP (fun k => k == p)) := by show _ = _; rw [HCC.out, ← HA.out, if_pos hze]
        clear HA
        go_wp2_with fail
        go_quiet (fail)
        have i2 := I2.out
        go_wp2_with fail
        go_roundw
        case rel => exact ⟨i + 1, by omega, by go_num, a + 1, by simp [i2], HA2.out, KW.out.trans ((Kp.refl wr non).drewN nq) (fun _ f => f.elim)⟩
        case measure => simp [intOf]; omega
      · have hze : (y == p) = false := by simp [hyp]
        have HA2 : Hid (a = (L.take (i + 1)).countP (fun k => k == p)) := by show _ = _; rw [HCC.out, ← HA.out, if_neg (by rw [hze]; simp)]; omega
        clear HA
        go_wp2_with fail
        go_quiet (fail)
        go_wp2_with fail
        go_roundw
        case rel => exact ⟨i + 1, by omega, by go_num, a, rfl, HA2.out, KW.out.trans ((Kp.refl wr non).drewN nq) (fun _ f => f.elim)⟩
        case measure => simp [intOf]; omega
    case neg =>
      obtain rfl : n = i := by omega
      have hii : ¬ (n : Int) < (n : Int) := by omega
      rw [HN.out, List.take_length, ← HR.out] at HA
      rw [HA.out]
      clear ro
      go_wp2_with fail
      go_ret
      exact ⟨rfl, KW.out⟩
end Go.Proofs.YtpoegknmkbnjlaaDoor.Cn
namespace Go.Proofs.YtpoegknmkbnjlaaDoor.Cn
open Go.RowKit
theorem Ow.nxt {w : World} {v : Ex} {Z : Zz} (h : Ow w v Z) : Ow w (nxtX v) Z := ⟨h.rows, h.row, h.tp, h.tm, h.rd, h.lp, h.lm, h.d1, h.d2, h.d3⟩
def Zz.miss (Z : Zz) (u : Value) : Zz := { Z with tm := u }
/-- the list of what is missing has grown -/
theorem Ow.miss {w w' : World} {X : Nat} {v : Ex} {Z : Zz} (h : ExAt w X (nxtX v) Z) (u : Value) (ho : w'.ownsRow 0 3 1 u (v.told.ms.length + 1) (ints (v.told.ms ++ [(v.part : Int)]))) (hg : w.grownBy w' Z.tm.ownBlock) (hn : u.ownBlock = Z.tm.ownBlock ∨ u.ownBlock = some w.heap.size) :
    w'.heap[X]? = some (.cells (exA (nxtX v) Z) 70) ∧ Lv w (w'.setCell ⟨X, 6, none⟩ u) X Z (missX v) (Z.miss u) := by
  have kg := Kp.of_grown hg
  have nX : ∀ k, some k = Z.tm.ownBlock → k ≠ X := fun k e => h.ow.notX h.blk (Or.inr (Or.inl e.symm))
  have b1 : w'.heap[X]? = some (.cells (exA (nxtX v) Z) 70) := (kg.block _ (blk_lt h.blk) (fun e => nX X e rfl)).trans h.blk
  have kk : Kp w (w'.setCell ⟨X, 6, none⟩ u) (Fp X Z) := (kg.mono (T := Fp X Z) (fun k e => Or.inr (Or.inr (Or.inl e.symm)))).set (Or.inl (Or.inl rfl)) _ _
  have ks : Kp w' (w'.setCell ⟨X, 6, none⟩ u) (fun k => k = X) := (Kp.refl w' (fun k => k = X)).set (Or.inl rfl) _ _
  have hx := h.ow
  have old : ∀ {k : Nat}, Ap X Z k → k < w.heap.size := fun hk => h.lt hk
  have off : ∀ {e sz n : Nat} {q : Value} {xs : List Value}, w.ownsRow 0 e sz q n xs → (∀ k, q.ownBlock = some k → Ap X Z k) → (∀ k, q.ownBlock = some k → Z.tm.ownBlock ≠ some k) → (∀ k, q.ownBlock = some k → k ≠ X) → (w'.setCell ⟨X, 6, none⟩ u).ownsRow 0 e sz q n xs := fun ho' _ h1 h2 => own_kp (own_kp ho' kg (fun k e q => h1 k e q.symm)) ks (fun k e q => h2 k e q)
  have nP : ∀ {q : Value} {n : Nat} {xs : List Value}, w.ownsRow 0 89 2 q n xs → ∀ k, q.ownBlock = some k → Z.tm.ownBlock ≠ some k := fun ho' k e q => by
    obtain ⟨c1, h1⟩ := own_typ ho' e
    obtain ⟨c2, h2⟩ := own_typ hx.tm q
    rw [h1] at h2
    simp at h2
  have nR : ∀ k, Z.rv.ownBlock = some k → Z.tm.ownBlock ≠ some k := fun k e q => by
    obtain ⟨c1, h1⟩ := own_typ hx.rows e
    obtain ⟨c2, h2⟩ := own_typ hx.tm q
    rw [h1] at h2
    simp at h2
  have uX : ∀ k, u.ownBlock = some k → k ≠ X := fun k e => by
    rcases hn with q | q
    · exact nX k (e.symm.trans q)
    · rw [e] at q
      injection q with q
      have := blk_lt h.blk
      omega
  refine ⟨b1, ⟨⟨set_row b1 6 _, ?_⟩, kk, ?_, ?_⟩⟩
  · refine ⟨off hx.rows (fun k e => Or.inr (Or.inl e)) nR (fun k e => hx.notX h.blk (Or.inr (Or.inr (Or.inr (Or.inl e))))), fun p hp => ?_, off hx.tp (fun k e => Or.inl (Or.inr (Or.inl e))) (nP hx.tp) (fun k e => hx.notX h.blk (Or.inl e)), ?_, off hx.rd (fun k e => Or.inl (Or.inr (Or.inr (Or.inr e)))) (nP hx.rd) (fun k e => hx.notX h.blk (Or.inr (Or.inr (Or.inl e)))), off hx.lp (fun k e => Or.inr (Or.inr (Or.inl e))) (nP hx.lp) (fun k e => hx.notX h.blk (Or.inr (Or.inr (Or.inr (Or.inr (Or.inl e)))))), off hx.lm (fun k e => Or.inr (Or.inr (Or.inr (Or.inl e)))) (fun k e q => (hx.d3 k q).1 e) (fun k e => hx.notX h.blk (Or.inr (Or.inr (Or.inr (Or.inr (Or.inr (Or.inl e))))))), hx.d1, hx.d2, fun k e => ?_⟩
    · obtain ⟨z, hz, ho'⟩ := hx.row p hp
      have hm := List.mem_of_getElem? hz
      exact ⟨z, hz, off ho' (fun k e => Or.inr (Or.inr (Or.inr (Or.inr ⟨z, hm, e⟩)))) (fun k e q => (hx.d3 k q).2 z hm e) (fun k e => hx.notX h.blk (Or.inr (Or.inr (Or.inr (Or.inr (Or.inr (Or.inr ⟨z, hm, e⟩)))))))⟩
    · show (w'.setCell ⟨X, 6, none⟩ u).ownsRow 0 3 1 u (v.told.ms ++ [(v.part : Int)]).length (ints (v.told.ms ++ [(v.part : Int)]))
      rw [List.length_append]
      exact own_kp ho ks (fun k e q => uX k e q)
    · have e : u.ownBlock = some k := e
      rcases hn with q | q
      · exact hx.d3 k (q.symm.trans e)
      · rw [e] at q
        injection q with q
        refine ⟨fun z => ?_, fun y hy z => ?_⟩
        · have := old (k := k) (Or.inr (Or.inr (Or.inr (Or.inl z))))
          omega
        · have := old (k := k) (Or.inr (Or.inr (Or.inr (Or.inr ⟨y, hy, z⟩))))
          omega
  · intro k e
    rcases e with e | e | e | e
    · exact Or.inl (Or.inl e)
    · exact Or.inl (Or.inr (Or.inl e))
    · have e : u.ownBlock = some k := e
      rcases hn with q | q
      · exact Or.inl (Or.inr (Or.inr (Or.inl (q.symm.trans e))))
      · rw [e] at q
        injection q with q
        exact Or.inr (by omega)
    · exact Or.inl (Or.inr (Or.inr (Or.inr e)))
  · intro k e
    rcases e with (e | e | e | e) | e
    · exact Or.inl (Or.inl (Or.inl e))
    · exact Or.inl (Or.inl (Or.inr (Or.inl e)))
    · have e : u.ownBlock = some k := e
      rcases hn with q | q
      · exact Or.inl (Or.inl (Or.inr (Or.inr (Or.inl (q.symm.trans e)))))
      · rw [e] at q
        injection q with q
        exact Or.inr (by omega)
    · exact Or.inl (Or.inl (Or.inr (Or.inr (Or.inr e))))
    · exact Or.inl (Or.inr e)
end Go.Proofs.YtpoegknmkbnjlaaDoor.Cn
