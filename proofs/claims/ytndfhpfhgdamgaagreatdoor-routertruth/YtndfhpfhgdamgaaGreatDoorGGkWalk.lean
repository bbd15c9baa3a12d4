import Derived.Test.YtndfhpfhgdamgaaGreatDoorGGcTwin
import Derived.Test.YtndfhpfhgdamgaaGreatDoorGGcName
import Derived.WalkMore
namespace Go.Proofs.YtndfhpfhgdamgaaGreatDoor
open Go.RowKit
theorem outL_cell {w : World} {g k : Nat} {ns : List ND} (h : w.heap[g]? = some (.cells (outL ns).toArray 3 (0, 0))) (hk : k < (flat ns).length) : w.cell? ⟨g, k, none⟩ = some (.int .i64 (hm ns k)) := by
  unfold World.cell?
  simp only [h]
  simp [outL, hm, hk]
theorem one_cells (w : World) (n : Int) : ∀ j u, (ints [n])[j]? = some u → (w.alloc (.cells #[.int .i64 n] 3)).cell? ((⟨w.heap.size, 0, none⟩ : Addr).add j) = some u := cell_one_new w (.int .i64 n) 3
theorem own_cell {w : World} {base n cap g : Nat} {L : List Int} {q : Nat} (h : w.ownsRow base 3 1 (.slice (some ⟨g, 0, none⟩) n cap) n (ints L)) (hn : n = L.length) (hq : q < L.length) : w.cell? ⟨g, q, none⟩ = some (.int .i64 L[q]) := by
  subst hn
  rw [h.cellAt q (by omega), ints_at, List.getElem?_eq_getElem hq]
  rfl
theorem plc_int {P f i : Nat} : (((f : Int) + (i : Int)) % (P : Int)) = ((plc P f i : Nat) : Int) := by
  unfold plc
  rw [← Int.natCast_add]
  rfl
set_option maxHeartbeats 8000000 in
set_option maxRecDepth 100000 in
set_option linter.unusedSimpArgs false in
set_option linter.unusedVariables false in
theorem walk_any (w : World) (g P f R : Nat) (ns : List ND) (hg : w.heap[g]? = some (.cells (outL ns).toArray 3 (0, 0))) (hP : P = (flat ns).length) (p1 : 1 ≤ P) (p2 : P ≤ 64) (hf : f < P) (r1 : 1 ≤ R) (r2 : R ≤ 16) :
    Calls Tryz.prog 68 #[.slice (some ⟨g, 0, none⟩) P P, .int .i64 (f : Int), .int .i64 (R : Int)] w fun e w' => ∃ v, e = .returned v ∧ w'.ownsRow w.heap.size 3 1 v (wkR ns P f R).length (ints (nis (wkR ns P f R))) ∧ Below w.heap.size w w' := by
  have hgl := blk_lt hg
  have NC : Hid (∀ Y, Below w.heap.size w Y → ∀ k, k < P → Y.cell? ⟨g, k, none⟩ = some (.int .i64 (hm ns k))) := fun Y hY k hk => by
    rw [hY.cell (p := ⟨g, k, none⟩) hgl]
    exact outL_cell hg (hP ▸ hk)
  clear hg hP
  obtain ⟨k0, hk0, hx0, hx1, hx2⟩ := info_parts infoInt
  go_enter Tryz.func68, Tryz.ntmps68
  go_wp2_with fail
  go_step3
  go_wp2_with (first | (at_make; refine wpList_make_own _ rfl _ _ 25 rfl w.heap.size 3 k0 (.int .i64 0) 1 Tryz.underlying25 hk0 hx0 hx1 _ _ _ R rfl rfl rfl (by rw [hx2]; omega) (by unfold maxLen; omega) (Nat.le_refl _) ?_))
  intro w1 hown hgrow
  have B1 : Hid (Below w.heap.size w w1) := ⟨hgrow.os, hgrow.tape, hgrow.output, hgrow.size, fun i hi => hgrow.block i hi (by simp)⟩
  have O1 := hide hown
  clear hown hgrow
  go_wp2_with fail
  go_step3
  go_wp2_with fail
  go_loopw [7, 16] (fun vt vi wr => ∃ (i : Nat), i ≤ P ∧ vi = .int .i64 (i : Int) ∧ vt = .slice (some ⟨w.heap.size, 0, none⟩) (wkL ns P f i).length R ∧ (wkL ns P f i).length < R ∧ Hid (wr.ownsRow w.heap.size 3 1 vt (wkL ns P f i).length (ints (nis (wkL ns P f i)))) ∧ Hid (Below w.heap.size w wr)) (fun _ vi _ => P - (intOf vi).toNat)
  case atStart => exact ⟨0, Nat.zero_le _, rfl, rfl, by simp [wkL]; omega, O1, B1⟩
  case round =>
    obtain ⟨i, hi, rfl, rfl, hlt, HO, HB⟩ := hrel
    by_cases hil : i < P
    case neg =>
      obtain rfl : i = P := by omega
      have HE := hide (wkR_all (ns := ns) (P := i) (f := f) (R := R) (by omega))
      go_wp2_with fail
      try rw [Exit.noGoto_ret]
      go_ret
      exact ⟨_, rfl, by rw [HE.out]; exact HO.out, HB.out⟩
    case pos =>
      have hii : (i : Int) < (P : Int) := by omega
      have ew := wrap_in (x := (f : Int) + (i : Int)) (by omega) (by omega)
      go_upto_region 6 with fail
      rw [plc_int]
      have hpP := plc_lt (P := P) (f := f) (i := i) (by omega)
      have HNo : Hid (∀ q (h : q < (wkL ns P f i).length), hm ns (wkL ns P f i)[q] = hm ns (plc P f i) → wkL ns P f (i + 1) = wkL ns P f i) := fun q h e => wkL_no (frsh_no (List.getElem_mem h) e)
      have HYes : Hid ((∀ q (h : q < (wkL ns P f i).length), hm ns (wkL ns P f i)[q] ≠ hm ns (plc P f i)) → wkL ns P f (i + 1) = wkL ns P f i ++ [plc P f i]) := fun h => wkL_yes (frsh_taken.2 fun k hk => by
        obtain ⟨q, hq, rfl⟩ := List.getElem_of_mem hk
        exact h q hq)
      have HLt : Hid (∀ q (h : q < (wkL ns P f i).length), (wkL ns P f i)[q] < P) := fun q h => wkL_lt (by omega) i _ (List.getElem_mem h)
      clear ew
      generalize wkL ns P f i = L at *
      generalize plc P f i = p at *
      go_wp2_with fail
      go_loopw [27] (fun vi wq => ∃ (q : Nat), q ≤ L.length ∧ vi = .int .i64 (q : Int) ∧ Hid (∀ j (h : j < L.length), j < q → hm ns L[j] ≠ hm ns p) ∧ Hid (wq.ownsRow w.heap.size 3 1 (.slice (some ⟨w.heap.size, 0, none⟩) L.length R) L.length (ints (nis L))) ∧ Hid (Below w.heap.size w wq)) (fun vi _ => L.length - (intOf vi).toNat)
      case atStart => exact ⟨0, Nat.zero_le _, rfl, (fun j _ h => absurd h (Nat.not_lt_zero _)), HO, HB⟩
      case round =>
        clear HO HB
        obtain ⟨q, hq, rfl, HD, HO, HB⟩ := hrel
        by_cases hql : q < L.length
        case neg =>
          obtain rfl : q = L.length := by omega
          have HE := hide (HYes.out fun j h => HD.out j h h)
          clear HD HNo HYes HLt
          have HR := hide (wkR_at (ns := ns) (P := P) (f := f) (R := R) (i := i + 1) (by omega))
          go_upto_region 12 with (at_builtin; refine wpList_append_fits _ rfl (.tmp 41) (.tmp 43) 25 rfl w.heap.size 3 k0 1 Tryz.underlying25 hk0 hx1 w.heap.size L.length R (ints (nis L)) rfl (HO.out.alloc _) ⟨wr.heap.size, 0, none⟩ 1 1 (ints [(p : Int)]) rfl rfl (one_cells wr _) (ints_one _) (by omega) ?_; intro X3 o3 g3)
          have B3 : Hid (Below w.heap.size w X3) := (HB.out.alloc HB.out.size _).grown g3 (by have := HB.out.size; simp; omega) (fun j hj => by injection hj with hj; omega)
          have O3 : Hid (X3.ownsRow w.heap.size 3 1 (.slice (some ⟨w.heap.size, 0, none⟩) (L.length + 1) R) (wkL ns P f (i + 1)).length (ints (nis (wkL ns P f (i + 1))))) := by
            rw [HE.out, List.length_append, nis_append]
            unfold ints at o3 ⊢
            rw [List.map_append]
            exact o3
          have HLn : Hid ((wkL ns P f (i + 1)).length = L.length + 1) := by
            show _ = _
            rw [HE.out, List.length_append]
            rfl
          clear o3 g3 HE
          by_cases hR : L.length + 1 = R
          · have HE2 := hide (HR.out (HLn.out.trans hR))
            have hRi : (L.length : Int) + 1 = (R : Int) := by omega
            clear HR HLn
            go_wp2_with fail
            try rw [Exit.noGoto_ret]
            go_ret
            exact ⟨_, rfl, by rw [HE2.out]; exact O3.out, B3.out⟩
          · have hRi : ¬ (L.length : Int) + 1 = (R : Int) := by omega
            clear HR
            go_wp2_with fail
            go_roundw
            case rel => exact ⟨i + 1, by omega, by go_num, by rw [HLn.out], by rw [HLn.out]; omega, O3, B3⟩
            case measure => simp [intOf]; omega
        case pos =>
          have hqi : (q : Int) < (L.length : Int) := by omega
          have hl1 := HLt.out q hql
          have c0 := own_cell HO.out (by rw [nis_len]) (q := q) (by rw [nis_len]; exact hql)
          have e0 : (nis L)[q]'(by rw [nis_len]; exact hql) = ((L[q] : Nat) : Int) := by simp [nis]
          rw [e0] at c0
          have c1 := NC.out _ HB.out L[q] hl1
          have c2 := NC.out _ HB.out p hpP
          have HN2 := hide (HNo.out q hql)
          have HD2 : Hid (¬ hm ns L[q] = hm ns p → ∀ j (h : j < L.length), j < q + 1 → hm ns L[j] ≠ hm ns p) := fun hne j h hj => by
            by_cases ej : j = q
            · subst ej
              exact hne
            · exact HD.out j h (by omega)
          clear e0 HD
          have hli : ((L[q] : Nat) : Int) < (P : Int) := by omega
          have hpi : ((p : Nat) : Int) < (P : Int) := by omega
          generalize L[q] = e at *
          generalize hm ns e = a1 at *
          generalize hm ns p = a2 at *
          by_cases he : a1 = a2
          · have HE := hide (HN2.out he)
            subst he
            clear HN2 HD2 HNo HYes HLt NC
            go_upto_region 9 with fail
            go_quiet (fail)
            have O2 : Hid ((wr.drewN nq).ownsRow w.heap.size 3 1 (.slice (some ⟨w.heap.size, 0, none⟩) L.length R) L.length (ints (nis L))) := own_keep HO.out (fun _ _ => rfl)
            have B2 := hide (HB.out.trans (c := wr.drewN nq) ⟨rfl, rfl, rfl, Nat.le_refl _, fun _ _ => rfl⟩)
            generalize wr.drewN nq = W3 at *
            clear c0 c1 c2 HO HB
            go_wp2_with fail
            go_roundw
            case rel => exact ⟨i + 1, by omega, by go_num, by rw [HE.out], by rw [HE.out]; exact hlt, by rw [HE.out]; exact O2, B2⟩
            case measure => simp [intOf]; omega
          · have HE := hide (HD2.out he)
            have he' : (a1 == a2) = false := by simpa using he
            clear HN2 HD2
            go_upto_region 9 with fail
            go_quiet (fail)
            have O2 : Hid ((wr.drewN nq).ownsRow w.heap.size 3 1 (.slice (some ⟨w.heap.size, 0, none⟩) L.length R) L.length (ints (nis L))) := own_keep HO.out (fun _ _ => rfl)
            have B2 := hide (HB.out.trans (c := wr.drewN nq) ⟨rfl, rfl, rfl, Nat.le_refl _, fun _ _ => rfl⟩)
            generalize wr.drewN nq = W3 at *
            clear c0 c1 c2 HO HB
            go_wp2_with fail
            go_roundw
            case rel => exact ⟨q + 1, by omega, by go_num, HE, O2, B2⟩
            case measure => simp [intOf]; omega
end Go.Proofs.YtndfhpfhgdamgaaGreatDoor
namespace Go.Proofs.YtndfhpfhgdamgaaGreatDoor
open Go.RowKit
set_option maxHeartbeats 8000000 in
set_option maxRecDepth 100000 in
set_option linter.unusedSimpArgs false in
set_option linter.unusedVariables false in
theorem keepers_any (N : Nat) (w : World) (g P : Nat) (an : Option Addr) (ns : List ND) (L : List Nat) (pa : Option Addr) (pb po pc : Nat) (hp : PsAt N w pa pb po (nis L)) (hN : N ≤ w.heap.size) (han : 0 < L.length → an = some ⟨g, 0, none⟩ ∧ g < w.heap.size) (hc : ∀ k, k < P → w.cell? ⟨g, k, none⟩ = some (.int .i64 (hm ns k))) (hL : ∀ p ∈ L, p < P) (hl : L.length ≤ 64) (hP : P ≤ 64) :
    Calls Tryz.prog 37 #[.slice an P P, .slice pa L.length pc] w fun e w' => ∃ v, e = .returned v ∧ w'.ownsRow w.heap.size 3 1 v L.length (ints (owL ns L)) ∧ Below w.heap.size w w' := by
  have HP := hide hp
  have HC := hide hc
  have HA := hide han
  have HL := hide hL
  clear hp hc han hL
  obtain ⟨k0, hk0, hx0, hx1, hx2⟩ := info_parts infoInt
  go_enter Tryz.func37, Tryz.ntmps37
  go_wp2_with fail
  go_loopw [5, 10] (fun vt vi wr => ∃ (q : Nat), q ≤ L.length ∧ vi = .int .i64 (q : Int) ∧ Hid (wr.ownsRow w.heap.size 3 1 vt q (ints (owL ns (L.take q)))) ∧ Hid (Below w.heap.size w wr)) (fun _ vi _ => L.length - (intOf vi).toNat)
  case atStart => exact ⟨0, Nat.zero_le _, rfl, World.ownsRow_nil _ _ _ _, Below.refl _ _⟩
  case round =>
    obtain ⟨q, hq, rfl, HO, HB⟩ := hrel
    obtain ⟨ba, cp, hv, _⟩ := own_sl HO.out
    subst hv
    by_cases hql : q < L.length
    case neg =>
      obtain rfl : q = L.length := by omega
      have HO2 := HO.out
      rw [List.take_length] at HO2
      have HO3 := hide HO2
      clear HO2 HO
      go_wp2_with fail
      go_ret
      exact ⟨_, rfl, HO3.out, HB.out⟩
    case pos =>
      obtain ⟨h1, h2⟩ := HA.out (by omega)
      subst h1
      have h3 := HP.out.at0 (by rw [nis_len]; omega)
      subst h3
      have hqi : (q : Int) < (L.length : Int) := by omega
      have hpl := HL.out L[q] (List.getElem_mem hql)
      have hpi : ((L[q] : Nat) : Int) < (P : Int) := by omega
      have c1 : wr.cell? ⟨pb, po + q, none⟩ = some (.int .i64 ((L[q] : Nat) : Int)) := by
        rw [(HP.out.below (HB.out.mono hN)).c q (by rw [nis_len]; omega)]
        simp [nis]
      have c2 : wr.cell? ⟨g, L[q], none⟩ = some (.int .i64 (hm ns L[q])) := by
        rw [HB.out.cell (p := ⟨g, L[q], none⟩) h2]
        exact HC.out _ hpl
      have ET := hide (owL_take (ns := ns) hql)
      generalize L[q] = p at *
      generalize hm ns p = n at *
      go_wp2_with (at_builtin; refine wpList_append_own_at _ rfl (.tmp 14) (.tmp 19) 25 rfl w.heap.size 3 k0 (.int .i64 0) 1 8 Tryz.underlying25 hk0 hx0 hx1 hx2 rfl (by decide) _ _ _ rfl (HO.out.alloc _) ⟨wr.heap.size, 0, none⟩ 1 1 (ints [n]) rfl rfl (one_cells wr n) (ints_one _) (by unfold maxLen; omega) (by omega) (by have := HB.out.size; simp; omega) ?_; intro v2 X3 o3 g3 n3 a3; clear n3 a3)
      have B3 : Hid (Below w.heap.size w X3) := (HB.out.alloc HB.out.size _).grown g3 (by have := HB.out.size; simp; omega) (fun j hj => (own_lt HO.out hj).1)
      have O3 : Hid (X3.ownsRow w.heap.size 3 1 v2 (q + 1) (ints (owL ns (L.take (q + 1))))) := by
        rw [ET.out]
        unfold ints at o3 ⊢
        rw [List.map_append]
        exact o3
      clear o3 g3
      go_wp2_with fail
      go_roundw
      case rel => exact ⟨q + 1, by omega, by go_num, O3, B3⟩
      case measure => simp [intOf]; omega
end Go.Proofs.YtndfhpfhgdamgaaGreatDoor
namespace Go.Proofs.YtndfhpfhgdamgaaGreatDoor
open Go.RowKit
/-- the error of a walk -/
noncomputable def rdE (st : ByteArray) (x : Nat → Int) (ns : List ND) (p : Int) : Int := if errP st x ns = 0 then (if p < 0 ∨ (ptN ns : Int) ≤ p then 69 else 0) else errP st x ns
/-- the walk from p on -/
def wk (x : Nat → Int) (ns : List ND) (p : Int) : List Nat := wkR ns (ptN ns) p.toNat (x 0).toNat
theorem errP_ok {st : ByteArray} {x : Nat → Int} {ns : List ND} (h : errP st x ns = 0) : sfP x = true ∧ nfP ns = true := by
  unfold errP at h
  constructor
  · cases e : sfP x with
    | true => rfl
    | false => rw [e] at h; split at h <;> simp at h
  · cases e : nfP ns with
    | true => rfl
    | false => rw [e] at h; split at h <;> (try split at h) <;> simp at h
theorem rdE_bad {st : ByteArray} {x : Nat → Int} {ns : List ND} {p : Int} (h : errP st x ns ≠ 0) : rdE st x ns p = errP st x ns := if_neg h
theorem rdE_part {st : ByteArray} {x : Nat → Int} {ns : List ND} {p : Int} (h : errP st x ns = 0) (hp : p < 0 ∨ (ptN ns : Int) ≤ p) : rdE st x ns p = 69 := by unfold rdE; rw [if_pos h, if_pos hp]
theorem rdE_ok {st : ByteArray} {x : Nat → Int} {ns : List ND} {p : Int} (h : errP st x ns = 0) (hp : ¬ (p < 0 ∨ (ptN ns : Int) ≤ p)) : rdE st x ns p = 0 := by unfold rdE; rw [if_pos h, if_neg hp]
theorem rdE_zero {st : ByteArray} {x : Nat → Int} {ns : List ND} {p : Int} (h : rdE st x ns p = 0) : errP st x ns = 0 ∧ 0 ≤ p ∧ p < (ptN ns : Int) := by
  by_cases e : errP st x ns = 0
  · by_cases hp : p < 0 ∨ (ptN ns : Int) ≤ p
    · rw [rdE_part e hp] at h
      omega
    · exact ⟨e, by omega, by omega⟩
  · rw [rdE_bad e] at h
    exact absurd h e
theorem wk_len (x : Nat → Int) (ns : List ND) (p : Int) : (wk x ns p).length ≤ ptN ns := by
  unfold wk wkR
  rw [List.length_take]
  have := wkL_len ns (ptN ns) p.toNat (ptN ns)
  omega
theorem wk_lt {x : Nat → Int} {ns : List ND} {p : Int} (h : 0 < ptN ns) : ∀ k ∈ wk x ns p, k < ptN ns := fun k hk => wkL_lt h _ k (List.mem_of_mem_take hk)
/-- the walk, where there is one -/
noncomputable def wkE (st : ByteArray) (x : Nat → Int) (ns : List ND) (p : Int) : List Nat := if rdE st x ns p = 0 then wk x ns p else []
theorem wkE_ok {st : ByteArray} {x : Nat → Int} {ns : List ND} {p : Int} (h : rdE st x ns p = 0) : wkE st x ns p = wk x ns p := if_pos h
theorem wkE_bad {st : ByteArray} {x : Nat → Int} {ns : List ND} {p : Int} (h : rdE st x ns p ≠ 0) : wkE st x ns p = [] := if_neg h
/-- what round answers -/
structure RdOf (st : ByteArray) (x : Nat → Int) (ns : List ND) (p : Int) (w : World) (e : Ending) (w' : World) : Prop where
  out : ∃ vn vp, e = .returned (.tuple #[vn, vp, .int .i64 (rdE st x ns p)]) ∧ (rdE st x ns p = 0 → Dealt ns ∧ (∃ g, vn = .slice (some ⟨g, 0, none⟩) (ptN ns) (ptN ns) ∧ w'.heap[g]? = some (.cells (outL ns).toArray 3 (0, 0))) ∧ w'.ownsRow w.heap.size 3 1 vp (wk x ns p).length (ints (nis (wk x ns p)))) ∧ (rdE st x ns p ≠ 0 → vn = .slice none 0 0 ∧ vp = .slice none 0 0)
  bel : Below w.heap.size w w'
theorem RdOf.bad {st : ByteArray} {x : Nat → Int} {ns : List ND} {p : Int} {w w' : World} {e : Ending} {k : Int} (he : rdE st x ns p = k) (hk : k ≠ 0) (h : e = .returned (.tuple #[.slice none 0 0, .slice none 0 0, .int .i64 k])) (hb : Below w.heap.size w w') : RdOf st x ns p w e w' :=
  ⟨⟨_, _, by rw [he]; exact h, fun h0 => absurd (he.symm.trans h0) hk, fun _ => ⟨rfl, rfl⟩⟩, hb⟩
set_option maxHeartbeats 8000000 in
set_option maxRecDepth 100000 in
set_option linter.unusedSimpArgs false in
set_option linter.unusedVariables false in
theorem round_any (N : Nat) (w : World) (st : ByteArray) (x : Nat → Int) (ao : Option Addr) (b o cap : Nat) (pv : Nat → Value) (ns : List ND) (p : Int) (h : NsAt N w ao b o pv ns) (hN : N ≤ w.heap.size) (hs : st.size ≤ 9223372036854775807) :
    Calls Tryz.prog 36 #[.agg (clA st x (.slice ao ns.length cap)), .int .i64 p] w fun e w' => RdOf st x ns p w e w' := by
  obtain ⟨W0, hW0, hX⟩ := boxed st x cap h hN
  have HX := hide (hX.stand hN)
  have B0 := hide hX.bel
  clear hX h
  have ND := hide (nodesOf_any N W0 st x ao b o cap pv ns HX.out.nd HX.out.le hs)
  go_enter Tryz.func36, Tryz.ntmps36
  go_upto_region 1 with fail
  rw [← hW0]
  clear hW0
  go_wp2_with (refine wpList_loadCl rfl (.tmp 2) rfl w.heap.size st x _ rfl HX.out.cl ?_)
  refine Calls.mono ND.out ?_
  rintro e W1 ⟨⟨v, rfl, h1, h2⟩, hb⟩
  have X1 := hide (HX.out.below hb)
  have B1 := hide (B0.out.trans (hb.mono B0.out.size))
  clear hb HX ND
  by_cases he : errP st x ns = 0
  case neg =>
    obtain rfl := h2 he
    have HE := hide (rdE_bad (p := p) he)
    have HK := hide he
    generalize errP st x ns = k at *
    clear h1 h2
    go_wp2_with fail
    go_ret3
    exact RdOf.bad HE.out HK.out rfl B1.out
  case pos =>
    obtain ⟨hd, g, rfl, hg, hgs⟩ := h1 he
    have d1 := hd.p1
    have d2 := hd.p2
    have hpt : (flat ns).length = ptN ns := rfl
    rw [hpt] at d1 d2
    have RP := hide (rdE_part (p := p) he)
    have RO := hide (rdE_ok (p := p) he)
    have L0 := sfP_lim (errP_ok he).1 0 (by omega)
    have L0 : 1 ≤ x 0 ∧ x 0 ≤ 16 := L0
    have HD := hide hd
    have HG := hide hg
    have HPT := hide hpt
    rw [he]
    clear h1 h2 hd hg hpt he
    by_cases hp0 : p < 0
    · have HE := hide (RP.out (Or.inl hp0))
      go_wp2_with fail
      go_ret3
      exact RdOf.bad HE.out (by omega) rfl B1.out
    · by_cases hp1 : (ptN ns : Int) ≤ p
      · have HE := hide (RP.out (Or.inr hp1))
        go_wp2_with fail
        go_ret3
        exact RdOf.bad HE.out (by omega) rfl B1.out
      · have HE := hide (RO.out (by omega))
        have WK := walk_any W1 g (ptN ns) p.toNat (x 0).toNat ns HG.out HPT.out.symm (by omega) (by omega) (by omega) (by omega) (by omega)
        rw [Int.toNat_of_nonneg (by omega), Int.toNat_of_nonneg (by omega)] at WK
        have WK := hide WK
        have x0 := X1.out.cl.x0
        clear RP RO
        go_wp2_with fail
        refine Calls.mono WK.out ?_
        rintro e W2 ⟨v2, rfl, o2, hb⟩
        have B2 := hide (B1.out.trans (hb.mono B1.out.size))
        have G2 : Hid (W2.heap[g]? = some (.cells (outL ns).toArray 3 (0, 0))) := (hb.block _ (blk_lt HG.out)).trans HG.out
        have O2 := hide (own_lower o2 B1.out.size)
        clear hb o2 WK x0
        go_wp2_with fail
        go_ret3
        exact ⟨⟨_, _, by rw [HE.out]; rfl, fun _ => ⟨HD.out, ⟨g, rfl, G2.out⟩, O2.out⟩, fun h => absurd HE.out h⟩, B2.out⟩
set_option maxHeartbeats 8000000 in
set_option maxRecDepth 100000 in
set_option linter.unusedSimpArgs false in
set_option linter.unusedVariables false in
/-- Owners: the owners, the error -/
theorem Owners_any (N : Nat) (w : World) (st : ByteArray) (x : Nat → Int) (ao : Option Addr) (b o cap : Nat) (pv : Nat → Value) (ns : List ND) (p : Int) (h : NsAt N w ao b o pv ns) (hN : N ≤ w.heap.size) (hs : st.size ≤ 9223372036854775807) :
    Calls Tryz.prog 15 #[.agg (clA st x (.slice ao ns.length cap)), .int .i64 p] w fun e w' => ∃ v, e = .returned (.tuple #[v, .int .i64 (rdE st x ns p)]) ∧ w'.ownsRow w.heap.size 3 1 v (wkE st x ns p).length (ints (owL ns (wkE st x ns p))) ∧ Below w.heap.size w w' := by
  obtain ⟨L, hL⟩ : ∃ L, L = wkE st x ns p := ⟨_, rfl⟩
  obtain ⟨k, hk⟩ : ∃ k, k = rdE st x ns p := ⟨_, rfl⟩
  rw [← hL, ← hk]
  have HLL := hide hL
  have HKK := hide hk
  obtain ⟨W0, hW0, hX⟩ := boxed st x cap h hN
  have HX := hide (hX.stand hN)
  have B0 := hide hX.bel
  clear hX h hk hL
  have ND := hide (round_any N W0 st x ao b o cap pv ns p HX.out.nd HX.out.le hs)
  go_enter Tryz.func15, Tryz.ntmps15
  go_upto_region 1 with fail
  rw [← hW0]
  clear hW0
  go_wp2_with (refine wpList_loadCl rfl (.tmp 2) rfl w.heap.size st x _ rfl HX.out.cl ?_)
  refine Calls.mono ND.out ?_
  rintro e W1 ⟨⟨vn, vp, rfl, h1, h2⟩, hb⟩
  rw [← HKK.out] at h1 h2 ⊢
  have B1 := hide (B0.out.trans (hb.mono B0.out.size))
  have H1 := hide h1
  have H2 := hide h2
  clear hb HX ND h1 h2
  by_cases he : k = 0
  case neg =>
    obtain ⟨rfl, rfl⟩ := H2.out he
    have KE := hide (keepers_any 0 W1 0 0 none ns [] none 0 0 0 ⟨fun h => absurd h (Nat.lt_irrefl _), fun h => absurd h (Nat.lt_irrefl _), fun q hq => absurd hq (Nat.not_lt_zero _), by simp [nis]⟩ (Nat.zero_le _) (fun h => absurd h (Nat.lt_irrefl _)) (fun k hk => absurd hk (Nat.not_lt_zero _)) (fun k hk => absurd hk (by simp)) (by simp) (by omega))
    obtain rfl : L = [] := HLL.out.trans (wkE_bad (HKK.out ▸ he))
    clear he H1 H2
    go_wp2_with fail
    refine Calls.mono KE.out ?_
    rintro e W2 ⟨v, rfl, o2, hb⟩
    have B2 := hide (B1.out.trans (hb.mono B1.out.size))
    have O2 := hide (own_lower o2 B1.out.size)
    clear hb o2 KE
    obtain ⟨ba, cp, hv, _⟩ := own_sl O2.out
    subst hv
    go_wp2_with fail
    go_ret2
    exact ⟨_, rfl, O2.out, B2.out⟩
  case pos =>
    obtain ⟨hd, ⟨g, rfl, hg⟩, ho⟩ := H1.out he
    have HLw : Hid (L = wk x ns p) := HLL.out.trans (wkE_ok (HKK.out ▸ he))
    rw [← HLw.out] at ho
    obtain ⟨pa, cp, hv, _⟩ := own_sl ho
    subst hv
    have d1 := hd.p1
    have d2 := hd.p2
    have hpt : (flat ns).length = ptN ns := rfl
    rw [hpt] at d1 d2
    have hl : L.length ≤ ptN ns := by rw [HLw.out]; exact wk_len x ns p
    have hlt : ∀ k ∈ L, k < ptN ns := by rw [HLw.out]; exact wk_lt (by omega)
    obtain ⟨pa', pb, po, pc, e1, hps⟩ := own_ps ho (nis_len _).symm (by rw [nis_len]; omega)
    injection e1 with e1 e2 e3
    subst e1
    subst e3
    have KE := hide (keepers_any W1.heap.size W1 g (ptN ns) (some ⟨g, 0, none⟩) ns L pa pb po cp hps (Nat.le_refl _) (fun _ => ⟨rfl, blk_lt hg⟩) (fun k hk => outL_cell hg hk) hlt (by omega) (by omega))
    clear he H1 H2 hps hg ho hpt hd HLL e2 HLw hlt
    go_wp2_with fail
    refine Calls.mono KE.out ?_
    rintro e W2 ⟨v, rfl, o2, hb⟩
    have B2 := hide (B1.out.trans (hb.mono B1.out.size))
    have O2 := hide (own_lower o2 B1.out.size)
    clear hb o2 KE
    obtain ⟨ba, cp2, hv, _⟩ := own_sl O2.out
    subst hv
    go_wp2_with fail
    go_ret2
    exact ⟨_, rfl, O2.out, B2.out⟩
end Go.Proofs.YtndfhpfhgdamgaaGreatDoor
namespace Go.Proofs.YtndfhpfhgdamgaaGreatDoor
/-- the partitions of node i -/
def mdQ (h : Nat → Int) (i p : Nat) : List Nat := (List.range p).filter fun j => decide (h j = (i : Int))
theorem mdQ_succ (h : Nat → Int) (i p : Nat) : mdQ h i (p + 1) = mdQ h i p ++ (if h p = (i : Int) then [p] else []) := by
  unfold mdQ
  rw [List.range_succ, List.filter_append]
  congr 1
  by_cases e : h p = (i : Int)
  · rw [if_pos e]
    simp [e]
  · rw [if_neg e]
    simp [e]
/-- the nodes that are made: zones, homes -/
def mdN (z : Nat → Int) (h : Nat → Int) (p n : Nat) : List ND := (List.range n).map fun i => ⟨z i, nis (mdQ h i p)⟩
theorem mdN_len (z h : Nat → Int) (p n : Nat) : (mdN z h p n).length = n := by simp [mdN]
theorem mdN_at (z h : Nat → Int) (p n i : Nat) (hi : i < (mdN z h p n).length) : (mdN z h p n)[i] = ⟨z i, nis (mdQ h i p)⟩ := by simp [mdN]
theorem flat_mdN (z h : Nat → Int) (p n : Nat) : flat (mdN z h p n) = nis ((List.range n).flatMap fun i => mdQ h i p) := by
  unfold flat mdN nis
  rw [List.flatMap_map, List.map_flatMap]
theorem one_flat (c : Int) (x n : Nat) : (List.range n).flatMap (fun i : Nat => if c = (i : Int) then [x] else []) = if 0 ≤ c ∧ c < (n : Int) then [x] else [] := by
  induction n with
  | zero => rw [if_neg (by omega)]; rfl
  | succ n ih =>
    rw [List.range_succ, List.flatMap_append, ih]
    by_cases e : c = (n : Int)
    · rw [if_neg (by omega), if_pos (by omega)]
      simp [e]
    · by_cases h : 0 ≤ c ∧ c < (n : Int)
      · rw [if_pos h, if_pos (by omega)]
        simp [e]
      · rw [if_neg h, if_neg (by omega)]
        simp [e]
theorem two_flat (A B : Nat → List Nat) (n : Nat) : ((List.range n).flatMap fun i => A i ++ B i).Perm ((List.range n).flatMap A ++ (List.range n).flatMap B) := by
  induction n with
  | zero => exact List.Perm.refl _
  | succ n ih =>
    rw [List.range_succ, List.flatMap_append, List.flatMap_append, List.flatMap_append]
    simp only [List.flatMap_cons, List.flatMap_nil, List.append_nil]
    refine (ih.append_right _).trans ?_
    simp only [List.append_assoc]
    refine List.Perm.append_left _ ?_
    rw [← List.append_assoc, ← List.append_assoc]
    exact List.Perm.append_right _ List.perm_append_comm
/-- each partition stands once -/
theorem mdQ_all (h : Nat → Int) (p n : Nat) (hh : ∀ j, j < p → 0 ≤ h j ∧ h j < (n : Int)) : ((List.range n).flatMap fun i => mdQ h i p).Perm (List.range p) := by
  induction p with
  | zero => simp [mdQ]
  | succ p ih =>
    have e : (List.range n).flatMap (fun i => mdQ h i (p + 1)) = (List.range n).flatMap (fun i => mdQ h i p ++ (if h p = (i : Int) then [p] else [])) := by
      congr 1
      funext i
      exact mdQ_succ h i p
    rw [e]
    refine (two_flat _ _ n).trans ?_
    rw [one_flat, if_pos (hh p (by omega)), List.range_succ]
    exact (ih fun j hj => hh j (by omega)).append_right _
theorem cnt_range (p i : Nat) (hi : i < p) : cntI (i : Int) (nis (List.range p)) = 1 := by
  induction p with
  | zero => omega
  | succ p ih =>
    rw [List.range_succ, nis_append, cntI_append]
    by_cases e : i = p
    · subst e
      have z : cntI (i : Int) (nis (List.range i)) = 0 := cntI_zero.2 fun hm => by
        simp [nis] at hm
        obtain ⟨a, h1, h2⟩ := hm
        omega
      rw [z]
      simp [nis, cntI]
    · rw [ih (by omega)]
      have : ¬ (p : Int) = (i : Int) := by omega
      simp [nis, cntI, this]
theorem rise_pw {l : List Nat} (h : l.Pairwise (· < ·)) : Rising (nis l) := by
  intro j hj
  rw [nis_len] at hj
  have := List.pairwise_iff_getElem.1 h j (j + 1) (by omega) hj (by omega)
  simp only [nis, List.getElem_map]
  omega
theorem mdQ_rise (h : Nat → Int) (i p : Nat) : Rising (nis (mdQ h i p)) := rise_pw (List.Pairwise.filter _ (List.pairwise_lt_range))
theorem mdN_flen (z h : Nat → Int) (p n : Nat) (hh : ∀ j, j < p → 0 ≤ h j ∧ h j < (n : Int)) : (flat (mdN z h p n)).length = p := by
  rw [flat_mdN, nis_len, (mdQ_all h p n hh).length_eq, List.length_range]
theorem mdN_dealt (z h : Nat → Int) (p n : Nat) (hh : ∀ j, j < p → 0 ≤ h j ∧ h j < (n : Int)) (p1 : 1 ≤ p) (p2 : p ≤ 64) : Dealt (mdN z h p n) := by
  have hl := mdN_flen z h p n hh
  refine ⟨by omega, by omega, fun i hi => ?_, fun nd hn => ?_⟩
  · rw [hl] at hi
    rw [flat_mdN]
    have pm := (mdQ_all h p n hh).map (fun n : Nat => (n : Int))
    exact (cntI_perm pm).trans (cnt_range p i hi)
  · unfold mdN at hn
    obtain ⟨i, _, rfl⟩ := List.mem_map.1 hn
    exact mdQ_rise h i p
theorem kpN_one {ns : List ND} (h : 1 ≤ (flat ns).length) : 1 ≤ kpN ns := by
  apply Classical.byContradiction
  intro hk
  have h0 : kpN ns = 0 := by omega
  unfold kpN at h0
  have h1 := List.length_eq_zero_iff.1 h0
  rw [List.filter_eq_nil_iff] at h1
  have : flat ns = [] := by
    unfold flat
    rw [List.flatMap_eq_nil_iff]
    intro n hn
    have := h1 n hn
    simp [hasP] at this
    exact this
  rw [this] at h
  simp at h
/-- a definition that is valid -/
theorem valid_errP {x : Nat → Int} {ns : List ND} {st : ByteArray} (h0 : nmP st = true) (h1 : sfP x = true) (h2 : nfP ns = true) (h3 : Dealt ns) (h4 : x 0 ≤ (kpN ns : Int)) (h5 : (ptN ns : Int) * x 0 * x 2 ≤ 512) : errP st x ns = 0 := by
  unfold errP
  rw [h0, h1, h2, dlB_true h3, if_neg (by simp), if_neg (by simp), if_neg (by simp), if_neg (by simp), if_neg (by omega), if_neg (by omega)]
/-- how many chunks, replicas there may be -/
theorem md_most {full p m : Int} (h1 : 1 ≤ full) (h2 : 1 ≤ p) (h3 : p ≤ 64) (hm : m = if 512 < full * p then 512 / p else full) : 1 ≤ m ∧ m ≤ full ∧ m * p ≤ 512 := by
  by_cases h : 512 < full * p
  · rw [if_pos h] at hm
    have e1 : 512 / p * p ≤ 512 := Int.ediv_mul_le _ (by omega)
    have e2 : 1 ≤ 512 / p := by
      rw [Int.le_ediv_iff_mul_le (by omega)]
      omega
    have e3 : 512 / p < full := by
      rw [Int.ediv_lt_iff_lt_mul (by omega)]
      omega
    subst hm
    exact ⟨e2, by omega, e1⟩
  · rw [if_neg h] at hm
    subst hm
    exact ⟨h1, Int.le_refl _, by omega⟩
theorem md_chunks {c p r k : Int} (h1 : 1 ≤ c) (h2 : c ≤ 16) (h3 : 1 ≤ p) (h4 : 1 ≤ r) (h5 : p * r ≤ 512) (hk : k = if 512 < c * p * r then 512 / (p * r) else c) : 1 ≤ k ∧ k ≤ 16 ∧ p * r * k ≤ 512 := by
  have hpr : 1 ≤ p * r := by
    have := Int.mul_le_mul h3 h4 (by omega) (by omega)
    omega
  have hc : c * p * r = c * (p * r) := by rw [Int.mul_assoc]
  by_cases h : 512 < c * p * r
  · rw [if_pos h] at hk
    have e1 : 512 / (p * r) * (p * r) ≤ 512 := Int.ediv_mul_le _ (by omega)
    have e2 : 1 ≤ 512 / (p * r) := by
      rw [Int.le_ediv_iff_mul_le (by omega)]
      omega
    have e3 : 512 / (p * r) < c := by
      rw [Int.ediv_lt_iff_lt_mul (by omega), ← hc]
      omega
    rw [Int.mul_comm] at e1
    subst hk
    exact ⟨e2, by omega, e1⟩
  · rw [if_neg h] at hk
    rw [hc, Int.mul_comm] at h
    subst hk
    exact ⟨h1, h2, by omega⟩
end Go.Proofs.YtndfhpfhgdamgaaGreatDoor
namespace Go.Proofs.YtndfhpfhgdamgaaGreatDoor
open Go.RowKit
theorem ownF_app (k : Int) (s : Nat) (a b : List ND) : ownF k s (a ++ b) = if k ∈ flat a then ownF k s a else ownF k (s + a.length) b := by
  induction a generalizing s with
  | nil => simp [flat, Nat.add_zero]
  | cons n r ih =>
    rw [List.cons_append, flat_cons]
    by_cases e : k ∈ n.ps
    · rw [ownF_in e, ownF_in e, if_pos (List.mem_append_left _ e)]
    · rw [ownF_out e, ownF_out e, ih, List.length_cons, show s + 1 + r.length = s + (r.length + 1) by omega]
      have : k ∈ n.ps ++ flat r ↔ k ∈ flat r := by rw [List.mem_append]; exact ⟨fun h => h.resolve_left e, Or.inr⟩
      simp only [this]
theorem ownF_here {k : Int} {ns : List ND} {i : Nat} (hi : i < ns.length) (h : k ∉ flat (ns.take i)) (hk : k ∈ ns[i].ps) : ownF k 0 ns = (i : Int) := by
  have e : ns = ns.take i ++ (ns[i] :: ns.drop (i + 1)) := by
    rw [← List.drop_eq_getElem_cons hi, List.take_append_drop]
  rw [e, ownF_app, if_neg h, ownF_in hk, List.length_take]
  congr 1
  omega
end Go.Proofs.YtndfhpfhgdamgaaGreatDoor
namespace Go.Proofs.YtndfhpfhgdamgaaGreatDoor
open Go.RowKit
theorem nodup_le : ∀ (a b : List Int), a.Nodup → (∀ x ∈ a, x ∈ b) → a.length ≤ b.length
  | [], _, _, _ => Nat.zero_le _
  | x :: a, b, hn, hs => by
    have hx : x ∈ b := hs x (by simp)
    have hn' := List.nodup_cons.1 hn
    have := nodup_le a (b.erase x) hn'.2 (fun y hy => by
      have hne : y ≠ x := fun e => hn'.1 (e ▸ hy)
      exact (List.mem_erase_of_ne hne).2 (hs y (by simp [hy])))
    rw [List.length_erase_of_mem hx] at this
    have hp : 0 < b.length := List.length_pos_of_mem hx
    simp only [List.length_cons]
    omega
/-- the nodes that have a partition -/
def fulL (ns : List ND) (q : Nat) : List Nat := (List.range q).filter fun i => decide (0 < (ns[i]?.getD default).ps.length)
theorem fulL_len (ns : List ND) (q : Nat) (h : q ≤ ns.length) : (fulL ns q).length = kpN (ns.take q) := by
  induction q with
  | zero => simp [fulL, kpN]
  | succ q ih =>
    have hq : q < ns.length := by omega
    rw [kpN_take hq, ← ih (by omega)]
    unfold fulL
    rw [List.range_succ, List.filter_append, List.length_append]
    congr 1
    rw [List.filter_cons, List.getElem?_eq_getElem hq, Option.getD_some]
    by_cases e : 0 < ns[q].ps.length
    · simp [e]
    · simp [e]
theorem ownF_mem {ns : List ND} (hd : Dealt ns) {i : Nat} (hi : i < ns.length) {k : Int} (hk : k ∈ ns[i].ps) : ownF k 0 ns = (i : Int) := by
  refine ownF_here hi (fun hc => ?_) hk
  have h1 := hd.all.2 k
  have e : flat ns = flat (ns.take i) ++ (ns[i].ps ++ flat (ns.drop (i + 1))) := by
    rw [← flat_cons, ← flat_append, ← List.drop_eq_getElem_cons hi, List.take_append_drop]
  rw [e, cntI_append, cntI_append] at h1
  have h2 := cntI_mem.2 hc
  have h3 := cntI_mem.2 hk
  omega
theorem plc_all {P f k : Nat} (hf : f < P) (hk : k < P) : ∃ j, j < P ∧ plc P f j = k := by
  unfold plc
  by_cases h : f ≤ k
  · exact ⟨k - f, by omega, by rw [show f + (k - f) = k by omega]; exact Nat.mod_eq_of_lt hk⟩
  · exact ⟨k + P - f, by omega, by rw [show f + (k + P - f) = k + P by omega, Nat.add_mod_right]; exact Nat.mod_eq_of_lt hk⟩
/-- a walk goes to every node that has a partition -/
theorem walk_full {ns : List ND} (hd : Dealt ns) {f : Nat} (hf : f < ptN ns) : kpN ns ≤ (wkL ns (ptN ns) f (ptN ns)).length := by
  have h1 := fulL_len ns ns.length (Nat.le_refl _)
  rw [List.take_length] at h1
  rw [← h1, ← nis_len (fulL ns ns.length), ← owL_len ns]
  refine nodup_le _ _ ?_ ?_
  · unfold nis
    have hn : (fulL ns ns.length).Pairwise (· < ·) := List.Pairwise.filter _ List.pairwise_lt_range
    refine List.pairwise_map.2 (hn.imp fun h => ?_)
    omega
  · intro y hy
    unfold nis at hy
    obtain ⟨i, hi, rfl⟩ := List.mem_map.1 hy
    unfold fulL at hi
    obtain ⟨hi1, hi2⟩ := List.mem_filter.1 hi
    have hil := List.mem_range.1 hi1
    rw [List.getElem?_eq_getElem hil, Option.getD_some] at hi2
    have hpos := of_decide_eq_true hi2
    have hk0 := List.getElem_mem hpos
    have hr := hd.all.1 _ (mem_flat hil hpos)
    have hpt : (flat ns).length = ptN ns := rfl
    rw [hpt] at hr
    have ho := ownF_mem hd hil hk0
    obtain ⟨k, hk⟩ : ∃ k : Nat, (k : Int) = ns[i].ps[0] := ⟨(ns[i].ps[0]).toNat, by omega⟩
    obtain ⟨j, hj, ej⟩ := plc_all hf (show k < ptN ns by omega)
    obtain ⟨p, hp, ep⟩ := wkL_homes (ns := ns) (P := ptN ns) (f := f) (ptN ns) j hj
    unfold owL
    refine List.mem_map.2 ⟨p, hp, ?_⟩
    rw [ep, ej]
    unfold hm
    rw [hk]
    exact ho
theorem wk_full {x : Nat → Int} {ns : List ND} {p : Int} (hd : Dealt ns) (h0 : 0 ≤ p) (h1 : p < (ptN ns : Int)) (h2 : 0 ≤ x 0) (h3 : x 0 ≤ (kpN ns : Int)) : ((wk x ns p).length : Int) = x 0 := by
  have := walk_full hd (f := p.toNat) (by omega)
  unfold wk wkR
  rw [List.length_take]
  omega
end Go.Proofs.YtndfhpfhgdamgaaGreatDoor
namespace Go.Proofs.YtndfhpfhgdamgaaGreatDoor
open Go.RowKit
/-- the number that bytes say, the highest first -/
def hiF (l : List UInt8) : Nat := l.foldl (fun n c => n * 256 + c.toNat) 0
theorem hiF_snoc (l : List UInt8) (c : UInt8) : hiF (l ++ [c]) = hiF l * 256 + c.toNat := by simp [hiF]
theorem hiF_lt (l : List UInt8) : hiF l < 256 ^ l.length := by
  rw [← List.reverse_reverse l]
  generalize l.reverse = r
  induction r with
  | nil => simp [hiF]
  | cons c r ih =>
    rw [List.reverse_cons, hiF_snoc, List.length_append]
    have := c.toNat_lt
    simp only [List.length_cons, List.length_nil, Nat.zero_add, Nat.pow_succ]
    omega
theorem hiF_take (s : ByteArray) (k : Nat) (h : k < s.size) : hiF (s.data.toList.take (k + 1)) = hiF (s.data.toList.take k) * 256 + s[k].toNat := by
  rw [List.take_succ_eq_append_getElem (by simpa using h), hiF_snoc]
  rfl
theorem hiF_cap (l : List UInt8) (h : l.length ≤ 4) : hiF l < 4294967296 := by
  have h1 := hiF_lt l
  have h2 : 256 ^ l.length ≤ 256 ^ 4 := Nat.pow_le_pow_right (by omega) h
  omega
set_option maxRecDepth 100000 in
theorem high_any (s : ByteArray) (hs : s.size ≤ 4) (w : World) :
    Calls Tryz.prog 35 #[.string s] w fun e w' => e = .returned (.int .i64 (hiF s.data.toList : Int)) ∧ w = w' := by
  have hs2 : s.size ≤ 9223372036854775807 := by omega
  go_enter Tryz.func35, Tryz.ntmps35
  go_wp2_with fail
  go_loopw [3, 7] (fun vn vi wr => ∃ k : Nat, k ≤ s.size ∧ vi = .int .i64 (k : Int) ∧ vn = .int .i64 (hiF (s.data.toList.take k) : Int) ∧ w = wr) (fun _ vi _ => s.size - (intOf vi).toNat)
  case atStart => exact ⟨0, Nat.zero_le _, rfl, rfl, rfl⟩
  case round =>
    obtain ⟨k, hk, rfl, rfl, rfl⟩ := hrel
    by_cases hlt : k < s.size
    · have hxs : ∀ w', (Instr.index 9 (.string s) (.int .i64 (k : Int))).run Tryz.prog w' = .ok (.int .u8 (s[k].toNat : Int)) w' := fun w' => ix_str w' s k hlt
      have HT := hide (hiF_take s k hlt)
      have hc := hiF_cap (s.data.toList.take k) (by rw [List.length_take]; omega)
      have hb := s[k].toNat_lt
      have hki : (k : Int) < (s.size : Int) := by omega
      generalize hiF (s.data.toList.take k) = n at *
      generalize s[k].toNat = c at *
      have e1 := i64_in (x := (n : Int) * 256) (by omega) (by omega)
      have e2 := wrap_in (x := (n : Int) * 256) (by omega) (by omega)
      have e3 := wrap_in (x := (n : Int) * 256 + (c : Int)) (by omega) (by omega)
      go_wp2_with fail
      go_roundw
      case rel => exact ⟨k + 1, by omega, by go_num, by rw [HT.out]; go_num, by first | rfl | trivial⟩
      case measure => simp [intOf]; omega
    · obtain rfl : k = s.size := by omega
      rw [List.take_of_length_le (by simp)]
      go_wp2_with fail
      go_ret
      exact ⟨rfl, rfl⟩
/-- four bytes -/
theorem hiF_four (s : ByteArray) (h : s.size = 4) : hiF s.data.toList = s[0].toNat * 16777216 + s[1].toNat * 65536 + s[2].toNat * 256 + s[3].toNat := by
  have e : s.data.toList = [s[0], s[1], s[2], s[3]] := by
    apply List.ext_getElem
    · simp; omega
    · intro i h1 h2
      have hi : i = 0 ∨ i = 1 ∨ i = 2 ∨ i = 3 := by simp at h2; omega
      rcases hi with rfl | rfl | rfl | rfl <;> rfl
  rw [e]
  simp [hiF]
  omega
theorem exec_moveS {ρ : Operand → Value} {op : Oper} {w : World} {v : Value} (x : Operand) (ho : op.op = .move x) (hx : ρ x = v) : (execOp ρ op).run Tryz.prog w = .ok (.value v) w := by
  unfold execOp
  simp only [ho, hx, Sem.run_pure]
theorem exec_ixS {ρ : Operand → Value} {op : Oper} {w : World} {s : ByteArray} {k c : Nat} (hk : k < s.size) (hc : s[k].toNat = c) (x y : Operand) (ho : op.op = .index 9 x y) (hx : ρ x = .string s) (hy : ρ y = .int .i64 (k : Int)) : (execOp ρ op).run Tryz.prog w = .ok (.value (.int .u8 (c : Int))) w := by
  subst hc
  unfold execOp
  simp only [ho, hx, hy, ix_str w s k hk, Sem.run_bind, Result.andThen_ok, Sem.run_pure]
theorem exec_cvU {ρ : Operand → Value} {op : Oper} {w : World} {c : Nat} (hc : c < 256) (x : Operand) (ho : op.op = .convert 5 3 x) (hx : ρ x = .int .u8 (c : Int)) : (execOp ρ op).run Tryz.prog w = .ok (.value (.int .i64 (c : Int))) w := by
  have e := i64_in (x := (c : Int)) (by omega) (by omega)
  have e2 := wrap_in (x := (c : Int)) (by omega) (by omega)
  unfold execOp
  simp only [ho, hx]
  go_simp
theorem exec_shlN {ρ : Operand → Value} {op : Oper} {w : World} {a j m : Nat} {t2 : TypeId} (x y : Operand) (ho : op.op = .binOp .shl 3 x y t2) (hx : ρ x = .int .i64 (a : Int)) (hy : ρ y = .int .u64 (j : Int)) (hj : j ≤ 24) (hm : 2 ^ j = m) (ha : a * m < 9223372036854775808) : (execOp ρ op).run Tryz.prog w = .ok (.value (.int .i64 ((a * m : Nat) : Int))) w := by
  subst hm
  have hs := shift_shl .i64 .u64 (a : Int) (j : Int) (by omega) (by simp [IntKind.bits]; omega)
  have e : IntKind.i64.wrap ((a : Int) * 2 ^ (j : Int).toNat) = ((a * 2 ^ j : Nat) : Int) := by
    rw [Int.toNat_natCast]
    have : (a : Int) * 2 ^ j = ((a * 2 ^ j : Nat) : Int) := by simp
    rw [this]
    exact i64_in (by omega) (by omega)
  unfold execOp
  simp only [ho, hx, hy, binOp_shl, hs, e]
  go_simp
theorem exec_addN {ρ : Operand → Value} {op : Oper} {w : World} {a b : Nat} {t2 : TypeId} (x y : Operand) (ho : op.op = .binOp .add 3 x y t2) (hx : ρ x = .int .i64 (a : Int)) (hy : ρ y = .int .i64 (b : Int)) (h1 : a + b < 9223372036854775808) : (execOp ρ op).run Tryz.prog w = .ok (.value (.int .i64 ((a + b : Nat) : Int))) w := by
  unfold execOp
  simp only [ho, hx, hy]
  go_simp
  exact i64_in (by omega) (by omega)
end Go.Proofs.YtndfhpfhgdamgaaGreatDoor
