import Derived.Test.YtpoegknmkbnjlaaDoorGGcPure
namespace Go.Proofs.YtpoegknmkbnjlaaDoor
open Go.RowKit
/-- what spread answers -/
structure Sprd (ns : List ND) (w : World) (e : Ending) (w' : World) : Prop where
  yes : Dealt ns → ∃ g, e = .returned (.tuple #[.slice (some ⟨g, 0, none⟩) (flat ns).length (flat ns).length, .bool true]) ∧ w'.heap[g]? = some (.cells (outL ns).toArray 3 (0, 0)) ∧ w.heap.size ≤ g
  no : ¬ Dealt ns → e = .returned (.tuple #[.slice none 0 0, .bool false])
  bel : Below w.heap.size w w'
theorem Sprd.bad {ns : List ND} {w w' : World} {e : Ending} (h : ¬ Dealt ns) (he : e = .returned (.tuple #[.slice none 0 0, .bool false])) (hb : Below w.heap.size w w') : Sprd ns w e w' := ⟨fun d => absurd d h, fun _ => he, hb⟩
theorem flat_cap {N : Nat} {w : World} {ao : Option Addr} {b o : Nat} {pv : Nat → Value} {ns : List ND} (h : NsAt N w ao b o pv ns) (q : Nat) (hq : q ≤ ns.length) : (flat (ns.take q)).length ≤ q * 17592186043904 := by
  induction q with
  | zero => simp [flat]
  | succ q ih =>
    rw [flat_take_succ (by omega)]
    have := ih (by omega)
    obtain ⟨_, _, _, _, _, hp⟩ := h.ps q (by omega)
    have := hp.len
    omega
theorem row_cell {w : World} {g : Nat} {l : List Value} {t : TypeId} (h : w.heap[g]? = some (.cells l.toArray t (0, 0))) (k : Nat) : w.cell? ⟨g, k, none⟩ = l[k]? := by
  unfold World.cell?
  rw [h]
  simp
theorem row_fz {w : World} {g : Nat} {l : List Value} {t : TypeId} (h : w.heap[g]? = some (.cells l.toArray t (0, 0))) (k : Nat) : w.frozen? ⟨g, k, none⟩ = false := by
  unfold World.frozen?
  rw [h]
  simp
theorem row_set {w : World} {g : Nat} {l : List Value} {t : TypeId} (h : w.heap[g]? = some (.cells l.toArray t (0, 0))) (k : Nat) (v : Value) : (w.setCell ⟨g, k, none⟩ v).heap[g]? = some (.cells (l.set k v).toArray t (0, 0)) := by
  simp only [World.setCell, Array.getElem?_modify, if_true, h, Option.map_some]
  simp
theorem below_setC {n₀ : Nat} {w X : World} {G j : Nat} {v : Value} (h : Below n₀ w X) (hG : n₀ ≤ G) : Below n₀ w (X.setCell ⟨G, j, none⟩ v) := ⟨h.os, h.tape, h.output, by rw [World.size_setCell]; exact h.size, fun i hi => (Below.heap_setCell _ _ _ i (fun e => by simp at e; omega)).trans (h.block i hi)⟩
theorem lastP_ge {ns : List ND} {i j : Nat} (h : Fine ns i j) (hi : i < ns.length) (hj : j ≤ ns[i].ps.length) : -1 ≤ lastP ns i j := by
  unfold lastP
  by_cases j0 : j = 0
  · rw [if_pos j0]
    omega
  · rw [if_neg j0, List.getElem?_eq_getElem hi, Option.getD_some, List.getElem?_eq_getElem (by omega), Option.getD_some]
    have hm : ns[i].ps[j - 1] ∈ flat (preN ns i j) := by
      unfold preN
      rw [List.getElem?_eq_getElem hi, Option.getD_some, flat_append, flat_one]
      refine List.mem_append_right _ ?_
      rw [List.mem_take_iff_getElem]
      exact ⟨j - 1, by omega, rfl⟩
    have := (h.rng _ hm).1
    omega
theorem lastP_succ {ns : List ND} {i j : Nat} (hi : i < ns.length) (hj : j < ns[i].ps.length) : lastP ns i (j + 1) = ns[i].ps[j] := by
  unfold lastP
  rw [if_neg (by omega), List.getElem?_eq_getElem hi, Option.getD_some, Nat.add_sub_cancel, List.getElem?_eq_getElem hj, Option.getD_some]
set_option maxHeartbeats 8000000 in
set_option maxRecDepth 100000 in
set_option linter.unusedSimpArgs false in
set_option linter.unusedVariables false in
theorem spread_any (N : Nat) (w : World) (ao : Option Addr) (b o cap : Nat) (pv : Nat → Value) (ns : List ND) (h : NsAt N w ao b o pv ns) (hN : N ≤ w.heap.size) (h16 : ns.length ≤ 16) :
    Calls Tryd.prog 59 #[.slice ao ns.length cap] w fun e w' => Sprd ns w e w' := by
  have hmx : ns.length ≤ 9223372036854775807 := by have := h.len; omega
  have HN := hide h
  clear h
  go_enter Tryd.func59, Tryd.ntmps59
  go_wp2_with fail
  go_loopw [4, 15] (fun vc vi wr => ∃ (q : Nat), q ≤ ns.length ∧ vi = .int .i64 (q : Int) ∧ vc = .int .i64 ((flat (ns.take q)).length : Int) ∧ Below w.heap.size w wr) (fun _ vi _ => ns.length - (intOf vi).toNat)
  case atStart => exact ⟨0, Nat.zero_le _, rfl, rfl, Below.refl _ _⟩
  case round =>
    obtain ⟨q, hq, rfl, rfl, hB⟩ := hrel
    have HB := hide hB
    clear hB
    by_cases hql : q < ns.length
    case pos =>
      have hao := HN.out.at0 (by omega)
      subst hao
      have hqi : (q : Int) < (ns.length : Int) := by omega
      have NW := HN.out.below (HB.out.mono hN)
      have e0 := NW.cz q hql
      have e1 := NW.cp q hql
      have HT := hide (flat_take_succ hql)
      have hk := flat_cap HN.out q (by omega)
      obtain ⟨pa, pb, po, pc, hpv, hp⟩ := NW.ps q hql
      have hpl := hp.len
      rw [hpv] at e1
      clear NW hpv hp
      generalize ns[q].z = z at *
      generalize ns[q].ps.length = pl at *
      generalize hfl : (flat (ns.take q)).length = fl at *
      have BZ := hide (HB.out.alloc HB.out.size (.cells #[.int .i64 z, .slice pa pl pc] 50))
      have ew := wrap_in (x := (fl : Int) + (pl : Int)) (by omega) (by omega)
      clear hk
      go_wp2_with fail
      go_roundw
      case rel => exact ⟨q + 1, by omega, by go_num, by rw [HT.out]; simp; exact ew, BZ.out⟩
      case measure => simp [intOf]; omega
    case neg =>
      obtain rfl : q = ns.length := by omega
      have hk := flat_cap HN.out ns.length (Nat.le_refl _)
      rw [List.take_length] at hk ⊢
      by_cases p1 : (flat ns).length < 1
      · have p1' : ((flat ns).length : Int) < 1 := by omega
        have ND : Hid (¬ Dealt ns) := fun d => by have := d.p1; omega
        go_wp2_with fail
        go_ret2
        exact Sprd.bad ND.out rfl HB.out
      by_cases p2 : 64 < (flat ns).length
      · have p1' : ¬ ((flat ns).length : Int) < 1 := by omega
        have p2' : (64 : Int) < ((flat ns).length : Int) := by omega
        have ND : Hid (¬ Dealt ns) := fun d => by have := d.p2; omega
        go_wp2_with fail
        go_ret2
        exact Sprd.bad ND.out rfl HB.out
      have p1' : ¬ ((flat ns).length : Int) < 1 := by omega
      have p2' : ¬ (64 : Int) < ((flat ns).length : Int) := by omega
      obtain ⟨p, hp⟩ : ∃ p, p = (flat ns).length := ⟨_, rfl⟩
      have OS := outP_start ns
      rw [← hp] at OS p1 p2 p1' p2' hk ⊢
      have HP := hide hp
      have HO := hide OS
      clear OS hp
      obtain ⟨W1, hW1⟩ : ∃ W1, W1 = wr.alloc (.cells #[.int .i64 (-1)] 3) := ⟨_, rfl⟩
      have RP := repeat_any W1 wr.heap.size 1 p (by rw [hW1]; unfold World.cell?; rw [heap_last]; rfl) (by rw [hW1]; simp) (by omega) (by omega)
      have B1 : Hid (Below w.heap.size w W1) := by rw [hW1]; exact HB.out.alloc HB.out.size _
      have RP := hide RP
      clear HB
      go_wp2_with fail
      rw [← hW1]
      clear hW1
      refine Calls.mono RP.out ?_
      rintro e W2 ⟨g, rfl, hg, hgs, hb⟩
      have G2 := hide hg
      have gs : Hid (w.heap.size ≤ g) := Nat.le_trans B1.out.size hgs
      have B2 := hide (B1.out.trans (hb.mono B1.out.size))
      clear hg hgs hb RP B1
      go_wp2_with fail
      go_loopw [36] (fun vi wr => ∃ (i : Nat), i ≤ ns.length ∧ vi = .int .i64 (i : Int) ∧ wr.heap[g]? = some (.cells (outP ns i 0).toArray 3 (0, 0)) ∧ Hid (Fine ns i 0) ∧ Below w.heap.size w wr) (fun vi _ => ns.length - (intOf vi).toNat)
      case atStart => exact ⟨0, Nat.zero_le _, rfl, by rw [HO.out]; exact G2.out, Fine.start ns, B2.out⟩
      case round =>
        clear G2 B2 HO
        obtain ⟨i, hi, rfl, hG, hF, hB⟩ := hrel
        have G2 := hide hG
        have B2 := hide hB
        clear hG hB
        by_cases hil : i < ns.length
        case neg =>
          obtain rfl : i = ns.length := by omega
          have hii : ¬ (ns.length : Int) < (ns.length : Int) := by omega
          have DE := hide (hF.out.dealt (by rw [← HP.out]; omega) (by rw [← HP.out]; omega))
          have G3 := G2.out
          rw [outP_end] at G3
          have G3 := hide G3
          clear hF G2
          go_wp2_with fail
          go_ret2
          exact ⟨fun _ => ⟨g, by rw [← HP.out]; rfl, G3.out, gs.out⟩, fun d => absurd DE.out d, B2.out⟩
        case pos =>
          have hao := HN.out.at0 (by omega)
          subst hao
          have hii : (i : Int) < (ns.length : Int) := by omega
          have NW := HN.out.below (B2.out.mono hN)
          have e0 := NW.cz i hil
          have e1 := NW.cp i hil
          obtain ⟨pa, pb, po, pc, hpv, hp⟩ := HN.out.ps i hil
          have hpl := hp.len
          rw [hpv] at e1
          obtain ⟨z, hz⟩ : ∃ z, z = ns[i].z := ⟨_, rfl⟩
          rw [← hz] at e0
          obtain ⟨W3, hW3⟩ : ∃ W3, W3 = wr.alloc (.cells #[.int .i64 z, .slice pa ns[i].ps.length pc] 50) := ⟨_, rfl⟩
          have B3 : Hid (Below w.heap.size w W3) := by rw [hW3]; exact B2.out.alloc B2.out.size _
          have P3 := hide hp
          have G3 : Hid (W3.heap[g]? = some (.cells (outP ns i 0).toArray 3 (0, 0))) := by
            rw [hW3]
            exact (((Below.refl wr.heap.size wr).alloc (Nat.le_refl _) _).block g (blk_lt G2.out)).trans G2.out
          have X1 : W3.cell? ⟨wr.heap.size, 1, none⟩ = some (.slice pa ns[i].ps.length pc) := by rw [hW3]; unfold World.cell?; rw [heap_last]; rfl
          clear NW hpv hp hz
          go_wp2_with fail
          rw [← hW3]
          clear hW3 G2 B2 e0 e1
          go_loopw [10, 44] (fun vl vj wr => ∃ (j : Nat), j ≤ ns[i].ps.length ∧ vj = .int .i64 (j : Int) ∧ vl = .int .i64 (lastP ns i j) ∧ wr.heap[g]? = some (.cells (outP ns i j).toArray 3 (0, 0)) ∧ Hid (Fine ns i j) ∧ Below w.heap.size w wr) (fun _ vj _ => ns[i].ps.length - (intOf vj).toNat)
          case atStart => exact ⟨0, Nat.zero_le _, rfl, rfl, G3.out, hF, B3.out⟩
          case round =>
            clear hF
            obtain ⟨j, hj, rfl, rfl, hG, hF, hB⟩ := hrel
            have G2 := hide hG
            have B2 := hide hB
            clear hG hB G3 B3 X1
            by_cases hjl : j < ns[i].ps.length
            case neg =>
              obtain rfl : j = ns[i].ps.length := by omega
              have hji : ¬ (ns[i].ps.length : Int) < (ns[i].ps.length : Int) := by omega
              have F2 := hide (hF.out.next hil)
              have G3 := G2.out
              rw [outP_next ns i hil] at G3
              have G3 := hide G3
              clear G2 hF
              go_wp2_with fail
              go_roundw
              case rel => exact ⟨i + 1, by omega, by go_num, G3.out, F2.out, B2.out⟩
              case measure => simp [intOf]; omega
            case pos =>
              have hpa := P3.out.at0 (by omega)
              subst hpa
              have hji : (j : Int) < (ns[i].ps.length : Int) := by omega
              have cx := (P3.out.below (B2.out.mono hN)).c j hjl
              have NB := hide (fun hb => not_dealt (ns := ns) hil hjl hb)
              have ST := hide (fun a b c => hF.out.step hil hjl a b c)
              have OS := hide (fun k => outP_step ns i j k hil hjl)
              have LG := lastP_ge hF.out hil hj
              have LS := hide (lastP_succ hil hjl)
              rw [← HP.out] at NB ST
              generalize ns[i].ps[j] = x at *
              generalize hl : lastP ns i j = l at *
              clear hl
              by_cases x1 : x ≤ l
              · have ND := hide (NB.out (Or.inl x1))
                go_wp2_with fail
                go_ret2
                exact Sprd.bad ND.out rfl B2.out
              by_cases x2 : (p : Int) ≤ x
              · have ND := hide (NB.out (Or.inr (Or.inl x2)))
                go_wp2_with fail
                go_ret2
                exact Sprd.bad ND.out rfl B2.out
              obtain ⟨k, rfl⟩ : ∃ k : Nat, x = (k : Int) := ⟨x.toNat, by omega⟩
              have kp : k < p := by omega
              have ck := row_cell G2.out k
              rw [outP_at ns i j k (by rw [← HP.out]; exact kp)] at ck
              have fk := row_fz G2.out k
              have GS := row_set G2.out k (.int .i64 (i : Int))
              generalize hw : ownF (k : Int) 0 (preN ns i j) = ow at *
              by_cases x3 : ow = -1
              case neg =>
                have x3' : (ow != -1) = true := by simpa using x3
                have ND := hide (NB.out (Or.inr (Or.inr x3)))
                clear GS hw
                go_wp2_with fail
                go_ret2
                exact Sprd.bad ND.out rfl B2.out
              case pos =>
                subst x3
                rw [OS.out k rfl hw] at GS
                have G3 := hide GS
                have F2 := hide (ST.out (by omega) (by omega) rfl)
                have B3 := hide (below_setC (j := k) (v := .int .i64 (i : Int)) B2.out gs.out)
                clear GS hw hF NB ST OS
                go_wp2_with fail
                go_roundw
                case rel => exact ⟨j + 1, by omega, by go_num, by rw [LS.out], G3.out, F2.out, B3.out⟩
                case measure => simp [intOf]; omega
end Go.Proofs.YtpoegknmkbnjlaaDoor
