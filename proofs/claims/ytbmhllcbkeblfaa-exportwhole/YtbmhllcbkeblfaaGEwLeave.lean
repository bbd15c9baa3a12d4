import Derived.Test.YtbmhllcbkeblfaaGEpClus
import Derived.Test.YtbmhllcbkeblfaaGEwPure
import Derived.Test.YtbmhllcbkeblfaaGKbWalk
import Derived.Test.YtbmhllcbkeblfaaGGcName
import Derived.Test.YtbmhllcbkeblfaaGEpApp
namespace Go.Proofs.Ytbmhllcbkeblfaa.Cn
open Go.RowKit
def LvT (w w' : World) (T X : Nat) (v : Ex) (Z : Zz) (t' : Tk) (ov mv : Value) : Prop := ∃ mv', Bo w' T X v Z t' ov mv' ∧ Kp w w' (fun q => q = T ∨ mv.ownBlock = some q) ∧ (∀ q, mv'.ownBlock = some q → mv.ownBlock = some q ∨ w.heap.size ≤ q)
set_option maxHeartbeats 16000000 in
set_option maxRecDepth 100000 in
set_option linter.unusedSimpArgs false in
set_option linter.unusedVariables false in
theorem leaves_t {w : World} {T X : Nat} {v : Ex} {Z : Zz} {t : Tk} {ov mv : Value} (h : Bo w T X v Z t ov mv) (st : ByteArray) (x : Nat → Int) (nv : Value) (p : Int) (hl : 0 ≤ t.lf ∧ t.lf ≤ 1000) (hm : t.ms.length ≤ 1000) :
    Calls Try.prog 36 #[.pointer (some ⟨T, 0, none⟩), .agg (clA st x nv), .int .i64 p] w fun e w' => e = .returned (.tuple #[]) ∧ LvT w w' T X v Z (leavesT t (x 0) p) ov mv := by
  obtain ⟨B, hB⟩ : ∃ B, B = w.heap.size := ⟨_, rfl⟩
  obtain ⟨W0, hW0⟩ : ∃ W0, W0 = w.alloc (.cells (clA st x nv) 24) := ⟨_, rfl⟩
  have k0 : Kp w W0 non := by rw [hW0]; exact (Kp.refl w non).alloc _
  have c0 : ClAt W0 B st x nv := by rw [hW0, hB]; exact new_cl _ _ _ _
  have b0 := h.same k0
  obtain ⟨W1, hW1⟩ : ∃ W1, W1 = W0.setCell ⟨T, 15, none⟩ (.int .i64 (t.lf + 1)) := ⟨_, rfl⟩
  have k1 : Kp W0 W1 (fun q => q = T) := by rw [hW1]; exact (Kp.refl W0 (fun q => q = T)).set (Or.inl rfl) _ _
  have t1 : W1.heap[T]? = some (.cells (tkA X { t with lf := t.lf + 1 } ov mv) 57) := by rw [hW1]; exact set_row b0.tk.blk 15 _
  have B1 : Hid (Bo W1 T X v Z { t with lf := t.lf + 1 } ov mv) := b0.talk k1 (b0.tk.setT k1 t1 rfl rfl)
  have nBT : B ≠ T := fun e => by
    have z := b0.tk.blk
    have c := c0
    unfold ClAt at c
    rw [e, z] at c
    simp at c
  have c1 : ClAt W1 B st x nv := (k1.block _ (blk_lt c0) nBT).trans c0
  have c15 : W0.cell? ⟨T, 15, none⟩ = some (.int .i64 t.lf) := by rw [cell_row b0.tk.blk]; rfl
  have f15 := fz_row b0.tk.blk 15
  have KW : Hid (Kp w W1 (fun q => q = T)) := (k0.mono (T := fun q => q = T) (fun _ f => f.elim)).trans k1 (fun _ e => Or.inl e)
  have C2' : Hid (W1.cell? ⟨T, 15, none⟩ = some (.int .i64 (t.lf + 1)) ∧ W1.cell? ⟨B, 1, none⟩ = some (.int .i64 (x 0))) := ⟨by rw [cell_row t1]; rfl, c1.x 0 (by omega)⟩
  have LT : Hid (leavesT t (x 0) p = if t.lf + 1 = x 0 then { t with lf := 0, ms := t.ms ++ [p] } else { t with lf := t.lf + 1 }) := rfl
  obtain ⟨lf, hlf⟩ : ∃ lf, lf = t.lf := ⟨_, rfl⟩
  obtain ⟨r, hr⟩ : ∃ r, r = x 0 := ⟨_, rfl⟩
  rw [← hlf, ← hr] at LT C2'
  have C2 : Hid ((fun Y => Y.cell? ⟨T, 15, none⟩ = some (.int .i64 (lf + 1)) ∧ Y.cell? ⟨B, 1, none⟩ = some (.int .i64 r)) W1) := C2'
  rw [← hlf] at hl c15 hW1
  rw [← hr]
  have ew : IntKind.i64.wrap (lf + 1) = lf + 1 := i64_in (by omega) (by omega)
  have HM := hide hm
  have HLF := hide hlf
  clear h k0 c0 b0 k1 t1 nBT c1 C2' hlf hr hl hm
  go_enter Try.func36, Try.ntmps36
  go_upto_region 1 with fail
  rw [← hW0, ← hB]
  have HB := hide hB
  clear hW0 hB
  go_upto_region 2 with fail
  (try rw [← hW1])
  clear hW1 c15 f15 ew
  by_cases q : lf + 1 = r
  case neg =>
    have q1 : (lf + 1 == r) = false := by simpa using q
    rw [if_neg q] at LT
    refine wp_region_held_drew (S := fun Y => Y.cell? ⟨T, 15, none⟩ = some (.int .i64 (lf + 1)) ∧ Y.cell? ⟨B, 1, none⟩ = some (.int .i64 r)) (by kernel_rfl) C2.out (fun hHeld => ?_)
    refine wpAnyH_take (i := 0) (v := (.pointer (some ⟨T, 0, none⟩))) rfl (by kernel_rfl) (by kernel_rfl) (by kernel_rfl) (fun _ _ _ h => h) (Or.inl ⟨by kernel_rfl, ?_⟩) (by assumption) ?_
    · intro w' hSw
      (try dsimp only at hSw)
      go_simp
    (try simp only [Act.put, List.getElem_toArray, List.getElem_cons_zero, List.getElem_cons_succ, List.setIfInBounds_toArray, List.set_cons_zero, List.set_cons_succ])
    refine wpAnyH_take (i := 1) (v := (.pointer (some ⟨T, 0, none⟩))) rfl (by kernel_rfl) (by kernel_rfl) (by kernel_rfl) (fun _ _ _ h => h) (Or.inl ⟨by kernel_rfl, ?_⟩) (by assumption) ?_
    · intro w' hSw
      (try dsimp only at hSw)
      go_simp
    (try simp only [Act.put, List.getElem_toArray, List.getElem_cons_zero, List.getElem_cons_succ, List.setIfInBounds_toArray, List.set_cons_zero, List.set_cons_succ])
    refine wpAnyH_take (i := 2) (v := (.pointer (some ⟨T, 15, none⟩))) rfl (by kernel_rfl) (by kernel_rfl) (by kernel_rfl) (fun _ _ _ h => h) (Or.inl ⟨by kernel_rfl, ?_⟩) (by assumption) ?_
    · intro w' hSw
      (try dsimp only at hSw)
      go_simp
    (try simp only [Act.put, List.getElem_toArray, List.getElem_cons_zero, List.getElem_cons_succ, List.setIfInBounds_toArray, List.set_cons_zero, List.set_cons_succ])
    refine wpAnyH_take (i := 3) (v := (.int .i64 (lf + 1))) rfl (by kernel_rfl) (by kernel_rfl) (by kernel_rfl) (fun _ _ _ h => h) (Or.inl ⟨by kernel_rfl, ?_⟩) (by assumption) ?_
    · intro w' hSw
      (try dsimp only at hSw)
      (have z := hSw.1; go_simp)
    (try simp only [Act.put, List.getElem_toArray, List.getElem_cons_zero, List.getElem_cons_succ, List.setIfInBounds_toArray, List.set_cons_zero, List.set_cons_succ])
    refine wpAnyH_take (i := 4) (v := (.pointer (some ⟨B, 1, none⟩))) rfl (by kernel_rfl) (by kernel_rfl) (by kernel_rfl) (fun _ _ _ h => h) (Or.inl ⟨by kernel_rfl, ?_⟩) (by assumption) ?_
    · intro w' hSw
      (try dsimp only at hSw)
      go_simp
    (try simp only [Act.put, List.getElem_toArray, List.getElem_cons_zero, List.getElem_cons_succ, List.setIfInBounds_toArray, List.set_cons_zero, List.set_cons_succ])
    refine wpAnyH_take (i := 5) (v := (.int .i64 r)) rfl (by kernel_rfl) (by kernel_rfl) (by kernel_rfl) (fun _ _ _ h => h) (Or.inl ⟨by kernel_rfl, ?_⟩) (by assumption) ?_
    · intro w' hSw
      (try dsimp only at hSw)
      (have z := hSw.2; go_simp)
    (try simp only [Act.put, List.getElem_toArray, List.getElem_cons_zero, List.getElem_cons_succ, List.setIfInBounds_toArray, List.set_cons_zero, List.set_cons_succ])
    refine wpAnyH_ready (rs := [6]) (by kernel_rfl) (by simp) ?_
    refine AllReadyH.cons rfl (fun K hK => ?_) AllReadyH.nil
    go_simp
    refine hK.out _ _ (C2.out) (fun hHeld => ?_)
    clear hK
    (try simp only [Act.put, List.setIfInBounds_toArray, List.set_cons_zero, List.set_cons_succ])
    refine wpAnyH_done (by kernel_rfl) ?_ _
    clear hHeld C2
    go_wp2_with fail
    go_end0
    refine ⟨rfl, mv, ?_, KW.out.drew.mono (fun _ e => Or.inl e), fun _ e => Or.inl e⟩
    rw [LT.out, HLF.out]
    exact B1.out.same ((Kp.refl W1 non).drew)
  case pos =>
    have q1 : (lf + 1 == r) = true := by simpa using q
    have LT2 : Hid (leavesT t r p = { t with lf := 0, ms := t.ms ++ [p] }) := by rw [LT.out, if_pos q]; rfl
    clear q
    refine wp_region_held_drew (S := fun Y => Y.cell? ⟨T, 15, none⟩ = some (.int .i64 (lf + 1)) ∧ Y.cell? ⟨B, 1, none⟩ = some (.int .i64 r)) (by kernel_rfl) C2.out (fun hHeld => ?_)
    refine wpAnyH_take (i := 0) (v := (.pointer (some ⟨T, 0, none⟩))) rfl (by kernel_rfl) (by kernel_rfl) (by kernel_rfl) (fun _ _ _ h => h) (Or.inl ⟨by kernel_rfl, ?_⟩) (by assumption) ?_
    · intro w' hSw
      (try dsimp only at hSw)
      go_simp
    (try simp only [Act.put, List.getElem_toArray, List.getElem_cons_zero, List.getElem_cons_succ, List.setIfInBounds_toArray, List.set_cons_zero, List.set_cons_succ])
    refine wpAnyH_take (i := 1) (v := (.pointer (some ⟨T, 0, none⟩))) rfl (by kernel_rfl) (by kernel_rfl) (by kernel_rfl) (fun _ _ _ h => h) (Or.inl ⟨by kernel_rfl, ?_⟩) (by assumption) ?_
    · intro w' hSw
      (try dsimp only at hSw)
      go_simp
    (try simp only [Act.put, List.getElem_toArray, List.getElem_cons_zero, List.getElem_cons_succ, List.setIfInBounds_toArray, List.set_cons_zero, List.set_cons_succ])
    refine wpAnyH_take (i := 2) (v := (.pointer (some ⟨T, 15, none⟩))) rfl (by kernel_rfl) (by kernel_rfl) (by kernel_rfl) (fun _ _ _ h => h) (Or.inl ⟨by kernel_rfl, ?_⟩) (by assumption) ?_
    · intro w' hSw
      (try dsimp only at hSw)
      go_simp
    (try simp only [Act.put, List.getElem_toArray, List.getElem_cons_zero, List.getElem_cons_succ, List.setIfInBounds_toArray, List.set_cons_zero, List.set_cons_succ])
    refine wpAnyH_take (i := 3) (v := (.int .i64 (lf + 1))) rfl (by kernel_rfl) (by kernel_rfl) (by kernel_rfl) (fun _ _ _ h => h) (Or.inl ⟨by kernel_rfl, ?_⟩) (by assumption) ?_
    · intro w' hSw
      (try dsimp only at hSw)
      (have z := hSw.1; go_simp)
    (try simp only [Act.put, List.getElem_toArray, List.getElem_cons_zero, List.getElem_cons_succ, List.setIfInBounds_toArray, List.set_cons_zero, List.set_cons_succ])
    refine wpAnyH_take (i := 4) (v := (.pointer (some ⟨B, 1, none⟩))) rfl (by kernel_rfl) (by kernel_rfl) (by kernel_rfl) (fun _ _ _ h => h) (Or.inl ⟨by kernel_rfl, ?_⟩) (by assumption) ?_
    · intro w' hSw
      (try dsimp only at hSw)
      go_simp
    (try simp only [Act.put, List.getElem_toArray, List.getElem_cons_zero, List.getElem_cons_succ, List.setIfInBounds_toArray, List.set_cons_zero, List.set_cons_succ])
    refine wpAnyH_take (i := 5) (v := (.int .i64 r)) rfl (by kernel_rfl) (by kernel_rfl) (by kernel_rfl) (fun _ _ _ h => h) (Or.inl ⟨by kernel_rfl, ?_⟩) (by assumption) ?_
    · intro w' hSw
      (try dsimp only at hSw)
      (have z := hSw.2; go_simp)
    (try simp only [Act.put, List.getElem_toArray, List.getElem_cons_zero, List.getElem_cons_succ, List.setIfInBounds_toArray, List.set_cons_zero, List.set_cons_succ])
    refine wpAnyH_ready (rs := [6]) (by kernel_rfl) (by simp) ?_
    refine AllReadyH.cons rfl (fun K hK => ?_) AllReadyH.nil
    go_simp
    refine hK.out _ _ (C2.out) (fun hHeld => ?_)
    clear hK
    (try simp only [Act.put, List.setIfInBounds_toArray, List.set_cons_zero, List.set_cons_succ])
    refine wpAnyH_done (by kernel_rfl) ?_ _
    clear hHeld C2
    obtain ⟨ma, mc, hmv⟩ := own_sl B1.out.tk.mv
    subst hmv
    obtain ⟨mn, hmn⟩ : ∃ mn, mn = t.ms.length := ⟨_, rfl⟩
    have B1' : Bo W1.drew T X v Z { t with lf := lf + 1 } ov (.slice ma t.ms.length mc) := by rw [HLF.out]; exact B1.out.same ((Kp.refl W1 non).drew)
    obtain ⟨W2, hW2⟩ : ∃ W2, W2 = (W1.alloc (.cells #[.int .i64 p] 3)).drew := ⟨_, rfl⟩
    have k2 : Kp W1.drew W2 non := by rw [hW2]; exact (Kp.refl W1.drew non).alloc (.cells #[.int .i64 p] 3)
    have N2 : Hid (W2.ownsRow W1.heap.size 3 1 (.slice (some ⟨W1.heap.size, 0, none⟩) 1 1) 1 (ints [p])) := by rw [hW2]; exact own_one W1 3 1 #[.int .i64 p] rfl
    have B2 := hide (B1'.same k2)
    have M2 : Hid (W2.ownsRow 0 3 1 (.slice ma mn mc) mn (ints t.ms)) := by rw [hmn]; exact B2.out.tk.mv
    have HMN : Hid (mn ≤ 1000) := by rw [hmn]; exact HM.out
    have c16 : W1.cell? ⟨T, 16, none⟩ = some (.slice ma mn mc) := by
      have z : W1.drew.cell? ⟨T, 16, none⟩ = some (.slice ma t.ms.length mc) := by rw [cell_row B1'.tk.blk]; rfl
      rw [hmn]
      exact z
    have FIN : Hid (∀ (na : Option Addr) (nc : Nat) (w' : World), w'.ownsRow 0 3 1 (.slice na (mn + 1) nc) (mn + 1) (ints (t.ms ++ [p])) → W2.grownBy w' (Value.slice ma mn mc).ownBlock → ((Value.slice na (mn + 1) nc).ownBlock = (Value.slice ma mn mc).ownBlock ∨ (Value.slice na (mn + 1) nc).ownBlock = some W2.heap.size) → w'.frozen? ⟨T, 16, none⟩ = false ∧ w'.cell? ⟨T, 16, none⟩ = some (.slice ma mn mc) ∧ w'.frozen? ⟨T, 15, none⟩ = false ∧ w'.cell? ⟨T, 15, none⟩ = some (.int .i64 (lf + 1)) ∧ LvT w ((w'.setCell ⟨T, 16, none⟩ (.slice na (mn + 1) nc)).setCell ⟨T, 15, none⟩ (.int .i64 0)) T X v Z { t with lf := 0, ms := t.ms ++ [p] } ov (.slice ma t.ms.length mc)) := fun na nc w' o3 g3 n3 => by
      rw [hmn] at o3 g3 n3 ⊢
      have kg := Kp.of_grown g3
      have bo := B2.out
      have b3 : w'.heap[T]? = some (.cells (tkA X { t with lf := lf + 1 } ov (.slice ma t.ms.length mc)) 57) := (kg.block _ (blk_lt bo.tk.blk) (fun e => bo.tk.nM T e.symm rfl)).trans bo.tk.blk
      have b4 : (w'.setCell ⟨T, 16, none⟩ (.slice na (t.ms.length + 1) nc)).heap[T]? = some (.cells (tkA X { t with lf := lf + 1, ms := t.ms ++ [p] } ov (.slice na (t.ms.length + 1) nc)) 57) := set_row b3 16 _
      have b5 : ((w'.setCell ⟨T, 16, none⟩ (.slice na (t.ms.length + 1) nc)).setCell ⟨T, 15, none⟩ (.int .i64 0)).heap[T]? = some (.cells (tkA X { t with lf := 0, ms := t.ms ++ [p] } ov (.slice na (t.ms.length + 1) nc)) 57) := set_row b4 15 _
      have ks : Kp w' ((w'.setCell ⟨T, 16, none⟩ (.slice na (t.ms.length + 1) nc)).setCell ⟨T, 15, none⟩ (.int .i64 0)) (fun q => q = T) := ((Kp.refl w' (fun q => q = T)).set (Or.inl rfl) _ _).set (Or.inl rfl) _ _
      have e3 := bo.ex.kp kg (fun k e q => bo.ap k q.symm e)
      refine ⟨fz_row b3 16, by rw [cell_row b3]; rfl, fz_row b3 15, by rw [cell_row b3]; rfl, .slice na (t.ms.length + 1) nc, ⟨e3.kp ks (fun k e q => bo.nT (q ▸ e)), ⟨b5, own_kp (own_kp bo.tk.ov kg (fun k e q => ?_)) ks (fun k e q => bo.tk.nO k e q), ?_⟩, fun k e z => ?_⟩, ?_, fun k e => ?_⟩
      · obtain ⟨c1, h1⟩ := own_typ bo.tk.ov e
        obtain ⟨c2, h2⟩ := own_typ bo.tk.mv q.symm
        rw [h1] at h2
        simp at h2
      · show World.ownsRow _ 0 3 1 _ (t.ms ++ [p]).length (ints (t.ms ++ [p]))
        rw [List.length_append]
        exact own_kp o3 ks (fun k e q => by
          obtain ⟨c1, h1⟩ := own_typ o3 e
          rw [q, b3] at h1
          simp at h1)
      · rcases new_not n3 e with q | q
        · exact bo.ap k q z
        · have := bo.ex.lt z
          omega
      · have k3 : Kp W2 _ (fun q => q = T ∨ (Value.slice ma t.ms.length mc).ownBlock = some q) := (kg.mono (T := fun q => q = T ∨ (Value.slice ma t.ms.length mc).ownBlock = some q) (fun _ e => Or.inr e.symm)).trans ks (fun _ e => Or.inl (Or.inl e))
        exact ((KW.out.mono (T := fun q => q = T ∨ (Value.slice ma t.ms.length mc).ownBlock = some q) (fun _ e => Or.inl e)).trans (((Kp.refl W1 non).drew).trans k2 (fun _ f => f.elim)) (fun _ f => f.elim)).trans k3 (fun _ e => Or.inl e)
      · rcases new_not n3 e with q | q
        · exact Or.inl q
        · have := KW.out.size
          have := k2.size
          exact Or.inr (by rw [q]; exact Nat.le_trans KW.out.size k2.size)
    clear B1' LT hmn
    go_upto_region 4 with (at_builtin; go_loud (rw [← hW2]); go_loud (refine wpList_apI3 rfl (.tmp 24) (.tmp 26) rfl 0 _ mn t.ms rfl M2.out _ _ 1 [p] rfl N2.out (by have := HMN.out; omega) (Nat.zero_le _) ?_); intro v' w' o3 g3 n3; obtain ⟨na, nc, rfl⟩ := own_sl o3; obtain ⟨f16, c16', f15, c15, L4⟩ := FIN.out _ _ w' o3 g3 n3; have L4 := hide L4; clear o3 g3 n3 FIN)
    go_wp2_with fail
    go_end0
    rw [LT2.out]
    exact ⟨rfl, L4.out⟩
end Go.Proofs.Ytbmhllcbkeblfaa.Cn
namespace Go.Proofs.Ytbmhllcbkeblfaa.Cn
open Go.RowKit
/-- pairs that are handed in -/
def PrAt (N : Nat) (w : World) (u : Value) (L : List Pr) : Prop := ∃ (pa : Option Addr) (pb po pc : Nat), u = .slice pa L.length pc ∧ RwAt 2 prV N w pa pb po L
theorem PrAt.below {N : Nat} {w w' : World} {u : Value} {L : List Pr} (h : PrAt N w u L) (hb : Below N w w') : PrAt N w' u L := by
  obtain ⟨pa, pb, po, pc, e, r⟩ := h
  exact ⟨pa, pb, po, pc, e, r.below hb⟩
theorem PrAt.nil (N : Nat) (w : World) : PrAt N w (.slice none 0 0) [] := ⟨none, 0, 0, 0, rfl, fun h => absurd h (by simp), fun h => absurd h (by simp), fun q h => absurd h (by simp), Nat.zero_le _⟩
/-- a table that is handed in -/
structure TbAt (N : Nat) (w : World) (ao : Option Addr) (b o : Nat) (pv : Nat → Value) (tb : List (List Pr)) : Prop where
  at0 : 0 < tb.length → ao = some ⟨b, o, none⟩
  lt : 0 < tb.length → b < N
  c : ∀ (q : Nat), q < tb.length → w.cell? ⟨b, o + q, none⟩ = some (pv q)
  ps : ∀ (q : Nat) (h : q < tb.length), PrAt N w (pv q) tb[q]
  len : tb.length ≤ 9223372036854775807
theorem TbAt.below {N : Nat} {w w' : World} {ao : Option Addr} {b o : Nat} {pv : Nat → Value} {tb : List (List Pr)} (h : TbAt N w ao b o pv tb) (hb : Below N w w') : TbAt N w' ao b o pv tb :=
  ⟨h.at0, h.lt, fun q hq => (hb.cell (h.lt (by omega))).trans (h.c q hq), fun q hq => (h.ps q hq).below hb, h.len⟩
set_option maxHeartbeats 16000000 in
set_option maxRecDepth 100000 in
set_option linter.unusedSimpArgs false in
set_option linter.unusedVariables false in
theorem of_t {N : Nat} {w : World} {ao : Option Addr} {b o cap : Nat} {pv : Nat → Value} {tb : List (List Pr)} (h : TbAt N w ao b o pv tb) (p : Nat) (hp : p ≤ 1000000) :
    Calls Try.prog 38 #[.slice ao tb.length cap, .int .i64 (p : Int)] w fun e w' => ∃ u, e = .returned u ∧ PrAt N w u (ofT tb p) ∧ w = w' := by
  have hlen := h.len
  obtain ⟨n, hn⟩ : ∃ n, n = tb.length := ⟨_, rfl⟩
  have p0 : ¬ (p : Int) < 0 := by omega
  by_cases q : p < tb.length
  · obtain ⟨pa, pb, po, pc, e, r⟩ := h.ps p q
    have ha := h.at0 (by omega)
    subst ha
    have c0 := h.c p q
    rw [e] at c0
    have hrl := r.len
    have OF : Hid (ofT tb p = if tb[p].length ≤ 512 then tb[p] else []) := by
      show _ = _
      unfold ofT
      rw [List.getElem?_eq_getElem q]
      rfl
    have RR := hide (show PrAt N w (.slice pa tb[p].length pc) tb[p] from ⟨pa, pb, po, pc, rfl, r⟩)
    obtain ⟨ln, hln⟩ : ∃ ln, ln = tb[p].length := ⟨_, rfl⟩
    rw [← hln] at c0 RR hrl
    rw [← hn] at q hlen ⊢
    have qi : ¬ (n : Int) ≤ (p : Int) := by omega
    have qi2 : (p : Int) < (n : Int) := by omega
    by_cases hs : ln ≤ 512
    · have hs1 : ¬ (512 : Int) < (ln : Int) := by omega
      have hs2 : ¬ 512 < ln := by omega
      have OF2 : Hid (ofT tb p = tb[p]) := by rw [OF.out, if_pos (by rw [← hln]; exact hs)]; rfl
      clear h e r hln OF hn hs
      go_enter Try.func38, Try.ntmps38
      go_wp2_with fail
      go_ret
      exact ⟨_, rfl, by rw [OF2.out]; exact RR.out, rfl⟩
    · have hs1 : (512 : Int) < (ln : Int) := by omega
      have hs2 : 512 < ln := by omega
      have OF2 : Hid (ofT tb p = []) := by rw [OF.out, if_neg (by rw [← hln]; exact hs)]; rfl
      clear h e r hln OF hn hs
      go_enter Try.func38, Try.ntmps38
      go_wp2_with fail
      go_ret
      exact ⟨_, rfl, by rw [OF2.out]; exact PrAt.nil _ _, rfl⟩
  · have OF2 : Hid (ofT tb p = []) := by
      show _ = _
      unfold ofT
      rw [List.getElem?_eq_none (by omega)]
      rfl
    rw [← hn] at q hlen ⊢
    have qi : (n : Int) ≤ (p : Int) := by omega
    have qi2 : n ≤ p := by omega
    clear h hn
    go_enter Try.func38, Try.ntmps38
    go_wp2_with fail
    go_ret
    exact ⟨_, rfl, by rw [OF2.out]; exact PrAt.nil _ _, rfl⟩
end Go.Proofs.Ytbmhllcbkeblfaa.Cn
namespace Go.Proofs.Ytbmhllcbkeblfaa.Cn
open Go.RowKit
/-- the answer ahead of what it tells -/
def baseM (q : Mg) : Mg := ⟨16, q.td, q.fr, q.id, 0, q.sq, q.ver, q.prev, 0, ⟨#[]⟩, ⟨#[]⟩⟩
set_option maxHeartbeats 16000000 in
set_option maxRecDepth 100000 in
set_option linter.unusedSimpArgs false in
set_option linter.unusedVariables false in
theorem right_t {N : Nat} {w : World} {ao : Option Addr} {b o cap : Nat} {pv : Nat → Value} {tb : List (List Pr)} (h : TbAt N w ao b o pv tb) (hN : N ≤ w.heap.size) (q : Mg) (hs : 0 ≤ q.sq ∧ q.sq ≤ 1000000) (hv : 0 ≤ q.prev ∧ q.prev ≤ 1000000) :
    Calls Try.prog 35 #[.slice ao tb.length cap, .agg (mgV q)] w fun e w' => e = .returned (.agg (mgV (rightM tb q))) ∧ Kp w w' non := by
  obtain ⟨B, hB⟩ : ∃ B, B = w.heap.size := ⟨_, rfl⟩
  obtain ⟨W0, hW0⟩ : ∃ W0, W0 = w.alloc (.cells (mgV q) 36) := ⟨_, rfl⟩
  obtain ⟨W1, hW1⟩ : ∃ W1, W1 = W0.alloc (.cells (mgV mg0) 36) := ⟨_, rfl⟩
  obtain ⟨W2, hW2⟩ : ∃ W2, W2 = W1.alloc (.cells (mgV (baseM q)) 36) := ⟨_, rfl⟩
  have z0 : W0.heap.size = B + 1 := by rw [hW0, hB]; simp
  have z1 : W1.heap.size = B + 2 := by rw [hW1]; simp [z0]
  have k0 : Kp w W0 non := by rw [hW0]; exact (Kp.refl w non).alloc _
  have k1 : Kp W0 W1 non := by rw [hW1]; exact (Kp.refl W0 non).alloc _
  have k2 : Kp W1 W2 non := by rw [hW2]; exact (Kp.refl W1 non).alloc _
  have m0 : MgAt W2 B q := ((by rw [hW0, hB]; exact MgAt.new w q : MgAt W0 B q).keep k1 (fun f => f)).keep k2 (fun f => f)
  have m1 : MgAt W2 (B + 1) mg0 := (by rw [hW1, ← z0]; exact MgAt.new W0 mg0 : MgAt W1 (B + 1) mg0).keep k2 (fun f => f)
  have m2 : MgAt W2 (B + 2) (baseM q) := by rw [hW2, ← z1]; exact MgAt.new W1 (baseM q)
  have mq : MgAt W1 B q := (by rw [hW0, hB]; exact MgAt.new w q : MgAt W0 B q).keep k1 (fun f => f)
  have kk : Kp w W2 non := (k0.trans k1 (fun _ f => f.elim)).trans k2 (fun _ f => f.elim)
  have TB := h.below ((kk.below).mono hN)
  have OFQ := of_t (cap := cap) TB q.sq.toNat (by omega)
  rw [show ((q.sq.toNat : Nat) : Int) = q.sq by omega] at OFQ
  have OFQ := hide OFQ
  have RM : Hid (rightM tb q = match (ofT tb q.sq.toNat)[q.prev.toNat]? with | some p => { baseM q with key := p.k, val := p.v } | none => { baseM q with code := 16 }) := by
    show _ = _
    unfold rightM
    cases (ofT tb q.sq.toNat)[q.prev.toNat]? <;> rfl
  obtain ⟨-, y1, y2, y3, -, y5, y6, y7, -, -, -⟩ := mq.cells
  obtain ⟨-, -, -, -, -, v5, -, v7, -, -, -⟩ := m0.cells
  have M1 := hide m1
  have M2 := hide m2
  have KK := hide kk
  have HB := hide hB
  have HS : Hid ((W1.alloc (.cells #[.int .i64 0, .int .i64 0, .int .i64 0, .int .i64 0, .int .i64 0, .int .i64 0, .int .i64 0, .int .i64 0, .int .i64 0, .string ⟨#[]⟩, .string ⟨#[]⟩] 36)).setRow (B + 2) (mgV (baseM q)) = W2) := by
    rw [hW2, ← z1]
    exact World.setRow_alloc_new _ _ _ _
  have HL : Hid ((W1.alloc (.cells #[.int .i64 0, .int .i64 0, .int .i64 0, .int .i64 0, .int .i64 0, .int .i64 0, .int .i64 0, .int .i64 0, .int .i64 0, .string ⟨#[]⟩, .string ⟨#[]⟩] 36)).heap[B + 2]? = some (.cells #[.int .i64 0, .int .i64 0, .int .i64 0, .int .i64 0, .int .i64 0, .int .i64 0, .int .i64 0, .int .i64 0, .int .i64 0, .string ⟨#[]⟩, .string ⟨#[]⟩] 36)) := by
    rw [← z1]
    exact heap_last _ _
  have MI := hide mg_info
  have MO := hide (mg_one (baseM q))
  have e1 : W0.alloc (.cells (mgV mg0) 36) = W1 := hW1.symm
  have E1 := hide e1
  have Z0 := hide z0
  have Z1 := hide z1
  have HW0 := hide hW0
  have V57 := hide (And.intro v5 v7)
  have HNN := hide hN
  clear h hN k0 k1 k2 m0 m1 m2 mq kk TB hB hW0 hW1 hW2 z0 z1 e1 v5 v7
  go_enter Try.func35, Try.ntmps35
  go_upto_region 1 with fail
  rw [← HW0.out, show W0.alloc (.cells #[.int .i64 0, .int .i64 0, .int .i64 0, .int .i64 0, .int .i64 0, .int .i64 0, .int .i64 0, .int .i64 0, .int .i64 0, .string ⟨#[]⟩, .string ⟨#[]⟩] 36) = W1 from E1.out, ← HB.out]
  have z1 := Z1.out
  go_upto_region 2 with (first | refine wpList_blR rfl 36 _ rfl (mgV (baseM q)) (by kernel_rfl) ?_ | (refine wpList_stR rfl 36 (.tmp 5) (.tmp 19) rfl (B + 2) rfl (mgV (baseM q)) #[.int .i64 0, .int .i64 0, .int .i64 0, .int .i64 0, .int .i64 0, .int .i64 0, .int .i64 0, .int .i64 0, .int .i64 0, .string ⟨#[]⟩, .string ⟨#[]⟩] rfl _ HL.out MI.out rfl MO.out ?_; rw [HS.out]))
  clear y1 y2 y3 y5 y6 y7 z1
  obtain ⟨v5, v7⟩ := V57.out
  go_wp2_with fail
  refine Calls.mono OFQ.out ?_
  rintro e w' ⟨u, rfl, hp, rfl⟩
  obtain ⟨pa, pb, po, pc, rfl, r⟩ := hp
  obtain ⟨pv', hpv⟩ : ∃ pv' : Nat, q.prev = (pv' : Int) := ⟨q.prev.toNat, by omega⟩
  rw [hpv] at v7
  have hpn : q.prev.toNat = pv' := by omega
  rw [hpn] at RM
  obtain ⟨ln, hln⟩ : ∃ ln, ln = (ofT tb q.sq.toNat).length := ⟨_, rfl⟩
  have hrl := r.len
  rw [← hln] at hrl
  have p0 : ¬ (pv' : Int) < 0 := by omega
  by_cases hlt : pv' < ln
  · have hlt2 : pv' < (ofT tb q.sq.toNat).length := by omega
    have hli : ¬ (ln : Int) ≤ (pv' : Int) := by omega
    have hli2 : (pv' : Int) < (ln : Int) := by omega
    obtain ⟨pr, hpr⟩ : ∃ pr, pr = (ofT tb q.sq.toNat)[pv'] := ⟨_, rfl⟩
    have ha := r.at0 (by omega)
    subst ha
    have ck : W2.cell? ⟨pb, po + pv' * 2, none⟩ = some (.string pr.k) := by rw [hpr]; exact r.c pv' hlt2 0 _ rfl
    have cv : W2.cell? ⟨pb, po + pv' * 2 + 1, none⟩ = some (.string pr.v) := by rw [hpr]; exact r.c pv' hlt2 1 _ rfl
    rw [List.getElem?_eq_getElem hlt2, ← hpr] at RM
    have RM2 : Hid (rightM tb q = { baseM q with key := pr.k, val := pr.v }) := RM.out
    have hpb : pb ≠ B + 2 := fun e => by
      have z := M2.out
      unfold MgAt at z
      have := r.lt (by omega)
      have := HB.out
      have := HNN.out
      omega
    rw [← hln]
    clear r hln hpr RM hlt2
    obtain ⟨-, -, -, -, -, -, -, -, -, k9, k10⟩ := M2.out.cells
    have f9 := fz_row M2.out 9
    have f10 := fz_row M2.out 10
    obtain ⟨W3, hW3⟩ : ∃ W3, W3 = W2.setCell ⟨B + 2, 9, none⟩ (.string pr.k) := ⟨_, rfl⟩
    obtain ⟨W4, hW4⟩ : ∃ W4, W4 = W3.setCell ⟨B + 2, 10, none⟩ (.string pr.v) := ⟨_, rfl⟩
    have m3 : W3.heap[B + 2]? = some (.cells (mgV { baseM q with key := pr.k }) 36) := by rw [hW3]; exact set_row M2.out 9 _
    have m4 : MgAt W4 (B + 2) { baseM q with key := pr.k, val := pr.v } := by rw [hW4]; exact set_row m3 10 _
    have k4 : Kp W2 W4 (fun k => k = B + 2) := by rw [hW4, hW3]; exact ((Kp.refl W2 (fun k => k = B + 2)).set (Or.inl rfl) _ _).set (Or.inl rfl) _ _
    have m14 : MgAt W4 (B + 1) mg0 := M1.out.keep k4 (by omega)
    obtain ⟨W5, hW5⟩ : ∃ W5, W5 = W4.setRow (B + 1) (mgV { baseM q with key := pr.k, val := pr.v }) := ⟨_, rfl⟩
    have m5 : Hid (W5.heap[B + 1]? = some (.cells (mgV { baseM q with key := pr.k, val := pr.v }) 36)) := by rw [hW5]; exact setRow_heap _ _ _ _ _ _ m14
    have K5 : Hid (Kp w W5 non) := by
      rw [hW5]
      exact (KK.out.trans k4 (fun k e => Or.inr (by have := HB.out; omega))).row (Or.inr (by have := HB.out; omega)) _
    have M4 := hide m4
    have M14 := hide m14
    have HW5 := hide hW5
    have ON := hide (mg_one { baseM q with key := pr.k, val := pr.v })
    clear m3 m4 k4 m14 hW5
    go_upto_region 8 with fail
    (try rw [← hW3])
    (try rw [← hW4])
    clear hW3 hW4 ck cv k9 k10 f9 f10
    go_wp2_with (first | refine wpList_ldM rfl (.tmp 5) rfl _ (B + 2) rfl M4.out ?_ | (refine wpList_stR rfl 36 (.tmp 4) (.tmp 50) rfl (B + 1) rfl (mgV { baseM q with key := pr.k, val := pr.v }) (mgV mg0) rfl _ M14.out MI.out rfl ON.out ?_; rw [← HW5.out]))
    refine bodyPost_ret (v := .agg (mgV { baseM q with key := pr.k, val := pr.v })) (res_row1 Try.results35 _ _ W5 (B + 1) rfl _ m5.out Try.underlying36 mg_info) rfl ?_
    rw [RM2.out]
    exact ⟨rfl, K5.out⟩
  · have hlt2 : ¬ pv' < (ofT tb q.sq.toNat).length := by omega
    have hli : (ln : Int) ≤ (pv' : Int) := by omega
    have hli2 : ln ≤ pv' := by omega
    rw [List.getElem?_eq_none (by omega)] at RM
    have RM2 : Hid (rightM tb q = { baseM q with code := 16 }) := RM.out
    rw [← hln]
    obtain ⟨-, -, -, -, -, -, -, -, k8, -, -⟩ := M2.out.cells
    have f8 := fz_row M2.out 8
    obtain ⟨W4, hW4⟩ : ∃ W4, W4 = W2.setCell ⟨B + 2, 8, none⟩ (.int .i64 16) := ⟨_, rfl⟩
    have m4 : MgAt W4 (B + 2) { baseM q with code := 16 } := by rw [hW4]; exact set_row M2.out 8 _
    have k4 : Kp W2 W4 (fun k => k = B + 2) := by rw [hW4]; exact (Kp.refl W2 (fun k => k = B + 2)).set (Or.inl rfl) _ _
    have m14 : MgAt W4 (B + 1) mg0 := M1.out.keep k4 (by omega)
    obtain ⟨W5, hW5⟩ : ∃ W5, W5 = W4.setRow (B + 1) (mgV { baseM q with code := 16 }) := ⟨_, rfl⟩
    have m5 : Hid (W5.heap[B + 1]? = some (.cells (mgV { baseM q with code := 16 }) 36)) := by rw [hW5]; exact setRow_heap _ _ _ _ _ _ m14
    have K5 : Hid (Kp w W5 non) := by
      rw [hW5]
      exact (KK.out.trans k4 (fun k e => Or.inr (by have := HB.out; omega))).row (Or.inr (by have := HB.out; omega)) _
    have M4 := hide m4
    have M14 := hide m14
    have HW5 := hide hW5
    have ON := hide (mg_one { baseM q with code := 16 })
    clear m4 k4 m14 hW5 r hln RM hlt2
    go_upto_region 5 with fail
    (try rw [← hW4])
    clear hW4 k8 f8
    go_wp2_with (first | refine wpList_ldM rfl (.tmp 5) rfl _ (B + 2) rfl M4.out ?_ | (refine wpList_stR rfl 36 (.tmp 4) (.tmp 35) rfl (B + 1) rfl (mgV { baseM q with code := 16 }) (mgV mg0) rfl _ M14.out MI.out rfl ON.out ?_; rw [← HW5.out]))
    refine bodyPost_ret (v := .agg (mgV { baseM q with code := 16 })) (res_row1 Try.results35 _ _ W5 (B + 1) rfl _ m5.out Try.underlying36 mg_info) rfl ?_
    rw [RM2.out]
    exact ⟨rfl, K5.out⟩
end Go.Proofs.Ytbmhllcbkeblfaa.Cn
namespace Go.Proofs.Ytbmhllcbkeblfaa.Cn
open Go.RowKit
/-- how far an export is -/
def stp (R : Nat) (e : Ex) : Nat := e.part * (512 + R) + e.rd.length + e.left
theorem stp_up {R p r l : Nat} (hr : r ≤ 512) (hl : l < R) : p * (512 + R) + r + l + 1 ≤ (p + 1) * (512 + R) + 0 + 0 := by
  rw [Nat.succ_mul]
  omega
structure Inf (R : Nat) (e e' : Ex) (lf : Nat) : Prop where
  pl : (e'.part = e.part ∧ e'.left = lf) ∨ (e'.part ≠ e.part ∧ e'.left = 0)
  st : stp R e + 1 ≤ stp R e'
theorem up_rows (e : Ex) (p : Nat) : (upX e p).rows = e.rows ∧ (upX e p).gw = e.gw := by
  unfold upX
  split <;> exact ⟨rfl, rfl⟩
theorem lv_rows (e : Ex) : (lvX e).rows = e.rows ∧ (lvX e).gw = e.gw := by
  unfold lvX
  split
  · exact ⟨rfl, rfl⟩
  · exact up_rows (missX e) _
theorem hear_rows (e : Ex) (m : Mg) : (hearX e m).rows = e.rows ∧ (hearX e m).gw = e.gw := by
  unfold hearX
  split
  · exact up_rows (doneX e) _
  · split
    · exact ⟨rfl, rfl⟩
    · exact lv_rows e
theorem take_rows (e : Ex) (m : Mg) : (takeX e m).rows = e.rows ∧ (takeX e m).gw = e.gw := by
  unfold takeX
  split
  · exact hear_rows e m
  · exact ⟨rfl, rfl⟩
theorem tick_rows (e : Ex) : (tickX e).rows = e.rows ∧ (tickX e).gw = e.gw := by
  unfold tickX
  split
  · exact lv_rows (nowX e)
  · exact ⟨rfl, rfl⟩
theorem lv_inf {R : Nat} {e : Ex} (hr : (rowAt e e.part).length = R) (hl : e.left < R) (hd : e.rd.length ≤ 512) (hb : busyB (lvX e) = true) : Inf R e (lvX e) (if e.left + 1 = R then 0 else e.left + 1) := by
  unfold lvX at hb ⊢
  rw [hr] at hb ⊢
  by_cases q : e.left + 1 < R
  · rw [if_pos q] at hb ⊢
    rw [if_neg (by omega)]
    exact ⟨Or.inl ⟨rfl, rfl⟩, Nat.le_refl _⟩
  · rw [if_neg q] at hb ⊢
    rw [if_pos (by omega)]
    unfold upX at hb ⊢
    by_cases z : e.part + 1 = (missX e).rows.length
    · rw [if_pos z] at hb
      simp [busyB, endX, rp0] at hb
    · rw [if_neg z]
      refine ⟨Or.inr ⟨?_, rfl⟩, stp_up hd hl⟩
      show e.part + 1 ≠ e.part
      omega
theorem hear_inf {R : Nat} {e : Ex} {m : Mg} (hl : e.left < R) (hd : e.rd.length ≤ 512) (hc : m.code = 16 ∨ (m.code = 0 ∧ e.rd.length < 512)) (hb : busyB (hearX e m) = true) : Inf R e (hearX e m) (if m.code = 16 then 0 else e.left) := by
  unfold hearX at hb ⊢
  by_cases q : m.code = 16
  · rw [if_pos q] at hb ⊢
    rw [if_pos q]
    unfold upX at hb ⊢
    by_cases z : e.part + 1 = (doneX e).rows.length
    · rw [if_pos z] at hb
      simp [busyB, endX, rp0] at hb
    · rw [if_neg z]
      refine ⟨Or.inr ⟨?_, rfl⟩, stp_up hd hl⟩
      show e.part + 1 ≠ e.part
      omega
  · rw [if_neg q, if_pos (hc.resolve_left q), if_neg q]
    refine ⟨Or.inl ⟨rfl, rfl⟩, ?_⟩
    show e.part * (512 + R) + e.rd.length + e.left + 1 ≤ e.part * (512 + R) + (e.rd ++ [_]).length + e.left
    rw [List.length_append]
    show _ ≤ e.part * (512 + R) + (e.rd.length + 1) + e.left
    omega
/-- an export goes on, or has ended -/
inductive Fin (tb : List (List Pr)) (ver : Int) (R n : Nat) (old : List Mg) (ms : List Int) (e e' : Ex) (lf : Nat) (L : List Mg) : Prop
  | on (h : Tj tb ver R n e' old ms) (hL : L = [askM e']) (h0 : e'.at_ = e'.now) (i : Inf R e e' lf)
  | end_ (hb : busyB e' = false) (hL : L = []) (h1 : e'.last.jb = 1) (h2 : e'.last.vr = ver) (h3 : e'.last.ms = ms) (h4 : e'.last.ps = whl tb ms e'.rows.length) (h5 : ms.Pairwise (· < ·) ∧ ∀ q ∈ ms, 0 ≤ q) (ok : Eok e' R n)
theorem Fin.of {tb : List (List Pr)} {ver : Int} {R n : Nat} {old : List Mg} {ms : List Int} {e e' : Ex} {lf : Nat} {L : List Mg} (g : Goes tb ver R n old ms e' L) (i : busyB e' = true → Inf R e e' lf) : Fin tb ver R n old ms e e' lf L := by
  cases g with
  | on h hL h0 => exact .on h hL h0 (i h.b)
  | end_ hb hL h1 h2 h3 h4 h5 ok => exact .end_ hb hL h1 h2 h3 h4 h5 ok
theorem Fin.len {tb : List (List Pr)} {ver : Int} {R n : Nat} {old : List Mg} {ms : List Int} {e e' : Ex} {lf : Nat} {L : List Mg} (h : Fin tb ver R n old ms e e' lf L) : L.length ≤ 1 := by
  cases h with
  | on h hL h0 => rw [hL]; exact Nat.le_refl _
  | end_ hb hL => rw [hL]; exact Nat.zero_le _
theorem Inf.now {R : Nat} {e e0 e' : Ex} {lf : Nat} (h : Inf R e0 e' lf) (h1 : e0.part = e.part) (h2 : stp R e0 = stp R e) : Inf R e e' lf := ⟨by rw [← h1]; exact h.pl, by rw [← h2]; exact h.st⟩
/-- the way of ticks: the owner is left -/
theorem fin_tick {tb : List (List Pr)} {ver : Int} {R n : Nat} {e : Ex} {old : List Mg} {ms : List Int} (h : Tj tb ver R n e old ms) (h0 : e.at_ = e.now) (k : Nat) (hk : (k : Int) + 1 = e.gw) : Fin tb ver R (n + k + 2) old (if e.left + 1 = R then ms ++ [(e.part : Int)] else ms) e (tickX (nowN e k)) (if e.left + 1 = R then 0 else e.left + 1) (tickL (nowN e k)) := by
  refine .of (tick_last h h0 k hk) fun hb => ?_
  have hT := nowN_tj h h0 k (by omega)
  have j := h.ok.job h.b
  have d : dueB (nowX (nowN e k)) = true := by
    unfold dueB
    rw [Bool.and_eq_true]
    refine ⟨h.b, ?_⟩
    rw [beq_iff_eq]
    show e.now + (k : Int) + 1 - e.at_ = e.gw
    omega
  unfold tickX at hb ⊢
  rw [if_pos d] at hb ⊢
  exact (lv_inf (R := R) (e := nowX (nowN e k)) (rowAt_len h.ok j.pt) j.lf j.rl hb).now rfl rfl
theorem fin_err {tb : List (List Pr)} {ver : Int} {R n : Nat} {e : Ex} {old : List Mg} {ms : List Int} (h : Tj tb ver R n e old ms) (m : Mg) (ha : ansOf (askM e) m) (h0 : m.code ≠ 0) (h1 : m.code ≠ 16) : Fin tb ver R (n + 2) old (if e.left + 1 = R then ms ++ [(e.part : Int)] else ms) e (takeX e m) (if e.left + 1 = R then 0 else e.left + 1) (takeL e m) := by
  refine .of (goes_err h m ha h0 h1) fun hb => ?_
  have j := h.ok.job h.b
  unfold takeX at hb ⊢
  rw [if_pos (ans_is h.ok h.b ha)] at hb ⊢
  unfold hearX at hb ⊢
  have n0 : ¬ (m.code = 0 ∧ e.rd.length < 512) := fun q => h0 q.1
  rw [if_neg h1, if_neg n0] at hb ⊢
  exact lv_inf (rowAt_len h.ok j.pt) j.lf j.rl hb
theorem fin_right {tb : List (List Pr)} {ver : Int} {R n : Nat} {e : Ex} {old : List Mg} {ms : List Int} (h : Tj tb ver R n e old ms) : Fin tb ver R (n + 1) (old ++ [rightM tb (askM e)]) ms e (takeX e (rightM tb (askM e))) (if (rightM tb (askM e)).code = 16 then 0 else e.left) (takeL e (rightM tb (askM e))) := by
  obtain ⟨g, _⟩ := goes_right h
  refine .of g fun hb => ?_
  have j := h.ok.job h.b
  have hc : (rightM tb (askM e)).code = 16 ∨ ((rightM tb (askM e)).code = 0 ∧ e.rd.length < 512) := by
    unfold rightM
    have hl := ofT_len tb e.part
    split
    · rename_i p hp
      refine Or.inr ⟨rfl, ?_⟩
      have hp : (ofT tb e.part)[e.rd.length]? = some p := hp
      have := (List.getElem?_eq_some_iff.1 hp).1
      omega
    · exact Or.inl rfl
  unfold takeX at hb ⊢
  rw [if_pos (ans_is h.ok h.b (right_ans tb (askM e)))] at hb ⊢
  exact hear_inf j.lf j.rl hc hb
/-- what a law's act leaves -/
structure Ac (tb : List (List Pr)) (ver : Int) (R n : Nat) (t t' : Tk) (e e' : Ex) : Prop where
  pt : t'.pt = t.pt
  st : t'.st = t.st
  rows : e'.rows = e.rows ∧ e'.gw = e.gw
  len : t'.old.length ≤ t.old.length + 1
  olds : ∀ m ∈ t'.old, m ∈ t.old ∨ m = rightM tb (askM e)
  go : (t'.op = true ∧ t'.q = askM e' ∧ Tj tb ver R n e' t'.old t'.ms ∧ e'.at_ = e'.now ∧ ((e'.part = e.part ∧ t'.lf = (e'.left : Int)) ∨ (e'.part ≠ e.part ∧ e'.left = 0)) ∧ stp R e + 1 ≤ stp R e') ∨ (t'.op = false ∧ busyB e' = false ∧ e'.last.jb = 1 ∧ e'.last.vr = ver ∧ e'.last.ms = t'.ms ∧ e'.last.ps = whl tb t'.ms e'.rows.length ∧ (t'.ms.Pairwise (· < ·) ∧ ∀ q ∈ t'.ms, 0 ≤ q) ∧ Eok e' R n)
theorem Ac.of {tb : List (List Pr)} {ver : Int} {R n n' : Nat} {t t1 : Tk} {e e' : Ex} {lf : Nat} {L : List Mg} (f : Fin tb ver R n t1.old t1.ms e e' lf L) (hn : n ≤ n') (h1 : t1.pt = t.pt) (h2 : t1.st = t.st) (h3 : e'.rows = e.rows ∧ e'.gw = e.gw) (h4 : t1.old.length ≤ t.old.length + 1) (h5 : ∀ m ∈ t1.old, m ∈ t.old ∨ m = rightM tb (askM e)) (h6 : t1.op = false) (h7 : t1.lf = (lf : Int)) : Ac tb ver R n' t (hearT t1 L) e e' := by
  cases f with
  | on h hL h0 i =>
    subst hL
    exact ⟨h1, h2, h3, h4, h5, Or.inl ⟨rfl, rfl, ⟨h.ok.more hn, h.b, h.jb, h.vr, h.msq, h.rd, h.ps, h.mlt, h.ris, h.old⟩, h0, by
      rcases i.pl with ⟨a, b⟩ | ⟨a, b⟩
      · exact Or.inl ⟨a, by rw [b]; exact h7⟩
      · exact Or.inr ⟨a, b⟩, i.st⟩⟩
  | end_ hb hL a1 a2 a3 a4 a5 ok =>
    subst hL
    exact ⟨h1, h2, h3, h4, h5, Or.inr ⟨h6, hb, a1, a2, a3, a4, a5, ok.more hn⟩⟩
theorem leaves_lf {t : Tk} {R l : Nat} {p : Int} {x : Int} (h : t.lf = (l : Int)) (hx : x = (R : Int)) : (leavesT t x p).lf = ((if l + 1 = R then 0 else l + 1 : Nat) : Int) ∧ (leavesT t x p).ms = (if l + 1 = R then t.ms ++ [p] else t.ms) ∧ (leavesT t x p).old = t.old ∧ (leavesT t x p).pt = t.pt ∧ (leavesT t x p).st = t.st ∧ (leavesT t x p).op = t.op := by
  unfold leavesT
  by_cases q : l + 1 = R
  · rw [if_pos (by rw [h, hx]; omega), if_pos q, if_pos q]
    exact ⟨rfl, rfl, rfl, rfl, rfl, rfl⟩
  · rw [if_neg (by rw [h, hx]; omega), if_neg q, if_neg q]
    exact ⟨by show t.lf + 1 = _; rw [h]; rfl, rfl, rfl, rfl, rfl, rfl⟩
theorem nowN_zero (e : Ex) : nowN e 0 = e := by unfold nowN; simp
theorem askM_now (e : Ex) (k : Nat) : askM (nowN e k) = askM e := rfl
end Go.Proofs.Ytbmhllcbkeblfaa.Cn
