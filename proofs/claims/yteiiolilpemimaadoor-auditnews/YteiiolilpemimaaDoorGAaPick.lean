import Derived.Test.YteiiolilpemimaaDoorGAaBusy
import Derived.Shelf.Small.Strs
import Derived.Shelf.LaysM
import Derived.Shelf.Strings.Search1
import Derived.Shelf.Bits.Mul64
import Derived.Test.YteiiolilpemimaaDoorProg
import Derived.Shelf.Strconv.Clone
import Derived.Shelf.Sort.Plain
import Derived.Shelf.Slices.Turned
import Derived.Ground.Names2Prog
import Derived.Shelf.Slices.Clone
import Derived.Shelf.Slices.In.SortNone
namespace Go.Proofs.YteiiolilpemimaaDoor.Cn
open Go.RowKit
/-- the nodes among the first n of which something holds, rising -/
def pickL (f : Ho → Bool) (L : List Ho) : Nat → List Int
  | 0 => []
  | i + 1 => if ((L[i]?).map f).getD false = true then pickL f L i ++ [(i : Int)] else pickL f L i
theorem pickL_succ (f : Ho → Bool) (L : List Ho) (i : Nat) (h : i < L.length) : pickL f L (i + 1) = if f L[i] = true then pickL f L i ++ [(i : Int)] else pickL f L i := by
  show (if ((L[i]?).map f).getD false = true then pickL f L i ++ [(i : Int)] else pickL f L i) = _
  rw [List.getElem?_eq_getElem h]
  rfl
theorem pickL_len (f : Ho → Bool) (L : List Ho) (i : Nat) : (pickL f L i).length ≤ i := by
  induction i with
  | zero => simp [pickL]
  | succ i ih =>
    unfold pickL
    split
    · simp; omega
    · omega
def isDueH (v : Au) (h : Ho) : Bool := h.stt == 1 && decide (v.rs ≤ v.now - h.ti)
set_option maxHeartbeats 8000000 in
set_option maxRecDepth 100000 in
set_option linter.unusedSimpArgs false in
set_option linter.unusedVariables false in
theorem silent_a {w : World} {A H hc M : Nat} {v : Au} (h : AuAt w A H hc M v) (hl : v.hs.length ≤ 1000) :
    Calls Tryd.prog 66 #[.pointer (some ⟨A, 0, none⟩)] w fun e w' => ∃ u, e = .returned u ∧ w'.ownsRow w.heap.size 3 1 u (pickL (fun h => h.stt == 2) v.hs v.hs.length).length (ints (pickL (fun h => h.stt == 2) v.hs v.hs.length)) ∧ Kp w w' non := by
  have HA := hide h
  obtain ⟨n, hn⟩ : ∃ n, n = v.hs.length := ⟨_, rfl⟩
  have HN := hide hn
  obtain ⟨-, -, -, c3, -⟩ := h.cells
  rw [← hn] at c3 hl ⊢
  clear hn h
  go_enter Tryd.func66, Tryd.ntmps66
  go_wp2_with fail
  clear c3
  go_loopw [3, 11] (fun vl vi wr => ∃ (i : Nat), i ≤ n ∧ vi = .int .i64 (i : Int) ∧ Hid (wr.ownsRow w.heap.size 3 1 vl (pickL (fun h => h.stt == 2) v.hs i).length (ints (pickL (fun h => h.stt == 2) v.hs i))) ∧ Hid (Kp w wr non)) (fun _ vi _ => n - (intOf vi).toNat)
  case atStart => exact ⟨0, Nat.zero_le _, rfl, World.ownsRow_nil _ _ _ _, Kp.refl _ _⟩
  case round =>
    obtain ⟨i, hi, rfl, HO, HB⟩ := hrel
    by_cases hin : i < n
    case neg =>
      obtain rfl : i = n := by omega
      go_wp2_with fail
      go_ret
      exact ⟨_, rfl, HO.out, HB.out⟩
    case pos =>
      have hii : (i : Int) < (n : Int) := by omega
      have hiL : i < v.hs.length := by rw [← HN.out]; exact hin
      have aw := HA.out.kp0 HB.out
      have RG := hide (aw.range i hiL)
      obtain ⟨k, hk⟩ : ∃ k, k = v.hs[i] := ⟨_, rfl⟩
      have PL := hide (pickL_succ (fun h => h.stt == 2) v.hs i hiL)
      have hm := pickL_len (fun h => h.stt == 2) v.hs i
      rw [← hk] at RG PL
      obtain ⟨W1, hW1⟩ : ∃ W1, W1 = wr.alloc (.cells (hoV k) 76) := ⟨_, rfl⟩
      have k1 : Hid (Kp w W1 non) := by rw [hW1]; exact HB.out.alloc _
      have o1 : Hid (W1.ownsRow w.heap.size 3 1 u3 (pickL (fun h => h.stt == 2) v.hs i).length (ints (pickL (fun h => h.stt == 2) v.hs i))) := by rw [hW1]; exact own_kp HO.out ((Kp.refl wr non).alloc _) (fun _ _ f => f)
      have m1 : W1.heap[wr.heap.size]? = some (.cells (hoV k) 76) := by rw [hW1]; exact heap_last wr _
      obtain ⟨x0, x1, x2, x3, x4⟩ : W1.cell? ⟨wr.heap.size, 0, none⟩ = some k.sv ∧ W1.cell? ⟨wr.heap.size, 1, none⟩ = some (.int .i64 k.stt) ∧ W1.cell? ⟨wr.heap.size, 2, none⟩ = some (.int .i64 (k.pl : Int)) ∧ W1.cell? ⟨wr.heap.size, 3, none⟩ = some (.int .i64 k.tm) ∧ W1.cell? ⟨wr.heap.size, 4, none⟩ = some (.int .i64 k.ti) := by
        simp only [cell_row m1]
        exact ⟨rfl, rfl, rfl, rfl, rfl⟩
      have SZ : Hid (w.heap.size ≤ W1.heap.size) := k1.out.size
      have ONE : Hid ((hoV k).all (·.oneCell') = true) := by
        obtain ⟨ba, cap, e⟩ := own_sl (aw.sl _ (List.getElem_mem hiL))
        rw [← hk] at e
        unfold Hid
        simp [hoV, e, Value.oneCell']
      clear hk aw m1
      go_upto_region 5 with (first
        | refine wpList_load_mid rfl 76 (.tmp 14) rfl H (i * 5) rfl (hoV k).toList _ RG.out Tryd.underlying76 rfl ho_info ?_
        | refine wpList_stR rfl 76 (.tmp 5) (.tmp 15) rfl wr.heap.size rfl (hoV k) _ rfl _ (heap_last wr _) ho_info rfl ONE.out ?_)
      rw [World.setRow_alloc_new, ← hW1]
      clear hW1 RG HO
      generalize wr.heap.size = B at *
      have OX := o1
      have KX := k1
      clear o1 k1 SZ
      cases hs : (k.stt == 2)
      case false =>
        go_wp2_with fail
        refine ⟨⟨i + 1, by omega, rfl, ?_, ?_⟩, by simp [intOf]; omega⟩
        · rw [PL.out, if_neg (by rw [hs]; decide)]
          exact OX.out
        · exact KX.out
      case true =>
        have G1 : Hid ((W1.alloc (.cells #[.int .i64 (i : Int)] 3)).heap[W1.heap.size]? = some (.cells #[.int .i64 (i : Int)] 3)) := heap_last _ _
        have O1 : Hid ((W1.alloc (.cells #[.int .i64 (i : Int)] 3)).ownsRow w.heap.size 3 1 u3 (pickL (fun h => h.stt == 2) v.hs i).length (ints (pickL (fun h => h.stt == 2) v.hs i))) := own_kp OX.out ((Kp.refl W1 non).alloc _) (fun _ _ f => f)
        have SZ2 : Hid (w.heap.size ≤ W1.heap.size) := KX.out.size
        go_wp2_with (at_builtin; refine wpList_apI rfl (.tmp 19) (.tmp 21) rfl w.heap.size _ (pickL (fun h => h.stt == 2) v.hs i) rfl O1.out W1.heap.size (i : Int) rfl G1.out (by omega) (by have := SZ2.out; rw [World.size_alloc]; omega) ?_; intro v' w' o2 g2)
        refine ⟨⟨i + 1, by omega, rfl, ?_, ?_⟩, by simp [intOf]; omega⟩
        · rw [PL.out, if_pos hs, List.length_append]
          exact o2
        · refine (KX.out.alloc _).trans (Kp.of_grown g2) (fun k hk => ?_)
          have := own_ge O1.out hk.symm
          exact Or.inr this
set_option maxHeartbeats 8000000 in
set_option maxRecDepth 100000 in
set_option linter.unusedSimpArgs false in
set_option linter.unusedVariables false in
theorem due_a {w : World} {A H hc M : Nat} {v : Au} (h : AuAt w A H hc M v) (hl : v.hs.length ≤ 1000) (hti : ∀ h ∈ v.hs, 0 ≤ h.ti ∧ h.ti ≤ v.now) (hnow : v.now ≤ 1000000000000000000) :
    Calls Tryd.prog 40 #[.pointer (some ⟨A, 0, none⟩)] w fun e w' => ∃ u, e = .returned u ∧ w'.ownsRow w.heap.size 3 1 u (pickL (isDueH v) v.hs v.hs.length).length (ints (pickL (isDueH v) v.hs v.hs.length)) ∧ Kp w w' non := by
  have HA := hide h
  obtain ⟨n, hn⟩ : ∃ n, n = v.hs.length := ⟨_, rfl⟩
  have HN := hide hn
  obtain ⟨-, -, -, c3, -⟩ := h.cells
  rw [← hn] at c3 hl ⊢
  clear hn h
  go_enter Tryd.func40, Tryd.ntmps40
  go_wp2_with fail
  clear c3
  go_loopw [3, 11] (fun vl vi wr => ∃ (i : Nat), i ≤ n ∧ vi = .int .i64 (i : Int) ∧ Hid (wr.ownsRow w.heap.size 3 1 vl (pickL (isDueH v) v.hs i).length (ints (pickL (isDueH v) v.hs i))) ∧ Hid (Kp w wr non)) (fun _ vi _ => n - (intOf vi).toNat)
  case atStart => exact ⟨0, Nat.zero_le _, rfl, World.ownsRow_nil _ _ _ _, Kp.refl _ _⟩
  case round =>
    obtain ⟨i, hi, rfl, HO, HB⟩ := hrel
    by_cases hin : i < n
    case neg =>
      obtain rfl : i = n := by omega
      go_wp2_with fail
      go_ret
      exact ⟨_, rfl, HO.out, HB.out⟩
    case pos =>
      have hii : (i : Int) < (n : Int) := by omega
      have hiL : i < v.hs.length := by rw [← HN.out]; exact hin
      have aw := HA.out.kp0 HB.out
      have RG := hide (aw.range i hiL)
      have HT := hide (And.intro (hti _ (List.getElem_mem hiL)) hnow)
      obtain ⟨k, hk⟩ : ∃ k, k = v.hs[i] := ⟨_, rfl⟩
      have PL := hide (pickL_succ (isDueH v) v.hs i hiL)
      have hm := pickL_len (isDueH v) v.hs i
      rw [← hk] at RG PL HT
      obtain ⟨W1, hW1⟩ : ∃ W1, W1 = wr.alloc (.cells (hoV k) 76) := ⟨_, rfl⟩
      have k1 : Hid (Kp w W1 non) := by rw [hW1]; exact HB.out.alloc _
      have o1 : Hid (W1.ownsRow w.heap.size 3 1 u3 (pickL (isDueH v) v.hs i).length (ints (pickL (isDueH v) v.hs i))) := by rw [hW1]; exact own_kp HO.out ((Kp.refl wr non).alloc _) (fun _ _ f => f)
      have m1 : W1.heap[wr.heap.size]? = some (.cells (hoV k) 76) := by rw [hW1]; exact heap_last wr _
      obtain ⟨x0, x1, x2, x3, x4⟩ : W1.cell? ⟨wr.heap.size, 0, none⟩ = some k.sv ∧ W1.cell? ⟨wr.heap.size, 1, none⟩ = some (.int .i64 k.stt) ∧ W1.cell? ⟨wr.heap.size, 2, none⟩ = some (.int .i64 (k.pl : Int)) ∧ W1.cell? ⟨wr.heap.size, 3, none⟩ = some (.int .i64 k.tm) ∧ W1.cell? ⟨wr.heap.size, 4, none⟩ = some (.int .i64 k.ti) := by
        simp only [cell_row m1]
        exact ⟨rfl, rfl, rfl, rfl, rfl⟩
      have SZ : Hid (w.heap.size ≤ W1.heap.size) := k1.out.size
      have ONE : Hid ((hoV k).all (·.oneCell') = true) := by
        obtain ⟨ba, cap, e⟩ := own_sl (aw.sl _ (List.getElem_mem hiL))
        rw [← hk] at e
        unfold Hid
        simp [hoV, e, Value.oneCell']
      clear hk aw m1
      go_upto_region 5 with (first
        | refine wpList_load_mid rfl 76 (.tmp 14) rfl H (i * 5) rfl (hoV k).toList _ RG.out Tryd.underlying76 rfl ho_info ?_
        | refine wpList_stR rfl 76 (.tmp 5) (.tmp 15) rfl wr.heap.size rfl (hoV k) _ rfl _ (heap_last wr _) ho_info rfl ONE.out ?_)
      rw [World.setRow_alloc_new, ← hW1]
      clear hW1 RG HO
      generalize wr.heap.size = B at *
      have DU : Hid (isDueH v k = (k.stt == 1 && decide (v.rs ≤ v.now - k.ti))) := rfl
      have wr1 : IntKind.i64.wrap (v.now - k.ti) = v.now - k.ti := i64_in (by have := HT.out; omega) (by have := HT.out; omega)
      have C := HA.out.kp0 k1.out
      obtain ⟨z0, -, -, -, z4, -⟩ := C.cells
      have CC : Hid (W1.cell? ⟨B, 1, none⟩ = some (.int .i64 k.stt) ∧ W1.cell? ⟨B, 4, none⟩ = some (.int .i64 k.ti) ∧ W1.cell? ⟨A, 4, none⟩ = some (.int .i64 v.now) ∧ W1.cell? ⟨A, 0, none⟩ = some (.int .i64 v.rs)) := ⟨x1, x4, z4, z0⟩
      clear C x0 x1 x2 x3 x4 z0 z4
      cases hs1 : (k.stt == 1)
      case false =>
        have hs : isDueH v k = false := by rw [DU.out, hs1]; rfl
        have HS := hide hs
        clear hs DU
        have OX : Hid (W1.drew.ownsRow w.heap.size 3 1 u3 (pickL (isDueH v) v.hs i).length (ints (pickL (isDueH v) v.hs i))) := own_kp o1.out ((Kp.refl W1 non).drew) (fun _ _ f => f)
        have KX : Hid (Kp w W1.drew non) := k1.out.drew
        clear o1 k1 SZ
        refine wp_region_held_drew (S := fun X => X.cell? ⟨B, 1, none⟩ = some (.int .i64 k.stt) ∧ X.cell? ⟨B, 4, none⟩ = some (.int .i64 k.ti) ∧ X.cell? ⟨A, 4, none⟩ = some (.int .i64 v.now) ∧ X.cell? ⟨A, 0, none⟩ = some (.int .i64 v.rs)) (by kernel_rfl) CC.out (fun hHeld => ?_)
        refine wpAnyH_take (i := 0) (v := (.pointer (some ⟨B, 1, none⟩))) rfl (by kernel_rfl) (by kernel_rfl) (by kernel_rfl) (fun _ _ _ h => h) (Or.inl ⟨by kernel_rfl, ?_⟩) (by assumption) ?_
        · intro w' hSw
          (try dsimp only at hSw)
          go_simp
        (try simp only [Act.put, List.getElem_toArray, List.getElem_cons_zero, List.getElem_cons_succ, List.setIfInBounds_toArray, List.set_cons_zero, List.set_cons_succ])
        refine wpAnyH_take (i := 1) (v := (.int .i64 k.stt)) rfl (by kernel_rfl) (by kernel_rfl) (by kernel_rfl) (fun _ _ _ h => h) (Or.inl ⟨by kernel_rfl, ?_⟩) (by assumption) ?_
        · intro w' hSw
          (try dsimp only at hSw)
          (have z := hSw.1; go_simp)
        (try simp only [Act.put, List.getElem_toArray, List.getElem_cons_zero, List.getElem_cons_succ, List.setIfInBounds_toArray, List.set_cons_zero, List.set_cons_succ])
        refine wpAnyH_take (i := 2) (v := (.bool false)) rfl (by kernel_rfl) (by kernel_rfl) (by kernel_rfl) (fun _ _ _ h => h) (Or.inl ⟨by kernel_rfl, ?_⟩) (by assumption) ?_
        · intro w' hSw
          (try dsimp only at hSw)
          go_simp
        (try simp only [Act.put, List.getElem_toArray, List.getElem_cons_zero, List.getElem_cons_succ, List.setIfInBounds_toArray, List.set_cons_zero, List.set_cons_succ])
        refine wpAnyH_take (i := 3) (v := (.bool false)) rfl (by kernel_rfl) (by kernel_rfl) (by kernel_rfl) (fun _ _ _ h => h) (Or.inl ⟨by kernel_rfl, ?_⟩) (by assumption) ?_
        · intro w' hSw
          (try dsimp only at hSw)
          go_simp
        (try simp only [Act.put, List.getElem_toArray, List.getElem_cons_zero, List.getElem_cons_succ, List.setIfInBounds_toArray, List.set_cons_zero, List.set_cons_succ])
        refine wpAnyH_take (i := 4) (v := undef) rfl (by kernel_rfl) (by kernel_rfl) (by kernel_rfl) (fun _ _ _ h => h) (Or.inr ⟨by kernel_rfl, rfl⟩) (by assumption) ?_
        (try simp only [Act.put, List.setIfInBounds_toArray, List.set_cons_zero, List.set_cons_succ])
        refine wpAnyH_take (i := 5) (v := undef) rfl (by kernel_rfl) (by kernel_rfl) (by kernel_rfl) (fun _ _ _ h => h) (Or.inr ⟨by kernel_rfl, rfl⟩) (by assumption) ?_
        (try simp only [Act.put, List.setIfInBounds_toArray, List.set_cons_zero, List.set_cons_succ])
        refine wpAnyH_take (i := 6) (v := undef) rfl (by kernel_rfl) (by kernel_rfl) (by kernel_rfl) (fun _ _ _ h => h) (Or.inr ⟨by kernel_rfl, rfl⟩) (by assumption) ?_
        (try simp only [Act.put, List.setIfInBounds_toArray, List.set_cons_zero, List.set_cons_succ])
        refine wpAnyH_take (i := 7) (v := undef) rfl (by kernel_rfl) (by kernel_rfl) (by kernel_rfl) (fun _ _ _ h => h) (Or.inr ⟨by kernel_rfl, rfl⟩) (by assumption) ?_
        (try simp only [Act.put, List.setIfInBounds_toArray, List.set_cons_zero, List.set_cons_succ])
        refine wpAnyH_take (i := 8) (v := undef) rfl (by kernel_rfl) (by kernel_rfl) (by kernel_rfl) (fun _ _ _ h => h) (Or.inr ⟨by kernel_rfl, rfl⟩) (by assumption) ?_
        (try simp only [Act.put, List.setIfInBounds_toArray, List.set_cons_zero, List.set_cons_succ])
        refine wpAnyH_take (i := 9) (v := undef) rfl (by kernel_rfl) (by kernel_rfl) (by kernel_rfl) (fun _ _ _ h => h) (Or.inr ⟨by kernel_rfl, rfl⟩) (by assumption) ?_
        (try simp only [Act.put, List.setIfInBounds_toArray, List.set_cons_zero, List.set_cons_succ])
        refine wpAnyH_take (i := 10) (v := undef) rfl (by kernel_rfl) (by kernel_rfl) (by kernel_rfl) (fun _ _ _ h => h) (Or.inr ⟨by kernel_rfl, rfl⟩) (by assumption) ?_
        (try simp only [Act.put, List.setIfInBounds_toArray, List.set_cons_zero, List.set_cons_succ])
        refine wpAnyH_take (i := 11) (v := undef) rfl (by kernel_rfl) (by kernel_rfl) (by kernel_rfl) (fun _ _ _ h => h) (Or.inr ⟨by kernel_rfl, rfl⟩) (by assumption) ?_
        (try simp only [Act.put, List.setIfInBounds_toArray, List.set_cons_zero, List.set_cons_succ])
        refine wpAnyH_take (i := 12) (v := undef) rfl (by kernel_rfl) (by kernel_rfl) (by kernel_rfl) (fun _ _ _ h => h) (Or.inr ⟨by kernel_rfl, rfl⟩) (by assumption) ?_
        (try simp only [Act.put, List.setIfInBounds_toArray, List.set_cons_zero, List.set_cons_succ])
        refine wpAnyH_take (i := 13) (v := undef) rfl (by kernel_rfl) (by kernel_rfl) (by kernel_rfl) (fun _ _ _ h => h) (Or.inr ⟨by kernel_rfl, rfl⟩) (by assumption) ?_
        (try simp only [Act.put, List.setIfInBounds_toArray, List.set_cons_zero, List.set_cons_succ])
        refine wpAnyH_take (i := 14) (v := undef) rfl (by kernel_rfl) (by kernel_rfl) (by kernel_rfl) (fun _ _ _ h => h) (Or.inr ⟨by kernel_rfl, rfl⟩) (by assumption) ?_
        (try simp only [Act.put, List.setIfInBounds_toArray, List.set_cons_zero, List.set_cons_succ])
        refine wpAnyH_take (i := 15) (v := undef) rfl (by kernel_rfl) (by kernel_rfl) (by kernel_rfl) (fun _ _ _ h => h) (Or.inr ⟨by kernel_rfl, rfl⟩) (by assumption) ?_
        (try simp only [Act.put, List.setIfInBounds_toArray, List.set_cons_zero, List.set_cons_succ])
        refine wpAnyH_ready (rs := [16]) (by kernel_rfl) (by simp) ?_
        refine AllReadyH.cons rfl (fun K hK => ?_) AllReadyH.nil
        go_simp
        refine hK.out _ _ (CC.out) (fun hHeld => ?_)
        clear hK
        (try simp only [Act.put, List.setIfInBounds_toArray, List.set_cons_zero, List.set_cons_succ])
        refine wpAnyH_done (by kernel_rfl) ?_ _
        clear hHeld CC
        go_wp2_with fail
        have hs := HS.out
        refine ⟨⟨i + 1, by omega, rfl, ?_, ?_⟩, by simp [intOf]; omega⟩
        · rw [PL.out, if_neg (by rw [hs]; decide)]
          exact OX.out
        · exact KX.out
      case true =>
        have hs2 : isDueH v k = decide (v.rs ≤ v.now - k.ti) := by rw [DU.out, hs1]; rfl
        have HS2 := hide hs2
        clear hs2 DU
        have OX : Hid (W1.drew.ownsRow w.heap.size 3 1 u3 (pickL (isDueH v) v.hs i).length (ints (pickL (isDueH v) v.hs i))) := own_kp o1.out ((Kp.refl W1 non).drew) (fun _ _ f => f)
        have KX : Hid (Kp w W1.drew non) := k1.out.drew
        clear o1 k1 SZ
        by_cases hd : v.rs ≤ v.now - k.ti
        case neg =>
          have q0 : decide (v.rs ≤ v.now - k.ti) = false := by simpa using hd
          have HS : Hid (isDueH v k = false) := by rw [HS2.out]; exact q0
          refine wp_region_held_drew (S := fun X => X.cell? ⟨B, 1, none⟩ = some (.int .i64 k.stt) ∧ X.cell? ⟨B, 4, none⟩ = some (.int .i64 k.ti) ∧ X.cell? ⟨A, 4, none⟩ = some (.int .i64 v.now) ∧ X.cell? ⟨A, 0, none⟩ = some (.int .i64 v.rs)) (by kernel_rfl) CC.out (fun hHeld => ?_)
          refine wpAnyH_take (i := 0) (v := (.pointer (some ⟨B, 1, none⟩))) rfl (by kernel_rfl) (by kernel_rfl) (by kernel_rfl) (fun _ _ _ h => h) (Or.inl ⟨by kernel_rfl, ?_⟩) (by assumption) ?_
          · intro w' hSw
            (try dsimp only at hSw)
            go_simp
          (try simp only [Act.put, List.getElem_toArray, List.getElem_cons_zero, List.getElem_cons_succ, List.setIfInBounds_toArray, List.set_cons_zero, List.set_cons_succ])
          refine wpAnyH_take (i := 1) (v := (.int .i64 k.stt)) rfl (by kernel_rfl) (by kernel_rfl) (by kernel_rfl) (fun _ _ _ h => h) (Or.inl ⟨by kernel_rfl, ?_⟩) (by assumption) ?_
          · intro w' hSw
            (try dsimp only at hSw)
            (have z := hSw.1; go_simp)
          (try simp only [Act.put, List.getElem_toArray, List.getElem_cons_zero, List.getElem_cons_succ, List.setIfInBounds_toArray, List.set_cons_zero, List.set_cons_succ])
          refine wpAnyH_take (i := 2) (v := (.bool true)) rfl (by kernel_rfl) (by kernel_rfl) (by kernel_rfl) (fun _ _ _ h => h) (Or.inl ⟨by kernel_rfl, ?_⟩) (by assumption) ?_
          · intro w' hSw
            (try dsimp only at hSw)
            go_simp
          (try simp only [Act.put, List.getElem_toArray, List.getElem_cons_zero, List.getElem_cons_succ, List.setIfInBounds_toArray, List.set_cons_zero, List.set_cons_succ])
          refine wpAnyH_take (i := 3) (v := (.bool true)) rfl (by kernel_rfl) (by kernel_rfl) (by kernel_rfl) (fun _ _ _ h => h) (Or.inl ⟨by kernel_rfl, ?_⟩) (by assumption) ?_
          · intro w' hSw
            (try dsimp only at hSw)
            go_simp
          (try simp only [Act.put, List.getElem_toArray, List.getElem_cons_zero, List.getElem_cons_succ, List.setIfInBounds_toArray, List.set_cons_zero, List.set_cons_succ])
          refine wpAnyH_take (i := 4) (v := (.pointer (some ⟨A, 0, none⟩))) rfl (by kernel_rfl) (by kernel_rfl) (by kernel_rfl) (fun _ _ _ h => h) (Or.inl ⟨by kernel_rfl, ?_⟩) (by assumption) ?_
          · intro w' hSw
            (try dsimp only at hSw)
            go_simp
          (try simp only [Act.put, List.getElem_toArray, List.getElem_cons_zero, List.getElem_cons_succ, List.setIfInBounds_toArray, List.set_cons_zero, List.set_cons_succ])
          refine wpAnyH_take (i := 5) (v := (.pointer (some ⟨A, 0, none⟩))) rfl (by kernel_rfl) (by kernel_rfl) (by kernel_rfl) (fun _ _ _ h => h) (Or.inl ⟨by kernel_rfl, ?_⟩) (by assumption) ?_
          · intro w' hSw
            (try dsimp only at hSw)
            go_simp
          (try simp only [Act.put, List.getElem_toArray, List.getElem_cons_zero, List.getElem_cons_succ, List.setIfInBounds_toArray, List.set_cons_zero, List.set_cons_succ])
          refine wpAnyH_take (i := 6) (v := (.pointer (some ⟨A, 4, none⟩))) rfl (by kernel_rfl) (by kernel_rfl) (by kernel_rfl) (fun _ _ _ h => h) (Or.inl ⟨by kernel_rfl, ?_⟩) (by assumption) ?_
          · intro w' hSw
            (try dsimp only at hSw)
            go_simp
          (try simp only [Act.put, List.getElem_toArray, List.getElem_cons_zero, List.getElem_cons_succ, List.setIfInBounds_toArray, List.set_cons_zero, List.set_cons_succ])
          refine wpAnyH_take (i := 7) (v := (.int .i64 v.now)) rfl (by kernel_rfl) (by kernel_rfl) (by kernel_rfl) (fun _ _ _ h => h) (Or.inl ⟨by kernel_rfl, ?_⟩) (by assumption) ?_
          · intro w' hSw
            (try dsimp only at hSw)
            (have z := hSw.2.2.1; go_simp)
          (try simp only [Act.put, List.getElem_toArray, List.getElem_cons_zero, List.getElem_cons_succ, List.setIfInBounds_toArray, List.set_cons_zero, List.set_cons_succ])
          refine wpAnyH_take (i := 8) (v := (.pointer (some ⟨B, 4, none⟩))) rfl (by kernel_rfl) (by kernel_rfl) (by kernel_rfl) (fun _ _ _ h => h) (Or.inl ⟨by kernel_rfl, ?_⟩) (by assumption) ?_
          · intro w' hSw
            (try dsimp only at hSw)
            go_simp
          (try simp only [Act.put, List.getElem_toArray, List.getElem_cons_zero, List.getElem_cons_succ, List.setIfInBounds_toArray, List.set_cons_zero, List.set_cons_succ])
          refine wpAnyH_take (i := 9) (v := (.int .i64 k.ti)) rfl (by kernel_rfl) (by kernel_rfl) (by kernel_rfl) (fun _ _ _ h => h) (Or.inl ⟨by kernel_rfl, ?_⟩) (by assumption) ?_
          · intro w' hSw
            (try dsimp only at hSw)
            (have z := hSw.2.1; go_simp)
          (try simp only [Act.put, List.getElem_toArray, List.getElem_cons_zero, List.getElem_cons_succ, List.setIfInBounds_toArray, List.set_cons_zero, List.set_cons_succ])
          refine wpAnyH_take (i := 10) (v := (.int .i64 (v.now - k.ti))) rfl (by kernel_rfl) (by kernel_rfl) (by kernel_rfl) (fun _ _ _ h => h) (Or.inl ⟨by kernel_rfl, ?_⟩) (by assumption) ?_
          · intro w' hSw
            (try dsimp only at hSw)
            (go_simp)
          (try simp only [Act.put, List.getElem_toArray, List.getElem_cons_zero, List.getElem_cons_succ, List.setIfInBounds_toArray, List.set_cons_zero, List.set_cons_succ])
          refine wpAnyH_take (i := 11) (v := (.pointer (some ⟨A, 0, none⟩))) rfl (by kernel_rfl) (by kernel_rfl) (by kernel_rfl) (fun _ _ _ h => h) (Or.inl ⟨by kernel_rfl, ?_⟩) (by assumption) ?_
          · intro w' hSw
            (try dsimp only at hSw)
            go_simp
          (try simp only [Act.put, List.getElem_toArray, List.getElem_cons_zero, List.getElem_cons_succ, List.setIfInBounds_toArray, List.set_cons_zero, List.set_cons_succ])
          refine wpAnyH_take (i := 12) (v := (.pointer (some ⟨A, 0, none⟩))) rfl (by kernel_rfl) (by kernel_rfl) (by kernel_rfl) (fun _ _ _ h => h) (Or.inl ⟨by kernel_rfl, ?_⟩) (by assumption) ?_
          · intro w' hSw
            (try dsimp only at hSw)
            go_simp
          (try simp only [Act.put, List.getElem_toArray, List.getElem_cons_zero, List.getElem_cons_succ, List.setIfInBounds_toArray, List.set_cons_zero, List.set_cons_succ])
          refine wpAnyH_take (i := 13) (v := (.pointer (some ⟨A, 0, none⟩))) rfl (by kernel_rfl) (by kernel_rfl) (by kernel_rfl) (fun _ _ _ h => h) (Or.inl ⟨by kernel_rfl, ?_⟩) (by assumption) ?_
          · intro w' hSw
            (try dsimp only at hSw)
            go_simp
          (try simp only [Act.put, List.getElem_toArray, List.getElem_cons_zero, List.getElem_cons_succ, List.setIfInBounds_toArray, List.set_cons_zero, List.set_cons_succ])
          refine wpAnyH_take (i := 14) (v := (.int .i64 v.rs)) rfl (by kernel_rfl) (by kernel_rfl) (by kernel_rfl) (fun _ _ _ h => h) (Or.inl ⟨by kernel_rfl, ?_⟩) (by assumption) ?_
          · intro w' hSw
            (try dsimp only at hSw)
            (have z := hSw.2.2.2; go_simp)
          (try simp only [Act.put, List.getElem_toArray, List.getElem_cons_zero, List.getElem_cons_succ, List.setIfInBounds_toArray, List.set_cons_zero, List.set_cons_succ])
          refine wpAnyH_take (i := 15) (v := (.bool false)) rfl (by kernel_rfl) (by kernel_rfl) (by kernel_rfl) (fun _ _ _ h => h) (Or.inl ⟨by kernel_rfl, ?_⟩) (by assumption) ?_
          · intro w' hSw
            (try dsimp only at hSw)
            go_simp
          (try simp only [Act.put, List.getElem_toArray, List.getElem_cons_zero, List.getElem_cons_succ, List.setIfInBounds_toArray, List.set_cons_zero, List.set_cons_succ])
          refine wpAnyH_ready (rs := [16]) (by kernel_rfl) (by simp) ?_
          refine AllReadyH.cons rfl (fun K hK => ?_) AllReadyH.nil
          go_simp
          refine hK.out _ _ (CC.out) (fun hHeld => ?_)
          clear hK
          (try simp only [Act.put, List.setIfInBounds_toArray, List.set_cons_zero, List.set_cons_succ])
          refine wpAnyH_done (by kernel_rfl) ?_ _
          clear hHeld CC
          go_wp2_with fail
          have hs := HS.out
          refine ⟨⟨i + 1, by omega, rfl, ?_, ?_⟩, by simp [intOf]; omega⟩
          · rw [PL.out, if_neg (by rw [hs]; decide)]
            exact OX.out
          · exact KX.out
        case pos =>
          have q0 : decide (v.rs ≤ v.now - k.ti) = true := by simpa using hd
          have HS : Hid (isDueH v k = true) := by rw [HS2.out]; exact q0
          refine wp_region_held_drew (S := fun X => X.cell? ⟨B, 1, none⟩ = some (.int .i64 k.stt) ∧ X.cell? ⟨B, 4, none⟩ = some (.int .i64 k.ti) ∧ X.cell? ⟨A, 4, none⟩ = some (.int .i64 v.now) ∧ X.cell? ⟨A, 0, none⟩ = some (.int .i64 v.rs)) (by kernel_rfl) CC.out (fun hHeld => ?_)
          refine wpAnyH_take (i := 0) (v := (.pointer (some ⟨B, 1, none⟩))) rfl (by kernel_rfl) (by kernel_rfl) (by kernel_rfl) (fun _ _ _ h => h) (Or.inl ⟨by kernel_rfl, ?_⟩) (by assumption) ?_
          · intro w' hSw
            (try dsimp only at hSw)
            go_simp
          (try simp only [Act.put, List.getElem_toArray, List.getElem_cons_zero, List.getElem_cons_succ, List.setIfInBounds_toArray, List.set_cons_zero, List.set_cons_succ])
          refine wpAnyH_take (i := 1) (v := (.int .i64 k.stt)) rfl (by kernel_rfl) (by kernel_rfl) (by kernel_rfl) (fun _ _ _ h => h) (Or.inl ⟨by kernel_rfl, ?_⟩) (by assumption) ?_
          · intro w' hSw
            (try dsimp only at hSw)
            (have z := hSw.1; go_simp)
          (try simp only [Act.put, List.getElem_toArray, List.getElem_cons_zero, List.getElem_cons_succ, List.setIfInBounds_toArray, List.set_cons_zero, List.set_cons_succ])
          refine wpAnyH_take (i := 2) (v := (.bool true)) rfl (by kernel_rfl) (by kernel_rfl) (by kernel_rfl) (fun _ _ _ h => h) (Or.inl ⟨by kernel_rfl, ?_⟩) (by assumption) ?_
          · intro w' hSw
            (try dsimp only at hSw)
            go_simp
          (try simp only [Act.put, List.getElem_toArray, List.getElem_cons_zero, List.getElem_cons_succ, List.setIfInBounds_toArray, List.set_cons_zero, List.set_cons_succ])
          refine wpAnyH_take (i := 3) (v := (.bool true)) rfl (by kernel_rfl) (by kernel_rfl) (by kernel_rfl) (fun _ _ _ h => h) (Or.inl ⟨by kernel_rfl, ?_⟩) (by assumption) ?_
          · intro w' hSw
            (try dsimp only at hSw)
            go_simp
          (try simp only [Act.put, List.getElem_toArray, List.getElem_cons_zero, List.getElem_cons_succ, List.setIfInBounds_toArray, List.set_cons_zero, List.set_cons_succ])
          refine wpAnyH_take (i := 4) (v := (.pointer (some ⟨A, 0, none⟩))) rfl (by kernel_rfl) (by kernel_rfl) (by kernel_rfl) (fun _ _ _ h => h) (Or.inl ⟨by kernel_rfl, ?_⟩) (by assumption) ?_
          · intro w' hSw
            (try dsimp only at hSw)
            go_simp
          (try simp only [Act.put, List.getElem_toArray, List.getElem_cons_zero, List.getElem_cons_succ, List.setIfInBounds_toArray, List.set_cons_zero, List.set_cons_succ])
          refine wpAnyH_take (i := 5) (v := (.pointer (some ⟨A, 0, none⟩))) rfl (by kernel_rfl) (by kernel_rfl) (by kernel_rfl) (fun _ _ _ h => h) (Or.inl ⟨by kernel_rfl, ?_⟩) (by assumption) ?_
          · intro w' hSw
            (try dsimp only at hSw)
            go_simp
          (try simp only [Act.put, List.getElem_toArray, List.getElem_cons_zero, List.getElem_cons_succ, List.setIfInBounds_toArray, List.set_cons_zero, List.set_cons_succ])
          refine wpAnyH_take (i := 6) (v := (.pointer (some ⟨A, 4, none⟩))) rfl (by kernel_rfl) (by kernel_rfl) (by kernel_rfl) (fun _ _ _ h => h) (Or.inl ⟨by kernel_rfl, ?_⟩) (by assumption) ?_
          · intro w' hSw
            (try dsimp only at hSw)
            go_simp
          (try simp only [Act.put, List.getElem_toArray, List.getElem_cons_zero, List.getElem_cons_succ, List.setIfInBounds_toArray, List.set_cons_zero, List.set_cons_succ])
          refine wpAnyH_take (i := 7) (v := (.int .i64 v.now)) rfl (by kernel_rfl) (by kernel_rfl) (by kernel_rfl) (fun _ _ _ h => h) (Or.inl ⟨by kernel_rfl, ?_⟩) (by assumption) ?_
          · intro w' hSw
            (try dsimp only at hSw)
            (have z := hSw.2.2.1; go_simp)
          (try simp only [Act.put, List.getElem_toArray, List.getElem_cons_zero, List.getElem_cons_succ, List.setIfInBounds_toArray, List.set_cons_zero, List.set_cons_succ])
          refine wpAnyH_take (i := 8) (v := (.pointer (some ⟨B, 4, none⟩))) rfl (by kernel_rfl) (by kernel_rfl) (by kernel_rfl) (fun _ _ _ h => h) (Or.inl ⟨by kernel_rfl, ?_⟩) (by assumption) ?_
          · intro w' hSw
            (try dsimp only at hSw)
            go_simp
          (try simp only [Act.put, List.getElem_toArray, List.getElem_cons_zero, List.getElem_cons_succ, List.setIfInBounds_toArray, List.set_cons_zero, List.set_cons_succ])
          refine wpAnyH_take (i := 9) (v := (.int .i64 k.ti)) rfl (by kernel_rfl) (by kernel_rfl) (by kernel_rfl) (fun _ _ _ h => h) (Or.inl ⟨by kernel_rfl, ?_⟩) (by assumption) ?_
          · intro w' hSw
            (try dsimp only at hSw)
            (have z := hSw.2.1; go_simp)
          (try simp only [Act.put, List.getElem_toArray, List.getElem_cons_zero, List.getElem_cons_succ, List.setIfInBounds_toArray, List.set_cons_zero, List.set_cons_succ])
          refine wpAnyH_take (i := 10) (v := (.int .i64 (v.now - k.ti))) rfl (by kernel_rfl) (by kernel_rfl) (by kernel_rfl) (fun _ _ _ h => h) (Or.inl ⟨by kernel_rfl, ?_⟩) (by assumption) ?_
          · intro w' hSw
            (try dsimp only at hSw)
            (go_simp)
          (try simp only [Act.put, List.getElem_toArray, List.getElem_cons_zero, List.getElem_cons_succ, List.setIfInBounds_toArray, List.set_cons_zero, List.set_cons_succ])
          refine wpAnyH_take (i := 11) (v := (.pointer (some ⟨A, 0, none⟩))) rfl (by kernel_rfl) (by kernel_rfl) (by kernel_rfl) (fun _ _ _ h => h) (Or.inl ⟨by kernel_rfl, ?_⟩) (by assumption) ?_
          · intro w' hSw
            (try dsimp only at hSw)
            go_simp
          (try simp only [Act.put, List.getElem_toArray, List.getElem_cons_zero, List.getElem_cons_succ, List.setIfInBounds_toArray, List.set_cons_zero, List.set_cons_succ])
          refine wpAnyH_take (i := 12) (v := (.pointer (some ⟨A, 0, none⟩))) rfl (by kernel_rfl) (by kernel_rfl) (by kernel_rfl) (fun _ _ _ h => h) (Or.inl ⟨by kernel_rfl, ?_⟩) (by assumption) ?_
          · intro w' hSw
            (try dsimp only at hSw)
            go_simp
          (try simp only [Act.put, List.getElem_toArray, List.getElem_cons_zero, List.getElem_cons_succ, List.setIfInBounds_toArray, List.set_cons_zero, List.set_cons_succ])
          refine wpAnyH_take (i := 13) (v := (.pointer (some ⟨A, 0, none⟩))) rfl (by kernel_rfl) (by kernel_rfl) (by kernel_rfl) (fun _ _ _ h => h) (Or.inl ⟨by kernel_rfl, ?_⟩) (by assumption) ?_
          · intro w' hSw
            (try dsimp only at hSw)
            go_simp
          (try simp only [Act.put, List.getElem_toArray, List.getElem_cons_zero, List.getElem_cons_succ, List.setIfInBounds_toArray, List.set_cons_zero, List.set_cons_succ])
          refine wpAnyH_take (i := 14) (v := (.int .i64 v.rs)) rfl (by kernel_rfl) (by kernel_rfl) (by kernel_rfl) (fun _ _ _ h => h) (Or.inl ⟨by kernel_rfl, ?_⟩) (by assumption) ?_
          · intro w' hSw
            (try dsimp only at hSw)
            (have z := hSw.2.2.2; go_simp)
          (try simp only [Act.put, List.getElem_toArray, List.getElem_cons_zero, List.getElem_cons_succ, List.setIfInBounds_toArray, List.set_cons_zero, List.set_cons_succ])
          refine wpAnyH_take (i := 15) (v := (.bool true)) rfl (by kernel_rfl) (by kernel_rfl) (by kernel_rfl) (fun _ _ _ h => h) (Or.inl ⟨by kernel_rfl, ?_⟩) (by assumption) ?_
          · intro w' hSw
            (try dsimp only at hSw)
            go_simp
          (try simp only [Act.put, List.getElem_toArray, List.getElem_cons_zero, List.getElem_cons_succ, List.setIfInBounds_toArray, List.set_cons_zero, List.set_cons_succ])
          refine wpAnyH_ready (rs := [16]) (by kernel_rfl) (by simp) ?_
          refine AllReadyH.cons rfl (fun K hK => ?_) AllReadyH.nil
          go_simp
          refine hK.out _ _ (CC.out) (fun hHeld => ?_)
          clear hK
          (try simp only [Act.put, List.setIfInBounds_toArray, List.set_cons_zero, List.set_cons_succ])
          refine wpAnyH_done (by kernel_rfl) ?_ _
          clear hHeld CC
          have hs := HS.out
          clear HS HS2
          generalize W1.drew = WD at *
          have G1 : Hid ((WD.alloc (.cells #[.int .i64 (i : Int)] 3)).heap[WD.heap.size]? = some (.cells #[.int .i64 (i : Int)] 3)) := heap_last _ _
          have O1 : Hid ((WD.alloc (.cells #[.int .i64 (i : Int)] 3)).ownsRow w.heap.size 3 1 u3 (pickL (isDueH v) v.hs i).length (ints (pickL (isDueH v) v.hs i))) := own_kp OX.out ((Kp.refl WD non).alloc _) (fun _ _ f => f)
          have SZ2 : Hid (w.heap.size ≤ WD.heap.size) := KX.out.size
          go_wp2_with (at_builtin; refine wpList_apI rfl (.tmp 33) (.tmp 35) rfl w.heap.size _ (pickL (isDueH v) v.hs i) rfl O1.out WD.heap.size (i : Int) rfl G1.out (by omega) (by have := SZ2.out; rw [World.size_alloc]; omega) ?_; intro v' w' o2 g2)
          refine ⟨⟨i + 1, by omega, rfl, ?_, ?_⟩, by simp [intOf]; omega⟩
          · rw [PL.out, if_pos hs, List.length_append]
            exact o2
          · refine (KX.out.alloc _).trans (Kp.of_grown g2) (fun k hk => ?_)
            have := own_ge O1.out hk.symm
            exact Or.inr this
end Go.Proofs.YteiiolilpemimaaDoor.Cn
namespace Go.Proofs
open Go.Shelf Go.RowKit
def Tryd.lays137_ren : Go.Shelf.Ren := ⟨fun | 137 => 73 | 217 => 77 | 266 => 91 | n => n, fun | 9 => 9 | 5 => 5 | 3 => 3 | n => n, fun | n => n⟩
theorem Tryd.lays137 : Go.Proofs.Lays.n137 Tryd.prog Tryd.lays137_ren := {
  mixed := by kernel_rfl
  f137 := Tryd.func73.trans (congrArg some (by kernel_rfl))
  f217 := Tryd.func77.trans (congrArg some (by kernel_rfl))
  f266 := Tryd.func91.trans (congrArg some (by kernel_rfl))
  t3 := Tryd.underlying3
  a3 := Tryd.isAgg3
  z3 := Tryd.sizeOf3
  v3 := Tryd.zeroValue3
  t5 := Tryd.underlying5
  a5 := Tryd.isAgg5
  z5 := Tryd.sizeOf5
  v5 := Tryd.zeroValue5
  t9 := Tryd.underlying9
  a9 := Tryd.isAgg9
  z9 := Tryd.sizeOf9
  v9 := Tryd.zeroValue9 }
open Go.RowKit in
theorem Tryd.strings_IndexByte (s : ByteArray) (c : Int) (w : World) :
    Calls Tryd.prog 73 #[.string s, .int .u8 c] w fun e w' => e = .returned (.int .i64 (Lib.indexByte s.data.toList c.toNat.toUInt8)) ∧ w' = w := Any.strings_IndexByte Tryd.lays137 s c w
def Tryd.lays264_ren : Go.Shelf.Ren := ⟨fun | 264 => 79 | n => n, fun | 53 => 151 | 46 => 143 | n => n, fun | n => n⟩
theorem Tryd.lays264 : Go.Proofs.Lays.n264 Tryd.prog Tryd.lays264_ren := {
  mixed := by kernel_rfl
  f264 := Tryd.func79.trans (congrArg some (by kernel_rfl))
  t46 := Tryd.underlying143
  a46 := Tryd.isAgg143
  z46 := Tryd.sizeOf143
  v46 := Tryd.zeroValue143
  t53 := Tryd.underlying151
  a53 := Tryd.isAgg151
  z53 := Tryd.sizeOf151
  v53 := Tryd.zeroValue151 }
open Go.RowKit Go.Lib in
theorem Tryd.bits_Mul64 (x y : Nat) (hx : x < 18446744073709551616) (hy : y < 18446744073709551616) (w : World) :
    Calls Tryd.prog 79 #[.int .u64 x, .int .u64 y] w fun e w' => e = .returned (.tuple #[.int .u64 ((x * y / 18446744073709551616 : Nat) : Int), .int .u64 ((x * y % 18446744073709551616 : Nat) : Int)]) ∧ w' = w := Any.bits_Mul64 Tryd.lays264 x y hx hy w
def Tryd.lays212_ren : Go.Shelf.Ren := ⟨fun | 212 => 74 | 263 => 78 | 264 => 79 | n => n, fun | 46 => 143 | 51 => 148 | 146 => 149 | 53 => 151 | 148 => 152 | n => n, fun | n => n⟩
theorem Tryd.lays212 : Go.Proofs.Lays.n212 Tryd.prog Tryd.lays212_ren := {
  mixed := by kernel_rfl
  f212 := Tryd.func74.trans (congrArg some (by kernel_rfl))
  f263 := Tryd.func78.trans (congrArg some (by kernel_rfl))
  f264 := Tryd.func79.trans (congrArg some (by kernel_rfl))
  t46 := Tryd.underlying143
  a46 := Tryd.isAgg143
  z46 := Tryd.sizeOf143
  v46 := Tryd.zeroValue143
  t51 := Tryd.underlying148
  a51 := Tryd.isAgg148
  z51 := Tryd.sizeOf148
  v51 := Tryd.zeroValue148
  t53 := Tryd.underlying151
  a53 := Tryd.isAgg151
  z53 := Tryd.sizeOf151
  v53 := Tryd.zeroValue151
  t146 := Tryd.underlying149
  a146 := Tryd.isAgg149
  z146 := Tryd.sizeOf149
  v146 := Tryd.zeroValue149
  t148 := Tryd.underlying152
  a148 := Tryd.isAgg152
  z148 := Tryd.sizeOf152
  v148 := Tryd.zeroValue152 }
open Go.RowKit Go.Lib in
theorem Tryd.bits_Mul (x y : Nat) (hx : x < 18446744073709551616) (hy : y < 18446744073709551616) (w : World) :
    Calls Tryd.prog 74 #[.int .u64 x, .int .u64 y] w fun e w' => e = .returned (.tuple #[.int .u64 ((x * y / 18446744073709551616 : Nat) : Int), .int .u64 ((x * y % 18446744073709551616 : Nat) : Int)]) ∧ w' = w := Any.bits_Mul Tryd.lays212 x y hx hy w
def Tryd.lays217_ren : Go.Shelf.Ren := ⟨fun | 217 => 77 | 266 => 91 | n => n, fun | 9 => 9 | 5 => 5 | 3 => 3 | n => n, fun | n => n⟩
theorem Tryd.lays217 : Go.Proofs.Lays.n217 Tryd.prog Tryd.lays217_ren := {
  mixed := by kernel_rfl
  f217 := Tryd.func77.trans (congrArg some (by kernel_rfl))
  f266 := Tryd.func91.trans (congrArg some (by kernel_rfl))
  t3 := Tryd.underlying3
  a3 := Tryd.isAgg3
  z3 := Tryd.sizeOf3
  v3 := Tryd.zeroValue3
  t5 := Tryd.underlying5
  a5 := Tryd.isAgg5
  z5 := Tryd.sizeOf5
  v5 := Tryd.zeroValue5
  t9 := Tryd.underlying9
  a9 := Tryd.isAgg9
  z9 := Tryd.sizeOf9
  v9 := Tryd.zeroValue9 }
open Go.RowKit Go.Lib in
theorem Tryd.stringslite_IndexByte (s : ByteArray) (c : Int) (w : World) :
    Calls Tryd.prog 77 #[.string s, .int .u8 c] w fun e w' => e = .returned (.int .i64 (Lib.indexByte s.data.toList c.toNat.toUInt8)) ∧ w' = w := Any.stringslite_IndexByte Tryd.lays217 s c w
end Go.Proofs
namespace Go.Proofs
open Go.Shelf Go.RowKit
def Tryd.lays108_ren : Go.Shelf.Ren := ⟨fun | 108 => 50 | n => n, fun | 28 => 26 | 3 => 3 | 0 => 0 | 4 => 4 | n => n, fun | n => n⟩
theorem Tryd.lays108 : Go.Proofs.Lays.n108 Tryd.prog Tryd.lays108_ren := {
  mixed := by kernel_rfl
  f108 := Tryd.func50.trans (congrArg some (by kernel_rfl))
  t0 := Tryd.underlying0
  a0 := Tryd.isAgg0
  z0 := Tryd.sizeOf0
  v0 := Tryd.zeroValue0
  t3 := Tryd.underlying3
  a3 := Tryd.isAgg3
  z3 := Tryd.sizeOf3
  v3 := Tryd.zeroValue3
  t4 := Tryd.underlying4
  a4 := Tryd.isAgg4
  z4 := Tryd.sizeOf4
  v4 := Tryd.zeroValue4
  t28 := Tryd.underlying26
  a28 := Tryd.isAgg26
  z28 := Tryd.sizeOf26
  v28 := Tryd.zeroValue26 }
open Go.Lib in
theorem Tryd.slices_Index_int (b off n c : Nat) (zs : List Int) (x : Int) (w : World) (hz : n ≤ zs.length) (hbig : n ≤ 9223372036854775807) (hc : ∀ j, j < zs.length → w.cell? ⟨b, off + j, none⟩ = some (.int .i64 (zs.getD j 0))) :
    Calls Tryd.prog 50 #[.slice (some ⟨b, off, none⟩) n c, .int .i64 x] w fun e w' => e = .returned (.int .i64 (Lib.idxOf (zs.take n) x)) ∧ w' = w := Any.slices_Index_int Tryd.lays108 b off n c zs x w hz hbig hc
end Go.Proofs
