import Derived.Test.YtndfhpfhgdamgaaGreatDoorGDgPlain
namespace Go.Proofs.YtndfhpfhgdamgaaGreatDoor
open Go.RowKit
/-- n of p cells are -1 -/
def repN (n p : Nat) : List Value := List.replicate n (.int .i64 (-1)) ++ List.replicate (p - n) (.int .i64 0)
theorem repN_len (n p : Nat) (h : n ≤ p) : (repN n p).length = p := by simp [repN]; omega
theorem repN_at (n p j : Nat) (h : j < n) : (repN n p)[j]? = some (.int .i64 (-1)) := by
  unfold repN
  rw [List.getElem?_append_left (by simpa using h), List.getElem?_replicate, if_pos h]
set_option linter.unusedVariables false in
theorem repN_splice (n m p : Nat) (h : n + m ≤ p) : splice (repN n p) n (List.replicate m (.int .i64 (-1))) = repN (n + m) p := by
  unfold splice repN
  have e1 : (List.replicate n (Value.int .i64 (-1)) ++ List.replicate (p - n) (Value.int .i64 0)).take n = List.replicate n (Value.int .i64 (-1)) := by
    rw [List.take_append_of_le_length (by simp)]
    simp
  have e2 : (List.replicate n (Value.int .i64 (-1)) ++ List.replicate (p - n) (Value.int .i64 0)).drop (n + (List.replicate m (Value.int .i64 (-1))).length) = List.replicate (p - (n + m)) (Value.int .i64 0) := by
    rw [List.length_replicate, List.drop_append]
    simp
    omega
  rw [e1, e2, ← List.append_assoc, List.replicate_append_replicate]
theorem row_whole {w : World} {base e g n : Nat} {xs : List Value} (h : w.ownsRow base e 1 (.slice (some ⟨g, 0, none⟩) n n) n xs) : w.heap[g]? = some (.cells xs.toArray e (0, 0)) := by
  rcases h.2 with ⟨hv, _⟩ | ⟨g', cap, cur, hv, _, hg, hnc, _, hcs, htake⟩
  · simp at hv
  · simp only [Value.slice.injEq, Option.some.injEq, Addr.mk.injEq, and_true, true_and] at hv
    obtain ⟨rfl, rfl⟩ := hv
    have : cur = xs.toArray := by
      rw [Nat.mul_one] at htake hcs
      have e1 : cur.toList = xs := by
        rw [← htake, List.take_of_length_le (by simp [hcs])]
      rw [← e1]
    rw [← this]
    exact hg
theorem whole_row {w : World} {base e g n : Nat} {xs : List Value} (hg : w.heap[g]? = some (.cells xs.toArray e (0, 0))) (hb : base ≤ g) (hl : xs.length = n) (hm : n ≤ maxLen) : w.ownsRow base e 1 (.slice (some ⟨g, 0, none⟩) n n) n xs := by
  refine ⟨by omega, Or.inr ⟨g, n, xs.toArray, rfl, hb, hg, Nat.le_refl _, hm, by simp [hl], ?_⟩⟩
  simp [← hl]
theorem infoInt : (Tryz.prog.info? 3).map (fun i => (i.zero, i.size, i.bytes)) = some (some (.int .i64 0), 1, 8) := by kernel_rfl
theorem info_parts {P : Program} {t : TypeId} {z : Option Value} {n b : Nat} (h : (P.info? t).map (fun i => (i.zero, i.size, i.bytes)) = some (z, n, b)) : ∃ i, P.info? t = some i ∧ i.zero = z ∧ i.size = n ∧ i.bytes = b := by
  obtain ⟨i, hi, hx⟩ := Option.map_eq_some_iff.1 h
  simp only [Prod.mk.injEq] at hx
  exact ⟨i, hi, hx.1, hx.2.1, hx.2.2⟩
theorem made_rep (p : Nat) : (madeCells (Value.int .i64 0).cells (p * 1)).toList = repN 0 p := by
  unfold repN madeCells
  simp [Value.cells]
  apply List.ext_getElem
  · simp
  · intro j h1 h2
    simp [Nat.mod_one]
set_option maxHeartbeats 8000000 in
set_option maxRecDepth 100000 in
set_option linter.unusedSimpArgs false in
set_option linter.unusedVariables false in
theorem repeat_any (w : World) (b0 c1 p : Nat) (hx : w.cell? ⟨b0, 0, none⟩ = some (.int .i64 (-1))) (hb : b0 < w.heap.size) (h1 : 1 ≤ p) (h2 : p ≤ 64) :
    Calls Tryz.prog 80 #[.slice (some ⟨b0, 0, none⟩) 1 c1, .int .i64 (p : Int)] w fun e w' => ∃ g, e = .returned (.slice (some ⟨g, 0, none⟩) p p) ∧ w'.heap[g]? = some (.cells (repN p p).toArray 3 (0, 0)) ∧ w.heap.size ≤ g ∧ Below w.heap.size w w' := by
  have MU := Tryz.bits_Mul 1 p (by omega) (by omega) w
  rw [Nat.one_mul, show p / 18446744073709551616 = 0 by omega, show p % 18446744073709551616 = p by omega] at MU
  have MU := hide MU
  rename_i MU0
  clear MU0
  obtain ⟨i0, hi0, hz0, hz1, hz2⟩ := info_parts infoInt
  have u1 : IntKind.u64.wrap (p : Int) = (p : Int) := by rw [IntKind.wrap_u64]; omega
  have u2 : IntKind.i64.wrap (p : Int) = (p : Int) := i64_in (by omega) (by omega)
  have p0 : ¬ (p : Int) < 0 := by omega
  have p1 : ¬ (9223372036854775807 : Int) < (p : Int) := by omega
  have HX := hide hx
  clear hx
  go_enter Tryz.func80, Tryz.ntmps80
  go_upto_region 7 with (first | (go_at_call 92; refine Calls.mono MU.out ?_; rintro e w1 ⟨rfl, hw⟩; have hw := hw.symm; subst hw; clear MU) | (at_make; refine wpList_make_full _ rfl _ _ 25 rfl w.heap.size 3 i0 (.int .i64 0) 1 Tryz.underlying25 hi0 hz0 hz1 _ _ _ _ p rfl rfl (by omega) (by omega) (by rw [hz2]; omega) (by unfold maxLen; omega) (Nat.le_refl _) ?_; intro w1 o1 g1; rw [made_rep] at o1; replace o1 := row_whole o1))
  have B1 : Hid (Below w.heap.size w w1) := ⟨g1.os, g1.tape, g1.output, g1.size, fun i hi => g1.block i hi (by simp)⟩
  have O1 := hide o1
  have XC : Hid (w1.cell? ⟨b0, 0, none⟩ = some (.int .i64 (-1))) := (B1.out.cell hb).trans HX.out
  clear g1 o1
  have s1 : Hid ((List.replicate 1 (Value.int .i64 (-1))).length = Nat.min 1 p) := by show _ = _; rw [List.length_replicate]; exact (Nat.min_eq_left h1).symm
  have s2 : Hid (0 + (List.replicate 1 (Value.int .i64 (-1))).length ≤ (repN 0 p).length) := by show _ ≤ _; rw [repN_len _ _ (by omega), List.length_replicate]; omega
  have s3 : Hid (∀ v ∈ List.replicate 1 (Value.int .i64 (-1)), v.oneCell' = true) := by intro v hv; rw [List.mem_replicate] at hv; rw [hv.2]; rfl
  have s4 : Hid (∀ j v, (List.replicate 1 (Value.int .i64 (-1)))[j]? = some v → w1.cell? ((⟨b0, 0, none⟩ : Addr).add j) = some v) := by
    intro j v hv
    rw [List.getElem?_replicate] at hv
    split at hv
    · obtain rfl : j = 0 := by omega
      rw [← hv]
      exact XC.out
    · cases hv
  go_wp2_with (refine wpList_copy_splice (by rfl) (.tmp 31) (.tmp 32) 25 25 (by rfl) 3 Tryz.underlying25 (by kernel_rfl) (some ⟨w.heap.size, 0, none⟩) (some ⟨b0, 0, none⟩) p p 1 c1 (by rfl) (by rfl) w.heap.size 0 (repN 0 p) 3 O1.out (List.replicate 1 (.int .i64 (-1))) s1.out (fun _ => ⟨rfl, _, rfl, s4.out⟩) s2.out s3.out w.heap.size w B1.out (Nat.le_refl _) ?_; intro w2 g2 b2)
  rw [repN_splice 0 1 p (by omega), Nat.zero_add] at g2
  have O2 := hide g2.out
  have B2 := hide b2
  clear g2 b2 O1 B1 XC s1 s2 s3 s4
  go_loopw [8] (fun vn wr => ∃ (n : Nat), 1 ≤ n ∧ n ≤ p ∧ vn = .int .i64 (n : Int) ∧ wr.heap[w.heap.size]? = some (.cells (repN n p).toArray 3 (0, 0)) ∧ Below w.heap.size w wr) (fun vn _ => p - (intOf vn).toNat)
  case atStart => exact ⟨1, by omega, by omega, rfl, O2.out, B2.out⟩
  case round =>
    clear O2 B2
    obtain ⟨n, n1, n2, rfl, hO, hB⟩ := hrel
    have OW := hide hO
    have BW := hide hB
    clear hO hB
    by_cases hn : n < p
    case pos =>
      have hni : (n : Int) < (p : Int) := by omega
      go_wp2_with fail
      obtain ⟨m, hm⟩ : ∃ m, m = Nat.min n (p - n) := ⟨_, rfl⟩
      have m1 : 1 ≤ m ∧ n + m ≤ p := by
        rw [hm]
        show 1 ≤ min n (p - n) ∧ n + min n (p - n) ≤ p
        omega
      have s1 : Hid ((List.replicate m (Value.int .i64 (-1))).length = Nat.min n (p - n)) := by show _ = _; rw [List.length_replicate]; exact hm
      have s2 : Hid (n + (List.replicate m (Value.int .i64 (-1))).length ≤ (repN n p).length) := by show _ ≤ _; rw [repN_len _ _ (by omega), List.length_replicate]; omega
      have s3 : Hid (∀ v ∈ List.replicate m (Value.int .i64 (-1)), v.oneCell' = true) := by intro v hv; rw [List.mem_replicate] at hv; rw [hv.2]; rfl
      have hmn : m ≤ n := by
        rw [hm]
        show min n (p - n) ≤ n
        omega
      have s4 : Hid (∀ j v, (List.replicate m (Value.int .i64 (-1)))[j]? = some v → wr.drew.cell? ((⟨w.heap.size, 0, none⟩ : Addr).add j) = some v) := by
        intro j v hv
        rw [List.getElem?_replicate] at hv
        split at hv
        · rw [← hv, Addr.add_mid, Nat.zero_add]
          have := repN_at n p j (by omega)
          unfold World.cell?
          rw [show wr.drew.heap[w.heap.size]? = _ from OW.out]
          simpa using this
        · cases hv
      have e1 : (p - n : Nat) = p - n := rfl
      have ew : IntKind.i64.wrap ((n : Int) + (m : Int)) = (n : Int) + (m : Int) := i64_in (by omega) (by omega)
      clear hm
      refine wp_region_held_drew (S := fun _ => True) (by kernel_rfl) trivial (fun hHeld => ?_)
      refine wpAnyH_take (i := 0) (v := (.int .i64 (n : Int))) rfl (by kernel_rfl) (by kernel_rfl) (by kernel_rfl) (fun _ _ _ h => h) (Or.inl ⟨by rfl, ?_⟩) (by assumption) ?_
      · intro w' hSw
        (try dsimp only at hSw)
        go_simp
      (try simp only [Act.put, List.setIfInBounds_toArray, List.set_cons_zero, List.set_cons_succ])
      refine wpAnyH_take (i := 1) (v := (.slice (some ⟨w.heap.size, 0, none⟩) p p)) rfl (by kernel_rfl) (by kernel_rfl) (by kernel_rfl) (fun _ _ _ h => h) (Or.inl ⟨by rfl, ?_⟩) (by assumption) ?_
      · intro w' hSw
        (try dsimp only at hSw)
        go_simp
      (try simp only [Act.put, List.setIfInBounds_toArray, List.set_cons_zero, List.set_cons_succ])
      refine wpAnyH_take (i := 2) (v := (.int .i64 (n : Int))) rfl (by kernel_rfl) (by kernel_rfl) (by kernel_rfl) (fun _ _ _ h => h) (Or.inl ⟨by rfl, ?_⟩) (by assumption) ?_
      · intro w' hSw
        (try dsimp only at hSw)
        go_simp
      (try simp only [Act.put, List.setIfInBounds_toArray, List.set_cons_zero, List.set_cons_succ])
      refine wpAnyH_take (i := 3) (v := (.slice (some ⟨w.heap.size, n, none⟩) (p - n) (p - n))) rfl (by kernel_rfl) (by kernel_rfl) (by kernel_rfl) (fun _ _ _ h => h) (Or.inl ⟨by rfl, ?_⟩) (by assumption) ?_
      · intro w' hSw
        (try dsimp only at hSw)
        (go_simp; try omega)
      (try simp only [Act.put, List.setIfInBounds_toArray, List.set_cons_zero, List.set_cons_succ])
      refine wpAnyH_take (i := 4) (v := (.slice (some ⟨w.heap.size, 0, none⟩) p p)) rfl (by kernel_rfl) (by kernel_rfl) (by kernel_rfl) (fun _ _ _ h => h) (Or.inl ⟨by rfl, ?_⟩) (by assumption) ?_
      · intro w' hSw
        (try dsimp only at hSw)
        go_simp
      (try simp only [Act.put, List.setIfInBounds_toArray, List.set_cons_zero, List.set_cons_succ])
      refine wpAnyH_take (i := 5) (v := (.int .i64 (n : Int))) rfl (by kernel_rfl) (by kernel_rfl) (by kernel_rfl) (fun _ _ _ h => h) (Or.inl ⟨by rfl, ?_⟩) (by assumption) ?_
      · intro w' hSw
        (try dsimp only at hSw)
        go_simp
      (try simp only [Act.put, List.setIfInBounds_toArray, List.set_cons_zero, List.set_cons_succ])
      refine wpAnyH_take (i := 6) (v := (.slice (some ⟨w.heap.size, 0, none⟩) n p)) rfl (by kernel_rfl) (by kernel_rfl) (by kernel_rfl) (fun _ _ _ h => h) (Or.inl ⟨by rfl, ?_⟩) (by assumption) ?_
      · intro w' hSw
        (try dsimp only at hSw)
        (go_simp; try omega)
      (try simp only [Act.put, List.setIfInBounds_toArray, List.set_cons_zero, List.set_cons_succ])
      refine wpAnyH_ready (rs := [7]) (by kernel_rfl) (by simp) ?_
      refine AllReadyH.cons rfl (fun K hK => ?_) AllReadyH.nil
      refine step_copy_splice (by rfl) (.tmp 41) (.tmp 44) 25 25 (by rfl) 3 Tryz.underlying25 (by kernel_rfl) (some ⟨w.heap.size, n, none⟩) (some ⟨w.heap.size, 0, none⟩) (p - n) (p - n) n p (by kernel_rfl) (by kernel_rfl) w.heap.size n (repN n p) 3 OW.out (List.replicate m (.int .i64 (-1))) s1.out (fun _ => ⟨rfl, _, rfl, s4.out⟩) s2.out s3.out w.heap.size w (BW.out.trans ⟨rfl, rfl, rfl, Nat.le_refl _, fun _ _ => rfl⟩) (Nat.le_refl _) ?_
      intro w2 g2 b2
      rw [repN_splice n m p m1.2] at g2
      rw [List.length_replicate]
      refine hK.out _ _ (trivial) (fun hHeld => ?_)
      clear hK
      (try simp only [Act.put, List.setIfInBounds_toArray, List.set_cons_zero, List.set_cons_succ])
      refine wpAnyH_take (i := 8) (v := (.int .i64 ((n : Int) + (m : Int)))) rfl (by kernel_rfl) (by kernel_rfl) (by kernel_rfl) (fun _ _ _ h => h) (Or.inl ⟨by rfl, ?_⟩) (by assumption) ?_
      · intro w' hSw
        (try dsimp only at hSw)
        go_simp
      (try simp only [Act.put, List.setIfInBounds_toArray, List.set_cons_zero, List.set_cons_succ])
      refine wpAnyH_ready (rs := [9]) (by kernel_rfl) (by simp) ?_
      refine AllReadyH.cons rfl (fun K hK => ?_) AllReadyH.nil
      go_simp
      refine hK.out _ _ (trivial) (fun hHeld => ?_)
      clear hK
      (try simp only [Act.put, List.setIfInBounds_toArray, List.set_cons_zero, List.set_cons_succ])
      refine wpAnyH_done (by kernel_rfl) ?_ _
      clear hHeld s1 s2 s3 s4 OW BW
      go_wp2_with fail
      go_roundw
      case rel => exact ⟨n + m, by omega, by omega, by go_num, g2.out, b2⟩
      case measure => simp [intOf]; omega
    case neg =>
      obtain rfl : n = p := by omega
      have hni : ¬ (n : Int) < (n : Int) := by omega
      go_wp2_with fail
      go_ret
      exact ⟨_, rfl, OW.out, Nat.le_refl _, BW.out⟩
end Go.Proofs.YtndfhpfhgdamgaaGreatDoor
namespace Go.Proofs.YtndfhpfhgdamgaaGreatDoor
open Go.RowKit
/-- the nodes that have a partition -/
def hasP (n : ND) : Bool := decide (0 < n.ps.length)
def kpN (ns : List ND) : Nat := (ns.filter hasP).length
theorem kpN_le (ns : List ND) : kpN ns ≤ ns.length := List.length_filter_le _ _
theorem kpN_take {ns : List ND} {q : Nat} (h : q < ns.length) : kpN (ns.take (q + 1)) = kpN (ns.take q) + (if 0 < ns[q].ps.length then 1 else 0) := by
  unfold kpN
  rw [List.take_succ_eq_append_getElem h, List.filter_append, List.length_append]
  congr 1
  unfold hasP
  rw [List.filter_cons]
  by_cases e : 0 < ns[q].ps.length
  · rw [if_pos (by simpa using e), if_pos e]
    rfl
  · rw [if_neg (by simpa using e), if_neg e]
    rfl
set_option maxHeartbeats 8000000 in
set_option maxRecDepth 100000 in
set_option linter.unusedSimpArgs false in
set_option linter.unusedVariables false in
theorem keeping_any (N : Nat) (w : World) (ao : Option Addr) (b o cap : Nat) (pv : Nat → Value) (ns : List ND) (h : NsAt N w ao b o pv ns) (hN : N ≤ w.heap.size) :
    Calls Tryz.prog 61 #[.slice ao ns.length cap] w fun e w' => e = .returned (.int .i64 (kpN ns : Int)) ∧ Below w.heap.size w w' := by
  have hmx : ns.length ≤ 9223372036854775807 := by have := h.len; omega
  have HN := hide h
  clear h
  go_enter Tryz.func61, Tryz.ntmps61
  go_wp2_with fail
  go_loopw [3, 8] (fun vc vi wr => ∃ (q : Nat), q ≤ ns.length ∧ vi = .int .i64 (q : Int) ∧ vc = .int .i64 (kpN (ns.take q) : Int) ∧ Below w.heap.size w wr) (fun _ vi _ => ns.length - (intOf vi).toNat)
  case atStart => exact ⟨0, Nat.zero_le _, rfl, rfl, Below.refl _ _⟩
  case round =>
    obtain ⟨q, hq, rfl, rfl, hB⟩ := hrel
    have HB := hide hB
    clear hB
    by_cases hql : q < ns.length
    case pos =>
      have hao := HN.out.at0 (by omega)
      subst hao
      have hqi : (q : Int) < (ns.length : Int) := by omega
      have NW := HN.out.below (HB.out.mono hN)
      have e0 := NW.cz q hql
      have e1 := NW.cp q hql
      have HT := hide (kpN_take hql)
      have hk := kpN_le (ns.take q)
      rw [List.length_take] at hk
      obtain ⟨pa, pb, po, pc, hpv, hp⟩ := NW.ps q hql
      have hpl := hp.len
      rw [hpv] at e1
      clear NW hpv hp
      generalize ns[q].z = z at *
      generalize ns[q].ps.length = pl at *
      have BZ := hide (HB.out.alloc HB.out.size (.cells #[.int .i64 z, .slice pa pl pc] 87))
      by_cases p0 : 0 < pl
      · have hT := HT.out
        rw [if_pos p0] at hT
        have HT2 := hide hT
        clear hT HT
        have p0' : (0 : Int) < (pl : Int) := by omega
        go_wp2_with fail
        go_roundw
        case rel => exact ⟨q + 1, by omega, by go_num, by rw [HT2.out]; simp, BZ.out⟩
        case measure => simp [intOf]; omega
      · have hT := HT.out
        rw [if_neg p0, Nat.add_zero] at hT
        have HT2 := hide hT
        clear hT HT
        have p0' : ¬ (0 : Int) < (pl : Int) := by omega
        go_wp2_with fail
        go_roundw
        case rel => exact ⟨q + 1, by omega, by go_num, by rw [HT2.out]; rfl, BZ.out⟩
        case measure => simp [intOf]; omega
    case neg =>
      obtain rfl : q = ns.length := by omega
      rw [List.take_length]
      go_wp2_with fail
      go_ret
      exact ⟨rfl, HB.out⟩
/-- the owners so far -/
def outP (ns : List ND) (i j : Nat) : List Value := (List.range (flat ns).length).map fun k : Nat => .int .i64 (ownF (k : Int) 0 (preN ns i j))
def outL (ns : List ND) : List Value := (List.range (flat ns).length).map fun k : Nat => .int .i64 (ownF (k : Int) 0 ns)
theorem outP_len (ns : List ND) (i j : Nat) : (outP ns i j).length = (flat ns).length := by simp [outP]
theorem outP_at (ns : List ND) (i j k : Nat) (h : k < (flat ns).length) : (outP ns i j)[k]? = some (.int .i64 (ownF (k : Int) 0 (preN ns i j))) := by
  unfold outP
  rw [List.getElem?_map, List.getElem?_range h]
  rfl
theorem outP_start (ns : List ND) : outP ns 0 0 = repN (flat ns).length (flat ns).length := by
  unfold outP repN
  rw [Nat.sub_self, List.replicate_zero, List.append_nil]
  apply List.ext_getElem
  · simp
  · intro k h1 h2
    simp [preN, ownF]
theorem own_pre (ns : List ND) (i j : Nat) (hi : i < ns.length) (k : Int) : ownF k 0 (preN ns i j) = if ownF k 0 (ns.take i) = -1 then (if k ∈ ns[i].ps.take j then (i : Int) else -1) else ownF k 0 (ns.take i) := by
  unfold preN
  rw [List.getElem?_eq_getElem hi, Option.getD_some, ownF_append, List.length_take, Nat.zero_add, Nat.min_eq_left (Nat.le_of_lt hi)]
theorem own_next (ns : List ND) (i : Nat) (hi : i < ns.length) (k : Int) : ownF k 0 (preN ns i ns[i].ps.length) = ownF k 0 (ns.take (i + 1)) := by
  rw [own_pre ns i _ hi, List.take_length, List.take_succ_eq_append_getElem hi, ownF_append, List.length_take, Nat.zero_add, Nat.min_eq_left (Nat.le_of_lt hi)]
theorem own_zero (ns : List ND) (i : Nat) (k : Int) : ownF k 0 (preN ns i 0) = ownF k 0 (ns.take i) := by
  unfold preN
  rw [List.take_zero, ownF_append]
  simp only [List.not_mem_nil, if_false]
  split <;> simp_all
theorem outP_next (ns : List ND) (i : Nat) (hi : i < ns.length) : outP ns i ns[i].ps.length = outP ns (i + 1) 0 := by
  unfold outP
  congr 1
  funext k
  rw [own_next ns i hi, own_zero]
theorem outP_end (ns : List ND) : outP ns ns.length 0 = outL ns := by
  unfold outP outL
  congr 1
  funext k
  rw [own_zero, List.take_length]
theorem outP_step (ns : List ND) (i j k : Nat) (hi : i < ns.length) (hj : j < ns[i].ps.length) (hk : ns[i].ps[j] = (k : Int)) (h : ownF (k : Int) 0 (preN ns i j) = -1) : (outP ns i j).set k (.int .i64 (i : Int)) = outP ns i (j + 1) := by
  apply List.ext_getElem?
  intro q
  rw [List.getElem?_set]
  have hp := own_pre ns i j hi
  have hp1 := own_pre ns i (j + 1) hi
  by_cases hq : q < (flat ns).length
  · rw [outP_at _ _ _ _ hq]
    by_cases e : k = q
    · subst e
      rw [if_pos rfl, if_pos (by rw [outP_len]; exact hq), outP_at _ _ _ _ hq, hp1]
      rw [hp] at h
      have h0 : ownF (k : Int) 0 (ns.take i) = -1 := by
        split at h
        · assumption
        · exact h
      rw [if_pos h0, if_pos]
      rw [List.take_succ_eq_append_getElem hj, hk]
      simp
    · rw [if_neg e, outP_at _ _ _ _ hq, hp, hp1]
      have : ((q : Int) ∈ ns[i].ps.take (j + 1)) ↔ ((q : Int) ∈ ns[i].ps.take j) := by
        rw [List.take_succ_eq_append_getElem hj, hk, List.mem_append, List.mem_singleton]
        constructor
        · rintro (h' | h')
          · exact h'
          · omega
        · exact Or.inl
      simp only [this]
  · rw [List.getElem?_eq_none (by rw [outP_len]; omega), List.getElem?_eq_none (by rw [outP_len]; omega)]
    split
    · rw [if_neg (by rw [outP_len]; omega)]
    · rfl
theorem flat_take_le (ns : List ND) (q : Nat) : (flat (ns.take q)).length ≤ (flat ns).length := by
  conv => rhs; rw [← List.take_append_drop q ns, flat_append, List.length_append]
  omega
theorem flat_take_succ {ns : List ND} {q : Nat} (h : q < ns.length) : (flat (ns.take (q + 1))).length = (flat (ns.take q)).length + ns[q].ps.length := by
  rw [List.take_succ_eq_append_getElem h, flat_append, List.length_append, flat_one]
end Go.Proofs.YtndfhpfhgdamgaaGreatDoor
namespace Go.Proofs.YtndfhpfhgdamgaaGreatDoor
open Go.RowKit
/-- what spread answers -/
structure Sprd (ns : List ND) (w : World) (e : Ending) (w' : World) : Prop where
  yes : Dealt ns → ∃ g, e = .returned (.tuple #[.slice (some ⟨g, 0, none⟩) (flat ns).length (flat ns).length, .bool true]) ∧ w'.heap[g]? = some (.cells (outL ns).toArray 3 (0, 0)) ∧ w.heap.size ≤ g
  no : ¬ Dealt ns → e = .returned (.tuple #[.slice none 0 0, .bool false])
  bel : Below w.heap.size w w'
theorem Sprd.bad {ns : List ND} {w w' : World} {e : Ending} (h : ¬ Dealt ns) (he : e = .returned (.tuple #[.slice none 0 0, .bool false])) (hb : Below w.heap.size w w') : Sprd ns w e w' := ⟨fun d => absurd d h, fun _ => he, hb⟩
theorem flat_cap {N : Nat} {w : World} {ao : Option Addr} {b o : Nat} {pv : Nat → Value} {ns : List ND} (h : NsAt N w ao b o pv ns) (q : Nat) (hq : q ≤ ns.length) : (flat (ns.take q)).length ≤ q * 17592186043904 := by
  induction q with
  | zero => simp [flat]
  | succ q ih =>
    rw [flat_take_succ (by omega)]
    have := ih (by omega)
    obtain ⟨_, _, _, _, _, hp⟩ := h.ps q (by omega)
    have := hp.len
    omega
theorem row_cell {w : World} {g : Nat} {l : List Value} {t : TypeId} (h : w.heap[g]? = some (.cells l.toArray t (0, 0))) (k : Nat) : w.cell? ⟨g, k, none⟩ = l[k]? := by
  unfold World.cell?
  rw [h]
  simp
theorem row_fz {w : World} {g : Nat} {l : List Value} {t : TypeId} (h : w.heap[g]? = some (.cells l.toArray t (0, 0))) (k : Nat) : w.frozen? ⟨g, k, none⟩ = false := by
  unfold World.frozen?
  rw [h]
  simp
theorem row_set {w : World} {g : Nat} {l : List Value} {t : TypeId} (h : w.heap[g]? = some (.cells l.toArray t (0, 0))) (k : Nat) (v : Value) : (w.setCell ⟨g, k, none⟩ v).heap[g]? = some (.cells (l.set k v).toArray t (0, 0)) := by
  simp only [World.setCell, Array.getElem?_modify, if_true, h, Option.map_some]
  simp
theorem below_setC {n₀ : Nat} {w X : World} {G j : Nat} {v : Value} (h : Below n₀ w X) (hG : n₀ ≤ G) : Below n₀ w (X.setCell ⟨G, j, none⟩ v) := ⟨h.os, h.tape, h.output, by rw [World.size_setCell]; exact h.size, fun i hi => (Below.heap_setCell _ _ _ i (fun e => by simp at e; omega)).trans (h.block i hi)⟩
theorem lastP_ge {ns : List ND} {i j : Nat} (h : Fine ns i j) (hi : i < ns.length) (hj : j ≤ ns[i].ps.length) : -1 ≤ lastP ns i j := by
  unfold lastP
  by_cases j0 : j = 0
  · rw [if_pos j0]
    omega
  · rw [if_neg j0, List.getElem?_eq_getElem hi, Option.getD_some, List.getElem?_eq_getElem (by omega), Option.getD_some]
    have hm : ns[i].ps[j - 1] ∈ flat (preN ns i j) := by
      unfold preN
      rw [List.getElem?_eq_getElem hi, Option.getD_some, flat_append, flat_one]
      refine List.mem_append_right _ ?_
      rw [List.mem_take_iff_getElem]
      exact ⟨j - 1, by omega, rfl⟩
    have := (h.rng _ hm).1
    omega
theorem lastP_succ {ns : List ND} {i j : Nat} (hi : i < ns.length) (hj : j < ns[i].ps.length) : lastP ns i (j + 1) = ns[i].ps[j] := by
  unfold lastP
  rw [if_neg (by omega), List.getElem?_eq_getElem hi, Option.getD_some, Nat.add_sub_cancel, List.getElem?_eq_getElem hj, Option.getD_some]
set_option maxHeartbeats 8000000 in
set_option maxRecDepth 100000 in
set_option linter.unusedSimpArgs false in
set_option linter.unusedVariables false in
theorem spread_any (N : Nat) (w : World) (ao : Option Addr) (b o cap : Nat) (pv : Nat → Value) (ns : List ND) (h : NsAt N w ao b o pv ns) (hN : N ≤ w.heap.size) (h16 : ns.length ≤ 16) :
    Calls Tryz.prog 60 #[.slice ao ns.length cap] w fun e w' => Sprd ns w e w' := by
  have hmx : ns.length ≤ 9223372036854775807 := by have := h.len; omega
  have HN := hide h
  clear h
  go_enter Tryz.func60, Tryz.ntmps60
  go_wp2_with fail
  go_loopw [4, 15] (fun vc vi wr => ∃ (q : Nat), q ≤ ns.length ∧ vi = .int .i64 (q : Int) ∧ vc = .int .i64 ((flat (ns.take q)).length : Int) ∧ Below w.heap.size w wr) (fun _ vi _ => ns.length - (intOf vi).toNat)
  case atStart => exact ⟨0, Nat.zero_le _, rfl, rfl, Below.refl _ _⟩
  case round =>
    obtain ⟨q, hq, rfl, rfl, hB⟩ := hrel
    have HB := hide hB
    clear hB
    by_cases hql : q < ns.length
    case pos =>
      have hao := HN.out.at0 (by omega)
      subst hao
      have hqi : (q : Int) < (ns.length : Int) := by omega
      have NW := HN.out.below (HB.out.mono hN)
      have e0 := NW.cz q hql
      have e1 := NW.cp q hql
      have HT := hide (flat_take_succ hql)
      have hk := flat_cap HN.out q (by omega)
      obtain ⟨pa, pb, po, pc, hpv, hp⟩ := NW.ps q hql
      have hpl := hp.len
      rw [hpv] at e1
      clear NW hpv hp
      generalize ns[q].z = z at *
      generalize ns[q].ps.length = pl at *
      generalize hfl : (flat (ns.take q)).length = fl at *
      have BZ := hide (HB.out.alloc HB.out.size (.cells #[.int .i64 z, .slice pa pl pc] 87))
      have ew := wrap_in (x := (fl : Int) + (pl : Int)) (by omega) (by omega)
      clear hk
      go_wp2_with fail
      go_roundw
      case rel => exact ⟨q + 1, by omega, by go_num, by rw [HT.out]; simp; exact ew, BZ.out⟩
      case measure => simp [intOf]; omega
    case neg =>
      obtain rfl : q = ns.length := by omega
      have hk := flat_cap HN.out ns.length (Nat.le_refl _)
      rw [List.take_length] at hk ⊢
      by_cases p1 : (flat ns).length < 1
      · have p1' : ((flat ns).length : Int) < 1 := by omega
        have ND : Hid (¬ Dealt ns) := fun d => by have := d.p1; omega
        go_wp2_with fail
        go_ret2
        exact Sprd.bad ND.out rfl HB.out
      by_cases p2 : 64 < (flat ns).length
      · have p1' : ¬ ((flat ns).length : Int) < 1 := by omega
        have p2' : (64 : Int) < ((flat ns).length : Int) := by omega
        have ND : Hid (¬ Dealt ns) := fun d => by have := d.p2; omega
        go_wp2_with fail
        go_ret2
        exact Sprd.bad ND.out rfl HB.out
      have p1' : ¬ ((flat ns).length : Int) < 1 := by omega
      have p2' : ¬ (64 : Int) < ((flat ns).length : Int) := by omega
      obtain ⟨p, hp⟩ : ∃ p, p = (flat ns).length := ⟨_, rfl⟩
      have OS := outP_start ns
      rw [← hp] at OS p1 p2 p1' p2' hk ⊢
      have HP := hide hp
      have HO := hide OS
      clear OS hp
      obtain ⟨W1, hW1⟩ : ∃ W1, W1 = wr.alloc (.cells #[.int .i64 (-1)] 3) := ⟨_, rfl⟩
      have RP := repeat_any W1 wr.heap.size 1 p (by rw [hW1]; unfold World.cell?; rw [heap_last]; rfl) (by rw [hW1]; simp) (by omega) (by omega)
      have B1 : Hid (Below w.heap.size w W1) := by rw [hW1]; exact HB.out.alloc HB.out.size _
      have RP := hide RP
      clear HB
      go_wp2_with fail
      rw [← hW1]
      clear hW1
      refine Calls.mono RP.out ?_
      rintro e W2 ⟨g, rfl, hg, hgs, hb⟩
      have G2 := hide hg
      have gs : Hid (w.heap.size ≤ g) := Nat.le_trans B1.out.size hgs
      have B2 := hide (B1.out.trans (hb.mono B1.out.size))
      clear hg hgs hb RP B1
      go_wp2_with fail
      go_loopw [36] (fun vi wr => ∃ (i : Nat), i ≤ ns.length ∧ vi = .int .i64 (i : Int) ∧ wr.heap[g]? = some (.cells (outP ns i 0).toArray 3 (0, 0)) ∧ Hid (Fine ns i 0) ∧ Below w.heap.size w wr) (fun vi _ => ns.length - (intOf vi).toNat)
      case atStart => exact ⟨0, Nat.zero_le _, rfl, by rw [HO.out]; exact G2.out, Fine.start ns, B2.out⟩
      case round =>
        clear G2 B2 HO
        obtain ⟨i, hi, rfl, hG, hF, hB⟩ := hrel
        have G2 := hide hG
        have B2 := hide hB
        clear hG hB
        by_cases hil : i < ns.length
        case neg =>
          obtain rfl : i = ns.length := by omega
          have hii : ¬ (ns.length : Int) < (ns.length : Int) := by omega
          have DE := hide (hF.out.dealt (by rw [← HP.out]; omega) (by rw [← HP.out]; omega))
          have G3 := G2.out
          rw [outP_end] at G3
          have G3 := hide G3
          clear hF G2
          go_wp2_with fail
          go_ret2
          exact ⟨fun _ => ⟨g, by rw [← HP.out]; rfl, G3.out, gs.out⟩, fun d => absurd DE.out d, B2.out⟩
        case pos =>
          have hao := HN.out.at0 (by omega)
          subst hao
          have hii : (i : Int) < (ns.length : Int) := by omega
          have NW := HN.out.below (B2.out.mono hN)
          have e0 := NW.cz i hil
          have e1 := NW.cp i hil
          obtain ⟨pa, pb, po, pc, hpv, hp⟩ := HN.out.ps i hil
          have hpl := hp.len
          rw [hpv] at e1
          obtain ⟨z, hz⟩ : ∃ z, z = ns[i].z := ⟨_, rfl⟩
          rw [← hz] at e0
          obtain ⟨W3, hW3⟩ : ∃ W3, W3 = wr.alloc (.cells #[.int .i64 z, .slice pa ns[i].ps.length pc] 87) := ⟨_, rfl⟩
          have B3 : Hid (Below w.heap.size w W3) := by rw [hW3]; exact B2.out.alloc B2.out.size _
          have P3 := hide hp
          have G3 : Hid (W3.heap[g]? = some (.cells (outP ns i 0).toArray 3 (0, 0))) := by
            rw [hW3]
            exact (((Below.refl wr.heap.size wr).alloc (Nat.le_refl _) _).block g (blk_lt G2.out)).trans G2.out
          have X1 : W3.cell? ⟨wr.heap.size, 1, none⟩ = some (.slice pa ns[i].ps.length pc) := by rw [hW3]; unfold World.cell?; rw [heap_last]; rfl
          clear NW hpv hp hz
          go_wp2_with fail
          rw [← hW3]
          clear hW3 G2 B2 e0 e1
          go_loopw [10, 44] (fun vl vj wr => ∃ (j : Nat), j ≤ ns[i].ps.length ∧ vj = .int .i64 (j : Int) ∧ vl = .int .i64 (lastP ns i j) ∧ wr.heap[g]? = some (.cells (outP ns i j).toArray 3 (0, 0)) ∧ Hid (Fine ns i j) ∧ Below w.heap.size w wr) (fun _ vj _ => ns[i].ps.length - (intOf vj).toNat)
          case atStart => exact ⟨0, Nat.zero_le _, rfl, rfl, G3.out, hF, B3.out⟩
          case round =>
            clear hF
            obtain ⟨j, hj, rfl, rfl, hG, hF, hB⟩ := hrel
            have G2 := hide hG
            have B2 := hide hB
            clear hG hB G3 B3 X1
            by_cases hjl : j < ns[i].ps.length
            case neg =>
              obtain rfl : j = ns[i].ps.length := by omega
              have hji : ¬ (ns[i].ps.length : Int) < (ns[i].ps.length : Int) := by omega
              have F2 := hide (hF.out.next hil)
              have G3 := G2.out
              rw [outP_next ns i hil] at G3
              have G3 := hide G3
              clear G2 hF
              go_wp2_with fail
              go_roundw
              case rel => exact ⟨i + 1, by omega, by go_num, G3.out, F2.out, B2.out⟩
              case measure => simp [intOf]; omega
            case pos =>
              have hpa := P3.out.at0 (by omega)
              subst hpa
              have hji : (j : Int) < (ns[i].ps.length : Int) := by omega
              have cx := (P3.out.below (B2.out.mono hN)).c j hjl
              have NB := hide (fun hb => not_dealt (ns := ns) hil hjl hb)
              have ST := hide (fun a b c => hF.out.step hil hjl a b c)
              have OS := hide (fun k => outP_step ns i j k hil hjl)
              have LG := lastP_ge hF.out hil hj
              have LS := hide (lastP_succ hil hjl)
              rw [← HP.out] at NB ST
              generalize ns[i].ps[j] = x at *
              generalize hl : lastP ns i j = l at *
              clear hl
              by_cases x1 : x ≤ l
              · have ND := hide (NB.out (Or.inl x1))
                go_wp2_with fail
                go_ret2
                exact Sprd.bad ND.out rfl B2.out
              by_cases x2 : (p : Int) ≤ x
              · have ND := hide (NB.out (Or.inr (Or.inl x2)))
                go_wp2_with fail
                go_ret2
                exact Sprd.bad ND.out rfl B2.out
              obtain ⟨k, rfl⟩ : ∃ k : Nat, x = (k : Int) := ⟨x.toNat, by omega⟩
              have kp : k < p := by omega
              have ck := row_cell G2.out k
              rw [outP_at ns i j k (by rw [← HP.out]; exact kp)] at ck
              have fk := row_fz G2.out k
              have GS := row_set G2.out k (.int .i64 (i : Int))
              generalize hw : ownF (k : Int) 0 (preN ns i j) = ow at *
              by_cases x3 : ow = -1
              case neg =>
                have x3' : (ow != -1) = true := by simpa using x3
                have ND := hide (NB.out (Or.inr (Or.inr x3)))
                clear GS hw
                go_wp2_with fail
                go_ret2
                exact Sprd.bad ND.out rfl B2.out
              case pos =>
                subst x3
                rw [OS.out k rfl hw] at GS
                have G3 := hide GS
                have F2 := hide (ST.out (by omega) (by omega) rfl)
                have B3 := hide (below_setC (j := k) (v := .int .i64 (i : Int)) B2.out gs.out)
                clear GS hw hF NB ST OS
                go_wp2_with fail
                go_roundw
                case rel => exact ⟨j + 1, by omega, by go_num, by rw [LS.out], G3.out, F2.out, B3.out⟩
                case measure => simp [intOf]; omega
end Go.Proofs.YtndfhpfhgdamgaaGreatDoor
