import Derived.Test.YtndfhpfhgdamgaaGreatDoorGDsStab
namespace Go.Proofs.YtndfhpfhgdamgaaGreatDoor.Cn
open Go.RowKit
/-- ints that can be read -/
structure IsAt (w : World) (ao : Option Addr) (b o : Nat) (ns : List Int) : Prop where
  at0 : 0 < ns.length → ao = some ⟨b, o, none⟩
  cell : ∀ i (h : i < ns.length), w.cell? ⟨b, o + i, none⟩ = some (.int .i64 ns[i])
  len : ns.length ≤ 9223372036854775807
theorem IsAt.kp {w w' : World} {ao : Option Addr} {b o : Nat} {ns : List Int} (h : IsAt w ao b o ns) {S : Nat → Prop} (hk : Kp w w' S) (hS : 0 < ns.length → ¬ S b) : IsAt w' ao b o ns := by
  refine ⟨h.at0, fun i hi => ?_, h.len⟩
  have hb := World.block_lt_of_cell? w _ (h.cell i hi)
  have e := hk.block b hb (hS (by omega))
  have := h.cell i hi
  unfold World.cell? at this ⊢
  dsimp only at this ⊢
  rw [e]
  exact this
/-- check's answer -/
def chkE (n : Nat) : List Int → Int
  | [] => 0
  | a :: r => if 0 ≤ a ∧ a < (n : Int) then chkE n r else 68
theorem chkE_ok {n : Nat} : ∀ {l : List Int}, (∀ a ∈ l, 0 ≤ a ∧ a < (n : Int)) → chkE n l = 0
  | [], _ => rfl
  | a :: r, h => by
    unfold chkE
    rw [if_pos (h a (List.mem_cons_self))]
    exact chkE_ok fun b hb => h b (List.mem_cons_of_mem _ hb)
theorem chkE_bad {n : Nat} : ∀ {l : List Int}, ¬ (∀ a ∈ l, 0 ≤ a ∧ a < (n : Int)) → chkE n l = 68
  | [], h => absurd (by simp) h
  | a :: r, h => by
    unfold chkE
    split
    · next ha =>
      refine chkE_bad fun q => h fun b hb => ?_
      rcases List.mem_cons.1 hb with rfl | hb
      · exact ha
      · exact q b hb
    · rfl
set_option maxHeartbeats 4000000 in
set_option maxRecDepth 100000 in
set_option linter.unusedSimpArgs false in
set_option linter.unusedVariables false in
theorem none_any {w : World} {D M1 M2 : Nat} {d : Dt} (h : DtB w D M1 M2 d) (hn : 1 ≤ d.n) :
    Calls Tryz.prog 72 #[.pointer (some ⟨D, 0, none⟩)] w fun e w' => e = .returned (.bool false) ∧ w = w' := by
  have c0 := h.c0
  have q0 : ((d.n : Int) == 0) = false := by simp; omega
  have q1 : (d.n == 0) = false := by simp; omega
  generalize d.n = n at *
  clear h
  go_enter Tryz.func72, Tryz.ntmps72
  go_wp2_with fail
  go_ret
  exact ⟨rfl, rfl⟩
set_option maxHeartbeats 4000000 in
set_option maxRecDepth 100000 in
set_option linter.unusedSimpArgs false in
set_option linter.unusedVariables false in
theorem none_nil (w : World) :
    Calls Tryz.prog 72 #[.pointer none] w fun e w' => e = .returned (.bool true) ∧ w = w' := by
  go_enter Tryz.func72, Tryz.ntmps72
  go_wp2_with fail
  go_ret
  exact ⟨rfl, rfl⟩
set_option maxHeartbeats 4000000 in
set_option maxRecDepth 100000 in
set_option linter.unusedSimpArgs false in
set_option linter.unusedVariables false in
theorem check_nil (w : World) (v : Value) :
    Calls Tryz.prog 74 #[.pointer none, v] w fun e w' => e = .returned (.int .i64 2) ∧ w = w' := by
  have NO := hide (none_nil w)
  go_enter Tryz.func74, Tryz.ntmps74
  go_wp2_with fail
  refine Calls.mono NO.out ?_
  rintro e W1 ⟨rfl, rfl⟩
  go_wp2_with fail
  go_ret
  exact ⟨rfl, rfl⟩
set_option maxHeartbeats 4000000 in
set_option maxRecDepth 100000 in
set_option linter.unusedSimpArgs false in
set_option linter.unusedVariables false in
theorem check_any {w : World} {D M1 M2 : Nat} {d : Dt} (h : DtB w D M1 M2 d) (hn : 1 ≤ d.n) (ao : Option Addr) (b o cap : Nat) (ns : List Int) (hs : IsAt w ao b o ns) :
    Calls Tryz.prog 74 #[.pointer (some ⟨D, 0, none⟩), .slice ao ns.length cap] w fun e w' => e = .returned (.int .i64 (chkE d.n ns)) ∧ w = w' := by
  have NO := hide (none_any h hn)
  have c0 := h.c0
  have hl := hs.len
  have HS := hide hs
  generalize d.n = n at *
  clear h hs
  go_enter Tryz.func74, Tryz.ntmps74
  go_wp2_with fail
  refine Calls.mono NO.out ?_
  rintro e W1 ⟨rfl, rfl⟩
  clear NO
  go_wp2_with fail
  go_loopw [6, 11] (fun vn vi wr => w = wr ∧ ∃ (i : Nat), i ≤ ns.length ∧ vi = .int .i64 (i : Int) ∧ Hid (chkE n (ns.drop i) = chkE n ns)) (fun _ vi _ => ns.length - (intOf vi).toNat)
  case atStart => exact ⟨rfl, 0, Nat.zero_le _, rfl, rfl⟩
  case round =>
    obtain ⟨rfl, i, hi, rfl, HC⟩ := hrel
    by_cases hin : i < ns.length
    case pos =>
      have hii : (i : Int) < (ns.length : Int) := by omega
      have c1 := HS.out.cell i hin
      obtain rfl := HS.out.at0 (by omega)
      have HD : Hid (chkE n ns = if 0 ≤ ns[i] ∧ ns[i] < (n : Int) then chkE n (ns.drop (i + 1)) else 68) := by
        unfold Hid
        rw [← HC.out, List.drop_eq_getElem_cons hin]
        rfl
      generalize ns[i] = a at *
      by_cases h0 : a < 0
      · go_wp2_with fail
        go_ret
        exact ⟨by rw [HD.out, if_neg (by omega)]; rfl, rfl⟩
      · by_cases h1 : (n : Int) ≤ a
        · go_wp2_with fail
          go_ret
          exact ⟨by rw [HD.out, if_neg (by omega)]; rfl, rfl⟩
        · go_wp2_with fail
          go_roundw
          case rel => exact ⟨by first | trivial | rfl, i + 1, by omega, by go_num, by rw [HD.out, if_pos (by omega)]; exact rfl⟩
          case measure => simp [intOf]; omega
    case neg =>
      obtain rfl : i = ns.length := by omega
      go_wp2_with fail
      go_ret
      exact ⟨by rw [← HC.out, List.drop_length]; rfl, rfl⟩
end Go.Proofs.YtndfhpfhgdamgaaGreatDoor.Cn
namespace Go.Proofs.YtndfhpfhgdamgaaGreatDoor.Cn
open Go.RowKit
theorem one_at (w : World) (k : Int) : IsAt (w.alloc (.cells #[.int .i64 k] 3)) (some ⟨w.heap.size, 0, none⟩) w.heap.size 0 [k] := by
  refine ⟨fun _ => rfl, fun i hi => ?_, by simp⟩
  obtain rfl : i = 0 := by simpa using hi
  unfold World.cell?
  dsimp only
  rw [heap_last]
  rfl
set_option maxHeartbeats 4000000 in
set_option maxRecDepth 100000 in
set_option linter.unusedSimpArgs false in
set_option linter.unusedVariables false in
theorem till_any {w : World} {D M1 M2 : Nat} {L1 L2 : List (Int × Int)} {d : Dt} (h : DtIn w D M1 M2 L1 L2 d) (k : Int) (h0 : -9223372036854775808 ≤ k) (h1 : k < 9223372036854775808) :
    Calls Tryz.prog 89 #[.pointer (some ⟨D, 0, none⟩), .int .i64 k] w fun e w' => e = .returned (.int .i64 (d.till k)) ∧ w = w' := by
  have c3 := h.blk.c3
  have c5 := h.blk.c5
  have LO := h.m2.look h0 h1
  rw [h.h2] at LO
  have HT : Hid (d.till k = if d.now < d.en k then d.en k else 0) := rfl
  generalize d.till k = tl at *
  generalize d.en k = en at *
  generalize d.now = now at *
  clear h
  by_cases hlt : now < en
  · go_enter Tryz.func89, Tryz.ntmps89
    go_wp2_with fail
    go_ret
    exact ⟨by rw [HT.out, if_pos (by omega)]; rfl, rfl⟩
  · go_enter Tryz.func89, Tryz.ntmps89
    go_wp2_with fail
    go_ret
    exact ⟨by rw [HT.out, if_neg (by omega)]; rfl, rfl⟩
set_option maxHeartbeats 4000000 in
set_option maxRecDepth 100000 in
set_option linter.unusedSimpArgs false in
set_option linter.unusedVariables false in
theorem alone_any {w : World} {D M1 M2 : Nat} {L1 L2 : List (Int × Int)} {d : Dt} (h : DtIn w D M1 M2 L1 L2 d) (k : Int) (h0 : -9223372036854775808 ≤ k) (h1 : k < 9223372036854775808) :
    Calls Tryz.prog 76 #[.pointer (some ⟨D, 0, none⟩), .int .i64 k] w fun e w' => e = .returned (.bool (decide (0 < d.st k ∧ L1.length = 1))) ∧ w = w' := by
  have c4 := h.blk.c4
  have LO := h.m1.look h0 h1
  have LE := h.m1.len
  rw [h.h1] at LO
  generalize d.st k = st at *
  generalize L1.length = m at *
  clear h
  by_cases hlt : 0 < st
  · by_cases hm : m = 1
    · subst hm
      go_enter Tryz.func76, Tryz.ntmps76
      go_wp2_with fail
      go_ret
      exact ⟨by simp [hlt], rfl⟩
    · have hm' : ((m : Int) == 1) = false := by simp; omega
      have HM := hide hm
      clear hm
      go_enter Tryz.func76, Tryz.ntmps76
      go_wp2_with fail
      go_ret
      exact ⟨by rw [decide_eq_false (fun q => HM.out q.2)]; rfl, rfl⟩
  · go_enter Tryz.func76, Tryz.ntmps76
    go_wp2_with fail
    go_ret
    exact ⟨by rw [decide_eq_false (by omega)]; rfl, rfl⟩
set_option maxHeartbeats 4000000 in
set_option maxRecDepth 100000 in
set_option linter.unusedSimpArgs false in
set_option linter.unusedVariables false in
theorem Silent_nil (w : World) (k : Int) : Calls Tryz.prog 75 #[.pointer none, .int .i64 k] w fun e w' => e = .returned (.tuple #[.bool false, .int .i64 2]) ∧ Below w.heap.size w w' := by
  have CH := hide fun w v => check_nil w v
  go_enter Tryz.func75, Tryz.ntmps75
  go_wp2_with fail
  refine Calls.mono (CH.out _ _) ?_
  rintro e W1 ⟨rfl, rfl⟩
  go_wp2_with fail
  go_ret2
  exact ⟨rfl, (Below.refl _ w).alloc (Nat.le_refl _) _⟩
set_option maxHeartbeats 4000000 in
set_option maxRecDepth 100000 in
set_option linter.unusedSimpArgs false in
set_option linter.unusedVariables false in
theorem Good_nil (w : World) (k : Int) : Calls Tryz.prog 54 #[.pointer none, .int .i64 k] w fun e w' => e = .returned (.int .i64 2) ∧ Below w.heap.size w w' := by
  have CH := hide fun w v => check_nil w v
  go_enter Tryz.func54, Tryz.ntmps54
  go_wp2_with fail
  refine Calls.mono (CH.out _ _) ?_
  rintro e W1 ⟨rfl, rfl⟩
  go_wp2_with fail
  go_ret
  exact ⟨rfl, (Below.refl _ w).alloc (Nat.le_refl _) _⟩
set_option maxHeartbeats 4000000 in
set_option maxRecDepth 100000 in
set_option linter.unusedSimpArgs false in
set_option linter.unusedVariables false in
theorem Bad_nil (w : World) (k : Int) : Calls Tryz.prog 51 #[.pointer none, .int .i64 k] w fun e w' => e = .returned (.int .i64 2) ∧ Below w.heap.size w w' := by
  have CH := hide fun w v => check_nil w v
  go_enter Tryz.func51, Tryz.ntmps51
  go_wp2_with fail
  refine Calls.mono (CH.out _ _) ?_
  rintro e W1 ⟨rfl, rfl⟩
  go_wp2_with fail
  go_ret
  exact ⟨rfl, (Below.refl _ w).alloc (Nat.le_refl _) _⟩
set_option maxHeartbeats 4000000 in
set_option maxRecDepth 100000 in
set_option linter.unusedSimpArgs false in
set_option linter.unusedVariables false in
theorem Tick_nil (w : World) : Calls Tryz.prog 49 #[.pointer none] w fun e w' => e = .returned (.int .i64 2) ∧ w = w' := by
  have CH := hide fun w => none_nil w
  go_enter Tryz.func49, Tryz.ntmps49
  go_wp2_with fail
  refine Calls.mono (CH.out _) ?_
  rintro e W1 ⟨rfl, rfl⟩
  go_wp2_with fail
  go_ret
  exact ⟨rfl, rfl⟩
set_option maxHeartbeats 4000000 in
set_option maxRecDepth 100000 in
set_option linter.unusedSimpArgs false in
set_option linter.unusedVariables false in
theorem Tick_any {w : World} {S : Nat → Prop} {D : Nat} {d : Dt} (h : DtAt w S D d) (hf : d.fits) (ht : d.now < 4611686018427387904) :
    Calls Tryz.prog 49 #[.pointer (some ⟨D, 0, none⟩)] w fun e w' => e = .returned (.int .i64 0) ∧ DtAt w' S D d.tick ∧ Kp w w' S := by
  obtain ⟨M1, M2, L1, L2, hi, hS⟩ := h
  have NO := hide (none_any hi.blk hf.n1)
  have c3 := hi.blk.c3
  have f3 := hi.blk.fz 3
  have t0 := hf.t0
  have ew := wrap_in (x := d.now + 1) (by omega) (by omega)
  have HZ : Hid (DtIn (w.setCell ⟨D, 3, none⟩ (.int .i64 (d.now + 1))) D M1 M2 L1 L2 d.tick) := hi.tick
  have HK : Hid (Kp w (w.setCell ⟨D, 3, none⟩ (.int .i64 (d.now + 1))) S) := (Kp.refl w S).set (Or.inl ((hS D).2 (Or.inl rfl))) _ _
  generalize d.tick = d' at *
  generalize d.now = now at *
  clear hi
  go_enter Tryz.func49, Tryz.ntmps49
  go_wp2_with fail
  refine Calls.mono NO.out ?_
  rintro e W1 ⟨rfl, rfl⟩
  go_wp2_with fail
  go_ret
  exact ⟨rfl, ⟨M1, M2, L1, L2, by simpa only [ew] using HZ.out, hS⟩, by simpa only [ew] using HK.out⟩
def chk1 (n : Nat) (k : Int) : Int := if 0 ≤ k ∧ k < (n : Int) then 0 else 68
theorem chkE_one (n : Nat) (k : Int) : chkE n [k] = chk1 n k := by unfold chkE chk1; rfl
def silV (d : Dt) (k : Int) : Bool := decide (0 ≤ k ∧ k < (d.n : Int) ∧ d.now < d.en k)
theorem till_pos {d : Dt} {k : Int} (h : 0 ≤ d.now) : decide (0 < d.till k) = decide (d.now < d.en k) := by
  unfold Dt.till
  by_cases e : d.now < d.en k
  · rw [if_pos e, decide_eq_true e, decide_eq_true (by omega)]
  · rw [if_neg e, decide_eq_false e]; rfl
set_option maxHeartbeats 4000000 in
set_option maxRecDepth 100000 in
set_option linter.unusedSimpArgs false in
set_option linter.unusedVariables false in
theorem Silent_any {w : World} {S : Nat → Prop} {D : Nat} {d : Dt} (h : DtAt w S D d) (hf : d.fits) (k : Int) :
    Calls Tryz.prog 75 #[.pointer (some ⟨D, 0, none⟩), .int .i64 k] w fun e w' => e = .returned (.tuple #[.bool (silV d k), .int .i64 (chk1 d.n k)]) ∧ Below w.heap.size w w' := by
  obtain ⟨M1, M2, L1, L2, hi, hS⟩ := h
  have hb := (Below.refl w.heap.size w).alloc (Nat.le_refl _) (.cells #[.int .i64 k] 3)
  have hi' := hi.kp (Kp.of_below hb non) (fun _ _ f => f)
  have HB := hide hb
  have CH := check_any hi'.blk hf.n1 _ _ 0 1 [k] (one_at w k)
  rw [chkE_one] at CH
  have CH := hide CH
  have n16 := hf.n16
  have t0 := hf.t0
  by_cases hk : 0 ≤ k ∧ k < (d.n : Int)
  · have e1 : chk1 d.n k = 0 := if_pos hk
    have TL := till_any hi' k (by omega) (by omega)
    have HV : Hid (silV d k = decide (0 < d.till k)) := by
      unfold Hid
      rw [till_pos t0]
      unfold silV
      simp [hk]
    rw [e1] at CH ⊢
    have TL := hide TL
    generalize silV d k = sv at *
    generalize d.till k = tl at *
    clear hi hi' e1 hb
    go_enter Tryz.func75, Tryz.ntmps75
    go_wp2_with fail
    refine Calls.mono CH.out ?_
    rintro e W1 ⟨rfl, rfl⟩
    go_wp2_with fail
    refine Calls.mono TL.out ?_
    rintro e W1 ⟨rfl, rfl⟩
    go_wp2_with fail
    go_ret2
    exact ⟨by rw [HV.out]; rfl, HB.out⟩
  · have e1 : chk1 d.n k = 68 := if_neg hk
    have HV : silV d k = false := by
      unfold silV
      exact decide_eq_false (fun q => hk ⟨q.1, q.2.1⟩)
    rw [e1] at CH ⊢
    rw [HV]
    clear hi hi' e1 hb HV
    go_enter Tryz.func75, Tryz.ntmps75
    go_wp2_with fail
    refine Calls.mono CH.out ?_
    rintro e W1 ⟨rfl, rfl⟩
    go_wp2_with fail
    go_ret2
    exact ⟨rfl, HB.out⟩
end Go.Proofs.YtndfhpfhgdamgaaGreatDoor.Cn
namespace Go.Proofs.YtndfhpfhgdamgaaGreatDoor.Cn
open Go.RowKit
theorem lk_in {L : List (Int × Int)} {k : Int} (h : lk L k ≠ 0) : ∃ q ∈ L, q.1 = k := by
  apply Classical.byContradiction
  intro hn
  exact h (lk_none fun p hp e => hn ⟨p, hp, e⟩)
theorem putt_in (L : List (Int × Int)) (k v : Int) : ∃ q ∈ putt L k v, q.1 = k := ⟨(k, v), List.mem_append_right _ (List.mem_singleton.2 rfl), rfl⟩
set_option maxHeartbeats 4000000 in
set_option maxRecDepth 100000 in
set_option linter.unusedSimpArgs false in
set_option linter.unusedVariables false in
theorem Bad_no {w : World} {S : Nat → Prop} {D : Nat} {d : Dt} (h : DtAt w S D d) (hf : d.fits) (k : Int) (hk : ¬ (0 ≤ k ∧ k < (d.n : Int))) :
    Calls Tryz.prog 51 #[.pointer (some ⟨D, 0, none⟩), .int .i64 k] w fun e w' => e = .returned (.int .i64 68) ∧ Below w.heap.size w w' := by
  obtain ⟨M1, M2, L1, L2, hi, hS⟩ := h
  have hb := (Below.refl w.heap.size w).alloc (Nat.le_refl _) (.cells #[.int .i64 k] 3)
  have hi' := hi.kp (Kp.of_below hb non) (fun _ _ f => f)
  have HB := hide hb
  have CH := check_any hi'.blk hf.n1 _ _ 0 1 [k] (one_at w k)
  rw [chkE_one, show chk1 d.n k = 68 from if_neg hk] at CH
  have CH := hide CH
  clear hi hi' hb hk
  go_enter Tryz.func51, Tryz.ntmps51
  go_wp2_with fail
  refine Calls.mono CH.out ?_
  rintro e W1 ⟨rfl, rfl⟩
  go_wp2_with fail
  go_ret
  exact ⟨rfl, HB.out⟩
set_option maxHeartbeats 4000000 in
set_option maxRecDepth 100000 in
set_option linter.unusedSimpArgs false in
set_option linter.unusedVariables false in
theorem Good_no {w : World} {S : Nat → Prop} {D : Nat} {d : Dt} (h : DtAt w S D d) (hf : d.fits) (k : Int) (hk : ¬ (0 ≤ k ∧ k < (d.n : Int))) :
    Calls Tryz.prog 54 #[.pointer (some ⟨D, 0, none⟩), .int .i64 k] w fun e w' => e = .returned (.int .i64 68) ∧ Below w.heap.size w w' := by
  obtain ⟨M1, M2, L1, L2, hi, hS⟩ := h
  have hb := (Below.refl w.heap.size w).alloc (Nat.le_refl _) (.cells #[.int .i64 k] 3)
  have hi' := hi.kp (Kp.of_below hb non) (fun _ _ f => f)
  have HB := hide hb
  have CH := check_any hi'.blk hf.n1 _ _ 0 1 [k] (one_at w k)
  rw [chkE_one, show chk1 d.n k = 68 from if_neg hk] at CH
  have CH := hide CH
  clear hi hi' hb hk
  go_enter Tryz.func54, Tryz.ntmps54
  go_wp2_with fail
  refine Calls.mono CH.out ?_
  rintro e W1 ⟨rfl, rfl⟩
  go_wp2_with fail
  go_ret
  exact ⟨rfl, HB.out⟩
set_option maxHeartbeats 4000000 in
set_option maxRecDepth 100000 in
set_option linter.unusedSimpArgs false in
set_option linter.unusedVariables false in
theorem Bad_in {w : World} {S : Nat → Prop} {D : Nat} {d : Dt} (h : DtAt w S D d) (hf : d.fits) (k : Int) (h0 : 0 ≤ k) (h1 : k < (d.n : Int)) (ht : d.now < 4611686018427387904) (hs0 : 0 ≤ d.st k) (hs : d.st k < 4611686018427387904) :
    Calls Tryz.prog 51 #[.pointer (some ⟨D, 0, none⟩), .int .i64 k] w fun e w' => e = .returned (.int .i64 0) ∧ DtAt w' S D (d.bad k) ∧ Kp w w' S := by
  obtain ⟨M1, M2, L1, L2, hi0, hS⟩ := h
  have hb := (Below.refl w.heap.size w).alloc (Nat.le_refl _) (.cells #[.int .i64 k] 3)
  have hi := hi0.kp (Kp.of_below hb non) (fun _ _ f => f)
  have CH := check_any hi.blk hf.n1 _ _ 0 1 [k] (one_at w k)
  rw [chkE_one, show chk1 d.n k = 0 from if_pos ⟨h0, h1⟩] at CH
  have CH := hide CH
  have hK0 : Kp w (w.alloc (.cells #[.int .i64 k] 3)) S := Kp.of_below hb S
  clear hb hi0
  have n16 := hf.n16
  have b1 := hf.b1
  have b2 := hf.b1024
  have t0 := hf.t0
  have s1 : S M1 := (hS _).2 (Or.inr (Or.inl rfl))
  have s2 : S M2 := (hS _).2 (Or.inr (Or.inr rfl))
  obtain ⟨W0, hW0⟩ : ∃ W0, W0 = w.alloc (.cells #[.int .i64 k] 3) := ⟨_, rfl⟩
  rw [← hW0] at CH hi hK0
  have hll := hi.len1
  have hll2 := hi.len2
  -- the strike
  have LA := hi.m1.look (k := k) (by omega) (by omega)
  rw [hi.h1] at LA
  obtain ⟨X1, u1, v1, w1⟩ := hi.m1.put (k := k) (by omega) (by omega) (d.st k + 1) (by unfold maxLen; omega)
  have hi1 := hi.put1 h0 h1 v1 w1
  have hK1 : Kp w X1 S := hK0.trans w1 (fun _ e => Or.inl (by rw [e]; exact s1))
  have LB : ∀ q, (Instr.lookup 119 (.map (some M1)) (.int .i64 k) false).run Tryz.prog (X1.drewN q) = .ok (.int .i64 (d.st k + 1)) (X1.drewN q) := fun q => by
    have := (hi1.m1.kp (w' := X1.drewN q) ((Kp.refl X1 non).drewN q) (fun f => f)).look (k := k) (by omega) (by omega)
    rw [hi1.h1] at this
    simpa [upd] using this
  have ew := wrap_in (x := d.st k + 1) (by omega) (by omega)
  have c4 := hi.blk.c4
  have d4 := hi1.blk.c4
  have d1 := hi1.blk.c1
  have HI1 := hide hi1
  have HK1 := hide hK1
  have HBd : Hid (d.bad k = { d with st := upd d.st k (d.st k + 1), en := if d.lim ≤ d.st k + 1 then upd d.en k (d.now + d.ban) else d.en }) := rfl
  dsimp only at d1
  clear hi hi1 hK0 hK1 v1 w1
  by_cases hlim : d.lim ≤ d.st k + 1
  · have d3 := HI1.out.blk.c3
    have d2 := HI1.out.blk.c2
    have d5 := HI1.out.blk.c5
    dsimp only at d3 d2
    have fin : Hid (∀ Z, Kp X1 Z non → ∃ X2, (Instr.mapUpdate 119 (.map (some M2)) (.int .i64 k) (.int .i64 (d.now + d.ban))).run Tryz.prog Z = .ok () X2 ∧ DtAt X2 S D (d.bad k) ∧ Kp w X2 S ∧ X2.cell? ⟨D, 2, none⟩ = some (.int .i64 d.ban) ∧ X2.cell? ⟨D, 3, none⟩ = some (.int .i64 d.now) ∧ X2.cell? ⟨D, 5, none⟩ = some (.map (some M2))) := fun Z hk => by
      have hi1 := HI1.out.kp hk (fun _ _ f => f)
      obtain ⟨X2, a1, a2, a3⟩ := hi1.m2.put (k := k) (by omega) (by omega) (d.now + d.ban) (by unfold maxLen; omega)
      have hi2 := hi1.put2 (putt_in _ _ _) a2 a3
      refine ⟨X2, a1, ⟨M1, M2, putt L1 k (d.st k + 1), putt L2 k (d.now + d.ban), ?_, hS⟩, (HK1.out.trans (hk.mono (fun _ f => f.elim)) (fun _ e => Or.inl e)).trans a3 (fun _ e => Or.inl (by rw [e]; exact s2)), hi2.blk.c2, hi2.blk.c3, hi2.blk.c5⟩
      rw [HBd.out, if_pos hlim]
      exact hi2
    have ew2 := wrap_in (x := d.now + d.ban) (by omega) (by omega)
    clear HBd HI1 HK1
    generalize d.bad k = d' at *
    generalize d.st k = st at *
    generalize d.lim = lim at *
    generalize d.now = now at *
    generalize d.ban = ban at *
    clear hll hll2
    go_enter Tryz.func51, Tryz.ntmps51
    go_wp2_with fail
    rw [← hW0]
    clear hW0
    refine Calls.mono CH.out ?_
    rintro e W1 ⟨rfl, rfl⟩
    go_wp2_with fail
    go_quiet (fail)
    clear LA LB u1 c4 CH
    obtain ⟨X2, R2, hZ, hKZ, z2, z3, z5⟩ := fin.out (X1.drewN nq).drew ((Kp.refl X1 non).drewN nq).drew
    have d2' : (X1.drewN nq).cell? ⟨D, 2, none⟩ = some (.int .i64 ban) := d2
    have d3' : (X1.drewN nq).cell? ⟨D, 3, none⟩ = some (.int .i64 now) := d3
    have d5' : (X1.drewN nq).cell? ⟨D, 5, none⟩ = some (.map (some M2)) := d5
    clear d1 d2 d3 d4 d5 fin
    generalize X1.drewN nq = Y at *
    go_upto_region 6 with fail
    have SC : Hid (∀ Z, Z = Y.drew ∨ Z = X2 → Z.cell? ⟨D, 2, none⟩ = some (.int .i64 ban) ∧ Z.cell? ⟨D, 3, none⟩ = some (.int .i64 now) ∧ Z.cell? ⟨D, 5, none⟩ = some (.map (some M2))) := by
      rintro Z (rfl | rfl)
      · exact ⟨d2', d3', d5'⟩
      · exact ⟨z2, z3, z5⟩
    have HZ := hide hZ
    have HKZ := hide hKZ
    clear d2' d3' d5' z2 z3 z5 hZ hKZ
    refine wp_region_held_drew (S := fun Z => Z = Y.drew ∨ Z = X2) (by kernel_rfl) (Or.inl rfl) (fun hHeld => ?_)
    refine wpAnyH_take (i := 0) (v := (.pointer (some ⟨D, 0, none⟩))) rfl (by kernel_rfl) (by kernel_rfl) (by kernel_rfl) (fun _ _ _ h => h) (Or.inl ⟨by rfl, ?_⟩) (by assumption) ?_
    · intro w' hSw
      (try dsimp only at hSw)
      go_simp
    (try simp only [Act.put, List.getElem_toArray, List.getElem_cons_zero, List.getElem_cons_succ, List.setIfInBounds_toArray, List.set_cons_zero, List.set_cons_succ])
    refine wpAnyH_take (i := 1) (v := (.pointer (some ⟨D, 0, none⟩))) rfl (by kernel_rfl) (by kernel_rfl) (by kernel_rfl) (fun _ _ _ h => h) (Or.inl ⟨by rfl, ?_⟩) (by assumption) ?_
    · intro w' hSw
      (try dsimp only at hSw)
      go_simp
    (try simp only [Act.put, List.getElem_toArray, List.getElem_cons_zero, List.getElem_cons_succ, List.setIfInBounds_toArray, List.set_cons_zero, List.set_cons_succ])
    refine wpAnyH_take (i := 2) (v := (.pointer (some ⟨D, 5, none⟩))) rfl (by kernel_rfl) (by kernel_rfl) (by kernel_rfl) (fun _ _ _ h => h) (Or.inl ⟨by rfl, ?_⟩) (by assumption) ?_
    · intro w' hSw
      (try dsimp only at hSw)
      go_simp
    (try simp only [Act.put, List.getElem_toArray, List.getElem_cons_zero, List.getElem_cons_succ, List.setIfInBounds_toArray, List.set_cons_zero, List.set_cons_succ])
    refine wpAnyH_take (i := 3) (v := (.map (some M2))) rfl (by kernel_rfl) (by kernel_rfl) (by kernel_rfl) (fun _ _ _ h => h) (Or.inl ⟨by rfl, ?_⟩) (by assumption) ?_
    · intro w' hSw
      (try dsimp only at hSw)
      (have y := (SC.out _ hSw).2.2; go_simp)
    (try simp only [Act.put, List.getElem_toArray, List.getElem_cons_zero, List.getElem_cons_succ, List.setIfInBounds_toArray, List.set_cons_zero, List.set_cons_succ])
    refine wpAnyH_take (i := 4) (v := (.int .i64 k)) rfl (by kernel_rfl) (by kernel_rfl) (by kernel_rfl) (fun _ _ _ h => h) (Or.inl ⟨by rfl, ?_⟩) (by assumption) ?_
    · intro w' hSw
      (try dsimp only at hSw)
      go_simp
    (try simp only [Act.put, List.getElem_toArray, List.getElem_cons_zero, List.getElem_cons_succ, List.setIfInBounds_toArray, List.set_cons_zero, List.set_cons_succ])
    refine wpAnyH_take (i := 5) (v := (.pointer (some ⟨D, 0, none⟩))) rfl (by kernel_rfl) (by kernel_rfl) (by kernel_rfl) (fun _ _ _ h => h) (Or.inl ⟨by rfl, ?_⟩) (by assumption) ?_
    · intro w' hSw
      (try dsimp only at hSw)
      go_simp
    (try simp only [Act.put, List.getElem_toArray, List.getElem_cons_zero, List.getElem_cons_succ, List.setIfInBounds_toArray, List.set_cons_zero, List.set_cons_succ])
    refine wpAnyH_take (i := 6) (v := (.pointer (some ⟨D, 0, none⟩))) rfl (by kernel_rfl) (by kernel_rfl) (by kernel_rfl) (fun _ _ _ h => h) (Or.inl ⟨by rfl, ?_⟩) (by assumption) ?_
    · intro w' hSw
      (try dsimp only at hSw)
      go_simp
    (try simp only [Act.put, List.getElem_toArray, List.getElem_cons_zero, List.getElem_cons_succ, List.setIfInBounds_toArray, List.set_cons_zero, List.set_cons_succ])
    refine wpAnyH_take (i := 7) (v := (.pointer (some ⟨D, 3, none⟩))) rfl (by kernel_rfl) (by kernel_rfl) (by kernel_rfl) (fun _ _ _ h => h) (Or.inl ⟨by rfl, ?_⟩) (by assumption) ?_
    · intro w' hSw
      (try dsimp only at hSw)
      go_simp
    (try simp only [Act.put, List.getElem_toArray, List.getElem_cons_zero, List.getElem_cons_succ, List.setIfInBounds_toArray, List.set_cons_zero, List.set_cons_succ])
    refine wpAnyH_take (i := 8) (v := (.int .i64 now)) rfl (by kernel_rfl) (by kernel_rfl) (by kernel_rfl) (fun _ _ _ h => h) (Or.inl ⟨by rfl, ?_⟩) (by assumption) ?_
    · intro w' hSw
      (try dsimp only at hSw)
      (have y := (SC.out _ hSw).2.1; go_simp)
    (try simp only [Act.put, List.getElem_toArray, List.getElem_cons_zero, List.getElem_cons_succ, List.setIfInBounds_toArray, List.set_cons_zero, List.set_cons_succ])
    refine wpAnyH_take (i := 9) (v := (.pointer (some ⟨D, 0, none⟩))) rfl (by kernel_rfl) (by kernel_rfl) (by kernel_rfl) (fun _ _ _ h => h) (Or.inl ⟨by rfl, ?_⟩) (by assumption) ?_
    · intro w' hSw
      (try dsimp only at hSw)
      go_simp
    (try simp only [Act.put, List.getElem_toArray, List.getElem_cons_zero, List.getElem_cons_succ, List.setIfInBounds_toArray, List.set_cons_zero, List.set_cons_succ])
    refine wpAnyH_take (i := 10) (v := (.pointer (some ⟨D, 0, none⟩))) rfl (by kernel_rfl) (by kernel_rfl) (by kernel_rfl) (fun _ _ _ h => h) (Or.inl ⟨by rfl, ?_⟩) (by assumption) ?_
    · intro w' hSw
      (try dsimp only at hSw)
      go_simp
    (try simp only [Act.put, List.getElem_toArray, List.getElem_cons_zero, List.getElem_cons_succ, List.setIfInBounds_toArray, List.set_cons_zero, List.set_cons_succ])
    refine wpAnyH_take (i := 11) (v := (.pointer (some ⟨D, 2, none⟩))) rfl (by kernel_rfl) (by kernel_rfl) (by kernel_rfl) (fun _ _ _ h => h) (Or.inl ⟨by rfl, ?_⟩) (by assumption) ?_
    · intro w' hSw
      (try dsimp only at hSw)
      go_simp
    (try simp only [Act.put, List.getElem_toArray, List.getElem_cons_zero, List.getElem_cons_succ, List.setIfInBounds_toArray, List.set_cons_zero, List.set_cons_succ])
    refine wpAnyH_take (i := 12) (v := (.int .i64 ban)) rfl (by kernel_rfl) (by kernel_rfl) (by kernel_rfl) (fun _ _ _ h => h) (Or.inl ⟨by rfl, ?_⟩) (by assumption) ?_
    · intro w' hSw
      (try dsimp only at hSw)
      (have y := (SC.out _ hSw).1; go_simp)
    (try simp only [Act.put, List.getElem_toArray, List.getElem_cons_zero, List.getElem_cons_succ, List.setIfInBounds_toArray, List.set_cons_zero, List.set_cons_succ])
    refine wpAnyH_take (i := 13) (v := (.int .i64 (now + ban))) rfl (by kernel_rfl) (by kernel_rfl) (by kernel_rfl) (fun _ _ _ h => h) (Or.inl ⟨by rfl, ?_⟩) (by assumption) ?_
    · intro w' hSw
      (try dsimp only at hSw)
      (go_simp; first | done | exact i64_in (by omega) (by omega))
    (try simp only [Act.put, List.getElem_toArray, List.getElem_cons_zero, List.getElem_cons_succ, List.setIfInBounds_toArray, List.set_cons_zero, List.set_cons_succ])
    refine wpAnyH_ready (rs := [14]) (by kernel_rfl) (by simp) ?_
    refine AllReadyH.cons rfl (fun K hK => ?_) AllReadyH.nil
    go_simp
    refine hK.out _ _ ((Or.inr rfl)) (fun hHeld => ?_)
    clear hK
    (try simp only [Act.put, List.setIfInBounds_toArray, List.set_cons_zero, List.set_cons_succ])
    refine wpAnyH_done (by kernel_rfl) ?_ _
    go_wp2_with fail
    go_ret
    exact ⟨rfl, HZ.out, HKZ.out⟩
  · have fin : Hid (∀ q, DtAt (X1.drewN q) S D (d.bad k) ∧ Kp w (X1.drewN q) S) := fun q => by
      refine ⟨⟨M1, M2, putt L1 k (d.st k + 1), L2, ?_, hS⟩, HK1.out.drewN q⟩
      rw [HBd.out, if_neg hlim]
      exact HI1.out.kp ((Kp.refl X1 non).drewN q) (fun _ _ f => f)
    clear HBd HI1 HK1
    generalize d.bad k = d' at *
    generalize d.st k = st at *
    generalize d.lim = lim at *
    clear hll hll2
    go_enter Tryz.func51, Tryz.ntmps51
    go_wp2_with fail
    rw [← hW0]
    clear hW0
    refine Calls.mono CH.out ?_
    rintro e W1 ⟨rfl, rfl⟩
    go_wp2_with fail
    go_quiet (fail)
    go_wp2_with fail
    go_ret
    exact ⟨rfl, fin.out _⟩
set_option maxHeartbeats 4000000 in
set_option maxRecDepth 100000 in
set_option linter.unusedSimpArgs false in
set_option linter.unusedVariables false in
theorem Good_in {w : World} {S : Nat → Prop} {D : Nat} {d : Dt} (h : DtAt w S D d) (hf : d.fits) (k : Int) (h0 : 0 ≤ k) (h1 : k < (d.n : Int)) :
    Calls Tryz.prog 54 #[.pointer (some ⟨D, 0, none⟩), .int .i64 k] w fun e w' => e = .returned (.int .i64 0) ∧ DtAt w' S D (d.good k) ∧ Kp w w' S := by
  obtain ⟨M1, M2, L1, L2, hi0, hS⟩ := h
  have hb := (Below.refl w.heap.size w).alloc (Nat.le_refl _) (.cells #[.int .i64 k] 3)
  have hi := hi0.kp (Kp.of_below hb non) (fun _ _ f => f)
  have CH := check_any hi.blk hf.n1 _ _ 0 1 [k] (one_at w k)
  rw [chkE_one, show chk1 d.n k = 0 from if_pos ⟨h0, h1⟩] at CH
  have CH := hide CH
  have hK0 : Kp w (w.alloc (.cells #[.int .i64 k] 3)) S := Kp.of_below hb S
  clear hb hi0
  have n16 := hf.n16
  have s1 : S M1 := (hS _).2 (Or.inr (Or.inl rfl))
  have s2 : S M2 := (hS _).2 (Or.inr (Or.inr rfl))
  obtain ⟨W0, hW0⟩ : ∃ W0, W0 = w.alloc (.cells #[.int .i64 k] 3) := ⟨_, rfl⟩
  rw [← hW0] at CH hi hK0
  have AL := alone_any hi k (by omega) (by omega)
  have c4 := hi.blk.c4
  have c5 := hi.blk.c5
  by_cases ha : 0 < d.st k ∧ L1.length = 1
  · rw [decide_eq_true ha] at AL
    have AL := hide AL
    obtain ⟨X, a1, a2, a3⟩ := hi.m1.clear 0
    obtain ⟨Y, b1, b2, b3⟩ := (hi.m2.kp a3 (fun e => hi.ne e.symm)).clear 0
    have d5 : X.cell? ⟨D, 5, none⟩ = some (.map (some M2)) := by
      have := a3.block D (blk_lt hi.blk) hi.ne1
      unfold World.cell? at c5 ⊢
      dsimp only at c5 ⊢
      rw [this]
      exact c5
    have HZ : Hid (DtAt Y S D (d.good k)) := ⟨M1, M2, [], [], hi.clr ha.1 ha.2 a2 a3 b2 b3, hS⟩
    have HK : Hid (Kp w Y S) := (hK0.trans a3 (fun _ e => Or.inl (by rw [e]; exact s1))).trans b3 (fun _ e => Or.inl (by rw [e]; exact s2))
    clear hi a2 a3 b2 b3 hK0 ha
    go_enter Tryz.func54, Tryz.ntmps54
    go_wp2_with fail
    rw [← hW0]
    clear hW0
    refine Calls.mono CH.out ?_
    rintro e W1 ⟨rfl, rfl⟩
    go_wp2_with fail
    refine Calls.mono AL.out ?_
    rintro e W1 ⟨rfl, rfl⟩
    go_wp2_with fail
    go_ret
    exact ⟨rfl, HZ.out, HK.out⟩
  · rw [decide_eq_false ha] at AL
    have AL := hide AL
    obtain ⟨X, a1, a2, a3⟩ := hi.m1.del (k := k) (by omega) (by omega) 0
    obtain ⟨Y, b1, b2, b3⟩ := (hi.m2.kp a3 (fun e => hi.ne e.symm)).del (k := k) (by omega) (by omega) 0
    have d5 : X.cell? ⟨D, 5, none⟩ = some (.map (some M2)) := by
      have := a3.block D (blk_lt hi.blk) hi.ne1
      unfold World.cell? at c5 ⊢
      dsimp only at c5 ⊢
      rw [this]
      exact c5
    have HZ : Hid (DtAt Y S D (d.good k)) := ⟨M1, M2, dele L1 k, dele L2 k, hi.del a2 a3 b2 b3, hS⟩
    have HK : Hid (Kp w Y S) := (hK0.trans a3 (fun _ e => Or.inl (by rw [e]; exact s1))).trans b3 (fun _ e => Or.inl (by rw [e]; exact s2))
    clear hi a2 a3 b2 b3 hK0 ha
    go_enter Tryz.func54, Tryz.ntmps54
    go_wp2_with fail
    rw [← hW0]
    clear hW0
    refine Calls.mono CH.out ?_
    rintro e W1 ⟨rfl, rfl⟩
    go_wp2_with fail
    refine Calls.mono AL.out ?_
    rintro e W1 ⟨rfl, rfl⟩
    go_wp2_with fail
    go_ret
    exact ⟨rfl, HZ.out, HK.out⟩
end Go.Proofs.YtndfhpfhgdamgaaGreatDoor.Cn
namespace Go.Proofs.YtndfhpfhgdamgaaGreatDoor.Cn
open Go.RowKit
set_option maxHeartbeats 4000000 in
set_option maxRecDepth 100000 in
set_option linter.unusedSimpArgs false in
set_option linter.unusedVariables false in
theorem upTo_any (w : World) (n most : Int) :
    Calls Tryz.prog 62 #[.int .i64 n, .int .i64 most] w fun e w' => e = .returned (.bool (decide (1 ≤ n ∧ n ≤ most))) ∧ w = w' := by
  by_cases h1 : 1 ≤ n
  · by_cases h2 : n ≤ most
    · rw [decide_eq_true ⟨h1, h2⟩]
      go_enter Tryz.func62, Tryz.ntmps62
      go_wp2_with fail
      go_ret
      exact ⟨rfl, rfl⟩
    · rw [decide_eq_false (fun q => h2 q.2)]
      go_enter Tryz.func62, Tryz.ntmps62
      go_wp2_with fail
      go_ret
      exact ⟨rfl, rfl⟩
  · rw [decide_eq_false (fun q => h1 q.1)]
    go_enter Tryz.func62, Tryz.ntmps62
    go_wp2_with fail
    go_ret
    exact ⟨rfl, rfl⟩
/-- New's numbers -/
def okN (a b c : Int) : Prop := (1 ≤ a ∧ a ≤ 16) ∧ (1 ≤ b ∧ b ≤ 64) ∧ (1 ≤ c ∧ c ≤ 1024)
instance (a b c : Int) : Decidable (okN a b c) := by unfold okN; infer_instance
set_option maxHeartbeats 4000000 in
set_option maxRecDepth 100000 in
set_option linter.unusedSimpArgs false in
set_option linter.unusedVariables false in
theorem New_no (w : World) (a b c : Int) (h : ¬ okN a b c) :
    Calls Tryz.prog 32 #[.int .i64 a, .int .i64 b, .int .i64 c] w fun e w' => e = .returned (.tuple #[.pointer none, .int .i64 1]) ∧ w = w' := by
  have U := hide fun w n m => upTo_any w n m
  by_cases h1 : 1 ≤ a ∧ a ≤ 16
  · have u1 := U.out w a 16
    rw [decide_eq_true h1] at u1
    by_cases h2 : 1 ≤ b ∧ b ≤ 64
    · have u2 := U.out w b 64
      rw [decide_eq_true h2] at u2
      by_cases h3 : 1 ≤ c ∧ c ≤ 1024
      · exact absurd ⟨h1, h2, h3⟩ h
      · have u3 := U.out w c 1024
        rw [decide_eq_false h3] at u3
        have U1 := hide u1
        have U2 := hide u2
        have U3 := hide u3
        clear U u1 u2 u3 h1 h2 h3 h
        go_enter Tryz.func32, Tryz.ntmps32
        go_wp2_with fail
        refine Calls.mono U1.out ?_
        rintro e W1 ⟨rfl, rfl⟩
        go_wp2_with fail
        refine Calls.mono U2.out ?_
        rintro e W1 ⟨rfl, rfl⟩
        go_wp2_with fail
        refine Calls.mono U3.out ?_
        rintro e W1 ⟨rfl, rfl⟩
        go_wp2_with fail
        go_ret2
        exact ⟨rfl, rfl⟩
    · have u2 := U.out w b 64
      rw [decide_eq_false h2] at u2
      have U1 := hide u1
      have U2 := hide u2
      clear U u1 u2 h1 h2 h
      go_enter Tryz.func32, Tryz.ntmps32
      go_wp2_with fail
      refine Calls.mono U1.out ?_
      rintro e W1 ⟨rfl, rfl⟩
      go_wp2_with fail
      refine Calls.mono U2.out ?_
      rintro e W1 ⟨rfl, rfl⟩
      go_wp2_with fail
      go_ret2
      exact ⟨rfl, rfl⟩
  · have u1 := U.out w a 16
    rw [decide_eq_false h1] at u1
    have U1 := hide u1
    clear U u1 h1 h
    go_enter Tryz.func32, Tryz.ntmps32
    go_wp2_with fail
    refine Calls.mono U1.out ?_
    rintro e W1 ⟨rfl, rfl⟩
    go_wp2_with fail
    go_ret2
    exact ⟨rfl, rfl⟩
theorem new_fits {a b c : Int} (h : okN a b c) : (Dt.new a.toNat b c).fits := by
  obtain ⟨h1, h2, h3⟩ := h
  exact ⟨by show 1 ≤ a.toNat; omega, by show a.toNat ≤ 16; omega, h2.1, h2.2, h3.1, h3.2, Int.le_refl _⟩
set_option maxHeartbeats 4000000 in
set_option maxRecDepth 100000 in
set_option linter.unusedSimpArgs false in
set_option linter.unusedVariables false in
theorem New_any (w : World) (a b c : Int) (h : okN a b c) :
    Calls Tryz.prog 32 #[.int .i64 a, .int .i64 b, .int .i64 c] w fun e w' => ∃ D S, e = .returned (.tuple #[.pointer (some ⟨D, 0, none⟩), .int .i64 0]) ∧ DtAt w' S D (Dt.new a.toNat b c) ∧ Below w.heap.size w w' ∧ ∀ k, S k → w.heap.size ≤ k := by
  have U := hide fun w n m => upTo_any w n m
  have u1 := U.out w a 16
  rw [decide_eq_true h.1] at u1
  have u2 := U.out w b 64
  rw [decide_eq_true h.2.1] at u2
  have u3 := U.out w c 1024
  rw [decide_eq_true h.2.2] at u3
  have U1 := hide u1
  have U2 := hide u2
  have U3 := hide u3
  have HA : Hid ((a.toNat : Int) = a) := by show _ = _; have := h.1.1; omega
  have hmm := @run_makeMap Tryz.prog
  clear U u1 u2 u3 h
  go_enter Tryz.func32, Tryz.ntmps32
  go_wp2_with fail
  refine Calls.mono U1.out ?_
  rintro e W1 ⟨rfl, rfl⟩
  go_wp2_with fail
  refine Calls.mono U2.out ?_
  rintro e W1 ⟨rfl, rfl⟩
  go_wp2_with fail
  refine Calls.mono U3.out ?_
  rintro e W1 ⟨rfl, rfl⟩
  go_wp2_with fail
  go_ret2
  have b1 := (Below.refl w.heap.size w).alloc (Nat.le_refl _) (.map #[] 0)
  have b2 := b1.alloc b1.size (.map #[] 0)
  have m1 : Mi ((w.alloc (.map #[] 0)).alloc (.map #[] 0)) w.heap.size [] := (Mi.made w).kp ((Kp.refl _ non).alloc _) (fun f => f)
  have m2 : Mi ((w.alloc (.map #[] 0)).alloc (.map #[] 0)) (w.heap.size + 1) [] := by
    have := Mi.made (w.alloc (.map #[] 0))
    rwa [World.size_alloc] at this
  have hk : ∀ o, Kp ((w.alloc (.map #[] 0)).alloc (.map #[] 0)) (((w.alloc (.map #[] 0)).alloc (.map #[] 0)).alloc o) non := fun o => (Kp.refl _ non).alloc o
  refine ⟨w.heap.size + 2, fun k => k = w.heap.size + 2 ∨ k = w.heap.size ∨ k = w.heap.size + 1, rfl, ⟨w.heap.size, w.heap.size + 1, [], [], ⟨?_, m1.kp (hk _) (fun f => f), m2.kp (hk _) (fun f => f), by omega, by simp, by simp, fun _ => rfl, fun _ => rfl⟩, fun k => Iff.rfl⟩, b2.alloc b2.size _, ?_⟩
  · unfold DtB
    have := heap_last ((w.alloc (.map #[] 0)).alloc (.map #[] 0)) (.cells #[.int .i64 a, .int .i64 b, .int .i64 c, .int .i64 0, .map (some w.heap.size), .map (some (w.heap.size + 1))] 121)
    rw [World.size_alloc, World.size_alloc] at this
    unfold Dt.new
    dsimp only
    rw [HA.out]
    exact this
  · rintro k (rfl | rfl | rfl) <;> omega
end Go.Proofs.YtndfhpfhgdamgaaGreatDoor.Cn
namespace Go.Proofs.YtndfhpfhgdamgaaGreatDoor.Cn
open Go.RowKit
def spkV (d : Dt) (k : Int) : Bool := decide (0 ≤ k ∧ k < (d.n : Int) ∧ ¬ d.now < d.en k)
/-- how far a detector may have come -/
structure Dt.upto (d : Dt) (m : Nat) : Prop where
  ft : d.fits
  s0 : ∀ k, 0 ≤ d.st k
  s1 : ∀ k, d.st k ≤ (m : Int)
  t1 : d.now ≤ 1100 * (m : Int)
def Dt.tickN (d : Dt) (j : Nat) : Dt := { d with now := d.now + (j : Int) }
theorem tickN_zero (d : Dt) : d.tickN 0 = d := by cases d; simp [Dt.tickN]
theorem tickN_succ (d : Dt) (j : Nat) : (d.tickN j).tick = d.tickN (j + 1) := by
  simp only [Dt.tickN, Dt.tick]
  congr 1
  omega
def Dt.does (d : Dt) (kd nd : Int) : Dt :=
  if kd = 1 then (if 0 ≤ nd ∧ nd < (d.n : Int) then d.good nd else d)
  else if kd = 2 then (if 0 ≤ nd ∧ nd < (d.n : Int) then d.bad nd else d)
  else if kd = 3 then d.tickN (min nd 1100).toNat
  else d
theorem Dt.fits.good {d : Dt} (h : d.fits) (k : Int) : (d.good k).fits := ⟨h.n1, h.n16, h.l1, h.l64, h.b1, h.b1024, h.t0⟩
theorem Dt.fits.bad {d : Dt} (h : d.fits) (k : Int) : (d.bad k).fits := ⟨h.n1, h.n16, h.l1, h.l64, h.b1, h.b1024, h.t0⟩
theorem Dt.fits.tickN {d : Dt} (h : d.fits) (j : Nat) : (d.tickN j).fits := ⟨h.n1, h.n16, h.l1, h.l64, h.b1, h.b1024, by have := h.t0; show 0 ≤ d.now + (j : Int); omega⟩
theorem Dt.upto.mono {d : Dt} {m : Nat} (h : d.upto m) {m' : Nat} (hm : m ≤ m') : d.upto m' := ⟨h.ft, h.s0, fun k => by have := h.s1 k; omega, by have := h.t1; omega⟩
theorem Dt.upto.good {d : Dt} {m : Nat} (h : d.upto m) (k : Int) : (d.good k).upto m := by
  refine ⟨h.ft.good k, fun j => ?_, fun j => ?_, h.t1⟩
  · show 0 ≤ upd d.st k 0 j
    unfold upd; split
    · exact Int.le_refl _
    · exact h.s0 j
  · show upd d.st k 0 j ≤ _
    unfold upd; split
    · omega
    · exact h.s1 j
theorem Dt.upto.bad {d : Dt} {m : Nat} (h : d.upto m) (k : Int) : (d.bad k).upto (m + 1) := by
  refine ⟨h.ft.bad k, fun j => ?_, fun j => ?_, ?_⟩
  · show 0 ≤ upd d.st k _ j
    have := h.s0 k
    unfold upd; split
    · omega
    · exact h.s0 j
  · show upd d.st k _ j ≤ _
    have := h.s1 k
    unfold upd; split
    · omega
    · have := h.s1 j; omega
  · have := h.t1
    show d.now ≤ _
    omega
theorem Dt.upto.tickN {d : Dt} {m : Nat} (h : d.upto m) {j : Nat} (hj : j ≤ 1100) : (d.tickN j).upto (m + 1) :=
  ⟨h.ft.tickN j, h.s0, fun k => by have := h.s1 k; show d.st k ≤ _; omega, by have := h.t1; show d.now + (j : Int) ≤ _; omega⟩
theorem Dt.upto.does {d : Dt} {m : Nat} (h : d.upto m) (kd nd : Int) : (d.does kd nd).upto (m + 1) := by
  unfold Dt.does
  split
  · split
    · exact (h.good nd).mono (by omega)
    · exact h.mono (by omega)
  · split
    · split
      · exact h.bad nd
      · exact h.mono (by omega)
    · split
      · exact h.tickN (by omega)
      · exact h.mono (by omega)
/-- one contract a call -/
theorem Good_all {w : World} {S : Nat → Prop} {D : Nat} {d : Dt} (h : DtAt w S D d) (hf : d.fits) (k : Int) :
    Calls Tryz.prog 54 #[.pointer (some ⟨D, 0, none⟩), .int .i64 k] w fun e w' => e = .returned (.int .i64 (chk1 d.n k)) ∧ DtAt w' S D (d.does 1 k) ∧ Kp w w' S := by
  unfold Dt.does
  rw [if_pos rfl]
  by_cases hk : 0 ≤ k ∧ k < (d.n : Int)
  · rw [if_pos hk, show chk1 d.n k = 0 from if_pos hk]
    exact Good_in h hf k hk.1 hk.2
  · rw [if_neg hk, show chk1 d.n k = 68 from if_neg hk]
    refine Calls.mono (Good_no h hf k hk) ?_
    rintro e w' ⟨rfl, hb⟩
    exact ⟨rfl, h.below hb, Kp.of_below hb S⟩
theorem Bad_all {w : World} {S : Nat → Prop} {D : Nat} {d : Dt} (h : DtAt w S D d) {m : Nat} (hf : d.upto m) (hm : m ≤ 1000000000000000) (k : Int) :
    Calls Tryz.prog 51 #[.pointer (some ⟨D, 0, none⟩), .int .i64 k] w fun e w' => e = .returned (.int .i64 (chk1 d.n k)) ∧ DtAt w' S D (d.does 2 k) ∧ Kp w w' S := by
  unfold Dt.does
  rw [if_neg (by decide), if_pos rfl]
  by_cases hk : 0 ≤ k ∧ k < (d.n : Int)
  · rw [if_pos hk, show chk1 d.n k = 0 from if_pos hk]
    have := hf.s1 k
    have := hf.t1
    exact Bad_in h hf.ft k hk.1 hk.2 (by omega) (hf.s0 k) (by omega)
  · rw [if_neg hk, show chk1 d.n k = 68 from if_neg hk]
    refine Calls.mono (Bad_no h hf.ft k hk) ?_
    rintro e w' ⟨rfl, hb⟩
    exact ⟨rfl, h.below hb, Kp.of_below hb S⟩
end Go.Proofs.YtndfhpfhgdamgaaGreatDoor.Cn
