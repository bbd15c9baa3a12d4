import Derived.Test.YtndfhpfhgdamgaaGreatDoorGRvSeat
namespace Go.Proofs.YtndfhpfhgdamgaaGreatDoor.Cn
open Go.RowKit
set_option maxHeartbeats 16000000 in
set_option maxRecDepth 100000 in
set_option linter.unusedSimpArgs false in
set_option linter.unusedVariables false in
theorem ends_any (N : Nat) (w : World) (st : ByteArray) (x : Nat → Int) (ao : Option Addr) (b o cap : Nat) (pv : Nat → Value) (ns : List ND) (h : NsAt N w ao b o pv ns) (hN : N ≤ w.heap.size) (hs : st.size ≤ 9223372036854775807) (hT : TabD w) (h3 : 3 ≤ w.heap.size) (ao2 : Option Addr) (bb oo cap2 : Nat) (L : List Op2) (hL : RwAt 15 opV w.heap.size w ao2 bb oo L) (hO : ∀ i (hi : i < L.length), OpOk w L[i]) :
    Calls Tryz.prog 5 #[.agg (clA st x (.slice ao ns.length cap)), .slice ao2 L.length cap2] w fun e w' => e = .returned (.bool true) ∧ Below w.heap.size w w' := by
  obtain ⟨W0, hW0, hX⟩ := boxed st x cap h hN
  have HX := hide (hX.stand hN)
  have B0 := hide hX.bel
  clear hX h
  have BY := hide fun w n => beyond_any w n
  have NU := hide fun w n => num_r w n
  have CK := hide (YtndfhpfhgdamgaaGreatDoor.check_any N W0 st x ao b o cap pv ns HX.out.nd HX.out.le hs)
  have HT := hide hT
  have HLL := hide hL
  have HOO := hide hO
  obtain ⟨n, hn⟩ : ∃ n, n = L.length := ⟨_, rfl⟩
  have HN := hide hn
  have hlen := hL.len
  rw [← hn] at hlen ⊢
  clear hL hn hT hO
  go_enter Tryz.func5, Tryz.ntmps5
  go_upto_region 1 with fail
  rw [← hW0]
  clear hW0
  go_wp2_with fail
  refine Calls.mono (BY.out _ _) ?_
  rintro e w' ⟨rfl, rfl⟩
  by_cases hbe : (2147483647 : Int) < (n : Int)
  case pos =>
    have q0 : decide ((2147483647 : Int) < (n : Int)) = true := decide_eq_true hbe
    go_wp2_with fail
    go_ret
    exact ⟨rfl, B0.out⟩
  case neg =>
  have q0 : decide ((2147483647 : Int) < (n : Int)) = false := decide_eq_false hbe
  go_wp2_with (refine wpList_loadCl rfl (.tmp 2) rfl w.heap.size st x _ rfl HX.out.cl ?_)
  refine Calls.mono CK.out ?_
  rintro e W1 ⟨rfl, hb⟩
  have X1 := hide (HX.out.below hb)
  have B1 := hide (B0.out.trans (hb.mono B0.out.size))
  have RF := hide fun he => refused_any N W1 st x ao b o cap pv ns X1.out.nd X1.out.le hs he
  have h31 : Hid (3 ≤ W1.heap.size) := Nat.le_trans h3 B1.out.size
  have T1 : Hid (TabD W1) := tab_kp HT.out (Kp.of_below B1.out non) (fun _ f => f.elim)
  have O1 : Hid (∀ i (hi : i < L.length), OpOk W1 L[i]) := fun i hi => (HOO.out i hi).below B1.out
  have SE := hide fun he => seat_std N W1 st x ao b o cap pv ns X1.out.nd X1.out.le (by have := nm_size (errP_all he).1; omega) he T1.out h31.out
  have XL := hide fun he => And.intro (sfP_lim (errP_all (st := st) (x := x) (ns := ns) he).2.1 0 (by omega)) (sfP_lim (errP_all (st := st) (x := x) (ns := ns) he).2.1 17 (by omega))
  clear hb HX CK HT HOO
  generalize errP st x ns = er at *
  by_cases he : er = 0
  case neg =>
    have q1 : (er != 0) = true := by simp [he]
    have RF1 := hide (RF.out he)
    go_wp2_with (first | (go_at_call 8; refine Calls.mono (NU.out _ _) ?_; rintro e w' ⟨rfl, rfl⟩) | (refine wpList_loadCl rfl (.tmp 2) rfl w.heap.size st x _ rfl X1.out.cl ?_) | (go_at_call 10; refine Calls.mono RF1.out ?_; rintro e W2 ⟨rfl, hb2⟩; have B2 := hide (B1.out.trans (hb2.mono B1.out.size)); clear hb2))
    go_ret
    exact ⟨rfl, B2.out⟩
  case pos =>
  have q1 : (er != 0) = false := by simp [he]
  have SE1 := hide (SE.out he)
  have XL1 := hide (XL.out he)
  clear SE RF XL
  go_wp2_with (first | (go_at_call 8; refine Calls.mono (NU.out _ _) ?_; rintro e w' ⟨rfl, rfl⟩) | (refine wpList_loadCl rfl (.tmp 2) rfl w.heap.size st x _ rfl X1.out.cl ?_))
  refine Calls.mono SE1.out ?_
  rintro e W2 ⟨R, B, rfl, s2⟩
  have S2 := hide s2
  clear s2 SE1
  go_wp2_with fail
  go_loopw [6, 7] (fun vo vi wr => ∃ i : Nat, i ≤ n ∧ vi = .int .i64 (i : Int) ∧ vo = .bool true ∧ Hid (Std W1 wr R B ⟨st, x, ns⟩ (i + 1) (x 0 * x 17))) (fun _ vi _ => n - (intOf vi).toNat)
  case atStart => exact ⟨0, Nat.zero_le _, rfl, rfl, S2.out⟩
  case round =>
    obtain ⟨i, hi, rfl, rfl, HS⟩ := hrel
    by_cases hin : i < n
    case pos =>
      have hii : (i : Int) < (n : Int) := by omega
      have q2 : decide ((i : Int) < (n : Int)) = true := decide_eq_true hii
      have hiL : i < L.length := by rw [← HN.out]; exact hin
      have BR : Hid (Below w.heap.size w wr) := B1.out.trans (HS.out.below.mono B1.out.size)
      have e8 := HLL.out.at0 (by omega)
      have LB := HLL.out.below BR.out
      have RG : Hid (wr.rangeAt bb (oo + i * 15) (opV L[i]).toList) := fun j u' hj => LB.c i hiL j u' (by simpa using hj)
      have HC : Hid (∀ W4, Below w.heap.size w W4 → W4.cell? ⟨bb, oo + i * 15, none⟩ = some (.int .i64 L[i].kd)) := fun W4 b4 => (HLL.out.below b4).c i hiL 0 _ rfl
      have OK := hide (O1.out i hiL)
      obtain ⟨ev, hev⟩ : ∃ ev, ev = L[i] := ⟨_, rfl⟩
      rw [← hev] at RG HC OK
      clear hev LB hiL
      subst e8
      have SP := hide (HS.out.step (by omega) T1.out h31.out OK.out)
      go_wp2_with (refine wpList_load_mid rfl 60 (.tmp 34) rfl bb (oo + i * 15) rfl (opV ev).toList _ RG.out Tryz.underlying60 rfl op_info ?_)
      refine Calls.mono SP.out ?_
      rintro e W4 ⟨rfl, s4⟩
      have S4 := hide s4
      clear s4 SP RG
      go_wp2_with fail
      exact ⟨⟨i + 1, by omega, rfl, rfl, S4.out⟩, by simp [intOf]; omega⟩
    case neg =>
      obtain rfl : i = n := by omega
      have XL2 := XL1.out
      obtain ⟨r, hr⟩ : ∃ r, r = x 0 := ⟨_, rfl⟩
      obtain ⟨g, hg⟩ : ∃ g, g = x 17 := ⟨_, rfl⟩
      obtain ⟨k, hk⟩ : ∃ k, k = r * g := ⟨_, rfl⟩
      have lr : 1 ≤ r ∧ r ≤ 16 := by rw [hr]; exact XL2.1
      have lg : 1 ≤ g ∧ g ≤ 1024 := by rw [hg]; exact XL2.2
      have hk0 : 0 ≤ k := by rw [hk]; exact Int.mul_nonneg (by omega) (by omega)
      have hk1 : k ≤ 16384 := by
        rw [hk]
        have := Int.mul_le_mul lr.2 lg.2 (by omega) (by omega)
        omega
      have HK := hide hk
      have C1 : Hid (∀ W3, Below W1.heap.size W1 W3 → W3.cell? ⟨w.heap.size, 1, none⟩ = some (.int .i64 r) ∧ W3.cell? ⟨w.heap.size, 18, none⟩ = some (.int .i64 g)) := fun W3 b3 => ⟨by rw [hr]; exact (X1.out.cl.below b3).x 0 (by omega), by rw [hg]; exact (X1.out.cl.below b3).x 17 (by omega)⟩
      have S3 : Hid (Std W1 wr R B ⟨st, x, ns⟩ (i + 1) k) := by
        have := HS.out
        rw [← hr, ← hg, ← hk] at this
        exact this
      clear HS XL1 XL2 hr hg hk X1
      go_wp2_with fail
      go_loopw [6, 8] (fun vo vj wt => ∃ j : Nat, (j : Int) ≤ k ∧ vj = .int .i64 (j : Int) ∧ vo = .bool true ∧ Hid (Std W1 wt R B ⟨st, x, ns⟩ (i + 1 + j) (k - (j : Int)))) (fun _ vj _ => k.toNat - (intOf vj).toNat)
      case atStart => exact ⟨0, by omega, rfl, rfl, by have := S3.out; rw [show k - ((0 : Nat) : Int) = k by omega]; exact this⟩
      case round =>
        obtain ⟨j, hj, rfl, rfl, HS⟩ := hrel
        obtain ⟨c1, c2⟩ := C1.out _ HS.out.below
        by_cases hjn : (j : Int) < k
        case pos =>
          have TI := hide (HS.out.tick (by omega))
          have q2 : decide ((j : Int) < k) = true := decide_eq_true hjn
          go_wp2_with (refine wpList_muli rfl (.tmp 41) (.tmp 43) rfl r g k rfl rfl HK.out.symm (by omega) (by omega) ?_)
          refine Calls.mono TI.out ?_
          rintro e W4 ⟨rfl, s4⟩
          have S4 : Hid (Std W1 W4 R B ⟨st, x, ns⟩ (i + 1 + (j + 1)) (k - ((j + 1 : Nat) : Int))) := by
            rw [show k - ((j + 1 : Nat) : Int) = k - (j : Int) - 1 by omega]
            exact s4
          clear s4 TI HS c1 c2
          go_wp2_with fail
          exact ⟨⟨j + 1, by omega, rfl, rfl, S4.out⟩, by simp [intOf]; omega⟩
        case neg =>
          obtain ⟨m, hm, op, dp⟩ := HS.out.opens (by omega)
          obtain rfl := hm (by omega)
          have OP := hide op
          have DP := hide dp
          have cB := HS.out.cell
          have q2 : decide ((j : Int) < k) = false := decide_eq_false hjn
          have BR := hide (B1.out.trans (HS.out.below.mono B1.out.size))
          clear op dp hm
          go_wp2_with (first | (refine wpList_muli rfl (.tmp 41) (.tmp 43) rfl r g k rfl rfl HK.out.symm (by omega) (by omega) ?_) | (go_at_call 17; refine Calls.mono OP.out ?_; rintro e w' ⟨rfl, rfl⟩) | (go_at_call 20; refine Calls.mono DP.out ?_; rintro e w' ⟨rfl, rfl⟩))
          go_ret
          exact ⟨rfl, BR.out⟩
end Go.Proofs.YtndfhpfhgdamgaaGreatDoor.Cn
