import Derived.Test.YtnegdhnmgkpkjaaGDdCalls
import Derived.Test.YtnegdhnmgkpkjaaRows
import Derived.Test.YtnegdhnmgkpkjaaGKbPlain
import Derived.ProofKit
import Derived.OpenShut
import Derived.JoinedOf
import Derived.SizedLaws
import Derived.Lib.SmallJoins
import Derived.Deep.SlicePairs
import Derived.Deep.DeepHandedRow
namespace Go.Proofs.Ytnegdhnmgkpkjaa
open Go.RowKit
theorem st_block (w : World) (a b : Int) (v : Value) : (w.alloc (.cells #[.int .i64 a, .int .i64 b, v] 40)).heap[w.heap.size]? = some (.cells #[.int .i64 a, .int .i64 b, v] 40) := heap_last _ _
def StB (w : World) (B : Nat) (a b : Int) (v : Value) : Prop := w.heap[B]? = some (.cells #[.int .i64 a, .int .i64 b, v] 40)
theorem StB.c0 {w : World} {B : Nat} {a b : Int} {v : Value} (h : StB w B a b v) : w.cell? ⟨B, 0, none⟩ = some (.int .i64 a) := by unfold World.cell?; rw [h]; rfl
theorem StB.c1 {w : World} {B : Nat} {a b : Int} {v : Value} (h : StB w B a b v) : w.cell? ⟨B, 1, none⟩ = some (.int .i64 b) := by unfold World.cell?; rw [h]; rfl
theorem StB.c2 {w : World} {B : Nat} {a b : Int} {v : Value} (h : StB w B a b v) : w.cell? ⟨B, 2, none⟩ = some v := by unfold World.cell?; rw [h]; rfl
theorem StB.kp {w w' : World} {B : Nat} {a b : Int} {v : Value} {S : Nat → Prop} (h : StB w B a b v) (hk : Kp w w' S) (hS : ¬ S B) : StB w' B a b v := (hk.block B (blk_lt h) hS).trans h
set_option maxHeartbeats 4000000 in
set_option maxRecDepth 100000 in
set_option linter.unusedSimpArgs false in
set_option linter.unusedVariables false in
theorem drive_any {w : World} {S : Nat → Prop} {D : Nat} {d : Dt} (h : DtAt w S D d) {m : Nat} (hf : d.upto m) (hm : m ≤ 1000000000) (kd nd : Int) (ba : Option Addr) (len cap : Nat) :
    Calls Try.prog 18 #[.pointer (some ⟨D, 0, none⟩), .agg #[.int .i64 kd, .int .i64 nd, .slice ba len cap]] w fun e w' => e = .returned (.tuple #[]) ∧ DtAt w' S D (d.does kd nd) ∧ Kp w w' S := by
  have hlt := h.lt
  obtain ⟨W0, hW0⟩ : ∃ W0, W0 = w.alloc (.cells #[.int .i64 kd, .int .i64 nd, .slice ba len cap] 40) := ⟨_, rfl⟩
  obtain ⟨B, hB⟩ : ∃ B, B = w.heap.size := ⟨_, rfl⟩
  have hb : Below w.heap.size w W0 := by rw [hW0]; exact (Below.refl _ _).alloc (Nat.le_refl _) _
  have sb : StB W0 B kd nd (.slice ba len cap) := by rw [hW0, hB]; exact heap_last _ _
  have H0 := hide (h.below hb)
  have HK := hide (Kp.of_below hb S)
  have hSB : ¬ S B := fun q => by have := hlt B q; omega
  have HB := hide hSB
  have SB := hide sb
  have c0 := sb.c0
  have c1 := sb.c1
  clear h hb sb hlt hSB
  by_cases k1 : kd = 1
  · subst k1
    have GO := hide (Good_all H0.out hf.ft nd)
    go_enter Try.func18, Try.ntmps18
    go_wp2_with fail
    rw [← hW0, ← hB]
    clear hW0 hB
    go_wp2_with fail
    refine Calls.mono GO.out ?_
    rintro e W1 ⟨rfl, h1, h2⟩
    have H1 := hide h1
    have H2 := hide h2
    clear h1 h2
    go_wp2_with fail
    go_end0
    exact ⟨rfl, H1.out, HK.out.trans H2.out (fun _ e => Or.inl e)⟩
  · by_cases k2 : kd = 2
    · subst k2
      have GO := hide (Bad_all H0.out hf hm nd)
      go_enter Try.func18, Try.ntmps18
      go_wp2_with fail
      rw [← hW0, ← hB]
      clear hW0 hB
      go_wp2_with fail
      refine Calls.mono GO.out ?_
      rintro e W1 ⟨rfl, h1, h2⟩
      have H1 := hide h1
      have H2 := hide h2
      clear h1 h2
      go_wp2_with fail
      go_end0
      exact ⟨rfl, H1.out, HK.out.trans H2.out (fun _ e => Or.inl e)⟩
    · by_cases k3 : kd = 3
      · subst k3
        have HD : Hid (d.does 3 nd = d.tickN (min nd 1100).toNat) := by unfold Hid Dt.does; rw [if_neg (by decide), if_neg (by decide), if_pos rfl]
        generalize d.does 3 nd = d' at *
        have HT : Hid (∀ (j : Nat) (W : World), j < 1100 → DtAt W S D (d.tickN j) → Calls Try.prog 15 #[.pointer (some ⟨D, 0, none⟩)] W fun e w' => e = .returned (.int .i64 0) ∧ DtAt w' S D (d.tickN (j + 1)) ∧ Kp W w' S) := fun j W hj hW => by
          have := Tick_any hW (hf.ft.tickN j) (by have := hf.t1; show d.now + (j : Int) < _; omega)
          rwa [tickN_succ] at this
        clear hf hm k1 k2
        go_enter Try.func18, Try.ntmps18
        go_wp2_with fail
        rw [← hW0, ← hB]
        clear hW0 hB
        go_wp2_with fail
        clear c0 c1
        go_loopw [4] (fun vi wr => ∃ (j : Nat), (j : Int) ≤ max nd 0 ∧ j ≤ 1100 ∧ vi = .int .i64 (j : Int) ∧ Hid (DtAt wr S D (d.tickN j)) ∧ Hid (Kp w wr S) ∧ Hid (StB wr B 3 nd (.slice ba len cap))) (fun vi _ => 1100 - (intOf vi).toNat)
        case atStart => exact ⟨0, by omega, by omega, rfl, by rw [tickN_zero]; exact H0.out, HK.out, SB.out⟩
        case round =>
          obtain ⟨j, hj, hj2, rfl, HA, HC, HS⟩ := hrel
          have c1 := HS.out.c1
          by_cases q1 : (j : Int) < nd
          · by_cases q2 : j < 1100
            · have q3 : (j : Int) < 1100 := by omega
              have TT := hide (HT.out j wr q2 HA.out)
              go_wp2_with fail
              refine Calls.mono TT.out ?_
              rintro e W1 ⟨rfl, h1, h2⟩
              have H1 := hide h1
              have H2 := hide h2
              clear h1 h2 TT c1
              go_wp2_with fail
              go_roundw
              case rel => exact ⟨j + 1, by omega, by omega, by go_num, H1.out, HC.out.trans H2.out (fun _ e => Or.inl e), HS.out.kp H2.out HB.out⟩
              case measure => simp [intOf]; omega
            · obtain rfl : j = 1100 := by omega
              go_wp2_with fail
              go_end0
              refine ⟨rfl, ?_, HC.out⟩
              rw [HD.out, show (min nd 1100).toNat = 1100 by omega]
              exact HA.out
          · go_wp2_with fail
            go_end0
            refine ⟨rfl, ?_, HC.out⟩
            rw [HD.out, show (min nd 1100).toNat = j by omega]
            exact HA.out
      · have q1 : (kd == 1) = false := by simpa using k1
        have q2 : (kd == 2) = false := by simpa using k2
        have q3 : (kd == 3) = false := by simpa using k3
        have HD : d.does kd nd = d := by unfold Dt.does; rw [if_neg k1, if_neg k2, if_neg k3]
        rw [HD]
        clear hf hm HD
        go_enter Try.func18, Try.ntmps18
        go_wp2_with fail
        rw [← hW0, ← hB]
        clear hW0 hB
        go_wp2_with fail
        go_end0
        exact ⟨rfl, H0.out, HK.out⟩
end Go.Proofs.Ytnegdhnmgkpkjaa
namespace Go.Proofs.Ytnegdhnmgkpkjaa
open Go.RowKit
def SuB (w : World) (U : Nat) (a b c : Int) : Prop := w.heap[U]? = some (.cells #[.int .i64 a, .int .i64 b, .int .i64 c] 23)
theorem SuB.cs {w : World} {U : Nat} {a b c : Int} (h : SuB w U a b c) : w.cell? ⟨U, 0, none⟩ = some (.int .i64 a) ∧ w.cell? ⟨U, 1, none⟩ = some (.int .i64 b) ∧ w.cell? ⟨U, 2, none⟩ = some (.int .i64 c) := by
  unfold World.cell?
  dsimp only
  rw [h]
  exact ⟨rfl, rfl, rfl⟩
theorem SuB.kp {w w' : World} {U : Nat} {a b c : Int} {S : Nat → Prop} (h : SuB w U a b c) (hk : Kp w w' S) (hS : ¬ S U) : SuB w' U a b c := (hk.block U (blk_lt h) hS).trans h
/-- the node has failed k times of b -/
structure Ba (d : Dt) (a b c nd : Int) (k : Nat) : Prop where
  up : d.upto k
  n : (d.n : Int) = a
  lim : d.lim = b
  ban : d.ban = c
  now : d.now = 0
  st : d.st nd = (k : Int)
  en : d.en nd = if b ≤ (k : Int) then c else 0
theorem bad_of {d : Dt} {nd : Int} (h0 : 0 ≤ nd) (h1 : nd < (d.n : Int)) : d.does 2 nd = d.bad nd := by unfold Dt.does; rw [if_neg (by decide), if_pos rfl, if_pos ⟨h0, h1⟩]
theorem good_of {d : Dt} {nd : Int} (h0 : 0 ≤ nd) (h1 : nd < (d.n : Int)) : d.does 1 nd = d.good nd := by unfold Dt.does; rw [if_pos rfl, if_pos ⟨h0, h1⟩]
theorem Ba.bad {d : Dt} {a b c nd : Int} {k : Nat} (h : Ba d a b c nd k) (h0 : 0 ≤ nd) (h1 : nd < a) : Ba (d.does 2 nd) a b c nd (k + 1) := by
  have hn := h.n
  rw [bad_of h0 (by omega)]
  have hst := h.st
  refine ⟨h.up.bad nd, h.n, h.lim, h.ban, h.now, ?_, ?_⟩
  · show upd d.st nd _ nd = _
    unfold upd
    rw [if_pos rfl, hst]
    omega
  · show (if d.lim ≤ d.st nd + 1 then upd d.en nd (d.now + d.ban) else d.en) nd = _
    rw [h.lim, hst, h.now, h.ban]
    by_cases q : b ≤ (k : Int) + 1
    · rw [if_pos q, if_pos (by omega)]
      unfold upd
      rw [if_pos rfl]
      omega
    · rw [if_neg q, if_neg (by omega), h.en, if_neg (by omega)]
theorem Ba.start {a b c nd : Int} (h : okN a b c) : Ba (Dt.new a.toNat b c) a b c nd 0 := by
  have := h.1.1
  have := h.2.1.1
  exact ⟨⟨new_fits h, fun _ => Int.le_refl _, fun _ => Int.le_refl _, Int.le_refl _⟩, by show (a.toNat : Int) = a; omega, rfl, rfl, rfl, rfl, by show 0 = _; rw [if_neg (by omega)]⟩
theorem Ba.spk {d : Dt} {a b c nd : Int} {k : Nat} (h : Ba d a b c nd k) (h0 : 0 ≤ nd) (h1 : nd < a) (hk : (k : Int) < b) : spkV d nd = true := by
  unfold spkV
  refine decide_eq_true ⟨h0, by rw [h.n]; exact h1, ?_⟩
  rw [h.now, h.en, if_neg (by omega)]
  omega
theorem Ba.sil {d : Dt} {a b c nd : Int} {k : Nat} (h : Ba d a b c nd k) (h0 : 0 ≤ nd) (h1 : nd < a) (hk : b ≤ (k : Int)) (t : Nat) (ht : (t : Int) < c) : silV (d.tickN t) nd = true := by
  unfold silV
  refine decide_eq_true ⟨h0, by show nd < (d.n : Int); rw [h.n]; exact h1, ?_⟩
  show d.now + (t : Int) < d.en nd
  rw [h.now, h.en, if_pos hk]
  omega
theorem Ba.spk2 {d : Dt} {a b c nd : Int} {k : Nat} (h : Ba d a b c nd k) (h0 : 0 ≤ nd) (h1 : nd < a) (hk : b ≤ (k : Int)) (t : Nat) (ht : (t : Int) = c) : spkV (d.tickN t) nd = true := by
  unfold spkV
  refine decide_eq_true ⟨h0, by show nd < (d.n : Int); rw [h.n]; exact h1, ?_⟩
  show ¬ d.now + (t : Int) < d.en nd
  rw [h.now, h.en, if_pos hk]
  omega
theorem Ba.sil2 {d : Dt} {a b c nd : Int} {k : Nat} (h : Ba d a b c nd k) (h0 : 0 ≤ nd) (h1 : nd < a) (hk : b ≤ (k : Int)) (hc : 1 ≤ c) (t : Nat) (ht : (t : Int) = c) : silV ((d.tickN t).does 2 nd) nd = true := by
  have hn := h.n
  rw [bad_of h0 (by show nd < (d.n : Int); omega)]
  unfold silV
  refine decide_eq_true ⟨h0, by show nd < (d.n : Int); rw [h.n]; exact h1, ?_⟩
  show d.now + (t : Int) < (if d.lim ≤ d.st nd + 1 then upd d.en nd (d.now + (t : Int) + d.ban) else d.en) nd
  rw [h.lim, h.st, if_pos (by omega), h.ban]
  unfold upd
  rw [if_pos rfl]
  omega
theorem Ba.spk3 {d : Dt} {a b c nd : Int} {k : Nat} (h : Ba d a b c nd k) (h0 : 0 ≤ nd) (h1 : nd < a) (t : Nat) : spkV (((d.tickN t).does 2 nd).does 1 nd) nd = true := by
  have hn := h.n
  rw [bad_of h0 (by show nd < (d.n : Int); omega), good_of h0 (by show nd < (d.n : Int); omega)]
  unfold spkV
  refine decide_eq_true ⟨h0, by show nd < (d.n : Int); rw [h.n]; exact h1, ?_⟩
  show ¬ d.now + (t : Int) < upd _ nd 0 nd
  unfold upd
  rw [if_pos rfl, h.now]
  omega
/-- all that the law keeps -/
structure BaI (w0 wr : World) (S : Nat → Prop) (D U : Nat) (d : Dt) (a b c : Int) : Prop where
  dt : DtAt wr S D d
  su : SuB wr U a b c
  ks : Kp w0 wr non
theorem BaI.below {w0 wr w' : World} {S : Nat → Prop} {D U : Nat} {d : Dt} {a b c : Int} (h : BaI w0 wr S D U d a b c) (hb : Below wr.heap.size wr w') : BaI w0 w' S D U d a b c :=
  ⟨h.dt.below hb, h.su.kp (Kp.of_below hb non) (fun f => f), h.ks.trans (Kp.of_below hb non) (fun _ f => f.elim)⟩
theorem BaI.step {w0 wr w' : World} {S : Nat → Prop} {D U : Nat} {d d' : Dt} {a b c : Int} (h : BaI w0 wr S D U d a b c) (hS : ∀ k, S k → w0.heap.size ≤ k ∧ k ≠ U) (h1 : DtAt w' S D d') (hk : Kp wr w' S) : BaI w0 w' S D U d' a b c :=
  ⟨h1, h.su.kp hk (fun e => (hS U e).2 rfl), h.ks.trans hk (fun k e => Or.inr (hS k e).1)⟩
set_option maxHeartbeats 8000000 in
set_option maxRecDepth 100000 in
set_option linter.unusedSimpArgs false in
set_option linter.unusedVariables false in
theorem bans_any (w : World) (a b c nd : Int) :
    Calls Try.prog 3 #[.agg #[.int .i64 a, .int .i64 b, .int .i64 c], .int .i64 nd] w fun e w' => e = .returned (.bool true) ∧ Below w.heap.size w w' := by
  obtain ⟨W0, hW0⟩ : ∃ W0, W0 = w.alloc (.cells #[.int .i64 a, .int .i64 b, .int .i64 c] 23) := ⟨_, rfl⟩
  obtain ⟨U, hU⟩ : ∃ U, U = w.heap.size := ⟨_, rfl⟩
  have hb : Below w.heap.size w W0 := by rw [hW0]; exact (Below.refl _ _).alloc (Nat.le_refl _) _
  have su : SuB W0 U a b c := by rw [hW0, hU]; exact heap_last _ _
  obtain ⟨c0, c1, c2⟩ := su.cs
  have HSU := hide su
  have HB0 := hide hb
  have NU := hide fun w n => num_any w n
  by_cases hok : okN a b c
  · have NE := hide (New_any W0 a b c hok)
    have FI := fun w => fits_any w a b c
    simp only [decide_eq_true hok] at FI
    have FI := hide FI
    by_cases hn : 0 ≤ nd ∧ nd < a
    · obtain ⟨n0, n1⟩ := hn
      have HBS := hide (Ba.start (nd := nd) hok)
      have b1 := hok.2.1.1
      have b2 := hok.2.1.2
      have g1 := hok.2.2.1
      have g2 := hok.2.2.2
      have HBa := hide fun d k (h : Ba d a b c nd k) => h.bad n0 n1
      clear hok hb su
      go_enter Try.func3, Try.ntmps3
      go_wp2_with fail
      rw [← hW0, ← hU]
      go_wp2_with fail
      refine Calls.mono NE.out ?_
      rintro e W1 ⟨D, S, rfl, hD, hB1, hS⟩
      have hUW : U < W0.heap.size := blk_lt HSU.out
      have HI : Hid (BaI w W1 S D U (Dt.new a.toNat b c) a b c) := ⟨hD, HSU.out.kp (Kp.of_below hB1 non) (fun f => f), (Kp.of_below HB0.out non).trans (Kp.of_below hB1 non) (fun _ f => f.elim)⟩
      have hS2 : ∀ k, S k → w.heap.size ≤ k ∧ k ≠ U := fun k e => by
        have := hS k e
        have := HB0.out.size
        omega
      have HS := hide hS2
      clear hW0 hU NE HSU HB0 hD hB1 hS hS2 hUW c0 c1 c2
      obtain ⟨c0, c1, c2⟩ := HI.out.su.cs
      go_wp2_with fail
      refine Calls.mono (FI.out _) ?_
      rintro e W2 ⟨rfl, hB2⟩
      replace HI := hide (HI.out.below hB2)
      clear hB2 c0 c1 c2
      obtain ⟨c0, c1, c2⟩ := HI.out.su.cs
      go_wp2_with fail
      refine Calls.mono (NU.out _ _) ?_
      rintro e W3 ⟨rfl, rfl⟩
      go_wp2_with fail
      clear c0 c1 c2
      go_loopw [7] (fun vk wr => ∃ (k : Nat) (d : Dt), (k : Int) ≤ b ∧ vk = .int .i64 ((k : Int) + 1) ∧ Hid (BaI w wr S D U d a b c) ∧ Hid (Ba d a b c nd k)) (fun vk _ => 65 - (intOf vk).toNat)
      case atStart => exact ⟨0, _, by omega, rfl, HI.out, HBS.out⟩
      case round =>
        clear HI HBS
        obtain ⟨k, d, hk, rfl, HI, HA⟩ := hrel
        obtain ⟨c0, c1, c2⟩ := HI.out.su.cs
        by_cases hkb : (k : Int) < b
        · have SP := speaks_any HI.out.dt HA.out.up.ft nd
          rw [HA.out.spk n0 n1 hkb] at SP
          have SP := hide SP
          have hlk : (k : Int) + 1 ≤ b := by omega
          go_wp2_with fail
          refine Calls.mono SP.out ?_
          rintro e W4 ⟨rfl, hB4⟩
          replace HI := hide (HI.out.below hB4)
          have BD := hide (Bad_all HI.out.dt HA.out.up (by omega) nd)
          clear hB4 c0 c1 c2 SP
          go_wp2_with fail
          refine Calls.mono BD.out ?_
          rintro e W5 ⟨rfl, h1, h2⟩
          replace HI := hide (HI.out.step HS.out h1 h2)
          clear h1 h2 BD
          go_wp2_with fail
          go_roundw
          case rel => exact ⟨k + 1, _, by omega, by go_num, HI, hide (HBa.out _ _ HA.out)⟩
          case measure => simp [intOf]; omega
        · have hkb' : ¬ (k : Int) + 1 ≤ b := by omega
          have hbk : b ≤ (k : Int) := by omega
          go_wp2_with fail
          clear c0 c1 c2
          go_loopw [8] (fun vt wr => ∃ (t : Nat), (t : Int) ≤ c ∧ vt = .int .i64 (t : Int) ∧ Hid (BaI w wr S D U (d.tickN t) a b c)) (fun vt _ => 1025 - (intOf vt).toNat)
          case atStart => exact ⟨0, by omega, rfl, by rw [tickN_zero]; exact HI.out⟩
          case round =>
            clear HI
            obtain ⟨t, ht, rfl, HI⟩ := hrel
            obtain ⟨c0, c1, c2⟩ := HI.out.su.cs
            have ut := HA.out.up.tickN (j := t) (by omega)
            by_cases htc : (t : Int) < c
            · have SI := silent_any HI.out.dt ut.ft nd
              rw [HA.out.sil n0 n1 hbk t htc] at SI
              have SI := hide SI
              go_wp2_with fail
              refine Calls.mono SI.out ?_
              rintro e W4 ⟨rfl, hB4⟩
              replace HI := hide (HI.out.below hB4)
              have TK := Tick_any HI.out.dt ut.ft (by have := ut.t1; omega)
              rw [tickN_succ] at TK
              have TK := hide TK
              clear hB4 c0 c1 c2 SI
              go_wp2_with fail
              refine Calls.mono TK.out ?_
              rintro e W5 ⟨rfl, h1, h2⟩
              replace HI := hide (HI.out.step HS.out h1 h2)
              clear h1 h2 TK
              go_wp2_with fail
              go_roundw
              case rel => exact ⟨t + 1, by omega, by go_num, HI⟩
              case measure => simp [intOf]; omega
            · have etc : (t : Int) = c := by omega
              have SP := speaks_any HI.out.dt ut.ft nd
              rw [HA.out.spk2 n0 n1 hbk t etc] at SP
              have SP := hide SP
              have HE := hide etc
              clear etc
              go_wp2_with fail
              refine Calls.mono SP.out ?_
              rintro e W4 ⟨rfl, hB4⟩
              replace HI := hide (HI.out.below hB4)
              have BD := hide (Bad_all HI.out.dt ut (by omega) nd)
              clear hB4 c0 c1 c2 SP
              go_wp2_with fail
              refine Calls.mono BD.out ?_
              rintro e W5 ⟨rfl, h1, h2⟩
              replace HI := hide (HI.out.step HS.out h1 h2)
              have ut2 := ut.does 2 nd
              have SI := silent_any HI.out.dt ut2.ft nd
              rw [HA.out.sil2 n0 n1 hbk g1 t HE.out] at SI
              have SI := hide SI
              clear h1 h2 BD
              go_wp2_with fail
              refine Calls.mono SI.out ?_
              rintro e W6 ⟨rfl, hB6⟩
              replace HI := hide (HI.out.below hB6)
              have GO := hide (Good_all HI.out.dt ut2.ft nd)
              clear hB6 SI
              go_wp2_with fail
              refine Calls.mono GO.out ?_
              rintro e W7 ⟨rfl, h1, h2⟩
              replace HI := hide (HI.out.step HS.out h1 h2)
              have SP := speaks_any HI.out.dt (ut2.does 1 nd).ft nd
              rw [HA.out.spk3 n0 n1 t] at SP
              have SP := hide SP
              clear h1 h2 GO
              go_wp2_with fail
              refine Calls.mono SP.out ?_
              rintro e W8 ⟨rfl, hB8⟩
              replace HI := hide (HI.out.below hB8)
              clear hB8 SP
              go_wp2_with fail
              go_ret
              exact ⟨rfl, HI.out.ks.below⟩
    · have hc : nd < 0 ∨ (0 ≤ nd ∧ a ≤ nd) := by omega
      clear hn hok hb su
      rcases hc with n0 | ⟨n0, n1⟩
      all_goals
        go_enter Try.func3, Try.ntmps3
        go_wp2_with fail
        rw [← hW0, ← hU]
        go_wp2_with fail
        refine Calls.mono NE.out ?_
        rintro e W1 ⟨D, S, rfl, hD, hB1, hS⟩
        have HS1 := hide (HSU.out.kp (Kp.of_below hB1 non) (fun f => f))
        have HB1 := hide (HB0.out.trans (hB1.mono HB0.out.size))
        clear hW0 hU NE HSU HB0 hD hB1 hS c0 c1 c2
        obtain ⟨c0, c1, c2⟩ := HS1.out.cs
        go_wp2_with fail
        refine Calls.mono (FI.out _) ?_
        rintro e W2 ⟨rfl, hB2⟩
        replace HS1 := hide (HS1.out.kp (Kp.of_below hB2 non) (fun f => f))
        replace HB1 := hide (HB1.out.trans (hB2.mono HB1.out.size))
        clear hB2 c0 c1 c2
        obtain ⟨c0, c1, c2⟩ := HS1.out.cs
        go_wp2_with fail
        refine Calls.mono (FI.out _) ?_
        rintro e W3 ⟨rfl, hB3⟩
        replace HB1 := hide (HB1.out.trans (hB3.mono HB1.out.size))
        clear hB3
        go_wp2_with fail
        go_ret
        exact ⟨rfl, HB1.out⟩
  · have NE := hide (New_no W0 a b c hok)
    have FI := fun w => fits_any w a b c
    simp only [decide_eq_false hok] at FI
    have FI := hide FI
    clear hok hb su
    go_enter Try.func3, Try.ntmps3
    go_wp2_with fail
    rw [← hW0, ← hU]
    go_wp2_with fail
    refine Calls.mono NE.out ?_
    rintro e W1 ⟨rfl, rfl⟩
    clear hW0 hU NE
    go_wp2_with fail
    refine Calls.mono (FI.out _) ?_
    rintro e W2 ⟨rfl, hB2⟩
    have HS1 := hide (HSU.out.kp (Kp.of_below hB2 non) (fun f => f))
    have HB1 := hide (HB0.out.trans (hB2.mono HB0.out.size))
    clear hB2 c0 c1 c2 HSU HB0
    obtain ⟨c0, c1, c2⟩ := HS1.out.cs
    go_wp2_with fail
    refine Calls.mono (FI.out _) ?_
    rintro e W3 ⟨rfl, hB3⟩
    replace HB1 := hide (HB1.out.trans (hB3.mono HB1.out.size))
    clear hB3
    go_wp2_with fail
    refine Calls.mono (NU.out _ _) ?_
    rintro e W4 ⟨rfl, rfl⟩
    go_wp2_with fail
    go_ret
    exact ⟨rfl, HB1.out⟩
end Go.Proofs.Ytnegdhnmgkpkjaa
namespace Go.Proofs.Ytnegdhnmgkpkjaa
open Go.ChangeShapes Go.WideShapes Go.ChangeAt Go.RowKit Go.Deep
open Go.Joins (open_agg3 open_agg2)
theorem cellsI : Try.prog.cellsOf 3 = 1 := by kernel_rfl
theorem cellsSu : Try.prog.cellsOf 23 = 3 := by kernel_rfl
theorem cellsSp : Try.prog.cellsOf 40 = 3 := by kernel_rfl
theorem cellsIs : Try.prog.cellsOf 38 = 1 := by kernel_rfl
theorem laidOutP : laidOutB Try.prog = true := by kernel_rfl
theorem add_plainT (b o j : Nat) : (⟨b, o, none⟩ : Addr).add j = ⟨b, o + j, none⟩ := Addr.add_mid b o j
set_option maxRecDepth 100000 in
/-- New's arguments that are handed in -/
theorem open_setup {H : Type} {enc : TypeId × Value → H} {w : World} {r : Reach} {b0 base : Nat} {spare : Nat → Bool} {held : Bool} {v : Value} {d : DataW H} {p : List MemPlace} (hv : Value.okWide Try.prog w r b0 23 v) (h : DataW.Trod enc Try.prog w base spare held 23 v d p) :
    ∃ x y z : Int, v = .agg #[.int .i64 x, .int .i64 y, .int .i64 z] ∧ p = [] := by
  obtain ⟨a0, a1, a2, y0, y1, y2, n, rfl, rfl, rfl, t0, t1, t2⟩ := open_agg3 Try.underlying23 (by kernel_rfl) cellsSu hv h
  obtain ⟨c0, e0, rfl, w0⟩ := DataW.trod_int Try.underlying3 t0
  obtain ⟨c1, e1, rfl, w1⟩ := DataW.trod_int Try.underlying3 t1
  obtain ⟨c2, e2, rfl, w2⟩ := DataW.trod_int Try.underlying3 t2
  simp only [List.cons.injEq, and_true] at e0 e1 e2
  subst e0 e1 e2
  exact ⟨c0, c1, c2, rfl, rfl⟩
set_option maxRecDepth 100000 in
/-- ints that are handed in -/
theorem open_is {H : Type} {enc : TypeId × Value → H} {w : World} {base fuel : Nat} {spare : Nat → Bool} {held : Bool} {v : Value} {x : DataW H × List MemPlace} (h : DataW.trod enc Try.prog w base spare held fuel 38 [v] = some x) :
    ∃ (L : List Int) (ao : Option Addr) (b o cap : Nat), v = .slice ao L.length cap ∧ IsAt w ao b o L := by
  rcases open_slice1 Try.underlying38 cellsI h with ⟨h0, _⟩ | ⟨a, len, cap, m, n, V, D, Pl, hv, hb, hl, hm, hmm, hx, hc⟩
  · simp only [List.cons.injEq, and_true] at h0
    subst h0
    exact ⟨[], none, 0, 0, 0, rfl, ⟨fun q => absurd q (by simp), (fun q hq => absurd hq (by simp)), Nat.zero_le _⟩⟩
  · simp only [List.cons.injEq, and_true] at hv
    subst hv
    have hlm : len ≤ m := by rw [hmm]; split <;> omega
    have each : ∀ i, i < len → ∃ y : Int, V i = .int .i64 y := fun i hi => by
      obtain ⟨y, f, _, _⟩ := DataW.trod_int Try.underlying3 (hc i (by omega)).2
      simp only [List.cons.injEq, and_true] at f
      exact ⟨y, f⟩
    obtain ⟨q, hq⟩ := choose_lt each
    have hplen : ((List.range len).map q).length = len := by simp
    obtain ⟨b, off, spot⟩ := a
    have hspot : 0 < len → spot = none := fun h => by simpa [Addr.add] using World.cell?_spot (hc 0 (by omega)).1
    have cell : ∀ (i : Nat) (hi : i < ((List.range len).map q).length), w.cell? ⟨b, off + i, none⟩ = some (.int .i64 ((List.range len).map q)[i]) := by
      intro i hi
      have hi' : i < len := by rw [hplen] at hi; exact hi
      have e := (hc i (by omega)).1
      rw [hspot (by omega), add_plainT, hq i hi'] at e
      rw [e, List.getElem_map, List.getElem_range]
    refine ⟨(List.range len).map q, some ⟨b, off, spot⟩, b, off, cap, by rw [hplen], ⟨fun z => ?_, cell, ?_⟩⟩
    · rw [hplen] at z
      rw [hspot z]
    · rw [hplen]
      unfold maxLen at hm
      omega
/-- steps -/
structure Stp where
  kd : Int
  nd : Int
  ns : List Int
/-- steps that can be read -/
structure SsAt (w : World) (ao : Option Addr) (b o : Nat) (ia : Nat → Option Addr) (ib io ic : Nat → Nat) (ss : List Stp) : Prop where
  at0 : 0 < ss.length → ao = some ⟨b, o, none⟩
  c0 : ∀ i (h : i < ss.length), w.cell? ⟨b, o + i * 3, none⟩ = some (.int .i64 ss[i].kd)
  c1 : ∀ i (h : i < ss.length), w.cell? ⟨b, o + i * 3 + 1, none⟩ = some (.int .i64 ss[i].nd)
  c2 : ∀ i (h : i < ss.length), w.cell? ⟨b, o + i * 3 + 2, none⟩ = some (.slice (ia i) ss[i].ns.length (ic i))
  is : ∀ i (h : i < ss.length), IsAt w (ia i) (ib i) (io i) ss[i].ns
  len : ss.length ≤ 9223372036854775807
theorem cell_kp {w w' : World} {b o : Nat} {v : Value} (h : w.cell? ⟨b, o, none⟩ = some v) {S : Nat → Prop} (hk : Kp w w' S) (hS : ¬ S b) : w'.cell? ⟨b, o, none⟩ = some v := by
  have e := hk.block b (World.block_lt_of_cell? w _ h) hS
  unfold World.cell? at h ⊢
  dsimp only at h ⊢
  rw [e]
  exact h
theorem SsAt.kp {w w' : World} {ao : Option Addr} {b o : Nat} {ia : Nat → Option Addr} {ib io ic : Nat → Nat} {ss : List Stp} (h : SsAt w ao b o ia ib io ic ss) {S : Nat → Prop} (hk : Kp w w' S) (hS : ∀ k, S k → w.heap.size ≤ k) : SsAt w' ao b o ia ib io ic ss := by
  have hlt : ∀ {k j : Nat} {v : Value}, w.cell? ⟨k, j, none⟩ = some v → ¬ S k := fun hc e => by
    have := hS _ e
    have := World.block_lt_of_cell? w _ hc
    dsimp only at this
    omega
  exact ⟨h.at0, fun i hi => cell_kp (h.c0 i hi) hk (hlt (h.c0 i hi)), fun i hi => cell_kp (h.c1 i hi) hk (hlt (h.c1 i hi)), fun i hi => cell_kp (h.c2 i hi) hk (hlt (h.c2 i hi)), fun i hi => (h.is i hi).kp hk (fun hp => hlt ((h.is i hi).cell 0 hp)), h.len⟩
theorem list3 {α : Type} {l : List α} (h : l.length = 3) : ∃ a0 a1 a2, l = [a0, a1, a2] := by
  match l, h with
  | [a0, a1, a2], _ => exact ⟨a0, a1, a2, rfl⟩
set_option maxRecDepth 100000 in
set_option maxHeartbeats 1000000 in
theorem open_sp {H : Type} {enc : TypeId × Value → H} {w : World} {base fuel : Nat} {spare : Nat → Bool} {held : Bool} {cs : List Value} {x : DataW H × List MemPlace} (h : DataW.trod enc Try.prog w base spare held fuel 40 cs = some x) (hl : cs.length = 3) :
    ∃ (s : Stp) (ia : Option Addr) (ib io ic : Nat), cs = [.int .i64 s.kd, .int .i64 s.nd, .slice ia s.ns.length ic] ∧ IsAt w ia ib io s.ns := by
  obtain ⟨c0, c1, c2, rfl⟩ := list3 hl
  obtain ⟨xs, n, _, hx, _, hxl, hq⟩ := DataW.trod_struct Try.underlying40 h
  obtain ⟨ya, yb, yc, rfl⟩ := list3 hxl
  have ga := hq 0 _ rfl
  have gb := hq 1 _ rfl
  have gc := hq 2 _ rfl
  simp [cellsI, cellsIs] at ga gb gc
  obtain ⟨n0, f0, z0, w0⟩ := DataW.trod_int Try.underlying3 ga
  obtain ⟨n1, f1, z1, w1⟩ := DataW.trod_int Try.underlying3 gb
  obtain ⟨L, ia, ib, io, ic, f2, hL⟩ := open_is gc
  simp only [List.cons.injEq, and_true] at f0 f1
  subst f0 f1 f2
  exact ⟨⟨n0, n1, L⟩, ia, ib, io, ic, rfl, hL⟩
set_option maxRecDepth 100000 in
set_option maxHeartbeats 1000000 in
/-- steps that are handed in -/
theorem open_steps {H : Type} {enc : TypeId × Value → H} {w : World} {base fuel : Nat} {spare : Nat → Bool} {held : Bool} {v : Value} {x : DataW H × List MemPlace} (h : DataW.trod enc Try.prog w base spare held fuel 34 [v] = some x) :
    ∃ (ss : List Stp) (ao : Option Addr) (b o cap : Nat) (ia : Nat → Option Addr) (ib io ic : Nat → Nat), v = .slice ao ss.length cap ∧ SsAt w ao b o ia ib io ic ss := by
  rcases open_slice Try.underlying34 h with ⟨h0, _⟩ | ⟨a, len, cap, m, n, D, Pl, hv, hb, hl, hm, hmm, hx, hc⟩
  · simp only [List.cons.injEq, and_true] at h0
    exact ⟨[], none, 0, 0, 0, fun _ => none, fun _ => 0, fun _ => 0, fun _ => 0, by rw [h0]; rfl, ⟨fun z => absurd z (by simp), (fun q hq => absurd hq (by simp)), (fun q hq => absurd hq (by simp)), (fun q hq => absurd hq (by simp)), (fun q hq => absurd hq (by simp)), Nat.zero_le _⟩⟩
  · simp only [List.cons.injEq, and_true] at hv
    have hlm : len ≤ m := by rw [hmm]; split <;> omega
    have each : ∀ i, i < len → ∃ q : Stp × Option Addr × Nat × Nat × Nat, w.cell? (a.add (i * 3)) = some (.int .i64 q.1.kd) ∧ w.cell? (a.add (i * 3 + 1)) = some (.int .i64 q.1.nd) ∧ w.cell? (a.add (i * 3 + 2)) = some (.slice q.2.1 q.1.ns.length q.2.2.2.2) ∧ IsAt w q.2.1 q.2.2.1 q.2.2.2.1 q.1.ns := by
      intro i hi
      obtain ⟨cs', h1, h2⟩ := hc i (by omega)
      rw [cellsSp] at h1
      obtain ⟨_, hlen, hcell⟩ := World.cells?_some h1
      obtain ⟨s, ia, ib, io, ic, rfl, hI⟩ := open_sp h2 hlen
      have e0 := hcell 0 (by omega)
      have e1 := hcell 1 (by omega)
      have e2 := hcell 2 (by omega)
      rw [add_add] at e0 e1 e2
      exact ⟨(s, ia, ib, io, ic), e0, e1, e2, hI⟩
    haveI : Inhabited Stp := ⟨⟨0, 0, []⟩⟩
    obtain ⟨q, hq⟩ := choose_lt each
    have hplen : ((List.range len).map fun i => (q i).1).length = len := by simp
    obtain ⟨b, off, spot⟩ := a
    have hspot : 0 < len → spot = none := fun hp => by
      have := (hq 0 hp).1
      simpa [Addr.add] using World.cell?_spot this
    have at1 : ∀ (i : Nat) (hi : i < ((List.range len).map fun i => (q i).1).length), i < len ∧ ((List.range len).map fun i => (q i).1)[i] = (q i).1 := fun i hi => ⟨by rw [hplen] at hi; exact hi, by rw [List.getElem_map, List.getElem_range]⟩
    refine ⟨(List.range len).map fun i => (q i).1, some ⟨b, off, spot⟩, b, off, cap, fun i => (q i).2.1, fun i => (q i).2.2.1, fun i => (q i).2.2.2.1, fun i => (q i).2.2.2.2, by rw [hv, hplen], ⟨fun z => ?_, fun i hi => ?_, fun i hi => ?_, fun i hi => ?_, fun i hi => ?_, ?_⟩⟩
    · rw [hplen] at z
      rw [hspot z]
    · obtain ⟨hi', e⟩ := at1 i hi
      have := (hq i hi').1
      rw [hspot (by omega), Addr.add_mid] at this
      rw [e]
      exact this
    · obtain ⟨hi', e⟩ := at1 i hi
      have := (hq i hi').2.1
      rw [hspot (by omega), Addr.add_mid] at this
      rw [e]
      exact this
    · obtain ⟨hi', e⟩ := at1 i hi
      have := (hq i hi').2.2.1
      rw [hspot (by omega), Addr.add_mid] at this
      rw [e]
      exact this
    · obtain ⟨hi', e⟩ := at1 i hi
      rw [e]
      exact (hq i hi').2.2.2
    · rw [hplen]
      unfold maxLen at hm
      omega
end Go.Proofs.Ytnegdhnmgkpkjaa
