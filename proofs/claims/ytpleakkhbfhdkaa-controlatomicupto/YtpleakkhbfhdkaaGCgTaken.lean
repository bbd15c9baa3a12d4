import Derived.Test.YtpleakkhbfhdkaaGCgNone
import Derived.Test.YtpleakkhbfhdkaaCcAns
import Derived.Test.YtpleakkhbfhdkaaCgDoes
namespace Go.Proofs.Ytpleakkhbfhdkaa.Cn
open Go.RowKit
theorem take_erase (L : List Mg) (k i : Nat) (hi : i < L.length) : (L.take (i + 1)).eraseIdx k = if i = k then (L.take i).eraseIdx k else (L.take i).eraseIdx k ++ [L[i]] := by
  rw [List.take_succ_eq_append_getElem hi]
  have hl : (L.take i).length = i := by rw [List.length_take]; omega
  by_cases e : i = k
  · rw [if_pos e, List.eraseIdx_append_of_length_le (by omega), hl, List.eraseIdx_of_length_le (by omega : (L.take i).length ≤ k)]
    rw [show k - i = 0 by omega]
    simp
  · rw [if_neg e]
    rcases Nat.lt_or_ge k i with a | a
    · rw [List.eraseIdx_append_of_lt_length (by omega)]
    · rw [List.eraseIdx_append_of_length_le (by omega), List.eraseIdx_of_length_le (by omega : (L.take i).length ≤ k), hl, List.eraseIdx_of_length_le (by simp; omega)]
theorem erase_le (L : List Mg) (k i : Nat) : ((L.take i).eraseIdx k).length ≤ L.length := by
  have h1 := List.length_eraseIdx_le (L.take i) k
  have h2 : (L.take i).length ≤ L.length := by rw [List.length_take]; omega
  omega
set_option maxHeartbeats 8000000 in
set_option maxRecDepth 100000 in
set_option linter.unusedSimpArgs false in
set_option linter.unusedVariables false in
theorem taken_any {N : Nat} {w : World} {B C : Nat} {S : Nat → Prop} {nv lv fv bv av : Value} {p : Pl} (h : PlX N w B C S nv lv fv bv av p) (k : Nat) (hk : k < p.lt.length) (hl : p.lt.length ≤ 1000000000) :
    Calls Try.prog 44 #[.pointer (some ⟨B, 0, none⟩), .int .i64 (k : Int)] w fun e w' => ∃ lv', e = .returned (.agg (mgV p.lt[k])) ∧ PlX N w' B C S nv lv' fv bv av { p with lt := p.lt.eraseIdx k } ∧ Below N w w' := by
  obtain ⟨R, hR⟩ : ∃ R, R = w.heap.size := ⟨_, rfl⟩
  obtain ⟨m, hm⟩ : ∃ m, m = p.lt[k] := ⟨_, rfl⟩
  rw [← hm]
  obtain ⟨W0, hW0⟩ : ∃ W0, W0 = w.alloc (.cells (mgV mg0) 44) := ⟨_, rfl⟩
  obtain ⟨W1, hW1⟩ : ∃ W1, W1 = (W0.alloc (.cells (mgV mg0) 44)).setRow W0.heap.size (mgV m) := ⟨_, rfl⟩
  have s0 : W0.heap.size = R + 1 := by rw [hW0, hR]; exact World.size_alloc _ _
  have b0 : Below w.heap.size w W0 := by rw [hW0]; exact (Below.refl _ w).alloc (Nat.le_refl _) _
  have b1 : Below W0.heap.size W0 W1 := by rw [hW1]; exact (((Kp.refl W0 non).alloc _).row (Or.inr (Nat.le_refl _)) _).below
  have r0 : MgAt W0 R mg0 := by rw [hW0, hR]; exact MgAt.new _ _
  have r1 : Hid (MgAt W1 R mg0) := (b1.block _ (blk_lt r0)).trans r0
  have m1 : Hid (MgAt W1 (R + 1) m) := by rw [hW1, ← s0]; exact setRow_heap _ _ _ _ _ _ (heap_last W0 _)
  have s1 : W1.heap.size = R + 2 := by rw [hW1]; simp only [World.setRow, Array.size_modify]; rw [World.size_alloc, s0]
  have h0 := h.below b0
  have h1 := hide (h0.below b1)
  have B1 : Hid (Below w.heap.size w W1) := b0.trans (b1.mono (by rw [s0, hR]; omega))
  have hN := h.gN
  have h' := hide h
  obtain ⟨n, hn⟩ : ∃ n, n = p.lt.length := ⟨_, rfl⟩
  obtain ⟨g, lc, hlv, hg, cl0, rg0⟩ := own_mg h0.lt k hk
  clear cl0
  have RG0 : Hid (W0.rangeAt g (k * 11) (mgV m).toList) := by rw [hm]; exact rg0
  have x2 := h0.cells.2.2.1
  rw [hlv, ← hn] at x2
  rw [← hn] at hl
  have hkn : (k : Int) < (n : Int) := by omega
  have HN := hide hn
  have HM := hide hm
  have HLV := hide hlv
  have HR := hide hR
  have S0 := hide s0
  have S1 := hide s1
  have hW1' := hide hW1
  clear HM h h0 hm hk hn hlv b0 b1 r0 rg0 s0 s1 hW1
  go_enter Try.func44, Try.ntmps44
  go_upto_region 1 with fail
  rw [show (#[.int .i64 0, .int .i64 0, .int .i64 0, .int .i64 0, .int .i64 0, .int .i64 0, .int .i64 0, .int .i64 0, .int .i64 0, .string ⟨#[]⟩, .string ⟨#[]⟩] : Array Value) = mgV mg0 from rfl, ← hW0, ← HR.out]
  clear hW0 hR
  go_upto_region 2 with (first | refine wpList_load_mid rfl 44 (.tmp 13) rfl g (k * 11) rfl (mgV m).toList _ RG0.out Try.underlying44 rfl mg_info ?_ | refine wpList_stR rfl 44 (.tmp 5) (.tmp 14) rfl W0.heap.size rfl (mgV m) (mgV mg0) rfl _ (heap_last W0 _) mg_info rfl (mg_one _) ?_)
  rw [show (#[.int .i64 0, .int .i64 0, .int .i64 0, .int .i64 0, .int .i64 0, .int .i64 0, .int .i64 0, .int .i64 0, .int .i64 0, .string ⟨#[]⟩, .string ⟨#[]⟩] : Array Value) = mgV mg0 from rfl, ← hW1'.out, S0.out]
  clear hW1' x2 RG0
  go_wp2_with fail
  go_loopw [6, 7] (fun vl vi wr => ∃ (i : Nat), i ≤ n ∧ vi = .int .i64 (i : Int) ∧ Hid (wr.ownsRow W1.heap.size 44 11 vl ((p.lt.take i).eraseIdx k).length (mgs ((p.lt.take i).eraseIdx k))) ∧ Hid (Below W1.heap.size W1 wr)) (fun _ vi _ => n - (intOf vi).toNat)
  case atStart => exact ⟨0, Nat.zero_le _, rfl, by rw [List.take_zero]; exact World.ownsRow_nil _ _ _ _, Below.refl _ _⟩
  case round =>
    obtain ⟨i, hi, rfl, HO, HB⟩ := hrel
    have hr := h1.out.below HB.out
    have x2 := hr.cells.2.2.1
    rw [HLV.out, ← HN.out] at x2
    have LE := hide (erase_le p.lt k i)
    by_cases hin : i < n
    case pos =>
      have hii : (i : Int) < (n : Int) := by omega
      have hiL : i < p.lt.length := by rw [← HN.out]; exact hin
      have TE := hide (take_erase p.lt k i hiL)
      obtain ⟨g', lc', hlv', hg', cl0, rg⟩ := own_mg hr.lt i hiL
      clear cl0
      have eg : g' = g := by
        have q := hlv'.symm.trans HLV.out
        simp only [Value.slice.injEq, Option.some.injEq, Addr.mk.injEq] at q
        exact q.1.1
      rw [eg] at rg
      obtain ⟨mi, hmi⟩ : ∃ mi, mi = p.lt[i] := ⟨_, rfl⟩
      rw [← hmi] at rg TE
      have RG := hide rg
      clear rg hlv' hg' eg hr hmi hiL
      by_cases ek : i = k
      case pos =>
        have q1 : ((i : Int) != (k : Int)) = false := by simp [ek]
        have EE := hide ek
        clear ek
        go_wp2_with fail
        refine ⟨⟨i + 1, by omega, rfl, ?_, HB.out⟩, by simp [intOf]; omega⟩
        rw [TE.out, if_pos EE.out]
        exact HO.out
      case neg =>
        have q1 : ((i : Int) != (k : Int)) = true := by simp; omega
        have EE := hide ek
        clear ek
        obtain ⟨Li, hLi⟩ : ∃ Li, Li = (p.lt.take i).eraseIdx k := ⟨_, rfl⟩
        rw [← hLi] at HO TE LE
        have O1 : Hid ((wr.alloc (.cells (mgV mi) 44)).ownsRow W1.heap.size 44 11 u6 Li.length (mgs Li)) := own_below HO.out ((Below.refl _ wr).alloc (Nat.le_refl _) _)
        have hs : W1.heap.size ≤ wr.heap.size := HB.out.size
        have hl2 : Hid (Li.length ≤ 1000000000000) := by have := LE.out; rw [← HN.out] at this; unfold Hid; omega
        clear hLi
        go_wp2_with (first | refine wpList_load_mid rfl 44 (.tmp 33) rfl g (i * 11) rfl (mgV mi).toList _ RG.out Try.underlying44 rfl mg_info ?_ | refine wpList_bsM rfl (.tmp 34) rfl mi rfl ?_ | (at_builtin; refine wpList_apM rfl (.tmp 27) (.tmp 35) rfl W1.heap.size _ Li rfl O1.out wr.heap.size mi rfl (heap_last _ _) hl2.out (by simp; omega) ?_; intro v' w' o2 g2))
        refine ⟨⟨i + 1, by omega, rfl, ?_, ?_⟩, by simp [intOf]; omega⟩
        · rw [TE.out, if_neg EE.out, List.length_append]
          exact o2
        · have k1 : Kp W1 wr non := Kp.of_below HB.out non
          refine ((k1.alloc _).trans (Kp.of_grown g2) (fun k hk => ?_)).below
          have := own_ge O1.out hk.symm
          exact Or.inr this
    case neg =>
      obtain rfl : i = n := by omega
      have eL : Hid ((p.lt.take i).eraseIdx k = p.lt.eraseIdx k) := by rw [HN.out, List.take_length]; exact rfl
      rw [eL.out] at HO
      have hsl : ∃ a n c, u6 = .slice a n c := by obtain ⟨a, c, e⟩ := own_sl HO.out; exact ⟨_, _, _, e⟩
      obtain ⟨W9, hW9⟩ : ∃ X, X = wr.setCell ⟨B, 2, none⟩ u6 := ⟨_, rfl⟩
      have gl : ∀ q, u6.ownBlock = some q → W1.heap.size ≤ q := fun q e => own_ge HO.out e
      have sz1 : w.heap.size ≤ W1.heap.size := B1.out.size
      have p9 : Hid (PlX N W9 B C S nv u6 fv bv av { p with lt := p.lt.eraseIdx k }) := by
        rw [hW9]
        exact hr.own 2 u6 { p with lt := p.lt.eraseIdx k } nv u6 fv bv av rfl rfl hr.nd (own_mono HO.out (Nat.le_trans hN sz1)) hr.fe hr.ba hr.at' hr.sn (fun q e s => by have a := gl q e; have b := h1.out.ct; have c := h'.out.ct.lt q s; omega) hr.sf hr.sb hr.sa hr.fb
      have ltB : B < R := by rw [HR.out]; exact blk_lt h'.out.ob
      have kp9 : Kp wr W9 (fun q => q = B) := by rw [hW9]; exact (Kp.refl wr (fun k => k = B)).set (Or.inl rfl) _ _
      have r9 : Hid (MgAt W9 R mg0) := ((r1.out.keep (Kp.of_below HB.out non) (fun f => f))).keep kp9 (by omega)
      have m9 : Hid (MgAt W9 (R + 1) m) := ((m1.out.keep (Kp.of_below HB.out non) (fun f => f))).keep kp9 (by omega)
      have KW : Kp w W9 (fun q => q = B) := ((Kp.of_below B1.out (fun q => q = B)).trans (Kp.of_below HB.out (fun q => q = B)) (fun q e => Or.inl e)).trans kp9 (fun q e => Or.inl e)
      have bN : Hid (Below N w W9) := KW.toN hN (fun q e => by rw [e]; exact h'.out.gB)
      have zf : wr.frozen? ⟨B, 2, none⟩ = false := fz_row hr.ob 2
      obtain ⟨ua, un, uc, hu6⟩ := hsl
      replace hW9 := hide hW9
      clear kp9 gl hr KW
      subst hu6
      go_upto_region 9 with fail
      rw [← hW9.out]
      clear hW9 zf x2
      go_wp2_with (first | refine wpList_ldM rfl (.tmp 5) rfl m (R + 1) rfl m9.out ?_ | refine wpList_stR rfl 44 (.tmp 4) (.tmp 41) rfl R rfl (mgV m) (mgV mg0) rfl _ r9.out mg_info rfl (mg_one _) ?_)
      refine bodyPost_ret (v := .agg (mgV m)) (res_row1 Try.results44 _ _ _ R rfl _ (setRow_heap _ _ _ _ _ _ r9.out) Try.underlying44 mg_info) rfl ⟨.slice ua un uc, rfl, ?_, ?_⟩
      · have kpR : Kp W9 (W9.setRow R (mgV m)) (fun q => q = R) := (Kp.refl W9 (fun q => q = R)).row (Or.inl rfl) _
        refine p9.out.kp kpR (fun q e f => ?_)
        subst e
        have hR := HR.out
        have hh := h'.out
        rcases f with f | f | f | f | f | f | f
        · omega
        · have := hh.ct.lt _ f; omega
        · have := own_lt2 hh.nd f; omega
        · have := own_ge HO.out f; have := S1.out; omega
        · have := own_lt2 hh.fe f; omega
        · have := own_lt2 hh.ba f; omega
        · have := own_lt2 hh.at' f; omega
      · have kpR : Kp W9 (W9.setRow R (mgV m)) (fun q => q = R) := (Kp.refl W9 (fun q => q = R)).row (Or.inl rfl) _
        exact ⟨kpR.os.trans bN.out.os, kpR.tape.trans bN.out.tape, kpR.output.trans bN.out.output, Nat.le_trans bN.out.size kpR.size, fun q hq => (kpR.block q (by have := bN.out.size; have := HR.out; omega) (by have := HR.out; omega)).trans (bN.out.block q hq)⟩
end Go.Proofs.Ytpleakkhbfhdkaa.Cn
namespace Go.Proofs.Ytpleakkhbfhdkaa.Cn
open Go.RowKit
/-- a message that goes out in its turn -/
structure RgI (p : Pl) (m : Mg) : Prop where
  fr : m.fr = 64
  td0 : 0 ≤ m.td
  td1 : m.td < (p.nd.length : Int)
  id : m.id = p.job
  ep : m.ep = p.job
  code : m.code = 0
  prev : m.prev = 0
  key : m.key = ⟨#[]⟩
  val : m.val = ⟨#[]⟩
  kd : (m.kind = 3 ∧ p.kind = 1 ∧ p.bk = false ∧ m.sq = 0 ∧ m.ver = p.ver) ∨ (m.kind = 5 ∧ p.bk = false ∧ m.sq = 1 ∧ m.ver = p.ver ∧ (p.kind = 2 ∨ (p.kind ≠ 2 ∧ allT p.fe = true))) ∨ (m.kind = 7 ∧ m.sq = 2 ∧ m.ver = 0)
set_option maxHeartbeats 8000000 in
set_option maxRecDepth 100000 in
set_option linter.unusedSimpArgs false in
set_option linter.unusedVariables false in
theorem right_any {N : Nat} {w : World} {B C : Nat} {S : Nat → Prop} {nv lv fv bv av : Value} {p : Pl} (h : PlX N w B C S nv lv fv bv av p) (h16 : p.fe.length ≤ 16) (hn16 : p.nd.length ≤ 16) (m : Mg) (hm : RgI p m) :
    Calls Try.prog 54 #[.pointer (some ⟨B, 0, none⟩), .agg (mgV m)] w fun e w' => e = .returned (.bool true) ∧ Below w.heap.size w w' := by
  obtain ⟨Q, hQ⟩ : ∃ Q, Q = w.heap.size := ⟨_, rfl⟩
  obtain ⟨W0, hW0⟩ : ∃ W0, W0 = w.alloc (.cells (mgV m) 44) := ⟨_, rfl⟩
  have b0 : Hid (Below w.heap.size w W0) := by rw [hW0]; exact (Below.refl _ w).alloc (Nat.le_refl _) _
  have m0 : MgAt W0 Q m := by rw [hW0, hQ]; exact MgAt.new w m
  have h0 := h.below b0.out
  obtain ⟨y0, y1, y2, y3, y4, y5, y6, y7, y8, y9, y10⟩ := m0.cells
  obtain ⟨_, x1, _, x3, x4, x5, x6, _, x8, _⟩ := h0.cells
  obtain ⟨na, ncap, hnv⟩ := own_sl h0.nd
  rw [hnv] at x1
  obtain ⟨n, hn⟩ : ∃ n, n = p.nd.length := ⟨_, rfl⟩
  rw [← hn] at x1 hn16
  obtain ⟨t0, t1, t2, t3, t4, t5, t6, t7, t8, kd⟩ := hm
  rw [← hn] at t2
  rw [t0] at y1
  rw [t3] at y3
  rw [t4] at y4
  rw [t5] at y8
  rw [t6] at y7
  rw [t7] at y9
  rw [t8] at y10
  have d1 : decide (m.td < 0) = false := decide_eq_false (by omega)
  have d2 : decide (m.td ≥ (n : Int)) = false := decide_eq_false (by omega)
  have d2' : decide ((n : Int) ≤ m.td) = false := decide_eq_false (by omega)
  have NU : Hid (∀ w : World, Calls Try.prog 11 #[.int .i64 0] w fun x w' => x = .returned (.int .i64 0) ∧ w' = w) := fun w => (num_any 0 w).mono fun _ _ ⟨a, b⟩ => ⟨a, b.symm⟩
  have FE := hide h0.fe
  have HQ := hide hQ
  have M0 := hide m0
  have H0 := hide h0
  have FH := hide h16
  clear h h0 m0 t0 t1 t2 t3 t4 t5 t6 t7 t8 hn hnv h16
  go_enter Try.func54, Try.ntmps54
  go_upto_region 1 with fail
  rw [← hW0, ← HQ.out]
  clear hW0 hQ
  go_quiet ((go_at_call 11; exact Calls.quiet_of_same (NU.out _)))
  obtain ⟨W1, hW1⟩ : ∃ X, X = W0.drewN nq := ⟨_, rfl⟩
  have KK : Kp W0 W1 non := by rw [hW1]; exact (Kp.refl _ non).drewN _
  have K1 : Hid (Below w.heap.size w W1) := ((Kp.of_below b0.out non).trans KK (fun _ f => f.elim)).below
  have M1 : Hid (MgAt W1 Q m) := M0.out.keep KK (fun f => f)
  have H1 := hide (H0.out.kp KK (fun _ f => f.elim))
  rw [← hW1]
  clear hW1 KK y0 y1 y2 y3 y4 y5 y6 y7 y8 y9 y10 x1 x3 x4 x5 x6 x8 M0 H0 FE
  obtain ⟨y0, _, _, _, _, y5, y6, _⟩ := M1.out.cells
  obtain ⟨_, _, _, _, x4, x5, x6, _, x8, _⟩ := H1.out.cells
  have FE := hide H1.out.fe
  rcases kd with ⟨k0, k1, k2, k3, k4⟩ | ⟨k0, k2, k3, k4, k5⟩ | ⟨k0, k3, k4⟩
  · rw [k0] at y0
    rw [k3] at y5
    rw [k4] at y6
    rw [k1] at x4
    rw [k2] at x8
    clear k0 k1 k2 k3 k4
    go_upto_region 5 with fail
    go_quiet (fail)
    go_wp2_with fail
    go_ret
    exact ⟨rfl, K1.out.trans ⟨rfl, rfl, rfl, Nat.le_refl _, fun _ _ => rfl⟩⟩
  · rw [k0] at y0
    rw [k3] at y5
    rw [k4] at y6
    rw [k2] at x8
    clear k0 k2 k3 k4
    obtain ⟨fa, fc, hfv⟩ := own_sl FE.out
    rcases k5 with k5 | ⟨k5, k6⟩
    · rw [k5] at x4
      rw [hfv] at x6
      clear k5 hfv FE
      go_upto_region 7 with fail
      go_quiet (fail)
      go_wp2_with fail
      go_ret
      exact ⟨rfl, K1.out.trans ⟨rfl, rfl, rfl, Nat.le_refl _, fun _ _ => rfl⟩⟩
    · have EV : Hid (∀ k, Calls Try.prog 62 #[fv] (W1.drewN k) fun e w' => e = .returned (.bool true) ∧ w' = W1.drewN k) := fun k => by
        have q := every_any (own_kp FE.out ((Kp.refl W1 non).drewN k) (fun _ _ f => f)) (by have := FH.out; omega)
        rw [k6] at q
        exact q.mono fun _ _ ⟨a, b⟩ => ⟨a, b.symm⟩
      have k7 : (p.kind == 2) = false := by simpa using k5
      rw [hfv] at x6 EV
      clear k5 k6 hfv FE
      go_upto_region 7 with fail
      go_quiet ((go_at_call 62; exact Calls.quiet_of_same (EV.out _)))
      go_wp2_with fail
      go_ret
      exact ⟨rfl, K1.out.trans ⟨rfl, rfl, rfl, Nat.le_refl _, fun _ _ => rfl⟩⟩
  · rw [k0] at y0
    rw [k3] at y5
    rw [k4] at y6
    clear k0 k3 k4
    go_wp2_with fail
    go_ret
    exact ⟨rfl, K1.out⟩
end Go.Proofs.Ytpleakkhbfhdkaa.Cn
namespace Go.Proofs.Ytpleakkhbfhdkaa.Cn
open Go.RowKit
theorem nd_info : (Try.prog.info? 108).map (·.size) = some 8 := by kernel_rfl
theorem own_nd {w : World} {base : Nat} {v : Value} {L : List Nd} (h : w.ownsRow base 108 8 v L.length (nds L)) (i : Nat) (hi : i < L.length) : ∃ g c, v = .slice (some ⟨g, 0, none⟩) L.length c ∧ g < w.heap.size ∧ w.rangeAt g (i * 8) (ndV L[i]).toList ∧ w.cell? ⟨g, i * 8, none⟩ = some (.int .i64 L[i].cur) ∧ w.cell? ⟨g, i * 8 + 7, none⟩ = some (.bool L[i].deaf) := by
  rcases h.2 with ⟨hv, hz⟩ | ⟨g, cap', cur, hv, hb, hg, _⟩
  · omega
  · subst hv
    have q : ∀ j, j < 8 → w.cell? ⟨g, i * 8 + j, none⟩ = (ndV L[i])[j]? := fun j hj => by
      rw [h.cellAt (i * 8 + j) (by omega), nds_at L i hi j hj]
    refine ⟨g, cap', rfl, blk_lt hg, fun j u hj => ?_, q 0 (by omega), q 7 (by omega)⟩
    have h1 := (List.getElem?_eq_some_iff.1 hj).1
    rw [q j (by simpa [ndV] using h1)]
    simpa using hj
/-- at[i] is written -/
theorem PlX.setAt {N : Nat} {w : World} {B C : Nat} {S : Nat → Prop} {nv lv fv bv : Value} {p : Pl} {g c : Nat} (h : PlX N w B C S nv lv fv bv (.slice (some ⟨g, 0, none⟩) p.at'.length c) p) (i : Nat) (x : Int) : PlX N (w.setCell ⟨g, i, none⟩ (.int .i64 x)) B C S nv lv fv bv (.slice (some ⟨g, 0, none⟩) p.at'.length c) { p with at' := p.at'.set i x } ∧ Kp w (w.setCell ⟨g, i, none⟩ (.int .i64 x)) (fun k => k = g) := by
  have kp : Kp w (w.setCell ⟨g, i, none⟩ (.int .i64 x)) (fun k => k = g) := (Kp.refl w (fun k => k = g)).set (Or.inl rfl) _ _
  have ne := h.ne
  have a := own_setZ h.at' i (.int .i64 x)
  rw [ints_set] at a
  have ob := getL kp h.ob (fun e => ne.2.2.2.2 g rfl e.symm)
  have ap : ∀ {e sz n : Nat} {u : Value} {xs : List Value}, w.ownsRow N e sz u n xs → e ≠ 3 → ∀ k, u.ownBlock = some k → ¬ k = g := fun ho he k e f => own_apart ho h.at' he k e (by rw [f]; rfl)
  refine ⟨⟨ob, h.ct.kp kp (fun k e s => h.sa g rfl (e ▸ s)), own_kp h.nd kp (ap h.nd (by decide)), own_kp h.lt kp (ap h.lt (by decide)), own_kp h.fe kp (ap h.fe (by decide)), own_kp h.ba kp (ap h.ba (by decide)), ?_, h.sB, h.sn, h.sl, h.sf, h.sb, h.sa, h.fb, h.gB, h.gS, Nat.le_trans h.gN kp.size⟩, kp⟩
  show World.ownsRow _ N 3 1 _ (p.at'.set i x).length _
  rw [List.length_set]
  exact a
set_option maxHeartbeats 8000000 in
set_option maxRecDepth 100000 in
set_option linter.unusedSimpArgs false in
set_option linter.unusedVariables false in
theorem restored_any {N : Nat} {w : World} {B C : Nat} {S : Nat → Prop} {nv lv fv bv av : Value} {p : Pl} (h : PlX N w B C S nv lv fv bv av p) (i : Nat) (hi : i < p.nd.length) (hia : i < p.at'.length) (h16 : p.nd.length ≤ 16) (h17 : p.at'.length ≤ 16) (hd : Int) (n : Nd) (hn : n = p.nd[i]) (r1 : hd = n.cur) (r2 : n.sw ≠ p.job ∨ n.cur = n.was) (r3 : n.ep = p.job) (r4 : n.sq = 2) :
    Calls Try.prog 63 #[.pointer (some ⟨B, 0, none⟩), .int .i64 (i : Int), .int .i64 hd] w fun e w' => e = .returned (.bool true) ∧ PlX N w' B C S nv lv fv bv av { p with at' := p.at'.set i n.cur } ∧ Kp w w' (fun k => av.ownBlock = some k) := by
  obtain ⟨g, nc, hnv, hg, rg, _⟩ := own_nd h.nd i hi
  rw [← hn] at rg
  obtain ⟨ga, ac, hav, _, hga, _⟩ := own_read h.at' rfl i hia
  subst hav
  obtain ⟨Q, hQ⟩ : ∃ Q, Q = w.heap.size := ⟨_, rfl⟩
  obtain ⟨W1, hW1⟩ : ∃ W1, W1 = (w.alloc (.cells (ndV nd0) 108)).setRow w.heap.size (ndV n) := ⟨_, rfl⟩
  have b1 : Below w.heap.size w W1 := by rw [hW1]; exact (((Kp.refl w non).alloc _).row (Or.inr (Nat.le_refl _)) _).below
  have n1 : W1.heap[Q]? = some (.cells (ndV n) 108) := by rw [hW1, hQ]; exact setRow_heap _ _ _ _ _ _ (heap_last w _)
  have h1 := h.below b1
  have RG := hide rg
  have x1 := h.cells.2.1
  rw [hnv] at x1
  obtain ⟨nn, hnn⟩ : ∃ nn, nn = p.nd.length := ⟨_, rfl⟩
  obtain ⟨an, han⟩ : ∃ an, an = p.at'.length := ⟨_, rfl⟩
  rw [← hnn] at x1 hi h16
  rw [← han] at hia h17
  have hii : (i : Int) < (nn : Int) := by omega
  have hia' : (i : Int) < (an : Int) := by omega
  have qB : Q ≠ B := by have := blk_lt h.ob; omega
  have aB : ga ≠ B := fun e => h.ne.2.2.2.2 ga rfl e
  have aQ : ga ≠ Q := by omega
  obtain ⟨SA, KA⟩ := h1.setAt i n.cur
  have P1 := hide h1
  have N1 := hide n1
  have BB1 := hide b1
  have F : Hid (∀ X : World, (X.heap[B]? = W1.heap[B]? ∧ X.heap[Q]? = W1.heap[Q]?) → X.cell? ⟨B, 9, none⟩ = some (.slice (some ⟨ga, 0, none⟩) an ac) ∧ X.cell? ⟨Q, 0, none⟩ = some (.int .i64 n.cur)) := fun X hX => by
    unfold World.cell?
    rw [hX.1, hX.2, h1.ob, n1, han]
    exact ⟨rfl, rfl⟩
  have zf : W1.drew.frozen? ⟨ga, i, none⟩ = false := own_fz h1.at' i
  have zc : ∃ u, W1.drew.cell? ⟨ga, i, none⟩ = some u := by
    obtain ⟨g', c', e', _, _, y⟩ := own_read h1.at' rfl i (by omega)
    simp only [Value.slice.injEq, Option.some.injEq, Addr.mk.injEq] at e'
    obtain ⟨⟨rfl, _⟩, _⟩ := e'
    exact ⟨_, y⟩
  obtain ⟨zu, zc⟩ := zc
  obtain ⟨W2, hW2⟩ : ∃ W2, W2 = (W1.setCell ⟨ga, i, none⟩ (.int .i64 n.cur)).drew := ⟨_, rfl⟩
  have P2 : Hid (PlX N W2 B C S nv lv fv bv (.slice (some ⟨ga, 0, none⟩) p.at'.length ac) { p with at' := p.at'.set i n.cur }) := by
    rw [hW2]
    exact (h1.setAt i n.cur).1.kp ((Kp.refl _ non).drew) (fun _ f => f.elim)
  have K2 : Hid (Kp w W2 (fun k => k = ga)) := by
    rw [hW2]
    exact ((Kp.of_below b1 (fun k => k = ga)).set (Or.inl rfl) _ _).drew
  have N2 : Hid (W2.heap[Q]? = some (.cells (ndV n) 108)) := by rw [hW2]; exact (Below.heap_setCell _ _ _ Q aQ.symm).trans n1
  have HQ := hide hQ
  have HA := hide han
  have hW1' := hide hW1
  have hW2' := hide hW2
  have RR := hide (And.intro r1 (And.intro r2 (And.intro r3 r4)))
  clear h h1 b1 n1 hnv rg hn hW1 SA KA hnn han hW2 r1 r2 r3 r4
  go_enter Try.func63, Try.ntmps63
  go_upto_region 2 with (first | refine wpList_load_mid rfl 108 (.tmp 13) rfl g (i * 8) rfl (ndV n).toList _ RG.out Try.underlying108 rfl nd_info ?_ | refine wpList_stR rfl 108 (.tmp 7) (.tmp 14) rfl w.heap.size rfl (ndV n) (ndV nd0) rfl _ (heap_last w _) nd_info rfl (nd_one _) ?_)
  rw [show (#[.int .i64 0, .int .i64 0, .int .i64 0, .int .i64 0, .int .i64 0, .int .i64 0, .bool false, .bool false] : Array Value) = ndV nd0 from rfl, ← hW1'.out, ← HQ.out]
  clear hW1' hQ x1 RG
  refine wp_region_held_drew (S := fun X => X.heap[B]? = W1.heap[B]? ∧ X.heap[Q]? = W1.heap[Q]?) (by kernel_rfl) ⟨rfl, rfl⟩ (fun hHeld => ?_)
  refine wpAnyH_take (i := 0) (v := (.pointer (some ⟨B, 0, none⟩))) rfl (by kernel_rfl) (by kernel_rfl) (by kernel_rfl) (fun _ _ _ h => h) (Or.inl ⟨by kernel_rfl, ?_⟩) (by assumption) ?_
  · intro w' hSw
    (try dsimp only at hSw)
    go_simp
  (try simp only [Act.put, List.getElem_toArray, List.getElem_cons_zero, List.getElem_cons_succ, List.setIfInBounds_toArray, List.set_cons_zero, List.set_cons_succ])
  refine wpAnyH_take (i := 1) (v := (.pointer (some ⟨B, 0, none⟩))) rfl (by kernel_rfl) (by kernel_rfl) (by kernel_rfl) (fun _ _ _ h => h) (Or.inl ⟨by kernel_rfl, ?_⟩) (by assumption) ?_
  · intro w' hSw
    (try dsimp only at hSw)
    go_simp
  (try simp only [Act.put, List.getElem_toArray, List.getElem_cons_zero, List.getElem_cons_succ, List.setIfInBounds_toArray, List.set_cons_zero, List.set_cons_succ])
  refine wpAnyH_take (i := 2) (v := (.pointer (some ⟨B, 9, none⟩))) rfl (by kernel_rfl) (by kernel_rfl) (by kernel_rfl) (fun _ _ _ h => h) (Or.inl ⟨by kernel_rfl, ?_⟩) (by assumption) ?_
  · intro w' hSw
    (try dsimp only at hSw)
    go_simp
  (try simp only [Act.put, List.getElem_toArray, List.getElem_cons_zero, List.getElem_cons_succ, List.setIfInBounds_toArray, List.set_cons_zero, List.set_cons_succ])
  refine wpAnyH_take (i := 3) (v := (.slice (some ⟨ga, 0, none⟩) an ac)) rfl (by kernel_rfl) (by kernel_rfl) (by kernel_rfl) (fun _ _ _ h => h) (Or.inl ⟨by kernel_rfl, ?_⟩) (by assumption) ?_
  · intro w' hSw
    (try dsimp only at hSw)
    (have z := (F.out _ hSw).1; go_simp)
  (try simp only [Act.put, List.getElem_toArray, List.getElem_cons_zero, List.getElem_cons_succ, List.setIfInBounds_toArray, List.set_cons_zero, List.set_cons_succ])
  refine wpAnyH_take (i := 4) (v := (.int .i64 (i : Int))) rfl (by kernel_rfl) (by kernel_rfl) (by kernel_rfl) (fun _ _ _ h => h) (Or.inl ⟨by kernel_rfl, ?_⟩) (by assumption) ?_
  · intro w' hSw
    (try dsimp only at hSw)
    go_simp
  (try simp only [Act.put, List.getElem_toArray, List.getElem_cons_zero, List.getElem_cons_succ, List.setIfInBounds_toArray, List.set_cons_zero, List.set_cons_succ])
  refine wpAnyH_take (i := 5) (v := (.pointer (some ⟨Q, 0, none⟩))) rfl (by kernel_rfl) (by kernel_rfl) (by kernel_rfl) (fun _ _ _ h => h) (Or.inl ⟨by kernel_rfl, ?_⟩) (by assumption) ?_
  · intro w' hSw
    (try dsimp only at hSw)
    go_simp
  (try simp only [Act.put, List.getElem_toArray, List.getElem_cons_zero, List.getElem_cons_succ, List.setIfInBounds_toArray, List.set_cons_zero, List.set_cons_succ])
  refine wpAnyH_take (i := 6) (v := (.int .i64 n.cur)) rfl (by kernel_rfl) (by kernel_rfl) (by kernel_rfl) (fun _ _ _ h => h) (Or.inl ⟨by kernel_rfl, ?_⟩) (by assumption) ?_
  · intro w' hSw
    (try dsimp only at hSw)
    (have z := (F.out _ hSw).2; go_simp)
  (try simp only [Act.put, List.getElem_toArray, List.getElem_cons_zero, List.getElem_cons_succ, List.setIfInBounds_toArray, List.set_cons_zero, List.set_cons_succ])
  refine wpAnyH_take (i := 7) (v := (.pointer (some ⟨ga, i, none⟩))) rfl (by kernel_rfl) (by kernel_rfl) (by kernel_rfl) (fun _ _ _ h => h) (Or.inl ⟨by kernel_rfl, ?_⟩) (by assumption) ?_
  · intro w' hSw
    (try dsimp only at hSw)
    go_simp
  (try simp only [Act.put, List.getElem_toArray, List.getElem_cons_zero, List.getElem_cons_succ, List.setIfInBounds_toArray, List.set_cons_zero, List.set_cons_succ])
  refine wpAnyH_ready (rs := [8]) (by kernel_rfl) (by simp) ?_
  refine AllReadyH.cons rfl (fun K hK => ?_) AllReadyH.nil
  go_simp
  rw [← hW2'.out]
  clear zf zc
  refine hK.out _ _ (⟨by rw [P2.out.ob, P1.out.ob]; rfl, by rw [N2.out, N1.out]⟩) (fun hHeld => ?_)
  clear hK
  (try simp only [Act.put, List.setIfInBounds_toArray, List.set_cons_zero, List.set_cons_succ])
  refine wpAnyH_done (by kernel_rfl) ?_ _
  clear hHeld F
  have y0 : W2.cell? ⟨Q, 0, none⟩ = some (.int .i64 n.cur) := by rw [cell_row N2.out]; rfl
  have y2 : W2.cell? ⟨Q, 2, none⟩ = some (.int .i64 p.job) := by rw [cell_row N2.out, ← RR.out.2.2.1]; rfl
  have y3 : W2.cell? ⟨Q, 3, none⟩ = some (.int .i64 2) := by rw [cell_row N2.out, ← RR.out.2.2.2]; rfl
  have y4 : W2.cell? ⟨Q, 4, none⟩ = some (.int .i64 n.sw) := by rw [cell_row N2.out]; rfl
  have y5 : W2.cell? ⟨Q, 5, none⟩ = some (.int .i64 n.was) := by rw [cell_row N2.out]; rfl
  have x3 : W2.cell? ⟨B, 3, none⟩ = some (.int .i64 p.job) := P2.out.cells.2.2.2.1
  have q1 : hd = n.cur := RR.out.1
  subst q1
  by_cases sw : n.sw = p.job
  · have cw : n.cur = n.was := RR.out.2.1.elim (fun f => absurd sw f) id
    have q2 : (n.sw != p.job) = false := by simp [sw]
    have q3 : (n.cur == n.was) = true := by simp [cw]
    clear sw cw RR
    go_upto_region 3 with fail
    go_quiet (fail)
    go_wp2_with fail
    go_ret
    exact ⟨rfl, P2.out.kp ((Kp.refl _ non).drewN _) (fun _ f => f.elim), (K2.out.mono (fun k e => by rw [e]; rfl)).drewN _⟩
  · have q2 : (n.sw != p.job) = true := by simp [sw]
    clear sw RR
    go_upto_region 3 with fail
    go_quiet (fail)
    go_wp2_with fail
    go_ret
    exact ⟨rfl, P2.out.kp ((Kp.refl _ non).drewN _) (fun _ f => f.elim), (K2.out.mono (fun k e => by rw [e]; rfl)).drewN _⟩
end Go.Proofs.Ytpleakkhbfhdkaa.Cn
namespace Go.Proofs.Ytpleakkhbfhdkaa.Cn
open Go.RowKit
/-- the first k have answered -/
def alK (n k : Nat) (x : Int) : List (Bool × Int) := List.replicate k (true, x) ++ List.replicate (n - k) (false, -1)
theorem alK_len (n k : Nat) (x : Int) (h : k ≤ n) : (alK n k x).length = n := by simp [alK]; omega
theorem alK_lo (n k : Nat) (x : Int) (j : Nat) (h : j < k) : (alK n k x).getD j (true, 0) = (true, x) := by
  unfold alK
  rw [List.getD_eq_getElem?_getD, List.getElem?_append_left (by simpa using h), List.getElem?_replicate, if_pos h]
  rfl
theorem alK_hi (n k : Nat) (x : Int) (j : Nat) (h : k ≤ j) (hj : j < n) : (alK n k x).getD j (true, 0) = (false, -1) := by
  unfold alK
  rw [List.getD_eq_getElem?_getD, List.getElem?_append_right (by simpa using h), List.getElem?_replicate, if_pos (by simp; omega)]
  rfl
theorem alK_set (n k : Nat) (x : Int) (h : k < n) : (alK n k x).set k (true, x) = alK n (k + 1) x := by
  unfold alK
  rw [List.set_append_right _ _ (by simp), List.length_replicate, Nat.sub_self, show n - k = (n - (k + 1)) + 1 by omega, List.replicate_succ, List.set_cons_zero, List.replicate_succ' (n := k)]
  simp
theorem missK (n k : Nat) (x : Int) (j : Nat) (hj : j ≤ n) : (missL (alK n k x) j).length = j - k := by
  induction j with
  | zero => simp [missL]
  | succ j ih =>
    rw [missL_succ]
    have i := ih (by omega)
    by_cases h : j < k
    · rw [alK_lo n k x j h, if_pos rfl]
      omega
    · rw [alK_hi n k x j (by omega) (by omega), if_neg (by decide), List.length_append]
      simp
      omega
theorem miss_alK (n k : Nat) (x : Int) (hk : k ≤ n) : (miss (alK n k x)).length = n - k := by
  unfold miss
  rw [alK_len n k x hk]
  exact missK n k x n (Nat.le_refl _)
theorem miss0L (n : Nat) (x : Int) (j : Nat) (hj : j ≤ n) : missL (alK n 0 x) j = (List.range j).map fun i : Nat => (i : Int) := by
  induction j with
  | zero => rfl
  | succ j ih =>
    rw [missL_succ, alK_hi n 0 x j (Nat.zero_le _) (by omega), if_neg (by decide), ih (by omega), List.range_succ, List.map_append]
    rfl
theorem miss0 (n : Nat) : miss (List.replicate n (false, -1)) = (List.range n).map fun i : Nat => (i : Int) := by
  have e : List.replicate n ((false, -1) : Bool × Int) = alK n 0 0 := by simp [alK]
  rw [e]
  unfold miss
  rw [alK_len n 0 0 (Nat.zero_le _)]
  exact miss0L n 0 n (Nat.le_refl _)
theorem all0 (m : Mg) (id : Int) (n : Nat) (i : Nat) (h : i < (toAll m id (miss (List.replicate n (false, -1)))).length) : (toAll m id (miss (List.replicate n (false, -1))))[i] = { m with fr := 64, td := (i : Int), id := id } := by
  simp [toAll, miss0]
theorem all0_len (m : Mg) (id : Int) (n : Nat) : (toAll m id (miss (List.replicate n (false, -1)))).length = n := by simp [toAll, miss0]
/-- what a node holds by a good answer -/
def hxP (p : Ph) (r : Rd) (h : Int) : Int :=
  match p with
  | .fetch => r.ver
  | .swap => r.ver
  | _ => h
def rK (r : Rd) (n k : Nat) (x : Int) : Rd := { r with al := alK n k x }
theorem take_calm (c : Ct) (p : Ph) (r : Rd) (n : Nat) (h : Int) (i : Nat) (hn : c.ru.n = n) (hi : i < n) :
    takeC { c with ph := some (p, rK r n i (hxP p r h)) } (ansM { mesP p r with fr := 64, td := (i : Int), id := r.num } h) = (if i + 1 = n then folC { c with ph := some (p, rK r n n (hxP p r h)) } p (rK r n n (hxP p r h)) (comV p) else { c with ph := some (p, rK r n (i + 1) (hxP p r h)) }) ∧
    takeL { c with ph := some (p, rK r n i (hxP p r h)) } (ansM { mesP p r with fr := 64, td := (i : Int), id := r.num } h) = (if i + 1 = n then folL { c with ph := some (p, rK r n n (hxP p r h)) } p (rK r n n (hxP p r h)) (comV p) else []) := by
  obtain ⟨X, hX⟩ : ∃ X, X = hxP p r h := ⟨_, rfl⟩
  have hc : came (rK r n i X) (i : Int) = false := by
    unfold came rK
    rw [Int.toNat_natCast, alK_hi n i X i (Nat.le_refl _) hi]
  have hii : (i : Int) < (c.ru.n : Int) := by omega
  have cnt : cntP p c.ru (rK r n i X) (ansM { mesP p r with fr := 64, td := (i : Int), id := r.num } h) = true := by
    cases p <;> simp [cntP, dueP, ansM, mesP, mg0, hc, hii] <;> simp [rK]
  have nt : ntR (rK r n i X) (ansM { mesP p r with fr := 64, td := (i : Int), id := r.num } h) = rK r n (i + 1) X := by
    have e : (ansM { mesP p r with fr := 64, td := (i : Int), id := r.num } h).ver = X := by
      rw [hX]
      cases p <;> simp [ansM, mesP, mg0, hxP]
    unfold ntR
    rw [e]
    show ({ r with al := (alK n i X).set (Int.toNat (i : Int)) (true, X) } : Rd) = _
    rw [Int.toNat_natCast, alK_set n i X hi]
    rfl
  have code : (ansM { mesP p r with fr := 64, td := (i : Int), id := r.num } h).code = 0 := rfl
  have ml : (miss (rK r n (i + 1) X).al).length = n - (i + 1) := miss_alK n (i + 1) X (by omega)
  rw [← hX]
  simp only [takeC, takeL, takC, takL, cnt, code, nt, ml, if_true]
  by_cases e : i + 1 = n
  · rw [if_pos e, if_pos e, if_pos (by omega), if_pos (by omega), e]
    exact ⟨rfl, rfl⟩
  · rw [if_neg e, if_neg e, if_neg (by omega), if_neg (by omega)]
    exact ⟨rfl, rfl⟩
theorem ans_pre (c : Ct) (p : Ph) (r : Rd) (n : Nat) (h : Int) (hn : c.ru.n = n) (i : Nat) (hi : i < n) :
    ansC { c with ph := some (p, rK r n 0 (hxP p r h)) } h ((toAll (mesP p r) r.num (miss (List.replicate n (false, -1)))).take i) = { c with ph := some (p, rK r n i (hxP p r h)) } ∧ ansL { c with ph := some (p, rK r n 0 (hxP p r h)) } h ((toAll (mesP p r) r.num (miss (List.replicate n (false, -1)))).take i) = [] := by
  induction i with
  | zero => exact ⟨rfl, rfl⟩
  | succ i ih =>
    obtain ⟨e1, e2⟩ := ih (by omega)
    have hl : i < (toAll (mesP p r) r.num (miss (List.replicate n (false, -1)))).length := by rw [all0_len]; omega
    obtain ⟨s1, s2⟩ := ans_succ { c with ph := some (p, rK r n 0 (hxP p r h)) } h _ i hl
    rw [s1, s2, e1, e2, all0]
    obtain ⟨t1, t2⟩ := take_calm c p r n h i hn (by omega)
    rw [t1, t2, if_neg (by omega), if_neg (by omega)]
    exact ⟨rfl, rfl⟩
/-- all answer -/
theorem ans_all (c : Ct) (p : Ph) (r : Rd) (n : Nat) (h : Int) (hn : c.ru.n = n) (h1 : 1 ≤ n) (hr : r.al = List.replicate n (false, -1)) (hc : c.ph = some (p, r)) :
    ansC c h (entL p r) = folC { c with ph := some (p, rK r n n (hxP p r h)) } p (rK r n n (hxP p r h)) (comV p) ∧ ansL c h (entL p r) = folL { c with ph := some (p, rK r n n (hxP p r h)) } p (rK r n n (hxP p r h)) (comV p) := by
  have e0 : c = { c with ph := some (p, rK r n 0 (hxP p r h)) } := by
    have e : rK r n 0 (hxP p r h) = r := by
      unfold rK alK
      obtain ⟨a, b, d, al, t, s⟩ := r
      simp at hr
      simp [hr]
    rw [e, ← hc]
  obtain ⟨e1, e2⟩ := ans_pre c p r n h hn (n - 1) (by omega)
  have hl : n - 1 < (toAll (mesP p r) r.num (miss (List.replicate n (false, -1)))).length := by rw [all0_len]; omega
  obtain ⟨s1, s2⟩ := ans_succ { c with ph := some (p, rK r n 0 (hxP p r h)) } h _ (n - 1) hl
  have et : (toAll (mesP p r) r.num (miss (List.replicate n (false, -1)))).take (n - 1 + 1) = entL p r := by
    unfold entL
    rw [hr, List.take_of_length_le (by rw [all0_len]; omega)]
  rw [et, e1, all0] at s1
  rw [et, e1, e2, all0] at s2
  obtain ⟨t1, t2⟩ := take_calm c p r n h (n - 1) hn (by omega)
  rw [t1, if_pos (by omega)] at s1
  rw [t2, if_pos (by omega)] at s2
  rw [← e0] at s1 s2
  exact ⟨s1, s2⟩
theorem entL0_len (p : Ph) (u : Ru) (a b d : Int) : (entL p (rd0 u a b d)).length = u.n := by
  unfold entL
  exact all0_len _ _ _
theorem entL_kind (p : Ph) (r : Rd) : ∀ m ∈ entL p r, 0 ≤ m.kind ∧ m.kind ≤ 1000 := by
  intro m hm
  unfold entL toAll at hm
  obtain ⟨i, _, rfl⟩ := List.mem_map.1 hm
  cases p <;> simp [mesP]
theorem rep_all (r : Rd) (n : Nat) (x o : Int) : repO (rK r n n x) o = ⟨r.num, r.kind, r.ver, o, List.replicate n x, []⟩ := by
  have h1 : (alK n n x).map (·.2) = List.replicate n x := by simp [alK]
  have h2 : miss (alK n n x) = [] := List.length_eq_zero_iff.1 (by rw [miss_alK n n x (Nat.le_refl _)]; omega)
  unfold repO rK
  simp only [h1, h2]
/-- a job in calm -/
def finC (c : Ct) (k v h o : Int) : Ct := { c with num := c.num + 1, ph := none, last := ⟨c.num + 1, k, v, o, List.replicate c.ru.n (if k = 3 then h else v), []⟩ }
end Go.Proofs.Ytpleakkhbfhdkaa.Cn
