import Derived.Test.YtnegdhnmgkpkjaaGDsStab
namespace Go.Proofs.Ytnegdhnmgkpkjaa
open Go.RowKit
def spF (d : Dt) (gs : List Int) : List Int := gs.filter (fun x => decide (d.en x ≤ d.now))
theorem spF_succ {d : Dt} {gs : List Int} {i : Nat} (h : i < gs.length) : spF d (gs.take (i + 1)) = if d.en gs[i] ≤ d.now then spF d (gs.take i) ++ [gs[i]] else spF d (gs.take i) := by
  unfold spF
  rw [List.take_succ_eq_append_getElem h, List.filter_append]
  by_cases e : d.en gs[i] ≤ d.now
  · rw [if_pos e]; simp [e]
  · rw [if_neg e]; simp [e]
theorem spF_len (d : Dt) (gs : List Int) : (spF d gs).length ≤ gs.length := List.length_filter_le _ _
theorem ord_take (d : Dt) (gs : List Int) : (ordL d gs).take (spF d gs).length = spF d gs := by
  unfold ordL spF
  rw [List.take_append_of_le_length (Nat.le_refl _), List.take_length]
theorem count_eqf {K : Int → Int} {a b : List Int} (h : EqF K a b) (x : Int) : b.count x = a.count x := by
  have := h (K x)
  have e : ∀ l : List Int, l.count x = (l.filter (fun y => K y == K x)).count x := fun l => by
    rw [List.count_filter (by simp)]
  rw [e a, e b, this]
theorem IsAt.take {w : World} {ao : Option Addr} {b o : Nat} {ns : List Int} (h : IsAt w ao b o ns) (m : Nat) : IsAt w ao b o (ns.take m) := by
  refine ⟨fun q => h.at0 ?_, fun i hi => ?_, ?_⟩
  · rw [List.length_take] at q; omega
  · rw [List.length_take] at hi
    rw [List.getElem_take]
    exact h.cell i (by omega)
  · rw [List.length_take]; have := h.len; omega
set_option maxHeartbeats 8000000 in
set_option maxRecDepth 100000 in
set_option linter.unusedSimpArgs false in
set_option linter.unusedVariables false in
theorem sorted_any {w : World} {S : Nat → Prop} {D : Nat} {d : Dt} (h : DtAt w S D d) (hf : d.fits) (he : d.enb) (ao : Option Addr) (b o cap : Nat) (gs : List Int) (hs : IsAt w ao b o gs) (hin : ∀ x ∈ gs, 0 ≤ x ∧ x < (d.n : Int)) (hl : gs.length ≤ 300) (g : Nat) (hr : Rw w g (ordL d gs)) (hol : (ordL d gs).length = gs.length) :
    Calls Try.prog 23 #[.pointer (some ⟨D, 0, none⟩), .slice ao gs.length cap, .slice (some ⟨g, 0, none⟩) gs.length gs.length] w fun e w' => e = .returned (.bool true) ∧ Below w.heap.size w w' := by
  have H := hide h
  have HF := hide hf
  have HS := hide hs
  have HR := hide hr
  have HIN := hide hin
  have HOL := hide hol
  have HCE : Hid (∀ x, (ordL d gs).count x = gs.count x) := fun x => count_eqf (ord_eqf hf.t0 he (by have := hf.b1; omega) gs) x
  obtain ⟨N, hN⟩ : ∃ N, N = gs.length := ⟨_, rfl⟩
  rw [← hN] at hl ⊢
  have HN := hide hN
  clear h hf hs hr hin hol he hN
  go_enter Try.func23, Try.ntmps23
  go_wp2_with fail
  go_loopw [7, 8] (fun vl vi wr => ∃ (i : Nat), i ≤ N ∧ vi = .int .i64 (i : Int) ∧ Hid (wr.ownsRow w.heap.size 3 1 vl (spF d (gs.take i)).length (ints (spF d (gs.take i)))) ∧ Hid (Below w.heap.size w wr)) (fun _ vi _ => N - (intOf vi).toNat)
  case atStart => exact ⟨0, Nat.zero_le _, rfl, World.ownsRow_nil _ _ _ _, Below.refl _ _⟩
  case round =>
    obtain ⟨i, hi, rfl, HO, HB⟩ := hrel
    have k0 := Kp.of_below HB.out non
    have HSr := hide (HS.out.kp k0 (fun _ f => f))
    have HRr := hide (HR.out.kp k0 (fun f => f))
    by_cases h1 : i < N
    · have q1 : (i : Int) < (N : Int) := by omega
      have z1 : i < gs.length := by rw [← HN.out]; exact h1
      have c1 := HSr.out.cell i z1
      obtain rfl := HS.out.at0 (by omega)
      have HT := hide (spF_succ (d := d) z1)
      have hrng := HIN.out gs[i] (List.getElem_mem z1)
      have HSP : Hid (spkV d gs[i] = decide (d.en gs[i] ≤ d.now)) := by
        show _ = _
        unfold spkV
        rw [Bool.eq_iff_iff]
        simp [hrng]
      have CTk : Hid (∀ (q : Nat) (v : Value) (c : Int), ((v = .slice (some ⟨g, 0, none⟩) N N ∧ c = ((gs.count gs[i] : Nat) : Int)) ∨ (v = .slice (some ⟨b, o, none⟩) N cap ∧ c = ((gs.count gs[i] : Nat) : Int))) → Calls Try.prog 37 #[v, .int .i64 gs[i]] (wr.drewN q) fun e w' => e = .returned (.int .i64 c) ∧ w' = wr.drewN q) := fun q v c hv => by
        have kq := (Kp.refl wr non).drewN q
        rcases hv with ⟨rfl, rfl⟩ | ⟨rfl, rfl⟩
        · have := count_any (w := wr.drewN q) _ g 0 N (ordL d gs) ((HRr.out.kp kq (fun f => f)).is (by rw [HOL.out, ← HN.out]; omega)) gs[i]
          rw [HOL.out, ← HN.out, HCE.out] at this
          exact Calls.mono this (by rintro e W ⟨rfl, rfl⟩; exact ⟨rfl, rfl⟩)
        · have := count_any (w := wr.drewN q) _ b o cap gs (HSr.out.kp kq (fun _ f => f)) gs[i]
          rw [← HN.out] at this
          exact Calls.mono this (by rintro e W ⟨rfl, rfl⟩; exact ⟨rfl, rfl⟩)
      generalize gs.count gs[i] = ct at *
      have HLs : Hid ((spF d (gs.take i)).length ≤ 300) := by
        show _ ≤ _
        have := spF_len d (gs.take i)
        rw [List.length_take] at this
        omega
      have HKx : Hid (∀ W, DtAt W S D d → Calls Try.prog 12 #[.pointer (some ⟨D, 0, none⟩), .int .i64 gs[i]] W fun e w' => e = .returned (.bool (decide (d.en gs[i] ≤ d.now))) ∧ Below W.heap.size W w') := fun W hW => by
        have := speaks_any hW HF.out gs[i]
        rwa [HSP.out] at this
      generalize spF d (gs.take i) = fi at *
      generalize hx : gs[i] = x at *
      clear hx HSP hrng z1
      go_upto_region 7 with fail
      go_quiet (first | (go_at_call 37; refine Calls.quiet_of_same (CTk.out _ _ _ (by first | exact Or.inl ⟨rfl, rfl⟩ | exact Or.inr ⟨rfl, rfl⟩))))
      have kq : Kp w (wr.drewN nq) non := k0.drewN nq
      have HKq := hide kq
      have HO2 := hide (own_kp HO.out ((Kp.refl wr non).drewN nq) (fun _ _ f => f))
      have HD2 := hide (H.out.kp kq (fun _ _ f => f))
      have c2 : (wr.drewN nq).cell? ⟨b, o + i, none⟩ = some (.int .i64 x) := c1
      clear c1 CTk k0 kq HB HO HSr HRr
      generalize wr.drewN nq = wq at *
      have SP := hide (HKx.out _ HD2.out)
      go_wp2_with fail
      refine Calls.mono SP.out ?_
      rintro e W3 ⟨rfl, hB3⟩
      have k3 := Kp.of_below hB3 non
      have HO3 := hide (own_kp HO2.out k3 (fun _ _ f => f))
      have HK3 := hide (HKq.out.trans k3 (fun _ f => f.elim))
      have c3 := cell_kp c2 k3 (fun f => f)
      clear hB3 SP c2 HO2 HKq HD2 k3
      by_cases hsp : d.en x ≤ d.now
      · have hsp2 : decide (d.en x ≤ d.now) = true := decide_eq_true hsp
        have HT2 : Hid (spF d (gs.take (i + 1)) = fi ++ [x]) := by show _ = _; rw [HT.out, if_pos hsp]
        obtain ⟨W4, hW4⟩ : ∃ W4, W4 = W3.alloc (.cells #[.int .i64 x] 3) := ⟨_, rfl⟩
        have hb4 : Below W3.heap.size W3 W4 := by rw [hW4]; exact (Below.refl _ _).alloc (Nat.le_refl _) _
        have gg : W4.heap[W3.heap.size]? = some (.cells #[.int .i64 x] 3) := by rw [hW4]; exact heap_last _ _
        have HO4 := hide (own_kp HO3.out (Kp.of_below hb4 non) (fun _ _ f => f))
        have HGG := hide gg
        have hsz : w.heap.size ≤ W4.heap.size := Nat.le_trans HK3.out.size hb4.size
        have K4 := hide (HK3.out.trans (Kp.of_below hb4 non) (fun _ f => f.elim))
        clear gg hb4 hsp
        go_wp2_with (at_builtin; rw [← hW4]; refine wpList_apI rfl (.tmp 39) (.tmp 44) rfl w.heap.size _ fi.length fi rfl HO4.out W3.heap.size x rfl HGG.out (by have := HLs.out; omega) hsz ?_; intro v' w' o2 g2 _; have HO5 := hide o2; have K5 : Hid (Kp w w' non) := (K4.out.trans (Kp.of_grown g2) (fun k hk => Or.inr (own_ge HO4.out hk.symm))); clear o2 g2)
        go_roundw
        case rel => exact ⟨i + 1, by omega, by go_num, by rw [HT2.out, List.length_append]; exact HO5, K5.out.below⟩
        case measure => simp [intOf]; omega
      · have hsp2 : decide (d.en x ≤ d.now) = false := decide_eq_false hsp
        have HT2 : Hid (spF d (gs.take (i + 1)) = fi) := by show _ = _; rw [HT.out, if_neg hsp]
        clear hsp
        go_wp2_with fail
        go_roundw
        case rel => exact ⟨i + 1, by omega, by go_num, by rw [HT2.out]; exact HO3, HK3.out.below⟩
        case measure => simp [intOf]; omega
    · have q1 : ¬ (i : Int) < (N : Int) := by omega
      obtain rfl : i = N := by omega
      have HOF : Hid (wr.ownsRow w.heap.size 3 1 u7 (spF d gs).length (ints (spF d gs))) := by
        have := HO.out
        rwa [List.take_of_length_le (by rw [← HN.out]; omega)] at this
      have hm : (spF d gs).length ≤ i := by rw [HN.out]; exact spF_len d gs
      obtain ⟨_, ao7, b7, cap7, e7, hI7, _⟩ := own_is HOF.out (by omega)
      have SA := same_any (w := wr) ao7 b7 0 cap7 (spF d gs) hI7 _ g 0 i ((ordL d gs).take (spF d gs).length) ((HRr.out.is (by rw [HOL.out, ← HN.out]; omega)).take _)
      rw [ord_take, decide_eq_true rfl] at SA
      have SA := hide SA
      generalize (spF d gs).length = m at *
      have hm2 : (m : Int) ≤ (i : Int) := by omega
      subst e7
      clear HO HOF hI7 k0
      go_wp2_with fail
      refine Calls.mono SA.out ?_
      rintro e W3 ⟨rfl, hB3⟩
      have HB3 := hide (HB.out.trans (hB3.mono HB.out.size))
      clear hB3
      go_wp2_with fail
      go_ret
      exact ⟨rfl, HB3.out⟩
end Go.Proofs.Ytnegdhnmgkpkjaa
