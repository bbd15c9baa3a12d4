import Derived.Test.YtnegdhnmgkpkjaaGDeCalls
import Derived.Test.YtnegdhnmgkpkjaaGDdDrive
namespace Go.Proofs.Ytnegdhnmgkpkjaa
open Go.RowKit
/-- those whose ban ends at the j-th tick from now -/
def enF (d : Dt) (j : Nat) (ns : List Int) : List Int := ns.filter (fun x => decide (d.en x = d.now + 1 + (j : Int)))
theorem enF_succ {d : Dt} {j : Nat} {gs : List Int} {i : Nat} (h : i < gs.length) : enF d j (gs.take (i + 1)) = if d.en gs[i] = d.now + 1 + (j : Int) then enF d j (gs.take i) ++ [gs[i]] else enF d j (gs.take i) := by
  unfold enF
  rw [List.take_succ_eq_append_getElem h, List.filter_append]
  by_cases e : d.en gs[i] = d.now + 1 + (j : Int)
  · rw [if_pos e]; simp [e]
  · rw [if_neg e]; simp [e]
theorem enF_len (d : Dt) (j : Nat) (gs : List Int) : (enF d j gs).length ≤ gs.length := List.length_filter_le _ _
/-- the order up to the j-th tick -/
def ordN (d : Dt) (ns : List Int) : Nat → List Int
  | 0 => spF d ns
  | j + 1 => ordN d ns j ++ enF d j ns
theorem ordN_len (d : Dt) (ns : List Int) (j : Nat) : (ordN d ns j).length ≤ (j + 1) * ns.length := by
  induction j with
  | zero => rw [ordN]; have := spF_len d ns; omega
  | succ j ih =>
    rw [ordN, List.length_append]
    have := enF_len d j ns
    have e : (j + 1 + 1) * ns.length = (j + 1) * ns.length + ns.length := by rw [Nat.add_mul, Nat.one_mul]
    omega
theorem ordN_all (d : Dt) (ns : List Int) : ordN d ns d.ban.toNat = ordL d ns := by
  have : ∀ j, ordN d ns j = spF d ns ++ (List.range j).flatMap fun t : Nat => enF d t ns := fun j => by
    induction j with
    | zero => simp [ordN]
    | succ j ih => rw [ordN, ih, List.range_succ, List.flatMap_append, List.append_assoc]; simp
  rw [this]
  rfl
set_option maxHeartbeats 8000000 in
set_option maxRecDepth 100000 in
set_option linter.unusedSimpArgs false in
set_option linter.unusedVariables false in
theorem rOrder_any {w : World} {S : Nat → Prop} {R : Nat} {d : Dt} (h : RfAt w S R d) {q0 : Nat} (hf : d.upto q0) (hq : q0 ≤ 1000000) (ao : Option Addr) (b o cap : Nat) (ns : List Int) (hs : IsAt w ao b o ns) (hin : ∀ x ∈ ns, 0 ≤ x ∧ x < (d.n : Int)) (hl : ns.length ≤ 300) :
    Calls Try.prog 43 #[.pointer (some ⟨R, 0, none⟩), .slice ao ns.length cap] w fun e w' => ∃ v, e = .returned (.tuple #[v, .int .i64 0]) ∧ w'.ownsRow w.heap.size 3 1 v (ordL d ns).length (ints (ordL d ns)) ∧ Below w.heap.size w w' := by
  have H := hide h
  have HS := hide hs
  have HIN := hide hin
  have HEN : Hid (∀ (W : World) (x : Int), Kp w W non → x ∈ ns → Calls Try.prog 49 #[.pointer (some ⟨R, 0, none⟩), .int .i64 x] W fun e w' => e = .returned (.int .i64 (d.en x)) ∧ ∃ q, w' = W.drewN q) := fun W x hW hx => by
    have := hin x hx
    obtain ⟨m, rfl⟩ : ∃ m : Nat, x = (m : Int) := ⟨x.toNat, by omega⟩
    exact rEnd_any (h.kp hW (fun _ _ f => f)) hf hq m (by omega)
  have HBK : Hid (∀ W, Kp w W non → W.cell? ⟨R, 0, none⟩ = some (.int .i64 (d.n : Int)) ∧ W.cell? ⟨R, 2, none⟩ = some (.int .i64 d.ban) ∧ W.cell? ⟨R, 3, none⟩ = some (.int .i64 d.now)) := fun W hW => by
    obtain ⟨vs, pv, tm, hi, hS⟩ := h.kp hW (fun _ _ f => f)
    exact ⟨hi.blk.c0, hi.blk.c2, hi.blk.c3⟩
  have t0 := hf.ft.t0
  have t1 := hf.t1
  have b1 := hf.ft.b1
  have b2 := hf.ft.b1024
  have HOL := hide (ordN_all d ns)
  have HNL := hide fun j => ordN_len d ns j
  obtain ⟨N, hN⟩ : ∃ N, N = ns.length := ⟨_, rfl⟩
  rw [← hN] at hl ⊢
  have HN := hide hN
  clear h hs hin hf hN
  go_enter Try.func43, Try.ntmps43
  go_wp2_with fail
  go_loopw [6] (fun vi wr => ∃ (i : Nat), i ≤ N ∧ vi = .int .i64 (i : Int) ∧ Hid (Kp w wr non)) (fun vi _ => N - (intOf vi).toNat)
  case atStart => exact ⟨0, Nat.zero_le _, rfl, Kp.refl _ _⟩
  case round =>
    obtain ⟨i, hi, rfl, HK⟩ := hrel
    by_cases h1 : i < N
    · have r1 : (i : Int) < (N : Int) := by omega
      have z1 : i < ns.length := by rw [← HN.out]; exact h1
      have c1 := (HS.out.kp HK.out (fun _ f => f)).cell i z1
      obtain rfl := HS.out.at0 (by omega)
      have hrng := HIN.out ns[i] (List.getElem_mem z1)
      obtain ⟨c0, c2, c3⟩ := HBK.out _ HK.out
      generalize ns[i] = x at *
      have x0 : decide (x < 0) = false := decide_eq_false (by omega)
      have x1 : decide (x ≥ (d.n : Int)) = false := decide_eq_false (by omega)
      have x1' : decide ((d.n : Int) ≤ x) = false := decide_eq_false (by omega)
      generalize d.n = n at *
      clear z1
      go_wp2_with fail
      go_quiet (fail)
      have HKq := hide (HK.out.drewN nq)
      clear c0 c1 c2 c3 HK
      generalize wr.drewN nq = wq at *
      go_wp2_with fail
      go_roundw
      case rel => exact ⟨i + 1, by omega, by go_num, HKq⟩
      case measure => simp [intOf]; omega
    · have r1 : ¬ (i : Int) < (N : Int) := by omega
      go_wp2_with fail
      go_loopw [7, 8] (fun vl vi wr => ∃ (i : Nat), i ≤ N ∧ vi = .int .i64 (i : Int) ∧ Hid (wr.ownsRow w.heap.size 3 1 vl (spF d (ns.take i)).length (ints (spF d (ns.take i)))) ∧ Hid (Kp w wr non)) (fun _ vi _ => N - (intOf vi).toNat)
      case atStart => exact ⟨0, Nat.zero_le _, rfl, World.ownsRow_nil _ _ _ _, HK.out⟩
      case round =>
        clear HK
        obtain ⟨i, hi, rfl, HO, HK⟩ := hrel
        by_cases h1 : i < N
        · have r1 : (i : Int) < (N : Int) := by omega
          have z1 : i < ns.length := by rw [← HN.out]; exact h1
          have c1 := (HS.out.kp HK.out (fun _ f => f)).cell i z1
          obtain rfl := HS.out.at0 (by omega)
          have HT := hide (spF_succ (d := d) z1)
          have EN : Hid (∀ q, Calls Try.prog 49 #[.pointer (some ⟨R, 0, none⟩), .int .i64 ns[i]] (wr.drewN q) fun e w' => e = .returned (.int .i64 (d.en ns[i])) ∧ ∃ p, w' = (wr.drewN q).drewN p) := fun q => HEN.out _ _ (HK.out.drewN q) (List.getElem_mem z1)
          obtain ⟨c0, c2, c3⟩ := HBK.out _ HK.out
          have HLs : Hid ((spF d (ns.take i)).length ≤ 300) := by
            show _ ≤ _
            have := spF_len d (ns.take i)
            rw [List.length_take] at this
            omega
          have HSP : Hid (∀ p, (d.en ns[i] ≤ d.now → p = spF d (ns.take i) ++ [ns[i]]) → (¬ d.en ns[i] ≤ d.now → p = spF d (ns.take i)) → spF d (ns.take (i + 1)) = p) := fun p q1 q2 => by
            rw [HT.out]
            split
            · next e => exact (q1 e).symm
            · next e => exact (q2 e).symm
          generalize spF d (ns.take i) = fi at *
          generalize ns[i] = x at *
          generalize d.en x = en at *
          generalize d.now = now at *
          clear z1 HT
          by_cases hsp : en ≤ now
          · have HT2 : Hid (spF d (ns.take (i + 1)) = fi ++ [x]) := HSP.out _ (fun _ => rfl) (fun q => absurd hsp q)
            go_wp2_with fail
            go_quiet (first | (go_at_call 49; refine Calls.quiet_of (EN.out _)))
            have HKq := hide (HK.out.drewN nq)
            have HOq := hide (own_kp HO.out ((Kp.refl wr non).drewN nq) (fun _ _ f => f))
            have e1 : (wr.drewN nq).cell? ⟨b, o + i, none⟩ = some (.int .i64 x) := c1
            clear c0 c1 c2 c3 HK HO EN
            generalize wr.drewN nq = wq at *
            obtain ⟨W4, hW4⟩ : ∃ W4, W4 = wq.alloc (.cells #[.int .i64 x] 3) := ⟨_, rfl⟩
            have hb4 : Below wq.heap.size wq W4 := by rw [hW4]; exact (Below.refl _ _).alloc (Nat.le_refl _) _
            have gg : W4.heap[wq.heap.size]? = some (.cells #[.int .i64 x] 3) := by rw [hW4]; exact heap_last _ _
            have HO4 := hide (own_kp HOq.out (Kp.of_below hb4 non) (fun _ _ f => f))
            have HGG := hide gg
            have hsz : w.heap.size ≤ W4.heap.size := Nat.le_trans HKq.out.size hb4.size
            have K4 := hide (HKq.out.trans (Kp.of_below hb4 non) (fun _ f => f.elim))
            clear gg hb4
            go_wp2_with (at_builtin; rw [← hW4]; refine wpList_apI rfl (.tmp 52) (.tmp 57) rfl w.heap.size _ fi.length fi rfl HO4.out wq.heap.size x rfl HGG.out (by have := HLs.out; omega) hsz ?_; intro v' w' o2 g2 _; have HO5 := hide o2; have K5 : Hid (Kp w w' non) := (K4.out.trans (Kp.of_grown g2) (fun k hk => Or.inr (own_ge HO4.out hk.symm))); clear o2 g2)
            go_roundw
            case rel => exact ⟨i + 1, by omega, by go_num, by rw [HT2.out, List.length_append]; exact HO5, K5⟩
            case measure => simp [intOf]; omega
          · have hspd : decide (en ≤ now) = false := decide_eq_false hsp
            have HT2 : Hid (spF d (ns.take (i + 1)) = fi) := HSP.out _ (fun q => absurd q hsp) (fun _ => rfl)
            clear hsp
            go_wp2_with fail
            go_quiet (first | (go_at_call 49; refine Calls.quiet_of (EN.out _)))
            have HKq := hide (HK.out.drewN nq)
            have HOq := hide (own_kp HO.out ((Kp.refl wr non).drewN nq) (fun _ _ f => f))
            clear c0 c1 c2 c3 HK HO EN
            generalize wr.drewN nq = wq at *
            go_wp2_with fail
            go_roundw
            case rel => exact ⟨i + 1, by omega, by go_num, by rw [HT2.out]; exact HOq, HKq⟩
            case measure => simp [intOf]; omega
        · have r1 : ¬ (i : Int) < (N : Int) := by omega
          have HO0 : Hid (wr.ownsRow w.heap.size 3 1 u7 (ordN d ns 0).length (ints (ordN d ns 0))) := by
            have := HO.out
            rw [List.take_of_length_le (by rw [← HN.out]; omega)] at this
            exact this
          obtain ⟨c0, c2, c3⟩ := HBK.out _ HK.out
          have ew := wrap_in (x := d.now + 1) (by omega) (by omega)
          obtain ⟨bn, hbn⟩ : ∃ bn : Nat, (bn : Int) = d.ban := ⟨d.ban.toNat, by omega⟩
          have HBN : Hid (bn = d.ban.toNat) := by show _ = _; omega
          rw [← HBN.out] at HOL
          have hbn1 : bn ≤ 1024 := by omega
          clear HO
          go_wp2_with fail
          go_loopw [7, 9, 10] (fun vl vt vi wr => ∃ (j : Nat), j ≤ bn ∧ vt = .int .i64 (d.now + 1 + (j : Int)) ∧ Hid (wr.ownsRow w.heap.size 3 1 vl (ordN d ns j).length (ints (ordN d ns j))) ∧ Hid (Kp w wr non)) (fun _ vt _ _ => (d.now + 1 + 1025 - (intOf vt)).toNat)
          case atStart => exact ⟨0, Nat.zero_le _, by first | rfl | (congr 1; omega), HO0.out, HK.out⟩
          case round =>
            clear HK HO0 c0 c2 c3
            obtain ⟨j, hj, rfl, HO, HK⟩ := hrel
            obtain ⟨c0, c2, c3⟩ := HBK.out _ HK.out
            have ew2 := wrap_in (x := d.now + d.ban) (by omega) (by omega)
            by_cases hjb : j < bn
            · have hjz : d.now + 1 + (j : Int) ≤ d.now + d.ban := by omega
              have HN0 : Hid (ordN d ns j ++ enF d j (ns.take 0) = ordN d ns j) := by show _ = _; simp [enF]
              have HNS : Hid (ordN d ns (j + 1) = ordN d ns j ++ enF d j ns) := rfl
              have HLj : Hid ((ordN d ns j).length ≤ 1000000) := by
                show _ ≤ _
                have h3 := HNL.out j
                have h4 : (j + 1) * ns.length ≤ 1025 * 300 := Nat.mul_le_mul (by omega) (by rw [← HN.out]; exact hl)
                omega
              generalize ordN d ns j = dj at *
              have HTt : Hid (∀ z, z = d.now + 1 + (j : Int) → True) := fun _ _ => trivial
              obtain ⟨tt, htt⟩ : ∃ tt, tt = d.now + 1 + (j : Int) := ⟨_, rfl⟩
              have HTT := hide htt
              rw [← htt] at hjz ⊢
              have ttw := wrap_in (x := tt + 1) (by omega) (by omega)
              have hjd : decide (tt ≤ d.now + d.ban) = true := decide_eq_true hjz
              clear htt
              go_wp2_with fail
              go_quiet (fail)
              have HKq := hide (HK.out.drewN nq)
              have HOq : Hid ((wr.drewN nq).ownsRow w.heap.size 3 1 u7 (dj ++ enF d j (ns.take 0)).length (ints (dj ++ enF d j (ns.take 0)))) := by
                rw [HN0.out]
                exact own_kp HO.out ((Kp.refl wr non).drewN nq) (fun _ _ f => f)
              clear c0 c2 c3 HK HO
              generalize wr.drewN nq = wq at *
              go_wp2_with fail
              go_loopw [7, 10] (fun vl vi wr => ∃ (i : Nat), i ≤ N ∧ vi = .int .i64 (i : Int) ∧ Hid (wr.ownsRow w.heap.size 3 1 vl (dj ++ enF d j (ns.take i)).length (ints (dj ++ enF d j (ns.take i)))) ∧ Hid (Kp w wr non)) (fun _ vi _ => N - (intOf vi).toNat)
              case atStart => exact ⟨0, Nat.zero_le _, rfl, HOq.out, HKq.out⟩
              case round =>
                clear HKq HOq
                obtain ⟨i, hi, rfl, HO, HK⟩ := hrel
                by_cases h1 : i < N
                · have r1 : (i : Int) < (N : Int) := by omega
                  have z1 : i < ns.length := by rw [← HN.out]; exact h1
                  have c1 := (HS.out.kp HK.out (fun _ f => f)).cell i z1
                  obtain rfl := HS.out.at0 (by omega)
                  have HT : Hid (dj ++ enF d j (ns.take (i + 1)) = if d.en ns[i] = tt then (dj ++ enF d j (ns.take i)) ++ [ns[i]] else dj ++ enF d j (ns.take i)) := by
                    show _ = _
                    rw [enF_succ z1, HTT.out]
                    split
                    · rw [List.append_assoc]
                    · rfl
                  have EN := hide (HEN.out _ _ HK.out (List.getElem_mem z1))
                  have HLs : Hid ((dj ++ enF d j (ns.take i)).length ≤ 2000000) := by
                    show _ ≤ _
                    have h3 := enF_len d j (ns.take i)
                    rw [List.length_take] at h3
                    have := HLj.out
                    rw [List.length_append]
                    omega
                  have HSP : Hid (∀ p, (d.en ns[i] = tt → p = (dj ++ enF d j (ns.take i)) ++ [ns[i]]) → (¬ d.en ns[i] = tt → p = dj ++ enF d j (ns.take i)) → dj ++ enF d j (ns.take (i + 1)) = p) := fun p q1 q2 => by
                    rw [HT.out]
                    split
                    · next e => exact (q1 e).symm
                    · next e => exact (q2 e).symm
                  generalize dj ++ enF d j (ns.take i) = fi at *
                  generalize ns[i] = x at *
                  generalize d.en x = en at *
                  clear z1 HT
                  by_cases hsp : en = tt
                  · have HT2 : Hid (dj ++ enF d j (ns.take (i + 1)) = fi ++ [x]) := HSP.out _ (fun _ => rfl) (fun q => absurd hsp q)
                    have hspb : (en == tt) = true := by simpa using hsp
                    clear hsp
                    go_wp2_with fail
                    refine Calls.mono EN.out ?_
                    rintro z W1 ⟨rfl, nq, rfl⟩
                    have HKq := hide (HK.out.drewN nq)
                    have HOq := hide (own_kp HO.out ((Kp.refl wr non).drewN nq) (fun _ _ f => f))
                    have e1 : (wr.drewN nq).cell? ⟨b, o + i, none⟩ = some (.int .i64 x) := c1
                    clear c1 HK HO EN
                    generalize wr.drewN nq = wq at *
                    obtain ⟨W4, hW4⟩ : ∃ W4, W4 = wq.alloc (.cells #[.int .i64 x] 3) := ⟨_, rfl⟩
                    have hb4 : Below wq.heap.size wq W4 := by rw [hW4]; exact (Below.refl _ _).alloc (Nat.le_refl _) _
                    have gg : W4.heap[wq.heap.size]? = some (.cells #[.int .i64 x] 3) := by rw [hW4]; exact heap_last _ _
                    have HO4 := hide (own_kp HOq.out (Kp.of_below hb4 non) (fun _ _ f => f))
                    have HGG := hide gg
                    have hsz : w.heap.size ≤ W4.heap.size := Nat.le_trans HKq.out.size hb4.size
                    have K4 := hide (HKq.out.trans (Kp.of_below hb4 non) (fun _ f => f.elim))
                    clear gg hb4
                    go_wp2_with (at_builtin; rw [← hW4]; refine wpList_apI rfl (.tmp 91) (.tmp 96) rfl w.heap.size _ fi.length fi rfl HO4.out wq.heap.size x rfl HGG.out (by have := HLs.out; omega) hsz ?_; intro v' w' o2 g2 _; have HO5 := hide o2; have K5 : Hid (Kp w w' non) := (K4.out.trans (Kp.of_grown g2) (fun k hk => Or.inr (own_ge HO4.out hk.symm))); clear o2 g2)
                    go_roundw
                    case rel => exact ⟨i + 1, by omega, by go_num, by rw [HT2.out, List.length_append]; exact HO5, K5⟩
                    case measure => simp [intOf]; omega
                  · have hspb : (en == tt) = false := by simpa using hsp
                    have HT2 : Hid (dj ++ enF d j (ns.take (i + 1)) = fi) := HSP.out _ (fun q => absurd q hsp) (fun _ => rfl)
                    clear hsp
                    go_wp2_with fail
                    refine Calls.mono EN.out ?_
                    rintro z W1 ⟨rfl, nq, rfl⟩
                    have HKq := hide (HK.out.drewN nq)
                    have HOq := hide (own_kp HO.out ((Kp.refl wr non).drewN nq) (fun _ _ f => f))
                    clear c1 HK HO EN
                    generalize wr.drewN nq = wq at *
                    go_wp2_with fail
                    go_roundw
                    case rel => exact ⟨i + 1, by omega, by go_num, by rw [HT2.out]; exact HOq, HKq⟩
                    case measure => simp [intOf]; omega
                · have r1 : ¬ (i : Int) < (N : Int) := by omega
                  have HO1 : Hid (wr.ownsRow w.heap.size 3 1 u7 (ordN d ns (j + 1)).length (ints (ordN d ns (j + 1)))) := by
                    have := HO.out
                    rw [List.take_of_length_le (by rw [← HN.out]; omega), ← HNS.out] at this
                    exact this
                  clear HO
                  go_wp2_with fail
                  go_roundw
                  case rel => exact ⟨j + 1, by omega, by first | (rw [HTT.out]; congr 1; omega) | (congr 1; have := HTT.out; omega), HO1, HK⟩
                  case measure => have := HTT.out; simp [intOf]; omega
            · obtain rfl : j = bn := by omega
              have hjz : ¬ d.now + 1 + (j : Int) ≤ d.now + d.ban := by omega
              have hjd : decide (d.now + 1 + (j : Int) ≤ d.now + d.ban) = false := decide_eq_false hjz
              have HOF : Hid (wr.ownsRow w.heap.size 3 1 u7 (ordL d ns).length (ints (ordL d ns))) := by
                rw [← HOL.out]
                exact HO.out
              obtain ⟨tt, htt⟩ : ∃ tt, tt = d.now + 1 + (j : Int) := ⟨_, rfl⟩
              rw [← htt] at hjz hjd ⊢
              have HTT := hide htt
              clear HO htt
              go_wp2_with fail
              go_quiet (fail)
              have HKq := hide (HK.out.drewN nq)
              have HOq := hide (own_kp HOF.out ((Kp.refl wr non).drewN nq) (fun _ _ f => f))
              clear c0 c2 c3 HK HOF
              generalize wr.drewN nq = wq at *
              go_wp2_with fail
              go_ret2
              exact ⟨_, rfl, HOq.out, HKq.out.below⟩
end Go.Proofs.Ytnegdhnmgkpkjaa
namespace Go.Proofs.Ytnegdhnmgkpkjaa
open Go.RowKit
theorem first_bad {n : Nat} : ∀ {ns : List Int}, (¬ ∀ x ∈ ns, 0 ≤ x ∧ x < (n : Int)) → ∃ p, ∃ h : p < ns.length, (¬ (0 ≤ ns[p] ∧ ns[p] < (n : Int))) ∧ ∀ i, ∀ h2 : i < ns.length, i < p → 0 ≤ ns[i] ∧ ns[i] < (n : Int)
  | [], h => absurd (by simp) h
  | a :: r, h => by
    by_cases ha : 0 ≤ a ∧ a < (n : Int)
    · obtain ⟨p, hp, h1, h2⟩ := first_bad (n := n) (ns := r) (fun q => h (fun x hx => by
        rcases List.mem_cons.1 hx with rfl | hx
        · exact ha
        · exact q x hx))
      refine ⟨p + 1, by simpa using hp, by simpa using h1, fun i h3 h4 => ?_⟩
      cases i with
      | zero => simpa using ha
      | succ i => simpa using h2 i (by simpa using h3) (by omega)
    · exact ⟨0, by simp, by simpa using ha, fun i _ h4 => by omega⟩
set_option maxHeartbeats 8000000 in
set_option maxRecDepth 100000 in
set_option linter.unusedSimpArgs false in
set_option linter.unusedVariables false in
theorem rOrder_bad {w : World} {S : Nat → Prop} {R : Nat} {d : Dt} (h : RfAt w S R d) (ao : Option Addr) (b o cap : Nat) (ns : List Int) (hs : IsAt w ao b o ns) (hin : ¬ ∀ x ∈ ns, 0 ≤ x ∧ x < (d.n : Int)) :
    Calls Try.prog 43 #[.pointer (some ⟨R, 0, none⟩), .slice ao ns.length cap] w fun e w' => e = .returned (.tuple #[.slice none 0 0, .int .i64 68]) ∧ Below w.heap.size w w' := by
  obtain ⟨p, hp, hb, hg⟩ := first_bad hin
  have HS := hide hs
  have HG := hide hg
  have hlen := hs.len
  have HBK : Hid (∀ W, Kp w W non → W.cell? ⟨R, 0, none⟩ = some (.int .i64 (d.n : Int))) := fun W hW => by
    obtain ⟨vs, pv, tm, hi, hS⟩ := h.kp hW (fun _ _ f => f)
    exact hi.blk.c0
  obtain ⟨N, hN⟩ : ∃ N, N = ns.length := ⟨_, rfl⟩
  have hpN : p < N := by omega
  rw [← hN] at hlen ⊢
  have HN := hide hN
  obtain rfl := hs.at0 (by omega)
  have HB : Hid (¬ (0 ≤ ns[p] ∧ ns[p] < (d.n : Int))) := hb
  generalize d.n = n at *
  clear h hs hg hN hin hb
  go_enter Try.func43, Try.ntmps43
  go_wp2_with fail
  go_loopw [6] (fun vi wr => ∃ (i : Nat), i ≤ p ∧ vi = .int .i64 (i : Int) ∧ Hid (Kp w wr non)) (fun vi _ => p - (intOf vi).toNat)
  case atStart => exact ⟨0, Nat.zero_le _, rfl, Kp.refl _ _⟩
  case round =>
    obtain ⟨i, hi, rfl, HK⟩ := hrel
    have r1 : (i : Int) < (N : Int) := by omega
    have z1 : i < ns.length := by rw [← HN.out]; omega
    have c1 := (HS.out.kp HK.out (fun _ f => f)).cell i z1
    have c0 := HBK.out _ HK.out
    by_cases h1 : i < p
    · have hrng := HG.out i z1 h1
      generalize ns[i] = x at *
      have x0 : decide (x < 0) = false := decide_eq_false (by omega)
      have x1 : decide (x ≥ (n : Int)) = false := decide_eq_false (by omega)
      have x1' : decide ((n : Int) ≤ x) = false := decide_eq_false (by omega)
      clear z1
      go_wp2_with fail
      go_quiet (fail)
      have HKq := hide (HK.out.drewN nq)
      clear c0 c1 HK
      generalize wr.drewN nq = wq at *
      go_wp2_with fail
      go_roundw
      case rel => exact ⟨i + 1, by omega, by go_num, HKq⟩
      case measure => simp [intOf]; omega
    · obtain rfl : i = p := by omega
      have HB2 := HB.out
      generalize ns[i] = x at *
      clear z1 HB
      by_cases x0 : x < 0
      · go_wp2_with fail
        go_quiet (fail)
        have HKq := hide (HK.out.drewN nq)
        clear c0 c1 HK
        generalize wr.drewN nq = wq at *
        go_wp2_with fail
        go_ret2
        exact ⟨rfl, HKq.out.below⟩
      · have x0d : decide (x < 0) = false := decide_eq_false x0
        have x1 : (n : Int) ≤ x := by omega
        go_wp2_with fail
        go_quiet (fail)
        have HKq := hide (HK.out.drewN nq)
        clear c0 c1 HK
        generalize wr.drewN nq = wq at *
        go_wp2_with fail
        go_ret2
        exact ⟨rfl, HKq.out.below⟩
/-- both detectors, apart -/
structure Two (w : World) (S T : Nat → Prop) (D R : Nat) (d : Dt) : Prop where
  dt : DtAt w S D d
  rf : RfAt w T R d
  ap : ∀ k, S k → ¬ T k
theorem Two.below {w w' : World} {S T : Nat → Prop} {D R : Nat} {d : Dt} (h : Two w S T D R d) (hb : Below w.heap.size w w') : Two w' S T D R d := ⟨h.dt.below hb, h.rf.below hb, h.ap⟩
theorem Two.kp {w w' : World} {S T : Nat → Prop} {D R : Nat} {d : Dt} (h : Two w S T D R d) {X : Nat → Prop} (hk : Kp w w' X) (h1 : ∀ k, S k → ¬ X k) (h2 : ∀ k, T k → ¬ X k) : Two w' S T D R d := ⟨h.dt.kp hk h1, h.rf.kp hk h2, h.ap⟩
/-- what a step leaves -/
def TwoDid (w w' : World) (S T : Nat → Prop) (D R : Nat) (d : Dt) : Prop := ∃ T', Two w' S T' D R d ∧ (∀ k, T' k → T k ∨ w.heap.size ≤ k) ∧ Kp w w' (fun k => S k ∨ T k)
theorem Two.did {w w' : World} {S T : Nat → Prop} {D R : Nat} {d : Dt} (h : Two w S T D R d) (hb : Below w.heap.size w w') : TwoDid w w' S T D R d := ⟨T, h.below hb, fun _ e => Or.inl e, Kp.of_below hb _⟩
/-- first the program's, then the document's -/
theorem Two.step {w w1 w2 : World} {S T : Nat → Prop} {D R : Nat} {d d' : Dt} (h : Two w S T D R d) (h1 : DtAt w1 S D d') (k1 : Kp w w1 S) (h2 : RfDid w1 w2 T R d') : TwoDid w w2 S T D R d' := by
  obtain ⟨T', r1, r2, r3⟩ := h2
  refine ⟨T', ⟨h1.kp r3 (fun k s t => h.ap k s t), r1, fun k s t => ?_⟩, fun k t => ?_, ?_⟩
  · rcases r2 k t with q | q
    · exact h.ap k s q
    · have := h1.lt k s
      omega
  · rcases r2 k t with q | q
    · exact Or.inl q
    · exact Or.inr (Nat.le_trans k1.size q)
  · exact (k1.mono (fun k s => Or.inl s)).trans (r3.mono (T := fun k => S k ∨ T k) (fun k t => Or.inr t)) (fun k e => Or.inl e)
theorem TwoDid.join {w w1 w2 : World} {S T T1 : Nat → Prop} {D R : Nat} {d' : Dt} (a2 : ∀ k, T1 k → T k ∨ w.heap.size ≤ k) (a3 : Kp w w1 (fun k => S k ∨ T k)) (h : TwoDid w1 w2 S T1 D R d') : TwoDid w w2 S T D R d' := by
  obtain ⟨T2, b1, b2, b3⟩ := h
  refine ⟨T2, b1, fun k t => ?_, a3.trans b3 (fun k e => ?_)⟩
  · rcases b2 k t with q | q
    · exact a2 k q
    · exact Or.inr (Nat.le_trans a3.size q)
  · rcases e with e | e
    · exact Or.inl (Or.inl e)
    · rcases a2 k e with q | q
      · exact Or.inl (Or.inr q)
      · exact Or.inr q
theorem TwoDid.trans {w w1 w2 : World} {S T : Nat → Prop} {D R : Nat} {d d' : Dt} (h : TwoDid w w1 S T D R d) (h2 : ∀ T', Two w1 S T' D R d → TwoDid w1 w2 S T' D R d') : TwoDid w w2 S T D R d' := by
  obtain ⟨T1, a1, a2, a3⟩ := h
  obtain ⟨T2, b1, b2, b3⟩ := h2 T1 a1
  refine ⟨T2, b1, fun k t => ?_, a3.trans b3 (fun k e => ?_)⟩
  · rcases b2 k t with q | q
    · exact a2 k q
    · exact Or.inr (Nat.le_trans a3.size q)
  · rcases e with e | e
    · exact Or.inl (Or.inl e)
    · rcases a2 k e with q | q
      · exact Or.inl (Or.inr q)
      · exact Or.inr q
theorem TwoDid.pre {w w1 w2 : World} {S T : Nat → Prop} {D R : Nat} {d : Dt} (hb : Below w.heap.size w w1) (h : TwoDid w1 w2 S T D R d) : TwoDid w w2 S T D R d := by
  obtain ⟨T2, b1, b2, b3⟩ := h
  refine ⟨T2, b1, fun k t => ?_, (Kp.of_below hb _).trans b3 (fun k e => Or.inl e)⟩
  rcases b2 k t with q | q
  · exact Or.inl q
  · exact Or.inr (Nat.le_trans hb.size q)
theorem TwoDid.post {w w1 w2 : World} {S T : Nat → Prop} {D R : Nat} {d : Dt} (h : TwoDid w w1 S T D R d) (hb : Below w1.heap.size w1 w2) : TwoDid w w2 S T D R d := h.trans (fun _ h2 => h2.did hb)
set_option maxHeartbeats 8000000 in
set_option maxRecDepth 100000 in
set_option linter.unusedSimpArgs false in
set_option linter.unusedVariables false in
theorem ticks_any {w : World} {S T : Nat → Prop} {D R : Nat} {d : Dt} (h : Two w S T D R d) {q0 : Nat} (hf : d.upto q0) (hq : q0 ≤ 1000000) (nd : Int) :
    Calls Try.prog 40 #[.pointer (some ⟨D, 0, none⟩), .pointer (some ⟨R, 0, none⟩), .int .i64 nd] w fun e w' => e = .returned (.bool true) ∧ TwoDid w w' S T D R (d.does 3 nd) := by
  have H := hide h
  have HDD : Hid (d.does 3 nd = d.tickN (min nd 1100).toNat) := by unfold Hid Dt.does; rw [if_neg (by decide), if_neg (by decide), if_pos rfl]
  generalize d.does 3 nd = d' at *
  have NU := hide fun w n => num_any w n
  have HTD : Hid (∀ (j : Nat) (W : World), j < 1100 → DtAt W S D (d.tickN j) → Calls Try.prog 15 #[.pointer (some ⟨D, 0, none⟩)] W fun e w' => e = .returned (.int .i64 0) ∧ DtAt w' S D (d.tickN (j + 1)) ∧ Kp W w' S) := fun j W hj hW => by
    have := Tick_any hW (hf.ft.tickN j) (by have := hf.t1; show d.now + (j : Int) < _; omega)
    rwa [tickN_succ] at this
  have HTR : Hid (∀ (j : Nat) (W : World) (T' : Nat → Prop), j < 1100 → RfAt W T' R (d.tickN j) → Calls Try.prog 47 #[.pointer (some ⟨R, 0, none⟩)] W fun e w' => e = .returned (.int .i64 0) ∧ RfAt w' T' R (d.tickN (j + 1)) ∧ Kp W w' T') := fun j W T' hj hW => by
    have := rTick_any hW (hf.ft.tickN j) (by have := hf.t1; show d.now + (j : Int) < _; omega)
    rwa [tickN_succ] at this
  clear h hf
  go_enter Try.func40, Try.ntmps40
  go_wp2_with fail
  go_loopw [7] (fun vi wr => ∃ (j : Nat), (j : Int) ≤ max nd 0 ∧ j ≤ 1100 ∧ vi = .int .i64 (j : Int) ∧ Hid (TwoDid w wr S T D R (d.tickN j))) (fun vi _ => 1100 - (intOf vi).toNat)
  case atStart => exact ⟨0, by omega, by omega, rfl, by rw [tickN_zero]; exact H.out.did (Below.refl _ _)⟩
  case round =>
    clear H
    obtain ⟨j, hj, hj2, rfl, HA⟩ := hrel
    by_cases q1 : (j : Int) < nd
    · by_cases q2 : j < 1100
      · have q3 : (j : Int) < 1100 := by omega
        obtain ⟨T1, a1, a2, a3⟩ := HA.out
        have TT := hide (HTD.out j wr q2 a1.dt)
        have H1 := hide a1
        have HA2 : Hid (∀ k, T1 k → T k ∨ w.heap.size ≤ k) := a2
        have HA3 := hide a3
        clear a1 a2 a3
        go_wp2_with fail
        refine Calls.mono TT.out ?_
        rintro e W1 ⟨rfl, h1, h2⟩
        have HD1 := hide h1
        have HK1 := hide h2
        have TR := hide (HTR.out j W1 T1 q2 (H1.out.rf.kp h2 (fun k t s => H1.out.ap k s t) |> fun z => z))
        clear h1 h2 TT
        go_wp2_with fail
        refine Calls.mono (NU.out _ _) ?_
        rintro e W2 ⟨rfl, rfl⟩
        go_wp2_with fail
        refine Calls.mono TR.out ?_
        rintro e W2 ⟨rfl, h1, h2⟩
        have HR1 : Hid (RfDid W1 W2 T1 R (d.tickN (j + 1))) := ⟨T1, h1, fun _ e => Or.inl e, h2⟩
        clear h1 h2 TR
        go_wp2_with fail
        go_roundw
        case rel => exact ⟨j + 1, by omega, by omega, by go_num, TwoDid.join HA2.out HA3.out (H1.out.step HD1.out HK1.out HR1.out)⟩
        case measure => simp [intOf]; omega
      · obtain rfl : j = 1100 := by omega
        go_wp2_with fail
        go_ret
        refine ⟨rfl, ?_⟩
        rw [HDD.out, show (min nd 1100).toNat = 1100 by omega]
        exact HA.out
    · go_wp2_with fail
      go_ret
      refine ⟨rfl, ?_⟩
      rw [HDD.out, show (min nd 1100).toNat = j by omega]
      exact HA.out
/-- a list with marks behind it -/
def mkd (ns : List Int) (i : Nat) : List Int := tk ns ++ List.replicate i (-77)
theorem mkd_len (ns : List Int) (i : Nat) : (mkd ns i).length ≤ 200 + i := by
  unfold mkd
  rw [List.length_append, List.length_replicate]
  have := tk_len ns
  omega
theorem mkd_take (ns : List Int) (i : Nat) : (mkd ns i).take (tk ns).length = tk ns := by
  unfold mkd
  rw [List.take_append_of_le_length (Nat.le_refl _), List.take_length]
set_option maxHeartbeats 8000000 in
set_option maxRecDepth 100000 in
set_option linter.unusedSimpArgs false in
set_option linter.unusedVariables false in
theorem marked_any {w : World} (ao : Option Addr) (b o cap : Nat) (ns : List Int) (hs : IsAt w ao b o ns) :
    Calls Try.prog 42 #[.slice ao ns.length cap] w fun e w' => ∃ v, e = .returned v ∧ w'.ownsRow w.heap.size 3 1 v (mkd ns 8).length (ints (mkd ns 8)) ∧ Below w.heap.size w w' := by
  have CP := hide (copied_any ao b o cap ns hs)
  have HM0 : Hid (mkd ns 0 = tk ns) := by show _ = _; unfold mkd; simp
  have HMS : Hid (∀ i, mkd ns (i + 1) = mkd ns i ++ [-77]) := fun i => by unfold mkd; rw [List.replicate_succ', List.append_assoc]
  have HML := hide fun i => mkd_len ns i
  clear hs
  go_enter Try.func42, Try.ntmps42
  go_wp2_with fail
  refine Calls.mono CP.out ?_
  rintro e W1 ⟨v1, rfl, ho1, hb1⟩
  have HO1 : Hid (W1.ownsRow w.heap.size 3 1 v1 (mkd ns 0).length (ints (mkd ns 0))) := by rw [HM0.out]; exact ho1
  have HK1 : Hid (Kp w W1 non) := Kp.of_below hb1 non
  clear ho1 hb1 CP
  go_wp2_with fail
  go_loopw [3, 4] (fun vl vi wr => ∃ (i : Nat), i ≤ 8 ∧ vi = .int .i64 (i : Int) ∧ Hid (wr.ownsRow w.heap.size 3 1 vl (mkd ns i).length (ints (mkd ns i))) ∧ Hid (Kp w wr non)) (fun _ vi _ => 8 - (intOf vi).toNat)
  case atStart => exact ⟨0, by omega, rfl, HO1.out, HK1.out⟩
  case round =>
    clear HO1 HK1
    obtain ⟨i, hi, rfl, HO, HK⟩ := hrel
    by_cases h1 : i < 8
    · have r1 : (i : Int) < 8 := by omega
      have HS2 := hide (HMS.out i)
      have HL2 := hide (HML.out i)
      generalize mkd ns i = fi at *
      obtain ⟨W4, hW4⟩ : ∃ W4, W4 = wr.alloc (.cells #[.int .i64 (-77)] 3) := ⟨_, rfl⟩
      have hb4 : Below wr.heap.size wr W4 := by rw [hW4]; exact (Below.refl _ _).alloc (Nat.le_refl _) _
      have gg : W4.heap[wr.heap.size]? = some (.cells #[.int .i64 (-77)] 3) := by rw [hW4]; exact heap_last _ _
      have HO4 := hide (own_kp HO.out (Kp.of_below hb4 non) (fun _ _ f => f))
      have HGG := hide gg
      have hsz : w.heap.size ≤ W4.heap.size := Nat.le_trans HK.out.size hb4.size
      have K4 := hide (HK.out.trans (Kp.of_below hb4 non) (fun _ f => f.elim))
      clear gg hb4
      go_wp2_with (at_builtin; rw [← hW4]; refine wpList_apI rfl (.tmp 11) (.tmp 12) rfl w.heap.size _ fi.length fi rfl HO4.out wr.heap.size (-77) rfl HGG.out (by have := HL2.out; omega) hsz ?_; intro v' w' o2 g2 _; have HO5 := hide o2; have K5 : Hid (Kp w w' non) := (K4.out.trans (Kp.of_grown g2) (fun k hk => Or.inr (own_ge HO4.out hk.symm))); clear o2 g2)
      go_roundw
      case rel => exact ⟨i + 1, by omega, by go_num, by rw [HS2.out, List.length_append]; exact HO5, K5⟩
      case measure => simp [intOf]; omega
    · obtain rfl : i = 8 := by omega
      go_wp2_with fail
      go_ret
      exact ⟨_, rfl, HO.out, HK.out.below⟩
end Go.Proofs.Ytnegdhnmgkpkjaa
