import Derived.Test.YtpoegknmkbnjlaaDoorGErAsk
import Derived.Test.YtpoegknmkbnjlaaDoorGEpHear
namespace Go.Proofs.YtpoegknmkbnjlaaDoor.Cn
open Go.RowKit
theorem keepP_take : ∀ (a : List Pr) (o : List Int) (i : Nat) (x : Int) (h1 : i < a.length) (h2 : i < o.length), keepP (a.take (i + 1)) (o.take (i + 1)) x = keepP (a.take i) (o.take i) x ++ if o[i] = x then [] else [a[i]]
  | p :: a, k :: o, 0, x, _, _ => by
    show keepP [p] [k] x = [] ++ _
    unfold keepP
    by_cases e : k = x
    · rw [if_pos e]
      show keepP [] [] x = [] ++ if k = x then [] else [p]
      rw [if_pos e]
      rfl
    · rw [if_neg e]
      show p :: keepP [] [] x = [] ++ if k = x then [] else [p]
      rw [if_neg e]
      rfl
  | p :: a, k :: o, i + 1, x, h1, h2 => by
    have g1 : i < a.length := by simpa using h1
    have g2 : i < o.length := by simpa using h2
    have z := keepP_take a o i x g1 g2
    show keepP (p :: a.take (i + 1)) (k :: o.take (i + 1)) x = keepP (p :: a.take i) (k :: o.take i) x ++ if o[i] = x then [] else [a[i]]
    unfold keepP
    by_cases e : k = x
    · rw [if_pos e, if_pos e]
      exact z
    · rw [if_neg e, if_neg e, z]
      rfl
theorem keepO_take (o : List Int) (i : Nat) (x : Int) (h : i < o.length) : keepO (o.take (i + 1)) x = keepO (o.take i) x ++ if o[i] = x then [] else [o[i]] := by
  unfold keepO
  rw [filt_take (f := fun k => k != x) h]
  congr 1
  by_cases e : o[i] = x
  · simp [e]
  · simp [e]
theorem keepP_len : ∀ (a : List Pr) (o : List Int) (x : Int), (keepP a o x).length ≤ a.length
  | [], o, x => by cases o <;> simp [keepP]
  | p :: a, [], x => by simp [keepP]
  | p :: a, k :: o, x => by
    have z := keepP_len a o x
    unfold keepP
    split
    · simp; omega
    · simp; omega
theorem pr_info2 : (Tryd.prog.info? 89).map (·.size) = some 2 := by kernel_rfl
theorem keepO_len (o : List Int) (x : Int) : (keepO o x).length ≤ o.length := List.length_filter_le _ _
theorem wpList_bsP {w : World} {ops : Array Oper} {rest : List Oper} {o : Oper} {a : Act} {Q : Exit → Act → World → Prop} (hgd : o.guard = none) (x : Operand) (ho : o.op = .buildSlice 55 1 #[(0, x)]) (p : Pr) (hx : a.eval x = .agg (prV p))
    (h : wpList Tryd.prog ops Q rest (a.put o.dst (.slice (some ⟨w.heap.size, 0, none⟩) 1 1)) (w.alloc (.cells (prV p) 89))) : wpList Tryd.prog ops Q (o :: rest) a w :=
  wpList_plain hgd fun _ hK => wp_bsP x ho p hx (hK _ _ h)
theorem wpList_apPR {w : World} {ops : Array Oper} {rest : List Oper} {o : Oper} {a : Act} {Q : Exit → Act → World → Prop} (hgd : o.guard = none) (x y : Operand) (ho : o.op = .call { callee := .builtin .append, args := #[x, y], argTypes := #[55, 55] }) (base : Nat) (v : Value) (n : Nat) (L : List Pr) (hx : a.eval x = v) (hv : w.ownsRow base 89 2 v n (prs L)) (base2 : Nat) (v2 : Value) (n2 : Nat) (L2 : List Pr) (hy : a.eval y = v2) (hv2 : w.ownsRow base2 89 2 v2 n2 (prs L2)) (hl : n + n2 < 4398046511104) (hb : base ≤ w.heap.size)
    (h : ∀ v' w', w'.ownsRow base 89 2 v' (n + n2) (prs (L ++ L2)) → w.grownBy w' v.ownBlock → (v'.ownBlock = v.ownBlock ∨ v'.ownBlock = some w.heap.size) → wpList Tryd.prog ops Q rest (a.put o.dst v') w') : wpList Tryd.prog ops Q (o :: rest) a w :=
  wpList_plain hgd fun _ hK => wp_apRow x y 55 ho base 89 Tryd.underlying55 pr_infos rfl (by decide) v n (prs L) hx hv base2 v2 n2 (prs L2) hy hv2 (prs_oneCell _) (by unfold maxLen; omega) (by omega) hb (fun v' w' h1 h2 h3 => hK _ _ (h v' w' (by rw [prs_append]; exact h1) h2 h3))
set_option maxHeartbeats 16000000 in
set_option maxRecDepth 100000 in
set_option linter.unusedSimpArgs false in
set_option linter.unusedVariables false in
theorem leave_r {w : World} {Y : Nat} {r : Rx} {Z : Zr} (h : RxAt w Y r Z) (ok : Rok r) (hp : r.part < r.rows.length) (ho : r.on = true) (hlf : r.left < (rowR r).length) (hle : r.rd.length = r.of_.length) (hll : r.lost.length ≤ 1000) :
    Calls Tryd.prog 54 #[.pointer (some ⟨Y, 0, none⟩)] w fun e w' => ∃ u Z', e = .returned u ∧ Out w w' u (leaveRL r) ∧ Lr w w' Y Z (leaveR r) Z' := by
  have hrw := ok.row hp
  obtain ⟨lf, hlff⟩ : ∃ lf, lf = r.left := ⟨_, rfl⟩
  obtain ⟨p, hpp⟩ : ∃ p, p = r.part := ⟨_, rfl⟩
  obtain ⟨pl, hpl⟩ : ∃ pl, pl = r.rows.length := ⟨_, rfl⟩
  obtain ⟨rn, hrn⟩ : ∃ rn, rn = (rowR r).length := ⟨_, rfl⟩
  obtain ⟨W1, hW1⟩ : ∃ W1, W1 = w.setCell ⟨Y, 8, none⟩ (.int .i64 ((lf : Int) + 1)) := ⟨_, rfl⟩
  have l1 : Lr w W1 Y Z (lftR r) Z := Lr.set h 8 _ hW1 (by rw [hlff]; rfl) rfl rfl rfl rfl rfl (fun q => q)
  have L1 := hide l1
  obtain ⟨-, -, -, -, -, -, -, -, c8, -⟩ := rx_cells h.blk
  rw [← hlff] at c8
  have f8 := fz_row h.blk 8
  obtain ⟨u0, hu0, ho00⟩ := l1.at_.ow.row r.part hp
  have hrow : rowR r = r.rows[r.part] := by unfold rowR; rw [List.getElem?_eq_getElem hp]; rfl
  have o1 := l1.at_.ow.rows
  obtain ⟨rb, rc, hrv0⟩ := own_g o1 (by show 0 < r.rows.length; omega)
  have hrv : Z.rv = .slice (some ⟨rb, 0, none⟩) pl rc := by rw [hpl]; exact hrv0
  clear hrv0
  have ho0 : W1.ownsRow 0 3 1 u0 (rowR r).length (ints (rowR r)) := by rw [hrow]; exact ho00
  clear ho00
  rw [← hrn] at ho0
  obtain ⟨ug, gc, hug⟩ := own_sl ho0
  subst hug
  rw [← hpp] at hu0
  have a1 : W1.cell? ⟨rb, p, none⟩ = some (.slice ug rn gc) := by
    obtain ⟨g', c', e1, hc, _⟩ := own_at o1 hu0
    rw [hrv] at e1
    injection e1 with e1
    injection e1 with e1
    injection e1 with e1
    rw [e1]
    exact hc
  obtain ⟨d0, -, -, -, -, -, -, e7, e8, -⟩ := rx_cells l1.at_.blk
  rw [hrv] at d0
  have d7 : W1.cell? ⟨Y, 7, none⟩ = some (.int .i64 (p : Int)) := by rw [hpp]; exact e7
  have d8 : W1.cell? ⟨Y, 8, none⟩ = some (.int .i64 ((lf : Int) + 1)) := by rw [hlff]; exact e8
  clear e7 e8
  have hpb : p < pl := by rw [hpp, hpl]; exact hp
  have hpi : (p : Int) < (pl : Int) := by omega
  have plb : pl ≤ 64 := by rw [hpl]; exact ok.rl.2
  have rnb : rn ≤ 16 := by rw [hrn]; exact hrw.2
  have lfb : lf < rn := by rw [hlff, hrn]; exact hlf
  have ew := wrap_in (x := (lf : Int) + 1) (by omega) (by omega)
  have OK := hide ok
  have HO := hide ho
  have HP := hide (And.intro hp (And.intro hpp (And.intro hlff (And.intro hrn hpl))))
  have HLE := hide (And.intro hle hll)
  have HW1 := hide hW1
  clear h l1 hW1 hu0 ho0 hrow o1 hrv ok ho hp hpp hpl hrn hlff hlf hle hll hrw hpb
  go_enter Tryd.func54, Tryd.ntmps54
  go_upto_region 2 with fail
  rw [← HW1.out]
  clear c8 f8 HW1 ew
  by_cases hlt : lf + 1 < rn
  · have hli : (lf : Int) + 1 < (rn : Int) := by omega
    have GX : Hid (leaveR r = sentR (lftR r) ∧ leaveRL r = [qR (lftR r)]) := by
      obtain ⟨_, _, e3, e4, _⟩ := HP.out
      rw [e3, e4] at hlt
      exact ⟨if_pos hlt, if_pos hlt⟩
    have okn : Rok (lftR r) := ⟨OK.out.rl, OK.out.rw_, OK.out.ob⟩
    have hnp : (lftR r).part < (lftR r).rows.length := HP.out.1
    have rr := okn.row hnp
    have QN := hide fun n : Nat => question_r (L1.out.at_.kp0 (((Kp.refl W1 non).drewN n))) hnp (by show r.left + 1 < (rowR r).length; obtain ⟨_, _, e3, e4, _⟩ := HP.out; rw [← e3, ← e4]; exact hlt) (by have := OK.out.ob; show r.of_.length ≤ _; omega) OK.out.rl.2 rr.2
    clear hlt hnp okn rr
    go_quiet (fail)
    clear d0 d7 d8 a1
    go_wp2_with fail
    refine Calls.mono (QN.out _) ?_
    rintro e W3 ⟨u, rfl, o3, l3⟩
    have O3 := hide o3
    have L3 := hide (L1.out.trans ((Lr.same L1.out.at_ ((Kp.refl W1 non).drewN nq)).trans l3))
    have SZ : Hid (w.heap.size ≤ (W1.drewN nq).heap.size) := L1.out.kp.size
    clear o3 l3 QN
    go_wp2_with fail
    go_ret
    first | refine ⟨_, Z, rfl, ?_, ?_⟩ | refine ⟨_, rfl, ?_, Z, ?_⟩
    · rw [GX.out.2]
      exact own_base O3.out SZ.out
    · rw [GX.out.1]
      exact L3.out
  · have hli : ¬ (lf : Int) + 1 < (rn : Int) := by omega
    have GX : Hid (leaveR r = goR (lostR r) ∧ leaveRL r = goRL (lostR r)) := by
      obtain ⟨_, _, e3, e4, _⟩ := HP.out
      rw [e3, e4] at hlt
      exact ⟨if_neg hlt, if_neg hlt⟩
    clear hlt
    go_quiet (fail)
    clear d0 d7 d8 a1
    have LQ := hide (L1.out.trans (Lr.same L1.out.at_ ((Kp.refl W1 non).drewN nq)))
    obtain ⟨Wq, hWq⟩ : ∃ Wq, Wq = W1.drewN nq := ⟨_, rfl⟩
    rw [← hWq] at LQ ⊢
    clear hWq L1
    obtain ⟨B3, hB3⟩ : ∃ B3, B3 = Wq.heap.size := ⟨_, rfl⟩
    obtain ⟨RD, hRD⟩ : ∃ RD, RD = r.rd := ⟨_, rfl⟩
    obtain ⟨OF, hOF⟩ : ∃ OF, OF = r.of_ := ⟨_, rfl⟩
    obtain ⟨n, hn⟩ : ∃ n, n = OF.length := ⟨_, rfl⟩
    obtain ⟨rda, rdc, hrd0⟩ := own_sl LQ.out.at_.ow.rd
    obtain ⟨ofa, ofc, hof0⟩ := own_sl LQ.out.at_.ow.ofv
    have hnr : n = RD.length := by rw [hn, hRD, hOF]; exact HLE.out.1.symm
    have hrd : Z.rd = .slice rda n rdc := by rw [hnr, hRD]; exact hrd0
    have hof : Z.ofv = .slice ofa n ofc := by rw [hn, hOF]; exact hof0
    clear hrd0 hof0
    have nb : n ≤ 100000 := by rw [hn, hOF]; exact OK.out.ob
    have HC : Hid (∀ X : World, Kp Wq X non → X.cell? ⟨Y, 7, none⟩ = some (.int .i64 (p : Int)) ∧ X.cell? ⟨Y, 10, none⟩ = some (.slice rda n rdc) ∧ X.cell? ⟨Y, 11, none⟩ = some (.slice ofa n ofc) ∧ X.ownsRow 0 89 2 (.slice rda n rdc) n (prs RD) ∧ X.ownsRow 0 3 1 (.slice ofa n ofc) n (ints OF)) := fun X hk => by
      have z := LQ.out.at_.kp0 hk
      obtain ⟨_, _, _, _, _, _, _, e7, _, _, ea, eb, _⟩ := rx_cells z.blk
      rw [hrd] at ea
      rw [hof] at eb
      have o1 := z.ow.rd
      have o2 := z.ow.ofv
      rw [hrd, show (lftR r).rd = RD from hRD.symm, ← hnr] at o1
      rw [hof, show (lftR r).of_ = OF from hOF.symm, ← hn] at o2
      rw [HP.out.2.1]
      exact ⟨e7, ea, eb, o1, o2⟩
    have HN := hide (And.intro hn hnr)
    have HB3 := hide hB3
    have HRO := hide (And.intro hRD hOF)
    clear hrd hof hn hnr hB3 hRD hOF
    go_wp2_with fail
    go_loopw [3, 4, 5] (fun v3 v4 vi wr => ∃ (i : Nat), i ≤ n ∧ vi = .int .i64 (i : Int) ∧ ∃ (a3 : Option Addr) (c3 : Nat) (a4 : Option Addr) (c4 : Nat) (RR : List Pr) (OO : List Int), v3 = .slice a3 RR.length c3 ∧ v4 = .slice a4 OO.length c4 ∧ Hid (RR = keepP (RD.take i) (OF.take i) (p : Int) ∧ OO = keepO (OF.take i) (p : Int)) ∧ Hid (wr.ownsRow B3 89 2 (.slice a3 RR.length c3) RR.length (prs RR)) ∧ Hid (wr.ownsRow B3 3 1 (.slice a4 OO.length c4) OO.length (ints OO)) ∧ Hid (Kp Wq wr non)) (fun _ _ vi _ => n - (intOf vi).toNat)
    case atStart => exact ⟨0, Nat.zero_le _, rfl, none, 0, none, 0, [], [], rfl, rfl, ⟨rfl, rfl⟩, World.ownsRow_nil _ _ _ _, World.ownsRow_nil _ _ _ _, Kp.refl _ _⟩
    case round =>
      obtain ⟨i, hi, rfl, a3, c3, a4, c4, RR, OO, rfl, rfl, KK, O3, O4, KW⟩ := hrel
      obtain ⟨c7, c10, c11, ro, oo⟩ := HC.out wr KW.out
      have rrl : RR.length ≤ 100000 := by rw [KK.out.1]; have := keepP_len (RD.take i) (OF.take i) (p : Int); rw [List.length_take] at this; omega
      have ool : OO.length ≤ 100000 := by rw [KK.out.2]; have := keepO_len (OF.take i) (p : Int); rw [List.length_take] at this; omega
      by_cases hin : i < n
      case pos =>
        have hii : (i : Int) < (n : Int) := by omega
        have hiO : i < OF.length := by rw [← HN.out.1]; exact hin
        have hiR : i < RD.length := by rw [← HN.out.2]; exact hin
        obtain ⟨og, oc', hog⟩ := own_g oo (by omega)
        injection hog with hog _ hocc
        subst hog
        subst hocc
        obtain ⟨rg, rgc, hrg⟩ := own_g ro (by omega)
        injection hrg with hrg _ hrcc
        subst hrg
        subst hrcc
        have cu := oo.cellAt i (by omega)
        rw [ints_at2 OF i hiO] at cu
        obtain ⟨y, hy⟩ : ∃ y, y = OF[i] := ⟨_, rfl⟩
        obtain ⟨pr, hpr⟩ : ∃ pr, pr = RD[i] := ⟨_, rfl⟩
        rw [← hy] at cu
        have RGE : Hid (∀ X : World, Kp Wq X non → X.rangeAt rg (i * 2) (prV pr).toList ∧ X.cell? ⟨og, i, none⟩ = some (.int .i64 y) ∧ X.cell? ⟨Y, 11, none⟩ = some (.slice (some ⟨og, 0, none⟩) n ofc)) := fun X hk => by
          obtain ⟨_, _, e11, ro2, oo2⟩ := HC.out X hk
          refine ⟨fun j u hj => ?_, ?_, e11⟩
          · have hl : j < 2 := by
              have := (List.getElem?_eq_some_iff.1 hj).1
              simpa [prV] using this
            have e9 := prs_at RD i hiR j hl
            rw [← hpr] at e9
            have hj2 : (prV pr)[j]? = some u := by rw [← hj]; simp
            rw [hj2] at e9
            obtain ⟨g', c', e1, hc, _⟩ := own_at ro2 e9
            injection e1 with e1
            injection e1 with e1
            injection e1 with e1
            rw [e1]
            exact hc
          · have z := oo2.cellAt i (by omega)
            rw [ints_at2 OF i hiO, ← hy] at z
            exact z
        have KT : Hid (keepP (RD.take (i + 1)) (OF.take (i + 1)) (p : Int) = RR ++ (if y = (p : Int) then [] else [pr]) ∧ keepO (OF.take (i + 1)) (p : Int) = OO ++ (if y = (p : Int) then [] else [y])) := by
          have z1 := keepP_take RD OF i (p : Int) hiR hiO
          have z2 := keepO_take OF i (p : Int) hiO
          rw [← KK.out.1, ← hy, ← hpr] at z1
          rw [← KK.out.2, ← hy] at z2
          exact ⟨z1, z2⟩
        have HI := hide (And.intro hi (And.intro rrl ool))
        have hnb : n ≤ 100000 := nb
        clear ro oo hy hpr hi rrl ool KK hiO hiR
        by_cases hyp : y = (p : Int)
        · have hze : (y != (p : Int)) = false := by simp [hyp]
          have KK2 : Hid (RR = keepP (RD.take (i + 1)) (OF.take (i + 1)) (p : Int) ∧ OO = keepO (OF.take (i + 1)) (p : Int)) := by
            obtain ⟨z1, z2⟩ := KT.out
            rw [if_pos hyp, List.append_nil] at z1 z2
            exact ⟨z1.symm, z2.symm⟩
          clear KT
          go_wp2_with fail
          go_quiet (fail)
          go_wp2_with fail
          have kq := (Kp.refl wr non).drewN nq
          go_roundw
          case rel => exact ⟨i + 1, by omega, by go_num, a3, c3, a4, c4, RR, OO, rfl, rfl, KK2.out, own_kp O3.out kq (fun _ _ f => f), own_kp O4.out kq (fun _ _ f => f), KW.out.trans kq (fun _ f => f.elim)⟩
          case measure => simp [intOf]; omega
        · have hze : (y != (p : Int)) = true := by simp [hyp]
          have KK2 : Hid (RR ++ [pr] = keepP (RD.take (i + 1)) (OF.take (i + 1)) (p : Int) ∧ OO ++ [y] = keepO (OF.take (i + 1)) (p : Int)) := by
            obtain ⟨z1, z2⟩ := KT.out
            rw [if_neg hyp] at z1 z2
            exact ⟨z1.symm, z2.symm⟩
          clear KT hyp
          go_wp2_with fail
          go_quiet (fail)
          have kq := (Kp.refl wr non).drewN nq
          obtain ⟨wq, hwq⟩ : ∃ wq, wq = wr.drewN nq := ⟨_, rfl⟩
          rw [← hwq] at kq ⊢
          have Q3 := hide (own_kp O3.out kq (fun _ _ f => f))
          have Q4 := hide (own_kp O4.out kq (fun _ _ f => f))
          have KQ : Hid (Kp Wq wq non) := KW.out.trans kq (fun _ f => f.elim)
          clear hwq kq c7 c10 c11 cu hze
          obtain ⟨-, e10, -, -, -⟩ := HC.out wq KQ.out
          have RNG := hide (RGE.out wq KQ.out).1
          have PI := hide pr_info2
          obtain ⟨W4, hW4⟩ : ∃ W4, W4 = wq.alloc (.cells (prV pr) 89) := ⟨_, rfl⟩
          have k4 : Kp wq W4 non := by rw [hW4]; exact (Kp.refl wq non).alloc _
          have N4 : Hid (W4.ownsRow wq.heap.size 89 2 (.slice (some ⟨wq.heap.size, 0, none⟩) 1 1) 1 (prs [pr])) := by rw [hW4, prs_one]; exact own_one _ _ _ _ rfl
          have R3 := hide (own_kp Q3.out k4 (fun _ _ f => f))
          have R4 := hide (own_kp Q4.out k4 (fun _ _ f => f))
          have K4 : Hid (Kp Wq W4 non) := KQ.out.trans k4 (fun _ f => f.elim)
          have SZ4 : Hid (B3 ≤ W4.heap.size) := by rw [HB3.out]; exact K4.out.size
          have W4s : Hid (wq.heap.size ≤ W4.heap.size) := k4.size
          have HW4 := hide hW4
          clear k4 hW4 Q3 Q4 KQ
          go_upto_region 11 with (first | refine wpList_load_mid rfl 89 (.tmp 58) rfl rg (i * 2) rfl (prV pr).toList _ RNG.out Tryd.underlying89 rfl PI.out ?_ | (refine wpList_bsP rfl (.tmp 59) rfl pr rfl ?_; rw [← HW4.out]) | (at_builtin; refine wpList_apPR rfl (.tmp 52) (.tmp 60) rfl B3 _ RR.length RR rfl R3.out wq.heap.size _ 1 [pr] rfl N4.out (by have := HI.out.2.1; omega) SZ4.out ?_; intro v5 w5 o5 g5 n5; have O5 := hide o5; have KG := hide (Kp.of_grown g5); clear o5 g5 n5))
          obtain ⟨a5, c5, rfl⟩ := own_sl O5.out
          have K5 : Hid (Kp Wq w5 non) := K4.out.trans KG.out (fun k e => Or.inr (by have := own_ge R3.out e.symm; have := HB3.out; omega))
          have S4 : Hid (w5.ownsRow B3 3 1 (.slice a4 OO.length c4) OO.length (ints OO)) := own_kp R4.out KG.out (fun k e f => by
            obtain ⟨q1, h1⟩ := own_typ R4.out e
            obtain ⟨q2, h2⟩ := own_typ R3.out f.symm
            rw [h1] at h2
            simp at h2)
          obtain ⟨-, cu, e11⟩ := RGE.out w5 K5.out
          obtain ⟨W6, hW6⟩ : ∃ W6, W6 = w5.alloc (.cells #[.int .i64 y] 3) := ⟨_, rfl⟩
          have k6 : Kp w5 W6 non := by rw [hW6]; exact (Kp.refl w5 non).alloc _
          have N6 : Hid (W6.ownsRow w5.heap.size 3 1 (.slice (some ⟨w5.heap.size, 0, none⟩) 1 1) 1 (ints [y])) := by rw [hW6]; exact own_one w5 3 1 #[.int .i64 y] rfl
          have T3 := hide (own_kp O5.out k6 (fun _ _ f => f))
          have T4 := hide (own_kp S4.out k6 (fun _ _ f => f))
          have K6 : Hid (Kp Wq W6 non) := K5.out.trans k6 (fun _ f => f.elim)
          have SZ6 : Hid (B3 ≤ W6.heap.size) := by rw [HB3.out]; exact K6.out.size
          have HW6 := hide hW6
          clear k6 hW6 e10 RNG PI R3 R4 K4 SZ4 W4s HW4 O5 KG S4 K5
          go_wp2_with (at_builtin; rw [← HW6.out]; refine wpList_apI3 rfl (.tmp 62) (.tmp 70) rfl B3 _ OO.length OO rfl T4.out w5.heap.size _ 1 [y] rfl N6.out (by have := HI.out.2.2; omega) SZ6.out ?_; intro v7 w7 o7 g7 n7; have O7 := hide o7; have KH := hide (Kp.of_grown g7); clear o7 g7 n7)
          obtain ⟨a7, c7, rfl⟩ := own_sl O7.out
          have K7 : Hid (Kp Wq w7 non) := K6.out.trans KH.out (fun k e => Or.inr (by have := own_ge T4.out e.symm; have := HB3.out; omega))
          have U3 : Hid (w7.ownsRow B3 89 2 (.slice a5 (RR.length + 1) c5) (RR.length + 1) (prs (RR ++ [pr]))) := own_kp T3.out KH.out (fun k e f => by
            obtain ⟨q1, h1⟩ := own_typ T3.out e
            obtain ⟨q2, h2⟩ := own_typ T4.out f.symm
            rw [h1] at h2
            simp at h2)
          have hl1 : (RR ++ [pr]).length = RR.length + 1 := by simp
          have hl2 : (OO ++ [y]).length = OO.length + 1 := by simp
          go_roundw
          case rel => exact ⟨i + 1, by omega, by go_num, a5, c5, a7, c7, RR ++ [pr], OO ++ [y], by rw [hl1], by rw [hl2], KK2.out, by rw [hl1]; exact U3.out, by rw [hl2]; exact O7.out, K7.out⟩
          case measure => simp [intOf]; omega
      case neg =>
        obtain rfl : n = i := by omega
        have hii : ¬ (n : Int) < (n : Int) := by omega
        have t1 : RD.take n = RD := by rw [HN.out.2, List.take_length]
        have t2 : OF.take n = OF := by rw [HN.out.1, List.take_length]
        have KE : Hid (RR = keepP r.rd r.of_ (r.part : Int) ∧ OO = keepO r.of_ (r.part : Int)) := by
          obtain ⟨z1, z2⟩ := KK.out
          rw [t1, t2, HRO.out.1, HRO.out.2, HP.out.2.1] at z1
          rw [t2, HRO.out.2, HP.out.2.1] at z2
          exact ⟨z1, z2⟩
        obtain ⟨W5, hW5⟩ : ∃ W5, W5 = (wr.setCell ⟨Y, 10, none⟩ (.slice a3 RR.length c3)).setCell ⟨Y, 11, none⟩ (.slice a4 OO.length c4) := ⟨_, rfl⟩
        have L5 := hide (LQ.out.trans (cut_lr LQ.out.at_ HO.out HB3.out KW.out O3.out O4.out hW5))
        obtain ⟨W4, hW4⟩ : ∃ W4, W4 = wr.setCell ⟨Y, 10, none⟩ (.slice a3 RR.length c3) := ⟨_, rfl⟩
        have x4 := (LQ.out.at_.kp0 KW.out).blk
        have f10 := fz_row x4 10
        have b4 : W4.heap[Y]? = some (.cells ((rxA (lftR r) Z).setIfInBounds 10 (.slice a3 RR.length c3)) 76) := by rw [hW4]; exact set_row x4 10 _
        have f11 := fz_row b4 11
        have d11 : W4.cell? ⟨Y, 11, none⟩ = some (.slice ofa n ofc) := by
          rw [hW4, World.cell?_setCell_other _ _ _ _ (by intro h; simp only [Addr.mk.injEq] at h; omega)]
          exact c11
        rw [← hW4] at hW5
        have HW4 := hide hW4
        have HW5 := hide hW5
        clear x4 b4 hW4 hW5 c7 ro oo rrl ool KK t1 t2
        go_upto_region 12 with fail
        clear c11
        go_upto_region 13 with fail
        rw [← HW4.out]
        clear c10 f10 HW4
        go_upto_region 14 with fail
        rw [← HW5.out]
        clear d11 f11 HW5
        have X5 := L5.out.at_
        rw [KE.out.1, KE.out.2] at X5
        obtain ⟨la, lc, hlo0⟩ := own_sl LQ.out.at_.ow.lo
        obtain ⟨ln, hln⟩ : ∃ ln, ln = r.lost.length := ⟨_, rfl⟩
        have hlo : Z.lo = .slice la ln lc := by rw [hln]; exact hlo0
        clear hlo0
        have HLO := hide hlo
        have LB : Hid (ln ≤ 1000) := by rw [hln]; exact HLE.out.2
        obtain ⟨GB, hGB⟩ : ∃ GB, GB = W5.heap.size := ⟨_, rfl⟩
        obtain ⟨W6, hW6⟩ : ∃ W6, W6 = (W5.alloc (.cells #[.int .i64 (p : Int)] 3)).drew := ⟨_, rfl⟩
        have k6 : Kp W5 W6 non := by rw [hW6]; exact ((Kp.refl W5 non).alloc _).drew
        have N6 : Hid (W6.ownsRow GB 3 1 (.slice (some ⟨GB, 0, none⟩) 1 1) 1 [.int .i64 (p : Int)]) := by rw [hW6, hGB]; exact own_one W5 3 1 #[.int .i64 (p : Int)] rfl
        have L6 := hide (L5.out.trans (Lr.same L5.out.at_ k6))
        have T6 : Hid (W6.ownsRow 0 3 1 (.slice la ln lc) ln (ints r.lost)) := by
          have z := L6.out.at_.ow.lo
          rw [show (Z.cut (Value.slice a3 RR.length c3) (.slice a4 OO.length c4)).lo = Z.lo from rfl, hlo] at z
          rw [hln]
          exact hln ▸ z
        have C12 : Hid (W5.cell? ⟨Y, 12, none⟩ = some (.slice la ln lc) ∧ W6.cell? ⟨Y, 12, none⟩ = some (.slice la ln lc)) := by
          rw [← hlo]
          exact ⟨(rx_cells L5.out.at_.blk).2.2.2.2.2.2.2.2.2.2.2.2, (rx_cells L6.out.at_.blk).2.2.2.2.2.2.2.2.2.2.2.2⟩
        have C7 : Hid (W5.cell? ⟨Y, 7, none⟩ = some (.int .i64 (p : Int))) := by rw [HP.out.2.1]; exact (rx_cells L5.out.at_.blk).2.2.2.2.2.2.2.1
        have C76 : Hid (W6.cell? ⟨Y, 7, none⟩ = some (.int .i64 (p : Int))) := k6.cell0 C7.out
        have FIN : Hid (∀ (v' : Value) (w' : World), w'.ownsRow 0 3 1 v' (ln + 1) (ints r.lost ++ [.int .i64 (p : Int)]) → W6.grownBy w' (Value.slice la ln lc).ownBlock → (v'.ownBlock = (Value.slice la ln lc).ownBlock ∨ v'.ownBlock = some W6.heap.size) → w'.heap[Y]? = some (.cells (rxA (cutR (lftR r) RR OO) (Z.cut (.slice a3 RR.length c3) (.slice a4 OO.length c4))) 76) ∧ Lr w (w'.setCell ⟨Y, 12, none⟩ v') Y Z (lostR r) { Z.cut (.slice a3 RR.length c3) (.slice a4 OO.length c4) with lo := v' }) := fun v' w' o3 g3 n3 => by
          rw [← hlo] at g3 n3
          have e : ints r.lost ++ [.int .i64 (p : Int)] = ints (r.lost ++ [(r.part : Int)]) := by rw [ints_append, HP.out.2.1]; rfl
          rw [e, hln] at o3
          obtain ⟨b, l⟩ := loss_lr L6.out.at_ HO.out v' o3 g3 n3
          refine ⟨b, ?_⟩
          have z := L6.out.trans l
          have ee : lossR (cutR (lftR r) RR OO) = lostR r := by rw [KE.out.1, KE.out.2]; exact rfl
          rw [ee] at z
          exact z
        have HW6 : Hid (W6 = (W5.alloc (.cells #[.int .i64 (p : Int)] 3)).drew) := hW6
        have HGB := hide hGB
        clear X5 hlo hln k6 hW6 L6 L5
        refine wp_region_held_drew (S := fun X : World => X.cell? ⟨Y, 7, none⟩ = some (.int .i64 (p : Int))) (by kernel_rfl) C7.out (fun hHeld => ?_)
        refine wTk (i := 0) (v := (.pointer (some ⟨Y, 0, none⟩))) rfl ?_ ?_
        · intro w' hSw
          (try dsimp only at hSw)
          go_simp
        (try simp only [Act.put, List.getElem_toArray, List.getElem_cons_zero, List.getElem_cons_succ, List.setIfInBounds_toArray, List.set_cons_zero, List.set_cons_succ])
        refine wTk (i := 1) (v := (.pointer (some ⟨Y, 0, none⟩))) rfl ?_ ?_
        · intro w' hSw
          (try dsimp only at hSw)
          go_simp
        (try simp only [Act.put, List.getElem_toArray, List.getElem_cons_zero, List.getElem_cons_succ, List.setIfInBounds_toArray, List.set_cons_zero, List.set_cons_succ])
        refine wTk (i := 2) (v := (.pointer (some ⟨Y, 0, none⟩))) rfl ?_ ?_
        · intro w' hSw
          (try dsimp only at hSw)
          go_simp
        (try simp only [Act.put, List.getElem_toArray, List.getElem_cons_zero, List.getElem_cons_succ, List.setIfInBounds_toArray, List.set_cons_zero, List.set_cons_succ])
        refine wTk (i := 3) (v := (.pointer (some ⟨Y, 12, none⟩))) rfl ?_ ?_
        · intro w' hSw
          (try dsimp only at hSw)
          go_simp
        (try simp only [Act.put, List.getElem_toArray, List.getElem_cons_zero, List.getElem_cons_succ, List.setIfInBounds_toArray, List.set_cons_zero, List.set_cons_succ])
        refine wTk (i := 5) (v := (.pointer (some ⟨Y, 0, none⟩))) rfl ?_ ?_
        · intro w' hSw
          (try dsimp only at hSw)
          go_simp
        (try simp only [Act.put, List.getElem_toArray, List.getElem_cons_zero, List.getElem_cons_succ, List.setIfInBounds_toArray, List.set_cons_zero, List.set_cons_succ])
        refine wTk (i := 6) (v := (.pointer (some ⟨Y, 0, none⟩))) rfl ?_ ?_
        · intro w' hSw
          (try dsimp only at hSw)
          go_simp
        (try simp only [Act.put, List.getElem_toArray, List.getElem_cons_zero, List.getElem_cons_succ, List.setIfInBounds_toArray, List.set_cons_zero, List.set_cons_succ])
        refine wTk (i := 7) (v := (.pointer (some ⟨Y, 7, none⟩))) rfl ?_ ?_
        · intro w' hSw
          (try dsimp only at hSw)
          go_simp
        (try simp only [Act.put, List.getElem_toArray, List.getElem_cons_zero, List.getElem_cons_succ, List.setIfInBounds_toArray, List.set_cons_zero, List.set_cons_succ])
        refine wTk (i := 8) (v := (.int .i64 (p : Int))) rfl ?_ ?_
        · intro w' hSw
          (try dsimp only at hSw)
          (have z := hSw; go_simp)
        (try simp only [Act.put, List.getElem_toArray, List.getElem_cons_zero, List.getElem_cons_succ, List.setIfInBounds_toArray, List.set_cons_zero, List.set_cons_succ])
        refine wpAnyH_ready (rs := [4, 9]) (by kernel_rfl) (by simp) ?_
        refine AllReadyH.cons rfl (fun K hK => ?_) (AllReadyH.cons rfl (fun K hK => ?_) AllReadyH.nil)
        · skip
          have cA : W5.drew.cell? ⟨Y, 12, none⟩ = some (.slice la ln lc) := C12.out.1
          have cA2 : W5.cell? ⟨Y, 12, none⟩ = some (.slice la ln lc) := C12.out.1
          go_simp
          clear cA cA2
          refine hK.out _ _ (C7.out) (fun hHeld => ?_)
          clear hK
          (try simp only [Act.put, List.setIfInBounds_toArray, List.set_cons_zero, List.set_cons_succ])
          refine wpAnyH_ready (rs := [9]) (by kernel_rfl) (by simp) ?_
          refine AllReadyH.cons rfl (fun K hK => ?_) AllReadyH.nil
          go_simp
          rw [← HW6.out, ← HGB.out]
          refine hK.out _ _ (C76.out) (fun hHeld => ?_)
          clear hK
          (try simp only [Act.put, List.setIfInBounds_toArray, List.set_cons_zero, List.set_cons_succ])
          clear HW6
          refine wpAnyH_ready (rs := [10]) (by kernel_rfl) (by simp) ?_
          refine AllReadyH.cons rfl (fun K hK => ?_) AllReadyH.nil
          refine wp_apRow (.tmp 84) (.tmp 89) 48 rfl 0 3 Tryd.underlying48 int_infos rfl (by decide) (.slice la ln lc) ln (ints r.lost) rfl T6.out GB (.slice (some ⟨GB, 0, none⟩) 1 1) 1 [.int .i64 (p : Int)] (by first | rfl | (rw [HGB.out]; rfl)) N6.out (by simp [Value.oneCell']) (by unfold maxLen; have := LB.out; omega) (by have := LB.out; omega) (Nat.zero_le _) ?_
          intro v' w' o3 g3 n3
          obtain ⟨na, nc, rfl⟩ := own_sl o3
          obtain ⟨b7, L7⟩ := FIN.out _ w' o3 g3 n3
          have f12 := fz_row b7 12
          have c12 : w'.cell? ⟨Y, 12, none⟩ = some (.slice la ln lc) := by rw [← HLO.out]; exact (rx_cells b7).2.2.2.2.2.2.2.2.2.2.2.2
          have D7 : Hid (w'.cell? ⟨Y, 7, none⟩ = some (.int .i64 (p : Int))) := by rw [HP.out.2.1]; exact (rx_cells b7).2.2.2.2.2.2.2.1
          have L7 := hide L7
          obtain ⟨W8, hW8⟩ : ∃ W8, W8 = w'.setCell ⟨Y, 12, none⟩ (.slice na (ln + 1) nc) := ⟨_, rfl⟩
          rw [← hW8] at L7
          have D8 : Hid (W8.cell? ⟨Y, 7, none⟩ = some (.int .i64 (p : Int))) := by rw [HP.out.2.1]; exact (rx_cells L7.out.at_.blk).2.2.2.2.2.2.2.1
          clear o3 g3 n3 b7 T6 N6 FIN C12 C76
          refine hK.out _ _ (D7.out) (fun hHeld => ?_)
          clear hK
          (try simp only [Act.put, List.setIfInBounds_toArray, List.set_cons_zero, List.set_cons_succ])
          refine wTk (i := 11) (v := (.pointer (some ⟨Y, 0, none⟩))) rfl ?_ ?_
          · intro w' hSw
            (try dsimp only at hSw)
            go_simp
          (try simp only [Act.put, List.getElem_toArray, List.getElem_cons_zero, List.getElem_cons_succ, List.setIfInBounds_toArray, List.set_cons_zero, List.set_cons_succ])
          refine wTk (i := 12) (v := (.pointer (some ⟨Y, 12, none⟩))) rfl ?_ ?_
          · intro w' hSw
            (try dsimp only at hSw)
            go_simp
          (try simp only [Act.put, List.getElem_toArray, List.getElem_cons_zero, List.getElem_cons_succ, List.setIfInBounds_toArray, List.set_cons_zero, List.set_cons_succ])
          refine wpAnyH_ready (rs := [13]) (by kernel_rfl) (by simp) ?_
          refine AllReadyH.cons rfl (fun K hK => ?_) AllReadyH.nil
          go_simp
          rw [← hW8]
          clear hW8 c12 f12 D7
          refine hK.out _ _ (D8.out) (fun hHeld => ?_)
          clear hK
          (try simp only [Act.put, List.setIfInBounds_toArray, List.set_cons_zero, List.set_cons_succ])
          refine wpAnyH_done (by kernel_rfl) ?_ _
          clear hHeld D8
          have okl : Rok (lostR r) := ⟨OK.out.rl, OK.out.rw_, by show (keepO r.of_ _).length ≤ _; have := keepO_len r.of_ (r.part : Int); have := OK.out.ob; omega⟩
          have L9 : Hid (Lr w W8 Y Z (lostR r) _) := L7.out
          have GO := hide (goOn_r L9.out.at_ okl HP.out.1 HO.out)
          clear okl
          go_wp2_with fail
          refine Calls.mono GO.out ?_
          rintro e W9 ⟨u, Z9, rfl, o9, l9⟩
          have O9 := hide o9
          have LF := hide (L9.out.trans l9)
          clear o9 l9 GO
          go_wp2_with fail
          go_ret
          first | refine ⟨_, Z9, rfl, ?_, ?_⟩ | refine ⟨_, rfl, ?_, Z9, ?_⟩
          · rw [GX.out.2]
            exact own_base O9.out L9.out.kp.size
          · rw [GX.out.1]
            exact LF.out
        · skip
          go_simp
          rw [← HW6.out, ← HGB.out]
          refine hK.out _ _ (C76.out) (fun hHeld => ?_)
          clear hK
          (try simp only [Act.put, List.setIfInBounds_toArray, List.set_cons_zero, List.set_cons_succ])
          have cA : W6.cell? ⟨Y, 12, none⟩ = some (.slice la ln lc) := C12.out.2
          refine wpAnyH_ready (rs := [4]) (by kernel_rfl) (by simp) ?_
          refine AllReadyH.cons rfl (fun K hK => ?_) AllReadyH.nil
          go_simp
          clear cA
          refine hK.out _ _ (C76.out) (fun hHeld => ?_)
          clear hK
          (try simp only [Act.put, List.setIfInBounds_toArray, List.set_cons_zero, List.set_cons_succ])
          clear HW6
          refine wpAnyH_ready (rs := [10]) (by kernel_rfl) (by simp) ?_
          refine AllReadyH.cons rfl (fun K hK => ?_) AllReadyH.nil
          refine wp_apRow (.tmp 84) (.tmp 89) 48 rfl 0 3 Tryd.underlying48 int_infos rfl (by decide) (.slice la ln lc) ln (ints r.lost) rfl T6.out GB (.slice (some ⟨GB, 0, none⟩) 1 1) 1 [.int .i64 (p : Int)] (by first | rfl | (rw [HGB.out]; rfl)) N6.out (by simp [Value.oneCell']) (by unfold maxLen; have := LB.out; omega) (by have := LB.out; omega) (Nat.zero_le _) ?_
          intro v' w' o3 g3 n3
          obtain ⟨na, nc, rfl⟩ := own_sl o3
          obtain ⟨b7, L7⟩ := FIN.out _ w' o3 g3 n3
          have f12 := fz_row b7 12
          have c12 : w'.cell? ⟨Y, 12, none⟩ = some (.slice la ln lc) := by rw [← HLO.out]; exact (rx_cells b7).2.2.2.2.2.2.2.2.2.2.2.2
          have D7 : Hid (w'.cell? ⟨Y, 7, none⟩ = some (.int .i64 (p : Int))) := by rw [HP.out.2.1]; exact (rx_cells b7).2.2.2.2.2.2.2.1
          have L7 := hide L7
          obtain ⟨W8, hW8⟩ : ∃ W8, W8 = w'.setCell ⟨Y, 12, none⟩ (.slice na (ln + 1) nc) := ⟨_, rfl⟩
          rw [← hW8] at L7
          have D8 : Hid (W8.cell? ⟨Y, 7, none⟩ = some (.int .i64 (p : Int))) := by rw [HP.out.2.1]; exact (rx_cells L7.out.at_.blk).2.2.2.2.2.2.2.1
          clear o3 g3 n3 b7 T6 N6 FIN C12 C76
          refine hK.out _ _ (D7.out) (fun hHeld => ?_)
          clear hK
          (try simp only [Act.put, List.setIfInBounds_toArray, List.set_cons_zero, List.set_cons_succ])
          refine wTk (i := 11) (v := (.pointer (some ⟨Y, 0, none⟩))) rfl ?_ ?_
          · intro w' hSw
            (try dsimp only at hSw)
            go_simp
          (try simp only [Act.put, List.getElem_toArray, List.getElem_cons_zero, List.getElem_cons_succ, List.setIfInBounds_toArray, List.set_cons_zero, List.set_cons_succ])
          refine wTk (i := 12) (v := (.pointer (some ⟨Y, 12, none⟩))) rfl ?_ ?_
          · intro w' hSw
            (try dsimp only at hSw)
            go_simp
          (try simp only [Act.put, List.getElem_toArray, List.getElem_cons_zero, List.getElem_cons_succ, List.setIfInBounds_toArray, List.set_cons_zero, List.set_cons_succ])
          refine wpAnyH_ready (rs := [13]) (by kernel_rfl) (by simp) ?_
          refine AllReadyH.cons rfl (fun K hK => ?_) AllReadyH.nil
          go_simp
          rw [← hW8]
          clear hW8 c12 f12 D7
          refine hK.out _ _ (D8.out) (fun hHeld => ?_)
          clear hK
          (try simp only [Act.put, List.setIfInBounds_toArray, List.set_cons_zero, List.set_cons_succ])
          refine wpAnyH_done (by kernel_rfl) ?_ _
          clear hHeld D8
          have okl : Rok (lostR r) := ⟨OK.out.rl, OK.out.rw_, by show (keepO r.of_ _).length ≤ _; have := keepO_len r.of_ (r.part : Int); have := OK.out.ob; omega⟩
          have L9 : Hid (Lr w W8 Y Z (lostR r) _) := L7.out
          have GO := hide (goOn_r L9.out.at_ okl HP.out.1 HO.out)
          clear okl
          go_wp2_with fail
          refine Calls.mono GO.out ?_
          rintro e W9 ⟨u, Z9, rfl, o9, l9⟩
          have O9 := hide o9
          have LF := hide (L9.out.trans l9)
          clear o9 l9 GO
          go_wp2_with fail
          go_ret
          first | refine ⟨_, Z9, rfl, ?_, ?_⟩ | refine ⟨_, rfl, ?_, Z9, ?_⟩
          · rw [GX.out.2]
            exact own_base O9.out L9.out.kp.size
          · rw [GX.out.1]
            exact LF.out
end Go.Proofs.YtpoegknmkbnjlaaDoor.Cn
namespace Go.Proofs.YtpoegknmkbnjlaaDoor.Cn
open Go.RowKit
/-- what a job of the document's that goes on keeps -/
structure Rjb (r : Rx) : Prop where
  pt : r.part < r.rows.length
  lf : r.left < (rowR r).length
  le : r.rd.length = r.of_.length
  ll : r.lost.length ≤ 1000
set_option maxHeartbeats 16000000 in
set_option maxRecDepth 100000 in
set_option linter.unusedSimpArgs false in
set_option linter.unusedVariables false in
theorem busy_r {w : World} {Y : Nat} {r : Rx} {Z : Zr} (h : w.heap[Y]? = some (.cells (rxA r Z) 76)) :
    Calls Tryd.prog 17 #[.pointer (some ⟨Y, 0, none⟩)] w fun e w' => e = .returned (.bool r.on) ∧ w = w' := by
  have c5 : w.cell? ⟨Y, 5, none⟩ = some (.bool r.on) := (rx_cells h).2.2.2.2.2.1
  obtain ⟨b, hb⟩ : ∃ b, b = r.on := ⟨_, rfl⟩
  rw [← hb] at c5 ⊢
  clear h hb
  go_enter Tryd.func17, Tryd.ntmps17
  go_wp2_with fail
  go_ret
  exact ⟨rfl, rfl⟩
set_option maxHeartbeats 16000000 in
set_option maxRecDepth 100000 in
set_option linter.unusedSimpArgs false in
set_option linter.unusedVariables false in
theorem tick_r {w : World} {Y : Nat} {r : Rx} {Z : Zr} (h : RxAt w Y r Z) (ok : Rok r) (hn : 0 ≤ r.now ∧ r.now ≤ 1000000000000) (hw : 1 ≤ r.wt ∧ r.wt ≤ 1000000000) (hj : r.on = true → Rjb r) :
    Calls Tryd.prog 33 #[.pointer (some ⟨Y, 0, none⟩)] w fun e w' => ∃ u Z', e = .returned (.tuple #[u, .int .i64 0]) ∧ Out w w' u (tickRL r) ∧ Lr w w' Y Z (tickR r) Z' := by
  obtain ⟨nw, hnw⟩ : ∃ nw, nw = r.now := ⟨_, rfl⟩
  obtain ⟨wt, hwt⟩ : ∃ wt, wt = r.wt := ⟨_, rfl⟩
  obtain ⟨se, hse⟩ : ∃ se, se = r.sent := ⟨_, rfl⟩
  obtain ⟨W1, hW1⟩ : ∃ W1, W1 = w.setCell ⟨Y, 2, none⟩ (.int .i64 (nw + 1)) := ⟨_, rfl⟩
  have l1 : Lr w W1 Y Z (nowR r) Z := Lr.set h 2 _ hW1 (by rw [hnw]; rfl) rfl rfl rfl rfl rfl (fun q => q)
  have L1 := hide l1
  obtain ⟨-, -, c2, -⟩ := rx_cells h.blk
  rw [← hnw] at c2
  have f2 := fz_row h.blk 2
  rw [← hnw] at hn
  rw [← hwt] at hw
  have ew := wrap_in (x := nw + 1) (by omega) (by omega)
  have OK : Hid (Rok (nowR r)) := ⟨ok.rl, ok.rw_, ok.ob⟩
  have HJ := hide hj
  have HW1 := hide hW1
  obtain ⟨sv, hsv⟩ : ∃ sv, sv = nw + 1 - wt := ⟨_, rfl⟩
  have es : wrap64 (nw + 1 - wt) = sv := by rw [hsv]; exact wrap_in (by omega) (by omega)
  have DU : Hid (dueR (nowR r) = (r.on && (se == sv))) := by rw [hse, hsv, hnw, hwt]; exact rfl
  have ES := hide es
  obtain ⟨d0, d1, d2, -, -, d5, -, -, -, d9, -⟩ := rx_cells l1.at_.blk
  rw [show (nowR r).wt = wt from hwt.symm] at d1
  rw [show (nowR r).now = nw + 1 by rw [hnw]; rfl] at d2
  rw [show (nowR r).sent = se from hse.symm] at d9
  have DD := hide (And.intro d1 (And.intro d2 (And.intro d5 d9)))
  clear h l1 hW1 ok hj hnw hwt hse hsv es d0 d1 d2 d5 d9 hn hw
  go_enter Tryd.func33, Tryd.ntmps33
  go_upto_region 4 with fail
  rw [← HW1.out]
  clear c2 f2 HW1 ew
  obtain ⟨d1, d2, d5, d9⟩ := DD.out
  have NO : ∀ n : Nat, dueR (nowR r) = false → (∃ u Z', (Ending.returned (.tuple #[Value.slice none 0 0, .int .i64 0]) : Ending) = .returned (.tuple #[u, .int .i64 0]) ∧ Out w (W1.drewN n) u (tickRL r) ∧ Lr w (W1.drewN n) Y Z (tickR r) Z') := fun n q => by
    have e1 : tickR r = nowR r := by unfold tickR; rw [q]; rfl
    have e2 : tickRL r = [] := by unfold tickRL; rw [q]; rfl
    refine ⟨_, Z, rfl, ?_, ?_⟩
    · rw [e2]; exact World.ownsRow_nil _ _ _ _
    · rw [e1]; exact L1.out.trans (Lr.same L1.out.at_ ((Kp.refl W1 non).drewN n))
  have NO := hide NO
  cases hon : r.on with
  | false =>
    rw [show (nowR r).on = false from hon] at d5
    rw [hon] at DU
    clear hon d1 d2 d9
    go_quiet (fail)
    clear d5
    go_wp2_with fail
    go_ret2
    obtain ⟨u, Z', e, a, b⟩ := NO.out nq DU.out
    first | exact ⟨u, Z', e, a, b⟩ | exact ⟨u, e, a, Z', b⟩
  | true =>
    rw [show (nowR r).on = true from hon] at d5
    rw [hon, Bool.true_and] at DU
    have es := ES.out
    cases hd : (se == sv) with
    | false =>
      rw [hd] at DU
      clear hon
      go_quiet (fail)
      clear d1 d2 d5 d9 es hd
      go_wp2_with fail
      go_ret2
      obtain ⟨u, Z', e, a, b⟩ := NO.out nq DU.out
      first | exact ⟨u, Z', e, a, b⟩ | exact ⟨u, e, a, Z', b⟩
    | true =>
      rw [hd] at DU
      have jb := HJ.out hon
      have GX : Hid (tickR r = leaveR (nowR r) ∧ tickRL r = leaveRL (nowR r)) := by unfold tickR tickRL; rw [DU.out]; exact ⟨rfl, rfl⟩
      have LV := hide fun n : Nat => leave_r (L1.out.at_.kp0 ((Kp.refl W1 non).drewN n)) OK.out jb.pt hon jb.lf jb.le jb.ll
      clear hon jb
      go_quiet (fail)
      clear d1 d2 d5 d9 es hd
      go_wp2_with fail
      refine Calls.mono (LV.out _) ?_
      rintro e W3 ⟨u, Z3, rfl, o3, l3⟩
      have O3 := hide o3
      have L3 := hide (L1.out.trans ((Lr.same L1.out.at_ ((Kp.refl W1 non).drewN nq)).trans l3))
      have SZ : Hid (w.heap.size ≤ (W1.drewN nq).heap.size) := L1.out.kp.size
      clear o3 l3 LV
      go_wp2_with fail
      go_ret2
      first | refine ⟨_, Z3, rfl, ?_, ?_⟩ | refine ⟨_, rfl, ?_, Z3, ?_⟩
      · rw [GX.out.2]
        exact own_base O3.out SZ.out
      · rw [GX.out.1]
        exact L3.out
end Go.Proofs.YtpoegknmkbnjlaaDoor.Cn
