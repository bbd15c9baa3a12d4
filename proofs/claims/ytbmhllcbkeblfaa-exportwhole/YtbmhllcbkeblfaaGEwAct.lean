import Derived.Test.YtbmhllcbkeblfaaEwAct0
import Derived.Test.YtbmhllcbkeblfaaEwActn
import Derived.Test.YtbmhllcbkeblfaaEwAct4
import Derived.Test.YtbmhllcbkeblfaaEwAct5
import Derived.Test.YtbmhllcbkeblfaaGEpNo
import Derived.Laws.StructEq
import Derived.WalkMore
import Derived.Test.YtbmhllcbkeblfaaGEpApp
namespace Go.Proofs.Ytbmhllcbkeblfaa.Cn
open Go.RowKit
theorem act_t {N : Nat} {w : World} {T X : Nat} {v : Ex} {Z : Zz} {t : Tk} {ov mv : Value} (h : St N w w T X v Z t ov mv) {ao : Option Addr} {b o cap : Nat} {pv : Nat → Value} {tb : List (List Pr)} (tbl : TbAt N w ao b o pv tb) {ver : Int} {R n : Nat} (j : Tj tb ver R n v t.old t.ms) (st : ByteArray) (x : Nat → Int) (nv : Value) (a0 : ActP) (hq : t.q = askM v) (hlf : t.lf = (v.left : Int)) (hR : x 0 = (R : Int)) (hgw : x 17 = v.gw) (h0 : v.at_ = v.now) {K : Nat} (hK : v.gw + 1 ≤ (K : Int)) (hn : n ≤ 10000000000) (hol : t.old.length ≤ 1000000) (hsz : ∀ m, m ∈ t.old ∨ m = rightM tb (askM v) → m.key.size ≤ 281474976710656 ∧ m.val.size ≤ 281474976710656) :
    Calls Try.prog 19 #[.pointer (some ⟨T, 0, none⟩), .agg (clA st x nv), .slice ao tb.length cap, .agg (actA a0)] w fun e w' => e = .returned (.bool true) ∧ AcR N w w' T X t v tb ver R (n + K) := by
  by_cases h1 : a0.wt = 1
  · exact act_1 h tbl j st x nv a0 hq hlf hR hgw h0 hK hn hol hsz h1
  by_cases h2 : a0.wt = 2
  · exact act_2 h tbl j st x nv a0 hq hlf hR hgw h0 hK hn hol hsz h2
  by_cases h3 : a0.wt = 3
  · exact act_3 h tbl j st x nv a0 hq hlf hR hgw h0 hK hn hol hsz h3
  by_cases h4 : a0.wt = 4
  · by_cases ho : t.old = []
    · exact act_4n h tbl j st x nv a0 hq hlf hR hgw h0 hK hn hol hsz h4 ho
    · exact act_4 h tbl j st x nv a0 hq hlf hR hgw h0 hK hn hol hsz h4 ho
  by_cases h5 : a0.wt = 5
  · exact act_5 h tbl j st x nv a0 hq hlf hR hgw h0 hK hn hol hsz h5
  · exact act_0 h tbl j st x nv a0 hq hlf hR hgw h0 hK hn hol hsz ⟨h1, h2, h3, h4, h5⟩
end Go.Proofs.Ytbmhllcbkeblfaa.Cn
namespace Go.Proofs.Ytbmhllcbkeblfaa.Cn
open Go.RowKit
/-- the owner that is asked, when so many of each kind were seen -/
def pk (H A : List Int) (hl lf : Nat) : Int := (if lf < hl then H[lf]? else A[lf - hl]?).getD (-1)
theorem app1_get (H : List Int) (k : Int) (j : Nat) : (H ++ [k])[j]? = if H.length = j then some k else H[j]? := by
  by_cases e : H.length = j
  · subst e
    simp
  · rw [if_neg e]
    by_cases l : j < H.length
    · exact List.getElem?_append_left l
    · rw [List.getElem?_append_right (by omega), List.getElem?_eq_none (by simp; omega), List.getElem?_eq_none (by omega)]
theorem pk_h {H A : List Int} {hl lf : Nat} {k : Int} (h : H.length < hl) : pk (H ++ [k]) A hl lf = if H.length = lf then k else pk H A hl lf := by
  unfold pk
  rw [app1_get]
  by_cases e : H.length = lf
  · subst e
    rw [if_pos h, if_pos rfl, if_pos rfl]
    rfl
  · rw [if_neg e, if_neg e]
theorem pk_a {H A : List Int} {hl lf : Nat} {k : Int} : pk H (A ++ [k]) hl lf = if hl + A.length = lf then k else pk H A hl lf := by
  unfold pk
  rw [app1_get]
  by_cases e : hl + A.length = lf
  · rw [if_pos e, if_neg (by omega), if_pos (by omega)]
    rfl
  · rw [if_neg e]
    by_cases l : lf < hl
    · rw [if_pos l, if_pos l]
    · rw [if_neg l, if_neg l, if_neg (by omega)]
theorem pk_row (H A : List Int) (lf : Nat) : pk H A H.length lf = ((H ++ A)[lf]?).getD (-1) := by
  unfold pk
  by_cases l : lf < H.length
  · rw [if_pos l, List.getElem?_append_left l]
  · rw [if_neg l, List.getElem?_append_right (by omega)]
def filN (f : Int → Bool) (os : List Int) (i : Nat) : Nat := ((os.take i).filter f).length
theorem fil_le (f : Int → Bool) (os : List Int) (i : Nat) : ((os.take i).filter f).length ≤ (os.filter f).length :=
  ((List.take_sublist i os).filter f).length_le
theorem fil_lt {f : Int → Bool} {os : List Int} {i : Nat} (h : i < os.length) (hf : f os[i] = true) : ((os.take i).filter f).length < (os.filter f).length := by
  have e1 := filt_take (f := f) h
  rw [hf, if_pos rfl] at e1
  have := fil_le f os (i + 1)
  rw [e1, List.length_append, List.length_singleton] at this
  exact this
theorem eq_beqA (a b : ByteArray) : (a.toList == b.toList) = decide (a = b) := by
  rw [ByteArray.toList_eq, ByteArray.toList_eq, Bool.eq_iff_iff]
  simp
  constructor
  · intro h
    cases a; cases b; simp at h; rw [h]
  · intro h; rw [h]
theorem eqf_int {P : Program} {d : Nat} {xs ys : Array Value} {f : Field} {fs : List Field} {k : IntKind} {x y : Int} {w : World} (hn : f.name ≠ "_") (hx : (part f.type xs f.offset).run P w = .ok (.int .i64 x) w) (hy : (part f.type ys f.offset).run P w = .ok (.int .i64 y) w) (hu : P.underlying f.type = some (.int k)) :
    (Op.eqFields (d + 1) xs ys (f :: fs)).run P w = if x = y then (Op.eqFields (d + 1) xs ys fs).run P w else .ok false w := by
  simp only [Op.eqFields, if_pos hn, Sem.run_bind, hx, hy, Result.andThen_ok, run_equalIn_int w d f.type .i64 k x y hu]
  by_cases h : x = y
  · rw [if_pos h, if_neg (by simp [h])]
  · rw [if_neg h, if_pos (by simp [h])]; rfl
theorem eqf_str {P : Program} {d : Nat} {xs ys : Array Value} {f : Field} {fs : List Field} {x y : ByteArray} {w : World} (hn : f.name ≠ "_") (hx : (part f.type xs f.offset).run P w = .ok (.string x) w) (hy : (part f.type ys f.offset).run P w = .ok (.string y) w) (hu : P.underlying f.type = some .string) :
    (Op.eqFields (d + 1) xs ys (f :: fs)).run P w = if x = y then (Op.eqFields (d + 1) xs ys fs).run P w else .ok false w := by
  simp only [Op.eqFields, if_pos hn, Sem.run_bind, hx, hy, Result.andThen_ok, run_equalIn_string w d f.type x y hu, eq_beqA]
  by_cases h : x = y
  · rw [if_pos h, if_neg (by simp [h])]
  · rw [if_neg h, if_pos (by simp [h])]; rfl
set_option maxHeartbeats 16000000 in
set_option maxRecDepth 100000 in
theorem eqMgT (a : Mg) (w : World) : (binOp .eql 36 (.agg (mgV a)) (.agg (mgV a))).run Try.prog w = .ok (.bool true) w := by
  have hS : Try.prog.underlying 36 = some (.struct (Try.prog.fieldsOf 36)) := by kernel_rfl
  have hp : Try.prog.stoodInHeld 36 = false := by kernel_rfl
  have e : (Op.equalIn 10000 36 (.agg (mgV a)) (.agg (mgV a))).run Try.prog w = .ok true w := by
    rw [show (10000 : Nat) = 9999 + 1 from rfl, run_equalIn_agg w 9999 36 _ _ hS hp]
    simp only [Program.fieldsOf, Try.underlying36]
    rw [show (9999 : Nat) = 9998 + 1 from rfl]
    rw [eqf_int (k := .i64) (x := a.kind) (y := a.kind) (by decide) (by kernel_rfl) (by kernel_rfl) (by kernel_rfl), if_pos rfl]
    rw [eqf_int (k := .i64) (x := a.fr) (y := a.fr) (by decide) (by kernel_rfl) (by kernel_rfl) (by kernel_rfl), if_pos rfl]
    rw [eqf_int (k := .i64) (x := a.td) (y := a.td) (by decide) (by kernel_rfl) (by kernel_rfl) (by kernel_rfl), if_pos rfl]
    rw [eqf_int (k := .i64) (x := a.id) (y := a.id) (by decide) (by kernel_rfl) (by kernel_rfl) (by kernel_rfl), if_pos rfl]
    rw [eqf_int (k := .i64) (x := a.ep) (y := a.ep) (by decide) (by kernel_rfl) (by kernel_rfl) (by kernel_rfl), if_pos rfl]
    rw [eqf_int (k := .i64) (x := a.sq) (y := a.sq) (by decide) (by kernel_rfl) (by kernel_rfl) (by kernel_rfl), if_pos rfl]
    rw [eqf_int (k := .i64) (x := a.ver) (y := a.ver) (by decide) (by kernel_rfl) (by kernel_rfl) (by kernel_rfl), if_pos rfl]
    rw [eqf_int (k := .i64) (x := a.prev) (y := a.prev) (by decide) (by kernel_rfl) (by kernel_rfl) (by kernel_rfl), if_pos rfl]
    rw [eqf_int (k := .i64) (x := a.code) (y := a.code) (by decide) (by kernel_rfl) (by kernel_rfl) (by kernel_rfl), if_pos rfl]
    rw [eqf_str (x := a.key) (y := a.key) (by decide) (by kernel_rfl) (by kernel_rfl) (by kernel_rfl), if_pos rfl]
    rw [eqf_str (x := a.val) (y := a.val) (by decide) (by kernel_rfl) (by kernel_rfl) (by kernel_rfl), if_pos rfl]
    rfl
  rw [run_eql_struct, e]
  rfl
theorem wpList_eqMG {w : World} {ops : Array Oper} {rest : List Oper} {o : Oper} {a : Act} {Q : Exit → Act → World → Prop} (x y : Operand) (t2 : TypeId) (ho : o.op = .binOp .eql 36 x y t2) (hw : Region.wanted o (yielded ops a.tmps) = true) (m : Mg) (hx : a.eval x = .agg (mgV m)) (hy : a.eval y = .agg (mgV m))
    (h : wpList Try.prog ops Q rest (a.put o.dst (.bool true)) w) : wpList Try.prog ops Q (o :: rest) a w := by
  refine wpList_step fun K hK => ?_
  rw [if_pos hw]
  have hg : Try.prog.eqGuardType Try.prog.depth 36 = false := by kernel_rfl
  unfold Oper.wp execOp
  simp only [ho, Sem.run_bind, Sem.run_pure, Result.andThen_ok, hx, hy, eqMgT, run_eqGuard_agg w .eql 36 x y (mgV m) (mgV m) hg]
  exact hK _ _ h
theorem wpList_ldMA {w : World} {ops : Array Oper} {rest : List Oper} {o : Oper} {a : Act} {Q : Exit → Act → World → Prop} (x : Operand) (ho : o.op = .load 36 x) (hgd : o.guard = none) (m : Mg) (b : Nat) (hx : a.eval x = .pointer (some ⟨b, 0, none⟩)) (hO : MgAt w b m)
    (h : wpList Try.prog ops Q rest (a.put o.dst (.agg (mgV m))) w) : wpList Try.prog ops Q (o :: rest) a w := wpList_ldM hgd x ho m b hx hO h
def qM (td id p ver pr : Int) : Mg := ⟨15, 67, td, id, 0, p, ver, pr, 0, ⟨#[]⟩, ⟨#[]⟩⟩
set_option maxHeartbeats 16000000 in
set_option maxRecDepth 100000 in
set_option linter.unusedSimpArgs false in
set_option linter.unusedVariables false in
theorem asks_any (N : Nat) (w : World) (st : ByteArray) (x : Nat → Int) (ao : Option Addr) (b o cap : Nat) (pv : Nat → Value) (ns : List ND) (h : NsAt N w ao b o pv ns) (hN : N ≤ w.heap.size) (hs : st.size ≤ 9223372036854775807) (he : errP st x ns = 0) (p lf : Nat) (hp : p < ptN ns) (td id ver pr : Int) (htd : td = ((rowOf ns (x 20) (ownsP st x ns p))[lf]?).getD (-1)) (hlb : lf ≤ 1000) :
    Calls Try.prog 18 #[.agg (clA st x (.slice ao ns.length cap)), .agg (mgV (qM td id (p : Int) ver pr)), .int .i64 ver, .int .i64 (lf : Int)] w fun e w' => e = .returned (.bool true) ∧ Below w.heap.size w w' := by
  obtain ⟨W0, hW0, hX⟩ := boxed st x cap h hN
  obtain ⟨B, hB⟩ : ∃ B, B = w.heap.size := ⟨_, rfl⟩
  obtain ⟨W1, hW1⟩ : ∃ W1, W1 = W0.alloc (.cells (mgV (qM td id (p : Int) ver pr)) 36) := ⟨_, rfl⟩
  have z0 : W0.heap.size = B + 1 := by rw [hW0, hB]; simp
  have k1 : Below W0.heap.size W0 W1 := by rw [hW1]; exact (Below.refl _ W0).alloc (Nat.le_refl _) _
  have HX := hide ((hX.stand hN).below k1)
  have B0 := hide (hX.bel.trans (k1.mono hX.bel.size))
  have HM : Hid (MgAt W1 (B + 1) (qM td id (p : Int) ver pr)) := by rw [hW1, ← z0]; exact MgAt.new W0 _
  rw [← hB] at HX B0 ⊢
  obtain ⟨o1, o2, o3, o4, o5, o6⟩ := ownsP_ok he hp
  have OW := Owners_any N W1 st x ao b o cap pv ns (p : Int) HX.out.nd HX.out.le hs
  rw [o6] at OW
  have OWH : Hid (Calls Try.prog 25 #[.agg (clA st x (.slice ao ns.length cap)), .int .i64 (p : Int)] W1 fun e w' => ∃ v, e = .returned (.tuple #[v, .int .i64 0]) ∧ w'.ownsRow W1.heap.size 3 1 v (ownsP st x ns p).length (ints (ownsP st x ns p)) ∧ Below W1.heap.size W1 w') := by
    have hl : (ownsP st x ns p).length = (wkE st x ns (p : Int)).length := by unfold ownsP; rw [owL_len]
    rw [hl]
    exact OW
  obtain ⟨os, hos⟩ : ∃ os, os = ownsP st x ns p := ⟨_, rfl⟩
  rw [← hos] at o1 o2 OWH htd
  have OIN := hide o2
  have OL : Hid (os.length ≤ 16) := by show os.length ≤ 16; omega
  have OX := hide o1
  have NU := hide fun w n => num21 w n
  have TD : Hid (td = pk (os.filter (homeF ns (x 20))) (os.filter (fun k => !homeF ns (x 20) k)) (os.filter (homeF ns (x 20))).length lf) := by
    show _ = _
    rw [htd, pk_row]
    rfl
  have HE2 := hide hW0
  have HE3 := hide hW1
  have Z0 := hide z0
  have HB := hide hB
  obtain ⟨y0, y1, y2, y3, y4, y5, y6, y7, y8, y9, ya⟩ := HM.out.cells
  have y5' : W1.cell? ⟨B + 1, 5, none⟩ = some (.int .i64 (p : Int)) := y5
  clear h hX k1 o1 o2 o3 o4 o5 o6 OW hos htd hW0 hW1 z0 hB y0 y1 y2 y3 y4 y5 y6 y7 y8 y9 ya
  go_enter Try.func18, Try.ntmps18
  go_upto_region 1 with fail
  rw [← HE2.out, ← HE3.out, ← HB.out]
  go_upto_region 2 with (refine wpList_loadCl rfl (.tmp 4) rfl B st x _ rfl HX.out.cl ?_)
  refine Calls.mono OWH.out ?_
  rintro e W2 ⟨v, rfl, ov, hb⟩
  clear y5'
  have X2 := hide (HX.out.below hb)
  have M2 := hide (HM.out.keep (Kp.of_below hb non) (fun f => f))
  have B2 := hide (B0.out.trans (hb.mono (by rw [HB.out]; exact B0.out.size)))
  have OV := hide ov
  clear hb ov OWH HX B0 HM
  obtain ⟨oa, oc, rfl⟩ := own_sl OV.out
  obtain ⟨on, hon⟩ : ∃ on, on = os.length := ⟨_, rfl⟩
  have onb : on ≤ 16 := by rw [hon]; exact OL.out
  have ON := hide hon
  rw [← hon]
  have x0 : W2.cell? ⟨B, 1, none⟩ = some (.int .i64 (on : Int)) := by
    have z := X2.out.cl.x 0 (by omega)
    rw [← OX.out, ← hon] at z
    exact z
  clear hon
  go_upto_region 3 with (go_at_call 6; refine Calls.mono (NU.out _ _) ?_; rintro e w' ⟨rfl, rfl⟩)
  clear x0
  go_upto_region 8 with fail
  go_loopw [11, 14] (fun v11 vi wr => ∃ (i : Nat), i ≤ on ∧ vi = .int .i64 (i : Int) ∧ ∃ a : Nat, v11 = .int .i64 (a : Int) ∧ Hid (a = ((os.take i).filter (homeF ns (x 20))).length) ∧ Hid (Kp W2 wr non)) (fun _ vi _ => on - (intOf vi).toNat)
  case atStart => exact ⟨0, Nat.zero_le _, rfl, 0, rfl, by show 0 = _; simp, Kp.refl _ _⟩
  case round =>
    obtain ⟨i, hi, rfl, a, rfl, HA, KW⟩ := hrel
    have hal : a ≤ 16 := by
      rw [HA.out]
      have := List.length_filter_le (homeF ns (x 20)) (os.take i)
      rw [List.length_take] at this
      have := OL.out
      omega
    by_cases hino : i < on
    case pos =>
      have hii : (i : Int) < (on : Int) := by omega
      have hin : i < os.length := by rw [← ON.out]; exact hino
      have xr := X2.out.below (KW.out.below)
      obtain ⟨ug, uc', hug⟩ := own_g OV.out (by have := ON.out; omega)
      injection hug with hug _ huc
      subst hug
      subst huc
      have our := own_kp OV.out KW.out (fun _ _ f => f)
      have cu := our.cellAt i (by omega)
      rw [ints_at2 os i hin] at cu
      obtain ⟨z0, z1⟩ := OIN.out os[i] (List.getElem_mem hin)
      have hfF := filt_take (f := homeF ns (x 20)) hin
      have hz : homeF ns (x 20) os[i] = decide (znF ns os[i] = x 20) := rfl
      obtain ⟨q, hq⟩ : ∃ q : Nat, os[i] = (q : Int) := ⟨os[i].toNat, by omega⟩
      rw [hq] at cu z0 z1 hfF hz
      have hqn : q < ns.length := by omega
      have hzn : znF ns (q : Int) = ns[q].z := by unfold znF; simp [hqn]
      rw [hzn] at hz
      have nat' := xr.nd
      have hao := nat'.at0 (by omega)
      subst hao
      have zc := nat'.cz q hqn
      have d22 := xr.cl.nv
      have d21 := xr.cl.x 20 (by omega)
      have hqi : (q : Int) < (ns.length : Int) := by omega
      have hqb : ns.length ≤ 9223372036854775807 := by have := nat'.len; omega
      obtain ⟨zz, hzz0⟩ : ∃ zz, zz = ns[q].z := ⟨_, rfl⟩
      rw [← hzz0] at zc hz
      have HF : Hid ((os.take (i + 1)).filter (homeF ns (x 20)) = (os.take i).filter (homeF ns (x 20)) ++ if homeF ns (x 20) (q : Int) then [(q : Int)] else []) := hfF
      have HZ := hide hz
      obtain ⟨x20, hx20⟩ : ∃ x20, x20 = x 20 := ⟨_, rfl⟩
      rw [← hx20] at d21
      have HX20 := hide hx20
      clear hzz0 hzn hfF hz hx20
      obtain ⟨nl, hnl⟩ : ∃ nl, nl = ns.length := ⟨_, rfl⟩
      rw [← hnl] at d22 hqi hqb
      have I2 := hide (wrap_in (x := (a : Int) + 1) (by omega) (by omega))
      have HI := hide hi
      have HAL := hide hal
      clear xr our nat' z0 z1 hq hnl hqn hal hi
      by_cases hzz : zz = x20
      · have hze : (zz == x20) = true := by simp [hzz]
        have HA2 : Hid (a + 1 = ((os.take (i + 1)).filter (homeF ns (x 20))).length) := by
          show _ = _
          rw [HF.out, HZ.out, decide_eq_true (by rw [hzz, HX20.out]), if_pos rfl, List.length_append, ← HA.out]
          rfl
        clear HA
        go_wp2_with fail
        go_quiet (fail)
        have i2 := I2.out
        go_wp2_with fail
        go_roundw
        case rel => exact ⟨i + 1, by omega, by go_num, a + 1, by simp [i2], HA2.out, KW.out.trans ((Kp.refl wr non).drewN nq) (fun _ f => f.elim)⟩
        case measure => simp [intOf]; omega
      · have hze : (zz == x20) = false := by simp [hzz]
        have HA2 : Hid (a = ((os.take (i + 1)).filter (homeF ns (x 20))).length) := by
          show _ = _
          rw [HF.out, HZ.out, decide_eq_false (by rw [← HX20.out]; exact hzz), if_neg (by simp), List.append_nil, ← HA.out]
        clear HA
        go_wp2_with fail
        go_quiet (fail)
        go_wp2_with fail
        go_roundw
        case rel => exact ⟨i + 1, by omega, by go_num, a, rfl, HA2.out, KW.out.trans ((Kp.refl wr non).drewN nq) (fun _ f => f.elim)⟩
        case measure => simp [intOf]; omega
    case neg =>
      obtain rfl : on = i := by omega
      have hii : ¬ (on : Int) < (on : Int) := by omega
      rw [ON.out, List.take_length] at HA
      have HL := hide HA.out
      clear HA hi hino
      have K1 := hide KW.out
      clear KW
      go_wp2_with fail
      go_loopw [11, 12, 13, 16] (fun v11 v12 v13 vi wr => ∃ (i : Nat), i ≤ on ∧ vi = .int .i64 (i : Int) ∧ ∃ (c d : Nat) (tq : Int), v11 = .int .i64 (c : Int) ∧ v12 = .int .i64 (d : Int) ∧ v13 = .int .i64 tq ∧ Hid (c = ((os.take i).filter (homeF ns (x 20))).length) ∧ Hid (d = ((os.take i).filter (fun k => !homeF ns (x 20) k)).length) ∧ Hid (tq = pk ((os.take i).filter (homeF ns (x 20))) ((os.take i).filter (fun k => !homeF ns (x 20) k)) a lf) ∧ Hid (Kp W2 wr non)) (fun _ _ _ vi _ => on - (intOf vi).toNat)
      case atStart => exact ⟨0, Nat.zero_le _, rfl, 0, 0, -1, rfl, rfl, rfl, by show 0 = _; simp, by show 0 = _; simp, by show _ = _; unfold pk; simp, K1.out⟩
      case round =>
        clear K1
        obtain ⟨i, hi, rfl, c, d, tq, rfl, rfl, rfl, HC, HD, HT, KW⟩ := hrel
        have hcl : c ≤ 16 := by
          rw [HC.out]
          have := List.length_filter_le (homeF ns (x 20)) (os.take i)
          rw [List.length_take] at this
          have := OL.out
          omega
        have hdl : d ≤ 16 := by
          rw [HD.out]
          have := List.length_filter_le (fun k => !homeF ns (x 20) k) (os.take i)
          rw [List.length_take] at this
          have := OL.out
          omega
        by_cases hino : i < on
        case pos =>
          have hii : (i : Int) < (on : Int) := by omega
          have hin : i < os.length := by rw [← ON.out]; exact hino
          have xr := X2.out.below (KW.out.below)
          obtain ⟨ug, uc', hug⟩ := own_g OV.out (by have := ON.out; omega)
          injection hug with hug _ huc
          subst hug
          subst huc
          have our := own_kp OV.out KW.out (fun _ _ f => f)
          have cu := our.cellAt i (by omega)
          rw [ints_at2 os i hin] at cu
          obtain ⟨z0, z1⟩ := OIN.out os[i] (List.getElem_mem hin)
          have hfF := filt_take (f := homeF ns (x 20)) hin
          have hfA := filt_take (f := fun k => !homeF ns (x 20) k) hin
          have hz : homeF ns (x 20) os[i] = decide (znF ns os[i] = x 20) := rfl
          obtain ⟨q, hq⟩ : ∃ q : Nat, os[i] = (q : Int) := ⟨os[i].toNat, by omega⟩
          rw [hq] at cu z0 z1 hfF hfA hz
          have hqn : q < ns.length := by omega
          have hzn : znF ns (q : Int) = ns[q].z := by unfold znF; simp [hqn]
          rw [hzn] at hz
          have nat' := xr.nd
          have hao := nat'.at0 (by omega)
          subst hao
          have zc := nat'.cz q hqn
          have d22 := xr.cl.nv
          have d21 := xr.cl.x 20 (by omega)
          have hqi : (q : Int) < (ns.length : Int) := by omega
          have hqb : ns.length ≤ 9223372036854775807 := by have := nat'.len; omega
          obtain ⟨zz, hzz0⟩ : ∃ zz, zz = ns[q].z := ⟨_, rfl⟩
          rw [← hzz0] at zc hz
          have HF : Hid ((os.take (i + 1)).filter (homeF ns (x 20)) = (os.take i).filter (homeF ns (x 20)) ++ if homeF ns (x 20) (q : Int) then [(q : Int)] else []) := hfF
          have HG : Hid ((os.take (i + 1)).filter (fun k => !homeF ns (x 20) k) = (os.take i).filter (fun k => !homeF ns (x 20) k) ++ if (!homeF ns (x 20) (q : Int)) then [(q : Int)] else []) := hfA
          have HZ := hide hz
          obtain ⟨x20, hx20⟩ : ∃ x20, x20 = x 20 := ⟨_, rfl⟩
          rw [← hx20] at d21
          have HX20 := hide hx20
          clear hzz0 hzn hfF hfA hz hx20
          obtain ⟨nl, hnl⟩ : ∃ nl, nl = ns.length := ⟨_, rfl⟩
          rw [← hnl] at d22 hqi hqb
          have CU := hide cu
          have HQ := hide hq
          have I2 := hide (wrap_in (x := (c : Int) + 1) (by omega) (by omega))
          have I3 := hide (wrap_in (x := (d : Int) + 1) (by omega) (by omega))
          have I4 := hide (wrap_in (x := (a : Int) + (d : Int)) (by omega) (by omega))
          have HI := hide hi
          have HAL := hide (And.intro hcl (And.intro hdl hal))
          clear xr our nat' z0 z1 hq hnl hqn hal hi hcl hdl
          by_cases hzz : zz = x20
          · have hze : (zz == x20) = true := by simp [hzz]
            have ZB : Hid (homeF ns (x 20) (q : Int) = true) := by show _ = _; rw [HZ.out]; exact decide_eq_true (by rw [hzz, HX20.out])
            have HC2 : Hid (c + 1 = ((os.take (i + 1)).filter (homeF ns (x 20))).length) := by
              show _ = _
              rw [HF.out, ZB.out]
              rw [if_pos rfl, List.length_append, ← HC.out]; rfl
            have HD2 : Hid (d = ((os.take (i + 1)).filter (fun k => !homeF ns (x 20) k)).length) := by
              show _ = _
              rw [HG.out, ZB.out]
              rw [if_neg (by simp), List.append_nil, ← HD.out]
            have HT2' : Hid (pk ((os.take (i + 1)).filter (homeF ns (x 20))) ((os.take (i + 1)).filter (fun k => !homeF ns (x 20) k)) a lf = if c = lf then (q : Int) else tq) := by
              show _ = _
              have l1 := fil_lt (f := homeF ns (x 20)) hin (by rw [HQ.out]; exact ZB.out)
              rw [HF.out, HG.out, ZB.out, if_pos rfl, if_neg (by simp), List.append_nil, pk_h (by rw [HL.out]; exact l1), ← HC.out, ← HT.out]
            clear HC HD HT
            go_wp2_with fail
            go_quiet (fail)
            have kq : Kp W2 (wr.drewN nq) non := KW.out.trans ((Kp.refl wr non).drewN nq) (fun _ f => f.elim)
            have cu := CU.out
            clear zc d21 d22
            have i2 := I2.out
            by_cases hcl : c = lf
            · have HT2 : Hid ((q : Int) = pk ((os.take (i + 1)).filter (homeF ns (x 20))) ((os.take (i + 1)).filter (fun k => !homeF ns (x 20) k)) a lf) := (HT2'.out.trans (if_pos hcl)).symm
              have hce : ((c : Int) == (lf : Int)) = true := by simp; omega
              clear hcl
              go_wp2_with fail
              go_roundw
              case rel => exact ⟨i + 1, by omega, by go_num, c + 1, d, (q : Int), by simp [i2], rfl, rfl, HC2.out, HD2.out, HT2.out, KW.out.trans ((Kp.refl wr non).drewN nq) (fun _ f => f.elim)⟩
              case measure => simp [intOf]; omega
            · have HT2 : Hid (tq = pk ((os.take (i + 1)).filter (homeF ns (x 20))) ((os.take (i + 1)).filter (fun k => !homeF ns (x 20) k)) a lf) := (HT2'.out.trans (if_neg hcl)).symm
              have hce : ((c : Int) == (lf : Int)) = false := by simp; omega
              have hcf : ¬ (c : Int) = (lf : Int) := by omega
              clear hcl
              go_wp2_with fail
              go_roundw
              case rel => exact ⟨i + 1, by omega, by go_num, c + 1, d, tq, by simp [i2], rfl, rfl, HC2.out, HD2.out, HT2.out, KW.out.trans ((Kp.refl wr non).drewN nq) (fun _ f => f.elim)⟩
              case measure => simp [intOf]; omega
          · have hze : (zz == x20) = false := by simp [hzz]
            have ZB : Hid (homeF ns (x 20) (q : Int) = false) := by show _ = _; rw [HZ.out]; exact decide_eq_false (by rw [← HX20.out]; exact hzz)
            have HC2 : Hid (c = ((os.take (i + 1)).filter (homeF ns (x 20))).length) := by
              show _ = _
              rw [HF.out, ZB.out]
              rw [if_neg (by simp), List.append_nil, ← HC.out]
            have HD2 : Hid (d + 1 = ((os.take (i + 1)).filter (fun k => !homeF ns (x 20) k)).length) := by
              show _ = _
              rw [HG.out, ZB.out]
              rw [if_pos (by rfl), List.length_append, ← HD.out]; rfl
            have HT2' : Hid (pk ((os.take (i + 1)).filter (homeF ns (x 20))) ((os.take (i + 1)).filter (fun k => !homeF ns (x 20) k)) a lf = if a + d = lf then (q : Int) else tq) := by
              show _ = _
              rw [HF.out, HG.out, ZB.out, if_neg (by simp), if_pos (by rfl), List.append_nil, pk_a, ← HD.out, ← HT.out]
            clear HC HD HT
            go_wp2_with fail
            go_quiet (fail)
            have kq : Kp W2 (wr.drewN nq) non := KW.out.trans ((Kp.refl wr non).drewN nq) (fun _ f => f.elim)
            have cu := CU.out
            clear zc d21 d22
            have i3 := I3.out
            by_cases hcl : a + d = lf
            · have HT2 : Hid ((q : Int) = pk ((os.take (i + 1)).filter (homeF ns (x 20))) ((os.take (i + 1)).filter (fun k => !homeF ns (x 20) k)) a lf) := (HT2'.out.trans (if_pos hcl)).symm
              have i4 : wrap64 ((a : Int) + (d : Int)) = (lf : Int) := by rw [I4.out]; omega
              clear hcl
              go_wp2_with fail
              go_roundw
              case rel => exact ⟨i + 1, by omega, by go_num, c, d + 1, (q : Int), rfl, by simp [i3], rfl, HC2.out, HD2.out, HT2.out, KW.out.trans ((Kp.refl wr non).drewN nq) (fun _ f => f.elim)⟩
              case measure => simp [intOf]; omega
            · have HT2 : Hid (tq = pk ((os.take (i + 1)).filter (homeF ns (x 20))) ((os.take (i + 1)).filter (fun k => !homeF ns (x 20) k)) a lf) := (HT2'.out.trans (if_neg hcl)).symm
              have hcz : ¬ (a : Int) + (d : Int) = (lf : Int) := by omega
              obtain ⟨ad, i4, hce⟩ : ∃ ad : Int, wrap64 ((a : Int) + (d : Int)) = ad ∧ (ad == (lf : Int)) = false := ⟨_, I4.out, beq_eq_false_iff_ne.2 hcz⟩
              clear hcz
              clear hcl
              go_wp2_with fail
              go_roundw
              case rel => exact ⟨i + 1, by omega, by go_num, c, d + 1, tq, rfl, by simp [i3], rfl, HC2.out, HD2.out, HT2.out, KW.out.trans ((Kp.refl wr non).drewN nq) (fun _ f => f.elim)⟩
              case measure => simp [intOf]; omega
        case neg =>
          obtain rfl : on = i := by omega
          have hii : ¬ (on : Int) < (on : Int) := by omega
          rw [ON.out, List.take_length] at HT
          have ET : Hid (tq = td) := by show _ = _; rw [HT.out, TD.out, ← HL.out]
          rw [ET.out]
          have mw := hide (M2.out.keep KW.out (fun f => f))
          obtain ⟨-, -, -, y3, -, y5, -, y7, -, -, -⟩ := mw.out.cells
          have y3' : wr.cell? ⟨B + 1, 3, none⟩ = some (.int .i64 id) := y3
          have y5' : wr.cell? ⟨B + 1, 5, none⟩ = some (.int .i64 (p : Int)) := y5
          have y7' : wr.cell? ⟨B + 1, 7, none⟩ = some (.int .i64 pr) := y7
          have KF : Hid (Below B w wr) := B2.out.trans ((KW.out.below).mono (by rw [HB.out]; exact B2.out.size))
          clear y3 y5 y7 HT ET HC HD hcl hdl hi hino
          go_wp2_with (first | refine wpList_ldM rfl (.tmp 5) rfl (qM td id (p : Int) ver pr) (B + 1) rfl mw.out ?_ | refine wpList_blR rfl 36 _ rfl (mgV (qM td id (p : Int) ver pr)) (by kernel_rfl) ?_ | refine wpList_eqMG (.tmp 93) (.tmp 102) 36 rfl (by kernel_rfl) (qM td id (p : Int) ver pr) rfl rfl ?_)
          go_ret
          exact ⟨rfl, KF.out⟩
end Go.Proofs.Ytbmhllcbkeblfaa.Cn
namespace Go.Proofs.Ytbmhllcbkeblfaa.Cn
open Go.RowKit
theorem pr_info : (Try.prog.info? 86).map (·.size) = some 2 := by kernel_rfl
theorem exec_pr {ρ : Operand → Value} {o : Oper} {w : World} {g k : Nat} {z : Pr} (x : Operand) (ho : o.op = .load 86 x) (hx : ρ x = .pointer (some ⟨g, k, none⟩)) (h : w.rangeAt g k (prV z).toList) : (execOp ρ o).run Try.prog w = .ok (.value (.agg (prV z))) w := by
  have hl := run_loadAt_mid (P := Try.prog) w g k 86 _ _ h Try.underlying86 rfl pr_info
  unfold execOp
  simp only [ho, hx, Sem.run_bind, Sem.run_pure, Result.andThen_ok, hl]
set_option maxHeartbeats 16000000 in
set_option maxRecDepth 100000 in
set_option linter.unusedSimpArgs false in
set_option linter.unusedVariables false in
theorem sameI_x {w : World} {b1 b2 n : Nat} {u1 u2 : Value} {L : List Int} (hl : L.length = n) (o1 : w.ownsRow b1 3 1 u1 n (ints L)) (o2 : w.ownsRow b2 3 1 u2 n (ints L)) (hn : n ≤ 1000000) :
    Calls Try.prog 20 #[u1, u2] w fun e w' => e = .returned (.bool true) ∧ Kp w w' non := by
  obtain ⟨p1, c1, rfl⟩ := own_sl o1
  obtain ⟨p2, c2, rfl⟩ := own_sl o2
  have O1 := hide o1
  have O2 := hide o2
  have HL := hide hl
  clear o1 o2 hl
  go_enter Try.func20, Try.ntmps20
  go_wp2_with fail
  go_loopw [5] (fun vi wr => ∃ i : Nat, i ≤ n ∧ vi = .int .i64 (i : Int) ∧ Hid (Kp w wr non)) (fun vi _ => n - (intOf vi).toNat)
  case atStart => exact ⟨0, Nat.zero_le _, rfl, Kp.refl _ _⟩
  case round =>
    obtain ⟨i, hi, rfl, KI⟩ := hrel
    by_cases hin : i < n
    case pos =>
      have hii : (i : Int) < (n : Int) := by omega
      have hiL : i < L.length := by rw [HL.out]; exact hin
      obtain ⟨g1, d1, h1⟩ := own_g O1.out (by omega)
      obtain ⟨g2, d2, h2⟩ := own_g O2.out (by omega)
      injection h1 with h1 _ h1c
      injection h2 with h2 _ h2c
      subst h1 h1c h2 h2c
      have r1 := own_kp O1.out KI.out (fun _ _ f => f)
      have r2 := own_kp O2.out KI.out (fun _ _ f => f)
      have cellat : ∀ {b : Nat} {g d : Nat}, wr.ownsRow b 3 1 (.slice (some ⟨g, 0, none⟩) n d) n (ints L) → wr.cell? ⟨g, i, none⟩ = some (.int .i64 L[i]) := fun {b g d} r => by
        obtain ⟨g', c', e1, hc, _⟩ := own_at r (j := i) (u := .int .i64 L[i]) (by rw [ints_at, List.getElem?_eq_getElem hiL]; rfl)
        injection e1 with e1
        injection e1 with e1
        injection e1 with e1
        rw [e1]
        exact hc
      have x1 := cellat r1
      have x2 := cellat r2
      generalize L[i] = z at x1 x2
      clear r1 r2 cellat
      go_wp2_with fail
      go_quiet (fail)
      have KQ : Hid (Kp w (wr.drewN nq) non) := KI.out.trans ((Kp.refl wr non).drewN nq) (fun _ f => f.elim)
      go_wp2_with fail
      go_roundw
      case rel => exact ⟨i + 1, by omega, by go_num, KQ.out⟩
      case measure => simp [intOf]; omega
    case neg =>
      obtain rfl : i = n := by omega
      go_wp2_with fail
      go_ret
      exact ⟨rfl, KI.out⟩
set_option maxHeartbeats 16000000 in
set_option maxRecDepth 100000 in
set_option linter.unusedSimpArgs false in
set_option linter.unusedVariables false in
theorem sameP_x {w : World} {b1 b2 n : Nat} {u1 u2 : Value} {L : List Pr} (hl : L.length = n) (o1 : w.ownsRow b1 86 2 u1 n (prs L)) (o2 : w.ownsRow b2 86 2 u2 n (prs L)) (hn : n ≤ 1000000) :
    Calls Try.prog 21 #[u1, u2] w fun e w' => e = .returned (.bool true) ∧ Kp w w' non := by
  obtain ⟨p1, c1, rfl⟩ := own_sl o1
  obtain ⟨p2, c2, rfl⟩ := own_sl o2
  have O1 := hide o1
  have O2 := hide o2
  have HL := hide hl
  clear o1 o2 hl
  go_enter Try.func21, Try.ntmps21
  go_wp2_with fail
  go_loopw [5] (fun vi wr => ∃ i : Nat, i ≤ n ∧ vi = .int .i64 (i : Int) ∧ Hid (Kp w wr non)) (fun vi _ => n - (intOf vi).toNat)
  case atStart => exact ⟨0, Nat.zero_le _, rfl, Kp.refl _ _⟩
  case round =>
    obtain ⟨i, hi, rfl, KI⟩ := hrel
    by_cases hin : i < n
    case pos =>
      have hii : (i : Int) < (n : Int) := by omega
      have hiL : i < L.length := by rw [HL.out]; exact hin
      obtain ⟨g1, d1, h1⟩ := own_g O1.out (by omega)
      obtain ⟨g2, d2, h2⟩ := own_g O2.out (by omega)
      injection h1 with h1 _ h1c
      injection h2 with h2 _ h2c
      subst h1 h1c h2 h2c
      have r1 := own_kp O1.out KI.out (fun _ _ f => f)
      have r2 := own_kp O2.out KI.out (fun _ _ f => f)
      have rg : ∀ {b : Nat} {g d : Nat}, wr.ownsRow b 86 2 (.slice (some ⟨g, 0, none⟩) n d) n (prs L) → wr.rangeAt g (i * 2) (prV L[i]).toList := fun {b g d} r j u hj => by
        have hl : j < 2 := by
          have := (List.getElem?_eq_some_iff.1 hj).1
          simpa [prV] using this
        have e := prs_at L i hiL j hl
        have hj' : (prV L[i])[j]? = some u := by simpa using hj
        obtain ⟨g', c', e1, hc, _⟩ := own_at r (j := i * 2 + j) (u := u) (by rw [e]; exact hj')
        injection e1 with e1
        injection e1 with e1
        injection e1 with e1
        rw [e1]
        exact hc
      have S0 : Hid (wr.rangeAt g1 (i * 2) (prV L[i]).toList ∧ wr.rangeAt g2 (i * 2) (prV L[i]).toList) := ⟨rg r1, rg r2⟩
      clear r1 r2 rg
      generalize L[i] = z at S0
      go_upto_region 6 with fail
      refine wp_region_held_drew (S := fun Y => Y.rangeAt g1 (i * 2) (prV z).toList ∧ Y.rangeAt g2 (i * 2) (prV z).toList) (by kernel_rfl) S0.out (fun hHeld => ?_)
      refine wpAnyH_take (i := 0) (v := (.slice (some ⟨g1, 0, none⟩) n c1)) rfl (by kernel_rfl) (by kernel_rfl) (by kernel_rfl) (fun _ _ _ h => h) (Or.inl ⟨by kernel_rfl, ?_⟩) (by assumption) ?_
      · intro w' hSw
        (try dsimp only at hSw)
        go_simp
      (try simp only [Act.put, List.getElem_toArray, List.getElem_cons_zero, List.getElem_cons_succ, List.setIfInBounds_toArray, List.set_cons_zero, List.set_cons_succ])
      refine wpAnyH_take (i := 1) (v := (.int .i64 (i : Int))) rfl (by kernel_rfl) (by kernel_rfl) (by kernel_rfl) (fun _ _ _ h => h) (Or.inl ⟨by kernel_rfl, ?_⟩) (by assumption) ?_
      · intro w' hSw
        (try dsimp only at hSw)
        go_simp
      (try simp only [Act.put, List.getElem_toArray, List.getElem_cons_zero, List.getElem_cons_succ, List.setIfInBounds_toArray, List.set_cons_zero, List.set_cons_succ])
      refine wpAnyH_take (i := 2) (v := (.pointer (some ⟨g1, i * 2, none⟩))) rfl (by kernel_rfl) (by kernel_rfl) (by kernel_rfl) (fun _ _ _ h => h) (Or.inl ⟨by kernel_rfl, ?_⟩) (by assumption) ?_
      · intro w' hSw
        (try dsimp only at hSw)
        go_simp
      (try simp only [Act.put, List.getElem_toArray, List.getElem_cons_zero, List.getElem_cons_succ, List.setIfInBounds_toArray, List.set_cons_zero, List.set_cons_succ])
      refine wpAnyH_take (i := 3) (v := (.agg (prV z))) rfl (by kernel_rfl) (by kernel_rfl) (by kernel_rfl) (fun _ _ _ h => h) (Or.inl ⟨by kernel_rfl, ?_⟩) (by assumption) ?_
      · intro w' hSw
        (try dsimp only at hSw)
        (exact exec_pr (.tmp 19) rfl rfl hSw.1)
      (try simp only [Act.put, List.getElem_toArray, List.getElem_cons_zero, List.getElem_cons_succ, List.setIfInBounds_toArray, List.set_cons_zero, List.set_cons_succ])
      refine wpAnyH_take (i := 4) (v := (.slice (some ⟨g2, 0, none⟩) n c2)) rfl (by kernel_rfl) (by kernel_rfl) (by kernel_rfl) (fun _ _ _ h => h) (Or.inl ⟨by kernel_rfl, ?_⟩) (by assumption) ?_
      · intro w' hSw
        (try dsimp only at hSw)
        go_simp
      (try simp only [Act.put, List.getElem_toArray, List.getElem_cons_zero, List.getElem_cons_succ, List.setIfInBounds_toArray, List.set_cons_zero, List.set_cons_succ])
      refine wpAnyH_take (i := 5) (v := (.int .i64 (i : Int))) rfl (by kernel_rfl) (by kernel_rfl) (by kernel_rfl) (fun _ _ _ h => h) (Or.inl ⟨by kernel_rfl, ?_⟩) (by assumption) ?_
      · intro w' hSw
        (try dsimp only at hSw)
        go_simp
      (try simp only [Act.put, List.getElem_toArray, List.getElem_cons_zero, List.getElem_cons_succ, List.setIfInBounds_toArray, List.set_cons_zero, List.set_cons_succ])
      refine wpAnyH_take (i := 6) (v := (.pointer (some ⟨g2, i * 2, none⟩))) rfl (by kernel_rfl) (by kernel_rfl) (by kernel_rfl) (fun _ _ _ h => h) (Or.inl ⟨by kernel_rfl, ?_⟩) (by assumption) ?_
      · intro w' hSw
        (try dsimp only at hSw)
        go_simp
      (try simp only [Act.put, List.getElem_toArray, List.getElem_cons_zero, List.getElem_cons_succ, List.setIfInBounds_toArray, List.set_cons_zero, List.set_cons_succ])
      refine wpAnyH_take (i := 7) (v := (.agg (prV z))) rfl (by kernel_rfl) (by kernel_rfl) (by kernel_rfl) (fun _ _ _ h => h) (Or.inl ⟨by kernel_rfl, ?_⟩) (by assumption) ?_
      · intro w' hSw
        (try dsimp only at hSw)
        (exact exec_pr (.tmp 23) rfl rfl hSw.2)
      (try simp only [Act.put, List.getElem_toArray, List.getElem_cons_zero, List.getElem_cons_succ, List.setIfInBounds_toArray, List.set_cons_zero, List.set_cons_succ])
      refine wpAnyH_ready (rs := [8]) (by kernel_rfl) (by simp) ?_
      refine AllReadyH.cons rfl (fun K hK => ?_) AllReadyH.nil
      unfold prV
      go_simp
      refine hK.out _ _ (S0.out) (fun hHeld => ?_)
      clear hK
      (try simp only [Act.put, List.setIfInBounds_toArray, List.set_cons_zero, List.set_cons_succ])
      refine wpAnyH_done (by kernel_rfl) ?_ _
      clear hHeld
      have KQ : Hid (Kp w wr.drew non) := KI.out.trans ((Kp.refl wr non).drew) (fun _ f => f.elim)
      clear S0
      go_wp2_with fail
      go_roundw
      case rel => exact ⟨i + 1, by omega, by go_num, KQ.out⟩
      case measure => simp [intOf]; omega
    case neg =>
      obtain rfl : i = n := by omega
      go_wp2_with fail
      go_ret
      exact ⟨rfl, KI.out⟩
end Go.Proofs.Ytbmhllcbkeblfaa.Cn
