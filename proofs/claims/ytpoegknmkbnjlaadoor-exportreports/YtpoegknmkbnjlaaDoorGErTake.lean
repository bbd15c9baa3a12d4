import Derived.Test.YtpoegknmkbnjlaaDoorErNo
import Derived.Test.YtpoegknmkbnjlaaDoorErRead
import Derived.Test.YtpoegknmkbnjlaaDoorGGkRound
import Derived.Test.YtpoegknmkbnjlaaDoorEpCalls
namespace Go.Proofs.YtpoegknmkbnjlaaDoor.Cn
open Go.RowKit
theorem take_r {w : World} {Y : Nat} {r : Rx} {Z : Zr} (h : RxAt w Y r Z) (ok : Rok r) (hj : r.on = true → Rjb r) (m : Mg) (hob : r.of_.length ≤ 99999) :
    Calls Tryd.prog 31 #[.pointer (some ⟨Y, 0, none⟩), .agg (mgV m)] w fun e w' => ∃ u Z', e = .returned (.tuple #[u, .int .i64 0]) ∧ Out w w' u (takeRL r m) ∧ Lr w w' Y Z (takeR r m) Z' := by
  cases hi : isR r m with
  | false =>
    have e1 : takeR r m = r := by unfold takeR; rw [hi]; rfl
    have e2 : takeRL r m = [] := by unfold takeRL; rw [hi]; rfl
    rw [e1, e2]
    exact (take_no h ok hj m hi).mono fun e w' ⟨a, b⟩ => ⟨_, Z, a, World.ownsRow_nil _ _ _ _, Lr.same h b⟩
  | true =>
    by_cases hc : m.code = 16
    · exact take_end h ok hj m hi hc
    · by_cases hc0 : m.code = 0
      · by_cases ht : cntR r < 512
        · exact take_read h ok hj m hi hc0 ht hob
        · exact take_full h ok hj m hi hc0 ht
      · exact take_lv h ok hj m hi hc hc0
end Go.Proofs.YtpoegknmkbnjlaaDoor.Cn
namespace Go.Proofs.YtpoegknmkbnjlaaDoor.Cn
open Go.RowKit
set_option maxHeartbeats 16000000 in
set_option maxRecDepth 100000 in
set_option linter.unusedSimpArgs false in
set_option linter.unusedVariables false in
theorem num21 (w : World) (n : Int) : Calls Tryd.prog 13 #[.int .i64 n] w fun e w' => e = .returned (.int .i64 n) ∧ w = w' := by
  go_enter Tryd.func13, Tryd.ntmps13
  go_wp2_with fail
  go_ret
  exact ⟨rfl, rfl⟩
set_option maxHeartbeats 16000000 in
set_option maxRecDepth 100000 in
set_option linter.unusedSimpArgs false in
set_option linter.unusedVariables false in
theorem beyond21 (w : World) (n : Nat) (h : n ≤ 9223372036854775807) : Calls Tryd.prog 6 #[.int .i64 (n : Int)] w fun e w' => e = .returned (.bool (decide (2147483647 < n))) ∧ w = w' := by
  have hd : Hid (decide (2147483647 < n) = decide (2147483647 < (n : Int))) := by show _ = _; congr 1; apply propext; omega
  generalize decide (2147483647 < n) = bb at *
  go_enter Tryd.func6, Tryd.ntmps6
  go_wp2_with fail
  go_ret
  exact ⟨ret_bool hd.out.symm, rfl⟩
set_option maxHeartbeats 16000000 in
set_option maxRecDepth 100000 in
set_option linter.unusedSimpArgs false in
set_option linter.unusedVariables false in
theorem parts_x (N : Nat) (w : World) (st : ByteArray) (x : Nat → Int) (ao : Option Addr) (b o cap : Nat) (pv : Nat → Value) (ns : List ND) (h : NsAt N w ao b o pv ns) (hN : N ≤ w.heap.size) (h16 : ns.length ≤ 16) :
    Calls Tryd.prog 22 #[.agg (clA st x (.slice ao ns.length cap))] w fun e w' => e = .returned (.int .i64 (ptN ns : Int)) ∧ Below w.heap.size w w' := by
  obtain ⟨W0, hW0, hX⟩ := boxed st x cap h hN
  have HX := hide hX
  clear hX h
  have nv := HX.out.cl.nv
  go_enter Tryd.func22, Tryd.ntmps22
  go_upto_region 2 with fail
  rw [← hW0]
  clear hW0
  go_wp2_with fail
  clear nv
  go_loopw [3, 5, 9] (fun vc _ vi wr => ∃ (q : Nat), q ≤ ns.length ∧ vi = .int .i64 (q : Int) ∧ vc = .int .i64 ((flat (ns.take q)).length : Int) ∧ Below W0.heap.size W0 wr) (fun _ _ vi _ => ns.length - (intOf vi).toNat)
  case atStart => exact ⟨0, Nat.zero_le _, rfl, rfl, Below.refl _ _⟩
  case round =>
    obtain ⟨q, hq, rfl, rfl, hb⟩ := hrel
    have HB := hide hb
    clear hb
    by_cases hql : q < ns.length
    case pos =>
      have nd := HX.out.nd.below (HB.out.mono (Nat.le_trans hN HX.out.bel.size))
      have hao := nd.at0 (by omega)
      subst hao
      have hqi : (q : Int) < (ns.length : Int) := by omega
      have e1 := nd.cp q hql
      have e2 := nd.cz q hql
      have HT := hide (flat_take_succ hql)
      have hk := flat_cap nd q (by omega)
      obtain ⟨pa, pb, po, pc, hpv, hp⟩ := nd.ps q hql
      have hpl := hp.len
      rw [hpv] at e1
      clear hpv hp
      generalize ns[q].ps.length = pl at *
      generalize ns[q].z = zz at *
      generalize hfl : (flat (ns.take q)).length = fl at *
      have ew := wrap_in (x := (fl : Int) + (pl : Int)) (by omega) (by omega)
      have BN : Hid (Below W0.heap.size W0 (wr.alloc (.cells #[.int .i64 zz, .slice pa pl pc] 50))) := HB.out.alloc HB.out.size _
      clear hk nd
      go_wp2_with fail
      exact ⟨⟨q + 1, by omega, by go_num, by rw [HT.out]; simp; exact ew, BN.out⟩, by simp [intOf]; omega⟩
    case neg =>
      obtain rfl : q = ns.length := by omega
      rw [List.take_length]
      go_wp2_with fail
      go_ret
      exact ⟨rfl, HX.out.bel.trans (HB.out.mono HX.out.bel.size)⟩
end Go.Proofs.YtpoegknmkbnjlaaDoor.Cn
namespace Go.Proofs.YtpoegknmkbnjlaaDoor.Cn
open Go.RowKit
theorem errP_dlt {st : ByteArray} {x : Nat → Int} {ns : List ND} (h : errP st x ns = 0) : Dealt ns := by
  apply Classical.byContradiction
  intro hn
  unfold errP at h
  rw [dlB_false hn] at h
  split at h <;> (try split at h) <;> (try split at h) <;> simp at h
theorem errP_all {st : ByteArray} {x : Nat → Int} {ns : List ND} (h : errP st x ns = 0) : nmP st = true ∧ sfP x = true ∧ nfP ns = true ∧ Dealt ns ∧ x 0 ≤ (kpN ns : Int) ∧ (ptN ns : Int) * x 0 * x 2 ≤ 512 := by
  have h1 := errP_ok h
  have h2 := errP_dlt h
  unfold errP at h
  cases e : nmP st with
  | false => rw [e] at h; simp at h
  | true =>
    rw [e, h1.1, h1.2, dlB_true h2, if_neg (by simp), if_neg (by simp), if_neg (by simp), if_neg (by simp)] at h
    by_cases h3 : (kpN ns : Int) < x 0
    · rw [if_pos h3] at h
      omega
    · rw [if_neg h3] at h
      by_cases h4 : 512 < (ptN ns : Int) * x 0 * x 2
      · rw [if_pos h4] at h
        omega
      · exact ⟨rfl, h1.1, h1.2, h2, by omega, by omega⟩
theorem hm_in {ns : List ND} (hd : Dealt ns) {k : Nat} (hk : k < ptN ns) : ∃ i, ∃ h : i < ns.length, hm ns k = (i : Int) ∧ (k : Int) ∈ ns[i].ps := by
  have h1 := hd.once k hk
  have h2 : (k : Int) ∈ flat ns := cntI_mem.1 (by omega)
  unfold flat at h2
  obtain ⟨n, hn, hkn⟩ := List.mem_flatMap.1 h2
  obtain ⟨i, hi, rfl⟩ := List.getElem_of_mem hn
  exact ⟨i, hi, ownF_mem hd hi hkn, hkn⟩

theorem wkL_nd (ns : List ND) (P f : Nat) (i : Nat) : ((wkL ns P f i).map (hm ns)).Nodup := by
  induction i with
  | zero => simp [wkL]
  | succ i ih =>
    cases h : frsh ns P f i with
    | true =>
      rw [wkL_yes h, List.map_append, List.map_cons, List.map_nil]
      refine List.nodup_append.2 ⟨ih, by simp, fun a ha b hb => ?_⟩
      obtain ⟨p, hp, rfl⟩ := List.mem_map.1 ha
      rw [List.mem_singleton.1 hb]
      exact frsh_taken.1 h p hp
    | false =>
      rw [wkL_no h]
      exact ih
/-- a partition's owners -/
noncomputable def ownsP (st : ByteArray) (x : Nat → Int) (ns : List ND) (p : Nat) : List Int := owL ns (wkE st x ns (p : Int))
theorem ownsP_ok {st : ByteArray} {x : Nat → Int} {ns : List ND} (he : errP st x ns = 0) {p : Nat} (hp : p < ptN ns) : ((ownsP st x ns p).length : Int) = x 0 ∧ (∀ k ∈ ownsP st x ns p, 0 ≤ k ∧ k < (ns.length : Int)) ∧ (ownsP st x ns p).Nodup ∧ 1 ≤ x 0 ∧ x 0 ≤ 16 ∧ rdE st x ns (p : Int) = 0 := by
  obtain ⟨a1, a2, a3, a4, a5, a6⟩ := errP_all he
  have l0 : 1 ≤ x 0 ∧ x 0 ≤ 16 := sfP_lim a2 0 (by omega)
  have hr : rdE st x ns (p : Int) = 0 := by
    unfold rdE
    rw [if_pos he, if_neg (by omega)]
  have hw := wkE_ok hr
  unfold ownsP
  rw [hw]
  refine ⟨?_, ?_, ?_, l0.1, l0.2, hr⟩
  · rw [owL_len]
    exact wk_full a4 (by omega) (by omega) (by omega) a5
  · intro k hk
    unfold owL at hk
    obtain ⟨q, hp', rfl⟩ := List.mem_map.1 hk
    obtain ⟨i, hi, e, _⟩ := hm_in a4 (wk_lt (by omega) q hp')
    show 0 ≤ hm ns q ∧ hm ns q < _
    rw [e]
    omega
  · unfold owL wk wkR
    have := wkL_nd ns (ptN ns) (p : Int).toNat (ptN ns)
    rw [List.map_take]
    exact this.sublist (List.take_sublist _ _)
/-- the rows of all partitions ahead of p -/
noncomputable def rowsP (st : ByteArray) (x : Nat → Int) (ns : List ND) (p : Nat) : List (List Int) := (List.range p).map fun q => rowOf ns (x 20) (ownsP st x ns q)
theorem rowsP_len (st : ByteArray) (x : Nat → Int) (ns : List ND) (p : Nat) : (rowsP st x ns p).length = p := by simp [rowsP]
noncomputable def newX (st : ByteArray) (x : Nat → Int) (ns : List ND) (p : Nat) : Ex := ⟨x 17, rowsP st x ns p, 0, rp0, 0, 0, [], 0, 0, 0, 0, 0, 0, rp0⟩
theorem newX_ok {st : ByteArray} {x : Nat → Int} {ns : List ND} (he : errP st x ns = 0) : Eok (newX st x ns (ptN ns)) (x 0).toNat 0 := by
  obtain ⟨a1, a2, a3, a4, a5, a6⟩ := errP_all he
  have l0 : 1 ≤ x 0 ∧ x 0 ≤ 16 := sfP_lim a2 0 (by omega)
  have l17 := sfP_lim a2 17 (by omega)
  have p1 := a4.p1
  have p2 := a4.p2
  have e1 : (newX st x ns (ptN ns)).rows.length = ptN ns := rowsP_len _ _ _ _
  refine ⟨by rw [e1]; exact ⟨p1, p2⟩, fun r hr => ?_, by omega, ?_, ⟨Int.le_refl _, Int.le_refl _⟩, ⟨Int.le_refl _, Int.le_refl _⟩, ⟨Nat.zero_le _, Nat.zero_le _⟩, fun _ => ⟨rfl, rfl, rfl⟩, fun hb => by simp [busyB, newX, rp0] at hb, fun hb => by simp [busyB, newX, rp0] at hb⟩
  · have hr : r ∈ rowsP st x ns (ptN ns) := hr
    unfold rowsP at hr
    obtain ⟨q, hq, rfl⟩ := List.mem_map.1 hr
    rw [List.mem_range] at hq
    have z := (rowOf_perm ns (x 20) (ownsP st x ns q)).length_eq
    rw [z]
    have := (ownsP_ok he hq).1
    omega
  · show 1 ≤ x 17 ∧ x 17 ≤ 1000000000
    have e1 : loS 17 = 1 := by rfl
    have e2 : hiS 17 ≤ 1000000000 := by decide
    omega
def zz0 (rv : Value) (zs : List Value) : Zz := ⟨rv, zs, nilV, nilV, nilV, nilV, nilV⟩
set_option maxHeartbeats 16000000 in
set_option maxRecDepth 100000 in
set_option linter.unusedSimpArgs false in
set_option linter.unusedVariables false in
theorem New_no (N : Nat) (w : World) (st : ByteArray) (x : Nat → Int) (ao : Option Addr) (b o cap : Nat) (pv : Nat → Value) (ns : List ND) (h : NsAt N w ao b o pv ns) (hN : N ≤ w.heap.size) (hs : st.size ≤ 9223372036854775807) (he : errP st x ns ≠ 0) :
    Calls Tryd.prog 11 #[.agg (clA st x (.slice ao ns.length cap))] w fun e w' => e = .returned (.tuple #[.pointer none, .int .i64 (errP st x ns)]) ∧ Below w.heap.size w w' := by
  obtain ⟨W0, hW0, hX⟩ := boxed st x cap h hN
  have HX := hide (hX.stand hN)
  have B0 := hide hX.bel
  clear hX h
  have CK := hide (YtpoegknmkbnjlaaDoor.check_any N W0 st x ao b o cap pv ns HX.out.nd HX.out.le hs)
  obtain ⟨er, her⟩ : ∃ er, er = errP st x ns := ⟨_, rfl⟩
  rw [← her] at CK he ⊢
  clear her
  go_enter Tryd.func11, Tryd.ntmps11
  go_upto_region 1 with fail
  rw [← hW0]
  clear hW0
  go_wp2_with (refine wpList_loadCl rfl (.tmp 1) rfl w.heap.size st x _ rfl HX.out.cl ?_)
  refine Calls.mono CK.out ?_
  rintro e W1 ⟨rfl, hb⟩
  have B1 := hide (B0.out.trans (hb.mono B0.out.size))
  clear hb
  have q1 : (er != 0) = true := by simp [he]
  go_wp2_with fail
  go_ret2
  exact ⟨rfl, B1.out⟩
theorem wpList_loadClG {w : World} {ops : Array Oper} {rest : List Oper} {o : Oper} {a : Act} {Q : Exit → Act → World → Prop} (p : Operand) (ho : o.op = .load 24 p) (hw : Region.wanted o (yielded ops a.tmps) = true) (b : Nat) (st : ByteArray) (x : Nat → Int) (nv : Value) (hx : a.eval p = .pointer (some ⟨b, 0, none⟩)) (hO : ClAt w b st x nv)
    (h : wpList Tryd.prog ops Q rest (a.put o.dst (.agg (clA st x nv))) w) : wpList Tryd.prog ops Q (o :: rest) a w := by
  refine wpList_step fun K hK => ?_
  rw [if_pos hw]
  exact wp_exec (exec_loadCl p ho hx hO) (hK _ _ h)
end Go.Proofs.YtpoegknmkbnjlaaDoor.Cn
namespace Go.Proofs.YtpoegknmkbnjlaaDoor.Cn
open Go.RowKit
theorem sl_infos : (Tryd.prog.info? 48).map (fun i => (i.zero, i.size, i.bytes)) = some (some (.slice none 0 0), 1, 24) := by kernel_rfl
def nxA (x : Nat → Int) (rv : Value) : Array Value := #[.int .i64 (x 17), rv, .int .i64 0, .int .i64 0, .int .i64 0, .slice none 0 0, .slice none 0 0, .int .i64 0, .int .i64 0, .slice none 0 0, .int .i64 0, .int .i64 0, .int .i64 0, .int .i64 0, .int .i64 0, .int .i64 0, .int .i64 0, .int .i64 0, .slice none 0 0, .slice none 0 0]
/-- an exporter with the rows of i partitions -/
structure NwI (B : Nat) (st : ByteArray) (x : Nat → Int) (ns : List ND) (W : World) (X i : Nat) (rv : Value) (zs : List Value) : Prop where
  blk : W.heap[X]? = some (.cells (nxA x rv) 70)
  row : W.ownsRow B 48 1 rv i zs
  rws : ∀ q, q < i → ∃ u, zs[q]? = some u ∧ W.ownsRow B 3 1 u (rowOf ns (x 20) (ownsP st x ns q)).length (ints (rowOf ns (x 20) (ownsP st x ns q)))
  ge : B ≤ X
section
variable {B : Nat} {st : ByteArray} {x : Nat → Int} {ns : List ND} {W W' : World} {X i : Nat} {rv u : Value} {zs : List Value}
theorem NwI.kp0 (h : NwI B st x ns W X i rv zs) (hk : Kp W W' non) : NwI B st x ns W' X i rv zs :=
  ⟨(hk.block _ (blk_lt h.blk) (fun f => f)).trans h.blk, own_kp h.row hk (fun _ _ f => f), fun q hq => by
    obtain ⟨u, hu, ho⟩ := h.rws q hq
    exact ⟨u, hu, own_kp ho hk (fun _ _ f => f)⟩, h.ge⟩
theorem NwI.app (h : NwI B st x ns W X i rv zs) (hu : W.ownsRow B 3 1 u (rowOf ns (x 20) (ownsP st x ns i)).length (ints (rowOf ns (x 20) (ownsP st x ns i)))) (rv' : Value) (hr : W'.ownsRow B 48 1 rv' (i + 1) (zs ++ [u])) (hg : W.grownBy W' rv.ownBlock) :
    W'.heap[X]? = some (.cells (nxA x rv) 70) ∧ NwI B st x ns (W'.setCell ⟨X, 1, none⟩ rv') X (i + 1) rv' (zs ++ [u]) ∧ Kp W (W'.setCell ⟨X, 1, none⟩ rv') (fun k => k = X ∨ some k = rv.ownBlock) := by
  have kg := Kp.of_grown hg
  have nX : ∀ k, rv.ownBlock = some k → k ≠ X := fun k e q => by
    obtain ⟨c, hc⟩ := own_typ h.row e
    rw [q, h.blk] at hc
    simp at hc
  have b1 : W'.heap[X]? = some (.cells (nxA x rv) 70) := (kg.block _ (blk_lt h.blk) (fun e => nX X e.symm rfl)).trans h.blk
  have ks : Kp W' (W'.setCell ⟨X, 1, none⟩ rv') (fun k => k = X) := (Kp.refl W' (fun k => k = X)).set (Or.inl rfl) _ _
  have keep : ∀ {n : Nat} {q : Value} {xs : List Value}, W.ownsRow B 3 1 q n xs → (W'.setCell ⟨X, 1, none⟩ rv').ownsRow B 3 1 q n xs := fun ho => own_kp (own_kp ho kg (fun k e s => by
    obtain ⟨c1, g1⟩ := own_typ ho e
    obtain ⟨c2, g2⟩ := own_typ h.row s.symm
    rw [g1] at g2
    simp at g2)) ks (fun k e s => by
    obtain ⟨c1, g1⟩ := own_typ ho e
    rw [s, h.blk] at g1
    simp at g1)
  refine ⟨b1, ⟨set_row b1 1 _, own_kp hr ks (fun k e s => ?_), fun q hq => ?_, h.ge⟩, (kg.mono (T := fun k => k = X ∨ some k = rv.ownBlock) (fun k e => Or.inr e)).set (Or.inl (Or.inl rfl)) _ _⟩
  · obtain ⟨c1, g1⟩ := own_typ hr e
    rw [s, b1] at g1
    simp at g1
  · have hl : zs.length = i * 1 := h.row.1
    by_cases e : q < i
    · obtain ⟨z, hz, ho⟩ := h.rws q e
      exact ⟨z, by rw [List.getElem?_append_left (by omega)]; exact hz, keep ho⟩
    · obtain rfl : q = i := by omega
      exact ⟨u, by rw [List.getElem?_append_right (by omega), hl, Nat.mul_one, Nat.sub_self]; rfl, keep hu⟩
theorem NwI.ex (h : NwI B st x ns W X i rv zs) : ExAt W X (newX st x ns i) (zz0 rv zs) ∧ ∀ k, Ap X (zz0 rv zs) k → B ≤ k := by
  have hl : zs.length = i * 1 := h.row.1
  refine ⟨⟨h.blk, ?_, fun p hp => ?_, own_nil _ _ _, own_nil _ _ _, own_nil _ _ _, own_nil _ _ _, own_nil _ _ _, fun _ e => (nil_own e).elim, fun _ e => (nil_own e).elim, fun _ e => (nil_own e).elim⟩, fun k e => ?_⟩
  · show W.ownsRow 0 48 1 rv (rowsP st x ns i).length zs
    rw [rowsP_len]
    exact own_base h.row (Nat.zero_le _)
  · have hp' : p < i := by have : p < (rowsP st x ns i).length := hp; rwa [rowsP_len] at this
    obtain ⟨u, hu, ho⟩ := h.rws p hp'
    have e : (newX st x ns i).rows[p] = rowOf ns (x 20) (ownsP st x ns p) := by
      show (rowsP st x ns i)[p]'hp = _
      simp [rowsP]
    rw [e]
    exact ⟨u, hu, own_base ho (Nat.zero_le _)⟩
  · rcases e with (e | e | e | e) | e | e | e | ⟨u, hu, e⟩
    · rw [e]; exact h.ge
    · exact (nil_own e).elim
    · exact (nil_own e).elim
    · exact (nil_own e).elim
    · exact own_ge h.row e
    · exact (nil_own e).elim
    · exact (nil_own e).elim
    · obtain ⟨p, hp, rfl⟩ := List.getElem_of_mem hu
      have hp2 : p < zs.length := hp
      obtain ⟨u', hu', ho⟩ := h.rws p (by omega)
      rw [List.getElem?_eq_getElem hp2] at hu'
      injection hu' with hu'
      exact own_ge ho (by rw [← hu']; exact e)
end
/-- what New leaves -/
def NewR (st : ByteArray) (x : Nat → Int) (ns : List ND) (w w' : World) (X : Nat) : Prop := ∃ Z, ExAt w' X (newX st x ns (ptN ns)) Z ∧ (∀ k, Ap X Z k → w.heap.size ≤ k) ∧ Below w.heap.size w w'
theorem SDL {N : Nat} {w : World} {st : ByteArray} {x : Nat → Int} {ao : Option Addr} {b o cap : Nat} {pv : Nat → Value} {ns : List ND} {X : Nat} {r : Option Nat} (W3 Y w' W4 : World) (h : Stand N w.heap.size W3 st x ao b o cap pv ns) (k1 : Kp W3 Y non) (k2 : Kp Y w' (fun k => some k = r)) (k3 : Kp Y W4 (fun k => k = X ∨ some k = r)) (hr : ∀ k, some k = r → w.heap.size ≤ k) (hX : w.heap.size ≤ X) (hc : ∀ k, some k = r → k ≠ w.heap.size) (hXc : X ≠ w.heap.size ∧ N ≤ w.heap.size) : Stand N w.heap.size w' st x ao b o cap pv ns ∧ Stand N w.heap.size W4 st x ao b o cap pv ns := by
  have hy : Stand N w.heap.size Y st x ao b o cap pv ns := h.below (k1.below)
  have hsz := hXc.2
  refine ⟨⟨(k2.block _ (blk_lt hy.cl) (fun e => hc _ e rfl)).trans hy.cl, hy.nd.below ⟨k2.os, k2.tape, k2.output, k2.size, fun k hk => k2.block k (Nat.lt_of_lt_of_le hk hy.le) (fun e => by have := hr _ e; omega)⟩, Nat.le_trans hy.le k2.size⟩, ⟨(k3.block _ (blk_lt hy.cl) (fun e => e.elim (fun q => hXc.1 q.symm) (fun q => hc _ q rfl))).trans hy.cl, hy.nd.below ⟨k3.os, k3.tape, k3.output, k3.size, fun k hk => k3.block k (Nat.lt_of_lt_of_le hk hy.le) (fun e => by have z : w.heap.size ≤ k := e.elim (fun q => by omega) (fun q => hr _ q); omega)⟩, Nat.le_trans hy.le k3.size⟩⟩
set_option maxHeartbeats 16000000 in
set_option maxRecDepth 100000 in
set_option linter.unusedSimpArgs false in
set_option linter.unusedVariables false in
theorem New_ok (N : Nat) (w : World) (st : ByteArray) (x : Nat → Int) (ao : Option Addr) (b o cap : Nat) (pv : Nat → Value) (ns : List ND) (h : NsAt N w ao b o pv ns) (hN : N ≤ w.heap.size) (hs : st.size ≤ 9223372036854775807) (he : errP st x ns = 0) :
    Calls Tryd.prog 11 #[.agg (clA st x (.slice ao ns.length cap))] w fun e w' => ∃ X, e = .returned (.tuple #[.pointer (some ⟨X, 0, none⟩), .int .i64 0]) ∧ NewR st x ns w w' X := by
  obtain ⟨W0, hW0, hX⟩ := boxed st x cap h hN
  have HX := hide (hX.stand hN)
  have B0 := hide hX.bel
  clear hX h
  have CK := hide (YtpoegknmkbnjlaaDoor.check_any N W0 st x ao b o cap pv ns HX.out.nd HX.out.le hs)
  have H16 : Hid (ns.length ≤ 16) := (nfP_len (errP_all he).2.2.1).2
  have P64 : Hid (1 ≤ ptN ns ∧ ptN ns ≤ 64) := ⟨(errP_all he).2.2.2.1.p1, (errP_all he).2.2.2.1.p2⟩
  have HNN : Hid (N ≤ w.heap.size) := hN
  go_enter Tryd.func11, Tryd.ntmps11
  go_upto_region 1 with fail
  rw [← hW0]
  clear hW0
  go_wp2_with (refine wpList_loadCl rfl (.tmp 1) rfl w.heap.size st x _ rfl HX.out.cl ?_)
  refine Calls.mono CK.out ?_
  rintro e W1 ⟨rfl, hb⟩
  rw [he]
  have X1 := hide (HX.out.below hb)
  have B1 := hide (B0.out.trans (hb.mono B0.out.size))
  clear hb HX CK B0
  have x17 : W1.cell? ⟨w.heap.size, 18, none⟩ = some (.int .i64 (x 17)) := X1.out.cl.x 17 (by omega)
  obtain ⟨X, hXX⟩ : ∃ X, X = W1.heap.size := ⟨_, rfl⟩
  obtain ⟨W2, hW2⟩ : ∃ W2, W2 = W1.alloc (.cells (nxA x (.slice none 0 0)) 70) := ⟨_, rfl⟩
  have k2 : Below W1.heap.size W1 W2 := by rw [hW2]; exact (Below.refl _ W1).alloc (Nat.le_refl _) _
  have m2 : W2.heap[X]? = some (.cells (nxA x (.slice none 0 0)) 70) := by rw [hW2, hXX]; exact heap_last _ _
  have X2 := hide (X1.out.below k2)
  have B2 := hide (B1.out.trans (k2.mono B1.out.size))
  have XG : Hid (w.heap.size ≤ X) := by rw [hXX]; exact B1.out.size
  have XC : Hid (X ≠ w.heap.size ∧ N ≤ w.heap.size) := ⟨by rw [hXX]; have := blk_lt X1.out.cl; omega, HNN.out⟩
  have I2 : Hid (NwI w.heap.size st x ns W2 X 0 (.slice none 0 0) []) := ⟨m2, World.ownsRow_nil _ _ _ _, fun q hq => absurd hq (Nat.not_lt_zero _), XG.out⟩
  have PA := hide (parts_x N W2 st x ao b o cap pv ns X2.out.nd X2.out.le H16.out)
  clear k2 m2 X1 B1
  go_upto_region 5 with (refine wpList_blR rfl 70 #[(0, .tmp 15)] rfl (nxA x (.slice none 0 0)) (by kernel_rfl) ?_)
  rw [← hXX, ← hW2]
  clear hW2 hXX x17
  go_wp2_with (refine wpList_loadCl rfl (.tmp 1) rfl w.heap.size st x _ rfl X2.out.cl ?_)
  refine Calls.mono PA.out ?_
  rintro e W3 ⟨rfl, hb⟩
  have I3 := hide (I2.out.kp0 (Kp.of_below hb non))
  have S3 := hide (X2.out.below hb)
  have B3 : Hid (Kp w W3 non) := Kp.of_below (B2.out.trans (hb.mono B2.out.size)) non
  clear hb I2 X2 B2 PA
  obtain ⟨P, hP⟩ : ∃ P, P = ptN ns := ⟨_, rfl⟩
  have HP := hide hP
  rw [← hP]
  clear hP
  go_wp2_with fail
  go_loopw [6, 7, 8, 20] (fun _ _ _ vi wr => ∃ (i : Nat), i ≤ P ∧ vi = .int .i64 (i : Int) ∧ ∃ rv zs, Hid (NwI w.heap.size st x ns wr X i rv zs) ∧ Hid (Stand N w.heap.size wr st x ao b o cap pv ns) ∧ Hid (Kp w wr non)) (fun _ _ _ vi _ => P - (intOf vi).toNat)
  case atStart => exact ⟨0, Nat.zero_le _, rfl, _, _, I3.out, S3.out, B3.out⟩
  case round =>
    clear I3 S3 B3
    obtain ⟨i, hi, rfl, rv, zs, I0, S0, K0⟩ := hrel
    by_cases hin : i < P
    case neg =>
      obtain rfl : i = P := by omega
      have hii : ¬ (i : Int) < (i : Int) := by omega
      go_wp2_with fail
      go_ret2
      obtain ⟨e1, e2⟩ := I0.out.ex
      rw [HP.out] at e1
      exact ⟨X, rfl, _, e1, e2, K0.out.below⟩
    case pos =>
      have hii : (i : Int) < (P : Int) := by omega
      have hip : i < ptN ns := by rw [← HP.out]; exact hin
      obtain ⟨o1, o2, o3, o4, o5, o6⟩ := ownsP_ok he hip
      have OW := Owners_any N wr st x ao b o cap pv ns (i : Int) S0.out.nd S0.out.le hs
      rw [o6] at OW
      have OWH : Hid (Calls Tryd.prog 23 #[.agg (clA st x (.slice ao ns.length cap)), .int .i64 (i : Int)] wr fun e w' => ∃ v, e = .returned (.tuple #[v, .int .i64 0]) ∧ w'.ownsRow wr.heap.size 3 1 v (ownsP st x ns i).length (ints (ownsP st x ns i)) ∧ Below wr.heap.size wr w') := by
        have hl : (ownsP st x ns i).length = (wkE st x ns (i : Int)).length := by unfold ownsP; rw [owL_len]
        rw [hl]
        exact OW
      have OL : Hid ((∀ k ∈ ownsP st x ns i, 0 ≤ k ∧ k < (ns.length : Int)) ∧ (ownsP st x ns i).length ≤ 16) := ⟨o2, by omega⟩
      obtain ⟨ol, hol⟩ : ∃ ol, ol = ownsP st x ns i := ⟨_, rfl⟩
      have HOL := hide hol
      rw [← hol] at OWH OL
      have IB : Hid (i < 64) := by have := P64.out; show i < 64; omega
      clear o1 o2 o3 o4 o5 o6 OW hol
      go_upto_region 8 with fail
      go_wp2_with (refine wpList_loadCl rfl (.tmp 1) rfl w.heap.size st x _ rfl S0.out.cl ?_)
      refine Calls.mono OWH.out ?_
      rintro e W3 ⟨v, rfl, ov, hb⟩
      have I3 := hide (I0.out.kp0 (Kp.of_below hb non))
      have S3 := hide (S0.out.below hb)
      have KO : Hid (Kp w W3 non) := K0.out.trans (Kp.of_below hb non) (fun _ f => f.elim)
      have S3s : Hid (w.heap.size ≤ W3.heap.size) := KO.out.size
      have OV := hide ov
      clear hb ov OWH I0 S0 K0
      obtain ⟨oa, oc, rfl⟩ := own_sl OV.out
      obtain ⟨ra, rc, rfl⟩ := own_sl I3.out.row
      obtain ⟨RO, hRO⟩ : ∃ RO, RO = rowOf ns (x 20) ol := ⟨_, rfl⟩
      obtain ⟨rn, hrn⟩ : ∃ rn, rn = RO.length := ⟨_, rfl⟩
      obtain ⟨on, hon⟩ : ∃ on, on = ol.length := ⟨_, rfl⟩
      have HF : Hid (∀ Y, Kp W3 Y non → Calls Tryd.prog 24 #[.agg (clA st x (.slice ao ns.length cap)), .slice oa on oc] Y fun e w' => ∃ u, e = .returned u ∧ w'.ownsRow Y.heap.size 3 1 u rn (ints RO) ∧ Below Y.heap.size Y w') := fun Y hk => by
        have z := S3.out.below (hk.below)
        have := homeFirst_x N Y st x ao b o cap pv ns z.nd z.le (.slice oa on oc) ol (by rw [← hon]; exact own_kp (own_base (by rw [hon]; exact OV.out) (Nat.zero_le _)) hk (fun _ _ f => f)) OL.out.1 OL.out.2
        rw [← hRO, ← hrn] at this
        exact this
      have HRO : Hid (RO = rowOf ns (x 20) (ownsP st x ns i)) := by rw [← HOL.out]; exact hRO
      have HRN : Hid (rn = (rowOf ns (x 20) (ownsP st x ns i)).length) := by rw [← HRO.out]; exact hrn
      rw [← hon]
      clear hRO hrn hon OV OL
      go_upto_region 11 with fail
      refine wp_region_held_drew (S := fun Y => ClAt Y w.heap.size st x (.slice ao ns.length cap)) (by kernel_rfl) S3.out.cl (fun hHeld => ?_)
      refine wTk (i := 0) (v := (.pointer (some ⟨X, 0, none⟩))) rfl ?_ ?_
      · intro w' hSw
        (try dsimp only at hSw)
        go_simp
      (try simp only [Act.put, List.getElem_toArray, List.getElem_cons_zero, List.getElem_cons_succ, List.setIfInBounds_toArray, List.set_cons_zero, List.set_cons_succ])
      refine wTk (i := 1) (v := (.pointer (some ⟨X, 0, none⟩))) rfl ?_ ?_
      · intro w' hSw
        (try dsimp only at hSw)
        go_simp
      (try simp only [Act.put, List.getElem_toArray, List.getElem_cons_zero, List.getElem_cons_succ, List.setIfInBounds_toArray, List.set_cons_zero, List.set_cons_succ])
      refine wTk (i := 2) (v := (.pointer (some ⟨X, 0, none⟩))) rfl ?_ ?_
      · intro w' hSw
        (try dsimp only at hSw)
        go_simp
      (try simp only [Act.put, List.getElem_toArray, List.getElem_cons_zero, List.getElem_cons_succ, List.setIfInBounds_toArray, List.set_cons_zero, List.set_cons_succ])
      refine wTk (i := 3) (v := (.pointer (some ⟨X, 1, none⟩))) rfl ?_ ?_
      · intro w' hSw
        (try dsimp only at hSw)
        go_simp
      (try simp only [Act.put, List.getElem_toArray, List.getElem_cons_zero, List.getElem_cons_succ, List.setIfInBounds_toArray, List.set_cons_zero, List.set_cons_succ])
      refine wTk (i := 5) (v := (.agg (clA st x (.slice ao ns.length cap)))) rfl ?_ ?_
      · intro w' hSw
        (try dsimp only at hSw)
        (exact exec_loadCl (.tmp 1) rfl rfl hSw)
      (try simp only [Act.put, List.getElem_toArray, List.getElem_cons_zero, List.getElem_cons_succ, List.setIfInBounds_toArray, List.set_cons_zero, List.set_cons_succ])
      refine wTk (i := 6) (v := (.slice oa on oc)) rfl ?_ ?_
      · intro w' hSw
        (try dsimp only at hSw)
        go_simp
      (try simp only [Act.put, List.getElem_toArray, List.getElem_cons_zero, List.getElem_cons_succ, List.setIfInBounds_toArray, List.set_cons_zero, List.set_cons_succ])
      refine wpAnyH_ready (rs := [4, 7]) (by kernel_rfl) (by simp) ?_
      refine AllReadyH.cons rfl (fun K hK => ?_) (AllReadyH.cons rfl (fun K hK => ?_) AllReadyH.nil)
      · have cc : W3.drew.cell? ⟨X, 1, none⟩ = some (.slice ra i rc) := by rw [cell_row (I3.out.kp0 (((Kp.refl W3 non).drew))).blk]; rfl
        have cc2 : W3.cell? ⟨X, 1, none⟩ = some (.slice ra i rc) := cc
        go_simp
        clear cc cc2
        refine hK.out _ _ ((S3.out.cl.below ((((Kp.refl W3 non).drew)).below))) (fun hHeld => ?_)
        clear hK
        (try simp only [Act.put, List.setIfInBounds_toArray, List.set_cons_zero, List.set_cons_succ])
        refine wpAnyH_ready (rs := [7]) (by kernel_rfl) (by simp) ?_
        refine AllReadyH.cons rfl (fun K hK => ?_) AllReadyH.nil
        go_simp
        refine Calls.mono (HF.out W3.drew (((Kp.refl W3 non).drew))) ?_
        rintro e Y2 ⟨u, rfl, ou, b2⟩
        have K2 : Hid (Kp W3 Y2 non) := (((Kp.refl W3 non).drew)).trans (Kp.of_below b2 non) (fun _ f => f.elim)
        have OU : Hid (Y2.ownsRow w.heap.size 3 1 u rn (ints RO)) := own_base ou (by have := S3s.out; have := (((Kp.refl W3 non).drew)).size; omega)
        clear b2 ou
        obtain ⟨ua, uc, rfl⟩ := own_sl OU.out
        refine hK.out _ _ ((S3.out.cl.below (K2.out.below))) (fun hHeld => ?_)
        clear hK
        (try simp only [Act.put, List.setIfInBounds_toArray, List.set_cons_zero, List.set_cons_succ])
        refine wpAnyH_ready (rs := [8]) (by kernel_rfl) (by simp) ?_
        refine AllReadyH.cons rfl (fun K hK => ?_) AllReadyH.nil
        go_simp
        obtain ⟨Y3, hY3⟩ : ∃ Y, Y = Y2.alloc (.cells #[.slice ua rn uc] 48) := ⟨_, rfl⟩
        rw [← hY3]
        have N2 : Hid (Y3.ownsRow Y2.heap.size 48 1 (.slice (some ⟨Y2.heap.size, 0, none⟩) 1 1) 1 [.slice ua rn uc]) := by rw [hY3]; exact own_one _ _ _ _ rfl
        have ka : Kp Y2 Y3 non := by rw [hY3]; exact (Kp.refl _ non).alloc _
        have K3 : Hid (Kp W3 Y3 non) := (K2.out).trans ka (fun _ f => f.elim)
        have OU := hide (own_kp OU.out ka (fun _ _ f => f))
        have HBX : Hid (Y2.heap.size = Y2.heap.size) := rfl
        generalize Y2.heap.size = GB at *
        clear hY3 ka HBX
        refine hK.out _ _ ((S3.out.cl.below (K3.out.below))) (fun hHeld => ?_)
        clear hK
        (try simp only [Act.put, List.setIfInBounds_toArray, List.set_cons_zero, List.set_cons_succ])
        refine wpAnyH_ready (rs := [9]) (by kernel_rfl) (by simp) ?_
        refine AllReadyH.cons rfl (fun K hK => ?_) AllReadyH.nil
        refine wp_apRow (.tmp 36) (.tmp 40) 64 rfl w.heap.size 48 Tryd.underlying64 sl_infos rfl (by decide) (.slice ra i rc) i zs rfl (I3.out.kp0 (K3.out)).row GB (.slice (some ⟨GB, 0, none⟩) 1 1) 1 [.slice ua rn uc] rfl N2.out (by simp [Value.oneCell']) (by unfold maxLen; have := IB.out; omega) (by have := IB.out; omega) (by have := S3s.out; have := (K3.out).size; omega) ?_
        intro v' w' o3 g3 n3
        obtain ⟨na, nc, rfl⟩ := own_sl o3
        obtain ⟨b3, i4, k4⟩ := (I3.out.kp0 (K3.out)).app (u := .slice ua rn uc) (by rw [← HRN.out, ← HRO.out]; exact OU.out) _ o3 g3
        obtain ⟨W4, hW4⟩ : ∃ W4, W4 = w'.setCell ⟨X, 1, none⟩ (.slice na (i + 1) nc) := ⟨_, rfl⟩
        rw [← hW4] at i4 k4
        have KK : Hid (Kp w W4 non) := (KO.out.trans (K3.out) (fun _ f => f.elim)).trans k4 (fun k e => Or.inr (e.elim (fun q => by rw [q]; exact XG.out) (fun q => own_ge I3.out.row q.symm)))
        have I4 := hide i4
        have SD : Hid (Stand N w.heap.size w' st x ao b o cap pv ns ∧ Stand N w.heap.size W4 st x ao b o cap pv ns) := by
          have z := I3.out.row
          have kg : Kp Y3 w' (fun k => some k = (Value.slice ra i rc).ownBlock) := Kp.of_grown g3
          have ky : Kp W3 Y3 non := K3.out
          exact SDL _ _ _ _ S3.out ky kg k4 (fun k e => own_ge z e.symm) XG.out (fun k e => by
            obtain ⟨c, hc⟩ := own_typ z e.symm
            intro q
            have := S3.out.cl
            unfold ClAt at this
            rw [← q, hc] at this
            simp at this) XC.out
        have c1 : w'.cell? ⟨X, 1, none⟩ = some (.slice ra i rc) := by rw [cell_row b3]; rfl
        have f1 := fz_row b3 1
        clear o3 g3 n3 b3 i4 k4
        refine hK.out _ _ (SD.out.1.cl) (fun hHeld => ?_)
        clear hK
        (try simp only [Act.put, List.setIfInBounds_toArray, List.set_cons_zero, List.set_cons_succ])
        refine wTk (i := 10) (v := (.pointer (some ⟨X, 0, none⟩))) rfl ?_ ?_
        · intro w' hSw
          (try dsimp only at hSw)
          go_simp
        (try simp only [Act.put, List.getElem_toArray, List.getElem_cons_zero, List.getElem_cons_succ, List.setIfInBounds_toArray, List.set_cons_zero, List.set_cons_succ])
        refine wTk (i := 11) (v := (.pointer (some ⟨X, 1, none⟩))) rfl ?_ ?_
        · intro w' hSw
          (try dsimp only at hSw)
          go_simp
        (try simp only [Act.put, List.getElem_toArray, List.getElem_cons_zero, List.getElem_cons_succ, List.setIfInBounds_toArray, List.set_cons_zero, List.set_cons_succ])
        refine wpAnyH_ready (rs := [12]) (by kernel_rfl) (by simp) ?_
        refine AllReadyH.cons rfl (fun K hK => ?_) AllReadyH.nil
        go_simp
        rw [← hW4]
        clear hW4 c1 f1
        refine hK.out _ _ (SD.out.2.cl) (fun hHeld => ?_)
        clear hK
        (try simp only [Act.put, List.setIfInBounds_toArray, List.set_cons_zero, List.set_cons_succ])
        refine wpAnyH_done (by kernel_rfl) ?_ _
        clear hHeld
        have hib : i < 64 := IB.out
        have ewi : wrap64 ((i : Int) + 1) = (i : Int) + 1 := wrap_in (by omega) (by omega)
        go_wp2_with fail
        go_roundw
        case rel => exact ⟨i + 1, by omega, by go_num, _, _, I4.out, SD.out.2, KK.out⟩
        case measure => simp [intOf]; omega
      · go_simp
        refine Calls.mono (HF.out W3.drew (((Kp.refl W3 non).drew))) ?_
        rintro e Y1 ⟨u, rfl, ou, b1⟩
        have K1 : Hid (Kp W3 Y1 non) := (((Kp.refl W3 non).drew)).trans (Kp.of_below b1 non) (fun _ f => f.elim)
        have OU : Hid (Y1.ownsRow w.heap.size 3 1 u rn (ints RO)) := own_base ou (by have := S3s.out; have := (((Kp.refl W3 non).drew)).size; omega)
        clear b1 ou
        obtain ⟨ua, uc, rfl⟩ := own_sl OU.out
        refine hK.out _ _ ((S3.out.cl.below (K1.out.below))) (fun hHeld => ?_)
        clear hK
        (try simp only [Act.put, List.setIfInBounds_toArray, List.set_cons_zero, List.set_cons_succ])
        refine wpAnyH_ready (rs := [4, 8]) (by kernel_rfl) (by simp) ?_
        refine AllReadyH.cons rfl (fun K hK => ?_) (AllReadyH.cons rfl (fun K hK => ?_) AllReadyH.nil)
        · have cc : Y1.cell? ⟨X, 1, none⟩ = some (.slice ra i rc) := by rw [cell_row (I3.out.kp0 (K1.out)).blk]; rfl
          go_simp
          clear cc
          refine hK.out _ _ ((S3.out.cl.below ((K1.out).below))) (fun hHeld => ?_)
          clear hK
          (try simp only [Act.put, List.setIfInBounds_toArray, List.set_cons_zero, List.set_cons_succ])
          refine wpAnyH_ready (rs := [8]) (by kernel_rfl) (by simp) ?_
          refine AllReadyH.cons rfl (fun K hK => ?_) AllReadyH.nil
          go_simp
          obtain ⟨Y3, hY3⟩ : ∃ Y, Y = Y1.alloc (.cells #[.slice ua rn uc] 48) := ⟨_, rfl⟩
          rw [← hY3]
          have N2 : Hid (Y3.ownsRow Y1.heap.size 48 1 (.slice (some ⟨Y1.heap.size, 0, none⟩) 1 1) 1 [.slice ua rn uc]) := by rw [hY3]; exact own_one _ _ _ _ rfl
          have ka : Kp Y1 Y3 non := by rw [hY3]; exact (Kp.refl _ non).alloc _
          have K3 : Hid (Kp W3 Y3 non) := (K1.out).trans ka (fun _ f => f.elim)
          have OU := hide (own_kp OU.out ka (fun _ _ f => f))
          have HBX : Hid (Y1.heap.size = Y1.heap.size) := rfl
          generalize Y1.heap.size = GB at *
          clear hY3 ka HBX
          refine hK.out _ _ ((S3.out.cl.below (K3.out.below))) (fun hHeld => ?_)
          clear hK
          (try simp only [Act.put, List.setIfInBounds_toArray, List.set_cons_zero, List.set_cons_succ])
          refine wpAnyH_ready (rs := [9]) (by kernel_rfl) (by simp) ?_
          refine AllReadyH.cons rfl (fun K hK => ?_) AllReadyH.nil
          refine wp_apRow (.tmp 36) (.tmp 40) 64 rfl w.heap.size 48 Tryd.underlying64 sl_infos rfl (by decide) (.slice ra i rc) i zs rfl (I3.out.kp0 (K3.out)).row GB (.slice (some ⟨GB, 0, none⟩) 1 1) 1 [.slice ua rn uc] rfl N2.out (by simp [Value.oneCell']) (by unfold maxLen; have := IB.out; omega) (by have := IB.out; omega) (by have := S3s.out; have := (K3.out).size; omega) ?_
          intro v' w' o3 g3 n3
          obtain ⟨na, nc, rfl⟩ := own_sl o3
          obtain ⟨b3, i4, k4⟩ := (I3.out.kp0 (K3.out)).app (u := .slice ua rn uc) (by rw [← HRN.out, ← HRO.out]; exact OU.out) _ o3 g3
          obtain ⟨W4, hW4⟩ : ∃ W4, W4 = w'.setCell ⟨X, 1, none⟩ (.slice na (i + 1) nc) := ⟨_, rfl⟩
          rw [← hW4] at i4 k4
          have KK : Hid (Kp w W4 non) := (KO.out.trans (K3.out) (fun _ f => f.elim)).trans k4 (fun k e => Or.inr (e.elim (fun q => by rw [q]; exact XG.out) (fun q => own_ge I3.out.row q.symm)))
          have I4 := hide i4
          have SD : Hid (Stand N w.heap.size w' st x ao b o cap pv ns ∧ Stand N w.heap.size W4 st x ao b o cap pv ns) := by
            have z := I3.out.row
            have kg : Kp Y3 w' (fun k => some k = (Value.slice ra i rc).ownBlock) := Kp.of_grown g3
            have ky : Kp W3 Y3 non := K3.out
            exact SDL _ _ _ _ S3.out ky kg k4 (fun k e => own_ge z e.symm) XG.out (fun k e => by
              obtain ⟨c, hc⟩ := own_typ z e.symm
              intro q
              have := S3.out.cl
              unfold ClAt at this
              rw [← q, hc] at this
              simp at this) XC.out
          have c1 : w'.cell? ⟨X, 1, none⟩ = some (.slice ra i rc) := by rw [cell_row b3]; rfl
          have f1 := fz_row b3 1
          clear o3 g3 n3 b3 i4 k4
          refine hK.out _ _ (SD.out.1.cl) (fun hHeld => ?_)
          clear hK
          (try simp only [Act.put, List.setIfInBounds_toArray, List.set_cons_zero, List.set_cons_succ])
          refine wTk (i := 10) (v := (.pointer (some ⟨X, 0, none⟩))) rfl ?_ ?_
          · intro w' hSw
            (try dsimp only at hSw)
            go_simp
          (try simp only [Act.put, List.getElem_toArray, List.getElem_cons_zero, List.getElem_cons_succ, List.setIfInBounds_toArray, List.set_cons_zero, List.set_cons_succ])
          refine wTk (i := 11) (v := (.pointer (some ⟨X, 1, none⟩))) rfl ?_ ?_
          · intro w' hSw
            (try dsimp only at hSw)
            go_simp
          (try simp only [Act.put, List.getElem_toArray, List.getElem_cons_zero, List.getElem_cons_succ, List.setIfInBounds_toArray, List.set_cons_zero, List.set_cons_succ])
          refine wpAnyH_ready (rs := [12]) (by kernel_rfl) (by simp) ?_
          refine AllReadyH.cons rfl (fun K hK => ?_) AllReadyH.nil
          go_simp
          rw [← hW4]
          clear hW4 c1 f1
          refine hK.out _ _ (SD.out.2.cl) (fun hHeld => ?_)
          clear hK
          (try simp only [Act.put, List.setIfInBounds_toArray, List.set_cons_zero, List.set_cons_succ])
          refine wpAnyH_done (by kernel_rfl) ?_ _
          clear hHeld
          have hib : i < 64 := IB.out
          have ewi : wrap64 ((i : Int) + 1) = (i : Int) + 1 := wrap_in (by omega) (by omega)
          go_wp2_with fail
          go_roundw
          case rel => exact ⟨i + 1, by omega, by go_num, _, _, I4.out, SD.out.2, KK.out⟩
          case measure => simp [intOf]; omega
        · go_simp
          obtain ⟨Y2, hY2⟩ : ∃ Y, Y = Y1.alloc (.cells #[.slice ua rn uc] 48) := ⟨_, rfl⟩
          rw [← hY2]
          have N2 : Hid (Y2.ownsRow Y1.heap.size 48 1 (.slice (some ⟨Y1.heap.size, 0, none⟩) 1 1) 1 [.slice ua rn uc]) := by rw [hY2]; exact own_one _ _ _ _ rfl
          have ka : Kp Y1 Y2 non := by rw [hY2]; exact (Kp.refl _ non).alloc _
          have K2 : Hid (Kp W3 Y2 non) := (K1.out).trans ka (fun _ f => f.elim)
          have OU := hide (own_kp OU.out ka (fun _ _ f => f))
          have HBX : Hid (Y1.heap.size = Y1.heap.size) := rfl
          generalize Y1.heap.size = GB at *
          clear hY2 ka HBX
          refine hK.out _ _ ((S3.out.cl.below (K2.out.below))) (fun hHeld => ?_)
          clear hK
          (try simp only [Act.put, List.setIfInBounds_toArray, List.set_cons_zero, List.set_cons_succ])
          refine wpAnyH_ready (rs := [4]) (by kernel_rfl) (by simp) ?_
          refine AllReadyH.cons rfl (fun K hK => ?_) AllReadyH.nil
          have cc : Y2.cell? ⟨X, 1, none⟩ = some (.slice ra i rc) := by rw [cell_row (I3.out.kp0 (K2.out)).blk]; rfl
          go_simp
          clear cc
          refine hK.out _ _ ((S3.out.cl.below ((K2.out).below))) (fun hHeld => ?_)
          clear hK
          (try simp only [Act.put, List.setIfInBounds_toArray, List.set_cons_zero, List.set_cons_succ])
          refine wpAnyH_ready (rs := [9]) (by kernel_rfl) (by simp) ?_
          refine AllReadyH.cons rfl (fun K hK => ?_) AllReadyH.nil
          refine wp_apRow (.tmp 36) (.tmp 40) 64 rfl w.heap.size 48 Tryd.underlying64 sl_infos rfl (by decide) (.slice ra i rc) i zs rfl (I3.out.kp0 (K2.out)).row GB (.slice (some ⟨GB, 0, none⟩) 1 1) 1 [.slice ua rn uc] rfl N2.out (by simp [Value.oneCell']) (by unfold maxLen; have := IB.out; omega) (by have := IB.out; omega) (by have := S3s.out; have := (K2.out).size; omega) ?_
          intro v' w' o3 g3 n3
          obtain ⟨na, nc, rfl⟩ := own_sl o3
          obtain ⟨b3, i4, k4⟩ := (I3.out.kp0 (K2.out)).app (u := .slice ua rn uc) (by rw [← HRN.out, ← HRO.out]; exact OU.out) _ o3 g3
          obtain ⟨W4, hW4⟩ : ∃ W4, W4 = w'.setCell ⟨X, 1, none⟩ (.slice na (i + 1) nc) := ⟨_, rfl⟩
          rw [← hW4] at i4 k4
          have KK : Hid (Kp w W4 non) := (KO.out.trans (K2.out) (fun _ f => f.elim)).trans k4 (fun k e => Or.inr (e.elim (fun q => by rw [q]; exact XG.out) (fun q => own_ge I3.out.row q.symm)))
          have I4 := hide i4
          have SD : Hid (Stand N w.heap.size w' st x ao b o cap pv ns ∧ Stand N w.heap.size W4 st x ao b o cap pv ns) := by
            have z := I3.out.row
            have kg : Kp Y2 w' (fun k => some k = (Value.slice ra i rc).ownBlock) := Kp.of_grown g3
            have ky : Kp W3 Y2 non := K2.out
            exact SDL _ _ _ _ S3.out ky kg k4 (fun k e => own_ge z e.symm) XG.out (fun k e => by
              obtain ⟨c, hc⟩ := own_typ z e.symm
              intro q
              have := S3.out.cl
              unfold ClAt at this
              rw [← q, hc] at this
              simp at this) XC.out
          have c1 : w'.cell? ⟨X, 1, none⟩ = some (.slice ra i rc) := by rw [cell_row b3]; rfl
          have f1 := fz_row b3 1
          clear o3 g3 n3 b3 i4 k4
          refine hK.out _ _ (SD.out.1.cl) (fun hHeld => ?_)
          clear hK
          (try simp only [Act.put, List.setIfInBounds_toArray, List.set_cons_zero, List.set_cons_succ])
          refine wTk (i := 10) (v := (.pointer (some ⟨X, 0, none⟩))) rfl ?_ ?_
          · intro w' hSw
            (try dsimp only at hSw)
            go_simp
          (try simp only [Act.put, List.getElem_toArray, List.getElem_cons_zero, List.getElem_cons_succ, List.setIfInBounds_toArray, List.set_cons_zero, List.set_cons_succ])
          refine wTk (i := 11) (v := (.pointer (some ⟨X, 1, none⟩))) rfl ?_ ?_
          · intro w' hSw
            (try dsimp only at hSw)
            go_simp
          (try simp only [Act.put, List.getElem_toArray, List.getElem_cons_zero, List.getElem_cons_succ, List.setIfInBounds_toArray, List.set_cons_zero, List.set_cons_succ])
          refine wpAnyH_ready (rs := [12]) (by kernel_rfl) (by simp) ?_
          refine AllReadyH.cons rfl (fun K hK => ?_) AllReadyH.nil
          go_simp
          rw [← hW4]
          clear hW4 c1 f1
          refine hK.out _ _ (SD.out.2.cl) (fun hHeld => ?_)
          clear hK
          (try simp only [Act.put, List.setIfInBounds_toArray, List.set_cons_zero, List.set_cons_succ])
          refine wpAnyH_done (by kernel_rfl) ?_ _
          clear hHeld
          have hib : i < 64 := IB.out
          have ewi : wrap64 ((i : Int) + 1) = (i : Int) + 1 := wrap_in (by omega) (by omega)
          go_wp2_with fail
          go_roundw
          case rel => exact ⟨i + 1, by omega, by go_num, _, _, I4.out, SD.out.2, KK.out⟩
          case measure => simp [intOf]; omega
end Go.Proofs.YtpoegknmkbnjlaaDoor.Cn
