import Derived.Test.YtpleakkhbfhdkaaGCgNone
namespace Go.Proofs.Ytpleakkhbfhdkaa.Cn
open Go.RowKit
theorem Take_any {w : World} {S : Nat → Prop} {C : Nat} {c : Ct} (h : CtAt w S C c) (hf : c.fine) (m : Mg) :
    Calls Try.prog 20 #[.pointer (some ⟨C, 0, none⟩), .agg (mgV m)] w fun e w' => ∃ lv, e = .returned (.tuple #[lv, .int .i64 0]) ∧ Did w w' S C (takeC c m) lv (takeL c m) := by
  unfold takeC takeL
  cases hp : c.ph with
  | none =>
    refine Calls.mono (Take_idle h hf.n1 hp m) ?_
    rintro e w' ⟨rfl, hb⟩
    exact ⟨_, rfl, Did.pre (Kp.of_below hb S) (Did.nil (h.below hb))⟩
  | some x => exact Take_busy h hf.ok hp m
theorem num_any (e : Int) (w : World) : Calls Try.prog 11 #[.int .i64 e] w fun x w' => x = .returned (.int .i64 e) ∧ w = w' := by
  go_enter Try.func11, Try.ntmps11
  go_wp2_with fail
  go_ret
  exact ⟨rfl, rfl⟩
/-- the answer that is given to a message -/
def ansM (m : Mg) (h : Int) : Mg := { mg0 with kind := m.kind + 1, fr := m.td, td := m.fr, id := m.id, ep := m.ep, sq := m.sq, ver := if m.kind = 3 ∨ m.kind = 5 then m.ver else h }
def ansC (c : Ct) (h : Int) : List Mg → Ct
  | [] => c
  | m :: r => ansC (takeC c (ansM m h)) h r
def ansL (c : Ct) (h : Int) : List Mg → List Mg
  | [] => []
  | m :: r => takeL c (ansM m h) ++ ansL (takeC c (ansM m h)) h r
theorem ansC_fine {c : Ct} (hf : c.fine) (h : Int) (L : List Mg) : (ansC c h L).fine := by
  induction L generalizing c with
  | nil => exact hf
  | cons m r ih => exact ih (takeC_fine hf _)
theorem ansC_append (c : Ct) (h : Int) (a b : List Mg) : ansC c h (a ++ b) = ansC (ansC c h a) h b := by
  induction a generalizing c with
  | nil => rfl
  | cons m r ih => exact ih _
theorem ansL_append (c : Ct) (h : Int) (a b : List Mg) : ansL c h (a ++ b) = ansL c h a ++ ansL (ansC c h a) h b := by
  induction a generalizing c with
  | nil => rfl
  | cons m r ih =>
    show takeL c (ansM m h) ++ ansL _ h (r ++ b) = (takeL c (ansM m h) ++ ansL _ h r) ++ _
    rw [ih, List.append_assoc]
    rfl
theorem ans_succ (c : Ct) (h : Int) (L : List Mg) (i : Nat) (hi : i < L.length) : ansC c h (L.take (i + 1)) = takeC (ansC c h (L.take i)) (ansM L[i] h) ∧ ansL c h (L.take (i + 1)) = ansL c h (L.take i) ++ takeL (ansC c h (L.take i)) (ansM L[i] h) := by
  rw [List.take_succ_eq_append_getElem hi, ansC_append, ansL_append]
  exact ⟨rfl, by simp [ansL]⟩
theorem toAll_miss (m : Mg) (id : Int) (al : List (Bool × Int)) : (toAll m id (miss al)).length ≤ al.length := by rw [toAll_len]; exact miss_len al
theorem folL_len {c : Ct} (hf : c.fine) {p : Ph} {r : Rd} (hp : c.ph = some (p, r)) (v : Int) : (folL c p r v).length ≤ 16 := by
  have h := (hf.rd p r hp).1
  have n := hf.n16
  unfold folL entL
  split
  · have := toAll_miss (mesP p r) r.num r.al; omega
  · split
    · have := toAll_miss (mesP .swap (rd0 c.ru r.num r.kind r.ver)) (rd0 c.ru r.num r.kind r.ver).num (rd0 c.ru r.num r.kind r.ver).al
      have e : (rd0 c.ru r.num r.kind r.ver).al.length = c.ru.n := by simp [rd0]
      omega
    · split
      · have := toAll_miss (mesP .back (rd0 c.ru r.num r.kind r.ver)) (rd0 c.ru r.num r.kind r.ver).num (rd0 c.ru r.num r.kind r.ver).al
        have e : (rd0 c.ru r.num r.kind r.ver).al.length = c.ru.n := by simp [rd0]
        omega
      · simp
theorem takeL_len {c : Ct} (hf : c.fine) (m : Mg) : (takeL c m).length ≤ 16 := by
  unfold takeL
  cases hp : c.ph with
  | none => simp
  | some x =>
    obtain ⟨p, r⟩ := x
    have hr := hf.rd p r hp
    have hn : ({ c with ph := some (p, ntR r m) } : Ct).fine := fine_rd hf ⟨by simpa [ntR] using hr.1, hr.2.1, hr.2.2.1, hr.2.2.2.1, hr.2.2.2.2.1, hr.2.2.2.2.2⟩
    simp only [takL]
    split
    · split
      · split
        · exact folL_len hn rfl _
        · simp
      · exact folL_len hf hp _
    · simp
theorem ansL_len {c : Ct} (hf : c.fine) (h : Int) (L : List Mg) : (ansL c h L).length ≤ 16 * L.length := by
  induction L generalizing c with
  | nil => simp [ansL]
  | cons m r ih =>
    have h1 := takeL_len hf (ansM m h)
    have h2 := ih (takeC_fine hf (ansM m h))
    simp only [ansL, List.length_append, List.length_cons]
    omega
/-- append(out, m...) of messages -/
theorem wpList_apMs {w : World} {ops : Array Oper} {rest : List Oper} {o : Oper} {a : Act} {Q : Exit → Act → World → Prop} (hgd : o.guard = none) (x y : Operand) (ho : o.op = .call { callee := .builtin .append, args := #[x, y], argTypes := #[30, 30] }) (base b2 : Nat) (v v2 : Value) (L M : List Mg) (hx : a.eval x = v) (hv : w.ownsRow base 44 11 v L.length (mgs L)) (hy : a.eval y = v2) (hv2 : w.ownsRow b2 44 11 v2 M.length (mgs M)) (hl : L.length + M.length ≤ 1000000000000) (hb : base ≤ w.heap.size)
    (h : ∀ v' w', w'.ownsRow base 44 11 v' (L ++ M).length (mgs (L ++ M)) → w.grownBy w' v.ownBlock → (∀ k, v'.ownBlock = some k → v.ownBlock = some k ∨ k = w.heap.size) → wpList Try.prog ops Q rest (a.put o.dst v') w') : wpList Try.prog ops Q (o :: rest) a w := by
  obtain ⟨i0, hi, hz0, hz1, hz2⟩ := mg_parts mg_infos
  rcases hv2.2 with ⟨e2, hz⟩ | ⟨g, cap, cur, e2, hb2, hg, _⟩
  · have hM : M = [] := List.length_eq_zero_iff.1 hz
    subst hM
    refine wpList_plain hgd fun K hK => ?_
    have hrun := run_append_owned_none (P := Try.prog) (w := w) base 30 o.type 44 i0 11 Try.underlying30 hi v L.length (mgs L) hv
    unfold Oper.wp execOp
    simp only [ho, resolve, invoke, builtin, Sem.run_bind, Sem.run_pure, Result.andThen_ok, List.map_toArray, List.map_cons, List.map_nil, hx, hy, e2, hrun]
    exact hK _ _ (h v w (by rw [List.append_nil]; exact hv) ⟨rfl, rfl, rfl, Nat.le_refl _, fun _ _ _ => rfl⟩ (fun k e => Or.inl e))
  · refine wpList_append_own_at _ hgd _ _ 30 ho base 44 i0 _ 11 104 Try.underlying30 hi hz0 hz1 hz2 rfl (by decide) _ _ _ hx hv ⟨g, 0, none⟩ M.length cap (mgs M) (hy.trans e2) (mgs_len M) ?_ (mgs_oneCell _) (by unfold maxLen; omega) (by omega) hb ?_
    · intro j u hj
      have h1 := (List.getElem?_eq_some_iff.1 hj).1
      rw [mgs_len] at h1
      subst e2
      rw [Addr.add_mid, Nat.zero_add, hv2.cellAt j h1]
      exact hj
    · intro v' w' h1 h2 _ h5
      rw [← mgs_append, ← List.length_append] at h1
      refine h v' w' h1 h2 (fun k hk => ?_)
      rcases h5 with h5 | h5
      · exact Or.inl (h5 ▸ hk)
      · rw [h5] at hk
        cases hk
        exact Or.inr rfl
theorem own_mg {w : World} {base : Nat} {v : Value} {L : List Mg} (h : w.ownsRow base 44 11 v L.length (mgs L)) (i : Nat) (hi : i < L.length) : ∃ g c, v = .slice (some ⟨g, 0, none⟩) L.length c ∧ g < w.heap.size ∧ (w.cell? ⟨g, i * 11, none⟩ = some (.int .i64 L[i].kind) ∧ w.cell? ⟨g, i * 11 + 1, none⟩ = some (.int .i64 L[i].fr) ∧ w.cell? ⟨g, i * 11 + 2, none⟩ = some (.int .i64 L[i].td) ∧ w.cell? ⟨g, i * 11 + 3, none⟩ = some (.int .i64 L[i].id) ∧ w.cell? ⟨g, i * 11 + 4, none⟩ = some (.int .i64 L[i].ep) ∧ w.cell? ⟨g, i * 11 + 5, none⟩ = some (.int .i64 L[i].sq) ∧ w.cell? ⟨g, i * 11 + 6, none⟩ = some (.int .i64 L[i].ver)) ∧ w.rangeAt g (i * 11) (mgV L[i]).toList := by
  rcases h.2 with ⟨hv, hz⟩ | ⟨g, cap', cur, hv, hb, hg, _⟩
  · omega
  · subst hv
    have q : ∀ j, j < 11 → w.cell? ⟨g, i * 11 + j, none⟩ = (mgV L[i])[j]? := fun j hj => by
      rw [h.cellAt (i * 11 + j) (by omega), mgs_at L i hi j hj]
    refine ⟨g, cap', rfl, blk_lt hg, ⟨q 0 (by omega), q 1 (by omega), q 2 (by omega), q 3 (by omega), q 4 (by omega), q 5 (by omega), q 6 (by omega)⟩, fun j u hj => ?_⟩
    have h1 := (List.getElem?_eq_some_iff.1 hj).1
    rw [q j (by simpa [mgV] using h1)]
    simpa using hj
set_option maxHeartbeats 8000000 in
set_option maxRecDepth 100000 in
set_option linter.unusedSimpArgs false in
set_option linter.unusedVariables false in
theorem answers_any {w : World} {S : Nat → Prop} {C : Nat} {c : Ct} (h : CtAt w S C c) (hf : c.fine) (v : Value) (L : List Mg) (hd : Int) (hv : w.ownsRow 0 44 11 v L.length (mgs L)) (hs : ∀ k, v.ownBlock = some k → ¬ S k) (hl : L.length ≤ 1000) (hk : ∀ m ∈ L, 0 ≤ m.kind ∧ m.kind ≤ 1000) :
    Calls Try.prog 15 #[.pointer (some ⟨C, 0, none⟩), v, .int .i64 hd] w fun e w' => ∃ lv, e = .returned (.tuple #[lv, .bool true]) ∧ Did w w' S C (ansC c hd L) lv (ansL c hd L) := by
  have LT := hide h.lt
  obtain ⟨va, vc, rfl⟩ := own_sl hv
  obtain ⟨n, hn⟩ : ∃ n, n = L.length := ⟨_, rfl⟩
  have HN := hide hn
  have HX := hide h
  have HV := hide hv
  have HS := hide hs
  have HF := hide hf
  have HKd := hide hk
  rw [← hn] at hl ⊢
  rw [← hn] at HS
  clear h hf hv hs hk hn
  go_enter Try.func15, Try.ntmps15
  go_wp2_with fail
  go_loopw [8, 9] (fun vl vi wr => ∃ (i : Nat), i ≤ n ∧ vi = .int .i64 (i : Int) ∧ Hid (Did w wr S C (ansC c hd (L.take i)) vl (ansL c hd (L.take i)))) (fun _ vi _ => n - (intOf vi).toNat)
  case atStart => exact ⟨0, Nat.zero_le _, rfl, Did.nil HX.out⟩
  case round =>
    obtain ⟨i, hi, rfl, HD⟩ := hrel
    by_cases hin : i < n
    case neg =>
      obtain rfl : i = n := by omega
      go_wp2_with fail
      go_ret2
      have e : L.take i = L := by rw [HN.out, List.take_length]
      rw [e] at HD
      exact ⟨_, rfl, HD.out⟩
    case pos =>
      have hii : (i : Int) < (n : Int) := by omega
      have hiL : i < L.length := by rw [← HN.out]; exact hin
      obtain ⟨S1, x1, s1, k1, o1, d1⟩ := HD.out
      have HVr : Hid (wr.ownsRow 0 44 11 (.slice va n vc) L.length (mgs L)) := by
        have e := own_kp HV.out k1 (fun k hk => HS.out k (by rw [HN.out]; exact hk))
        rw [← HN.out] at e
        rw [← HN.out]
        exact e
      obtain ⟨g, c9, hv9, hg, cl, rg⟩ := own_mg HVr.out i hiL
      clear rg
      have hv8 : va = some ⟨g, 0, none⟩ := by simp only [Value.slice.injEq] at hv9; exact hv9.1
      clear hv9
      subst hv8
      have SU := hide (ans_succ c hd L i hiL)
      have km := HKd.out _ (List.getElem_mem hiL)
      obtain ⟨m, hm⟩ : ∃ m, m = L[i] := ⟨_, rfl⟩
      rw [← hm] at cl SU km
      have CL := hide cl
      have LN := hide (ansL_len HF.out hd (L.take i))
      have FC := hide (ansC_fine HF.out hd (L.take i))
      obtain ⟨ci, hci⟩ : ∃ ci, ci = ansC c hd (L.take i) := ⟨_, rfl⟩
      obtain ⟨Li, hLi⟩ : ∃ Li, Li = ansL c hd (L.take i) := ⟨_, rfl⟩
      rw [← hci] at x1 SU FC
      rw [← hLi] at o1 SU LN
      have X1 := hide x1
      have S1' := hide s1
      have K1 := hide k1
      have O1 := hide o1
      have DD1 := hide d1
      clear x1 s1 k1 o1 d1 cl hm hci hLi HD
      obtain ⟨kd, hkd⟩ : ∃ kd, kd = m.kind := ⟨_, rfl⟩
      rw [← hkd] at km CL
      have HKD := hide hkd
      clear hkd
      have wk : IntKind.i64.wrap (kd + 1) = kd + 1 := i64_in (by omega) (by omega)
      have F : Hid (∀ X : World, X.heap[g]? = wr.heap[g]? → X.cell? ⟨g, i * 11, none⟩ = some (.int .i64 kd) ∧ X.cell? ⟨g, i * 11 + 1, none⟩ = some (.int .i64 m.fr) ∧ X.cell? ⟨g, i * 11 + 2, none⟩ = some (.int .i64 m.td) ∧ X.cell? ⟨g, i * 11 + 3, none⟩ = some (.int .i64 m.id) ∧ X.cell? ⟨g, i * 11 + 4, none⟩ = some (.int .i64 m.ep) ∧ X.cell? ⟨g, i * 11 + 5, none⟩ = some (.int .i64 m.sq) ∧ X.cell? ⟨g, i * 11 + 6, none⟩ = some (.int .i64 m.ver)) := fun X hX => by
        have cl := CL.out
        unfold World.cell? at *
        rw [hX]
        exact cl
      obtain ⟨a0, ha0⟩ : ∃ a0 : Mg, a0 = { mg0 with kind := kd + 1, fr := m.td, td := m.fr, id := m.id, ep := m.ep, sq := m.sq, ver := hd } := ⟨_, rfl⟩
      replace ha0 := hide ha0
      go_upto_region 5 with fail
      refine wp_region_held_drew (S := fun X => X.heap[g]? = wr.heap[g]?) (by kernel_rfl) rfl (fun hHeld => ?_)
      refine wpAnyH_take (i := 0) (v := (.slice (some ⟨g, 0, none⟩) n vc)) rfl (by kernel_rfl) (by kernel_rfl) (by kernel_rfl) (fun _ _ _ h => h) (Or.inl ⟨by kernel_rfl, ?_⟩) (by assumption) ?_
      · intro w' hSw
        (try dsimp only at hSw)
        go_simp
      (try simp only [Act.put, List.getElem_toArray, List.getElem_cons_zero, List.getElem_cons_succ, List.setIfInBounds_toArray, List.set_cons_zero, List.set_cons_succ])
      refine wpAnyH_take (i := 1) (v := (.int .i64 (i : Int))) rfl (by kernel_rfl) (by kernel_rfl) (by kernel_rfl) (fun _ _ _ h => h) (Or.inl ⟨by kernel_rfl, ?_⟩) (by assumption) ?_
      · intro w' hSw
        (try dsimp only at hSw)
        go_simp
      (try simp only [Act.put, List.getElem_toArray, List.getElem_cons_zero, List.getElem_cons_succ, List.setIfInBounds_toArray, List.set_cons_zero, List.set_cons_succ])
      refine wpAnyH_take (i := 2) (v := (.pointer (some ⟨g, i * 11, none⟩))) rfl (by kernel_rfl) (by kernel_rfl) (by kernel_rfl) (fun _ _ _ h => h) (Or.inl ⟨by kernel_rfl, ?_⟩) (by assumption) ?_
      · intro w' hSw
        (try dsimp only at hSw)
        go_simp
      (try simp only [Act.put, List.getElem_toArray, List.getElem_cons_zero, List.getElem_cons_succ, List.setIfInBounds_toArray, List.set_cons_zero, List.set_cons_succ])
      refine wpAnyH_take (i := 3) (v := (.pointer (some ⟨g, i * 11, none⟩))) rfl (by kernel_rfl) (by kernel_rfl) (by kernel_rfl) (fun _ _ _ h => h) (Or.inl ⟨by kernel_rfl, ?_⟩) (by assumption) ?_
      · intro w' hSw
        (try dsimp only at hSw)
        go_simp
      (try simp only [Act.put, List.getElem_toArray, List.getElem_cons_zero, List.getElem_cons_succ, List.setIfInBounds_toArray, List.set_cons_zero, List.set_cons_succ])
      refine wpAnyH_take (i := 4) (v := (.int .i64 kd)) rfl (by kernel_rfl) (by kernel_rfl) (by kernel_rfl) (fun _ _ _ h => h) (Or.inl ⟨by kernel_rfl, ?_⟩) (by assumption) ?_
      · intro w' hSw
        (try dsimp only at hSw)
        (have z := (F.out _ hSw).1; go_simp)
      (try simp only [Act.put, List.getElem_toArray, List.getElem_cons_zero, List.getElem_cons_succ, List.setIfInBounds_toArray, List.set_cons_zero, List.set_cons_succ])
      refine wpAnyH_take (i := 5) (v := (.int .i64 (kd + 1))) rfl (by kernel_rfl) (by kernel_rfl) (by kernel_rfl) (fun _ _ _ h => h) (Or.inl ⟨by kernel_rfl, ?_⟩) (by assumption) ?_
      · intro w' hSw
        (try dsimp only at hSw)
        (go_simp)
      (try simp only [Act.put, List.getElem_toArray, List.getElem_cons_zero, List.getElem_cons_succ, List.setIfInBounds_toArray, List.set_cons_zero, List.set_cons_succ])
      refine wpAnyH_take (i := 6) (v := (.slice (some ⟨g, 0, none⟩) n vc)) rfl (by kernel_rfl) (by kernel_rfl) (by kernel_rfl) (fun _ _ _ h => h) (Or.inl ⟨by kernel_rfl, ?_⟩) (by assumption) ?_
      · intro w' hSw
        (try dsimp only at hSw)
        go_simp
      (try simp only [Act.put, List.getElem_toArray, List.getElem_cons_zero, List.getElem_cons_succ, List.setIfInBounds_toArray, List.set_cons_zero, List.set_cons_succ])
      refine wpAnyH_take (i := 7) (v := (.int .i64 (i : Int))) rfl (by kernel_rfl) (by kernel_rfl) (by kernel_rfl) (fun _ _ _ h => h) (Or.inl ⟨by kernel_rfl, ?_⟩) (by assumption) ?_
      · intro w' hSw
        (try dsimp only at hSw)
        go_simp
      (try simp only [Act.put, List.getElem_toArray, List.getElem_cons_zero, List.getElem_cons_succ, List.setIfInBounds_toArray, List.set_cons_zero, List.set_cons_succ])
      refine wpAnyH_take (i := 8) (v := (.pointer (some ⟨g, i * 11, none⟩))) rfl (by kernel_rfl) (by kernel_rfl) (by kernel_rfl) (fun _ _ _ h => h) (Or.inl ⟨by kernel_rfl, ?_⟩) (by assumption) ?_
      · intro w' hSw
        (try dsimp only at hSw)
        go_simp
      (try simp only [Act.put, List.getElem_toArray, List.getElem_cons_zero, List.getElem_cons_succ, List.setIfInBounds_toArray, List.set_cons_zero, List.set_cons_succ])
      refine wpAnyH_take (i := 9) (v := (.pointer (some ⟨g, i * 11 + 2, none⟩))) rfl (by kernel_rfl) (by kernel_rfl) (by kernel_rfl) (fun _ _ _ h => h) (Or.inl ⟨by kernel_rfl, ?_⟩) (by assumption) ?_
      · intro w' hSw
        (try dsimp only at hSw)
        go_simp
      (try simp only [Act.put, List.getElem_toArray, List.getElem_cons_zero, List.getElem_cons_succ, List.setIfInBounds_toArray, List.set_cons_zero, List.set_cons_succ])
      refine wpAnyH_take (i := 10) (v := (.int .i64 m.td)) rfl (by kernel_rfl) (by kernel_rfl) (by kernel_rfl) (fun _ _ _ h => h) (Or.inl ⟨by kernel_rfl, ?_⟩) (by assumption) ?_
      · intro w' hSw
        (try dsimp only at hSw)
        (have z := (F.out _ hSw).2.2.1; go_simp)
      (try simp only [Act.put, List.getElem_toArray, List.getElem_cons_zero, List.getElem_cons_succ, List.setIfInBounds_toArray, List.set_cons_zero, List.set_cons_succ])
      refine wpAnyH_take (i := 11) (v := (.slice (some ⟨g, 0, none⟩) n vc)) rfl (by kernel_rfl) (by kernel_rfl) (by kernel_rfl) (fun _ _ _ h => h) (Or.inl ⟨by kernel_rfl, ?_⟩) (by assumption) ?_
      · intro w' hSw
        (try dsimp only at hSw)
        go_simp
      (try simp only [Act.put, List.getElem_toArray, List.getElem_cons_zero, List.getElem_cons_succ, List.setIfInBounds_toArray, List.set_cons_zero, List.set_cons_succ])
      refine wpAnyH_take (i := 12) (v := (.int .i64 (i : Int))) rfl (by kernel_rfl) (by kernel_rfl) (by kernel_rfl) (fun _ _ _ h => h) (Or.inl ⟨by kernel_rfl, ?_⟩) (by assumption) ?_
      · intro w' hSw
        (try dsimp only at hSw)
        go_simp
      (try simp only [Act.put, List.getElem_toArray, List.getElem_cons_zero, List.getElem_cons_succ, List.setIfInBounds_toArray, List.set_cons_zero, List.set_cons_succ])
      refine wpAnyH_take (i := 13) (v := (.pointer (some ⟨g, i * 11, none⟩))) rfl (by kernel_rfl) (by kernel_rfl) (by kernel_rfl) (fun _ _ _ h => h) (Or.inl ⟨by kernel_rfl, ?_⟩) (by assumption) ?_
      · intro w' hSw
        (try dsimp only at hSw)
        go_simp
      (try simp only [Act.put, List.getElem_toArray, List.getElem_cons_zero, List.getElem_cons_succ, List.setIfInBounds_toArray, List.set_cons_zero, List.set_cons_succ])
      refine wpAnyH_take (i := 14) (v := (.pointer (some ⟨g, i * 11 + 1, none⟩))) rfl (by kernel_rfl) (by kernel_rfl) (by kernel_rfl) (fun _ _ _ h => h) (Or.inl ⟨by kernel_rfl, ?_⟩) (by assumption) ?_
      · intro w' hSw
        (try dsimp only at hSw)
        go_simp
      (try simp only [Act.put, List.getElem_toArray, List.getElem_cons_zero, List.getElem_cons_succ, List.setIfInBounds_toArray, List.set_cons_zero, List.set_cons_succ])
      refine wpAnyH_take (i := 15) (v := (.int .i64 m.fr)) rfl (by kernel_rfl) (by kernel_rfl) (by kernel_rfl) (fun _ _ _ h => h) (Or.inl ⟨by kernel_rfl, ?_⟩) (by assumption) ?_
      · intro w' hSw
        (try dsimp only at hSw)
        (have z := (F.out _ hSw).2.1; go_simp)
      (try simp only [Act.put, List.getElem_toArray, List.getElem_cons_zero, List.getElem_cons_succ, List.setIfInBounds_toArray, List.set_cons_zero, List.set_cons_succ])
      refine wpAnyH_take (i := 16) (v := (.slice (some ⟨g, 0, none⟩) n vc)) rfl (by kernel_rfl) (by kernel_rfl) (by kernel_rfl) (fun _ _ _ h => h) (Or.inl ⟨by kernel_rfl, ?_⟩) (by assumption) ?_
      · intro w' hSw
        (try dsimp only at hSw)
        go_simp
      (try simp only [Act.put, List.getElem_toArray, List.getElem_cons_zero, List.getElem_cons_succ, List.setIfInBounds_toArray, List.set_cons_zero, List.set_cons_succ])
      refine wpAnyH_take (i := 17) (v := (.int .i64 (i : Int))) rfl (by kernel_rfl) (by kernel_rfl) (by kernel_rfl) (fun _ _ _ h => h) (Or.inl ⟨by kernel_rfl, ?_⟩) (by assumption) ?_
      · intro w' hSw
        (try dsimp only at hSw)
        go_simp
      (try simp only [Act.put, List.getElem_toArray, List.getElem_cons_zero, List.getElem_cons_succ, List.setIfInBounds_toArray, List.set_cons_zero, List.set_cons_succ])
      refine wpAnyH_take (i := 18) (v := (.pointer (some ⟨g, i * 11, none⟩))) rfl (by kernel_rfl) (by kernel_rfl) (by kernel_rfl) (fun _ _ _ h => h) (Or.inl ⟨by kernel_rfl, ?_⟩) (by assumption) ?_
      · intro w' hSw
        (try dsimp only at hSw)
        go_simp
      (try simp only [Act.put, List.getElem_toArray, List.getElem_cons_zero, List.getElem_cons_succ, List.setIfInBounds_toArray, List.set_cons_zero, List.set_cons_succ])
      refine wpAnyH_take (i := 19) (v := (.pointer (some ⟨g, i * 11 + 3, none⟩))) rfl (by kernel_rfl) (by kernel_rfl) (by kernel_rfl) (fun _ _ _ h => h) (Or.inl ⟨by kernel_rfl, ?_⟩) (by assumption) ?_
      · intro w' hSw
        (try dsimp only at hSw)
        go_simp
      (try simp only [Act.put, List.getElem_toArray, List.getElem_cons_zero, List.getElem_cons_succ, List.setIfInBounds_toArray, List.set_cons_zero, List.set_cons_succ])
      refine wpAnyH_take (i := 20) (v := (.int .i64 m.id)) rfl (by kernel_rfl) (by kernel_rfl) (by kernel_rfl) (fun _ _ _ h => h) (Or.inl ⟨by kernel_rfl, ?_⟩) (by assumption) ?_
      · intro w' hSw
        (try dsimp only at hSw)
        (have z := (F.out _ hSw).2.2.2.1; go_simp)
      (try simp only [Act.put, List.getElem_toArray, List.getElem_cons_zero, List.getElem_cons_succ, List.setIfInBounds_toArray, List.set_cons_zero, List.set_cons_succ])
      refine wpAnyH_take (i := 21) (v := (.slice (some ⟨g, 0, none⟩) n vc)) rfl (by kernel_rfl) (by kernel_rfl) (by kernel_rfl) (fun _ _ _ h => h) (Or.inl ⟨by kernel_rfl, ?_⟩) (by assumption) ?_
      · intro w' hSw
        (try dsimp only at hSw)
        go_simp
      (try simp only [Act.put, List.getElem_toArray, List.getElem_cons_zero, List.getElem_cons_succ, List.setIfInBounds_toArray, List.set_cons_zero, List.set_cons_succ])
      refine wpAnyH_take (i := 22) (v := (.int .i64 (i : Int))) rfl (by kernel_rfl) (by kernel_rfl) (by kernel_rfl) (fun _ _ _ h => h) (Or.inl ⟨by kernel_rfl, ?_⟩) (by assumption) ?_
      · intro w' hSw
        (try dsimp only at hSw)
        go_simp
      (try simp only [Act.put, List.getElem_toArray, List.getElem_cons_zero, List.getElem_cons_succ, List.setIfInBounds_toArray, List.set_cons_zero, List.set_cons_succ])
      refine wpAnyH_take (i := 23) (v := (.pointer (some ⟨g, i * 11, none⟩))) rfl (by kernel_rfl) (by kernel_rfl) (by kernel_rfl) (fun _ _ _ h => h) (Or.inl ⟨by kernel_rfl, ?_⟩) (by assumption) ?_
      · intro w' hSw
        (try dsimp only at hSw)
        go_simp
      (try simp only [Act.put, List.getElem_toArray, List.getElem_cons_zero, List.getElem_cons_succ, List.setIfInBounds_toArray, List.set_cons_zero, List.set_cons_succ])
      refine wpAnyH_take (i := 24) (v := (.pointer (some ⟨g, i * 11 + 4, none⟩))) rfl (by kernel_rfl) (by kernel_rfl) (by kernel_rfl) (fun _ _ _ h => h) (Or.inl ⟨by kernel_rfl, ?_⟩) (by assumption) ?_
      · intro w' hSw
        (try dsimp only at hSw)
        go_simp
      (try simp only [Act.put, List.getElem_toArray, List.getElem_cons_zero, List.getElem_cons_succ, List.setIfInBounds_toArray, List.set_cons_zero, List.set_cons_succ])
      refine wpAnyH_take (i := 25) (v := (.int .i64 m.ep)) rfl (by kernel_rfl) (by kernel_rfl) (by kernel_rfl) (fun _ _ _ h => h) (Or.inl ⟨by kernel_rfl, ?_⟩) (by assumption) ?_
      · intro w' hSw
        (try dsimp only at hSw)
        (have z := (F.out _ hSw).2.2.2.2.1; go_simp)
      (try simp only [Act.put, List.getElem_toArray, List.getElem_cons_zero, List.getElem_cons_succ, List.setIfInBounds_toArray, List.set_cons_zero, List.set_cons_succ])
      refine wpAnyH_take (i := 26) (v := (.slice (some ⟨g, 0, none⟩) n vc)) rfl (by kernel_rfl) (by kernel_rfl) (by kernel_rfl) (fun _ _ _ h => h) (Or.inl ⟨by kernel_rfl, ?_⟩) (by assumption) ?_
      · intro w' hSw
        (try dsimp only at hSw)
        go_simp
      (try simp only [Act.put, List.getElem_toArray, List.getElem_cons_zero, List.getElem_cons_succ, List.setIfInBounds_toArray, List.set_cons_zero, List.set_cons_succ])
      refine wpAnyH_take (i := 27) (v := (.int .i64 (i : Int))) rfl (by kernel_rfl) (by kernel_rfl) (by kernel_rfl) (fun _ _ _ h => h) (Or.inl ⟨by kernel_rfl, ?_⟩) (by assumption) ?_
      · intro w' hSw
        (try dsimp only at hSw)
        go_simp
      (try simp only [Act.put, List.getElem_toArray, List.getElem_cons_zero, List.getElem_cons_succ, List.setIfInBounds_toArray, List.set_cons_zero, List.set_cons_succ])
      refine wpAnyH_take (i := 28) (v := (.pointer (some ⟨g, i * 11, none⟩))) rfl (by kernel_rfl) (by kernel_rfl) (by kernel_rfl) (fun _ _ _ h => h) (Or.inl ⟨by kernel_rfl, ?_⟩) (by assumption) ?_
      · intro w' hSw
        (try dsimp only at hSw)
        go_simp
      (try simp only [Act.put, List.getElem_toArray, List.getElem_cons_zero, List.getElem_cons_succ, List.setIfInBounds_toArray, List.set_cons_zero, List.set_cons_succ])
      refine wpAnyH_take (i := 29) (v := (.pointer (some ⟨g, i * 11 + 5, none⟩))) rfl (by kernel_rfl) (by kernel_rfl) (by kernel_rfl) (fun _ _ _ h => h) (Or.inl ⟨by kernel_rfl, ?_⟩) (by assumption) ?_
      · intro w' hSw
        (try dsimp only at hSw)
        go_simp
      (try simp only [Act.put, List.getElem_toArray, List.getElem_cons_zero, List.getElem_cons_succ, List.setIfInBounds_toArray, List.set_cons_zero, List.set_cons_succ])
      refine wpAnyH_take (i := 30) (v := (.int .i64 m.sq)) rfl (by kernel_rfl) (by kernel_rfl) (by kernel_rfl) (fun _ _ _ h => h) (Or.inl ⟨by kernel_rfl, ?_⟩) (by assumption) ?_
      · intro w' hSw
        (try dsimp only at hSw)
        (have z := (F.out _ hSw).2.2.2.2.2.1; go_simp)
      (try simp only [Act.put, List.getElem_toArray, List.getElem_cons_zero, List.getElem_cons_succ, List.setIfInBounds_toArray, List.set_cons_zero, List.set_cons_succ])
      refine wpAnyH_take (i := 31) (v := (.int .i64 hd)) rfl (by kernel_rfl) (by kernel_rfl) (by kernel_rfl) (fun _ _ _ h => h) (Or.inl ⟨by kernel_rfl, ?_⟩) (by assumption) ?_
      · intro w' hSw
        (try dsimp only at hSw)
        go_simp
      (try simp only [Act.put, List.getElem_toArray, List.getElem_cons_zero, List.getElem_cons_succ, List.setIfInBounds_toArray, List.set_cons_zero, List.set_cons_succ])
      refine wpAnyH_take (i := 32) (v := (.agg (mgV a0))) rfl (by kernel_rfl) (by kernel_rfl) (by kernel_rfl) (fun _ _ _ h => h) (Or.inl ⟨by kernel_rfl, ?_⟩) (by assumption) ?_
      · intro w' hSw
        (try dsimp only at hSw)
        (rw [ha0.out]; exact exec_bl 44 #[(0, .tmp 24), (1, .tmp 29), (2, .tmp 34), (3, .tmp 39), (4, .tmp 44), (5, .tmp 49), (6, .tmp 50)] rfl _ (by kernel_rfl))
      (try simp only [Act.put, List.getElem_toArray, List.getElem_cons_zero, List.getElem_cons_succ, List.setIfInBounds_toArray, List.set_cons_zero, List.set_cons_succ])
      have B0 : Hid (Kp wr (wr.alloc (.cells (mgV mg0) 44)).drew (fun k => k = wr.heap.size)) := ((Kp.refl wr _).alloc _).drew
      refine wpAnyH_ready (rs := [33]) (by kernel_rfl) (by simp) ?_
      refine AllReadyH.cons rfl (fun K hK => ?_) AllReadyH.nil
      go_simp
      rw [show (#[.int .i64 0, .int .i64 0, .int .i64 0, .int .i64 0, .int .i64 0, .int .i64 0, .int .i64 0, .int .i64 0, .int .i64 0, .string ⟨#[]⟩, .string ⟨#[]⟩] : Array Value) = mgV mg0 from rfl]
      refine hK.out _ _ ((B0.out.block _ hg (by omega))) (fun hHeld => ?_)
      clear hK
      (try simp only [Act.put, List.setIfInBounds_toArray, List.set_cons_zero, List.set_cons_succ])
      refine wpAnyH_ready (rs := [34]) (by kernel_rfl) (by simp) ?_
      refine AllReadyH.cons rfl (fun K hK => ?_) AllReadyH.nil
      refine wp_store_row 44 (.tmp 10) (.tmp 51) rfl wr.heap.size (mgV a0) rfl rfl 44 (mgV mg0) (heap_last wr _) mg_info rfl (mg_one _) ?_
      obtain ⟨W1, hW1⟩ : ∃ W1 : World, W1 = World.setRow (wr.alloc (.cells (mgV mg0) 44)).drew wr.heap.size (mgV a0) := ⟨_, rfl⟩
      have k1 : Hid (Kp wr W1 non) := by rw [hW1]; exact ((Kp.refl wr non).alloc _).drew.row (Or.inr (Nat.le_refl _)) _
      have m1 : Hid (MgAt W1 wr.heap.size a0) := by rw [hW1]; exact setRow_heap _ _ _ _ _ _ (heap_last wr _)
      rw [← hW1]
      clear hW1 B0 hHeld
      refine hK.out _ _ ((k1.out.block _ hg (fun f => f))) (fun hHeld => ?_)
      clear hK
      (try simp only [Act.put, List.setIfInBounds_toArray, List.set_cons_zero, List.set_cons_succ])
      refine wpAnyH_done (by kernel_rfl) ?_ _
      have F1 := F.out W1 (k1.out.block _ hg (fun f => f))
      obtain ⟨f0, _, _, _, _, _, f6⟩ := F1
      have X2 : Hid (CtAt W1 S1 C ci) := X1.out.kp k1.out (fun _ f => f.elim)
      have K2 : Hid (Kp w W1 S) := K1.out.trans k1.out (fun _ f => f.elim)
      have O2 : Hid (W1.ownsRow w.heap.size 44 11 u8 Li.length (mgs Li)) := own_kp O1.out k1.out (fun _ _ f => f)
      have nS : Hid (¬ S1 wr.heap.size) := fun e => by have := X1.out.lt _ e; omega
      obtain ⟨B, hB⟩ : ∃ B, B = wr.heap.size := ⟨_, rfl⟩
      have HB := hide hB
      have szw : Hid (w.heap.size ≤ B) := by rw [hB]; exact K1.out.size
      have nO : Hid (∀ k, u8.ownBlock = some k → k ≠ B) := fun k hk e => by have := own_lt2 O1.out hk; rw [e, hB] at this; omega
      rw [← hB] at m1 nS ⊢
      clear hB F k1 X1 K1 O1 CL
      by_cases h3 : kd = 3
      case pos =>
        have q3 : (kd == 3) = true := by simp [h3]
        have ea : { a0 with ver := m.ver } = ansM m hd := by rw [ha0.out]; unfold ansM; rw [if_pos (by rw [← HKD.out]; omega), HKD.out]
        have y6 : W1.cell? ⟨B, 6, none⟩ = some (.int .i64 a0.ver) := m1.out.cells.2.2.2.2.2.2.1
        have z6 : W1.frozen? ⟨B, 6, none⟩ = false := fz_row m1.out 6
        obtain ⟨W3, hW3⟩ : ∃ W3, W3 = W1.setCell ⟨B, 6, none⟩ (.int .i64 m.ver) := ⟨_, rfl⟩
        have M3 : Hid (MgAt W3 B (ansM m hd)) := by rw [hW3, ← ea]; exact set_row m1.out 6 _
        have k3 : Kp W1 W3 (fun k => k = B) := by rw [hW3]; exact (Kp.refl W1 (fun k => k = B)).set (Or.inl rfl) _ _
        have X3 : Hid (CtAt W3 S1 C ci) := X2.out.kp k3 (fun k e => by rw [e]; exact nS.out)
        have K3 : Hid (Kp w W3 S) := K2.out.trans k3 (fun k e => Or.inr (by rw [e]; exact szw.out))
        have O3 : Hid (W3.ownsRow w.heap.size 44 11 u8 Li.length (mgs Li)) := own_kp O2.out k3 (fun k hk e => nO.out k hk e)
        replace hW3 := hide hW3
        clear h3 ea m1 k3 X2 K2 O2
        go_upto_region 8 with fail
        rw [← hW3.out]
        clear f0 f6 hW3 y6 z6 q3
        have TK := hide (Take_any X3.out FC.out (ansM m hd))
        go_wp2_with (refine wpList_ldM rfl (.tmp 10) rfl (ansM m hd) B rfl M3.out ?_)
        refine Calls.mono TK.out ?_
        rintro e W4 ⟨lv, rfl, di⟩
        obtain ⟨S4, x4, s4, k4, o4, d4⟩ := di
        obtain ⟨la, lc, rfl⟩ := own_sl o4
        have O5 : Hid (W4.ownsRow w.heap.size 44 11 u8 Li.length (mgs Li)) := own_kp O3.out k4 (fun k hk e => DD1.out k hk e)
        have O4 := hide o4
        have X4 := hide x4
        have S4' := hide s4
        have K4 : Hid (Kp w W4 S) := K3.out.trans k4 S1'.out
        have D4 := hide d4
        have TL := takeL_len FC.out (ansM m hd)
        have LL : Hid (Li.length ≤ 16000) := by have t := LN.out; rw [List.length_take] at t; have := HN.out; show Li.length ≤ 16000; omega
        have sz3 : Hid (W3.heap.size ≤ W4.heap.size ∧ w.heap.size ≤ W4.heap.size ∧ w.heap.size ≤ W3.heap.size) := ⟨k4.size, K4.out.size, K3.out.size⟩
        clear x4 s4 k4 o4 d4 TK M3
        obtain ⟨tl, htl⟩ : ∃ tl, tl = takeL ci (ansM m hd) := ⟨_, rfl⟩
        rw [← htl] at O4 TL SU ⊢
        clear htl
        have NU := num_any 0
        go_upto_region 9 with fail
        go_upto_region 11 with (go_at_call 11; refine Calls.mono (NU _) ?_; rintro e w9 ⟨rfl, rfl⟩)
        go_wp2_with (at_builtin; refine wpList_apMs rfl (.tmp 81) (.tmp 82) rfl w.heap.size W3.heap.size _ _ Li tl rfl O5.out rfl O4.out (by have := LL.out; omega) sz3.out.2.1 ?_; intro v' w' o6 g6 p6)
        have k6 : Kp W4 w' (fun k => some k = u8.ownBlock) := Kp.of_grown g6
        have nn : ∀ k, some k = u8.ownBlock → ¬ S4 k := fun k hk e => by
          rcases S4'.out k e with q | q
          · exact DD1.out k hk.symm q
          · have := own_lt2 O3.out hk.symm; omega
        refine ⟨⟨i + 1, by omega, rfl, ?_⟩, by simp [intOf]; omega⟩
        rw [SU.out.1, SU.out.2]
        refine ⟨S4, X4.out.kp k6 nn, fun k e => ?_, K4.out.trans k6 (fun k e => Or.inr ?_), o6, fun k hk e => ?_⟩
        · rcases S4'.out k e with q | q
          · exact S1'.out k q
          · exact Or.inr (Nat.le_trans sz3.out.2.2 q)
        · exact own_ge O5.out e.symm
        · rcases p6 k hk with q | q
          · exact nn k q.symm e
          · have := X4.out.lt k e; omega
      case neg =>
        have q3 : (kd == 3) = false := by simpa using h3
        by_cases h5 : kd = 5
        case pos =>
          have q5 : (kd == 5) = true := by simp [h5]
          have ea : { a0 with ver := m.ver } = ansM m hd := by rw [ha0.out]; unfold ansM; rw [if_pos (by rw [← HKD.out]; omega), HKD.out]
          have y6 : W1.cell? ⟨B, 6, none⟩ = some (.int .i64 a0.ver) := m1.out.cells.2.2.2.2.2.2.1
          have z6 : W1.frozen? ⟨B, 6, none⟩ = false := fz_row m1.out 6
          obtain ⟨W3, hW3⟩ : ∃ W3, W3 = W1.setCell ⟨B, 6, none⟩ (.int .i64 m.ver) := ⟨_, rfl⟩
          have M3 : Hid (MgAt W3 B (ansM m hd)) := by rw [hW3, ← ea]; exact set_row m1.out 6 _
          have k3 : Kp W1 W3 (fun k => k = B) := by rw [hW3]; exact (Kp.refl W1 (fun k => k = B)).set (Or.inl rfl) _ _
          have X3 : Hid (CtAt W3 S1 C ci) := X2.out.kp k3 (fun k e => by rw [e]; exact nS.out)
          have K3 : Hid (Kp w W3 S) := K2.out.trans k3 (fun k e => Or.inr (by rw [e]; exact szw.out))
          have O3 : Hid (W3.ownsRow w.heap.size 44 11 u8 Li.length (mgs Li)) := own_kp O2.out k3 (fun k hk e => nO.out k hk e)
          replace hW3 := hide hW3
          clear h3 h5 ea m1 k3 X2 K2 O2
          go_upto_region 8 with fail
          rw [← hW3.out]
          clear f0 f6 hW3 y6 z6 q3 q5
          have TK := hide (Take_any X3.out FC.out (ansM m hd))
          go_wp2_with (refine wpList_ldM rfl (.tmp 10) rfl (ansM m hd) B rfl M3.out ?_)
          refine Calls.mono TK.out ?_
          rintro e W4 ⟨lv, rfl, di⟩
          obtain ⟨S4, x4, s4, k4, o4, d4⟩ := di
          obtain ⟨la, lc, rfl⟩ := own_sl o4
          have O5 : Hid (W4.ownsRow w.heap.size 44 11 u8 Li.length (mgs Li)) := own_kp O3.out k4 (fun k hk e => DD1.out k hk e)
          have O4 := hide o4
          have X4 := hide x4
          have S4' := hide s4
          have K4 : Hid (Kp w W4 S) := K3.out.trans k4 S1'.out
          have D4 := hide d4
          have TL := takeL_len FC.out (ansM m hd)
          have LL : Hid (Li.length ≤ 16000) := by have t := LN.out; rw [List.length_take] at t; have := HN.out; show Li.length ≤ 16000; omega
          have sz3 : Hid (W3.heap.size ≤ W4.heap.size ∧ w.heap.size ≤ W4.heap.size ∧ w.heap.size ≤ W3.heap.size) := ⟨k4.size, K4.out.size, K3.out.size⟩
          clear x4 s4 k4 o4 d4 TK M3
          obtain ⟨tl, htl⟩ : ∃ tl, tl = takeL ci (ansM m hd) := ⟨_, rfl⟩
          rw [← htl] at O4 TL SU ⊢
          clear htl
          have NU := num_any 0
          go_upto_region 9 with fail
          go_upto_region 11 with (go_at_call 11; refine Calls.mono (NU _) ?_; rintro e w9 ⟨rfl, rfl⟩)
          go_wp2_with (at_builtin; refine wpList_apMs rfl (.tmp 81) (.tmp 82) rfl w.heap.size W3.heap.size _ _ Li tl rfl O5.out rfl O4.out (by have := LL.out; omega) sz3.out.2.1 ?_; intro v' w' o6 g6 p6)
          have k6 : Kp W4 w' (fun k => some k = u8.ownBlock) := Kp.of_grown g6
          have nn : ∀ k, some k = u8.ownBlock → ¬ S4 k := fun k hk e => by
            rcases S4'.out k e with q | q
            · exact DD1.out k hk.symm q
            · have := own_lt2 O3.out hk.symm; omega
          refine ⟨⟨i + 1, by omega, rfl, ?_⟩, by simp [intOf]; omega⟩
          rw [SU.out.1, SU.out.2]
          refine ⟨S4, X4.out.kp k6 nn, fun k e => ?_, K4.out.trans k6 (fun k e => Or.inr ?_), o6, fun k hk e => ?_⟩
          · rcases S4'.out k e with q | q
            · exact S1'.out k q
            · exact Or.inr (Nat.le_trans sz3.out.2.2 q)
          · exact own_ge O5.out e.symm
          · rcases p6 k hk with q | q
            · exact nn k q.symm e
            · have := X4.out.lt k e; omega
        case neg =>
          have q5 : (kd == 5) = false := by simpa using h5
          have ea : a0 = ansM m hd := by rw [ha0.out]; unfold ansM; rw [if_neg (by rw [← HKD.out]; omega), HKD.out]
          rw [ea] at m1
          have X3 := X2
          have K3 := K2
          have O3 := O2
          have M3 := m1
          obtain ⟨W3, hW3⟩ : ∃ W3, W3 = W1 := ⟨_, rfl⟩
          rw [← hW3] at X3 K3 O3 M3
          replace hW3 := hide hW3
          clear h3 h5 ea m1 X2 K2 O2
          go_upto_region 8 with fail
          rw [← hW3.out]
          clear f0 f6 hW3 q3 q5
          have TK := hide (Take_any X3.out FC.out (ansM m hd))
          go_wp2_with (refine wpList_ldM rfl (.tmp 10) rfl (ansM m hd) B rfl M3.out ?_)
          refine Calls.mono TK.out ?_
          rintro e W4 ⟨lv, rfl, di⟩
          obtain ⟨S4, x4, s4, k4, o4, d4⟩ := di
          obtain ⟨la, lc, rfl⟩ := own_sl o4
          have O5 : Hid (W4.ownsRow w.heap.size 44 11 u8 Li.length (mgs Li)) := own_kp O3.out k4 (fun k hk e => DD1.out k hk e)
          have O4 := hide o4
          have X4 := hide x4
          have S4' := hide s4
          have K4 : Hid (Kp w W4 S) := K3.out.trans k4 S1'.out
          have D4 := hide d4
          have TL := takeL_len FC.out (ansM m hd)
          have LL : Hid (Li.length ≤ 16000) := by have t := LN.out; rw [List.length_take] at t; have := HN.out; show Li.length ≤ 16000; omega
          have sz3 : Hid (W3.heap.size ≤ W4.heap.size ∧ w.heap.size ≤ W4.heap.size ∧ w.heap.size ≤ W3.heap.size) := ⟨k4.size, K4.out.size, K3.out.size⟩
          clear x4 s4 k4 o4 d4 TK M3
          obtain ⟨tl, htl⟩ : ∃ tl, tl = takeL ci (ansM m hd) := ⟨_, rfl⟩
          rw [← htl] at O4 TL SU ⊢
          clear htl
          have NU := num_any 0
          go_upto_region 9 with fail
          go_upto_region 11 with (go_at_call 11; refine Calls.mono (NU _) ?_; rintro e w9 ⟨rfl, rfl⟩)
          go_wp2_with (at_builtin; refine wpList_apMs rfl (.tmp 81) (.tmp 82) rfl w.heap.size W3.heap.size _ _ Li tl rfl O5.out rfl O4.out (by have := LL.out; omega) sz3.out.2.1 ?_; intro v' w' o6 g6 p6)
          have k6 : Kp W4 w' (fun k => some k = u8.ownBlock) := Kp.of_grown g6
          have nn : ∀ k, some k = u8.ownBlock → ¬ S4 k := fun k hk e => by
            rcases S4'.out k e with q | q
            · exact DD1.out k hk.symm q
            · have := own_lt2 O3.out hk.symm; omega
          refine ⟨⟨i + 1, by omega, rfl, ?_⟩, by simp [intOf]; omega⟩
          rw [SU.out.1, SU.out.2]
          refine ⟨S4, X4.out.kp k6 nn, fun k e => ?_, K4.out.trans k6 (fun k e => Or.inr ?_), o6, fun k hk e => ?_⟩
          · rcases S4'.out k e with q | q
            · exact S1'.out k q
            · exact Or.inr (Nat.le_trans sz3.out.2.2 q)
          · exact own_ge O5.out e.symm
          · rcases p6 k hk with q | q
            · exact nn k q.symm e
            · have := X4.out.lt k e; omega

end Go.Proofs.Ytpleakkhbfhdkaa.Cn
