import Derived.Test.YteiiolilpemimaaDoorGAaHear
namespace Go.Proofs.YteiiolilpemimaaDoor.Cn
open Go.RowKit
def isV (v : Int) : Bool := decide (1 ≤ v) && decide (v ≤ 999999)
def fitV (k v : Int) : Bool := if k = 3 then decide (v = 0) else isV v
set_option maxHeartbeats 8000000 in
set_option maxRecDepth 100000 in
set_option linter.unusedSimpArgs false in
set_option linter.unusedVariables false in
theorem isVersion_any (v : Int) (w : World) : Calls Tryd.prog 31 #[.int .i64 v] w fun e w' => e = .returned (.bool (isV v)) ∧ w = w' := by
  unfold isV
  by_cases h1 : 1 ≤ v
  · have q1 : decide (1 ≤ v) = true := decide_eq_true h1
    by_cases h2 : v ≤ 999999
    · have q2 : decide (v ≤ 999999) = true := decide_eq_true h2
      rw [q1, q2]
      go_enter Tryd.func31, Tryd.ntmps31
      go_wp2_with fail
      go_ret
      exact ⟨rfl, rfl⟩
    · have q2 : decide (v ≤ 999999) = false := decide_eq_false h2
      rw [q1, q2]
      go_enter Tryd.func31, Tryd.ntmps31
      go_wp2_with fail
      go_ret
      exact ⟨rfl, rfl⟩
  · have q1 : decide (1 ≤ v) = false := decide_eq_false h1
    rw [q1]
    go_enter Tryd.func31, Tryd.ntmps31
    go_wp2_with fail
    go_ret
    exact ⟨rfl, rfl⟩

/-- a node as a new audit leaves it -/
def begH (now : Int) (h : Ho) : Ho := if h.sl = [] then h else askH h 0 now
def begHs (v : Au) (i : Nat) : List Ho := (v.hs.take i).map (begH v.now) ++ v.hs.drop i
theorem begHs_len (v : Au) (i : Nat) (h : i ≤ v.hs.length) : (begHs v i).length = v.hs.length := by
  unfold begHs
  rw [List.length_append, List.length_map, List.length_take, List.length_drop]
  omega
theorem begHs_at (v : Au) (i : Nat) (h : i < v.hs.length) : (begHs v i)[i]? = some v.hs[i] := by
  unfold begHs
  rw [List.getElem?_append_right (by rw [List.length_map, List.length_take]; omega), List.length_map, List.length_take, Nat.min_eq_left (by omega), Nat.sub_self, List.getElem?_drop, Nat.add_zero, List.getElem?_eq_getElem h]
theorem begHs_succ (v : Au) (i : Nat) (h : i < v.hs.length) : begHs v (i + 1) = (begHs v i).set i (begH v.now v.hs[i]) := by
  unfold begHs
  rw [List.take_succ_eq_append_getElem h, List.map_append, List.append_assoc, List.set_append_right _ _ (by rw [List.length_map, List.length_take]; omega), List.length_map, List.length_take, Nat.min_eq_left (by omega), Nat.sub_self, List.drop_eq_getElem_cons h]
  rfl
/-- an audit with a number and a version, i nodes asked -/
def Au.bg (v : Au) (ver : Int) (i : Nat) : Au := { v with num := v.num + 1, ver := ver, hs := begHs v i }
def begL (v : Au) (ver : Int) : Nat → List Mg
  | 0 => []
  | i + 1 => match ((v.hs[i]?).bind fun h => h.sl[0]?) with
    | some s => begL v ver i ++ [qM (v.bg ver i) i s]
    | none => begL v ver i
theorem begL_len (v : Au) (ver : Int) (i : Nat) : (begL v ver i).length ≤ i := by
  induction i with
  | zero => simp [begL]
  | succ i ih =>
    unfold begL
    split
    · rw [List.length_append]; simp; omega
    · omega
def BegR (v : Au) (ver : Int) (L : List Mg) (er : Int) (v' : Au) : Prop := (busyL v.hs = true ∧ L = [] ∧ er = 150 ∧ v' = v) ∨ (busyL v.hs = false ∧ isV ver = false ∧ L = [] ∧ er = 80 ∧ v' = v) ∨ (busyL v.hs = false ∧ isV ver = true ∧ L = begL v ver v.hs.length ∧ er = 0 ∧ v' = v.bg ver v.hs.length)
theorem Aok.bg {v : Au} {n : Nat} (h : Aok v n) (ver : Int) {i : Nat} (hi : i ≤ v.hs.length) : Aok (v.bg ver i) n := by
  refine ⟨by show 0 < (begHs v i).length; rw [begHs_len v i hi]; exact h.n0, by show (begHs v i).length ≤ 16; rw [begHs_len v i hi]; exact h.n16, h.rp, h.r16, h.lm, h.rs, fun k hk => ?_⟩
  have hk' : k ∈ begHs v i := hk
  unfold begHs at hk'
  rcases List.mem_append.1 hk' with q | q
  · obtain ⟨x, hx, rfl⟩ := List.mem_map.1 q
    have z := h.hk x (List.mem_of_mem_take hx)
    unfold begH
    split
    · exact z.up rfl (Int.le_refl _)
    · rename_i hne
      exact ⟨fun _ => List.length_pos_iff.2 hne, z.sl, z.so, fun _ => ⟨Int.le_refl _, h.lm.1⟩, ⟨h.now0, Int.le_refl _⟩, Or.inr (Or.inl rfl), fun e => absurd e hne⟩
  · exact (h.hk k (List.mem_of_mem_drop q)).up rfl (Int.le_refl _)
set_option maxHeartbeats 16000000 in
set_option maxRecDepth 100000 in
set_option linter.unusedSimpArgs false in
set_option linter.unusedVariables false in
theorem Begin_a {w : World} {A H hc M : Nat} {v : Au} (h : AuAt w A H hc M v) {n : Nat} (ok : Aok v n) (ver : Int) (hnum : 0 ≤ v.num ∧ v.num ≤ 1000000000000000) :
    Calls Tryd.prog 10 #[.pointer (some ⟨A, 0, none⟩), .int .i64 ver] w fun e w' => ∃ u L er v', e = .returned (.tuple #[u, .int .i64 er]) ∧ w'.ownsRow w.heap.size 41 11 u L.length (mgs L) ∧ AuAt w' A H hc M v' ∧ Kp w w' (AuS A H M) ∧ BegR v ver L er v' := by
  have hl : v.hs.length ≤ 1000 := by have := ok.n16; omega
  have NO := hide (none_a h ok.n0)
  have BU := hide (Busy_a h ok.n0 hl)
  have IV := hide fun X => isVersion_any ver X
  have HA := hide h
  have OK := hide ok
  clear h ok
  go_enter Tryd.func10, Tryd.ntmps10
  go_wp2_with fail
  refine Calls.mono NO.out ?_
  rintro e w' ⟨rfl, rfl⟩
  go_wp2_with fail
  refine Calls.mono BU.out ?_
  rintro e W1 ⟨rfl, k1⟩
  have K1 := hide k1
  clear k1 BU NO
  cases hb : busyL v.hs
  case true =>
    have HBU := hide hb
    clear hb
    go_wp2_with fail
    go_ret2
    exact ⟨_, [], 150, v, rfl, World.ownsRow_nil _ _ _ _, HA.out.kp0 K1.out, K1.out.mono (fun _ f => f.elim), Or.inl ⟨HBU.out, rfl, rfl, rfl⟩⟩
  case false =>
  have HBU := hide hb
  clear hb
  go_wp2_with fail
  refine Calls.mono (IV.out _) ?_
  rintro e w' ⟨rfl, rfl⟩
  cases hv : isV ver
  case false =>
    have HV := hide hv
    clear hv
    go_wp2_with fail
    go_ret2
    exact ⟨_, [], 80, v, rfl, World.ownsRow_nil _ _ _ _, HA.out.kp0 K1.out, K1.out.mono (fun _ f => f.elim), Or.inr (Or.inl ⟨HBU.out, HV.out, rfl, rfl, rfl⟩)⟩
  case true =>
  have HV := hide hv
  clear hv IV
  have a1 := HA.out.kp0 K1.out
  obtain ⟨W2, hW2⟩ : ∃ W2, W2 = W1.setCell ⟨A, 5, none⟩ (.int .i64 (v.num + 1)) := ⟨_, rfl⟩
  obtain ⟨a2, k2⟩ := a1.setA 5 (.int .i64 (v.num + 1)) { v with num := v.num + 1 } rfl rfl rfl a1.df a1.ms
  rw [← hW2] at a2 k2
  obtain ⟨W3, hW3⟩ : ∃ W3, W3 = W2.setCell ⟨A, 6, none⟩ (.int .i64 ver) := ⟨_, rfl⟩
  obtain ⟨a3, k3⟩ := a2.setA 6 (.int .i64 ver) { v with num := v.num + 1, ver := ver } rfl rfl rfl a2.df a2.ms
  rw [← hW3] at a3 k3
  have K3 : Hid (Kp w W3 (AuS A H M)) := ((K1.out.mono (T := AuS A H M) (fun _ f => f.elim)).trans (T := fun b => b = A) k2 (fun k e => Or.inl (Or.inl e))).trans (T := fun b => b = A) k3 (fun k e => Or.inl (Or.inl e))
  have A3 : Hid (AuAt W3 A H hc M (v.bg ver 0)) := a3
  have c5 := a1.cells.2.2.2.2.2.1
  have f5 := a1.fz 5
  obtain ⟨z6, hz6⟩ : ∃ z, W2.cell? ⟨A, 6, none⟩ = some z := ⟨_, a2.cells.2.2.2.2.2.2.1⟩
  have f6 := a2.fz 6
  have c3 := a3.cells.2.2.2.1
  have wn : IntKind.i64.wrap (v.num + 1) = v.num + 1 := i64_in (by omega) (by omega)
  obtain ⟨nn, hnn⟩ : ∃ nn, nn = v.hs.length := ⟨_, rfl⟩
  have c3' : W3.cell? ⟨A, 3, none⟩ = some (.slice (some ⟨H, 0, none⟩) nn hc) := by rw [hnn]; exact c3
  have HNN := hide hnn
  rw [← hnn] at hl
  clear a1 a2 a3 k2 k3 c3 hnn K1
  go_upto_region 8 with fail
  rw [← hW2]
  clear hW2 c5 f5
  go_upto_region 9 with fail
  rw [← hW3]
  clear hW3 hz6 f6 wn hnum
  go_wp2_with fail
  clear c3'
  go_loopw [6, 34] (fun v6 vi wr => ∃ i : Nat, i ≤ nn ∧ vi = .int .i64 (i : Int) ∧ Hid (wr.ownsRow w.heap.size 41 11 v6 (begL v ver i).length (mgs (begL v ver i))) ∧ Hid (AuAt wr A H hc M (v.bg ver i)) ∧ Hid (Kp w wr (AuS A H M))) (fun _ vi _ => nn - (intOf vi).toNat)
  case atStart => exact ⟨0, Nat.zero_le _, rfl, World.ownsRow_nil _ _ _ _, A3.out, K3.out⟩
  case round =>
    obtain ⟨i, hi, rfl, HO, HI, HK⟩ := hrel
    by_cases hin : i < nn
    case neg =>
      obtain rfl : i = nn := by omega
      go_wp2_with fail
      go_ret2
      exact ⟨_, _, 0, _, rfl, HO.out, HI.out, HK.out, Or.inr (Or.inr ⟨HBU.out, HV.out, by rw [← HNN.out], rfl, by rw [← HNN.out]⟩)⟩
    case pos =>
      have hii : (i : Int) < (nn : Int) := by omega
      have hiv : i < v.hs.length := by rw [← HNN.out]; exact hin
      have hib : i < (v.bg ver i).hs.length := by show i < (begHs v i).length; rw [begHs_len v i (by omega)]; exact hiv
      have eb : (v.bg ver i).hs[i] = v.hs[i] := by
        have z := begHs_at v i hiv
        have z2 : (v.bg ver i).hs[i]? = some v.hs[i] := z
        rw [List.getElem?_eq_getElem hib] at z2
        exact Option.some.inj z2
      have c3 := HI.out.cells.2.2.2.1
      have lb : (v.bg ver i).hs.length = nn := by show (begHs v i).length = nn; rw [begHs_len v i (by omega), HNN.out]
      rw [lb] at c3
      have x0 := (HI.out.hcells i hib).1
      rw [eb] at x0
      obtain ⟨sa, sc, hsv⟩ := own_sl (HI.out.sl _ (List.getElem_mem hib))
      rw [eb] at hsv
      rw [hsv] at x0
      have SUC := hide (begHs_succ v i hiv)
      have BL := begL_len v ver i
      obtain ⟨k, hk⟩ : ∃ k, k = v.hs[i] := ⟨_, rfl⟩
      have KM : Hid (k ∈ v.hs) := by rw [hk]; exact List.getElem_mem hiv
      have HKE := hide hk
      rw [← hk] at x0 SUC eb
      have hgk : Hid (v.hs[i]? = some k) := by rw [hk]; exact List.getElem?_eq_getElem hiv
      cases hsl : k.sl with
      | nil =>
        have EH : Hid (v.bg ver (i + 1) = v.bg ver i) := by
          show v.bg ver (i + 1) = v.bg ver i
          unfold Au.bg
          rw [SUC.out, show begH v.now k = k by unfold begH; rw [if_pos hsl]]
          have e2 : (begHs v i).set i k = begHs v i := by
            rw [← eb]
            exact List.set_getElem_self hib
          rw [e2]
        have EL : Hid (begL v ver (i + 1) = begL v ver i) := by
          show begL v ver (i + 1) = _
          simp only [begL, hgk.out, Option.bind_some, hsl]
          rfl
        rw [hsl] at x0
        have x0' : wr.cell? ⟨H, i * 5, none⟩ = some (.slice sa 0 sc) := x0
        clear x0 eb hk hsv
        go_wp2_with fail
        go_roundw
        case rel => exact ⟨i + 1, by omega, by go_num, by rw [EL.out]; exact HO.out, by rw [EH.out]; exact HI.out, HK.out⟩
        case measure => simp [intOf]; omega
      | cons s0 sr =>
        have h0 : k.sl[0]? = some s0 := by rw [hsl]; rfl
        have hlen : 0 < k.sl.length := by rw [hsl]; simp
        have hl64 := (OK.out.hk k KM.out).sl
        have AK := hide (ask_b HI.out i hib k eb 0 s0 h0 (by rw [lb]; exact hl) (by omega))
        have EH : Hid (v.bg ver (i + 1) = (v.bg ver i).ask i k 0) := by
          show v.bg ver (i + 1) = _
          unfold Au.bg Au.ask
          dsimp only
          rw [SUC.out, show begH v.now k = askH k 0 v.now by unfold begH; rw [if_neg (by rw [hsl]; simp)]]
        have EL : Hid (begL v ver (i + 1) = begL v ver i ++ [qM (v.bg ver i) i s0]) := by
          show begL v ver (i + 1) = _
          simp only [begL, hgk.out, Option.bind_some, h0]
        obtain ⟨kn, hkn⟩ : ∃ kn, kn = k.sl.length := ⟨_, rfl⟩
        rw [← hkn] at x0
        have hkp : (0 : Int) < (kn : Int) := by rw [hkn]; omega
        rw [← hkn] at hl64
        obtain ⟨mm, hmm⟩ : ∃ mm, mm = qM (v.bg ver i) i s0 := ⟨_, rfl⟩
        rw [← hmm] at AK EL
        obtain ⟨ln, hln⟩ : ∃ ln, ln = begL v ver i := ⟨_, rfl⟩
        rw [← hln] at HO EL BL
        have AK' : Hid (Calls Tryd.prog 32 #[.pointer (some ⟨A, 0, none⟩), .int .i64 (i : Int), .int .i64 0] wr fun e w' => e = .returned (.agg (mgV mm)) ∧ AuAt w' A H hc M ((v.bg ver i).ask i k 0) ∧ Kp wr w' (AuS A H M)) := AK.out
        clear eb hk hsv hkn hmm hln hsl h0 hlen AK
        go_wp2_with (first
          | (go_at_call 32; refine Calls.mono AK'.out ?_; rintro e W9 ⟨rfl, a9, k9⟩; have A9 := hide a9; have KA := hide k9; clear a9 k9)
          | refine wpList_bsM rfl (.tmp 50) rfl mm rfl ?_
          | (at_builtin
             refine wpList_apM rfl (.tmp 47) (.tmp 51) rfl w.heap.size _ ln rfl (own_kp (own_kp HO.out KA.out (own_off HI.out HO.out (by decide) (by decide))) ((Kp.refl W9 non).alloc _) (fun _ _ f => f)) W9.heap.size mm rfl (heap_last _ _) (by omega) (by rw [World.size_alloc]; have := HK.out.size; have := KA.out.size; omega) ?_
             intro v' w3 o2 g2))
        have OB : ∀ k, u6.ownBlock = some k → ¬ AuS A H M k := own_off HI.out HO.out (by decide) (by decide)
        have own9 : (W9.alloc (.cells (mgV mm) 41)).ownsRow w.heap.size 41 11 u6 ln.length (mgs ln) := own_kp (own_kp HO.out KA.out OB) ((Kp.refl W9 non).alloc _) (fun _ _ f => f)
        have A10 := A9.out.kp0 ((Kp.refl W9 non).alloc (.cells (mgV mm) 41))
        have A11 : Hid (AuAt w3 A H hc M ((v.bg ver i).ask i k 0)) := A10.kp (Kp.of_grown g2) (fun b hb e => by
          obtain ⟨cur, hcu⟩ := own_typ own9 e.symm
          rcases hb with hb | ⟨C, t, fr, hb, ht⟩
          · exact A10.not hcu (by decide) (by decide) hb
          · rw [hb] at hcu
            simp at hcu
            rcases ht with rfl | rfl
            · exact absurd hcu.2.1 (by decide)
            · exact absurd hcu.2.1 (by decide))
        have K11 : Hid (Kp w w3 (AuS A H M)) := ((HK.out.trans KA.out (fun _ f => Or.inl f)).alloc _).trans (Kp.of_grown g2) (fun k hk => Or.inr (own_ge own9 hk.symm))
        have O11 := hide o2
        clear o2 g2 own9 A10 OB
        go_roundw
        case rel => exact ⟨i + 1, by omega, by go_num, by rw [EL.out, List.length_append]; exact O11.out, by rw [EH.out]; exact A11.out, K11.out⟩
        case measure => simp [intOf]; omega
end Go.Proofs.YteiiolilpemimaaDoor.Cn
namespace Go.Proofs.YteiiolilpemimaaDoor.Cn
open Go.RowKit
/-- the nodes of which something holds, as numbers -/
def pickN (f : Ho → Bool) (L : List Ho) : Nat → List Nat
  | 0 => []
  | i + 1 => if ((L[i]?).map f).getD false = true then pickN f L i ++ [i] else pickN f L i
theorem pickL_N (f : Ho → Bool) (L : List Ho) (i : Nat) : pickL f L i = (pickN f L i).map fun q : Nat => (q : Int) := by
  induction i with
  | zero => rfl
  | succ i ih =>
    unfold pickL pickN
    split
    · rw [List.map_append, ih]; rfl
    · exact ih
theorem pickN_mem {f : Ho → Bool} {L : List Ho} {i q : Nat} : q ∈ pickN f L i ↔ q < i ∧ ((L[q]?).map f).getD false = true := by
  induction i with
  | zero => simp [pickN]
  | succ i ih =>
    unfold pickN
    split
    · rename_i h
      rw [List.mem_append, ih, List.mem_singleton]
      constructor
      · rintro (⟨a, b⟩ | rfl)
        · exact ⟨by omega, b⟩
        · exact ⟨by omega, h⟩
      · rintro ⟨a, b⟩
        by_cases e : q = i
        · exact Or.inr e
        · exact Or.inl ⟨by omega, b⟩
    · rename_i h
      rw [ih]
      constructor
      · rintro ⟨a, b⟩
        exact ⟨by omega, b⟩
      · rintro ⟨a, b⟩
        by_cases e : q = i
        · exact absurd (e ▸ b) h
        · exact ⟨by omega, b⟩
theorem pickN_up (f : Ho → Bool) (L : List Ho) (i : Nat) : (pickN f L i).Pairwise (· < ·) := by
  induction i with
  | zero => simp [pickN]
  | succ i ih =>
    unfold pickN
    split
    · rw [List.pairwise_append]
      refine ⟨ih, by simp, fun a ha b hb => ?_⟩
      rw [List.mem_singleton.1 hb]
      exact (pickN_mem.1 ha).1
    · exact ih
theorem pickN_len (f : Ho → Bool) (L : List Ho) (i : Nat) : (pickN f L i).length ≤ i := by
  have := pickL_len f L i
  rw [pickL_N, List.length_map] at this
  exact this
/-- a node whose question has had its time -/
def TkS (n : Nat) (v : Au) (q : Nat) (L : List Mg) (v' : Au) : Prop := ∃ k, v.hs[q]? = some k ∧ ((v.lm ≤ k.tm ∧ L = [] ∧ Left n (v.put q k 2) v') ∨ (k.tm < v.lm ∧ ∃ s, k.sl[k.pl]? = some s ∧ L = [qM v q s] ∧ v' = v.sent q k))
inductive TkL (n : Nat) (v : Au) : List Nat → List Mg → Au → Prop
  | nil : TkL n v [] [] v
  | snoc {qs : List Nat} {L L1 : List Mg} {v1 v2 : Au} {q : Nat} : TkL n v qs L v1 → TkS n v1 q L1 v2 → TkL n v (qs ++ [q]) (L ++ L1) v2
def Au.tck (v : Au) : Au := { v with now := v.now + 1 }
def dueQ (v : Au) : List Nat := pickN (isDueH v) v.hs v.hs.length
def TickR (n : Nat) (v : Au) (L : List Mg) (v' : Au) : Prop := TkL n v.tck (dueQ v.tck) L v'
theorem left_hs {n : Nat} {v v' : Au} (h : Left n v v') : v'.hs = v.hs ∧ v'.lm = v.lm ∧ v'.rs = v.rs ∧ v'.now = v.now ∧ v'.rp = v.rp ∧ v'.num = v.num := by
  rcases h with ⟨_, rfl⟩ | ⟨_, DL, dv, mv, _, rfl⟩
  · exact ⟨rfl, rfl, rfl, rfl, rfl, rfl⟩
  · exact ⟨rfl, rfl, rfl, rfl, rfl, rfl⟩
/-- what a step leaves -/
theorem TkS.keep {n : Nat} {v v' : Au} {q : Nat} {L : List Mg} (h : TkS n v q L v') : v'.hs.length = v.hs.length ∧ (∀ j, j ≠ q → v'.hs[j]? = v.hs[j]?) ∧ v'.lm = v.lm ∧ v'.rs = v.rs ∧ v'.now = v.now ∧ v'.rp = v.rp ∧ v'.num = v.num ∧ L.length ≤ 1 := by
  obtain ⟨k, hk, ⟨_, rfl, hl⟩ | ⟨_, s, _, rfl, rfl⟩⟩ := h
  · obtain ⟨e1, e2, e3, e4, e5, e6⟩ := left_hs hl
    refine ⟨by rw [e1]; show (v.hs.set q _).length = _; rw [List.length_set], fun j hj => ?_, e2, e3, e4, e5, e6, by simp⟩
    rw [e1]
    show (v.hs.set q _)[j]? = _
    rw [List.getElem?_set_ne (fun e => hj e.symm)]
  · refine ⟨by show (v.hs.set q _).length = _; rw [List.length_set], fun j hj => ?_, rfl, rfl, rfl, rfl, rfl, by simp⟩
    show (v.hs.set q _)[j]? = _
    rw [List.getElem?_set_ne (fun e => hj e.symm)]
theorem TkL.keep {n : Nat} {v v' : Au} {qs : List Nat} {L : List Mg} (h : TkL n v qs L v') : v'.hs.length = v.hs.length ∧ (∀ j, j ∉ qs → v'.hs[j]? = v.hs[j]?) ∧ v'.lm = v.lm ∧ v'.rs = v.rs ∧ v'.now = v.now ∧ v'.rp = v.rp ∧ v'.num = v.num ∧ L.length ≤ qs.length := by
  induction h with
  | nil => exact ⟨rfl, fun _ _ => rfl, rfl, rfl, rfl, rfl, rfl, Nat.le_refl _⟩
  | snoc h1 h2 ih =>
    obtain ⟨a1, a2, a3, a4, a5, a6, a7, a8⟩ := ih
    obtain ⟨b1, b2, b3, b4, b5, b6, b7, b8⟩ := h2.keep
    refine ⟨b1.trans a1, fun j hj => ?_, b3.trans a3, b4.trans a4, b5.trans a5, b6.trans a6, b7.trans a7, by rw [List.length_append, List.length_append]; simp; omega⟩
    rw [List.mem_append, List.mem_singleton, not_or] at hj
    exact (b2 j hj.2).trans (a2 j hj.1)
theorem TkS.ok {n m : Nat} {v v' : Au} {q : Nat} {L : List Mg} (h : TkS m v q L v') (ok : Aok v n) (h1 : ∀ k, v.hs[q]? = some k → k.stt = 1) : Aok v' n := by
  obtain ⟨k, hk, ⟨_, rfl, hl⟩ | ⟨ht, s, hs, rfl, rfl⟩⟩ := h
  · have hm := List.mem_of_getElem? hk
    have hp := (ok.hk k hm).pl (h1 k hk)
    exact (ok.putt hm 2 (Or.inr ⟨rfl, fun e => by rw [e] at hp; simp at hp⟩)).left hl
  · exact ok.sent (List.mem_of_getElem? hk) (h1 k hk) ht ok.now0
theorem due_one {v : Au} {q : Nat} (h : q ∈ dueQ v) : ∃ k, v.hs[q]? = some k ∧ k.stt = 1 ∧ v.rs ≤ v.now - k.ti := by
  obtain ⟨h1, h2⟩ := pickN_mem.1 h
  rw [List.getElem?_eq_getElem h1] at h2 ⊢
  refine ⟨_, rfl, ?_⟩
  have h3 : isDueH v v.hs[q] = true := h2
  unfold isDueH at h3
  simp at h3
  exact h3
theorem TkL.ok {n m : Nat} {v v' : Au} {qs : List Nat} {L : List Mg} (h : TkL m v qs L v') (ok : Aok v n) (hd : qs.Nodup) (h1 : ∀ q ∈ qs, ∀ k, v.hs[q]? = some k → k.stt = 1) : Aok v' n := by
  induction h with
  | nil => exact ok
  | snoc h2 h3 ih =>
    rename_i qs L L1 v1 v2 q
    rw [List.nodup_append] at hd
    have o1 := ih hd.1 (fun x hx => h1 x (List.mem_append_left _ hx))
    refine h3.ok o1 (fun k hk => ?_)
    rw [h2.keep.2.1 q (fun hq => hd.2.2 q hq q (List.mem_singleton.2 rfl) rfl)] at hk
    exact h1 q (List.mem_append_right _ (List.mem_singleton.2 rfl)) k hk
theorem Aok.tck {v : Au} {n : Nat} (h : Aok v n) : Aok v.tck n := h.same rfl rfl rfl rfl (by show v.now ≤ v.now + 1; omega)
theorem up_nodup {l : List Nat} (h : l.Pairwise (· < ·)) : l.Nodup := h.imp (fun h => by omega)
theorem Aok.tick {v v' : Au} {n : Nat} {L : List Mg} (h : Aok v n) (ht : TickR n v L v') : Aok v' n :=
  TkL.ok ht h.tck (up_nodup (pickN_up _ _ _)) (fun q hq k hk => by
    obtain ⟨k', hk', hs, _⟩ := due_one hq
    rw [hk'] at hk
    rw [← Option.some.inj hk]
    exact hs)
set_option maxHeartbeats 16000000 in
set_option maxRecDepth 100000 in
set_option linter.unusedSimpArgs false in
set_option linter.unusedVariables false in
theorem Tick_a {w : World} {A H hc M : Nat} {v : Au} (h : AuAt w A H hc M v) {n : Nat} (ok : Aok v n) (hnow : v.now ≤ 1000000000000000) :
    Calls Tryd.prog 20 #[.pointer (some ⟨A, 0, none⟩)] w fun e w' => ∃ u L v', e = .returned (.tuple #[u, .int .i64 0]) ∧ w'.ownsRow w.heap.size 41 11 u L.length (mgs L) ∧ AuAt w' A H hc M v' ∧ Kp w w' (AuS A H M) ∧ TickR n v L v' := by
  have hl : v.hs.length ≤ 1000 := by have := ok.n16; omega
  have NO := hide (none_a h ok.n0)
  obtain ⟨W1, hW1⟩ : ∃ W1, W1 = w.setCell ⟨A, 4, none⟩ (.int .i64 (v.now + 1)) := ⟨_, rfl⟩
  obtain ⟨a1, k1⟩ := h.setA 4 (.int .i64 (v.now + 1)) v.tck rfl rfl rfl h.df h.ms
  rw [← hW1] at a1 k1
  have h0 := ok.now0
  have DU := hide (due_a a1 hl (fun x hx => (ok.tck.hk x hx).ti) (by show v.now + 1 ≤ _; omega))
  have A1 := hide a1
  have K1 : Hid (Kp w W1 (AuS A H M)) := k1.mono (fun b e => Or.inl e)
  have c4 := h.cells.2.2.2.2.1
  have f4 := h.fz 4
  have wn : IntKind.i64.wrap (v.now + 1) = v.now + 1 := i64_in (by omega) (by omega)
  have OK := hide ok.tck
  have DM : Hid (∀ q ∈ dueQ v.tck, ∃ k, v.tck.hs[q]? = some k ∧ k.stt = 1) := fun q hq => by
    obtain ⟨k, a, b, _⟩ := due_one hq
    exact ⟨k, a, b⟩
  have DP := hide (pickN_up (isDueH v.tck) v.tck.hs v.tck.hs.length)
  have DLN : Hid ((dueQ v.tck).length ≤ 16) := Nat.le_trans (pickN_len _ _ _) ok.tck.n16
  have PE := hide (pickL_N (isDueH v.tck) v.tck.hs v.tck.hs.length)
  clear h a1 k1 ok h0 hl
  rw [PE.out] at DU
  have HR : Hid (∀ L v', TkL n v.tck (dueQ v.tck) L v' → TickR n v L v') := fun _ _ hx => hx
  have DU' : Hid (Calls Tryd.prog 40 #[.pointer (some ⟨A, 0, none⟩)] W1 fun e w' => ∃ u, e = .returned u ∧ w'.ownsRow W1.heap.size 3 1 u ((dueQ v.tck).map fun q : Nat => (q : Int)).length (ints ((dueQ v.tck).map fun q : Nat => (q : Int))) ∧ Kp W1 w' non) := DU.out
  have DP' : Hid ((dueQ v.tck).Nodup) := up_nodup DP.out
  obtain ⟨v1, hv1⟩ : ∃ v1, v1 = v.tck := ⟨_, rfl⟩
  obtain ⟨Q, hQ⟩ : ∃ Q, Q = dueQ v.tck := ⟨_, rfl⟩
  rw [← hQ] at HR DU' DP' DM DLN
  rw [← hv1] at HR A1 OK DM
  clear DU PE DP hv1 hQ
  go_enter Tryd.func20, Tryd.ntmps20
  go_wp2_with fail
  refine Calls.mono NO.out ?_
  rintro e w' ⟨rfl, rfl⟩
  go_upto_region 4 with fail
  rw [← hW1]
  clear hW1 c4 f4 wn NO
  go_wp2_with fail
  refine Calls.mono DU'.out ?_
  rintro e W2 ⟨ud, rfl, od, k2⟩
  obtain ⟨da, dc, rfl⟩ := own_sl od
  have OD := hide od
  have A2 : Hid (AuAt W2 A H hc M v1) := A1.out.kp0 k2
  have K2 : Hid (Kp w W2 (AuS A H M)) := K1.out.trans k2 (fun _ f => f.elim)
  have S12 : Hid (w.heap.size ≤ W1.heap.size) := K1.out.size
  have QL : Hid ((Q.map fun q : Nat => (q : Int)).length = Q.length) := List.length_map _
  rw [QL.out] at OD ⊢
  obtain ⟨dn, hdn⟩ : ∃ dn, dn = Q.length := ⟨_, rfl⟩
  rw [← hdn] at OD ⊢
  have HDN := hide hdn
  have dl : dn ≤ 16 := by rw [hdn]; exact DLN.out
  clear od k2 hdn A1 K1 DU'
  go_wp2_with fail
  go_loopw [4, 19] (fun v4 vi wr => ∃ i : Nat, i ≤ dn ∧ vi = .int .i64 (i : Int) ∧ ∃ L v', Hid (wr.ownsRow w.heap.size 41 11 v4 L.length (mgs L)) ∧ Hid (AuAt wr A H hc M v') ∧ Hid (Kp w wr (AuS A H M)) ∧ Hid (wr.ownsRow W1.heap.size 3 1 (.slice da dn dc) dn (ints (Q.map fun q : Nat => (q : Int)))) ∧ Hid (TkL n v1 (Q.take i) L v' ∧ Aok v' n)) (fun _ vi _ => dn - (intOf vi).toNat)
  case atStart => exact ⟨0, Nat.zero_le _, rfl, [], v1, World.ownsRow_nil _ _ _ _, A2.out, K2.out, OD.out, TkL.nil, OK.out⟩
  case round =>
    obtain ⟨i, hi, rfl, L, v', HO, HI, HK, HD, HT⟩ := hrel
    by_cases hin : i < dn
    case neg =>
      obtain rfl : i = dn := by omega
      go_wp2_with fail
      go_ret2
      have z := HT.out.1
      rw [List.take_of_length_le (by rw [HDN.out]; exact Nat.le_refl _)] at z
      exact ⟨_, L, v', rfl, HO.out, HI.out, HK.out, HR.out _ _ z⟩
    case pos =>
      have hii : (i : Int) < (dn : Int) := by omega
      have hiq : i < Q.length := by rw [← HDN.out]; exact hin
      obtain ⟨q, hq⟩ : ∃ q, q = Q[i] := ⟨_, rfl⟩
      have QT : Hid (Q.take (i + 1) = Q.take i ++ [q]) := by rw [hq]; exact List.take_succ_eq_append_getElem hiq
      have NM : q ∉ Q.take i := fun hm => by
        have hd := DP'.out
        rw [← List.take_append_drop i Q, List.nodup_append] at hd
        refine hd.2.2 q hm q ?_ rfl
        rw [hq, List.drop_eq_getElem_cons hiq]
        exact List.mem_cons_self
      obtain ⟨k, hk1, hst⟩ := DM.out q (by rw [hq]; exact List.getElem_mem hiq)
      have hk : v'.hs[q]? = some k := (HT.out.1.keep.2.1 q NM).trans hk1
      obtain ⟨hql, hke⟩ := List.getElem?_eq_some_iff.1 hk
      have ok' := HT.out.2
      have km := List.mem_of_getElem? hk
      have z := ok'.hk k km
      have hp := z.pl hst
      obtain ⟨s, hs⟩ : ∃ s, k.sl[k.pl]? = some s := ⟨_, List.getElem?_eq_getElem hp⟩
      have ht := z.tm hst
      have lm := ok'.lm
      have l16 := ok'.n16
      obtain ⟨g, cap, hdv, hcq, -⟩ := own_at HD.out (j := i) (u := .int .i64 (q : Int)) (by rw [ints_at, List.getElem?_map, List.getElem?_eq_getElem hiq, hq]; rfl)
      injection hdv with hd1 hd2 hd3
      subst hd1
      subst hd3
      obtain ⟨-, x1, -, x3, -⟩ := HI.out.cells
      have xt := (HI.out.hcells q hql).2.2.2.1
      rw [hke] at xt
      have LL := HT.out.1.keep.2.2.2.2.2.2.2
      have LN : Hid (L.length ≤ 16) := by rw [List.length_take] at LL; show L.length ≤ 16; omega
      have LE := hide (leave_b HI.out q hql k hke 2 n ok'.rp ok'.r16 (by omega))
      have SD := hide (send_b HI.out q hql k hke s hs (by omega) (by have := z.sl; omega) ⟨by omega, by omega⟩)
      have hqi : (q : Int) < (v'.hs.length : Int) := by omega
      have XL : Hid (∀ L1 v2, TkS n v' q L1 v2 → TkL n v1 (Q.take (i + 1)) (L ++ L1) v2 ∧ Aok v2 n) := fun L1 v2 hx => ⟨by rw [QT.out]; exact TkL.snoc HT.out.1 hx, hx.ok ok' (fun k' hk' => by rw [hk] at hk'; rw [← Option.some.inj hk']; exact hst)⟩
      have HKK := hide hk
      have HS := hide hs
      have RP : Hid (v'.rp = (n : Int) ∧ n ≤ 16 ∧ v'.hs.length ≤ 1000) := ⟨ok'.rp, ok'.r16, by omega⟩
      have SL : Hid (k.sl.length ≤ 1000 ∧ 0 ≤ k.tm ∧ k.tm ≤ 1000000000000) := ⟨by have := z.sl; omega, by omega, by omega⟩
      clear hq QT NM hk1 hst hk hke km z hp hs ok' hiq hql hd2 LL HT
      obtain ⟨tm, htm⟩ : ∃ tm, tm = k.tm := ⟨_, rfl⟩
      rw [← htm] at xt ht
      obtain ⟨lm', hlm⟩ : ∃ lm', lm' = v'.lm := ⟨_, rfl⟩
      rw [← hlm] at x1 ht lm
      have HTM := hide htm
      have HLM := hide hlm
      obtain ⟨nn, hnn⟩ : ∃ nn, nn = v'.hs.length := ⟨_, rfl⟩
      rw [← hnn] at x3 hqi l16
      have CC : Hid (wr.cell? ⟨A, 3, none⟩ = some (.slice (some ⟨H, 0, none⟩) nn hc) ∧ wr.cell? ⟨H, q * 5 + 3, none⟩ = some (.int .i64 tm) ∧ wr.cell? ⟨A, 1, none⟩ = some (.int .i64 lm')) := ⟨x3, xt, x1⟩
      have HDr : Hid (∀ X, Kp wr X (AuS A H M) → X.ownsRow W1.heap.size 3 1 (.slice (some ⟨g, 0, none⟩) dn dc) dn (ints (Q.map fun q : Nat => (q : Int)))) := fun X hX => own_kp HD.out hX (own_off HI.out HD.out (by decide) (by decide))
      clear htm hlm hnn x1 x3 xt HD
      go_upto_region 8 with fail
      clear hcq
      by_cases hlt : lm' ≤ tm
      case pos =>
        have RT : Hid (∀ v2, Left n (v'.put q k 2) v2 → TkS n v' q [] v2) := fun v2 hx => ⟨k, HKK.out, Or.inl ⟨by rw [← HLM.out, ← HTM.out]; exact hlt, rfl, hx⟩⟩
        refine wp_region_held_drew (S := fun X => X.cell? ⟨A, 3, none⟩ = some (.slice (some ⟨H, 0, none⟩) nn hc) ∧ X.cell? ⟨H, q * 5 + 3, none⟩ = some (.int .i64 tm) ∧ X.cell? ⟨A, 1, none⟩ = some (.int .i64 lm')) (by kernel_rfl) CC.out (fun hHeld => ?_)
        refine wpAnyH_take (i := 0) (v := (.pointer (some ⟨A, 0, none⟩))) rfl (by kernel_rfl) (by kernel_rfl) (by kernel_rfl) (fun _ _ _ h => h) (Or.inl ⟨by kernel_rfl, ?_⟩) (by assumption) ?_
        · intro w' hSw
          (try dsimp only at hSw)
          go_simp
        (try simp only [Act.put, List.getElem_toArray, List.getElem_cons_zero, List.getElem_cons_succ, List.setIfInBounds_toArray, List.set_cons_zero, List.set_cons_succ])
        refine wpAnyH_take (i := 1) (v := (.pointer (some ⟨A, 0, none⟩))) rfl (by kernel_rfl) (by kernel_rfl) (by kernel_rfl) (fun _ _ _ h => h) (Or.inl ⟨by kernel_rfl, ?_⟩) (by assumption) ?_
        · intro w' hSw
          (try dsimp only at hSw)
          go_simp
        (try simp only [Act.put, List.getElem_toArray, List.getElem_cons_zero, List.getElem_cons_succ, List.setIfInBounds_toArray, List.set_cons_zero, List.set_cons_succ])
        refine wpAnyH_take (i := 2) (v := (.pointer (some ⟨A, 3, none⟩))) rfl (by kernel_rfl) (by kernel_rfl) (by kernel_rfl) (fun _ _ _ h => h) (Or.inl ⟨by kernel_rfl, ?_⟩) (by assumption) ?_
        · intro w' hSw
          (try dsimp only at hSw)
          go_simp
        (try simp only [Act.put, List.getElem_toArray, List.getElem_cons_zero, List.getElem_cons_succ, List.setIfInBounds_toArray, List.set_cons_zero, List.set_cons_succ])
        refine wpAnyH_take (i := 3) (v := (.slice (some ⟨H, 0, none⟩) nn hc)) rfl (by kernel_rfl) (by kernel_rfl) (by kernel_rfl) (fun _ _ _ h => h) (Or.inl ⟨by kernel_rfl, ?_⟩) (by assumption) ?_
        · intro w' hSw
          (try dsimp only at hSw)
          (have z := hSw.1; go_simp)
        (try simp only [Act.put, List.getElem_toArray, List.getElem_cons_zero, List.getElem_cons_succ, List.setIfInBounds_toArray, List.set_cons_zero, List.set_cons_succ])
        refine wpAnyH_take (i := 4) (v := (.int .i64 (q : Int))) rfl (by kernel_rfl) (by kernel_rfl) (by kernel_rfl) (fun _ _ _ h => h) (Or.inl ⟨by kernel_rfl, ?_⟩) (by assumption) ?_
        · intro w' hSw
          (try dsimp only at hSw)
          go_simp
        (try simp only [Act.put, List.getElem_toArray, List.getElem_cons_zero, List.getElem_cons_succ, List.setIfInBounds_toArray, List.set_cons_zero, List.set_cons_succ])
        refine wpAnyH_take (i := 5) (v := (.pointer (some ⟨H, q * 5, none⟩))) rfl (by kernel_rfl) (by kernel_rfl) (by kernel_rfl) (fun _ _ _ h => h) (Or.inl ⟨by kernel_rfl, ?_⟩) (by assumption) ?_
        · intro w' hSw
          (try dsimp only at hSw)
          go_simp
        (try simp only [Act.put, List.getElem_toArray, List.getElem_cons_zero, List.getElem_cons_succ, List.setIfInBounds_toArray, List.set_cons_zero, List.set_cons_succ])
        refine wpAnyH_take (i := 6) (v := (.pointer (some ⟨H, q * 5 + 3, none⟩))) rfl (by kernel_rfl) (by kernel_rfl) (by kernel_rfl) (fun _ _ _ h => h) (Or.inl ⟨by kernel_rfl, ?_⟩) (by assumption) ?_
        · intro w' hSw
          (try dsimp only at hSw)
          go_simp
        (try simp only [Act.put, List.getElem_toArray, List.getElem_cons_zero, List.getElem_cons_succ, List.setIfInBounds_toArray, List.set_cons_zero, List.set_cons_succ])
        refine wpAnyH_take (i := 7) (v := (.int .i64 tm)) rfl (by kernel_rfl) (by kernel_rfl) (by kernel_rfl) (fun _ _ _ h => h) (Or.inl ⟨by kernel_rfl, ?_⟩) (by assumption) ?_
        · intro w' hSw
          (try dsimp only at hSw)
          (have z := hSw.2.1; go_simp)
        (try simp only [Act.put, List.getElem_toArray, List.getElem_cons_zero, List.getElem_cons_succ, List.setIfInBounds_toArray, List.set_cons_zero, List.set_cons_succ])
        refine wpAnyH_take (i := 8) (v := (.pointer (some ⟨A, 0, none⟩))) rfl (by kernel_rfl) (by kernel_rfl) (by kernel_rfl) (fun _ _ _ h => h) (Or.inl ⟨by kernel_rfl, ?_⟩) (by assumption) ?_
        · intro w' hSw
          (try dsimp only at hSw)
          go_simp
        (try simp only [Act.put, List.getElem_toArray, List.getElem_cons_zero, List.getElem_cons_succ, List.setIfInBounds_toArray, List.set_cons_zero, List.set_cons_succ])
        refine wpAnyH_take (i := 9) (v := (.pointer (some ⟨A, 0, none⟩))) rfl (by kernel_rfl) (by kernel_rfl) (by kernel_rfl) (fun _ _ _ h => h) (Or.inl ⟨by kernel_rfl, ?_⟩) (by assumption) ?_
        · intro w' hSw
          (try dsimp only at hSw)
          go_simp
        (try simp only [Act.put, List.getElem_toArray, List.getElem_cons_zero, List.getElem_cons_succ, List.setIfInBounds_toArray, List.set_cons_zero, List.set_cons_succ])
        refine wpAnyH_take (i := 10) (v := (.pointer (some ⟨A, 1, none⟩))) rfl (by kernel_rfl) (by kernel_rfl) (by kernel_rfl) (fun _ _ _ h => h) (Or.inl ⟨by kernel_rfl, ?_⟩) (by assumption) ?_
        · intro w' hSw
          (try dsimp only at hSw)
          go_simp
        (try simp only [Act.put, List.getElem_toArray, List.getElem_cons_zero, List.getElem_cons_succ, List.setIfInBounds_toArray, List.set_cons_zero, List.set_cons_succ])
        refine wpAnyH_take (i := 11) (v := (.int .i64 lm')) rfl (by kernel_rfl) (by kernel_rfl) (by kernel_rfl) (fun _ _ _ h => h) (Or.inl ⟨by kernel_rfl, ?_⟩) (by assumption) ?_
        · intro w' hSw
          (try dsimp only at hSw)
          (have z := hSw.2.2; go_simp)
        (try simp only [Act.put, List.getElem_toArray, List.getElem_cons_zero, List.getElem_cons_succ, List.setIfInBounds_toArray, List.set_cons_zero, List.set_cons_succ])
        refine wpAnyH_ready (rs := [12]) (by kernel_rfl) (by simp) ?_
        refine AllReadyH.cons rfl (fun K hK => ?_) AllReadyH.nil
        go_simp
        refine hK.out _ _ (CC.out) (fun hHeld => ?_)
        clear hK
        (try simp only [Act.put, List.setIfInBounds_toArray, List.set_cons_zero, List.set_cons_succ])
        refine wpAnyH_done (by kernel_rfl) ?_ _
        clear hHeld
        have LEd : Hid (Calls Tryd.prog 41 #[.pointer (some ⟨A, 0, none⟩), .int .i64 (q : Int), .int .i64 2] wr.drew fun e w' => e = .returned (.tuple #[]) ∧ ∃ v2, Left n (v'.put q k 2) v2 ∧ AuAt w' A H hc M v2 ∧ Kp wr.drew w' (AuS A H M)) := by
          have z := leave_b (HI.out.kp0 ((Kp.refl wr non).drew)) q (by exact (List.getElem?_eq_some_iff.1 HKK.out).1) k (List.getElem?_eq_some_iff.1 HKK.out).2 2 n RP.out.1 RP.out.2.1 RP.out.2.2
          exact z
        clear CC SD
        go_wp2_with (go_at_call 41; refine Calls.mono LEd.out ?_; rintro e W9 ⟨rfl, v2, a1, a2, a3⟩; have B1 := hide a1; have B2 := hide a2; have B3 : Hid (Kp wr W9 (AuS A H M)) := ((Kp.refl wr (AuS A H M)).drew).trans a3 (fun _ f => Or.inl f); clear a1 a2 a3)
        have NX := hide (XL.out [] v2 (RT.out v2 B1.out))
        go_roundw
        case rel => exact ⟨i + 1, by omega, by go_num, L ++ [], v2, by rw [List.append_nil]; exact own_kp HO.out B3.out (own_off HI.out HO.out (by decide) (by decide)), B2.out, HK.out.trans B3.out (fun _ f => Or.inl f), HDr.out _ B3.out, NX.out⟩
        case measure => simp [intOf]; omega
      case neg =>
        have hlt2 : tm < lm' := by omega
        obtain ⟨mm, hmm⟩ : ∃ mm, mm = qM v' q s := ⟨_, rfl⟩
        have RT : Hid (TkS n v' q [mm] (v'.sent q k)) := ⟨k, HKK.out, Or.inr ⟨by rw [← HLM.out, ← HTM.out]; exact hlt2, s, HS.out, by rw [hmm], rfl⟩⟩
        refine wp_region_held_drew (S := fun X => X.cell? ⟨A, 3, none⟩ = some (.slice (some ⟨H, 0, none⟩) nn hc) ∧ X.cell? ⟨H, q * 5 + 3, none⟩ = some (.int .i64 tm) ∧ X.cell? ⟨A, 1, none⟩ = some (.int .i64 lm')) (by kernel_rfl) CC.out (fun hHeld => ?_)
        refine wpAnyH_take (i := 0) (v := (.pointer (some ⟨A, 0, none⟩))) rfl (by kernel_rfl) (by kernel_rfl) (by kernel_rfl) (fun _ _ _ h => h) (Or.inl ⟨by kernel_rfl, ?_⟩) (by assumption) ?_
        · intro w' hSw
          (try dsimp only at hSw)
          go_simp
        (try simp only [Act.put, List.getElem_toArray, List.getElem_cons_zero, List.getElem_cons_succ, List.setIfInBounds_toArray, List.set_cons_zero, List.set_cons_succ])
        refine wpAnyH_take (i := 1) (v := (.pointer (some ⟨A, 0, none⟩))) rfl (by kernel_rfl) (by kernel_rfl) (by kernel_rfl) (fun _ _ _ h => h) (Or.inl ⟨by kernel_rfl, ?_⟩) (by assumption) ?_
        · intro w' hSw
          (try dsimp only at hSw)
          go_simp
        (try simp only [Act.put, List.getElem_toArray, List.getElem_cons_zero, List.getElem_cons_succ, List.setIfInBounds_toArray, List.set_cons_zero, List.set_cons_succ])
        refine wpAnyH_take (i := 2) (v := (.pointer (some ⟨A, 3, none⟩))) rfl (by kernel_rfl) (by kernel_rfl) (by kernel_rfl) (fun _ _ _ h => h) (Or.inl ⟨by kernel_rfl, ?_⟩) (by assumption) ?_
        · intro w' hSw
          (try dsimp only at hSw)
          go_simp
        (try simp only [Act.put, List.getElem_toArray, List.getElem_cons_zero, List.getElem_cons_succ, List.setIfInBounds_toArray, List.set_cons_zero, List.set_cons_succ])
        refine wpAnyH_take (i := 3) (v := (.slice (some ⟨H, 0, none⟩) nn hc)) rfl (by kernel_rfl) (by kernel_rfl) (by kernel_rfl) (fun _ _ _ h => h) (Or.inl ⟨by kernel_rfl, ?_⟩) (by assumption) ?_
        · intro w' hSw
          (try dsimp only at hSw)
          (have z := hSw.1; go_simp)
        (try simp only [Act.put, List.getElem_toArray, List.getElem_cons_zero, List.getElem_cons_succ, List.setIfInBounds_toArray, List.set_cons_zero, List.set_cons_succ])
        refine wpAnyH_take (i := 4) (v := (.int .i64 (q : Int))) rfl (by kernel_rfl) (by kernel_rfl) (by kernel_rfl) (fun _ _ _ h => h) (Or.inl ⟨by kernel_rfl, ?_⟩) (by assumption) ?_
        · intro w' hSw
          (try dsimp only at hSw)
          go_simp
        (try simp only [Act.put, List.getElem_toArray, List.getElem_cons_zero, List.getElem_cons_succ, List.setIfInBounds_toArray, List.set_cons_zero, List.set_cons_succ])
        refine wpAnyH_take (i := 5) (v := (.pointer (some ⟨H, q * 5, none⟩))) rfl (by kernel_rfl) (by kernel_rfl) (by kernel_rfl) (fun _ _ _ h => h) (Or.inl ⟨by kernel_rfl, ?_⟩) (by assumption) ?_
        · intro w' hSw
          (try dsimp only at hSw)
          go_simp
        (try simp only [Act.put, List.getElem_toArray, List.getElem_cons_zero, List.getElem_cons_succ, List.setIfInBounds_toArray, List.set_cons_zero, List.set_cons_succ])
        refine wpAnyH_take (i := 6) (v := (.pointer (some ⟨H, q * 5 + 3, none⟩))) rfl (by kernel_rfl) (by kernel_rfl) (by kernel_rfl) (fun _ _ _ h => h) (Or.inl ⟨by kernel_rfl, ?_⟩) (by assumption) ?_
        · intro w' hSw
          (try dsimp only at hSw)
          go_simp
        (try simp only [Act.put, List.getElem_toArray, List.getElem_cons_zero, List.getElem_cons_succ, List.setIfInBounds_toArray, List.set_cons_zero, List.set_cons_succ])
        refine wpAnyH_take (i := 7) (v := (.int .i64 tm)) rfl (by kernel_rfl) (by kernel_rfl) (by kernel_rfl) (fun _ _ _ h => h) (Or.inl ⟨by kernel_rfl, ?_⟩) (by assumption) ?_
        · intro w' hSw
          (try dsimp only at hSw)
          (have z := hSw.2.1; go_simp)
        (try simp only [Act.put, List.getElem_toArray, List.getElem_cons_zero, List.getElem_cons_succ, List.setIfInBounds_toArray, List.set_cons_zero, List.set_cons_succ])
        refine wpAnyH_take (i := 8) (v := (.pointer (some ⟨A, 0, none⟩))) rfl (by kernel_rfl) (by kernel_rfl) (by kernel_rfl) (fun _ _ _ h => h) (Or.inl ⟨by kernel_rfl, ?_⟩) (by assumption) ?_
        · intro w' hSw
          (try dsimp only at hSw)
          go_simp
        (try simp only [Act.put, List.getElem_toArray, List.getElem_cons_zero, List.getElem_cons_succ, List.setIfInBounds_toArray, List.set_cons_zero, List.set_cons_succ])
        refine wpAnyH_take (i := 9) (v := (.pointer (some ⟨A, 0, none⟩))) rfl (by kernel_rfl) (by kernel_rfl) (by kernel_rfl) (fun _ _ _ h => h) (Or.inl ⟨by kernel_rfl, ?_⟩) (by assumption) ?_
        · intro w' hSw
          (try dsimp only at hSw)
          go_simp
        (try simp only [Act.put, List.getElem_toArray, List.getElem_cons_zero, List.getElem_cons_succ, List.setIfInBounds_toArray, List.set_cons_zero, List.set_cons_succ])
        refine wpAnyH_take (i := 10) (v := (.pointer (some ⟨A, 1, none⟩))) rfl (by kernel_rfl) (by kernel_rfl) (by kernel_rfl) (fun _ _ _ h => h) (Or.inl ⟨by kernel_rfl, ?_⟩) (by assumption) ?_
        · intro w' hSw
          (try dsimp only at hSw)
          go_simp
        (try simp only [Act.put, List.getElem_toArray, List.getElem_cons_zero, List.getElem_cons_succ, List.setIfInBounds_toArray, List.set_cons_zero, List.set_cons_succ])
        refine wpAnyH_take (i := 11) (v := (.int .i64 lm')) rfl (by kernel_rfl) (by kernel_rfl) (by kernel_rfl) (fun _ _ _ h => h) (Or.inl ⟨by kernel_rfl, ?_⟩) (by assumption) ?_
        · intro w' hSw
          (try dsimp only at hSw)
          (have z := hSw.2.2; go_simp)
        (try simp only [Act.put, List.getElem_toArray, List.getElem_cons_zero, List.getElem_cons_succ, List.setIfInBounds_toArray, List.set_cons_zero, List.set_cons_succ])
        refine wpAnyH_ready (rs := [12]) (by kernel_rfl) (by simp) ?_
        refine AllReadyH.cons rfl (fun K hK => ?_) AllReadyH.nil
        go_simp
        refine hK.out _ _ (CC.out) (fun hHeld => ?_)
        clear hK
        (try simp only [Act.put, List.setIfInBounds_toArray, List.set_cons_zero, List.set_cons_succ])
        refine wpAnyH_done (by kernel_rfl) ?_ _
        clear hHeld
        have SDd : Hid (Calls Tryd.prog 42 #[.pointer (some ⟨A, 0, none⟩), .int .i64 (q : Int)] wr.drew fun e w' => e = .returned (.agg (mgV mm)) ∧ AuAt w' A H hc M (v'.sent q k) ∧ Kp wr.drew w' (AuS A H M)) := by
          have z := send_b (HI.out.kp0 ((Kp.refl wr non).drew)) q (by exact (List.getElem?_eq_some_iff.1 HKK.out).1) k (List.getElem?_eq_some_iff.1 HKK.out).2 s HS.out RP.out.2.2 SL.out.1 SL.out.2
          rw [← hmm] at z
          exact z
        clear CC LE hmm
        go_wp2_with (first
          | (go_at_call 42; refine Calls.mono SDd.out ?_; rintro e W9 ⟨rfl, a9, k9⟩; have A9 := hide a9; have KA : Hid (Kp wr W9 (AuS A H M)) := ((Kp.refl wr (AuS A H M)).drew).trans k9 (fun _ f => Or.inl f); clear a9 k9)
          | refine wpList_bsM rfl (.tmp 42) rfl mm rfl ?_
          | (at_builtin
             refine wpList_apM rfl (.tmp 39) (.tmp 43) rfl w.heap.size _ L rfl (own_kp (own_kp HO.out KA.out (own_off HI.out HO.out (by decide) (by decide))) ((Kp.refl W9 non).alloc _) (fun _ _ f => f)) W9.heap.size mm rfl (heap_last _ _) (by have := LN.out; omega) (by rw [World.size_alloc]; have := HK.out.size; have := KA.out.size; omega) ?_
             intro v3 w3 o2 g2))
        have OB : ∀ k, u4.ownBlock = some k → ¬ AuS A H M k := own_off HI.out HO.out (by decide) (by decide)
        have own9 : (W9.alloc (.cells (mgV mm) 41)).ownsRow w.heap.size 41 11 u4 L.length (mgs L) := own_kp (own_kp HO.out KA.out OB) ((Kp.refl W9 non).alloc _) (fun _ _ f => f)
        have od9 := own_kp (HDr.out _ KA.out) ((Kp.refl W9 non).alloc (.cells (mgV mm) 41)) (fun _ _ f => f)
        have A10 := A9.out.kp0 ((Kp.refl W9 non).alloc (.cells (mgV mm) 41))
        have A11 : Hid (AuAt w3 A H hc M (v'.sent q k)) := A10.kp (Kp.of_grown g2) (fun b hb e => by
          obtain ⟨cur, hcu⟩ := own_typ own9 e.symm
          rcases hb with hb | ⟨C, t, fr, hb, ht⟩
          · exact A10.not hcu (by decide) (by decide) hb
          · rw [hb] at hcu
            simp at hcu
            rcases ht with rfl | rfl
            · exact absurd hcu.2.1 (by decide)
            · exact absurd hcu.2.1 (by decide))
        have D11 : Hid (w3.ownsRow W1.heap.size 3 1 (.slice (some ⟨g, 0, none⟩) dn dc) dn (ints (Q.map fun q : Nat => (q : Int)))) := own_kp od9 (Kp.of_grown g2) (fun b hb e => by
          obtain ⟨cur, hcu⟩ := own_typ own9 e.symm
          obtain ⟨cur', hcu'⟩ := own_typ od9 hb
          rw [hcu] at hcu'
          simp at hcu')
        have K11 : Hid (Kp w w3 (AuS A H M)) := ((HK.out.trans KA.out (fun _ f => Or.inl f)).alloc _).trans (Kp.of_grown g2) (fun k hk => Or.inr (own_ge own9 hk.symm))
        have O11 := hide o2
        have NX := hide (XL.out [mm] _ RT.out)
        clear o2 g2 own9 A10 OB od9
        go_roundw
        case rel => exact ⟨i + 1, by omega, by go_num, L ++ [mm], _, by rw [List.length_append]; exact O11.out, A11.out, K11.out, D11.out, NX.out⟩
        case measure => simp [intOf]; omega
end Go.Proofs.YteiiolilpemimaaDoor.Cn
