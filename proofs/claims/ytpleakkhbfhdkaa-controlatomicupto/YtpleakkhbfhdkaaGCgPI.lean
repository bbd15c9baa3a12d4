import Derived.Test.YtpleakkhbfhdkaaGCgWent
import Derived.Test.YtpleakkhbfhdkaaGCfCalls
namespace Go.Proofs.Ytpleakkhbfhdkaa.Cn
open Go.RowKit
/-- what is kept from event to event -/
structure PI (n : Nat) (p : Pl) : Prop where
  ci : CI p.c n p.job p.kind p.ver p.bk (feF p) (baF p) (ndF p)
  nn : p.nd.length = n
  na : p.at'.length = n
  fb : p.c.ph ≠ none → p.fe.length = n ∧ p.ba.length = n ∧ p.job ≠ 0 ∧ ∀ i, i < n → atF p.at' i < 0
  lt : ∀ m ∈ p.lt, LetI n p.job p.ver p.bk (ndF p) m
  at_ : AtI n p.job p.bk (ndF p) (atF p.at')
theorem PI.n1 {n : Nat} {p : Pl} (h : PI n p) : 1 ≤ n := by rw [← h.ci.nn]; exact h.ci.fine.n1
theorem PI.n16 {n : Nat} {p : Pl} (h : PI n p) : n ≤ 16 := by rw [← h.ci.nn]; exact h.ci.fine.n16
theorem entL_len (p : Ph) (r : Rd) : (entL p r).length ≤ r.al.length := by
  unfold entL toAll
  rw [List.length_map]
  exact miss_len r.al
theorem tickL_len {c : Ct} (hf : c.fine) : (tickL c).length ≤ 16 := by
  unfold tickL
  cases hp : c.ph with
  | none => simp
  | some x =>
    obtain ⟨p, r⟩ := x
    have hr := (hf.rd p r hp).1
    have n16 := hf.n16
    simp only [folL]
    split
    · have := entL_len p (tkR r)
      have e : (tkR r).al.length = r.al.length := rfl
      omega
    · split
      · rw [entL0_len]; exact n16
      · split
        · rw [entL0_len]; exact n16
        · simp
theorem stopL_len {c : Ct} (hf : c.fine) : (stopL c).length ≤ 16 := by
  unfold stopL
  cases hp : c.ph with
  | none => simp
  | some x => exact folL_len hf hp _
theorem revL_len {c : Ct} (hf : c.fine) : (revL c).length ≤ 16 := by
  unfold revL
  cases hp : c.ph with
  | none => simp
  | some x =>
    obtain ⟨p, r⟩ := x
    have n16 := hf.n16
    cases p <;> simp only [rvL, entL0_len, List.length_nil] <;> omega
theorem begL_len (c : Ct) (k v : Int) : (begL c k v).length = c.ru.n := by
  unfold begL
  rw [entL0_len]
/-- what a call of the controller does to the play -/
theorem PlX.did {N : Nat} {w w' : World} {B C : Nat} {S : Nat → Prop} {nv lv fv bv av : Value} {p : Pl} {c' : Ct} {v : Value} {L : List Mg} (h : PlX N w B C S nv lv fv bv av p) (d : Did w w' S C c' v L) :
    ∃ S', PlX N w' B C S' nv lv fv bv av { p with c := c' } ∧ w'.ownsRow N 44 11 v L.length (mgs L) ∧ (∀ k, v.ownBlock = some k → lv.ownBlock ≠ some k) ∧ Below N w w' := by
  obtain ⟨S', x, s, kp, o, dd⟩ := d
  have ne : ∀ k, k < w.heap.size → ¬ S k → ¬ S' k := fun k hk hs hs' => by rcases s k hs' with a | a; exact hs a; omega
  refine ⟨S', ⟨getL kp h.ob h.sB, x, own_kp h.nd kp h.sn, own_kp h.lt kp h.sl, own_kp h.fe kp h.sf, own_kp h.ba kp h.sb, own_kp h.at' kp h.sa, ne _ (blk_lt h.ob) h.sB, fun k e => ne k (own_lt2 h.nd e) (h.sn k e), fun k e => ne k (own_lt2 h.lt e) (h.sl k e), fun k e => ne k (own_lt2 h.fe e) (h.sf k e), fun k e => ne k (own_lt2 h.ba e) (h.sb k e), fun k e => ne k (own_lt2 h.at' e) (h.sa k e), h.fb, h.gB, fun k e => ?_, Nat.le_trans h.gN kp.size⟩, own_mono o h.gN, fun k e f => ?_, kp.toN h.gN h.gS⟩
  · rcases s k e with a | a
    · exact h.gS k a
    · exact Nat.le_trans h.gN a
  · have a := own_ge o e
    have b := own_lt2 h.lt f
    omega
/-- what a call of the controller sent goes through went -/
theorem went_step {N : Nat} {w : World} {B C : Nat} {S : Nat → Prop} {nv lv fv bv av : Value} {p : Pl} (h : PlX N w B C S nv lv fv bv av p) {n : Nat} {v : Value} {L : List Mg} (hs : StepI p.c L n p.job p.kind p.ver p.bk (feF p) (baF p) (ndF p)) (hnn : p.nd.length = n) (hna : p.at'.length = n) (hnf : p.fe.length = n) (hnb : p.ba.length = n) (hj0 : p.job ≠ 0) (hat : ∀ i, i < n → atF p.at' i < 0) (hlet : ∀ m ∈ p.lt, LetI n p.job p.ver p.bk (ndF p) m)
    (hv : w.ownsRow N 44 11 v L.length (mgs L)) (hvl : ∀ k, v.ownBlock = some k → lv.ownBlock ≠ some k) (hL : L.length ≤ 16) (hlt : p.lt.length ≤ 1000000000) :
    Calls Try.prog 41 #[.pointer (some ⟨B, 0, none⟩), v, .int .i64 0, .bool true] w fun e w' => e = .returned (.bool true) ∧ ∃ lv' p2, PlX N w' B C S nv lv' fv bv av p2 ∧ PI n p2 ∧ Below N w w' ∧ p2.c = p.c ∧ p2.job = p.job ∧ p2.lt.length ≤ p.lt.length + 16 ∧ (p.c.ph ≠ none → w'.ownsRow N 44 11 v L.length (mgs L)) := by
  obtain ⟨bk', hb, ci, ho, hend⟩ := hs
  have eb : bk' = bkL p.bk L := by
    rw [Bool.eq_iff_iff, bkL_iff]
    exact hb
  subst eb
  have n16 : n ≤ 16 := by rw [← ci.nn]; exact ci.fine.n16
  have n1 : 1 ≤ n := by rw [← ci.nn]; exact ci.fine.n1
  have mono : p.bk = true → bkL p.bk L = true := fun e => (bkL_iff _ _).2 (Or.inl e)
  cases hp : p.c.ph with
  | some x =>
    refine Calls.mono (went_on h ci.fine hnn hnf n16 hv hvl hL hlt ho (by rw [hp]; rfl)) ?_
    rintro e w' ⟨rfl, lv', q1, q2, q3⟩
    refine ⟨rfl, lv', _, q1, ⟨ci, hnn, hna, fun _ => ⟨hnf, hnb, hj0, hat⟩, fun m hm => ?_, fun i hi h0 => ?_⟩, q2, rfl, rfl, by show (p.lt ++ L).length ≤ _; rw [List.length_append]; omega, fun _ => q3⟩
    · rcases List.mem_append.1 hm with a | a
      · exact (hlet m a).mono mono
      · exact out_let n16 (ho m a)
    · have a := hat i hi
      have b : 0 ≤ atF p.at' i := h0
      omega
  | none =>
    obtain ⟨rfl, he⟩ := hend hp
    have e0 : bkL p.bk [] = p.bk := by simp [bkL]
    rw [e0] at ci he
    obtain ⟨va, vc, rfl⟩ := own_sl hv
    refine Calls.mono (went_end h ci.fine hj0 hnn hna hnb n1 n16 he (by rw [hp]; rfl)) ?_
    rintro e w' ⟨rfl, at2, q1, q2, q3, q4⟩
    exact ⟨rfl, lv, _, q2, ⟨ci, hnn, q1, fun f => absurd hp f, hlet, q4⟩, q3, rfl, rfl, by show p.lt.length ≤ _; omega, fun f => absurd rfl f⟩
/-- what an ended job bound the nodes to, and the play, while a node is told something -/
theorem getD_setL {α : Type} {L : List α} {k i : Nat} {x d : α} (hk : k < L.length) : (L.set k x).getD i d = if i = k then x else L.getD i d := by
  by_cases e : i = k
  · subst e
    rw [if_pos rfl]
    simp [List.getD_eq_getElem?_getD, hk]
  · rw [if_neg e]
    simp [List.getD_eq_getElem?_getD, Ne.symm e]
theorem ndF_set {p : Pl} {k : Nat} {x : Nd} (hk : k < p.nd.length) (L : List Mg) : ndF { p with nd := p.nd.set k x, lt := L } = upf (ndF p) k x := by
  funext i
  unfold ndF upf
  exact getD_setL hk
theorem PI.node {n : Nat} {p : Pl} (h : PI n p) {k : Nat} (hk : k < n) {m : Mg} (hr : RqI p.job p.ver p.bk m) (ht : m.td = (k : Int)) (L : List Mg) (hL : ∀ x ∈ L, x ∈ p.lt) : PI n { p with nd := p.nd.set k (doesN (ndF p k) m), lt := L ++ [doesA (ndF p k) m] } := by
  have hk' : k < p.nd.length := by rw [h.nn]; exact hk
  have hn := h.ci.nds k hk
  have e := ndF_set (x := doesN (ndF p k) m) hk' (L ++ [doesA (ndF p k) m])
  refine ⟨?_, by show (p.nd.set _ _).length = n; rw [List.length_set]; exact h.nn, h.na, h.fb, fun x hx => ?_, ?_⟩
  · have q := h.ci.node hk hr
    rw [← e] at q
    exact q
  · show LetI n p.job p.ver p.bk (ndF _) x
    rw [e]
    rcases List.mem_append.1 hx with a | a
    · exact (h.lt x (hL x a)).node hn hr
    · rw [List.mem_singleton.1 a]
      exact LetI.answer hk hn hr ht
  · show AtI n p.job p.bk (ndF _) _
    rw [e]
    exact h.at_.node hn hr
theorem PI.letters {n : Nat} {p : Pl} (h : PI n p) (L : List Mg) (hL : ∀ x ∈ L, x ∈ p.lt) : PI n { p with lt := L } := ⟨h.ci, h.nn, h.na, h.fb, fun m hm => h.lt m (hL m hm), h.at_⟩
end Go.Proofs.Ytpleakkhbfhdkaa.Cn
namespace Go.Proofs.Ytpleakkhbfhdkaa.Cn
open Go.RowKit
/-- an event -/
structure Ev where
  k : Int
  n : Int
  v : Int
def evV (e : Ev) : Array Value := #[.int .i64 e.k, .int .i64 e.n, .int .i64 e.v]
/-- the play and a list of messages beside it -/
structure BgX (N : Nat) (w0 w : World) (B C : Nat) (S : Nat → Prop) (nv lv fv bv av : Value) (p : Pl) (v : Value) (L : List Mg) : Prop where
  pl : PlX N w B C S nv lv fv bv av p
  vr : w.ownsRow N 44 11 v L.length (mgs L)
  vl : ∀ k, v.ownBlock = some k → lv.ownBlock ≠ some k
  b : Below N w0 w
theorem BgX.below {N : Nat} {w0 w w' : World} {B C : Nat} {S : Nat → Prop} {nv lv fv bv av : Value} {p : Pl} {v : Value} {L : List Mg} (h : BgX N w0 w B C S nv lv fv bv av p v L) (hb : Below w.heap.size w w') : BgX N w0 w' B C S nv lv fv bv av p v L :=
  ⟨h.pl.below hb, own_below h.vr hb, h.vl, h.b.trans (hb.mono h.pl.gN)⟩
theorem BgX.step {N : Nat} {w0 w w' : World} {B C : Nat} {S : Nat → Prop} {nv lv fv bv av fv' bv' : Value} {p p' : Pl} {v : Value} {L : List Mg} (h : BgX N w0 w B C S nv lv fv bv av p v L) (hp : PlX N w' B C S nv lv fv' bv' av p') (hk : Kp w w' (fun k => k = B)) : BgX N w0 w' B C S nv lv fv' bv' av p' v L :=
  ⟨hp, own_kp h.vr hk (fun k e f => row_type h.vr h.pl.ob (by decide) k e f), h.vl, h.b.trans (hk.toN h.pl.gN (fun k e => by rw [e]; exact h.pl.gB))⟩
theorem BgX.set {N : Nat} {w0 w : World} {B C : Nat} {S : Nat → Prop} {nv lv fv bv av : Value} {p : Pl} {v : Value} {L : List Mg} (h : BgX N w0 w B C S nv lv fv bv av p v L) (j k x : Int) (b : Bool) (i : Nat) (u : Value) (hA : (plA p C nv lv fv bv av).setIfInBounds i u = plA { p with job := j, kind := k, ver := x, bk := b } C nv lv fv bv av) : BgX N w0 (w.setCell ⟨B, i, none⟩ u) B C S nv lv fv bv av { p with job := j, kind := k, ver := x, bk := b } v L :=
  h.step (h.pl.set j k x b i u hA) ((Kp.refl w (fun k => k = B)).set (Or.inl rfl) _ _)
/-- a new row of marks -/
theorem BgX.fet {N : Nat} {w0 w : World} {B C : Nat} {S : Nat → Prop} {nv lv fv bv av fv' : Value} {p : Pl} {v : Value} {L : List Mg} {F : List Bool} {b : Nat} (h : BgX N w0 w B C S nv lv fv bv av p v L) (ho : w.ownsRow b 4 1 fv' F.length (bls F)) (hb : N ≤ b) (hS : ∀ k, S k → k < b) (hbv : ∀ k, bv.ownBlock = some k → k < b) : BgX N w0 (w.setCell ⟨B, 6, none⟩ fv') B C S nv lv fv' bv av { p with fe := F } v L :=
  h.step (h.pl.own 6 fv' { p with fe := F } nv lv fv' bv av rfl rfl h.pl.nd h.pl.lt (own_mono ho hb) h.pl.ba h.pl.at' h.pl.sn h.pl.sl (fun k e s => by have := own_ge ho e; have := hS k s; omega) h.pl.sb h.pl.sa (fun k e f => by have := own_ge ho e; have := hbv k f; omega)) ((Kp.refl w (fun k => k = B)).set (Or.inl rfl) _ _)
theorem BgX.bak {N : Nat} {w0 w : World} {B C : Nat} {S : Nat → Prop} {nv lv fv bv av bv' : Value} {p : Pl} {v : Value} {L : List Mg} {F : List Bool} {b : Nat} (h : BgX N w0 w B C S nv lv fv bv av p v L) (ho : w.ownsRow b 4 1 bv' F.length (bls F)) (hb : N ≤ b) (hS : ∀ k, S k → k < b) (hfv : ∀ k, fv.ownBlock = some k → k < b) : BgX N w0 (w.setCell ⟨B, 7, none⟩ bv') B C S nv lv fv bv' av { p with ba := F } v L :=
  h.step (h.pl.own 7 bv' { p with ba := F } nv lv fv bv' av rfl rfl h.pl.nd h.pl.lt h.pl.fe (own_mono ho hb) h.pl.at' h.pl.sn h.pl.sl h.pl.sf (fun k e s => by have := own_ge ho e; have := hS k s; omega) h.pl.sa (fun k e f => by have := own_ge ho f; have := hfv k e; omega)) ((Kp.refl w (fun k => k = B)).set (Or.inl rfl) _ _)
theorem BgX.att {N : Nat} {w0 w : World} {B C : Nat} {S : Nat → Prop} {nv lv fv bv : Value} {p : Pl} {g c n : Nat} {v : Value} {L : List Mg} (h : BgX N w0 w B C S nv lv fv bv (.slice (some ⟨g, 0, none⟩) n c) p v L) (hn : p.at'.length = n) (i : Nat) (x : Int) : BgX N w0 (w.setCell ⟨g, i, none⟩ (.int .i64 x)) B C S nv lv fv bv (.slice (some ⟨g, 0, none⟩) n c) { p with at' := p.at'.set i x } v L := by
  obtain ⟨a, k⟩ := h.pl.setAtN hn i x
  exact ⟨a, own_kp h.vr k (fun q e f => own_apart h.vr h.pl.at' (by decide) q e (by rw [f]; rfl)), h.vl, h.b.trans (k.toN h.pl.gN (fun q e => by rw [e]; exact own_ge h.pl.at' rfl))⟩
theorem fls_fe (p : Pl) (n : Nat) (h : p.fe = fls n) : feF p = fun _ => false := by
  funext i
  unfold feF
  rw [h]
  unfold fls
  simp only [List.getD_eq_getElem?_getD, List.getElem?_replicate]
  split <;> rfl
theorem fls_ba (p : Pl) (n : Nat) (h : p.ba = fls n) : baF p = fun _ => false := by
  funext i
  unfold baF
  rw [h]
  unfold fls
  simp only [List.getD_eq_getElem?_getD, List.getElem?_replicate]
  split <;> rfl
theorem begL_at (c : Ct) (k v : Int) (i : Nat) (hi : i < (begL c k v).length) : (begL c k v)[i].td = (i : Int) ∧ (k = 1 → (begL c k v)[i].kind = 3) ∧ (k = 2 → (begL c k v)[i].kind = 5) := by
  have e : (begL c k v)[i] = { mesP (fstP k) (rd0 c.ru (c.num + 1) k v) with fr := 64, td := (i : Int), id := c.num + 1 } := by
    unfold begL entL
    exact all0 _ _ _ _ _
  rw [e]
  refine ⟨rfl, fun h => by subst h; rfl, fun h => by subst h; rfl⟩
set_option maxHeartbeats 8000000 in
set_option maxRecDepth 100000 in
set_option linter.unusedSimpArgs false in
set_option linter.unusedVariables false in
theorem begin_busy {N : Nat} {w : World} {B C : Nat} {S : Nat → Prop} {nv lv fv bv av : Value} {p : Pl} (h : PlX N w B C S nv lv fv bv av p) (hf : p.c.fine) (hph : p.c.ph.isSome = true) (ev : Ev) :
    Calls Try.prog 40 #[.pointer (some ⟨B, 0, none⟩), .agg (evV ev)] w fun e w' => e = .returned (.bool true) ∧ Below w.heap.size w w' := by
  obtain ⟨E, hE⟩ : ∃ E, E = w.heap.size := ⟨_, rfl⟩
  obtain ⟨W0, hW0⟩ : ∃ W0, W0 = w.alloc (.cells (evV ev) 68) := ⟨_, rfl⟩
  have b0 : Hid (Below w.heap.size w W0) := by rw [hW0]; exact (Below.refl _ w).alloc (Nat.le_refl _) _
  have m0 : W0.heap[E]? = some (.cells (evV ev) 68) := by rw [hW0, hE]; exact heap_last _ _
  have h0 := h.below b0.out
  have x0 := h0.cells.1
  have t1 : W0.cell? ⟨E, 1, none⟩ = some (.int .i64 ev.n) := by rw [cell_row m0]; rfl
  have t2 : W0.cell? ⟨E, 2, none⟩ = some (.int .i64 ev.v) := by rw [cell_row m0]; rfl
  have MO1 := mod15_any ev.n 2 (by omega) (by omega) W0
  have MO2 := mod15_any ev.v 9 (by omega) (by omega) W0
  obtain ⟨q1, hq1⟩ : ∃ q, ev.n % 2 = q := ⟨_, rfl⟩
  obtain ⟨q2, hq2⟩ : ∃ q, ev.v % 9 = q := ⟨_, rfl⟩
  have e11 : 0 ≤ q1 := by rw [← hq1]; exact Int.emod_nonneg _ (by omega)
  have e12 : q1 < 2 := by rw [← hq1]; exact Int.emod_lt_of_pos _ (by omega)
  have e21 : 0 ≤ q2 := by rw [← hq2]; exact Int.emod_nonneg _ (by omega)
  have e22 : q2 < 9 := by rw [← hq2]; exact Int.emod_lt_of_pos _ (by omega)
  rw [hq1] at MO1
  rw [hq2] at MO2
  have BU := busy_any h0.ct hf.n1
  rw [hph] at BU
  have mb : mayB p.c (1 + q1) (1 + q2) = 150 := by unfold mayB; rw [if_pos hph]
  have BE := Begin_no h0.ct hf.n1 (1 + q1) (1 + q2) (by rw [mb]; omega)
  rw [mb] at BE
  have MO1 := hide MO1
  have MO2 := hide MO2
  have BU := hide BU
  have BE := hide BE
  have NU := hide (num_any 150)
  have HE := hide hE
  clear h h0 m0 hq1 hq2 hf hph mb
  go_enter Try.func40, Try.ntmps40
  go_upto_region 1 with fail
  rw [← hW0, ← HE.out]
  clear hW0 hE
  go_wp2_with fail
  refine Calls.mono MO1.out ?_
  rintro e w9 ⟨rfl, rfl⟩
  go_wp2_with fail
  refine Calls.mono MO2.out ?_
  rintro e w9 ⟨rfl, rfl⟩
  go_wp2_with fail
  refine Calls.mono BU.out ?_
  rintro e w9 ⟨rfl, rfl⟩
  go_wp2_with fail
  refine Calls.mono BE.out ?_
  rintro e w9 ⟨rfl, rfl⟩
  go_wp2_with fail
  refine Calls.mono (NU.out _) ?_
  rintro e w9 ⟨rfl, rfl⟩
  go_wp2_with fail
  go_ret
  exact ⟨rfl, b0.out⟩
end Go.Proofs.Ytpleakkhbfhdkaa.Cn
namespace Go.Proofs.Ytpleakkhbfhdkaa.Cn
open Go.RowKit
set_option maxHeartbeats 8000000 in
set_option maxRecDepth 100000 in
set_option linter.unusedSimpArgs false in
set_option linter.unusedVariables false in
theorem begin_idle {N : Nat} {w : World} {B C : Nat} {S : Nat → Prop} {nv lv fv bv av : Value} {p : Pl} (h : PlX N w B C S nv lv fv bv av p) {n : Nat} (hi : PI n p) (hph : p.c.ph = none) (hjb : p.job ≤ 1000000000) (hlt : p.lt.length ≤ 1000000000) (ev : Ev) :
    Calls Try.prog 40 #[.pointer (some ⟨B, 0, none⟩), .agg (evV ev)] w fun e w' => e = .returned (.bool true) ∧ ∃ S' lv' fv' bv' p2, PlX N w' B C S' nv lv' fv' bv' av p2 ∧ PI n p2 ∧ Below N w w' ∧ p2.job = p.job + 1 ∧ p2.lt.length ≤ p.lt.length + 16 := by
  obtain ⟨E, hE⟩ : ∃ E, E = w.heap.size := ⟨_, rfl⟩
  obtain ⟨W0, hW0⟩ : ∃ W0, W0 = w.alloc (.cells (evV ev) 68) := ⟨_, rfl⟩
  have b0 : Hid (Below w.heap.size w W0) := by rw [hW0]; exact (Below.refl _ w).alloc (Nat.le_refl _) _
  have m0 : W0.heap[E]? = some (.cells (evV ev) 68) := by rw [hW0, hE]; exact heap_last _ _
  have h0 := h.below b0.out
  have x0 := h0.cells.1
  have t1 : W0.cell? ⟨E, 1, none⟩ = some (.int .i64 ev.n) := by rw [cell_row m0]; rfl
  have t2 : W0.cell? ⟨E, 2, none⟩ = some (.int .i64 ev.v) := by rw [cell_row m0]; rfl
  have MO1 := mod15_any ev.n 2 (by omega) (by omega) W0
  have MO2 := mod15_any ev.v 9 (by omega) (by omega) W0
  obtain ⟨q1, hq1⟩ : ∃ q, ev.n % 2 = q := ⟨_, rfl⟩
  obtain ⟨q2, hq2⟩ : ∃ q, ev.v % 9 = q := ⟨_, rfl⟩
  have e11 : 0 ≤ q1 := by rw [← hq1]; exact Int.emod_nonneg _ (by omega)
  have e12 : q1 < 2 := by rw [← hq1]; exact Int.emod_lt_of_pos _ (by omega)
  have e21 : 0 ≤ q2 := by rw [← hq2]; exact Int.emod_nonneg _ (by omega)
  have e22 : q2 < 9 := by rw [← hq2]; exact Int.emod_lt_of_pos _ (by omega)
  rw [hq1] at MO1
  rw [hq2] at MO2
  have hf := hi.ci.fine
  have BU := busy_any h0.ct hf.n1
  rw [hph] at BU
  obtain ⟨k, hk⟩ : ∃ k, k = 1 + q1 := ⟨_, rfl⟩
  obtain ⟨v, hv⟩ : ∃ v, v = 1 + q2 := ⟨_, rfl⟩
  have k12 : k = 1 ∨ k = 2 := by omega
  have hnum : p.c.num = p.job := hi.ci.num
  have isv : isV v = true := by unfold isV; simp; omega
  have mb : mayB p.c k v = 0 := by
    unfold mayB fitV
    rw [if_neg (by rw [hph]; simp), if_pos ⟨by omega, by omega⟩, if_neg (show ¬ k = 3 by omega), if_pos isv, if_neg (show ¬ p.c.num = 9007199254740992 by omega)]
  have BE := Begin_yes h0.ct hf.n1 hf.n16 k v mb hf.nu0 hf.nu1
  have ST := begin_step hi.ci hph (by omega) k v k12
  have MO1 := hide MO1
  have MO2 := hide MO2
  have BU := hide BU
  have BE := hide BE
  have ST := hide ST
  have HI := hide hi
  have H := hide h
  have H0 := hide h0
  have HE := hide hE
  have HLT := hide hlt
  have n1 := hi.n1
  have n16 := hi.n16
  have BL : Hid ((begL p.c k v).length = n) := by rw [begL_len]; exact hi.ci.nn
  obtain ⟨L, hL⟩ : ∃ L, L = begL p.c k v := ⟨_, rfl⟩
  have BAT : Hid (∀ (i : Nat) (hi : i < L.length), L[i].td = (i : Int) ∧ (k = 1 → L[i].kind = 3) ∧ (k = 2 → L[i].kind = 5)) := by rw [hL]; exact begL_at _ _ _
  obtain ⟨c2, hc2⟩ : ∃ c2, c2 = begC p.c k v := ⟨_, rfl⟩
  have hph2 : Hid (c2.ph.isSome = true) := by rw [hc2]; exact rfl
  rw [← hL] at BL BE ST
  rw [← hc2] at BE ST
  have NO := hide (fun w => nones_any w n n16)
  have j0 : Hid (0 ≤ p.job) := by have := hf.nu0; rw [hnum] at this; exact this
  have HJB := hide hjb
  clear h h0 m0 hq1 hq2 hf hph mb hi hL hc2 isv hnum hlt
  go_enter Try.func40, Try.ntmps40
  go_upto_region 1 with fail
  rw [← hW0, ← HE.out]
  clear hW0 hE
  go_wp2_with fail
  refine Calls.mono MO1.out ?_
  rintro e w9 ⟨rfl, rfl⟩
  go_wp2_with fail
  refine Calls.mono MO2.out ?_
  rintro e w9 ⟨rfl, rfl⟩
  go_wp2_with fail
  refine Calls.mono BU.out ?_
  rintro e w9 ⟨rfl, rfl⟩
  clear MO1 MO2 BU t1 t2
  go_upto_region 7 with fail
  rw [← hk, ← hv]
  clear hk hv e11 e12 e21 e22
  go_wp2_with fail
  refine Calls.mono BE.out ?_
  rintro e W1 ⟨vv, rfl, di⟩
  obtain ⟨S1, p1, r1, l1, bb1⟩ := H0.out.did di
  have X1 : Hid (BgX N w W1 B C S1 nv lv fv bv av { p with c := c2 } vv L) := ⟨p1, r1, l1, (b0.out.mono H.out.gN).trans bb1⟩
  obtain ⟨va, vc, hvv⟩ := own_sl r1
  rw [BL.out] at hvv
  subst hvv
  clear p1 r1 l1 bb1 di BE x0 H0
  have x3 := X1.out.pl.cells.2.2.2.1
  have z3 : W1.frozen? ⟨B, 3, none⟩ = false := fz_row X1.out.pl.ob 3
  have jb := HJB.out
  have jn := j0.out
  obtain ⟨j, hj⟩ : ∃ j, j = p.job := ⟨_, rfl⟩
  have x3' : W1.cell? ⟨B, 3, none⟩ = some (.int .i64 j) := by rw [hj]; exact x3
  rw [← hj] at jb jn
  obtain ⟨W2, hW2⟩ : ∃ X, X = W1.setCell ⟨B, 3, none⟩ (.int .i64 (j + 1)) := ⟨_, rfl⟩
  have X2 : Hid (BgX N w W2 B C S1 nv lv fv bv av { p with c := c2, job := p.job + 1 } (.slice va n vc) L) := by
    rw [hW2, hj]
    exact X1.out.set (p.job + 1) p.kind p.ver p.bk 3 _ rfl
  have JJ := hide hj
  replace hW2 := hide hW2
  clear x3 hj
  go_upto_region 9 with fail
  rw [← hW2.out]
  clear hW2 x3' z3 X1
  have x4 := X2.out.pl.cells.2.2.2.2.1
  have z4 : W2.frozen? ⟨B, 4, none⟩ = false := fz_row X2.out.pl.ob 4
  obtain ⟨W3, hW3⟩ : ∃ X, X = W2.setCell ⟨B, 4, none⟩ (.int .i64 k) := ⟨_, rfl⟩
  have X3 : Hid (BgX N w W3 B C S1 nv lv fv bv av { p with c := c2, job := p.job + 1, kind := k } (.slice va n vc) L) := by
    rw [hW3]
    exact X2.out.set (p.job + 1) k p.ver p.bk 4 _ rfl
  replace hW3 := hide hW3
  go_upto_region 10 with fail
  rw [← hW3.out]
  clear hW3 x4 z4 X2
  have x5 := X3.out.pl.cells.2.2.2.2.2.1
  have z5 : W3.frozen? ⟨B, 5, none⟩ = false := fz_row X3.out.pl.ob 5
  obtain ⟨W4, hW4⟩ : ∃ X, X = W3.setCell ⟨B, 5, none⟩ (.int .i64 v) := ⟨_, rfl⟩
  have X4 : Hid (BgX N w W4 B C S1 nv lv fv bv av { p with c := c2, job := p.job + 1, kind := k, ver := v } (.slice va n vc) L) := by
    rw [hW4]
    exact X3.out.set (p.job + 1) k v p.bk 5 _ rfl
  replace hW4 := hide hW4
  go_upto_region 11 with fail
  rw [← hW4.out]
  clear hW4 x5 z5 X3
  obtain ⟨na, nc, hnv⟩ := own_sl X4.out.pl.nd
  have hnv' : nv = .slice na n nc := by rw [hnv]; show Value.slice na p.nd.length nc = _; rw [HI.out.nn]
  have HNV := hide hnv'
  have x1 := X4.out.pl.cells.2.1
  rw [hnv'] at x1
  clear hnv hnv'
  go_wp2_with fail
  refine Calls.mono (NO.out _) ?_
  rintro e W5 ⟨fv2, rfl, o5, b5⟩
  have X5 := hide (X4.out.below b5)
  obtain ⟨fa, fc, hfv⟩ := own_sl o5
  have x6 := X5.out.pl.cells.2.2.2.2.2.2.1
  have z6 : W5.frozen? ⟨B, 6, none⟩ = false := fz_row X5.out.pl.ob 6
  obtain ⟨W6, hW6⟩ : ∃ X, X = W5.setCell ⟨B, 6, none⟩ fv2 := ⟨_, rfl⟩
  have X6 : Hid (BgX N w W6 B C S1 nv lv fv2 bv av { p with c := c2, job := p.job + 1, kind := k, ver := v, fe := fls n } (.slice va n vc) L) := by
    rw [hW6]
    exact X5.out.fet o5 X4.out.pl.gN X4.out.pl.ct.lt (fun q e => own_lt2 X4.out.pl.ba e)
  subst hfv
  replace hW6 := hide hW6
  clear o5 b5 X4 x1
  go_upto_region 12 with fail
  rw [← hW6.out]
  clear hW6 x6 z6 X5
  have x1 := X6.out.pl.cells.2.1
  rw [HNV.out] at x1
  go_wp2_with fail
  refine Calls.mono (NO.out _) ?_
  rintro e W7 ⟨bv2, rfl, o7, b7⟩
  have X7 := hide (X6.out.below b7)
  obtain ⟨ba, bc, hbv⟩ := own_sl o7
  have x7 := X7.out.pl.cells.2.2.2.2.2.2.2.1
  have z7 : W7.frozen? ⟨B, 7, none⟩ = false := fz_row X7.out.pl.ob 7
  obtain ⟨W8, hW8⟩ : ∃ X, X = W7.setCell ⟨B, 7, none⟩ bv2 := ⟨_, rfl⟩
  have X8 : Hid (BgX N w W8 B C S1 nv lv (.slice fa (fls n).length fc) bv2 av { p with c := c2, job := p.job + 1, kind := k, ver := v, fe := fls n, ba := fls n } (.slice va n vc) L) := by
    rw [hW8]
    exact X7.out.bak o7 X6.out.pl.gN X6.out.pl.ct.lt (fun q e => own_lt2 X6.out.pl.fe e)
  subst hbv
  replace hW8 := hide hW8
  clear o7 b7 X6 x1
  go_upto_region 13 with fail
  rw [← hW8.out]
  clear hW8 x7 z7 X7
  have x8 := X8.out.pl.cells.2.2.2.2.2.2.2.2.1
  have z8 : W8.frozen? ⟨B, 8, none⟩ = false := fz_row X8.out.pl.ob 8
  obtain ⟨W9, hW9⟩ : ∃ X, X = W8.setCell ⟨B, 8, none⟩ (.bool false) := ⟨_, rfl⟩
  have X9 : Hid (BgX N w W9 B C S1 nv lv (.slice fa (fls n).length fc) (.slice ba (fls n).length bc) av { p with c := c2, job := p.job + 1, kind := k, ver := v, fe := fls n, ba := fls n, bk := false } (.slice va n vc) L) := by
    rw [hW9]
    exact X8.out.set (p.job + 1) k v false 8 _ rfl
  replace hW9 := hide hW9
  go_upto_region 14 with fail
  rw [← hW9.out]
  clear hW9 x8 z8 X8
  obtain ⟨ga, ac, hav⟩ := H.out.atRow HI.out.na n1
  subst hav
  go_wp2_with fail
  go_loopw [12] (fun vi wr => ∃ (i : Nat) (ati : List Int), i ≤ n ∧ vi = .int .i64 (i : Int) ∧ Hid (ati.length = n) ∧ Hid (∀ j, j < i → ati.getD j (-1) = -1) ∧ Hid (BgX N w wr B C S1 nv lv (.slice fa (fls n).length fc) (.slice ba (fls n).length bc) (.slice (some ⟨ga, 0, none⟩) n ac) { p with c := c2, job := p.job + 1, kind := k, ver := v, fe := fls n, ba := fls n, bk := false, at' := ati } (.slice va n vc) L)) (fun vi _ => n - (intOf vi).toNat)
  case atStart => exact ⟨0, p.at', Nat.zero_le _, rfl, HI.out.na, fun j f => by omega, X9.out⟩
  case round =>
    obtain ⟨i, ati, hi, rfl, HL, HJ, HX⟩ := hrel
    have x9 := HX.out.pl.cells.2.2.2.2.2.2.2.2.2
    by_cases hin : i < n
    case pos =>
      have hii : (i : Int) < (n : Int) := by omega
      obtain ⟨AC, AF, _, _⟩ := HX.out.pl.atCell HL.out i hin
      have X2 : Hid (BgX N w (wr.setCell ⟨ga, i, none⟩ (.int .i64 (-1))) B C S1 nv lv (.slice fa (fls n).length fc) (.slice ba (fls n).length bc) (.slice (some ⟨ga, 0, none⟩) n ac) { p with c := c2, job := p.job + 1, kind := k, ver := v, fe := fls n, ba := fls n, bk := false, at' := ati.set i (-1) } (.slice va n vc) L) := HX.out.att HL.out i (-1)
      have J2 : Hid (∀ j, j < i + 1 → (ati.set i (-1)).getD j (-1) = -1) := fun j hj => by
        rw [getD_setI (by rw [HL.out]; exact hin)]
        by_cases e : j = i
        · rw [if_pos e]
        · rw [if_neg e]
          exact HJ.out j (by omega)
      go_wp2_with fail
      exact ⟨⟨i + 1, ati.set i (-1), by omega, rfl, by rw [List.length_set]; exact HL.out, J2.out, X2.out⟩, by simp [intOf]; omega⟩
    case neg =>
      obtain rfl : i = n := by omega
      obtain ⟨p2, hp2⟩ : ∃ p2 : Pl, p2 = { p with c := c2, job := p.job + 1, kind := k, ver := v, fe := fls i, ba := fls i, bk := false, at' := ati } := ⟨_, rfl⟩
      have hx := HX.out
      rw [← hp2] at hx
      have st2 : StepI p2.c L i p2.job p2.kind p2.ver p2.bk (feF p2) (baF p2) (ndF p2) := by
        rw [fls_fe p2 i (by rw [hp2]), fls_ba p2 i (by rw [hp2]), hp2]
        exact ST.out
      have WS := hide (went_step hx.pl st2 (by rw [hp2]; exact HI.out.nn) (by rw [hp2]; exact HL.out) (by rw [hp2]; exact fls_len i) (by rw [hp2]; exact fls_len i) (by rw [hp2]; show p.job + 1 ≠ 0; have := j0.out; omega) (fun q hq => by rw [hp2]; show ati.getD q (-1) < 0; rw [HJ.out q hq]; omega) (fun m hm => by rw [hp2] at hm ⊢; exact (HI.out.lt m hm).next) hx.vr hx.vl (by rw [BL.out]; exact n16) (by rw [hp2]; exact HLT.out))
      have ph2 : Hid (p2.c.ph.isSome = true) := by rw [hp2]; exact hph2.out
      have BU2 := busy_any hx.pl.ct st2.choose_spec.2.1.fine.n1
      rw [ph2.out] at BU2
      replace BU2 := hide BU2
      have X3 := hide hx
      have x0 := hx.pl.cells.1
      have x1 := hx.pl.cells.2.1
      rw [HNV.out] at x1
      have HP2 := hide hp2
      clear hp2 hx st2 HX
      go_wp2_with fail
      refine Calls.mono BU2.out ?_
      rintro e w9 ⟨rfl, rfl⟩
      go_wp2_with fail
      refine Calls.mono WS.out ?_
      rintro e WA ⟨rfl, lvA, pA, a1, a2, a3, a4, a5, a6, a7⟩
      have FA : Hid (∃ S' lv' fv' bv' p2, PlX N WA B C S' nv lv' fv' bv' (.slice (some ⟨ga, 0, none⟩) i ac) p2 ∧ PI i p2 ∧ Below N w WA ∧ p2.job = p.job + 1 ∧ p2.lt.length ≤ p.lt.length + 16) := ⟨S1, lvA, _, _, pA, a1, a2, X3.out.b.trans a3, by rw [a5, HP2.out], by have e : p2.lt = p.lt := (by rw [HP2.out]); rw [e] at a6; exact a6⟩
      have VA : Hid (WA.ownsRow N 44 11 (.slice va i vc) L.length (mgs L)) := a7 (by have := ph2.out; intro f; rw [f] at this; simp at this)
      clear a1 a2 a3 a4 a5 a6 a7 WS x0 x1 BU2
      go_wp2_with fail
      go_loopw [13] (fun vi wr => ∃ (q : Nat), q ≤ i ∧ vi = .int .i64 (q : Int) ∧ WA = wr) (fun vi _ => i - (intOf vi).toNat)
      case atStart => exact ⟨0, Nat.zero_le _, rfl, rfl⟩
      case round =>
        obtain ⟨q, hq, rfl, rfl⟩ := hrel
        by_cases hqn : q < i
        case pos =>
          have hii : (q : Int) < (i : Int) := by omega
          have hqL : q < L.length := by rw [BL.out]; exact hqn
          obtain ⟨g, c9, hv9, hg, cl, rg⟩ := own_mg VA.out q hqL
          have e8 : va = some ⟨g, 0, none⟩ := by simp only [Value.slice.injEq] at hv9; exact hv9.1
          subst e8
          obtain ⟨b1, b2, b3⟩ := BAT.out q hqL
          have y2 : WA.cell? ⟨g, q * 11 + 2, none⟩ = some (.int .i64 (q : Int)) := by rw [← b1]; exact cl.2.2.1
          have y0 := cl.1
          obtain ⟨kk, hkk⟩ : ∃ kk, kk = L[q].kind := ⟨_, rfl⟩
          rw [← hkk] at y0 b2 b3
          clear hv9 rg cl b1 hkk hqL hg
          rcases k12 with rfl | rfl
          · rw [b2 rfl] at y0
            clear b2 b3
            go_wp2_with fail
            exact ⟨⟨q + 1, by omega, rfl, trivial⟩, by simp [intOf]; omega⟩
          · rw [b3 rfl] at y0
            clear b2 b3
            go_wp2_with fail
            exact ⟨⟨q + 1, by omega, rfl, trivial⟩, by simp [intOf]; omega⟩
        case neg =>
          obtain rfl : q = i := by omega
          go_wp2_with fail
          go_ret
          exact ⟨rfl, FA.out⟩
end Go.Proofs.Ytpleakkhbfhdkaa.Cn
