import Derived.Test.YtpoegknmkbnjlaaDoorEpCalls
import Derived.Test.YtpoegknmkbnjlaaDoorErRep
import Derived.Test.YtpoegknmkbnjlaaDoorGErRow
import Derived.Test.YtpoegknmkbnjlaaDoorGEtPure
import Derived.Test.YtpoegknmkbnjlaaDoorGEtSame
import Derived.Test.YtpoegknmkbnjlaaDoorGErTake
namespace Go.Proofs.YtpoegknmkbnjlaaDoor.Cn
open Go.RowKit
set_option maxHeartbeats 16000000 in
set_option maxRecDepth 100000 in
set_option linter.unusedSimpArgs false in
set_option linter.unusedVariables false in
theorem Begin_xnil (w : World) (ver : Int) :
    Calls Tryd.prog 28 #[.pointer none, .int .i64 ver] w fun e w' => e = .returned (.tuple #[.slice none 0 0, .int .i64 2]) ∧ w = w' := by
  have NO := hide none_nil
  go_enter Tryd.func28, Tryd.ntmps28
  go_wp2_with (go_at_call 35; refine Calls.mono (NO.out _) ?_; rintro e w' ⟨rfl, rfl⟩)
  go_ret2
  exact ⟨rfl, rfl⟩
set_option maxHeartbeats 16000000 in
set_option maxRecDepth 100000 in
set_option linter.unusedSimpArgs false in
set_option linter.unusedVariables false in
theorem Tick_xnil (w : World) :
    Calls Tryd.prog 32 #[.pointer none] w fun e w' => e = .returned (.tuple #[.slice none 0 0, .int .i64 2]) ∧ w = w' := by
  have NO := hide none_nil
  go_enter Tryd.func32, Tryd.ntmps32
  go_wp2_with (go_at_call 35; refine Calls.mono (NO.out _) ?_; rintro e w' ⟨rfl, rfl⟩)
  go_ret2
  exact ⟨rfl, rfl⟩
set_option maxHeartbeats 16000000 in
set_option maxRecDepth 100000 in
set_option linter.unusedSimpArgs false in
set_option linter.unusedVariables false in
theorem begin_rnil (w : World) (ver : Int) :
    Calls Tryd.prog 29 #[.pointer none, .int .i64 ver] w fun e w' => e = .returned (.tuple #[.slice none 0 0, .int .i64 2]) ∧ w = w' := by
  go_enter Tryd.func29, Tryd.ntmps29
  go_wp2_with fail
  go_ret2
  exact ⟨rfl, rfl⟩
set_option maxHeartbeats 16000000 in
set_option maxRecDepth 100000 in
set_option linter.unusedSimpArgs false in
set_option linter.unusedVariables false in
theorem tick_rnil (w : World) :
    Calls Tryd.prog 33 #[.pointer none] w fun e w' => e = .returned (.tuple #[.slice none 0 0, .int .i64 2]) ∧ w = w' := by
  go_enter Tryd.func33, Tryd.ntmps33
  go_wp2_with fail
  go_ret2
  exact ⟨rfl, rfl⟩
set_option maxHeartbeats 16000000 in
set_option maxRecDepth 100000 in
set_option linter.unusedSimpArgs false in
set_option linter.unusedVariables false in
theorem busy_rnil (w : World) :
    Calls Tryd.prog 17 #[.pointer none] w fun e w' => e = .returned (.bool false) ∧ w = w' := by
  go_enter Tryd.func17, Tryd.ntmps17
  go_wp2_with fail
  go_ret
  exact ⟨rfl, rfl⟩
set_option maxHeartbeats 16000000 in
set_option maxRecDepth 100000 in
set_option linter.unusedSimpArgs false in
set_option linter.unusedVariables false in
theorem Busy_xnil (w : World) :
    Calls Tryd.prog 16 #[.pointer none] w fun e w' => e = .returned (.bool false) ∧ w = w' := by
  have NO := hide none_nil
  go_enter Tryd.func16, Tryd.ntmps16
  go_wp2_with (go_at_call 35; refine Calls.mono (NO.out _) ?_; rintro e w' ⟨rfl, rfl⟩)
  go_ret
  exact ⟨rfl, rfl⟩
set_option maxHeartbeats 16000000 in
set_option maxRecDepth 100000 in
set_option linter.unusedSimpArgs false in
set_option linter.unusedVariables false in
theorem Take_xnil (w : World) (m : Mg) :
    Calls Tryd.prog 30 #[.pointer none, .agg (mgV m)] w fun e w' => e = .returned (.tuple #[.slice none 0 0, .int .i64 2]) ∧ Kp w w' non := by
  have NO := hide none_nil
  obtain ⟨W0, hW0⟩ : ∃ W0, W0 = w.alloc (.cells (mgV m) 36) := ⟨_, rfl⟩
  have K0 : Hid (Kp w W0 non) := by rw [hW0]; exact (Kp.refl w non).alloc _
  go_enter Tryd.func30, Tryd.ntmps30
  go_upto_region 1 with fail
  rw [← hW0]
  clear hW0
  go_wp2_with (go_at_call 35; refine Calls.mono (NO.out _) ?_; rintro e w' ⟨rfl, rfl⟩)
  go_ret2
  exact ⟨rfl, K0.out⟩
set_option maxHeartbeats 16000000 in
set_option maxRecDepth 100000 in
set_option linter.unusedSimpArgs false in
set_option linter.unusedVariables false in
theorem take_rnil (w : World) (m : Mg) :
    Calls Tryd.prog 31 #[.pointer none, .agg (mgV m)] w fun e w' => e = .returned (.tuple #[.slice none 0 0, .int .i64 2]) ∧ Kp w w' non := by
  have NO := hide none_nil
  obtain ⟨W0, hW0⟩ : ∃ W0, W0 = w.alloc (.cells (mgV m) 36) := ⟨_, rfl⟩
  have K0 : Hid (Kp w W0 non) := by rw [hW0]; exact (Kp.refl w non).alloc _
  go_enter Tryd.func31, Tryd.ntmps31
  go_upto_region 1 with fail
  rw [← hW0]
  clear hW0
  go_wp2_with fail
  go_ret2
  exact ⟨rfl, K0.out⟩
set_option maxHeartbeats 16000000 in
set_option maxRecDepth 100000 in
set_option linter.unusedSimpArgs false in
set_option linter.unusedVariables false in
theorem Report_xnil {w : World}  :
    Calls Tryd.prog 18 #[.pointer none] w fun e w' => e = .returned (.tuple #[.agg (toA rp0 nilV nilV), .int .i64 2]) ∧ Kp w w' non := by
  obtain ⟨A, hA⟩ : ∃ A, A = w.heap.size := ⟨_, rfl⟩
  obtain ⟨W0, hW0⟩ : ∃ W0, W0 = w.alloc (.cells #[.int .i64 0, .int .i64 0, .slice none 0 0, .slice none 0 0] 57) := ⟨_, rfl⟩
  have k0 : Kp w W0 non := by rw [hW0]; exact (Kp.refl w non).alloc _
  have A0 : W0.heap[A]? = some (.cells (toA rp0 nilV nilV) 57) := by rw [hW0, hA]; exact heap_last _ _
  have NO := hide none_nil
  obtain ⟨W1, hW1⟩ : ∃ W1, W1 = W0.setRow A (toA rp0 nilV nilV) := ⟨_, rfl⟩
  have B1 : W1.heap[A]? = some (.cells (toA rp0 nilV nilV) 57) := by rw [hW1]; exact setRow_heap _ _ _ _ _ _ A0
  have K1 : Hid (Kp w W1 non) := by rw [hW1]; exact k0.row (Or.inr (by rw [hA]; exact Nat.le_refl _)) _
  have TI := hide to_info
  have ON : Hid ((toA rp0 nilV nilV).all (·.oneCell') = true) := to_one rp0 ⟨_, _, _, rfl⟩ ⟨_, _, _, rfl⟩
  have HA0 := hide A0
  have HB1 := hide B1
  have HW1 := hide hW1
  clear k0 A0 B1 hW1
  go_enter Tryd.func18, Tryd.ntmps18
  go_upto_region 1 with fail
  rw [← hW0, ← hA]
  clear hW0 hA
  go_wp2_with (first | (go_at_call 35; refine Calls.mono (NO.out _) ?_; rintro e w' ⟨rfl, rfl⟩) | (refine wpList_stR rfl 57 (.tmp 2) (.tmp 8) rfl A rfl (toA rp0 nilV nilV) (toA rp0 nilV nilV) rfl _ HA0.out TI.out rfl ON.out ?_; rw [← HW1.out]))
  refine bodyPost_ret (v := .tuple #[.agg (toA rp0 nilV nilV), .int .i64 2]) (res_row2 Tryd.results18 _ _ W1 A rfl _ rfl _ HB1.out Tryd.underlying57 TI.out) rfl ?_
  exact ⟨rfl, K1.out⟩
set_option maxHeartbeats 16000000 in
set_option maxRecDepth 100000 in
set_option linter.unusedSimpArgs false in
set_option linter.unusedVariables false in
theorem Report_xno {w : World} {X : Nat} {v : Ex} {Z : Zz} (h : ExAt w X v Z) (hp : 1 ≤ v.rows.length) (hj : v.last.jb = 0) :
    Calls Tryd.prog 18 #[.pointer (some ⟨X, 0, none⟩)] w fun e w' => e = .returned (.tuple #[.agg (toA rp0 nilV nilV), .int .i64 151]) ∧ Kp w w' non := by
  obtain ⟨A, hA⟩ : ∃ A, A = w.heap.size := ⟨_, rfl⟩
  obtain ⟨W0, hW0⟩ : ∃ W0, W0 = w.alloc (.cells #[.int .i64 0, .int .i64 0, .slice none 0 0, .slice none 0 0] 57) := ⟨_, rfl⟩
  have k0 : Kp w W0 non := by rw [hW0]; exact (Kp.refl w non).alloc _
  have A0 : W0.heap[A]? = some (.cells (toA rp0 nilV nilV) 57) := by rw [hW0, hA]; exact heap_last _ _
  have x0 := h.kp0 k0
  have NO : Hid (∀ Y : World, W0 = Y → Calls Tryd.prog 35 #[.pointer (some ⟨X, 0, none⟩)] Y fun e w' => e = .returned (.bool false) ∧ Y = w') := fun Y hY => by rw [← hY]; exact none_x x0 hp
  have NO := hide (NO.out _ rfl)
  have c16 : W0.cell? ⟨X, 16, none⟩ = some (.int .i64 0) := by rw [← hj]; exact (ex_cells x0.blk).2.2.2.2.2.2.2.2.2.2.2
  clear h hp hj x0
  obtain ⟨W1, hW1⟩ : ∃ W1, W1 = W0.setRow A (toA rp0 nilV nilV) := ⟨_, rfl⟩
  have B1 : W1.heap[A]? = some (.cells (toA rp0 nilV nilV) 57) := by rw [hW1]; exact setRow_heap _ _ _ _ _ _ A0
  have K1 : Hid (Kp w W1 non) := by rw [hW1]; exact k0.row (Or.inr (by rw [hA]; exact Nat.le_refl _)) _
  have TI := hide to_info
  have ON : Hid ((toA rp0 nilV nilV).all (·.oneCell') = true) := to_one rp0 ⟨_, _, _, rfl⟩ ⟨_, _, _, rfl⟩
  have HA0 := hide A0
  have HB1 := hide B1
  have HW1 := hide hW1
  clear k0 A0 B1 hW1
  go_enter Tryd.func18, Tryd.ntmps18
  go_upto_region 1 with fail
  rw [← hW0, ← hA]
  clear hW0 hA
  go_wp2_with (first | (go_at_call 35; refine Calls.mono NO.out ?_; rintro e w' ⟨rfl, rfl⟩) | (refine wpList_stR rfl 57 (.tmp 2) (.tmp 16) rfl A rfl (toA rp0 nilV nilV) (toA rp0 nilV nilV) rfl _ HA0.out TI.out rfl ON.out ?_; rw [← HW1.out]))
  refine bodyPost_ret (v := .tuple #[.agg (toA rp0 nilV nilV), .int .i64 151]) (res_row2 Tryd.results18 _ _ W1 A rfl _ rfl _ HB1.out Tryd.underlying57 TI.out) rfl ?_
  exact ⟨rfl, K1.out⟩
set_option maxHeartbeats 16000000 in
set_option maxRecDepth 100000 in
set_option linter.unusedSimpArgs false in
set_option linter.unusedVariables false in
theorem New_rno (N : Nat) (w : World) (st : ByteArray) (x : Nat → Int) (ao : Option Addr) (b o cap : Nat) (pv : Nat → Value) (ns : List ND) (h : NsAt N w ao b o pv ns) (hN : N ≤ w.heap.size) (hs : st.size ≤ 9223372036854775807) (hT : YtpoegknmkbnjlaaDoor.TabG w) (he : errP st x ns ≠ 0) :
    Calls Tryd.prog 12 #[.agg (clA st x (.slice ao ns.length cap))] w fun e w' => e = .returned (.tuple #[.pointer none, .int .i64 (errP st x ns)]) ∧ Below w.heap.size w w' := by
  obtain ⟨W0, hW0, hX⟩ := boxed st x cap h hN
  have HX := hide (hX.stand hN)
  have B0 := hide hX.bel
  have CK := hide (YtpoegknmkbnjlaaDoor.rcheck_any N W0 st x ao b o cap pv ns HX.out.nd HX.out.le hs (hT.below hX.bel))
  clear hX h hT
  obtain ⟨er, her⟩ : ∃ er, er = errP st x ns := ⟨_, rfl⟩
  rw [← her] at CK he ⊢
  clear her
  go_enter Tryd.func12, Tryd.ntmps12
  go_upto_region 1 with fail
  rw [← hW0]
  clear hW0
  go_wp2_with (refine wpList_loadCl rfl (.tmp 1) rfl w.heap.size st x _ rfl HX.out.cl ?_)
  refine Calls.mono CK.out ?_
  rintro e W1 ⟨rfl, hb⟩
  have B1 := hide (B0.out.trans (hb.mono B0.out.size))
  clear hb
  have q1 : (er != 0) = true := by simp [he]
  go_wp2_with fail
  go_ret2
  exact ⟨rfl, B1.out⟩
end Go.Proofs.YtpoegknmkbnjlaaDoor.Cn
namespace Go.Proofs.YtpoegknmkbnjlaaDoor.Cn
open Go.RowKit
def Kd (t : TypeId) : Prop := t = 89 ∨ t = 3 ∨ t = 48 ∨ t = 70 ∨ t = 76
/-- both exporters behind n steps, there or not; B: their blocks -/
structure Pa (w : World) (own ref : Value) (B : Nat → Prop) (n : Nat) : Prop where
  kd : ∀ k, B k → ∃ cur t fr, w.heap[k]? = some (.cells cur t fr) ∧ Kd t
  st : (own = .pointer none ∧ ref = .pointer none) ∨ ∃ (X Y : Nat) (e : Ex) (r : Rx) (Z : Zz) (Zq : Zr) (R : Nat), own = .pointer (some ⟨X, 0, none⟩) ∧ ref = .pointer (some ⟨Y, 0, none⟩) ∧ ExAt w X e Z ∧ RxAt w Y r Zq ∧ Bok e r R n ∧ (∀ k, Ap X Z k → B k) ∧ (∀ k, Ar Y Zq k → B k) ∧ (∀ k, Ap X Z k → ¬ Ar Y Zq k)
theorem Pa.lt {w : World} {own ref : Value} {B : Nat → Prop} {n : Nat} (h : Pa w own ref B n) {k : Nat} (hk : B k) : k < w.heap.size := by
  obtain ⟨c, t, fr, hc, _⟩ := h.kd k hk
  exact blk_lt hc
theorem Pa.not {w : World} {own ref : Value} {B : Nat → Prop} {n : Nat} (h : Pa w own ref B n) {k : Nat} {C : Array Value} {t : TypeId} {fr : Nat × Nat} (hk : w.heap[k]? = some (.cells C t fr)) (ht : ¬ Kd t) : ¬ B k := fun e => by
  obtain ⟨c, t', fr', hc, q⟩ := h.kd k e
  rw [hk] at hc
  injection hc with hc
  injection hc with _ hc
  exact ht (hc ▸ q)
theorem Pa.kp {w w' : World} {own ref : Value} {B S : Nat → Prop} {n : Nat} (h : Pa w own ref B n) (hk : Kp w w' S) (hS : ∀ k, B k → ¬ S k) : Pa w' own ref B n := by
  refine ⟨fun k hb => ?_, ?_⟩
  · obtain ⟨c, t, fr, hc, q⟩ := h.kd k hb
    exact ⟨c, t, fr, (hk.block _ (blk_lt hc) (hS k hb)).trans hc, q⟩
  · rcases h.st with e | ⟨X, Y, e, r, Z, Zq, R, h1, h2, h3, h4, h5, h6, h7, h8⟩
    · exact Or.inl e
    · exact Or.inr ⟨X, Y, e, r, Z, Zq, R, h1, h2, h3.kp hk (fun k ha => hS k (h6 k ha)), h4.kp hk (fun k ha => hS k (h7 k ha)), h5, h6, h7, h8⟩
theorem Pa.more {w : World} {own ref : Value} {B : Nat → Prop} {n n' : Nat} (h : Pa w own ref B n) (hn : n ≤ n') : Pa w own ref B n' := by
  refine ⟨h.kd, ?_⟩
  rcases h.st with e | ⟨X, Y, e, r, Z, Zq, R, h1, h2, h3, h4, h5, h6, h7, h8⟩
  · exact Or.inl e
  · exact Or.inr ⟨X, Y, e, r, Z, Zq, R, h1, h2, h3, h4, h5.more hn, h6, h7, h8⟩
theorem Pa.nil (w : World) (n : Nat) : Pa w (.pointer none) (.pointer none) (fun _ => False) n := ⟨fun _ f => f.elim, Or.inl ⟨rfl, rfl⟩⟩
theorem Pa.two {w : World} {X Y : Nat} {e : Ex} {r : Rx} {Z : Zz} {Zq : Zr} {R n : Nat} (h3 : ExAt w X e Z) (h4 : RxAt w Y r Zq) (h5 : Bok e r R n) (h8 : ∀ k, Ap X Z k → ¬ Ar Y Zq k) : Pa w (.pointer (some ⟨X, 0, none⟩)) (.pointer (some ⟨Y, 0, none⟩)) (fun k => Ap X Z k ∨ Ar Y Zq k) n := by
  refine ⟨fun k hb => ?_, Or.inr ⟨X, Y, e, r, Z, Zq, R, rfl, rfl, h3, h4, h5, fun k e => Or.inl e, fun k e => Or.inr e, h8⟩⟩
  rcases hb with hb | hb
  · obtain ⟨c, t, hc, q⟩ := Ap.kind h3 hb
    exact ⟨c, t, _, hc, by rcases q with q | q | q | q <;> simp [Kd, q]⟩
  · obtain ⟨c, t, hc, q⟩ := Ar.kind h4 hb
    exact ⟨c, t, _, hc, by rcases q with q | q | q | q <;> simp [Kd, q]⟩
/-- both have been called -/
theorem pa_next {w w1 w1' w2 : World} {X Y : Nat} {r r' : Rx} {e' : Ex} {Z Z' : Zz} {Zq Zq' : Zr} {R n' : Nat} {B : Nat → Prop} (h4 : RxAt w Y r Zq) (h6 : ∀ k, Ap X Z k → B k) (h7 : ∀ k, Ar Y Zq k → B k) (h8 : ∀ k, Ap X Z k → ¬ Ar Y Zq k) (l1 : Lv w w1 X Z e' Z') (hk : Kp w1 w1' non) (l2 : Lr w1' w2 Y Zq r' Zq') (h5 : Bok e' r' R n') :
    Pa w2 (.pointer (some ⟨X, 0, none⟩)) (.pointer (some ⟨Y, 0, none⟩)) (fun k => Ap X Z' k ∨ Ar Y Zq' k) n' ∧ ∀ k, (Ap X Z' k ∨ Ar Y Zq' k) → B k ∨ w.heap.size ≤ k := by
  have s1 := l1.kp.size
  have s2 := hk.size
  have x1 : ExAt w2 X e' Z' := (l1.at_.kp0 hk).kp l2.kp (fun k ha hf => by
    have hr := h4.lt (Fr.ar hf)
    rcases l1.gr k ha with g | g
    · exact h8 k g (Fr.ar hf)
    · omega)
  refine ⟨Pa.two x1 l2.at_ h5 (fun k ha hr => ?_), fun k hb => ?_⟩
  · rcases l2.gr k hr with g | g
    · have hr' := h4.lt g
      rcases l1.gr k ha with g' | g'
      · exact h8 k g' g
      · omega
    · have := l1.at_.lt ha
      omega
  · rcases hb with hb | hb
    · rcases l1.gr k hb with g | g
      · exact Or.inl (h6 k g)
      · exact Or.inr g
    · rcases l2.gr k hb with g | g
      · exact Or.inl (h7 k g)
      · exact Or.inr (by omega)
/-- what the two calls of a step answer -/
def Both (w : World) (B : Nat → Prop) (n : Nat) (own ref : Value) (f g : FuncId) (xs : Value → Array Value) : Prop :=
  ∃ (c : Int) (L : List Mg), L.length ≤ 1 ∧ Calls Tryd.prog f (xs own) w fun e w1 => ∃ u, e = .returned (.tuple #[u, .int .i64 c]) ∧ w1.ownsRow w.heap.size 36 11 u L.length (mgs L) ∧ Kp w w1 B ∧
    ∀ w1', Kp w1 w1' non → Calls Tryd.prog g (xs ref) w1' fun e w2 => ∃ u2 B2, e = .returned (.tuple #[u2, .int .i64 c]) ∧ w2.ownsRow w1'.heap.size 36 11 u2 L.length (mgs L) ∧ Kp w1' w2 B ∧ Pa w2 own ref B2 (n + 2) ∧ ∀ k, B2 k → B k ∨ w.heap.size ≤ k
theorem nil_mg (w : World) (b : Nat) : w.ownsRow b 36 11 (.slice none 0 0) ([] : List Mg).length (mgs []) := World.ownsRow_nil _ _ _ _
theorem both_begin {w : World} {own ref : Value} {B : Nat → Prop} {n : Nat} (h : Pa w own ref B n) (hn : n ≤ 999999999999) (vv : Int) : Both w B n own ref 28 29 (fun v => #[v, .int .i64 vv]) := by
  rcases h.st with ⟨rfl, rfl⟩ | ⟨X, Y, e, r, Z, Zq, R, rfl, rfl, h3, h4, h5, h6, h7, h8⟩
  · refine ⟨2, [], Nat.zero_le _, (Begin_xnil w vv).mono fun e w1 he => ?_⟩
    obtain ⟨rfl, k1⟩ := he
    subst k1
    refine ⟨_, rfl, nil_mg _ _, Kp.refl _ _, fun w1' hk => (begin_rnil w1' vv).mono fun e w2 he => ?_⟩
    obtain ⟨rfl, k2⟩ := he
    subst k2
    refine ⟨_, B, rfl, nil_mg _ _, Kp.refl _ _, ?_, fun k hb => Or.inl hb⟩
    exact (h.kp hk (fun _ _ f => f)).more (by omega)
  · obtain ⟨b, e1, e2⟩ := h5.beg vv
    refine ⟨begE e vv, begL e vv, by rw [e1]; exact begRL_one _ _, (Begin_x h3 h5.ok (by omega) vv).mono fun e0 w1 he => ?_⟩
    obtain ⟨u, Z', rfl, o1, l1⟩ := he
    refine ⟨u, rfl, o1, l1.kp.mono (fun k f => h6 k f.ap), fun w1' hk => ?_⟩
    have r1 : RxAt w1' Y r Zq := (h4.kp l1.kp (fun k ha hf => h8 k hf.ap ha)).kp0 hk
    refine (begin_r r1 h5.rok (by have := h5.jobs; omega) vv).mono fun e0 w2 he => ?_
    obtain ⟨u2, Zq', rfl, o2, l2⟩ := he
    obtain ⟨p1, p2⟩ := pa_next h4 h6 h7 h8 l1 hk l2 (b.more (show _ ≤ n + 2 by omega))
    rw [← e1] at o2
    rw [← e2]
    exact ⟨u2, _, rfl, o2, l2.kp.mono (fun k f => h7 k f.ar), p1, p2⟩
theorem both_tick {w : World} {own ref : Value} {B : Nat → Prop} {n : Nat} (h : Pa w own ref B n) (hn : n ≤ 999999999999) : Both w B n own ref 32 33 (fun v => #[v]) := by
  rcases h.st with ⟨rfl, rfl⟩ | ⟨X, Y, e, r, Z, Zq, R, rfl, rfl, h3, h4, h5, h6, h7, h8⟩
  · refine ⟨2, [], Nat.zero_le _, (Tick_xnil w).mono fun e w1 he => ?_⟩
    obtain ⟨rfl, k1⟩ := he
    subst k1
    refine ⟨_, rfl, nil_mg _ _, Kp.refl _ _, fun w1' hk => (tick_rnil w1').mono fun e w2 he => ?_⟩
    obtain ⟨rfl, k2⟩ := he
    subst k2
    refine ⟨_, B, rfl, nil_mg _ _, Kp.refl _ _, ?_, fun k hb => Or.inl hb⟩
    exact (h.kp hk (fun _ _ f => f)).more (by omega)
  · obtain ⟨b, e1⟩ := h5.tick
    refine ⟨0, tickL e, by rw [e1]; exact tickRL_one _, (Tick_x h3 h5.ok (by omega)).mono fun e0 w1 he => ?_⟩
    obtain ⟨u, Z', rfl, o1, l1⟩ := he
    refine ⟨u, rfl, o1, l1.kp.mono (fun k f => h6 k f.ap), fun w1' hk => ?_⟩
    have r1 : RxAt w1' Y r Zq := (h4.kp l1.kp (fun k ha hf => h8 k hf.ap ha)).kp0 hk
    refine (tick_r r1 h5.rok (by have := h5.now; omega) h5.wt h5.rjb).mono fun e0 w2 he => ?_
    obtain ⟨u2, Zq', rfl, o2, l2⟩ := he
    obtain ⟨p1, p2⟩ := pa_next h4 h6 h7 h8 l1 hk l2 (b.more (show _ ≤ n + 2 by omega))
    rw [← e1] at o2
    exact ⟨u2, _, rfl, o2, l2.kp.mono (fun k f => h7 k f.ar), p1, p2⟩
theorem both_take {w : World} {own ref : Value} {B : Nat → Prop} {n : Nat} (h : Pa w own ref B n) (_hn : n ≤ 999999999999) (m : Mg) (hm : MgFit m) : Both w B n own ref 30 31 (fun v => #[v, .agg (mgV m)]) := by
  rcases h.st with ⟨rfl, rfl⟩ | ⟨X, Y, e, r, Z, Zq, R, rfl, rfl, h3, h4, h5, h6, h7, h8⟩
  · refine ⟨2, [], Nat.zero_le _, (Take_xnil w m).mono fun e w1 he => ?_⟩
    obtain ⟨rfl, k1⟩ := he
    skip
    refine ⟨_, rfl, nil_mg _ _, k1.mono (fun _ f => f.elim), fun w1' hk => (take_rnil w1' m).mono fun e w2 he => ?_⟩
    obtain ⟨rfl, k2⟩ := he
    skip
    refine ⟨_, B, rfl, nil_mg _ _, k2.mono (fun _ f => f.elim), ?_, fun k hb => Or.inl hb⟩
    exact (h.kp ((k1.trans hk (fun _ f => f.elim)).trans k2 (fun _ f => f.elim)) (fun _ _ f => f)).more (by omega)
  · obtain ⟨b, e1⟩ := h5.take m
    refine ⟨0, takeL e m, by rw [e1]; exact takeRL_one _ _, (Take_x h3 h5.ok m hm.1 hm.2).mono fun e0 w1 he => ?_⟩
    obtain ⟨u, Z', rfl, o1, l1⟩ := he
    refine ⟨u, rfl, o1, l1.kp.mono (fun k f => h6 k f.ap), fun w1' hk => ?_⟩
    have r1 : RxAt w1' Y r Zq := (h4.kp l1.kp (fun k ha hf => h8 k hf.ap ha)).kp0 hk
    refine (take_r r1 h5.rok h5.rjb m (by have := h5.ob; omega)).mono fun e0 w2 he => ?_
    obtain ⟨u2, Zq', rfl, o2, l2⟩ := he
    obtain ⟨p1, p2⟩ := pa_next h4 h6 h7 h8 l1 hk l2 (b.more (show _ ≤ n + 2 by omega))
    rw [← e1] at o2
    exact ⟨u2, _, rfl, o2, l2.kp.mono (fun k f => h7 k f.ar), p1, p2⟩
/-- Busy of both -/
theorem both_busy {w : World} {own ref : Value} {B : Nat → Prop} {n : Nat} (h : Pa w own ref B n) : ∃ b : Bool, (∀ X, Kp w X non → Calls Tryd.prog 16 #[own] X fun e w' => e = .returned (.bool b) ∧ X = w') ∧ ∀ X, Kp w X non → Calls Tryd.prog 17 #[ref] X fun e w' => e = .returned (.bool b) ∧ X = w' := by
  rcases h.st with ⟨rfl, rfl⟩ | ⟨X, Y, e, r, Z, Zq, R, rfl, rfl, h3, h4, h5, h6, h7, h8⟩
  · exact ⟨false, fun X _ => Busy_xnil X, fun X _ => busy_rnil X⟩
  · refine ⟨busyB e, fun X hk => Busy_x (h3.kp0 hk) h5.ok.p1.1, fun X hk => ?_⟩
    rw [← h5.rel.on]
    exact busy_r (h4.kp0 hk).blk
/-- a report as it was handed out -/
structure RpAt (w w' : World) (rp : Rp) (u1 u2 : Value) : Prop where
  ps : w'.ownsRow w.heap.size 89 2 u1 rp.ps.length (prs rp.ps)
  ms : w'.ownsRow w.heap.size 3 1 u2 rp.ms.length (ints rp.ms)
theorem both_report {w : World} {own ref : Value} {B : Nat → Prop} {n : Nat} (h : Pa w own ref B n) : ∃ (rp : Rp) (c : Int), rp.ps.length ≤ 40000 ∧ rp.ms.length ≤ 1000 ∧ (∀ X, Kp w X non → Calls Tryd.prog 18 #[own] X fun e w' => ∃ u1 u2, e = .returned (.tuple #[.agg (toA rp u1 u2), .int .i64 c]) ∧ RpAt X w' rp u1 u2 ∧ Kp X w' non) ∧ ∀ X, Kp w X non → Calls Tryd.prog 19 #[ref] X fun e w' => ∃ u1 u2, e = .returned (.tuple #[.agg (toA rp u1 u2), .int .i64 c]) ∧ RpAt X w' rp u1 u2 ∧ Kp X w' non := by
  have RN : ∀ X w' : World, RpAt X w' rp0 nilV nilV := fun X w' => ⟨(World.ownsRow_nil _ _ _ _ : w'.ownsRow X.heap.size _ 2 (.slice none 0 0) 0 []), (World.ownsRow_nil _ _ _ _ : w'.ownsRow X.heap.size _ 1 (.slice none 0 0) 0 [])⟩
  rcases h.st with ⟨rfl, rfl⟩ | ⟨X, Y, e, r, Z, Zq, R, rfl, rfl, h3, h4, h5, h6, h7, h8⟩
  · exact ⟨rp0, 2, Nat.zero_le _, Nat.zero_le _, fun X _ => Report_xnil.mono fun e w' he => ⟨_, _, he.1, RN _ _, he.2⟩, fun X _ => (report_rnil X).mono fun e w' he => ⟨_, _, he.1, RN _ _, he.2⟩⟩
  · by_cases hj : e.last.jb = 0
    · have hen : r.en = false := by rw [h5.rel.en, hj]; rfl
      exact ⟨rp0, 151, Nat.zero_le _, Nat.zero_le _, fun X hk => (Report_xno (h3.kp0 hk) h5.ok.p1.1 hj).mono fun e w' he => ⟨_, _, he.1, RN _ _, he.2⟩, fun X hk => (report_rno (h4.kp0 hk) hen).mono fun e w' he => ⟨_, _, he.1, RN _ _, he.2⟩⟩
    · have hen : r.en = true := by rw [h5.rel.en]; simpa using hj
      have ll := h5.ok.ll
      have el := h5.rel.last
      refine ⟨e.last, 0, by omega, by omega, fun X hk => (Report_x (h3.kp0 hk) h5.ok.p1.1 hj ⟨by omega, by omega⟩).mono fun e0 w' he => ?_, fun X hk => (report_r (h4.kp0 hk) hen (by rw [el]; omega)).mono fun e0 w' he => ?_⟩
      · obtain ⟨u1, u2, rfl, a, b, c⟩ := he
        exact ⟨u1, u2, rfl, ⟨a, b⟩, c⟩
      · obtain ⟨u1, u2, rfl, a, b, c⟩ := he
        rw [el] at a b ⊢
        exact ⟨u1, u2, rfl, ⟨a, b⟩, c⟩
end Go.Proofs.YtpoegknmkbnjlaaDoor.Cn
namespace Go.Proofs.YtpoegknmkbnjlaaDoor.Cn
open Go.RowKit
/-- a desk in memory: the one at o of a row of two -/
structure Dk (w : World) (D o : Nat) (A : Array Value) (own ref sv : Value) (SL : List Mg) (B : Nat → Prop) (n : Nat) : Prop where
  blk : w.heap[D]? = some (.cells A 32)
  sz : A.size = 8
  oo : o = 0 ∨ o = 4
  c0 : A[o]? = some own
  c1 : A[o + 1]? = some ref
  c2 : A[o + 2]? = some sv
  pa : Pa w own ref B n
  sn : w.ownsRow 0 36 11 sv SL.length (mgs SL)
  sl : SL.length ≤ n
/-- what a call leaves -/
structure Dn (w w' : World) (D o : Nat) (A A' : Array Value) (B B' : Nat → Prop) (sv sv' : Value) : Prop where
  oth : ∀ j, (j < o ∨ o + 4 ≤ j) → A'[j]? = A[j]?
  kp : Kp w w' (fun k => k = D ∨ B k ∨ sv.ownBlock = some k)
  gb : ∀ k, B' k → B k ∨ w.heap.size ≤ k
  gs : ∀ k, sv'.ownBlock = some k → sv.ownBlock = some k ∨ w.heap.size ≤ k
theorem td_not : ¬ Kd 32 := by unfold Kd; decide
theorem ms_not : ¬ Kd 36 := by unfold Kd; decide
theorem Dk.dB {w : World} {D o : Nat} {A : Array Value} {own ref sv : Value} {SL : List Mg} {B : Nat → Prop} {n : Nat} (h : Dk w D o A own ref sv SL B n) : ¬ B D := h.pa.not h.blk td_not
theorem Dk.sB {w : World} {D o : Nat} {A : Array Value} {own ref sv : Value} {SL : List Mg} {B : Nat → Prop} {n : Nat} (h : Dk w D o A own ref sv SL B n) {k : Nat} (hk : sv.ownBlock = some k) : ¬ B k ∧ k ≠ D ∧ k < w.heap.size := by
  obtain ⟨c, hc⟩ := own_typ h.sn hk
  refine ⟨h.pa.not hc ms_not, fun e => ?_, blk_lt hc⟩
  rw [e, h.blk] at hc
  simp at hc
theorem Dk.kp0 {w w' : World} {D o : Nat} {A : Array Value} {own ref sv : Value} {SL : List Mg} {B : Nat → Prop} {n : Nat} (h : Dk w D o A own ref sv SL B n) (hk : Kp w w' non) : Dk w' D o A own ref sv SL B n :=
  ⟨hk.blk0 h.blk, h.sz, h.oo, h.c0, h.c1, h.c2, h.pa.kp hk (fun _ _ f => f), own_kp h.sn hk (fun _ _ f => f), h.sl⟩
theorem Dk.kp {w w' : World} {D o : Nat} {A : Array Value} {own ref sv : Value} {SL : List Mg} {B S : Nat → Prop} {n : Nat} (h : Dk w D o A own ref sv SL B n) (hk : Kp w w' S) (hD : ¬ S D) (hB : ∀ k, B k → ¬ S k) (hs : ∀ k, sv.ownBlock = some k → ¬ S k) : Dk w' D o A own ref sv SL B n :=
  ⟨(hk.block _ (blk_lt h.blk) hD).trans h.blk, h.sz, h.oo, h.c0, h.c1, h.c2, h.pa.kp hk hB, own_kp h.sn hk hs, h.sl⟩
theorem Dk.more {w : World} {D o : Nat} {A : Array Value} {own ref sv : Value} {SL : List Mg} {B : Nat → Prop} {n n' : Nat} (h : Dk w D o A own ref sv SL B n) (hn : n ≤ n') : Dk w D o A own ref sv SL B n' :=
  ⟨h.blk, h.sz, h.oo, h.c0, h.c1, h.c2, h.pa.more hn, h.sn, Nat.le_trans h.sl hn⟩
/-- Out is written -/
theorem Dk.out {w : World} {D o : Nat} {A : Array Value} {own ref sv : Value} {SL : List Mg} {B : Nat → Prop} {n : Nat} (h : Dk w D o A own ref sv SL B n) (u : Value) :
    Dk (w.setCell ⟨D, o + 3, none⟩ u) D o (A.setIfInBounds (o + 3) u) own ref sv SL B n ∧ Dn w (w.setCell ⟨D, o + 3, none⟩ u) D o A (A.setIfInBounds (o + 3) u) B B sv sv := by
  have k : Kp w (w.setCell ⟨D, o + 3, none⟩ u) (fun k => k = D) := (Kp.refl w (fun k => k = D)).set (Or.inl rfl) _ _
  have g : ∀ j, j ≠ o + 3 → (A.setIfInBounds (o + 3) u)[j]? = A[j]? := fun j hj => by rw [Array.getElem?_setIfInBounds_ne (by omega)]
  refine ⟨⟨set_row h.blk _ _, by simpa using h.sz, h.oo, by rw [g _ (by omega)]; exact h.c0, by rw [g _ (by omega)]; exact h.c1, by rw [g _ (by omega)]; exact h.c2, h.pa.kp k (fun q hq e => h.dB (e ▸ hq)), own_kp h.sn k (fun q hq e => (h.sB hq).2.1 e), h.sl⟩, fun j hj => g j (by omega), k.mono (fun _ e => Or.inl e), fun _ e => Or.inl e, fun _ e => Or.inl e⟩
/-- Sent has been grown and written -/
theorem Dk.grow {w w' : World} {D o : Nat} {A : Array Value} {own ref sv sv' : Value} {SL : List Mg} {B : Nat → Prop} {n : Nat} (h : Dk w D o A own ref sv SL B n) (m : Mg) (ho : w'.ownsRow 0 36 11 sv' (SL.length + 1) (mgs (SL ++ [m]))) (hg : w.grownBy w' sv.ownBlock) (hn : sv'.ownBlock = sv.ownBlock ∨ sv'.ownBlock = some w.heap.size) :
    w'.heap[D]? = some (.cells A 32) ∧ Dk (w'.setCell ⟨D, o + 2, none⟩ sv') D o (A.setIfInBounds (o + 2) sv') own ref sv' (SL ++ [m]) B (n + 1) ∧ Dn w (w'.setCell ⟨D, o + 2, none⟩ sv') D o A (A.setIfInBounds (o + 2) sv') B B sv sv' := by
  have kg := Kp.of_grown hg
  have b1 : w'.heap[D]? = some (.cells A 32) := (kg.block _ (blk_lt h.blk) (fun e => (h.sB e.symm).2.1 rfl)).trans h.blk
  have k : Kp w' (w'.setCell ⟨D, o + 2, none⟩ sv') (fun k => k = D) := (Kp.refl w' (fun k => k = D)).set (Or.inl rfl) _ _
  have kk : Kp w (w'.setCell ⟨D, o + 2, none⟩ sv') (fun k => k = D ∨ B k ∨ sv.ownBlock = some k) := (kg.mono (fun _ e => Or.inr (Or.inr e.symm))).trans k (fun _ e => Or.inl (Or.inl e))
  have kp2 : Kp w (w'.setCell ⟨D, o + 2, none⟩ sv') (fun k => k = D ∨ sv.ownBlock = some k) := (kg.mono (T := fun k => k = D ∨ sv.ownBlock = some k) (fun _ e => Or.inr e.symm)).trans k (fun _ e => Or.inl (Or.inl e))
  have g : ∀ j, j ≠ o + 2 → (A.setIfInBounds (o + 2) sv')[j]? = A[j]? := fun j hj => by rw [Array.getElem?_setIfInBounds_ne (by omega)]
  have hsz : o + 2 < A.size := by rw [h.sz]; rcases h.oo with e | e <;> omega
  have nD : ∀ q, sv'.ownBlock = some q → q ≠ D := fun q hq e => by
    obtain ⟨c, hc⟩ := own_typ ho hq
    rw [e, b1] at hc
    simp at hc
  refine ⟨b1, ⟨set_row b1 _ _, by simpa using h.sz, h.oo, by rw [g _ (by omega)]; exact h.c0, by rw [g _ (by omega)]; exact h.c1, ?_, (h.pa.kp kp2 (fun q hq e => ?_)).more (Nat.le_succ _), ?_, ?_⟩, fun j hj => g j (by omega), kk, fun _ e => Or.inl e, fun q hq => ?_⟩
  · rw [Array.getElem?_setIfInBounds_self_of_lt hsz]
  · rcases e with e | e
    · exact h.dB (e ▸ hq)
    · exact (h.sB e).1 hq
  · rw [List.length_append, List.length_singleton]
    exact own_kp ho k (fun q hq e => nD q hq e)
  · rw [List.length_append, List.length_singleton]
    have := h.sl
    omega
  · rcases hn with e | e
    · exact Or.inl (by rw [← e]; exact hq)
    · rw [e] at hq
      injection hq with hq
      exact Or.inr (by omega)
theorem Dn.trans {w w1 w2 : World} {D o : Nat} {A A1 A2 : Array Value} {B B1 B2 : Nat → Prop} {sv s1 s2 : Value} (h : Dn w w1 D o A A1 B B1 sv s1) (h' : Dn w1 w2 D o A1 A2 B1 B2 s1 s2) : Dn w w2 D o A A2 B B2 sv s2 := by
  have sz := h.kp.size
  refine ⟨fun j hj => (h'.oth j hj).trans (h.oth j hj), h.kp.trans h'.kp (fun k e => ?_), fun k e => ?_, fun k e => ?_⟩
  · rcases e with e | e | e
    · exact Or.inl (Or.inl e)
    · rcases h.gb k e with q | q
      · exact Or.inl (Or.inr (Or.inl q))
      · exact Or.inr q
    · rcases h.gs k e with q | q
      · exact Or.inl (Or.inr (Or.inr q))
      · exact Or.inr q
  · rcases h'.gb k e with q | q
    · exact h.gb k q
    · exact Or.inr (by omega)
  · rcases h'.gs k e with q | q
    · exact h.gs k q
    · exact Or.inr (by omega)
theorem Dn.same {w w' : World} {D o : Nat} {A : Array Value} {B : Nat → Prop} {sv : Value} (hk : Kp w w' non) : Dn w w' D o A A B B sv sv := ⟨fun _ _ => rfl, hk.mono (fun _ f => f.elim), fun _ e => Or.inl e, fun _ e => Or.inl e⟩
theorem Dn.kp0 {w w1 w2 : World} {D o : Nat} {A A1 : Array Value} {B B1 : Nat → Prop} {sv s1 : Value} (h : Dn w w1 D o A A1 B B1 sv s1) (hk : Kp w1 w2 non) : Dn w w2 D o A A1 B B1 sv s1 := h.trans (Dn.same hk)
/-- both exporters have been called -/
theorem Dk.pair {w w' : World} {D o : Nat} {A : Array Value} {own ref sv : Value} {SL : List Mg} {B B' : Nat → Prop} {n n' : Nat} (h : Dk w D o A own ref sv SL B n) (hk : Kp w w' B) (hp : Pa w' own ref B' n') (hg : ∀ k, B' k → B k ∨ w.heap.size ≤ k) (hn : n ≤ n') : Dk w' D o A own ref sv SL B' n' ∧ Dn w w' D o A A B B' sv sv :=
  ⟨⟨(hk.block _ (blk_lt h.blk) h.dB).trans h.blk, h.sz, h.oo, h.c0, h.c1, h.c2, hp, own_kp h.sn hk (fun _ e => (h.sB e).1), Nat.le_trans h.sl hn⟩, fun _ _ => rfl, hk.mono (fun _ e => Or.inr (Or.inl e)), hg, fun _ e => Or.inl e⟩
end Go.Proofs.YtpoegknmkbnjlaaDoor.Cn
