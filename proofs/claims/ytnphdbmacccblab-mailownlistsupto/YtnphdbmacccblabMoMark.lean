import Derived.Test.YtnphdbmacccblabMoHeld
namespace Go.Proofs.Ytnphdbmacccblab
open Go.RowKit
theorem lt_cell {w : World} {G : Nat} {X : List Lt} {t : TypeId} {fr : Nat × Nat} (h : w.heap[G]? = some (.cells (ltc X).toArray t fr)) : (∀ j u, (ltc X)[j]? = some u → w.cell? ⟨G, j, none⟩ = some u) ∧ ∀ (q : Nat) (hq : q < X.length), w.cell? ⟨G, q * 4, none⟩ = some (.int .i64 X[q].id) ∧ w.cell? ⟨G, q * 4 + 1, none⟩ = some (.int .i64 X[q].fr) ∧ w.cell? ⟨G, q * 4 + 2, none⟩ = some (.int .i64 X[q].td) ∧ w.cell? ⟨G, q * 4 + 3, none⟩ = some (.string X[q].tx) := by
  have cell : ∀ j u, (ltc X)[j]? = some u → w.cell? ⟨G, j, none⟩ = some u := fun j u hu => by
    unfold World.cell?
    rw [h]
    simpa using hu
  refine ⟨cell, fun q hq => ?_⟩
  obtain ⟨e1, e2, e3, e4⟩ := ltc_at X q hq
  exact ⟨cell _ _ e1, cell _ _ e2, cell _ _ e3, cell _ _ e4⟩
theorem lt_fz {w : World} {G : Nat} {c : Array Value} {t : TypeId} (h : w.heap[G]? = some (.cells c t)) (j : Nat) : w.frozen? ⟨G, j, none⟩ = false := by
  unfold World.frozen?
  rw [h]
  simp
/-- letters that fill their block, or nothing -/
def Lz (w : World) (sa : Option Addr) (L : List Lt) : Prop := (sa = none ∧ L = []) ∨ ∃ G, sa = some ⟨G, 0, none⟩ ∧ LsAt w G L
def Sa (sa : Option Addr) (k : Nat) : Prop := sa = some ⟨k, 0, none⟩
theorem Lz.kp {w w' : World} {S : Nat → Prop} {sa : Option Addr} {L : List Lt} (h : Lz w sa L) (hk : Kp w w' S) (hd : ∀ k, Sa sa k → ¬ S k) : Lz w' sa L := by
  rcases h with h | ⟨G, h0, h1⟩
  · exact Or.inl h
  · exact Or.inr ⟨G, h0, (hk.block G (blk_lt h1) (hd G h0)).trans h1⟩
theorem Lz.sb {w : World} {sa : Option Addr} {L : List Lt} (h : Lz w sa L) : ∀ k, Sa sa k → k < w.heap.size := fun k e => by
  rcases h with ⟨h, _⟩ | ⟨G, h0, h1⟩
  · unfold Sa at e
    rw [h] at e
    cases e
  · unfold Sa at e
    rw [h0] at e
    cases e
    exact blk_lt h1
theorem Lz.ls {w : World} {T : Nat → Prop} {sa : Option Addr} {L : List Lt} (h : Lz w sa L) (hT : ∀ k, Sa sa k → T k) : Ls w T (.slice sa L.length L.length) L := by
  rcases h with ⟨rfl, rfl⟩ | ⟨G, rfl, h1⟩
  · exact Or.inl ⟨rfl, rfl⟩
  · exact Or.inr ⟨G, rfl, h1, hT G rfl⟩
theorem run_appLz (w : World) (sa : Option Addr) (L : List Lt) (m c : Nat) (ty : TypeId) (news : List Value) (h : Lz w sa L) (a : Addr) (hl : news.length = m * 4) (hnews : ∀ j v, news[j]? = some v → w.cell? (a.add j) = some v) (h1 : ∀ u ∈ news, u.oneCell' = true) (hm : 0 < m) (hsm : L.length + m ≤ 1000000) :
    ∃ v' w', (Builtin.append_ #[36, 36] ty #[.slice sa L.length L.length, .slice (some a) m c]).run Try.prog w = .ok v' w' ∧ w'.ownsRow 0 53 4 v' (L.length + m) (ltc L ++ news) ∧ Below w.heap.size w w' ∧ v'.ownBlock = some w.heap.size := by
  obtain ⟨i0, hi, hz0, hz1, hz2⟩ := info_parts4 infoLt
  rcases h with ⟨rfl, rfl⟩ | ⟨G, rfl, hb⟩
  · obtain ⟨v', w', hr, e1, e2, _, e4⟩ := run_append_own_at (P := Try.prog) w 0 36 ty 53 i0 _ 4 40 Try.underlying36 hi hz0 hz1 hz2 rfl (by decide) (.slice none 0 0) 0 [] (World.ownsRow_nil _ _ _ _) a m c news hl hnews h1 (by unfold maxLen; omega) (by simp at hsm; omega) (Nat.zero_le _)
    refine ⟨v', w', hr, e1, ⟨e2.os, e2.tape, e2.output, e2.size, fun k hk => e2.block k hk (by simp [Value.ownBlock])⟩, ?_⟩
    rcases e4 with e4 | e4
    · obtain ⟨g, cap, rfl⟩ := own_g e1 (by omega)
      simp [Value.ownBlock] at e4
    · exact e4
  · have cell := (lt_cell hb).1
    have hr := run_append_grow (P := Try.prog) w 36 ty 53 i0 _ Try.underlying36 hi hz0 ⟨G, 0, none⟩ L.length L.length (ltc L) (by rw [hz1, ltc_len]) (fun j v hv => by rw [Addr.add_mid, Nat.zero_add]; exact cell j v hv) a m c news (by rw [hz1]; exact hl) hnews (by omega) (by omega) (growslice_fits (by omega) (by rw [hz2]; omega))
    have g1 := grownCap_ge w (L.length + m) L.length 53
    have g2 := grownCap_le_maxLen w (L.length + m) L.length 53 (by unfold maxLen; omega)
    refine ⟨_, _, hr, ⟨by rw [List.length_append, ltc_len, hl]; omega, .inr ⟨w.heap.size, grownCap w (L.length + m) L.length 53, _, rfl, Nat.zero_le _, heap_alloc_new w.drew _, g1, g2, ?_, ?_⟩⟩, ((Below.refl _ w).drew).alloc (Nat.le_refl _) _, rfl⟩
    · simp only [Array.size_append, List.size_toArray, size_zeroCells, ltc_len, hl]
      rw [show (Value.agg #[.int .i64 0, .int .i64 0, .int .i64 0, .string ⟨#[]⟩]).cells.size = 4 from rfl]
      omega
    · simp only [Array.toList_append, List.append_assoc]
      rw [← List.append_assoc, show (L.length + m) * 4 = (ltc L ++ news).length by rw [List.length_append, ltc_len, hl]; omega]
      exact List.take_left
theorem wpList_appLz {w : World} {ops : Array Oper} {rest : List Oper} {o : Oper} {a : Act} {Q : Exit → Act → World → Prop} (hgd : o.guard = none) (sl x : Operand)
    (ho : o.op = .call { callee := .builtin .append, args := #[sl, x], argTypes := #[36, 36] })
    (sa : Option Addr) (L : List Lt) (n m c : Nat) (hn : n = L.length) (news : List Value) (ad : Addr) (hs : a.eval sl = .slice sa n n) (hx : a.eval x = .slice (some ad) m c) (hz : Lz w sa L) (hl : news.length = m * 4) (hnews : ∀ j v, news[j]? = some v → w.cell? (ad.add j) = some v) (h1 : ∀ u ∈ news, u.oneCell' = true) (hm : 0 < m) (hsm : L.length + m ≤ 1000000)
    (h : ∀ v' w', w'.ownsRow 0 53 4 v' (n + m) (ltc L ++ news) → Below w.heap.size w w' → v'.ownBlock = some w.heap.size → wpList Try.prog ops Q rest (a.put o.dst v') w') : wpList Try.prog ops Q (o :: rest) a w := by
  subst hn
  refine wpList_plain hgd fun K hK => ?_
  obtain ⟨v', w', hr, h2, h3, h4⟩ := run_appLz w sa L m c o.type news hz ad hl hnews h1 hm hsm
  unfold Oper.wp execOp
  simp only [ho, resolve, invoke, builtin, Sem.run_bind, Sem.run_pure, Result.andThen_ok, List.map_toArray, List.map_cons, List.map_nil, hs, hx, hr]
  exact hK _ _ (h v' w' h2 h3 h4)
/-- sixty-four letters of nothing -/
def mor : Array Value := (ltc (List.replicate 64 noL)).toArray
theorem zeroM (w : World) : (zeroValue 58).run Try.prog w = .ok (.agg mor) w := by kernel_rfl
/-- the world while it is marked -/
structure Mk (w wr : World) (I : Nat) (sa : Option Addr) (X : List Lt) : Prop where
  lz : Lz wr sa X
  bi : wr.heap[I]? = some (.cells #[.slice none 0 0, .slice none 0 0, .slice none 0 0, .slice none 0 0] 40)
  kp : Kp w wr (Sa sa)
theorem Mk.below {w wr w' : World} {I : Nat} {sa : Option Addr} {X : List Lt} (h : Mk w wr I sa X) (hb : Below wr.heap.size wr w') : Mk w w' I sa X := ⟨h.lz.kp (Kp.of_below hb non) (fun _ _ f => f), (hb.block I (blk_lt h.bi)).trans h.bi, h.kp.trans (Kp.of_below hb (Sa sa)) (fun _ e => Or.inl e)⟩
set_option maxHeartbeats 8000000 in
set_option maxRecDepth 100000 in
set_option linter.unusedSimpArgs false in
set_option linter.unusedVariables false in
theorem marked_any {w : World} {sa : Option Addr} {n : Nat} {L : List Lt} (h : Lz w sa L) (hn : L.length = n) (hL : n ≤ 1024) (mark : Int) (h1 : -9223372036854775807 ≤ mark) (h2 : mark < 9223372036854775808) :
    Calls Try.prog 10 #[.slice sa n n, .int .i64 mark] w fun e w' => ∃ x : Hd, e = .returned (.agg #[x.vL, x.vM, x.vP, x.vQ]) ∧ x.vL = .slice sa n n ∧ HdAt w' (fun k => Sa sa k ∨ w.heap.size ≤ k ∧ k < w'.heap.size) x ∧ Kp w w' (Sa sa) := by
  obtain ⟨W0, hW0⟩ : ∃ W0, W0 = w.alloc (.cells #[.slice none 0 0, .slice none 0 0, .slice none 0 0, .slice none 0 0] 40) := ⟨_, rfl⟩
  obtain ⟨I, hI⟩ : ∃ I, I = w.heap.size := ⟨_, rfl⟩
  have HI : Hid (I = w.heap.size ∧ ∀ k, Sa sa k → k < w.heap.size) := ⟨hI, h.sb⟩
  have L0 : Hid (∃ X, X.length = n ∧ Mk w W0 I sa X) := by
    subst hW0
    subst hI
    exact ⟨L, hn, h.kp (Kp.of_below ((Below.refl _ w).alloc (Nat.le_refl _) _) non) (fun _ _ f => f), heap_last w _, (Kp.refl w _).alloc _⟩
  have hmk : wrap64 (-mark) = -mark := wrap_in (by omega) (by omega)
  clear h hn
  go_enter Try.func10, Try.ntmps10
  go_upto_region 1 with fail
  rw [← hW0, ← hI]
  clear hW0 hI
  go_wp2_with fail
  go_loopw [5] (fun vi wr => ∃ (q : Nat) (X : List Lt), q ≤ n ∧ vi = .int .i64 (q : Int) ∧ X.length = n ∧ Mk w wr I sa X) (fun vi _ => n - (intOf vi).toNat)
  case atStart =>
    obtain ⟨X, x1, x2⟩ := L0.out
    exact ⟨0, X, Nat.zero_le _, rfl, x1, x2⟩
  case round =>
    clear L0
    obtain ⟨q, X, hq, rfl, hX, mk⟩ := hrel
    have MK := hide mk
    clear mk
    by_cases hqn : q < n
    case pos =>
      have hqi : (q : Int) < (n : Int) := by omega
      obtain ⟨G, hG, la⟩ : ∃ G, sa = some ⟨G, 0, none⟩ ∧ LsAt wr G X := by
        rcases MK.out.lz with ⟨_, hx⟩ | hx
        · rw [hx] at hX
          simp at hX
          omega
        · exact hx
      subst hG
      obtain ⟨x0, x1, x2, x3⟩ := (lt_cell la).2 q (by omega)
      have z0 := lt_fz la (q * 4)
      have z1 := lt_fz la (q * 4 + 1)
      have z2 := lt_fz la (q * 4 + 2)
      have z3 := lt_fz la (q * 4 + 3)
      have P4 : Hid (LsAt (put4 wr G q (.int .i64 (-mark)) (.int .i64 (q : Int)) (.int .i64 0) (.string ⟨#[35]⟩)) G (X.set q ⟨-mark, q, 0, ⟨#[35]⟩⟩)) := put4_lt la q ⟨-mark, q, 0, ⟨#[35]⟩⟩
      have K4 := hide (put4_kp wr G q (.int .i64 (-mark)) (.int .i64 (q : Int)) (.int .i64 0) (.string ⟨#[35]⟩))
      have B4 : Hid (Mk w (put4 wr G q (.int .i64 (-mark)) (.int .i64 (q : Int)) (.int .i64 0) (.string ⟨#[35]⟩)) I (some ⟨G, 0, none⟩) (X.set q ⟨-mark, q, 0, ⟨#[35]⟩⟩)) := by
        have hIG : I ≠ G := fun e => by have h1 := HI.out.2 G rfl; have h2 := HI.out.1; omega
        exact ⟨Or.inr ⟨G, rfl, P4.out⟩, (K4.out.block I (blk_lt MK.out.bi) hIG).trans MK.out.bi, MK.out.kp.trans K4.out (fun k e => Or.inl (by rw [e]; rfl))⟩
      clear la
      go_wp2_with fail
      go_roundw
      case rel => exact ⟨q + 1, X.set q ⟨-mark, q, 0, ⟨#[35]⟩⟩, by omega, by go_num, by rw [List.length_set]; exact hX, B4.out⟩
      case measure => simp [intOf]; omega
    case neg =>
      obtain rfl : n = q := by omega
      clear hqn
      have hZ := zeroM wr
      obtain ⟨W1, hW1⟩ : ∃ W1, W1 = wr.alloc (.cells mor 58) := ⟨_, rfl⟩
      obtain ⟨A, hA⟩ : ∃ A, A = wr.heap.size := ⟨_, rfl⟩
      have M1 : Hid (Mk w W1 I sa X ∧ (∃ Y : List Lt, Y.length = 64 ∧ W1.heap[A]? = some (.cells (ltc Y).toArray 58)) ∧ I < A ∧ ∀ k, Sa sa k → k < A) := by
        have h2 := HI.out
        have h3 := MK.out.kp.size
        have h4 := blk_lt MK.out.bi
        subst hW1
        subst hA
        exact ⟨MK.out.below ((Below.refl _ wr).alloc (Nat.le_refl _) _), ⟨List.replicate 64 noL, by simp, heap_last wr _⟩, h4, fun k e => Nat.lt_of_lt_of_le (h2.2 k e) h3⟩
      go_upto_region 6 with fail
      rw [← hW1, ← hA]
      clear hW1 hA hZ MK
      go_wp2_with fail
      go_loopw [7] (fun vi wr => ∃ (q : Nat) (Y : List Lt), q ≤ 64 ∧ vi = .int .i64 (q : Int) ∧ Y.length = 64 ∧ Mk w wr I sa X ∧ wr.heap[A]? = some (.cells (ltc Y).toArray 58)) (fun vi _ => 64 - (intOf vi).toNat)
      case atStart =>
        obtain ⟨x1, ⟨Y, x2, x3⟩, _⟩ := M1.out
        exact ⟨0, Y, Nat.zero_le _, rfl, x2, x1, x3⟩
      case round =>
        have MA : Hid (I < A ∧ ∀ k, Sa sa k → k < A) := M1.out.2.2
        clear M1
        obtain ⟨q, Y, hq, rfl, hY, mk, ya⟩ := hrel
        have MK := hide mk
        have YA := hide ya
        clear mk ya
        by_cases hqn : q < 64
        case pos =>
          have hqi : (q : Int) < 64 := by omega
          obtain ⟨x0, x1, x2, x3⟩ := (lt_cell YA.out).2 q (by omega)
          have z0 := lt_fz YA.out (q * 4)
          have z1 := lt_fz YA.out (q * 4 + 1)
          have z2 := lt_fz YA.out (q * 4 + 2)
          have z3 := lt_fz YA.out (q * 4 + 3)
          have hmq : wrap64 (-(q : Int)) = -(q : Int) := wrap_in (by omega) (by omega)
          have P4 : Hid ((put4 wr A q (.int .i64 (-mark)) (.int .i64 0) (.int .i64 (-(q : Int))) (.string ⟨#[35, 35]⟩)).heap[A]? = some (.cells (ltc (Y.set q ⟨-mark, 0, -(q : Int), ⟨#[35, 35]⟩⟩)).toArray 58)) := put4_lt YA.out q ⟨-mark, 0, -(q : Int), ⟨#[35, 35]⟩⟩
          have B4 : Hid (Mk w (put4 wr A q (.int .i64 (-mark)) (.int .i64 0) (.int .i64 (-(q : Int))) (.string ⟨#[35, 35]⟩)) I sa X) := by
            have K4 := put4_kp wr A q (.int .i64 (-mark)) (.int .i64 0) (.int .i64 (-(q : Int))) (.string ⟨#[35, 35]⟩)
            have h2 := MA.out
            exact ⟨MK.out.lz.kp K4 (fun k e f => by have := h2.2 k e; omega), (K4.block I (blk_lt MK.out.bi) (by omega)).trans MK.out.bi, MK.out.kp.trans K4 (fun k e => Or.inr (by have := HI.out.1; omega))⟩
          go_wp2_with fail
          go_roundw
          case rel => exact ⟨q + 1, _, by omega, by go_num, by rw [List.length_set]; exact hY, B4.out, P4.out⟩
          case measure => simp [intOf]; omega
        case neg =>
          obtain rfl : q = 64 := by omega
          clear hqn
          have AW := blk_lt YA.out
          go_wp2_with (at_builtin; refine wpList_appLz rfl _ _ rfl sa X _ 64 64 hX.symm (ltc Y) ⟨A, 0, none⟩ rfl rfl MK.out.lz (by rw [ltc_len, hY]) (fun j v hv => by rw [Addr.add_mid, Nat.zero_add]; exact (lt_cell YA.out).1 j v hv) (ltc_one _) (by omega) (by omega) ?_; intro v2 w2 o2 b2 n2; obtain ⟨g2, cap2, hv2⟩ := own_g o2 (by omega); subst hv2)
          have M2 := hide (MK.out.below b2)
          have hM : (X ++ Y).length = n + 64 := by rw [List.length_append, hX, hY]
          have R2 : Hid (Rw w2 (fun k => k = wr.heap.size) (.slice (some ⟨g2, 0, none⟩) (n + 64) cap2) (X ++ Y)) := ⟨by rw [hM, ltc_append]; exact o2, fun k e => by rw [n2] at e; exact (Option.some.inj e).symm⟩
          have S2 : Hid (I < wr.heap.size ∧ wr.heap.size < w2.heap.size) := ⟨by have := MA.out.1; omega, by obtain ⟨cur, hc⟩ := own_blk o2 n2; exact blk_lt hc⟩
          have LE1 := letters_any ((M2.out.lz.ls (T := fun _ => True) (fun _ _ => trivial)).ll) (by omega)
          rw [hX] at LE1
          have LE1 := hide LE1
          clear o2 b2 n2 AW MK YA
          go_wp2_with fail
          refine Calls.mono LE1.out ?_
          rintro e w3 ⟨v3, rfl, o3, b3⟩
          have M3 := hide (M2.out.below b3)
          have R3 := hide (R2.out.kp (Kp.of_below b3 non) (fun _ _ f => f))
          have P3 : Hid (Rw w3 (fun k => w2.heap.size ≤ k ∧ k < w3.heap.size) v3 X) := Rw.of (by rw [hX]; exact o3) (fun k h1 h2 => ⟨h1, h2⟩)
          have S3 : Hid (w2.heap.size ≤ w3.heap.size) := b3.size
          have LE2 := hide (letters_any R3.out.ll (by omega))
          clear o3 b3 M2 R2 LE1
          obtain ⟨b3, c3, hv3⟩ : ∃ b3 c3, v3 = .slice b3 n c3 := by obtain ⟨b3, c3, e3⟩ := own_sl P3.out.1; exact ⟨b3, c3, by rw [e3, hX]⟩
          subst hv3
          go_wp2_with fail
          refine Calls.mono LE2.out ?_
          rintro e w4 ⟨v4, rfl, o4, b4⟩
          have M4 := hide (M3.out.below b4)
          have R4 := hide (R3.out.kp (Kp.of_below b4 non) (fun _ _ f => f))
          have P4 := hide (P3.out.kp (Kp.of_below b4 non) (fun _ _ f => f))
          have Q4 : Hid (Rw w4 (fun k => w3.heap.size ≤ k ∧ k < w4.heap.size) v4 (X ++ Y)) := Rw.of o4 (fun k h1 h2 => ⟨h1, h2⟩)
          have S4 : Hid (w3.heap.size ≤ w4.heap.size) := b4.size
          clear o4 b4 M3 R3 P3 LE2
          obtain ⟨b4, c4, hv4⟩ : ∃ b4 c4, v4 = .slice b4 (n + 64) c4 := by obtain ⟨b4, c4, e4⟩ := own_sl Q4.out.1; exact ⟨b4, c4, by rw [e4, hM]⟩
          subst hv4
          have i0 : w4.cell? ⟨I, 0, none⟩ = some (.slice none 0 0) := by unfold World.cell?; rw [M4.out.bi]; rfl
          have i1 : w4.cell? ⟨I, 1, none⟩ = some (.slice none 0 0) := by unfold World.cell?; rw [M4.out.bi]; rfl
          have i2 : w4.cell? ⟨I, 2, none⟩ = some (.slice none 0 0) := by unfold World.cell?; rw [M4.out.bi]; rfl
          have i3 : w4.cell? ⟨I, 3, none⟩ = some (.slice none 0 0) := by unfold World.cell?; rw [M4.out.bi]; rfl
          have z0 := lt_fz M4.out.bi 0
          have z1 := lt_fz M4.out.bi 1
          have z2 := lt_fz M4.out.bi 2
          have z3 := lt_fz M4.out.bi 3
          have Z : Hid (∀ W5, W5.heap.size = w4.heap.size → Kp w4 W5 (fun k => k = I) → HdAt W5 (fun k => Sa sa k ∨ w.heap.size ≤ k ∧ k < W5.heap.size) ⟨.slice sa n n, .slice (some ⟨g2, 0, none⟩) (n + 64) cap2, .slice b3 n c3, .slice b4 (n + 64) c4, X, X ++ Y⟩ ∧ Kp w W5 (Sa sa)) := by
            intro W5 hs5 k5
            have h1 := HI.out
            have h2 := S2.out
            have h3 := S3.out
            have h4 := S4.out
            have A4 : HdAt w4 (fun k => Sa sa k ∨ I < k ∧ k < w4.heap.size) ⟨.slice sa n n, .slice (some ⟨g2, 0, none⟩) (n + 64) cap2, .slice b3 n c3, .slice b4 (n + 64) c4, X, X ++ Y⟩ := by
              refine ⟨?_, R4.out.mono (fun k e => Or.inr (by omega)), P4.out.mono (fun k e => Or.inr (by omega)), Q4.out.mono (fun k e => Or.inr (by omega)), by show X.length ≤ 1024; omega, by show (X ++ Y).length ≤ 1088; omega⟩
              have := M4.out.lz.ls (T := fun k => Sa sa k ∨ I < k ∧ k < w4.heap.size) (fun k e => Or.inl e)
              rw [hX] at this
              exact this
            refine ⟨(A4.kp k5 (fun k e f => ?_)).mono (fun k e => ?_), M4.out.kp.trans k5 (fun k e => Or.inr (by omega))⟩
            · rcases e with e | e
              · have := h1.2 k e
                omega
              · omega
            · rcases e with e | e
              · exact Or.inl e
              · exact Or.inr (by omega)
          have KI := hide (put4_kp w4 I 0 (.slice sa n n) (.slice (some ⟨g2, 0, none⟩) (n + 64) cap2) (.slice b3 n c3) (.slice b4 (n + 64) c4))
          have B5 : Hid ((put4 w4 I 0 (.slice sa n n) (.slice (some ⟨g2, 0, none⟩) (n + 64) cap2) (.slice b3 n c3) (.slice b4 (n + 64) c4)).heap[I]? = some (.cells #[.slice sa n n, .slice (some ⟨g2, 0, none⟩) (n + 64) cap2, .slice b3 n c3, .slice b4 (n + 64) c4] 40)) := by
            have := heap_setCell _ I 3 (.slice b4 (n + 64) c4) _ _ _ (heap_setCell _ I 2 (.slice b3 n c3) _ _ _ (heap_setCell _ I 1 (.slice (some ⟨g2, 0, none⟩) (n + 64) cap2) _ _ _ (heap_setCell _ I 0 (.slice sa n n) _ _ _ M4.out.bi)))
            exact this
          clear M4 R4 P4 Q4 S2 S3 S4
          go_wp2_with fail
          refine bodyPost_ret (v := .agg #[.slice sa n n, .slice (some ⟨g2, 0, none⟩) (n + 64) cap2, .slice b3 n c3, .slice b4 (n + 64) c4]) (results_cell_row rfl _ _ I 40 _ (0, 0) _ rfl B5.out Try.underlying40 rfl (by kernel_rfl)) rfl ?_
          obtain ⟨q1, q2⟩ := Z.out (put4 w4 I 0 (.slice sa n n) (.slice (some ⟨g2, 0, none⟩) (n + 64) cap2) (.slice b3 n c3) (.slice b4 (n + 64) c4)) (by unfold put4; simp only [World.size_setCell]) KI.out
          exact ⟨⟨.slice sa n n, .slice (some ⟨g2, 0, none⟩) (n + 64) cap2, .slice b3 n c3, .slice b4 (n + 64) c4, X, X ++ Y⟩, rfl, rfl, q1, q2⟩
end Go.Proofs.Ytnphdbmacccblab
